import Derived.Test.YtfoifmacobldbaaGreatDoorPG
set_option maxRecDepth 100000
set_option maxHeartbeats 4000000
namespace Go.Proofs.YtfoifmacobldbaaGreatDoor.Kit
open Go.RowKit Go.Shelf Go.Deep
set_option linter.unusedVariables false
set_option linter.unusedSimpArgs false
/-! ### takes 99 -/
theorem drop_ba (s : ByteArray) (a : Nat) : (s.extract a s.size).data.toList = s.data.toList.drop a := by
  simp [List.extract]
  rw [List.take_of_length_le (by simp)]
theorem takes99 (p : Nat) (s piece : ByteArray) (b : Bool) (W : World) (a : Nat) (er : Int) (hR : Rd W p s a er) (hp : piece.size ≤ 1000) (hb : piece.data.toList.isPrefixOf (s.data.toList.drop a) = b) : Calls Tryz.prog 99 #[.pointer (some ⟨p, 0, none⟩), .string piece] W fun e W' => e = .returned (.bool b) ∧ Keeps W W' (fun z => z = p) ∧ Rd W' p s (if b then a + piece.size else a) er := by
  have HP : Hid (∀ w, Calls Tryz.prog 121 #[.string (s.extract a s.size), .string piece] w fun e w' => e = .returned (.bool b) ∧ w' = w) := fun w => by
    have h := prefix121 (s.extract a s.size) piece (by have := hR.len; simp [ByteArray.size_extract]; omega) (by omega) w
    rw [drop_ba, hb] at h
    exact h
  have HL : Hid (b = true → a + piece.size ≤ s.size) := fun e => by
    rw [e, List.isPrefixOf_iff_prefix] at hb
    have := hb.length_le
    simp at this
    have := hR.pos
    omega
  have HR := hidM hR
  have d0 := hR.cells.1
  have d1 := hR.cells.2.1
  have z1 := hR.frz.1
  have hal : a ≤ 65536 := Nat.le_trans hR.pos hR.len
  have hsl := hR.len
  have hap := hR.pos
  have HS0 : Hid (Gr W W.drew) ∧ W.drew.cell? ⟨p, 0, none⟩ = some (.string s) ∧ W.drew.cell? ⟨p, 1, none⟩ = some (.int .i64 (a : Int)) := ⟨gr_drew, d0, d1⟩
  clear hR hb
  go_enter Tryz.func99, Tryz.ntmps99
  go_wp2_with fail
  refine wp_region_held_drew (S := fun w' => Hid (Gr W w') ∧ w'.cell? ⟨p, 0, none⟩ = some (.string s) ∧ w'.cell? ⟨p, 1, none⟩ = some (.int .i64 (a : Int))) (by kernel_rfl) (HS0) (fun hHeld => ?_)
  refine wpAnyH_take (i := 0) (oi := { dst := some 5, op := Op.move (Operand.tmp 0), type := 61, pos := "parse.go:113", after := #[], guard := none }) (v := ?v0u1) rfl (by kernel_rfl) (by kernel_rfl) (by kernel_rfl) (fun _ _ _ h => h) (Or.inl ⟨by rfl, ?y0u1⟩) (by assumption) ?r0u1
  case y0u1 => (intro w hSw; obtain ⟨hg, d0, d1⟩ := hSw; go_simp; (try with_reducible rfl))
  (try simp only [Act.put]); (try simp only [List.setIfInBounds_toArray]); (try simp only [List.set_cons_succ]); (try simp only [List.set_cons_zero])
  refine wpAnyH_take (i := 1) (oi := { dst := some 6, op := Op.nilCheck (Operand.tmp 5), type := 0, pos := "parse.go:113", after := #[{ on := 0, ground := Ground.data }], guard := none }) (v := ?v1u2) rfl (by kernel_rfl) (by kernel_rfl) (by kernel_rfl) (fun _ _ _ h => h) (Or.inl ⟨by rfl, ?y1u2⟩) (by assumption) ?r1u2
  case y1u2 => (intro w hSw; obtain ⟨hg, d0, d1⟩ := hSw; go_simp; (try with_reducible rfl))
  (try simp only [Act.put]); (try simp only [List.setIfInBounds_toArray]); (try simp only [List.set_cons_succ]); (try simp only [List.set_cons_zero])
  refine wpAnyH_take (i := 2) (oi := { dst := some 7, op := Op.fieldAddr 63 (Operand.tmp 6) 0, type := 0, pos := "parse.go:113", after := #[{ on := 1, ground := Ground.data }], guard := none }) (v := ?v2u3) rfl (by kernel_rfl) (by kernel_rfl) (by kernel_rfl) (fun _ _ _ h => h) (Or.inl ⟨by rfl, ?y2u3⟩) (by assumption) ?r2u3
  case y2u3 => (intro w hSw; obtain ⟨hg, d0, d1⟩ := hSw; go_simp; (try with_reducible rfl))
  (try simp only [Act.put]); (try simp only [List.setIfInBounds_toArray]); (try simp only [List.set_cons_succ]); (try simp only [List.set_cons_zero])
  refine wpAnyH_take (i := 3) (oi := { dst := some 8, op := Op.load 9 (Operand.tmp 7), type := 9, pos := "parse.go:113", after := #[{ on := 2, ground := Ground.data }], guard := none }) (v := ?v3u4) rfl (by kernel_rfl) (by kernel_rfl) (by kernel_rfl) (fun _ _ _ h => h) (Or.inl ⟨by rfl, ?y3u4⟩) (by assumption) ?r3u4
  case y3u4 => (intro w hSw; obtain ⟨hg, d0, d1⟩ := hSw; go_simp; (try with_reducible rfl))
  (try simp only [Act.put]); (try simp only [List.setIfInBounds_toArray]); (try simp only [List.set_cons_succ]); (try simp only [List.set_cons_zero])
  refine wpAnyH_take (i := 4) (oi := { dst := some 9, op := Op.move (Operand.tmp 0), type := 61, pos := "parse.go:113", after := #[], guard := none }) (v := ?v4u5) rfl (by kernel_rfl) (by kernel_rfl) (by kernel_rfl) (fun _ _ _ h => h) (Or.inl ⟨by rfl, ?y4u5⟩) (by assumption) ?r4u5
  case y4u5 => (intro w hSw; obtain ⟨hg, d0, d1⟩ := hSw; go_simp; (try with_reducible rfl))
  (try simp only [Act.put]); (try simp only [List.setIfInBounds_toArray]); (try simp only [List.set_cons_succ]); (try simp only [List.set_cons_zero])
  refine wpAnyH_take (i := 5) (oi := { dst := some 10, op := Op.nilCheck (Operand.tmp 9), type := 0, pos := "parse.go:113", after := #[{ on := 4, ground := Ground.data }], guard := none }) (v := ?v5u6) rfl (by kernel_rfl) (by kernel_rfl) (by kernel_rfl) (fun _ _ _ h => h) (Or.inl ⟨by rfl, ?y5u6⟩) (by assumption) ?r5u6
  case y5u6 => (intro w hSw; obtain ⟨hg, d0, d1⟩ := hSw; go_simp; (try with_reducible rfl))
  (try simp only [Act.put]); (try simp only [List.setIfInBounds_toArray]); (try simp only [List.set_cons_succ]); (try simp only [List.set_cons_zero])
  refine wpAnyH_take (i := 6) (oi := { dst := some 11, op := Op.fieldAddr 63 (Operand.tmp 10) 1, type := 0, pos := "parse.go:113", after := #[{ on := 5, ground := Ground.data }], guard := none }) (v := ?v6u7) rfl (by kernel_rfl) (by kernel_rfl) (by kernel_rfl) (fun _ _ _ h => h) (Or.inl ⟨by rfl, ?y6u7⟩) (by assumption) ?r6u7
  case y6u7 => (intro w hSw; obtain ⟨hg, d0, d1⟩ := hSw; go_simp; (try with_reducible rfl))
  (try simp only [Act.put]); (try simp only [List.setIfInBounds_toArray]); (try simp only [List.set_cons_succ]); (try simp only [List.set_cons_zero])
  refine wpAnyH_take (i := 7) (oi := { dst := some 12, op := Op.load 3 (Operand.tmp 11), type := 3, pos := "parse.go:113", after := #[{ on := 6, ground := Ground.data }], guard := none }) (v := ?v7u8) rfl (by kernel_rfl) (by kernel_rfl) (by kernel_rfl) (fun _ _ _ h => h) (Or.inl ⟨by rfl, ?y7u8⟩) (by assumption) ?r7u8
  case y7u8 => (intro w hSw; obtain ⟨hg, d0, d1⟩ := hSw; go_simp; (try with_reducible rfl))
  (try simp only [Act.put]); (try simp only [List.setIfInBounds_toArray]); (try simp only [List.set_cons_succ]); (try simp only [List.set_cons_zero])
  refine wpAnyH_take (i := 8) (oi := { dst := some 13, op := Op.slice 9 (Operand.tmp 8) (some (Operand.tmp 12)) none none, type := 9, pos := "parse.go:113", after := #[{ on := 3, ground := Ground.data }, { on := 7, ground := Ground.data }], guard := none }) (v := ?v8u9) rfl (by kernel_rfl) (by kernel_rfl) (by kernel_rfl) (fun _ _ _ h => h) (Or.inl ⟨by rfl, ?y8u9⟩) (by assumption) ?r8u9
  case y8u9 => (intro w hSw; obtain ⟨hg, d0, d1⟩ := hSw; go_simp; (try with_reducible rfl))
  (try simp only [Act.put]); (try simp only [List.setIfInBounds_toArray]); (try simp only [List.set_cons_succ]); (try simp only [List.set_cons_zero])
  refine wpAnyH_take (i := 9) (oi := { dst := some 14, op := Op.move (Operand.tmp 1), type := 9, pos := "parse.go:113", after := #[], guard := none }) (v := ?v9u10) rfl (by kernel_rfl) (by kernel_rfl) (by kernel_rfl) (fun _ _ _ h => h) (Or.inl ⟨by rfl, ?y9u10⟩) (by assumption) ?r9u10
  case y9u10 => (intro w hSw; obtain ⟨hg, d0, d1⟩ := hSw; go_simp; (try with_reducible rfl))
  (try simp only [Act.put]); (try simp only [List.setIfInBounds_toArray]); (try simp only [List.set_cons_succ]); (try simp only [List.set_cons_zero])
  refine wpAnyH_ready (rs := [10]) (by kernel_rfl) (by simp) ?_
  refine AllReadyH.cons (o := { dst := some 15, op := Op.call { callee := Callee.value (Operand.func 121), args := #[Operand.tmp 13, Operand.tmp 14], argTypes := #[9, 9] }, type := 4, pos := "parse.go:113", after := #[{ on := 8, ground := Ground.data }, { on := 9, ground := Ground.data }], guard := none }) rfl (fun Kc hK => ?_) AllReadyH.nil
  go_simp
  go_at_call 121
  refine Calls.mono (HP.out _) ?_
  rintro e' w' ⟨rfl, rfl⟩
  go_wp2_with fail
  refine hK.out _ _ (HS0) (fun hHeld => ?_)
  clear hK Kc
  (try simp only [Act.put]); (try simp only [List.setIfInBounds_toArray]); (try simp only [List.set_cons_succ]); (try simp only [List.set_cons_zero])
  refine wpAnyH_take (i := 11) (oi := { dst := some 16, op := Op.unOp UnOp.not 4 (Operand.tmp 15), type := 4, pos := "parse.go:113", after := #[{ on := 10, ground := Ground.data }], guard := none }) (v := ?v11u11) rfl (by kernel_rfl) (by kernel_rfl) (by kernel_rfl) (fun _ _ _ h => h) (Or.inl ⟨by rfl, ?y11u11⟩) (by assumption) ?r11u11
  case y11u11 => (intro w hSw; obtain ⟨hg, d0, d1⟩ := hSw; go_simp; (try with_reducible rfl))
  (try simp only [Act.put]); (try simp only [List.setIfInBounds_toArray]); (try simp only [List.set_cons_succ]); (try simp only [List.set_cons_zero])
  refine wpAnyH_done (by kernel_rfl) ?_ _
  clear hHeld
  cases b
  · go_wp2_with fail
    go_ret
    exact ⟨rfl, gr_drew.mono (T := fun z => z = p) (fun _ _ h => h.elim), HR.out.gr gr_drew⟩
  · have hle := HL.out rfl
    have hsk : IntKind.i64.wrap ((a : Int) + (piece.size : Int)) = ((a + piece.size : Nat) : Int) := by rw [IntKind.wrap_i64]; omega
    go_wp2_with fail
    go_ret
    refine ⟨rfl, ((Keeps.refl W (fun z => z = p)).setCell (p := ⟨p, 1, none⟩) (fun _ => rfl) _).drew, ?_⟩
    have h := (HR.out.set hle).gr gr_drew
    rw [Int.natCast_add] at h
    exact h
theorem must98 (p : Nat) (s piece : ByteArray) (b : Bool) (W : World) (a : Nat) (er : Int) (hR : Rd W p s a er) (hp : piece.size ≤ 1000) (hb : piece.data.toList.isPrefixOf (s.data.toList.drop a) = b) : Calls Tryz.prog 98 #[.pointer (some ⟨p, 0, none⟩), .string piece] W fun e W' => e = .returned (.bool b) ∧ Keeps W W' (fun z => z = p) ∧ Rd W' p s (if b then a + piece.size else a) (if b then er else 8) := by
  have HT := hidM (takes99 p s piece b W a er hR hp hb)
  clear hR hb
  cases b
  · go_enter Tryz.func98, Tryz.ntmps98
    go_wp2_with (first | (go_at_call 99; refine HT.out.mono ?_; rintro e u ⟨rfl, hk, hr⟩; have HK := hidM hk; have HR := hidM hr; clear hk hr) | (go_at_call 30; refine (wrong30 p s _ a er HR.out).mono ?_; rintro e u2 ⟨rfl, hk, hr⟩; have HK2 := hidM hk; have HR2 := hidM hr; clear hk hr))
    go_ret
    exact ⟨rfl, HK.out.trans HK2.out (fun _ _ h => h), HR2.out⟩
  · go_enter Tryz.func98, Tryz.ntmps98
    go_wp2_with (go_at_call 99; refine HT.out.mono ?_; rintro e u ⟨rfl, hk, hr⟩; have HK := hidM hk; have HR := hidM hr; clear hk hr)
    go_ret
    exact ⟨rfl, HK.out, HR.out⟩
/-! ### sizeText 116, floatText 79, numberText 45 -/
theorem and52 (b : Nat) (h : b < 18446744073709551616) : bits .and .u64 (b : Int) 4503599627370495 = ((b % 2 ^ 52 : Nat) : Int) := by
  have e := bits_and_u64_nat b 4503599627370495 h (by decide)
  rw [show b &&& 4503599627370495 = b % 2 ^ 52 from Nat.and_two_pow_sub_one_eq_mod b 52] at e
  exact e
theorem or52 (m : Nat) (h : m < 2 ^ 52) : bits .or .u64 (m : Int) 4503599627370496 = ((m + 2 ^ 52 : Nat) : Int) := by
  have e := bits_or_u64_nat m 4503599627370496 (by omega) (by decide)
  have q := Nat.two_pow_add_eq_or_of_lt h 1
  rw [Nat.mul_one] at q
  rw [Nat.or_comm, show (4503599627370496 : Nat) = 2 ^ 52 from rfl, ← q, Nat.add_comm] at e
  exact e
theorem hex_one (m : Nat) (h : m < 2 ^ 52) : QC.hexT 14 (m + 2 ^ 52) = 49 :: QC.hexT 13 m := by
  rw [hexT_cons]
  have e1 : (m + 2 ^ 52) / 16 ^ 13 % 16 = 1 := by
    rw [show (16 : Nat) ^ 13 = 2 ^ 52 from by decide]; omega
  rw [e1]
  have e2 : ∀ n k, QC.hexT n (k + 16 ^ n) = QC.hexT n k := by
    intro n
    induction n with
    | zero => intro k; rfl
    | succ n ih =>
      intro k
      show QC.hexT n ((k + 16 ^ (n + 1)) / 16) ++ [QC.hexD ((k + 16 ^ (n + 1)) % 16)] = QC.hexT n (k / 16) ++ [QC.hexD (k % 16)]
      rw [show (k + 16 ^ (n + 1)) / 16 = k / 16 + 16 ^ n by rw [Nat.pow_succ]; omega, show (k + 16 ^ (n + 1)) % 16 = k % 16 by rw [Nat.pow_succ]; omega, ih]
  rw [show (2 : Nat) ^ 52 = 16 ^ 13 from by decide, e2]
  rfl
theorem ba_tail (c : UInt8) (l : List UInt8) : (⟨(c :: l).toArray⟩ : ByteArray).extract 1 (⟨(c :: l).toArray⟩ : ByteArray).size = ⟨l.toArray⟩ := by
  apply ByteArray.ext
  apply Array.ext'
  have := drop_ba (⟨(c :: l).toArray⟩) 1
  simpa using this
theorem ba_app (a b : List UInt8) : (⟨a.toArray⟩ : ByteArray) ++ ⟨b.toArray⟩ = ⟨(a ++ b).toArray⟩ := by
  apply ByteArray.ext
  simp
theorem ba_len (a : List UInt8) : (⟨a.toArray⟩ : ByteArray).size = a.length := by
  show a.toArray.size = _
  simp
theorem size116_nan (b : Nat) (hb : b < 2 ^ 63) (h0 : b ≠ 0) (hs : b / 2 ^ 52 = 2047) (hm : b % 2 ^ 52 ≠ 0) (w : World) (hT : Tbs w) :
    Calls Tryz.prog 116 #[.int .u64 b] w fun e w' => e = .returned (.string ⟨([110, 97, 110] ++ QC.hexT 13 (b % 2 ^ 52)).toArray⟩) ∧ Gr w w' := by
  have h1 := and52 b (by omega)
  have hml : b % 2 ^ 52 < 2 ^ 52 := Nat.mod_lt _ (by decide)
  have h2 := or52 _ hml
  have HC := hidM (hex78 (b % 2 ^ 52 + 2 ^ 52) (by omega) (by omega) w hT)
  rw [hex_one _ hml] at HC
  have hsI : (b : Int) / 4503599627370496 = 2047 := by omega
  have h0I : ¬ (b : Int) = 0 := by omega
  generalize hq : b % 2 ^ 52 = m at *
  have hmI : ¬ (m : Int) = 0 := by omega
  have HB : Hid ((⟨#[110, 97, 110]⟩ : ByteArray) ++ (⟨(49 :: QC.hexT 13 m).toArray⟩ : ByteArray).extract 1 (⟨(49 :: QC.hexT 13 m).toArray⟩ : ByteArray).size = ⟨([110, 97, 110] ++ QC.hexT 13 m).toArray⟩) := by
    show _ = _
    rw [ba_tail]
    exact ba_app [110, 97, 110] _
  have hsz : (⟨(49 :: QC.hexT 13 m).toArray⟩ : ByteArray).size = 14 := by
    rw [ba_len, List.length_cons, QD.hexT_len]
  generalize (⟨(49 :: QC.hexT 13 m).toArray⟩ : ByteArray) = s at HC HB hsz
  rw [← HB.out, hsz]
  clear HB hs h0 hq hm hb hml
  generalize (2 : Nat) ^ 52 = p at *
  go_enter Tryz.func116, Tryz.ntmps116
  go_wp2_with (go_at_call 78; refine HC.out.mono ?_; rintro e w' ⟨rfl, hg⟩)
  go_ret
  exact ⟨rfl, hg⟩
theorem tz_le : ∀ (n m : Nat), QD.tzN n m ≤ n
  | 0, m => Nat.le_refl _
  | n + 1, m => by
    unfold QD.tzN
    split
    · have := tz_le n (m / 2); omega
    · omega
theorem dec_len (u : Nat) (h : u < 18446744073709551616) : (Lib.decDigits u).length ≤ 20 := by
  by_cases h0 : u = 0
  · subst h0
    rw [Lib.decDigits]
    simp
  · rw [Lib.decDigits_length]
    have := Lib.numDigits_eq u (by omega) h
    split at this <;> omega
theorem itoa_len (n : Int) (h0 : -9223372036854775808 ≤ n) (h1 : n ≤ 9223372036854775807) : (Lib.itoa n).length ≤ 21 := by
  unfold Lib.itoa
  split
  · have := dec_len n.natAbs (by omega)
    simp; omega
  · have := dec_len n.toNat (by omega)
    omega
theorem size116_walk (b m f z q : Nat) (pw p2 : Int) (PW : Prop) (A I : ByteArray) (w : World) (h0I : ¬ (b : Int) = 0) (h1 : bits .and .u64 (b : Int) 4503599627370495 = (m : Int)) (hb : (b : Int) / 4503599627370496 = pw) (hs : ¬ pw = 2047) (hpl : 0 ≤ pw ∧ pw < 2048)
    (hp : (0 < pw ∧ bits .or .u64 (m : Int) 4503599627370496 = (f : Int) ∧ p2 = pw - 1) ∨ (pw = 0 ∧ m = f ∧ p2 = 0)) (hz : z ≤ 64) (hq : (f : Int) / 2 ^ z = (q : Int))
    (HZ : Hid (Calls Tryz.prog 138 #[.int .u64 f] w fun e w' => e = .returned (.int .i64 (z : Nat)) ∧ w' = w))
    (HU : Hid (Calls Tryz.prog 78 #[.int .u64 (q : Int), .int .i64 10] w fun e w' => e = .returned (.string A) ∧ Gr w w'))
    (HI : Hid (∀ W, Gr w W → Calls Tryz.prog 139 #[.int .i64 (p2 - 1074 + z)] W fun e w' => e = .returned (.string I) ∧ Gr W w')) (hA : A.size ≤ 100) (hI : I.size ≤ 100) :
    Calls Tryz.prog 116 #[.int .u64 b] w fun e w' => e = .returned (.string (A ++ ⟨#[112]⟩ ++ I)) ∧ Gr w w' := by
  rcases hp with ⟨hp, h2, rfl⟩ | ⟨rfl, rfl, rfl⟩
  · have w1 : IntKind.i64.wrap (pw - 1 + -1074) = pw - 1 - 1074 := by rw [IntKind.wrap_i64]; omega
    have w2 : IntKind.i64.wrap (pw - 1 - 1074 + (z : Int)) = pw - 1 - 1074 + (z : Int) := by rw [IntKind.wrap_i64]; omega
    go_enter Tryz.func116, Tryz.ntmps116
    go_wp2_with (first | (go_at_call 138; refine HZ.out.mono ?_; rintro e w' ⟨rfl, hw⟩; replace hw := hw.symm; subst hw) | (go_at_call 78; refine HU.out.mono ?_; rintro e w' ⟨rfl, hg⟩; replace hg := hidM hg) | (go_at_call 139; refine (HI.out _ hg.out).mono ?_; rintro e w2' ⟨rfl, hg2⟩; replace hg2 := hidM hg2))
    go_ret
    exact ⟨rfl, hg.out.trans hg2.out (fun _ _ h => h)⟩
  · have w1 : IntKind.i64.wrap (0 + -1074) = 0 - 1074 := by decide
    have w2 : IntKind.i64.wrap (0 - 1074 + (z : Int)) = 0 - 1074 + (z : Int) := by rw [IntKind.wrap_i64]; omega
    rw [show (0 : Int) - 1074 = -1074 from rfl] at *
    go_enter Tryz.func116, Tryz.ntmps116
    go_wp2_with (first | (go_at_call 138; refine HZ.out.mono ?_; rintro e w' ⟨rfl, hw⟩; replace hw := hw.symm; subst hw) | (go_at_call 78; refine HU.out.mono ?_; rintro e w' ⟨rfl, hg⟩; replace hg := hidM hg) | (go_at_call 139; refine (HI.out _ hg.out).mono ?_; rintro e w2' ⟨rfl, hg2⟩; replace hg2 := hidM hg2))
    go_ret
    exact ⟨rfl, hg.out.trans hg2.out (fun _ _ h => h)⟩
theorem size116_num (b : Nat) (hb : b < 2 ^ 63) (h0 : b ≠ 0) (hs : b / 2 ^ 52 ≠ 2047) (w : World) (hT : Tbs w) :
    Calls Tryz.prog 116 #[.int .u64 b] w fun e w' => e = .returned (.string ⟨(Lib.decDigits (QD.fracP b / 2 ^ QD.tzN 64 (QD.fracP b)) ++ 112 :: Lib.itoa (QD.powP b)).toArray⟩) ∧ Gr w w' := by
  have h1 := and52 b (by omega)
  have hml : b % 2 ^ 52 < 2 ^ 52 := Nat.mod_lt _ (by decide)
  have h2 := or52 _ hml
  have hdm := Nat.div_add_mod b (2 ^ 52)
  have hfr : (0 < b / 2 ^ 52 ∧ QD.fracP b = b % 2 ^ 52 + 2 ^ 52) ∨ (b / 2 ^ 52 = 0 ∧ QD.fracP b = b % 2 ^ 52) := by
    unfold QD.fracP
    split
    · exact .inl ⟨by assumption, rfl⟩
    · exact .inr ⟨by omega, rfl⟩
  have hfl : QD.fracP b < 18446744073709551616 := by rcases hfr with h | h <;> omega
  have hf0 : QD.fracP b ≠ 0 := by
    rcases hfr with h | ⟨h, h'⟩
    · omega
    · rw [h] at hdm; omega
  have HZ := hidM (tz138 (QD.fracP b) hf0 hfl w hT)
  have hzl := tz_le 64 (QD.fracP b)
  have hdl : QD.fracP b / 2 ^ QD.tzN 64 (QD.fracP b) < 18446744073709551616 := Nat.lt_of_le_of_lt (Nat.div_le_self _ _) hfl
  have HU := hidM (uint78 _ hdl w hT)
  have hpw : QD.powP b = (if 0 < b / 2 ^ 52 then ((b / 2 ^ 52 : Nat) : Int) - 1 else 0) - 1074 + (QD.tzN 64 (QD.fracP b) : Nat) := rfl
  have hpb : b / 2 ^ 52 < 2048 := by omega
  have hpr : -9223372036854775808 ≤ QD.powP b ∧ QD.powP b ≤ 9223372036854775807 := by rw [hpw]; split <;> omega
  have HI : Hid (∀ W, Gr w W → Calls Tryz.prog 139 #[.int .i64 (QD.powP b)] W fun e w' => e = .returned (.string ⟨(Lib.itoa (QD.powP b)).toArray⟩) ∧ Gr W w') := fun W g => by
    refine (Tryz.strconv_Itoa (QD.powP b) hpr.1 hpr.2 W (hT.gr g).pow).mono ?_
    rintro e w' ⟨rfl, k, os, rfl⟩
    exact ⟨rfl, gr_grow⟩
  have h := size116_walk b (b % 2 ^ 52) (QD.fracP b) (QD.tzN 64 (QD.fracP b)) (QD.fracP b / 2 ^ QD.tzN 64 (QD.fracP b)) ((b / 2 ^ 52 : Nat) : Int) (if 0 < b / 2 ^ 52 then ((b / 2 ^ 52 : Nat) : Int) - 1 else 0) True _ _ w (by omega) h1 (by omega) (by omega) (by omega)
    (by
      rcases hfr with ⟨h, h'⟩ | ⟨h, h'⟩
      · exact .inl ⟨by omega, by rw [h']; exact h2, by rw [if_pos h]⟩
      · exact .inr ⟨by omega, h'.symm, by rw [if_neg (by omega)]⟩) hzl (by simp) HZ HU HI (by rw [ba_len]; have := dec_len _ hdl; omega) (by rw [ba_len]; have := itoa_len _ hpr.1 hpr.2; omega)
  rw [show (⟨#[112]⟩ : ByteArray) = ⟨[112].toArray⟩ from rfl, ba_app, ba_app] at h
  simpa using h
theorem size116 (b : Nat) (hb : b < 2 ^ 63) (w : World) (hT : Tbs w) : Calls Tryz.prog 116 #[.int .u64 b] w fun e w' => e = .returned (.string ⟨(QD.sizeT b).toArray⟩) ∧ Gr w w' := by
  unfold QD.sizeT
  by_cases h0 : b = 0
  · subst h0
    rw [if_pos rfl]
    go_enter Tryz.func116, Tryz.ntmps116
    go_wp2
    go_ret
    exact ⟨rfl, Keeps.refl _ _⟩
  · rw [if_neg h0]
    by_cases hs : b / 2 ^ 52 = 2047
    · rw [if_pos hs]
      by_cases hm : b % 2 ^ 52 = 0
      · rw [if_pos hm]
        have h1 := and52 b (by omega)
        rw [hm] at h1
        have hsI : (b : Int) / 4503599627370496 = 2047 := by omega
        have h0I : ¬ (b : Int) = 0 := by omega
        clear hs hm h0 hb
        go_enter Tryz.func116, Tryz.ntmps116
        go_wp2
        go_ret
        exact ⟨rfl, Keeps.refl _ _⟩
      · rw [if_neg hm]
        exact size116_nan b hb h0 hs hm w hT
    · rw [if_neg hs]
      exact size116_num b hb h0 hs w hT
theorem size_len (b : Nat) (hb : b < 2 ^ 63) : (QD.sizeT b).length ≤ 100 := by
  unfold QD.sizeT
  split
  · simp
  · split
    · split
      · simp
      · simp [QD.hexT_len]
    · have hfl : QD.fracP b < 18446744073709551616 := by unfold QD.fracP; split <;> omega
      have h1 := dec_len (QD.fracP b / 2 ^ QD.tzN 64 (QD.fracP b)) (Nat.lt_of_le_of_lt (Nat.div_le_self _ _) hfl)
      have hzl := tz_le 64 (QD.fracP b)
      have hpr : -9223372036854775808 ≤ QD.powP b ∧ QD.powP b ≤ 9223372036854775807 := by unfold QD.powP; split <;> omega
      have h2 := itoa_len _ hpr.1 hpr.2
      simp; omega
theorem and_top (b : Nat) (h : b < 2 ^ 64) : b &&& 2 ^ 63 = if 2 ^ 63 ≤ b then 2 ^ 63 else 0 := by
  apply Nat.eq_of_testBit_eq
  intro i
  rw [Nat.testBit_and, Nat.testBit_two_pow]
  by_cases hi : 63 = i
  · subst hi
    rw [decide_eq_true rfl, Bool.and_true, Nat.testBit_eq_decide_div_mod_eq]
    split
    · rw [show b / 2 ^ 63 = 1 by omega]
      decide
    · rw [show b / 2 ^ 63 = 0 by omega]
      simp
  · rw [decide_eq_false hi, Bool.and_false]
    split
    · rw [Nat.testBit_two_pow, decide_eq_false hi]
    · simp
theorem and63a (b : Nat) (h : b < 2 ^ 64) (h2 : 2 ^ 63 ≤ b) : bits .and .u64 (b : Int) 9223372036854775808 = 9223372036854775808 := by
  have e := bits_and_u64_nat b 9223372036854775808 h (by decide)
  have q : b &&& 9223372036854775808 = 9223372036854775808 := by
    have := and_top b h
    rw [if_pos h2] at this
    exact this
  rw [q] at e
  exact e
theorem and63b (b : Nat) (h : b < 2 ^ 64) (h2 : ¬ 2 ^ 63 ≤ b) : bits .and .u64 (b : Int) 9223372036854775808 = 0 := by
  have e := bits_and_u64_nat b 9223372036854775808 h (by decide)
  have q : b &&& 9223372036854775808 = 0 := by
    have := and_top b h
    rw [if_neg h2] at this
    exact this
  rw [q] at e
  exact e
theorem andNot63 (b : Nat) (h : b < 2 ^ 64) (h2 : 2 ^ 63 ≤ b) : bits .andNot .u64 (b : Int) 9223372036854775808 = ((b - 2 ^ 63 : Nat) : Int) := by
  have h1 : (BitVec.ofInt 64 (b : Int)).toNat = b := by
    rw [BitVec.ofInt_natCast, BitVec.toNat_ofNat]; exact Nat.mod_eq_of_lt h
  have h3 : (~~~ BitVec.ofInt 64 (9223372036854775808 : Int)).toNat = 2 ^ 63 - 1 := by decide
  show IntKind.u64.wrap ((BitVec.ofInt 64 (b : Int) &&& ~~~ BitVec.ofInt 64 (9223372036854775808 : Int)).toNat : Int) = _
  rw [BitVec.toNat_and, h1, h3, Nat.and_two_pow_sub_one_eq_mod, IntKind.wrap_u64]
  omega
theorem float79 (b : Nat) (hb : b < 2 ^ 64) (w : World) (hT : Tbs w) : Calls Tryz.prog 79 #[.int .u64 b] w fun e w' => e = .returned (.string ⟨(QF.floatT b).toArray⟩) ∧ Gr w w' := by
  unfold QF.floatT
  by_cases h : 2 ^ 63 ≤ b
  · rw [if_pos h]
    have ha := and63a b hb h
    have hn := andNot63 b hb h
    have HC := hidM (size116 (b - 2 ^ 63) (by omega) w hT)
    have hl : (⟨(QD.sizeT (b - 2 ^ 63)).toArray⟩ : ByteArray).size ≤ 100 := by rw [ba_len]; exact size_len _ (by omega)
    generalize b - 2 ^ 63 = c at HC hn hl ⊢
    have HE : (⟨(45 :: QD.sizeT c).toArray⟩ : ByteArray) = ⟨#[45]⟩ ++ ⟨(QD.sizeT c).toArray⟩ := (ba_app [45] (QD.sizeT c)).symm
    rw [HE]
    clear HE
    generalize (⟨(QD.sizeT c).toArray⟩ : ByteArray) = s at HC hl ⊢
    clear h hb hT
    go_enter Tryz.func79, Tryz.ntmps79
    go_wp2_with (go_at_call 116; refine HC.out.mono ?_; rintro e w' ⟨rfl, hg⟩; replace hg := hidM hg)
    go_ret
    exact ⟨rfl, hg.out⟩
  · rw [if_neg h]
    have ha := and63b b hb h
    have HC := hidM (size116 b (by omega) w hT)
    generalize (⟨(QD.sizeT b).toArray⟩ : ByteArray) = s at HC ⊢
    clear h hb hT
    go_enter Tryz.func79, Tryz.ntmps79
    go_wp2_with (go_at_call 116; refine HC.out.mono ?_; rintro e w' ⟨rfl, hg⟩; replace hg := hidM hg)
    go_ret
    exact ⟨rfl, hg.out⟩
theorem wrapU64 (n : Int) (h : QF.is64 n) : IntKind.u64.wrap n = ((QF.u64 n : Nat) : Int) := by
  rw [IntKind.wrap_u64]
  unfold QF.u64
  obtain ⟨h1, h2⟩ := h
  split <;> omega
theorem number45 (k n : Int) (hk : 2 ≤ k ∧ k ≤ 11) (hn : QF.is64 n) (w : World) (hT : Tbs w) : Calls Tryz.prog 45 #[.int .i64 k, .int .i64 n] w fun e w' => e = .returned (.string ⟨(QF.numT k n).toArray⟩) ∧ Gr w w' := by
  have hu := wrapU64 n hn
  unfold QF.numT
  by_cases k2 : k = 2
  · subst k2
    rw [if_pos rfl]
    have HB := hidM (bool77 (n == 1))
    have e : (if n = 1 then [116, 114, 117, 101] else [102, 97, 108, 115, 101] : List UInt8) = (if (n == 1) = true then [116, 114, 117, 101] else [102, 97, 108, 115, 101]) := by simp
    rw [e]
    generalize (⟨(if (n == 1) = true then [116, 114, 117, 101] else [102, 97, 108, 115, 101] : List UInt8).toArray⟩ : ByteArray) = s at HB ⊢
    clear hu hT e
    go_enter Tryz.func45, Tryz.ntmps45
    go_wp2_with (go_at_call 77; refine (HB.out _).mono ?_; rintro e w' ⟨rfl, rfl⟩)
    go_ret
    exact ⟨rfl, Keeps.refl _ _⟩
  · rw [if_neg k2]
    by_cases k10 : k = 10
    · subst k10
      rw [if_pos rfl]
      have HC := hidM (uint78 (QF.u64 n) (QF.u64_lt hn) w hT)
      generalize (⟨(Lib.decDigits (QF.u64 n)).toArray⟩ : ByteArray) = s at HC ⊢
      generalize QF.u64 n = u at hu HC
      clear hT k2
      go_enter Tryz.func45, Tryz.ntmps45
      go_wp2_with (go_at_call 78; refine HC.out.mono ?_; rintro e w' ⟨rfl, hg⟩; replace hg := hidM hg)
      go_ret
      exact ⟨rfl, hg.out⟩
    · rw [if_neg k10]
      by_cases k11 : k = 11
      · subst k11
        rw [if_pos rfl]
        have HC := hidM (float79 (QF.u64 n) (QF.u64_lt hn) w hT)
        generalize (⟨(QF.floatT (QF.u64 n)).toArray⟩ : ByteArray) = s at HC ⊢
        generalize QF.u64 n = u at hu HC
        clear hT k2 k10
        go_enter Tryz.func45, Tryz.ntmps45
        go_wp2_with (go_at_call 79; refine HC.out.mono ?_; rintro e w' ⟨rfl, hg⟩; replace hg := hidM hg)
        go_ret
        exact ⟨rfl, hg.out⟩
      · rw [if_neg k11]
        have HC : Hid (Calls Tryz.prog 80 #[.int .i64 n, .int .i64 10] w fun e w' => e = .returned (.string ⟨(Lib.itoa n).toArray⟩) ∧ Gr w w') := by
          refine (Tryz.strconv_FormatInt_10 n hn.1 hn.2 w hT.pow).mono ?_
          rintro e w' ⟨rfl, k, os, rfl⟩
          exact ⟨rfl, gr_grow⟩
        generalize (⟨(Lib.itoa n).toArray⟩ : ByteArray) = s at HC ⊢
        clear hT hu
        go_enter Tryz.func45, Tryz.ntmps45
        go_wp2_with (go_at_call 80; refine HC.out.mono ?_; rintro e w' ⟨rfl, hg⟩; replace hg := hidM hg)
        go_ret
        exact ⟨rfl, hg.out⟩
theorem float_len (b : Nat) (hb : b < 2 ^ 64) : (QF.floatT b).length ≤ 101 := by
  unfold QF.floatT
  split
  · have := size_len (b - 2 ^ 63) (by omega)
    rw [List.length_cons]; exact Nat.succ_le_succ this
  · have := size_len b (by omega)
    exact Nat.le_succ_of_le this
theorem num_len (k n : Int) (hn : QF.is64 n) : (QF.numT k n).length ≤ 101 := by
  unfold QF.numT
  split
  · split <;> simp
  · split
    · exact Nat.le_trans (dec_len _ (QF.u64_lt hn)) (by decide)
    · split
      · exact float_len _ (QF.u64_lt hn)
      · exact Nat.le_trans (itoa_len n hn.1 hn.2) (by decide)
end Go.Proofs.YtfoifmacobldbaaGreatDoor.Kit
