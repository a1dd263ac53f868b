import Derived.Test.YtfoifmacobldbaaGreatDoorTI
import Derived.Test.YtfoifmacobldbaaGreatDoorTA
import Derived.Test.YtfoifmacobldbaaGreatDoorQA
set_option maxRecDepth 100000
set_option maxHeartbeats 4000000
namespace Go.Proofs.YtfoifmacobldbaaGreatDoor.Kit
open Go.RowKit Go.Shelf Go.Deep
set_option linter.unusedVariables false
set_option linter.unusedSimpArgs false
/-! ### what the program makes of a row is what it is to be -/
theorem hxw_key : ∀ x : Fin 256, (match QC.hexV (UInt8.ofNat x.val) with | some d => hxw (UInt8.ofNat x.val) == some d | none => true) = true := by decide +kernel
theorem hxw_of {c : UInt8} {d : Nat} (h : QC.hexV c = some d) : hxw c = some d := by
  have k := hxw_key ⟨c.toNat, c.toNat_lt⟩
  simp only [UInt8.ofNat_toNat] at k
  rw [h] at k
  simpa using k
theorem phx_of (M : Nat) : ∀ (l : List UInt8) (a v : Nat), QD.parseHex M a l = .ok v → phx M a l = .ok v
  | [], a, v, h => h
  | c :: r, a, v, h => by
    unfold QD.parseHex at h
    unfold phx
    cases hx : QC.hexV c with
    | none => rw [hx] at h; cases h
    | some d =>
      rw [hx] at h
      rw [hxw_of hx]
      simp only at h ⊢
      split at h
      · cases h
      · rename_i hc
        rw [if_neg hc]
        exact phx_of M r _ v h
theorem tz_le64 : ∀ n m, QD.tzN n m ≤ n := by
  intro n
  induction n with
  | zero => intro m; simp [QD.tzN]
  | succ n ih => intro m; unfold QD.tzN; split; have := ih (m / 2); omega; omega
theorem sizeOP_back (b : Nat) (hb : b < 2 ^ 63) : sizeOP (QD.sizeT b) = b := by
  have hk := QD.size_back b hb
  by_cases h0 : b = 0
  · rw [h0]; decide
  · by_cases hs : b / 2 ^ 52 = 2047
    · by_cases hm : b % 2 ^ 52 = 0
      · have e : QD.sizeT b = [105, 110, 102] := by unfold QD.sizeT; rw [if_neg h0, if_pos hs, if_pos hm]
        rw [e] at hk ⊢
        rw [← hk]
        rfl
      · have e : QD.sizeT b = [110, 97, 110] ++ QC.hexT 13 (b % 2 ^ 52) := by unfold QD.sizeT; rw [if_neg h0, if_pos hs, if_neg hm]
        have hml := Nat.mod_lt b (Nat.two_pow_pos 52)
        have hl := QD.hexT_len 13 (b % 2 ^ 52)
        have hne : [110, 97, 110] ++ QC.hexT 13 (b % 2 ^ 52) ≠ [105, 110, 102] := fun e => by simp at e
        have hdr : ([110, 97, 110] ++ QC.hexT 13 (b % 2 ^ 52)).drop 3 = QC.hexT 13 (b % 2 ^ 52) := rfl
        rw [e]
        unfold sizeOP
        rw [if_neg hne, if_pos (by simp [List.isPrefixOf]), hdr]
        unfold phE
        rw [if_neg (fun e => by rw [e] at hl; simp at hl), phx_of _ _ _ _ (QD.hex_back _ 13 _ (Nat.lt_of_lt_of_le hml (by decide)) (by omega))]
        show 2047 * 2 ^ 52 + b % 2 ^ 52 = b
        omega
    · have e : QD.sizeT b = Lib.decDigits (QD.fracP b / 2 ^ QD.tzN 64 (QD.fracP b)) ++ 112 :: Lib.itoa (QD.powP b) := by unfold QD.sizeT; rw [if_neg h0, if_neg hs]
      obtain ⟨s1, s2⟩ := QD.dec_start (QD.fracP b / 2 ^ QD.tzN 64 (QD.fracP b)) (112 :: Lib.itoa (QD.powP b))
      have hd : b / 2 ^ 52 < 2048 := by omega
      have htz := tz_le64 64 (QD.fracP b)
      have hi := QC.int_back 16 (QD.powP b) (by omega) (by decide) (by unfold QD.powP; split <;> omega) (by unfold QD.powP; split <;> omega)
      have hc := QD.cut_there _ (Lib.itoa (QD.powP b)) (fun c hc => (QD.dig_ne (QC.dec_row (QD.fracP b / 2 ^ QD.tzN 64 (QD.fracP b)) c hc)).1)
      rw [e] at hk ⊢
      refine Eq.trans ?_ hk
      unfold sizeOP QD.sizeO
      rw [if_neg s1, if_neg s1, if_neg (by rw [s2]; simp), if_neg (by rw [s2]; simp), hc]
      unfold piV
      rw [hi]
      rfl
theorem floatOP_back (b : Nat) (hb : b < 2 ^ 64) : floatOP (QF.floatT b) = b := by
  unfold QF.floatT
  split
  · rename_i h
    unfold floatOP
    rw [if_pos (by simp [List.isPrefixOf])]
    rw [List.drop_succ_cons, List.drop_zero, sizeOP_back _ (by omega)]
    omega
  · rename_i h
    obtain ⟨c, r, e, h1, h2, -⟩ := (QF.size_row b).2
    have hs := sizeOP_back b (by omega)
    rw [e] at hs ⊢
    unfold floatOP
    rw [if_neg (by simp [List.isPrefixOf, Ne.symm h2])]
    exact hs
def numCP (k : Int) (row : List UInt8) : Int := if k = 2 then (if row = [116, 114, 117, 101] then 1 else 0) else if k = 10 then QF.s64 (QD.valU (2 ^ 64 - 1) (Lib.parseUintB 64 row)) else if k = 11 then QF.s64 (floatOP row) else piV 64 row
theorem s64_is {u : Nat} (h : u < 2 ^ 64) : QF.is64 (QF.s64 u) := by
  unfold QF.is64 QF.s64
  split <;> omega
theorem numCP_is (k : Int) (row : List UInt8) : QF.is64 (numCP k row) := by
  unfold numCP
  split
  · split <;> (unfold QF.is64; omega)
  · split
    · exact s64_is (by have := puB_le 64 row; omega)
    · split
      · exact s64_is (floatOP_lt row)
      · have := piV_rng 64 (by omega) row
        unfold QF.is64
        omega
theorem numCP_back {k n : Int} (h : QF.is64 n) (h2 : k = 2 → n = 0 ∨ n = 1) : numCP k (QF.numT k n) = n := by
  unfold numCP QF.numT
  by_cases k2 : k = 2
  · rw [if_pos k2, if_pos k2]
    rcases h2 k2 with rfl | rfl <;> decide
  · rw [if_neg k2, if_neg k2]
    by_cases k10 : k = 10
    · rw [if_pos k10, if_pos k10, QC.uint_back 64 _ (by decide) (QF.u64_lt h)]
      exact QF.s64_u64 h
    · rw [if_neg k10, if_neg k10]
      by_cases k11 : k = 11
      · rw [if_pos k11, if_pos k11, floatOP_back _ (QF.u64_lt h)]
        exact QF.s64_u64 h
      · rw [if_neg k11, if_neg k11]
        unfold piV
        rw [QC.int_back 64 n (by omega) (by decide) (by have := h.1; omega) (by have := h.2; omega)]
theorem numB_2 {n : Int} (h : numB 2 n = true) : n = 0 ∨ n = 1 := by simpa [numB] using h
theorem numO_P (k : Int) (row : List UInt8) : QF.numO numB k row = if numB k (numCP k row) = true ∧ QF.numT k (numCP k row) = row then some (numCP k row) else none := by
  have hi := numCP_is k row
  have h2 : k = 2 → numCP k row = 0 ∨ numCP k row = 1 := fun e => by
    unfold numCP
    rw [if_pos e]
    split <;> omega
  by_cases h : numB k (numCP k row) = true ∧ QF.numT k (numCP k row) = row
  · rw [if_pos h]
    have e : QF.numC k row = numCP k row := by
      have := QF.num_back hi h2
      rw [h.2] at this
      exact this
    unfold QF.numO
    rw [e, if_pos ⟨h.1, h.2, hi⟩]
  · rw [if_neg h]
    unfold QF.numO
    refine if_neg fun c => h ?_
    have e : numCP k row = QF.numC k row := by
      have := numCP_back (k := k) (n := QF.numC k row) c.2.2 (fun e => numB_2 (by rw [← e]; exact c.1))
      rw [c.2.1] at this
      exact this
    rw [e]
    exact ⟨c.1, c.2.1⟩
/-! ### numberOf 105 -/
def NoA (w : World) (o : Option Int) (e : Ending) (w' : World) : Prop := (match o with
  | some n => e = .returned (.tuple #[.int .i64 n, .bool true])
  | none => e = .returned (.tuple #[.int .i64 0, .bool false])) ∧ Gr w w'
theorem ba_beq {x t : ByteArray} (h : (x.toList == t.toList) = true) : x.data.toList = t.data.toList := by
  rw [ByteArray.toList_eq, ByteArray.toList_eq] at h
  simpa using h
theorem ba_bne {x t : ByteArray} (h : (x.toList == t.toList) = false) : x.data.toList ≠ t.data.toList := by
  intro e
  rw [ByteArray.toList_eq, ByteArray.toList_eq, e] at h
  simp at h
theorem numB_ge {k n : Int} (h : numB k n = true) (hk : 1 ≤ k) : 2 ≤ k := by
  by_cases e : k = 1
  · rw [e] at h; simp [numB] at h
  · omega
theorem wrap_s64 (u : Nat) (h : u < 2 ^ 64) : IntKind.i64.wrap (u : Int) = QF.s64 u := by
  rw [IntKind.wrap_i64]
  unfold QF.s64
  split <;> omega
theorem numberOf105 (k : Int) (hk : 1 ≤ k ∧ k ≤ 11) (t : ByteArray) (hs : t.size ≤ 1000000) (w : World) (hT : Tbs w) : Calls Tryz.prog 105 #[.int .i64 k, .string t] w (NoA w (QF.numO numB k t.data.toList)) := by
  rw [numO_P]
  have hF0 : ∀ n W, Calls Tryz.prog 113 #[.int .i64 k, .int .i64 n] W fun e w' => e = .returned (.bool (numB k n)) ∧ W = w' := fun n W => fitsNumber_any k n (by omega) W
  obtain ⟨n, hn⟩ : ∃ n, numCP k t.data.toList = n := ⟨_, rfl⟩
  have hni := numCP_is k t.data.toList
  rw [hn] at hni ⊢
  have HF : Hid (∀ W, Calls Tryz.prog 113 #[.int .i64 k, .int .i64 n] W fun e w' => e = .returned (.bool (numB k n)) ∧ W = w') := hF0 n
  obtain ⟨x, hx⟩ : ∃ x : ByteArray, x = ⟨(QF.numT k n).toArray⟩ := ⟨_, rfl⟩
  have HN : Hid (numB k n = true → ∀ W, Gr w W → Calls Tryz.prog 45 #[.int .i64 k, .int .i64 n] W fun e w' => e = .returned (.string x) ∧ Gr w w') := fun hb W hg => by
    have h := number45 k n (by have := numB_ge hb hk.1; omega) hni W (hT.gr hg)
    rw [← hx] at h
    exact h.mono fun e w' ⟨he, hg2⟩ => ⟨he, hg.trans hg2 (fun _ _ h => h)⟩
  have HX1 : Hid ((x.toList == t.toList) = true → QF.numT k n = t.data.toList) := fun h => by
    have := ba_beq h
    rw [hx] at this
    exact this
  have HX2 : Hid ((x.toList == t.toList) = false → QF.numT k n ≠ t.data.toList) := fun h => by
    have := ba_bne h
    rw [hx] at this
    exact this
  have HU := hidM (pu10_64 t hs w hT)
  have HO := hidM (floatOf126 t hs w hT)
  have HI := hidM (pi64 t hs w hT)
  have hgw : Gr w w := Keeps.refl _ _
  have HG0 := hidM hgw
  clear hx hni hgw hF0
  unfold numCP at hn
  have hul := puB_le 64 t.data.toList
  have hfl := floatOP_lt t.data.toList
  generalize QD.valU (2 ^ 64 - 1) (Lib.parseUintB 64 t.data.toList) = u at *
  generalize floatOP t.data.toList = fl at *
  generalize piV 64 t.data.toList = pv at *
  generalize numB k n = fb at *
  replace HN : Hid (fb = true → ∀ W, Gr w W → Calls Tryz.prog 45 #[.int .i64 k, .int .i64 n] W fun e w' => e = .returned (.string x) ∧ Gr w w') := HN
  clear hT hs
  by_cases k2 : k = 2
  · rw [if_pos k2] at hn
    clear HU HO HI hul hfl
    subst k2
    by_cases hq : (t.toList == [116, 114, 117, 101]) = true
    · have e : t.data.toList = [116, 114, 117, 101] := by rw [ByteArray.toList_eq] at hq; simpa using hq
      rw [if_pos e] at hn
      subst hn
      clear e
      cases fb with
      | false =>
        rw [if_neg (fun c => by cases c.1)]
        clear HN
        go_enter Tryz.func105, Tryz.ntmps105
        go_wp2_with (first | (go_at_call 113; refine (HF.out _).mono ?_; rintro e w5 ⟨rfl, hw⟩; subst hw; simp only []))
        go_ret2
        exact ⟨rfl, HG0.out⟩
      | true =>
        by_cases hx : (x.toList == t.toList) = true
        · rw [if_pos ⟨rfl, HX1.out hx⟩]
          clear HX1 HX2
          go_enter Tryz.func105, Tryz.ntmps105
          go_wp2_with (first | (go_at_call 113; refine (HF.out _).mono ?_; rintro e w5 ⟨rfl, hw⟩; subst hw; simp only []) | (go_at_call 45; refine (HN.out rfl _ HG0.out).mono ?_; rintro e w6 ⟨rfl, hg6⟩; have HG6 := hidM hg6; clear hg6; simp only []))
          go_ret2
          exact ⟨rfl, HG6.out⟩
        · have hx' : (x.toList == t.toList) = false := Bool.eq_false_iff.2 hx
          rw [if_neg (fun c => HX2.out hx' c.2)]
          clear HX1 HX2 hx
          go_enter Tryz.func105, Tryz.ntmps105
          go_wp2_with (first | (go_at_call 113; refine (HF.out _).mono ?_; rintro e w5 ⟨rfl, hw⟩; subst hw; simp only []) | (go_at_call 45; refine (HN.out rfl _ HG0.out).mono ?_; rintro e w6 ⟨rfl, hg6⟩; have HG6 := hidM hg6; clear hg6; simp only []))
          go_ret2
          exact ⟨rfl, HG6.out⟩

    · have hq' : (t.toList == [116, 114, 117, 101]) = false := Bool.eq_false_iff.2 hq
      have e : t.data.toList ≠ [116, 114, 117, 101] := fun e => by rw [ByteArray.toList_eq, e] at hq; simp at hq
      rw [if_neg e] at hn
      subst hn
      clear e hq
      cases fb with
      | false =>
        rw [if_neg (fun c => by cases c.1)]
        clear HN
        go_enter Tryz.func105, Tryz.ntmps105
        go_wp2_with (first | (go_at_call 113; refine (HF.out _).mono ?_; rintro e w5 ⟨rfl, hw⟩; subst hw; simp only []))
        go_ret2
        exact ⟨rfl, HG0.out⟩
      | true =>
        by_cases hx : (x.toList == t.toList) = true
        · rw [if_pos ⟨rfl, HX1.out hx⟩]
          clear HX1 HX2
          go_enter Tryz.func105, Tryz.ntmps105
          go_wp2_with (first | (go_at_call 113; refine (HF.out _).mono ?_; rintro e w5 ⟨rfl, hw⟩; subst hw; simp only []) | (go_at_call 45; refine (HN.out rfl _ HG0.out).mono ?_; rintro e w6 ⟨rfl, hg6⟩; have HG6 := hidM hg6; clear hg6; simp only []))
          go_ret2
          exact ⟨rfl, HG6.out⟩
        · have hx' : (x.toList == t.toList) = false := Bool.eq_false_iff.2 hx
          rw [if_neg (fun c => HX2.out hx' c.2)]
          clear HX1 HX2 hx
          go_enter Tryz.func105, Tryz.ntmps105
          go_wp2_with (first | (go_at_call 113; refine (HF.out _).mono ?_; rintro e w5 ⟨rfl, hw⟩; subst hw; simp only []) | (go_at_call 45; refine (HN.out rfl _ HG0.out).mono ?_; rintro e w6 ⟨rfl, hg6⟩; have HG6 := hidM hg6; clear hg6; simp only []))
          go_ret2
          exact ⟨rfl, HG6.out⟩

  · rw [if_neg k2] at hn
    by_cases k10 : k = 10
    · rw [if_pos k10] at hn
      clear HO HI hfl k2
      subst k10
      have hwr := wrap_s64 u (by omega)
      rw [hn] at hwr
      clear hn hul
      cases fb with
      | false =>
        rw [if_neg (fun c => by cases c.1)]
        clear HN
        go_enter Tryz.func105, Tryz.ntmps105
        go_wp2_with (first | (go_at_call 125; refine HU.out.mono ?_; rintro e w4 ⟨er, rfl, hg⟩; have HG := hidM hg; clear hg; simp only []) | (go_at_call 113; refine (HF.out _).mono ?_; rintro e w5 ⟨rfl, hw⟩; subst hw; simp only []))
        go_ret2
        exact ⟨rfl, HG.out⟩
      | true =>
        by_cases hx : (x.toList == t.toList) = true
        · rw [if_pos ⟨rfl, HX1.out hx⟩]
          clear HX1 HX2
          go_enter Tryz.func105, Tryz.ntmps105
          go_wp2_with (first | (go_at_call 125; refine HU.out.mono ?_; rintro e w4 ⟨er, rfl, hg⟩; have HG := hidM hg; clear hg; simp only []) | (go_at_call 113; refine (HF.out _).mono ?_; rintro e w5 ⟨rfl, hw⟩; subst hw; simp only []) | (go_at_call 45; refine (HN.out rfl _ HG.out).mono ?_; rintro e w6 ⟨rfl, hg6⟩; have HG6 := hidM hg6; clear hg6; simp only []))
          go_ret2
          exact ⟨rfl, HG6.out⟩
        · have hx' : (x.toList == t.toList) = false := Bool.eq_false_iff.2 hx
          rw [if_neg (fun c => HX2.out hx' c.2)]
          clear HX1 HX2 hx
          go_enter Tryz.func105, Tryz.ntmps105
          go_wp2_with (first | (go_at_call 125; refine HU.out.mono ?_; rintro e w4 ⟨er, rfl, hg⟩; have HG := hidM hg; clear hg; simp only []) | (go_at_call 113; refine (HF.out _).mono ?_; rintro e w5 ⟨rfl, hw⟩; subst hw; simp only []) | (go_at_call 45; refine (HN.out rfl _ HG.out).mono ?_; rintro e w6 ⟨rfl, hg6⟩; have HG6 := hidM hg6; clear hg6; simp only []))
          go_ret2
          exact ⟨rfl, HG6.out⟩

    · rw [if_neg k10] at hn
      by_cases k11 : k = 11
      · rw [if_pos k11] at hn
        clear HU HI hul k2 k10
        subst k11
        have hwr := wrap_s64 fl (by omega)
        rw [hn] at hwr
        clear hn hfl
        cases fb with
        | false =>
          rw [if_neg (fun c => by cases c.1)]
          clear HN
          go_enter Tryz.func105, Tryz.ntmps105
          go_wp2_with (first | (go_at_call 126; refine HO.out.mono ?_; rintro e w4 ⟨rfl, hg⟩; have HG := hidM hg; clear hg; simp only []) | (go_at_call 113; refine (HF.out _).mono ?_; rintro e w5 ⟨rfl, hw⟩; subst hw; simp only []))
          go_ret2
          exact ⟨rfl, HG.out⟩
        | true =>
          by_cases hx : (x.toList == t.toList) = true
          · rw [if_pos ⟨rfl, HX1.out hx⟩]
            clear HX1 HX2
            go_enter Tryz.func105, Tryz.ntmps105
            go_wp2_with (first | (go_at_call 126; refine HO.out.mono ?_; rintro e w4 ⟨rfl, hg⟩; have HG := hidM hg; clear hg; simp only []) | (go_at_call 113; refine (HF.out _).mono ?_; rintro e w5 ⟨rfl, hw⟩; subst hw; simp only []) | (go_at_call 45; refine (HN.out rfl _ HG.out).mono ?_; rintro e w6 ⟨rfl, hg6⟩; have HG6 := hidM hg6; clear hg6; simp only []))
            go_ret2
            exact ⟨rfl, HG6.out⟩
          · have hx' : (x.toList == t.toList) = false := Bool.eq_false_iff.2 hx
            rw [if_neg (fun c => HX2.out hx' c.2)]
            clear HX1 HX2 hx
            go_enter Tryz.func105, Tryz.ntmps105
            go_wp2_with (first | (go_at_call 126; refine HO.out.mono ?_; rintro e w4 ⟨rfl, hg⟩; have HG := hidM hg; clear hg; simp only []) | (go_at_call 113; refine (HF.out _).mono ?_; rintro e w5 ⟨rfl, hw⟩; subst hw; simp only []) | (go_at_call 45; refine (HN.out rfl _ HG.out).mono ?_; rintro e w6 ⟨rfl, hg6⟩; have HG6 := hidM hg6; clear hg6; simp only []))
            go_ret2
            exact ⟨rfl, HG6.out⟩

      · rw [if_neg k11] at hn
        subst hn
        clear HU HO hul hfl
        cases fb with
        | false =>
          rw [if_neg (fun c => by cases c.1)]
          clear HN
          go_enter Tryz.func105, Tryz.ntmps105
          go_wp2_with (first | (go_at_call 127; refine HI.out.mono ?_; rintro e w4 ⟨er, rfl, hg⟩; have HG := hidM hg; clear hg; simp only []) | (go_at_call 113; refine (HF.out _).mono ?_; rintro e w5 ⟨rfl, hw⟩; subst hw; simp only []))
          go_ret2
          exact ⟨rfl, HG.out⟩
        | true =>
          by_cases hx : (x.toList == t.toList) = true
          · rw [if_pos ⟨rfl, HX1.out hx⟩]
            clear HX1 HX2
            go_enter Tryz.func105, Tryz.ntmps105
            go_wp2_with (first | (go_at_call 127; refine HI.out.mono ?_; rintro e w4 ⟨er, rfl, hg⟩; have HG := hidM hg; clear hg; simp only []) | (go_at_call 113; refine (HF.out _).mono ?_; rintro e w5 ⟨rfl, hw⟩; subst hw; simp only []) | (go_at_call 45; refine (HN.out rfl _ HG.out).mono ?_; rintro e w6 ⟨rfl, hg6⟩; have HG6 := hidM hg6; clear hg6; simp only []))
            go_ret2
            exact ⟨rfl, HG6.out⟩
          · have hx' : (x.toList == t.toList) = false := Bool.eq_false_iff.2 hx
            rw [if_neg (fun c => HX2.out hx' c.2)]
            clear HX1 HX2 hx
            go_enter Tryz.func105, Tryz.ntmps105
            go_wp2_with (first | (go_at_call 127; refine HI.out.mono ?_; rintro e w4 ⟨er, rfl, hg⟩; have HG := hidM hg; clear hg; simp only []) | (go_at_call 113; refine (HF.out _).mono ?_; rintro e w5 ⟨rfl, hw⟩; subst hw; simp only []) | (go_at_call 45; refine (HN.out rfl _ HG.out).mono ?_; rintro e w6 ⟨rfl, hg6⟩; have HG6 := hidM hg6; clear hg6; simp only []))
            go_ret2
            exact ⟨rfl, HG6.out⟩

/-! ### number 70 -/
def NuA (W : World) (p : Nat) (s : ByteArray) (a' : Nat) (er : Int) (o : Option Int) (e : Ending) (W' : World) : Prop :=
  Keeps W W' (fun z => z = p) ∧ match o with
    | some n => e = .returned (.tuple #[.int .i64 n, .bool true]) ∧ Rd W' p s a' er
    | none => e = .returned (.tuple #[.int .i64 0, .bool false]) ∧ Bad W' p s
theorem gr_kp {W W' : World} {S : Nat → Prop} (h : Gr W W') : Keeps W W' S := h.mono (fun b h h' => h'.elim)
theorem number70 (p : Nat) (s : ByteArray) (W : World) (a : Nat) (er : Int) (k : Int) (hk : 1 ≤ k ∧ k ≤ 11) (hT : Tbs W) (hR : Rd W p s a er) : Calls Tryz.prog 70 #[.pointer (some ⟨p, 0, none⟩), .int .i64 k] W (NuA W p s (a + ((s.data.toList.drop a).takeWhile QB.rowB).length) er (QF.numO numB k ((s.data.toList.drop a).takeWhile QB.rowB))) := by
  have HW := hidM (row95_96 p s W a er hR)
  have HR := hidM hR
  have hsl := hR.len
  have hap := hR.pos
  clear hR
  obtain ⟨T, hT'⟩ : ∃ T, T = (s.data.toList.drop a).takeWhile QB.rowB := ⟨_, rfl⟩
  obtain ⟨wd, hwd⟩ : ∃ wd, wd = s.extract a (a + T.length) := ⟨_, rfl⟩
  have hle : a + T.length ≤ s.size := by
    have h := (List.takeWhile_prefix QB.rowB (l := s.data.toList.drop a)).length_le
    rw [← hT'] at h
    simp at h
    omega
  have hws : wd.size = T.length := by
    rw [hwd]; simp [ByteArray.size_extract]; omega
  have hwl : wd.data.toList = T := by
    have h := List.prefix_iff_eq_take.1 (List.takeWhile_prefix QB.rowB (l := s.data.toList.drop a))
    rw [← hT'] at h
    rw [hwd]
    simp [List.extract]
    exact h.symm
  rw [← hT', ← hwd] at HW
  rw [← hT']
  have HN : Hid (∀ W1, Gr W W1 → Calls Tryz.prog 105 #[.int .i64 k, .string wd] W1 (NoA W1 (QF.numO numB k T))) := fun W1 hg => by
    have h := numberOf105 k hk wd (by omega) W1 (hT.gr hg)
    rw [hwl] at h
    exact h
  have hwI : (wd.size : Int) = (T.length : Int) := by omega
  generalize QF.numO numB k T = o at *
  generalize T.length = n at *
  have h1 : IntKind.i64.wrap ((a : Int) + (n : Int)) = ((a + n : Nat) : Int) := by rw [IntKind.wrap_i64]; omega
  clear hwd hwl hT' hT hk hws
  cases o with
  | none =>
    replace HN : Hid (∀ W1, Gr W W1 → Calls Tryz.prog 105 #[.int .i64 k, .string wd] W1 fun e w' => e = .returned (.tuple #[.int .i64 0, .bool false]) ∧ Gr W1 w') := HN
    go_enter Tryz.func70, Tryz.ntmps70
    go_wp2_with (first
      | (go_at_call 95; refine HW.out.mono ?_; rintro e u ⟨rfl, hg⟩; have HG := hidM hg; clear hg; simp only [])
      | (go_at_call 105; refine (HN.out _ HG.out).mono ?_; rintro e u2 ⟨rfl, hg2⟩; have HG2 := hidM (HG.out.trans hg2 (fun _ _ h => h)); clear hg2; simp only [])
      | (go_at_call 30; refine (wrong30 p s _ a er (HR.out.gr HG2.out)).mono ?_; rintro e u3 ⟨rfl, hk3, hr3⟩; have HK3 := hidM hk3; have HR3 := hidM hr3; clear hk3 hr3; simp only []))
    go_ret2
    exact ⟨(gr_kp HG2.out).trans HK3.out (fun _ _ h => h), rfl, HR3.out.isBad⟩
  | some m =>
    replace HN : Hid (∀ W1, Gr W W1 → Calls Tryz.prog 105 #[.int .i64 k, .string wd] W1 fun e w' => e = .returned (.tuple #[.int .i64 m, .bool true]) ∧ Gr W1 w') := HN
    go_enter Tryz.func70, Tryz.ntmps70
    go_wp2_with (first
      | (go_at_call 95; refine HW.out.mono ?_; rintro e u ⟨rfl, hg⟩; have HG := hidM hg; clear hg; simp only [])
      | (go_at_call 105; refine (HN.out _ HG.out).mono ?_; rintro e u2 ⟨rfl, hg2⟩; have HG2 := hidM (HG.out.trans hg2 (fun _ _ h => h)); have e1 := (HR.out.gr HG2.out).cells.2.1; have y1 := (HR.out.gr HG2.out).frz.1; clear hg2; simp only []))
    go_ret2
    exact ⟨(gr_kp HG2.out).trans ((Keeps.refl _ (fun z => z = p)).setCell (p := ⟨p, 1, none⟩) (fun _ => rfl) _) (fun _ _ h => h), rfl, (HR.out.gr HG2.out).set hle⟩
/-! ### meant 144 -/
def hxP (l : List UInt8) : UInt8 := UInt8.ofNat (QD.valU 255 (phE 255 l))
def meantP (s : List UInt8) : UInt8 := match s with
  | _ :: x :: r => if x = 116 then 9 else if x = 110 then 10 else if x = 114 then 13 else if x = 120 then hxP (r.take 2) else x
  | _ => 0
theorem meantP_back (c : UInt8) (r : List UInt8) : meantP (QE.escaped c ++ r) = c := by
  unfold QE.escaped
  by_cases h1 : c = 9
  · rw [if_pos h1, h1]; rfl
  rw [if_neg h1]
  by_cases h2 : c = 10
  · rw [if_pos h2, h2]; rfl
  rw [if_neg h2]
  by_cases h3 : c = 13
  · rw [if_pos h3, h3]; rfl
  rw [if_neg h3]
  by_cases h4 : c = 34
  · rw [if_pos h4, h4]; rfl
  rw [if_neg h4]
  by_cases h5 : c = 92
  · rw [if_pos h5, h5]; rfl
  rw [if_neg h5]
  have hc := c.toNat_lt
  show hxP [QC.hexD (c.toNat / 16), QC.hexD (c.toNat % 16)] = c
  unfold hxP
  have e : QD.parseHex 255 0 [QC.hexD (c.toNat / 16), QC.hexD (c.toNat % 16)] = .ok c.toNat := by
    simp only [QD.parseHex, QC.hexV_D (show c.toNat / 16 < 16 by omega), QC.hexV_D (show c.toNat % 16 < 16 by omega)]
    rw [if_neg (by omega), if_neg (by omega)]
    congr 1
    omega
  unfold phE
  rw [if_neg (by simp), phx_of _ _ _ _ e]
  simp [QD.valU]
theorem escR_P (s : List UInt8) : QE.escR s = if QE.plainB (meantP s) = false ∧ (QE.escaped (meantP s)).isPrefixOf s = true then some ([meantP s], (QE.escaped (meantP s)).length) else none := by
  by_cases h : QE.plainB (meantP s) = false ∧ (QE.escaped (meantP s)).isPrefixOf s = true
  · rw [if_pos h]
    have e : QE.meant s = meantP s := by
      obtain ⟨r, hr⟩ := List.isPrefixOf_iff_prefix.1 h.2
      have := QE.meant_back (meantP s) r
      rw [hr] at this
      exact this
    unfold QE.escR
    rw [e, if_pos h]
  · rw [if_neg h]
    unfold QE.escR
    refine if_neg fun c => h ?_
    have e : meantP s = QE.meant s := by
      obtain ⟨r, hr⟩ := List.isPrefixOf_iff_prefix.1 c.2
      have := meantP_back (QE.meant s) r
      rw [hr] at this
      exact this
    rw [e]
    exact c
theorem slice_2 (t : ByteArray) (M : Nat) (h : 2 ≤ M) (h2 : M ≤ t.size) : ∀ w, (Instr.slice 9 (.string t) (some (.int .i64 2)) (some (.int .i64 (M : Int))) none).run Tryz.prog w = .ok (.string (t.extract 2 M)) w := by
  intro w
  have a1 : (2 : Int) ≤ (M : Int) := by omega
  have a2 : (M : Int) ≤ (t.size : Int) := by omega
  have a3 : (0 : Int) ≤ (M : Int) := by omega
  clear h h2
  go_simp
theorem meant144 (t : ByteArray) (hs : t.size ≤ 1000000) (w : World) (hT : Tbs w) : Calls Tryz.prog 144 #[.string t] w fun e w' => e = .returned (.int .u8 ((meantP t.data.toList).toNat : Int)) ∧ Gr w w' := by
  by_cases h2 : t.size < 2
  · have e : meantP t.data.toList = 0 := by
      have := sz_list t
      unfold meantP
      split
      · rename_i a b c heq
        rw [heq] at this
        simp at this
        omega
      · rfl
    rw [e]
    have h2I : (t.size : Int) < 2 := by omega
    clear e
    go_enter Tryz.func144, Tryz.ntmps144
    go_wp2_with fail
    go_ret
    exact ⟨rfl, Keeps.refl _ _⟩
  · have h2I : ¬ (t.size : Int) < 2 := by omega
    obtain ⟨a, x, r, hl⟩ : ∃ a x r, t.data.toList = a :: x :: r := by
      have := sz_list t
      match h : t.data.toList, this with
      | [], e => simp at e; omega
      | [a], e => simp at e; omega
      | a :: b :: c, e => exact ⟨a, b, c, rfl⟩
    have hx : (t[1]'(by omega)) = x := by
      have := drop_at t 1 (by omega)
      rw [hl] at this
      simp at this
      exact this.symm
    have hix : ∀ w, (Instr.index 9 (.string t) (.int .i64 1)).run Tryz.prog w = .ok (.int .u8 (x.toNat : Int)) w := fun w => by
      have := index_str t 1 (by omega) w
      rw [hx] at this
      exact this
    rw [hl]
    show Calls Tryz.prog 144 #[.string t] w fun e w' => e = .returned (.int .u8 ((if x = 116 then (9 : UInt8) else if x = 110 then 10 else if x = 114 then 13 else if x = 120 then hxP (r.take 2) else x).toNat : Int)) ∧ Gr w w'
    obtain ⟨M, hM⟩ : ∃ M, M = min 4 t.size := ⟨_, rfl⟩
    have hmin : min (4 : Int) (t.size : Int) = (M : Int) := by omega
    have hsl := slice_2 t M (by omega) (by omega)
    have hxl : (t.extract 2 M).data.toList = r.take 2 := by
      have h3 := sz_list t
      rw [hl] at h3
      simp only [List.length_cons] at h3
      simp only [ByteArray.data_extract, Array.toList_extract, hl, List.extract, List.drop_succ_cons, List.drop_zero]
      by_cases h4 : 4 ≤ t.size
      · rw [show M - 2 = 2 by omega]
      · rw [List.take_of_length_le (by omega), List.take_of_length_le (by omega)]
    have HP := hidM (pu16_8 (t.extract 2 M) (by simp; omega) w hT)
    rw [hxl] at HP
    have hv := phE_le 255 (r.take 2)
    unfold hxP
    generalize QD.valU 255 (phE 255 (r.take 2)) = v at *
    generalize t.extract 2 M = ex at *
    have hv2 : (UInt8.ofNat v).toNat = v := by simp; omega
    have hvw : IntKind.u8.wrap (v : Int) = (v : Int) := by rw [IntKind.wrap_u8]; omega
    clear hx hl hM hxl hT hs
    by_cases e1 : x = 116
    · rw [if_pos e1]
      have hn : (x.toNat : Int) = 116 := by rw [e1]; rfl
      rw [hn] at hix
      clear hn e1
      go_enter Tryz.func144, Tryz.ntmps144
      go_wp2_with fail
      go_ret
      exact ⟨rfl, Keeps.refl _ _⟩
    rw [if_neg e1]
    by_cases e2 : x = 110
    · rw [if_pos e2]
      have hn : (x.toNat : Int) = 110 := by rw [e2]; rfl
      rw [hn] at hix
      clear hn e1 e2
      go_enter Tryz.func144, Tryz.ntmps144
      go_wp2_with fail
      go_ret
      exact ⟨rfl, Keeps.refl _ _⟩
    rw [if_neg e2]
    by_cases e3 : x = 114
    · rw [if_pos e3]
      have hn : (x.toNat : Int) = 114 := by rw [e3]; rfl
      rw [hn] at hix
      clear hn e1 e2 e3
      go_enter Tryz.func144, Tryz.ntmps144
      go_wp2_with fail
      go_ret
      exact ⟨rfl, Keeps.refl _ _⟩
    rw [if_neg e3]
    by_cases e4 : x = 120
    · rw [if_pos e4, hv2]
      have hn : (x.toNat : Int) = 120 := by rw [e4]; rfl
      rw [hn] at hix
      clear hn e1 e2 e3 e4 hv2 hv
      go_enter Tryz.func144, Tryz.ntmps144
      go_wp2_with (go_at_call 125; refine HP.out.mono ?_; rintro e w4 ⟨er, rfl, hg⟩; have HG := hidM hg; clear hg; simp only [])
      go_ret
      exact ⟨rfl, HG.out⟩
    rw [if_neg e4]
    have n1 : ¬ (x.toNat : Int) = 116 := fun e => e1 (UInt8.toNat_inj.1 (by show x.toNat = 116; omega))
    have n2 : ¬ (x.toNat : Int) = 110 := fun e => e2 (UInt8.toNat_inj.1 (by show x.toNat = 110; omega))
    have n3 : ¬ (x.toNat : Int) = 114 := fun e => e3 (UInt8.toNat_inj.1 (by show x.toNat = 114; omega))
    have n4 : ¬ (x.toNat : Int) = 120 := fun e => e4 (UInt8.toNat_inj.1 (by show x.toNat = 120; omega))
    generalize x.toNat = xn at *
    clear e1 e2 e3 e4
    go_enter Tryz.func144, Tryz.ntmps144
    go_wp2_with fail
    go_ret
    exact ⟨rfl, Keeps.refl _ _⟩
end Go.Proofs.YtfoifmacobldbaaGreatDoor.Kit
