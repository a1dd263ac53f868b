import Derived.Test.YtfoifmacobldbaaGreatDoorTF
import Derived.Test.YtfoifmacobldbaaGreatDoorNF
import Derived.Deep.RegionHeld3
set_option maxRecDepth 100000
set_option maxHeartbeats 4000000
namespace Go.Proofs.YtfoifmacobldbaaGreatDoor.Kit
open Go.RowKit Go.Shelf Go.Deep
set_option linter.unusedVariables false
set_option linter.unusedSimpArgs false
/-! ### strings.Cut at a p -/
theorem idxB_p : ∀ l : List UInt8, Lib.indexByte l 112 = if (l.takeWhile (fun c => c != 112)).length < l.length then ((l.takeWhile (fun c => c != 112)).length : Int) else -1
  | [] => rfl
  | b :: l => by
    have ih := idxB_p l
    unfold Lib.indexByte
    by_cases hb : b = 112
    · subst hb
      simp
    · have h1 : (b == (112 : UInt8)) = false := by simpa using hb
      have h2 : (b != (112 : UInt8)) = true := by simpa using hb
      rw [h1, List.takeWhile_cons_of_pos (p := fun c => c != 112) h2, List.length_cons, List.length_cons, if_neg (by simp)]
      by_cases h : (l.takeWhile (fun c => c != 112)).length < l.length
      · rw [if_pos h] at ih
        rw [ih, if_neg (by simp), if_pos (by omega)]
        simp
      · rw [if_neg h] at ih
        rw [ih, if_pos (by simp), if_neg (by omega)]
theorem idx146 (s : ByteArray) (w : World) : Calls Tryz.prog 146 #[.string s, .int .u8 112] w fun e w' => e = .returned (.int .i64 (Lib.indexByte s.data.toList 112)) ∧ w' = w := by
  have r : (callFunc 166 #[.string s, .int .u8 112]).run Tryz.prog w = .ok (.value (.int .i64 (Lib.indexByte s.data.toList 112))) w := by
    rw [run_callFunc_extern Tryz.func166 (by kernel_rfl) (by kernel_rfl) (by kernel_rfl) (e := Extern.BytealgIndexByte.indexByte) (by kernel_rfl), Lib.run_indexByteString]
    rfl
  generalize Lib.indexByte s.data.toList 112 = z at r ⊢
  go_enter Tryz.func146, Tryz.ntmps146
  go_wp2
  go_ret
  exact ⟨rfl, rfl⟩
theorem index187 (s : ByteArray) (w : World) : Calls Tryz.prog 187 #[.string s, .string ⟨#[112]⟩] w fun e w' => e = .returned (.int .i64 (Lib.indexByte s.data.toList 112)) ∧ w' = w := by
  have HI := hidM (idx146 s)
  by_cases he : (⟨#[112]⟩ : ByteArray) = s
  · subst he
    rw [show Lib.indexByte (⟨#[112]⟩ : ByteArray).data.toList 112 = 0 from by decide] at HI ⊢
    go_enter Tryz.func187, Tryz.ntmps187
    go_wp2_with (go_at_call 146; refine (HI.out _).mono ?_; rintro e w' ⟨rfl, rfl⟩)
    go_ret
    exact ⟨rfl, rfl⟩
  · have hb : ([112] == s.toList) = false := by
      rw [beq_eq_false_iff_ne]
      intro h
      apply he
      rw [ByteArray.toList_eq] at h
      exact bytes_ext h
    clear he
    generalize Lib.indexByte s.data.toList 112 = z at HI ⊢
    go_enter Tryz.func187, Tryz.ntmps187
    go_wp2_with (go_at_call 146; refine (HI.out _).mono ?_; rintro e w' ⟨rfl, hw⟩; replace hw := hw.symm; subst hw)
    go_ret
    exact ⟨rfl, rfl⟩
theorem cut185 (s : ByteArray) (hs : s.size ≤ 1000000) (w : World) : Calls Tryz.prog 185 #[.string s, .string ⟨#[112]⟩] w fun e w' => ∃ X Y b, e = .returned (.tuple #[.string X, .string Y, .bool b]) ∧ X.data.toList = (QD.cutP s.data.toList).1 ∧ Y.data.toList = (QD.cutP s.data.toList).2 ∧ Gr w w' := by
  have HI := hidM (index187 s)
  rw [idxB_p] at HI
  have hsz : s.data.toList.length = s.size := Array.length_toList
  obtain ⟨i, hi⟩ : ∃ i, i = (s.data.toList.takeWhile (fun c => c != 112)).length := ⟨_, rfl⟩
  rw [← hi] at HI
  have htk : s.data.toList.take i = s.data.toList.takeWhile (fun c => c != 112) := by
    have h := List.takeWhile_prefix (fun c => c != 112) (l := s.data.toList)
    rw [hi]
    exact (List.prefix_iff_eq_take.1 h).symm
  have hdr : s.data.toList.drop i = s.data.toList.dropWhile (fun c => c != 112) := by
    have h := List.takeWhile_append_dropWhile (p := fun c => c != 112) (l := s.data.toList)
    have h2 := congrArg (List.drop i) h
    rw [hi, List.drop_left] at h2
    rw [hi]
    exact h2.symm
  have H1 : Hid (∀ Y : ByteArray, Y.data.toList = s.data.toList.drop (i + 1) → Y.data.toList = (QD.cutP s.data.toList).2) := fun Y h => by
    rw [h]
    unfold QD.cutP
    rw [← hdr, List.drop_drop]
  have H2 : Hid (∀ X : ByteArray, X.data.toList = s.data.toList.take i → X.data.toList = (QD.cutP s.data.toList).1) := fun X h => by rw [h, htk]; rfl
  by_cases h : i < s.size
  · rw [if_pos (by rw [hsz]; exact h)] at HI
    clear hi htk hdr
    have hI0 : (0 : Int) ≤ (i : Int) := by omega
    have hI1 : (i : Int) ≤ (s.size : Int) := by omega
    have hI2 : (i : Int) + 1 ≤ (s.size : Int) := by omega
    have hI3 : IntKind.i64.wrap ((i : Int) + 1) = (i : Int) + 1 := by rw [IntKind.wrap_i64]; omega
    have hsl : ∀ w, (Instr.slice 9 (.string s) (some (.int .i64 ((i : Int) + 1))) none none).run Tryz.prog w = .ok (.string (s.extract (i + 1) s.size)) w := by
      intro w
      rw [show ((i : Int) + 1) = ((i + 1 : Nat) : Int) by omega]
      have : i + 1 ≤ s.size := by omega
      go_simp
      intro h
      omega
    clear hI2
    go_enter Tryz.func185, Tryz.ntmps185
    go_wp2_with (go_at_call 187; refine (HI.out _).mono ?_; rintro e w' ⟨rfl, hw⟩; replace hw := hw.symm; subst hw)
    go_region_held3 (fun w' => True) (exact True.intro) (fail)
    go_wp2_with fail
    go_ret3
    refine ⟨_, _, _, rfl, H2.out _ ?_, H1.out _ (drop_ba s (i + 1)), gr_drew⟩
    simp [List.extract]
  · rw [if_neg (by rw [hsz]; exact h)] at HI
    have hle : i ≤ s.size := by
      rw [hi, ← hsz]
      exact (List.takeWhile_prefix _).length_le
    have hie : i = s.size := by omega
    have HX : Hid (s.data.toList = s.data.toList.take i) := by
      show _ = _
      rw [List.take_of_length_le (by omega)]
    have HY : Hid ((⟨#[]⟩ : ByteArray).data.toList = s.data.toList.drop (i + 1)) := by
      show _ = _
      rw [List.drop_of_length_le (by omega)]
    clear hi htk hdr hle hie h
    go_enter Tryz.func185, Tryz.ntmps185
    go_wp2_with (go_at_call 187; refine (HI.out _).mono ?_; rintro e w' ⟨rfl, rfl⟩)
    go_ret3
    exact ⟨_, _, _, rfl, H2.out _ HX.out, H1.out _ HY.out, Keeps.refl _ _⟩
theorem cut174 (s : ByteArray) (hs : s.size ≤ 1000000) (w : World) : Calls Tryz.prog 174 #[.string s, .string ⟨#[112]⟩] w fun e w' => ∃ X Y b, e = .returned (.tuple #[.string X, .string Y, .bool b]) ∧ X.data.toList = (QD.cutP s.data.toList).1 ∧ Y.data.toList = (QD.cutP s.data.toList).2 ∧ Gr w w' := by
  have HC := hidM (cut185 s hs w)
  go_enter Tryz.func174, Tryz.ntmps174
  go_wp2_with (go_at_call 185; refine HC.out.mono ?_; rintro e w' ⟨X, Y, b, rfl, h1, h2, hg⟩; have HN := hidM (And.intro h1 (And.intro h2 hg)); clear h1 h2 hg)
  go_ret3
  exact ⟨_, _, _, rfl, HN.out.1, HN.out.2.1, HN.out.2.2⟩
/-! ### scaled 175 -/
theorem bitLen_bl (m : Nat) (h : m < 2 ^ 64) : Lib.bitLen m = QA.bl m := by
  have key : ∀ (f x : Nat), x < 2 ^ f → Lib.bitLenAux f x = QA.bl x := by
    intro f
    induction f with
    | zero => intro x hx; have : x = 0 := by simpa using hx
              subst this; rfl
    | succ f ih =>
      intro x hx
      unfold Lib.bitLenAux
      by_cases h0 : x = 0
      · rw [if_pos h0, h0]; rfl
      · rw [if_neg h0, ih (x / 2) (by rw [Nat.pow_succ] at hx; omega)]
        unfold QA.bl
        rw [if_neg h0]
        by_cases h1 : x / 2 = 0
        · rw [if_pos h1]
          have : x = 1 := by omega
          subst this
          rfl
        · rw [if_neg h1]
          have := Nat.log2_def x
          rw [if_pos (by omega)] at this
          omega
  exact key 64 m h
theorem bl_le {m : Nat} (h : m < 2 ^ 53) : QA.bl m ≤ 53 := by
  by_cases h0 : m = 0
  · subst h0; decide
  · exact (QA.bl_lt h0).2 h
theorem scale_lt {m u : Nat} (h : QA.bl m + u ≤ 53) : m * 2 ^ u < 2 ^ 53 := by
  by_cases h0 : m = 0
  · subst h0; simp
  · have h1 : m < 2 ^ QA.bl m := (QA.bl_lt h0).1 (Nat.le_refl _)
    calc m * 2 ^ u < 2 ^ QA.bl m * 2 ^ u := Nat.mul_lt_mul_of_pos_right h1 (Nat.two_pow_pos u)
      _ = 2 ^ (QA.bl m + u) := (Nat.pow_add _ _ _).symm
      _ ≤ 2 ^ 53 := Nat.pow_le_pow_right (by omega) h
/-! ### scaled 175, sizeOf 150, floatOf 126 -/
theorem scaled175_a (m B : Nat) (p up : Int) (w : World) (hp : -32768 ≤ p ∧ p ≤ 32767) (hB : B ≤ 53) (HL : Hid (Calls Tryz.prog 160 #[.int .u64 (m : Int)] w fun e w' => e = .returned (.int .i64 (B : Int)) ∧ w' = w)) (hup : min (53 - (B : Int)) (p + 1074) = up) (h : up < 0 ∨ 2046 ≤ p - up + 1074) :
    Calls Tryz.prog 175 #[.int .u64 (m : Int), .int .i64 p] w fun e w' => e = .returned (.int .u64 0) ∧ w' = w := by
  have h1 : IntKind.i64.wrap (53 - (B : Int)) = 53 - (B : Int) := by rw [IntKind.wrap_i64]; omega
  have h2 : IntKind.i64.wrap (p - -1074) = p + 1074 := by rw [IntKind.wrap_i64]; omega
  have hub : up ≤ 53 ∧ -40000 ≤ up := by omega
  have h4 : IntKind.i64.wrap (p - up) = p - up := by rw [IntKind.wrap_i64]; omega
  have h5 : IntKind.i64.wrap (p - up - -1074) = p - up + 1074 := by rw [IntKind.wrap_i64]; omega
  by_cases hn : up < 0
  · clear h h4 h5 hub
    go_enter Tryz.func175, Tryz.ntmps175
    go_wp2_with (go_at_call 160; refine HL.out.mono ?_; rintro e w' ⟨rfl, hw⟩; replace hw := hw.symm; subst hw; simp only [])
    go_ret
    exact ⟨rfl, rfl⟩
  · have hq : 2046 ≤ p - up + 1074 := by omega
    clear h hub
    go_enter Tryz.func175, Tryz.ntmps175
    go_wp2_with (go_at_call 160; refine HL.out.mono ?_; rintro e w' ⟨rfl, hw⟩; replace hw := hw.symm; subst hw; simp only [])
    go_ret
    exact ⟨rfl, rfl⟩
theorem scaled175_b (m B M : Nat) (p U : Int) (w : World) (hp : -32768 ≤ p ∧ p ≤ 32767) (hB : B ≤ 53) (HL : Hid (Calls Tryz.prog 160 #[.int .u64 (m : Int)] w fun e w' => e = .returned (.int .i64 (B : Int)) ∧ w' = w)) (hup : min (53 - (B : Int)) (p + 1074) = U) (hU : 0 ≤ U) (h : p - U + 1074 < 2046) (hM : (m : Int) * 2 ^ U.toNat = (M : Int)) (hMl : M < 2 ^ 52) :
    Calls Tryz.prog 175 #[.int .u64 (m : Int), .int .i64 p] w fun e w' => e = .returned (.int .u64 (M : Int)) ∧ w' = w := by
  have h1 : IntKind.i64.wrap (53 - (B : Int)) = 53 - (B : Int) := by rw [IntKind.wrap_i64]; omega
  have h2 : IntKind.i64.wrap (p - -1074) = p + 1074 := by rw [IntKind.wrap_i64]; omega
  have hub : U ≤ 53 := by omega
  have h4 : IntKind.i64.wrap (p - U) = p - U := by rw [IntKind.wrap_i64]; omega
  have h5 : IntKind.i64.wrap (p - U - -1074) = p - U + 1074 := by rw [IntKind.wrap_i64]; omega
  have h6 : IntKind.u64.wrap ((m : Int) * 2 ^ U.toNat) = (M : Int) := by rw [hM, IntKind.wrap_u64]; omega
  have h7 : (M : Int) < 4503599627370496 := by omega
  have h8 : ¬ 2046 ≤ p - U + 1074 := by omega
  have hn : ¬ U < 0 := by omega
  clear h hMl hM hU
  go_enter Tryz.func175, Tryz.ntmps175
  repeat any_goals (first | (go_at_call 160; refine HL.out.mono ?_; rintro e w' ⟨rfl, hw⟩; replace hw := hw.symm; subst hw; simp only []) | go_values | go_skip | go_guarded | go_step | go_upon | go_back)
  go_ret
  exact ⟨rfl, rfl⟩
theorem scaled175_c (m B M E R : Nat) (p U : Int) (w : World) (hp : -32768 ≤ p ∧ p ≤ 32767) (hB : B ≤ 53) (HL : Hid (Calls Tryz.prog 160 #[.int .u64 (m : Int)] w fun e w' => e = .returned (.int .i64 (B : Int)) ∧ w' = w)) (hup : min (53 - (B : Int)) (p + 1074) = U) (hU : 0 ≤ U) (hE : p - U + 1075 = (E : Int)) (h : E < 2047) (hM : (m : Int) * 2 ^ U.toNat = (M : Int)) (hM0 : 2 ^ 52 ≤ M) (hMl : M < 2 ^ 53)
    (h9 : bits .and .u64 (M : Int) 4503599627370495 = ((M % 2 ^ 52 : Nat) : Int)) (h10 : bits .or .u64 ((E : Int) * 4503599627370496) ((M % 2 ^ 52 : Nat) : Int) = (R : Int)) :
    Calls Tryz.prog 175 #[.int .u64 (m : Int), .int .i64 p] w fun e w' => e = .returned (.int .u64 (R : Int)) ∧ w' = w := by
  have h1 : IntKind.i64.wrap (53 - (B : Int)) = 53 - (B : Int) := by rw [IntKind.wrap_i64]; omega
  have h2 : IntKind.i64.wrap (p - -1074) = p + 1074 := by rw [IntKind.wrap_i64]; omega
  have hub : U ≤ 53 := by omega
  have h4 : IntKind.i64.wrap (p - U) = p - U := by rw [IntKind.wrap_i64]; omega
  have h5 : IntKind.i64.wrap (p - U - -1074) = p - U + 1074 := by rw [IntKind.wrap_i64]; omega
  have h6 : IntKind.u64.wrap ((m : Int) * 2 ^ U.toNat) = (M : Int) := by rw [hM, IntKind.wrap_u64]; omega
  have h7 : ¬ (M : Int) < 4503599627370496 := by omega
  have h8 : ¬ 2046 ≤ p - U + 1074 := by omega
  have h11 : p - U + 1074 + 1 = (E : Int) := by omega
  have h12 : IntKind.i64.wrap (E : Int) = (E : Int) := by rw [IntKind.wrap_i64]; omega
  have h13 : IntKind.u64.wrap (E : Int) = (E : Int) := by rw [IntKind.wrap_u64]; omega
  have h14 : IntKind.u64.wrap ((E : Int) * 4503599627370496) = (E : Int) * 4503599627370496 := by rw [IntKind.wrap_u64]; omega
  generalize M % 2 ^ 52 = K at h9 h10
  have hn : ¬ U < 0 := by omega
  clear h hMl hM0 hE hM hU
  go_enter Tryz.func175, Tryz.ntmps175
  repeat any_goals (first | (go_at_call 160; refine HL.out.mono ?_; rintro e w' ⟨rfl, hw⟩; replace hw := hw.symm; subst hw; simp only []) | go_values | go_skip | go_guarded | go_step | go_upon | go_back)
  go_ret
  exact ⟨rfl, rfl⟩
theorem scaled175 (m : Nat) (p : Int) (hm : m < 2 ^ 53) (hp : -32768 ≤ p ∧ p ≤ 32767) (w : World) : Calls Tryz.prog 175 #[.int .u64 (m : Int), .int .i64 p] w fun e w' => e = .returned (.int .u64 (QA.scaledN m p : Nat)) ∧ w' = w := by
  have HL : Hid (Calls Tryz.prog 160 #[.int .u64 (m : Int)] w fun e w' => e = .returned (.int .i64 (QA.bl m : Int)) ∧ w' = w) := by
    have h := Tryz.bits_Len64 (m : Int) w (by omega) (by omega)
    rw [Int.toNat_natCast, bitLen_bl m (by omega)] at h
    exact h
  have hB := bl_le hm
  unfold QA.scaledN
  simp only
  obtain ⟨up, hup⟩ : ∃ up, min (53 - (QA.bl m : Int)) (p + 1074) = up := ⟨_, rfl⟩
  rw [hup]
  by_cases h : up < 0 ∨ 2046 ≤ p - up + 1074
  · rw [if_pos h]
    exact scaled175_a m _ p up w hp hB HL hup h
  · rw [if_neg h]
    obtain ⟨u, rfl⟩ : ∃ u : Nat, up = (u : Int) := ⟨up.toNat, by omega⟩
    rw [Int.toNat_natCast]
    have hsl := scale_lt (m := m) (u := u) (by omega)
    have hMi : (m : Int) * 2 ^ u = ((m * 2 ^ u : Nat) : Int) := by rw [Int.natCast_mul, Int.natCast_pow]; rfl
    generalize m * 2 ^ u = M at hsl hMi ⊢
    by_cases hs : M < 2 ^ 52
    · rw [if_pos hs]
      exact scaled175_b m _ M p u w hp hB HL hup (by omega) (by omega) (by rw [Int.toNat_natCast]; exact hMi) hs
    · rw [if_neg hs]
      have hE : p - u + 1075 = (((p - u + 1075).toNat : Nat) : Int) := by omega
      have hEl : (p - u + 1075).toNat < 2047 := by omega
      generalize (p - (u : Int) + 1075).toNat = E at hE hEl ⊢
      refine scaled175_c m _ M E (E * 2 ^ 52 + M % 2 ^ 52) p u w hp hB HL hup (by omega) hE hEl (by rw [Int.toNat_natCast]; exact hMi) (by omega) hsl (and52 M (by omega)) ?_
      have e := bits_or_u64_nat (E * 2 ^ 52) (M % 2 ^ 52) (by omega) (by omega)
      have e2 := Nat.two_pow_add_eq_or_of_lt (show M % 2 ^ 52 < 2 ^ 52 from Nat.mod_lt _ (by decide)) E
      rw [Nat.mul_comm E, ← e2] at e
      rw [Nat.mul_comm E]
      have e3 : (((2 ^ 52 * E : Nat)) : Int) = (E : Int) * 4503599627370496 := by omega
      rw [e3] at e
      exact e
/-! ### sizeOf 150, floatOf 126 -/
theorem valU_le {M : Nat} {x : Lib.NumEnd Nat} (h : ∀ u, x = .ok u → u ≤ M) : QD.valU M x ≤ M := by
  unfold QD.valU
  split
  · exact h _ rfl
  · omega
  · omega
theorem phx_le (M : Nat) : ∀ (l : List UInt8) (a u : Nat), a ≤ M → phx M a l = .ok u → u ≤ M
  | [], a, u, ha, h => by
    unfold phx at h
    cases h
    exact ha
  | c :: r, a, u, ha, h => by
    unfold phx at h
    cases hx : hxw c with
    | none => rw [hx] at h; cases h
    | some d =>
      rw [hx] at h
      simp only at h
      split at h
      · cases h
      · exact phx_le M r _ u (by omega) h
theorem phE_le (M : Nat) (l : List UInt8) : QD.valU M (phE M l) ≤ M := valU_le fun u h => by
  unfold phE at h
  split at h
  · cases h
  · exact phx_le M l 0 u (Nat.zero_le _) h
theorem puB_le (B : Nat) (l : List UInt8) : QD.valU (2 ^ B - 1) (Lib.parseUintB B l) ≤ 2 ^ B - 1 := valU_le fun u h => Lib.parseUintB_le h
theorem piV_rng (B : Nat) (hB : 1 ≤ B) (l : List UInt8) : -((2 ^ (B - 1) : Nat) : Int) ≤ piV B l ∧ piV B l ≤ ((2 ^ (B - 1) : Nat) : Int) - 1 := by
  have hp : 1 ≤ 2 ^ (B - 1) := Nat.two_pow_pos _
  unfold piV
  cases hx : Lib.parseIntB B l with
  | «syntax» => simp only; omega
  | range =>
    simp only [Lib.intSat]
    split <;> omega
  | ok v =>
    simp only
    unfold Lib.parseIntB at hx
    cases l with
    | nil => cases hx
    | cons c r =>
      simp only at hx
      cases hu : Lib.parseUintB B (if c.toNat = 43 ∨ c.toNat = 45 then r else c :: r) with
      | «syntax» => rw [hu] at hx; cases hx
      | range => rw [hu] at hx; cases hx
      | ok u =>
        rw [hu] at hx
        simp only at hx
        generalize 2 ^ (B - 1) = P at *
        split at hx
        · cases hx
        · split at hx
          · cases hx
          · cases hx
            split <;> omega
def sizeOP (row : List UInt8) : Nat :=
  if row = [105, 110, 102] then 2047 * 2 ^ 52
  else if [110, 97, 110].isPrefixOf row = true then 2047 * 2 ^ 52 + QD.valU (2 ^ 52 - 1) (phE (2 ^ 52 - 1) (row.drop 3))
  else QA.scaledN (QD.valU (2 ^ 53 - 1) (Lib.parseUintB 53 (QD.cutP row).1)) (piV 16 (QD.cutP row).2)
theorem scaledN_lt (m : Nat) (p : Int) (hm : m < 2 ^ 53) : QA.scaledN m p < 2047 * 2 ^ 52 := by
  unfold QA.scaledN
  simp only
  generalize min (53 - (QA.bl m : Int)) (p + 1074) = up
  generalize m * 2 ^ up.toNat = K
  split
  · omega
  · split <;> omega
theorem sizeOP_lt (row : List UInt8) : sizeOP row < 2 ^ 63 := by
  unfold sizeOP
  have h := phE_le (2 ^ 52 - 1) (row.drop 3)
  have h2 := scaledN_lt (QD.valU (2 ^ 53 - 1) (Lib.parseUintB 53 (QD.cutP row).1)) (piV 16 (QD.cutP row).2) (by have := puB_le 53 (QD.cutP row).1; omega)
  split
  · omega
  · split <;> omega
theorem or_inf (m : Nat) (h : m < 2 ^ 52) : bits .or .u64 9218868437227405312 (m : Int) = ((2047 * 2 ^ 52 + m : Nat) : Int) := by
  have e := bits_or_u64_nat (2047 * 2 ^ 52) m (by omega) (by omega)
  have e2 := Nat.two_pow_add_eq_or_of_lt h 2047
  rw [Nat.mul_comm, ← e2] at e
  rw [Nat.mul_comm 2047]
  exact e
theorem or_sign (m : Nat) (h : m < 2 ^ 63) : bits .or .u64 (m : Int) 9223372036854775808 = ((m + 2 ^ 63 : Nat) : Int) := by
  have e := bits_or_u64_nat m (2 ^ 63) (by omega) (by omega)
  have e2 := Nat.two_pow_add_eq_or_of_lt h 1
  rw [Nat.or_comm, ← Nat.mul_one (2 ^ 63), ← e2, Nat.mul_one, Nat.add_comm] at e
  exact e
theorem cutP_len (l : List UInt8) : (QD.cutP l).1.length ≤ l.length ∧ (QD.cutP l).2.length ≤ l.length := by
  unfold QD.cutP
  have h1 := (List.takeWhile_prefix (fun c : UInt8 => c != 112) (l := l)).length_le
  have h2 := (List.dropWhile_suffix (fun c : UInt8 => c != 112) (l := l)).length_le
  refine ⟨h1, ?_⟩
  simp only [List.length_drop]
  omega
theorem sz_list (t : ByteArray) : t.data.toList.length = t.size := Array.length_toList
theorem sizeOf150 (t : ByteArray) (hs : t.size ≤ 1000000) (w : World) (hT : Tbs w) : Calls Tryz.prog 150 #[.string t] w fun e w' => e = .returned (.int .u64 (sizeOP t.data.toList : Nat)) ∧ Gr w w' := by
  by_cases h1 : (t.toList == [105, 110, 102]) = true
  · have hl : t.data.toList = [105, 110, 102] := by rw [ByteArray.toList_eq] at h1; simpa using h1
    rw [show sizeOP t.data.toList = 2047 * 2 ^ 52 by rw [hl]; rfl]
    clear hl
    go_enter Tryz.func150, Tryz.ntmps150
    go_wp2_with fail
    go_ret
    exact ⟨rfl, Keeps.refl _ _⟩
  · have h1' : (t.toList == [105, 110, 102]) = false := by simpa using h1
    have hl : t.data.toList ≠ [105, 110, 102] := by
      intro e
      rw [ByteArray.toList_eq, e] at h1
      simp at h1
    have HC := hidM (Tryz.strings_CutPrefix t ⟨#[110, 97, 110]⟩ w)
    have HE : Hid (sizeOP t.data.toList = if [110, 97, 110].isPrefixOf t.data.toList = true then 2047 * 2 ^ 52 + QD.valU (2 ^ 52 - 1) (phE (2 ^ 52 - 1) (t.data.toList.drop 3)) else QA.scaledN (QD.valU (2 ^ 53 - 1) (Lib.parseUintB 53 (QD.cutP t.data.toList).1)) (piV 16 (QD.cutP t.data.toList).2)) := by
      show _ = _
      unfold sizeOP
      rw [if_neg hl]
    rw [HE.out]
    clear h1 hl HE
    by_cases h2 : [110, 97, 110].isPrefixOf t.data.toList = true
    · rw [if_pos h2]
      have hh : Lib.hasPrefix t.data.toList [110, 97, 110] = true := h2
      have htp : Lib.trimPrefix t.data.toList [110, 97, 110] = t.data.toList.drop 3 := by
        unfold Lib.trimPrefix
        rw [if_pos hh]
        rfl
      rw [show (⟨#[110, 97, 110]⟩ : ByteArray).data.toList = [110, 97, 110] from rfl, hh, htp] at HC
      obtain ⟨d, hd⟩ : ∃ d : ByteArray, d = ⟨(t.data.toList.drop 3).toArray⟩ := ⟨_, rfl⟩
      rw [← hd] at HC
      have hdl : d.data.toList = t.data.toList.drop 3 := by rw [hd]
      have hds : d.size ≤ 1000000 := by
        have := sz_list d
        have := sz_list t
        rw [hdl] at *
        simp at *
        omega
      rw [← hdl]
      have HP := hidM (pu16_52 d hds w hT)
      have hle := phE_le (2 ^ 52 - 1) d.data.toList
      generalize QD.valU (2 ^ 52 - 1) (phE (2 ^ 52 - 1) d.data.toList) = m at *
      have ho := or_inf m (by omega)
      generalize 2047 * 2 ^ 52 + m = R at ho ⊢
      clear hd hdl hds hle hh htp h2 hT hs
      go_enter Tryz.func150, Tryz.ntmps150
      go_wp2_with (first
        | (go_at_call 149; refine HC.out.mono ?_; rintro e w' ⟨rfl, hw⟩; replace hw := hw.symm; subst hw; simp only [])
        | (go_at_call 125; refine HP.out.mono ?_; rintro e w' ⟨er, rfl, hg⟩; have HG := hidM hg; clear hg; simp only []))
      go_ret
      exact ⟨rfl, HG.out⟩
    · rw [if_neg h2]
      have hh : Lib.hasPrefix t.data.toList [110, 97, 110] = false := Bool.eq_false_iff.2 h2
      rw [show (⟨#[110, 97, 110]⟩ : ByteArray).data.toList = [110, 97, 110] from rfl, hh] at HC
      have HK := hidM (cut174 t hs w)
      have hcl := cutP_len t.data.toList
      rw [sz_list] at hcl
      have hrg := piV_rng 16 (by omega) (QD.cutP t.data.toList).2
      have hul := puB_le 53 (QD.cutP t.data.toList).1
      have HX : Hid (∀ (X : ByteArray) (W : World), X.data.toList = (QD.cutP t.data.toList).1 → Gr w W → Calls Tryz.prog 125 #[.string X, .int .i64 10, .int .i64 53] W fun e w' => ∃ er, e = .returned (.tuple #[.int .u64 (QD.valU (2 ^ 53 - 1) (Lib.parseUintB 53 (QD.cutP t.data.toList).1) : Nat), er]) ∧ Gr W w') := fun X W hX hg => by
        have h := pu10_53 X (by rw [← sz_list, hX]; omega) W (hT.gr hg)
        rw [hX] at h
        exact h
      have HY : Hid (∀ (X : ByteArray) (W : World), X.data.toList = (QD.cutP t.data.toList).2 → Gr w W → Calls Tryz.prog 127 #[.string X, .int .i64 10, .int .i64 16] W fun e w' => ∃ er, e = .returned (.tuple #[.int .i64 (piV 16 (QD.cutP t.data.toList).2), er]) ∧ Gr W w') := fun X W hX hg => by
        have h := pi16 X (by rw [← sz_list, hX]; omega) W (hT.gr hg)
        rw [hX] at h
        exact h
      generalize QD.valU (2 ^ 53 - 1) (Lib.parseUintB 53 (QD.cutP t.data.toList).1) = m at *
      generalize piV 16 (QD.cutP t.data.toList).2 = q at *
      have HS : Hid (∀ W, Calls Tryz.prog 175 #[.int .u64 (m : Int), .int .i64 q] W fun e w' => e = .returned (.int .u64 (QA.scaledN m q : Nat)) ∧ w' = W) := fun W => scaled175 m q (by omega) (by omega) W
      generalize QA.scaledN m q = R at *
      clear hh h2 hT hs hcl hrg hul
      go_enter Tryz.func150, Tryz.ntmps150
      go_wp2_with (first
        | (go_at_call 149; refine HC.out.mono ?_; rintro e w' ⟨rfl, hw⟩; replace hw := hw.symm; subst hw; simp only [])
        | (go_at_call 174; refine HK.out.mono ?_; rintro e w' ⟨X, Y, b, rfl, hX, hY, hg⟩; have HG := hidM hg; have HhX := hidM hX; have HhY := hidM hY; clear hg hX hY; simp only [])
        | (go_at_call 125; refine (HX.out _ _ HhX.out HG.out).mono ?_; rintro e w2 ⟨er, rfl, hg2⟩; have HG2 := hidM (HG.out.trans hg2 (fun _ _ h => h)); clear hg2; simp only [])
        | (go_at_call 127; refine (HY.out _ _ HhY.out HG2.out).mono ?_; rintro e w3 ⟨er3, rfl, hg3⟩; have HG3 := hidM (HG2.out.trans hg3 (fun _ _ h => h)); clear hg3; simp only [])
        | (go_at_call 175; refine (HS.out _).mono ?_; rintro e w4 ⟨rfl, hw⟩; replace hw := hw.symm; subst hw; simp only []))
      go_ret
      exact ⟨rfl, HG3.out⟩
def floatOP (row : List UInt8) : Nat := if [45].isPrefixOf row = true then sizeOP (row.drop 1) + 2 ^ 63 else sizeOP row
theorem floatOP_lt (row : List UInt8) : floatOP row < 2 ^ 64 := by
  unfold floatOP
  have h1 := sizeOP_lt row
  have h2 := sizeOP_lt (row.drop 1)
  split <;> omega
theorem floatOf126 (t : ByteArray) (hs : t.size ≤ 1000000) (w : World) (hT : Tbs w) : Calls Tryz.prog 126 #[.string t] w fun e w' => e = .returned (.int .u64 (floatOP t.data.toList : Nat)) ∧ Gr w w' := by
  have HC := hidM (Tryz.strings_CutPrefix t ⟨#[45]⟩ w)
  unfold floatOP
  rw [show (⟨#[45]⟩ : ByteArray).data.toList = [45] from rfl] at HC
  by_cases h2 : [45].isPrefixOf t.data.toList = true
  · rw [if_pos h2]
    have hh : Lib.hasPrefix t.data.toList [45] = true := h2
    have htp : Lib.trimPrefix t.data.toList [45] = t.data.toList.drop 1 := by
      unfold Lib.trimPrefix
      rw [if_pos hh]
      rfl
    rw [hh, htp] at HC
    obtain ⟨d, hd⟩ : ∃ d : ByteArray, d = ⟨(t.data.toList.drop 1).toArray⟩ := ⟨_, rfl⟩
    rw [← hd] at HC
    have hdl : d.data.toList = t.data.toList.drop 1 := by rw [hd]
    have hds : d.size ≤ 1000000 := by
      have := sz_list d
      have := sz_list t
      rw [hdl] at *
      simp at *
      omega
    rw [← hdl]
    have HP := hidM (sizeOf150 d hds w hT)
    have hlt := sizeOP_lt d.data.toList
    generalize sizeOP d.data.toList = m at *
    have ho := or_sign m hlt
    generalize m + 2 ^ 63 = R at ho ⊢
    clear hd hdl hds hh htp h2 hT hs hlt
    go_enter Tryz.func126, Tryz.ntmps126
    go_wp2_with (first
      | (go_at_call 149; refine HC.out.mono ?_; rintro e w' ⟨rfl, hw⟩; replace hw := hw.symm; subst hw; simp only [])
      | (go_at_call 150; refine HP.out.mono ?_; rintro e w' ⟨rfl, hg⟩; have HG := hidM hg; clear hg; simp only []))
    go_ret
    exact ⟨rfl, HG.out⟩
  · rw [if_neg h2]
    have hh : Lib.hasPrefix t.data.toList [45] = false := Bool.eq_false_iff.2 h2
    have htp : (⟨(Lib.trimPrefix t.data.toList [45]).toArray⟩ : ByteArray) = t := by
      unfold Lib.trimPrefix
      rw [if_neg (by rw [hh]; simp)]
    rw [hh, htp] at HC
    have HP := hidM (sizeOf150 t hs w hT)
    generalize sizeOP t.data.toList = m at *
    clear hh htp h2 hT hs
    go_enter Tryz.func126, Tryz.ntmps126
    go_wp2_with (first
      | (go_at_call 149; refine HC.out.mono ?_; rintro e w' ⟨rfl, hw⟩; replace hw := hw.symm; subst hw; simp only [])
      | (go_at_call 150; refine HP.out.mono ?_; rintro e w' ⟨rfl, hg⟩; have HG := hidM hg; clear hg; simp only []))
    go_ret
    exact ⟨rfl, HG.out⟩
end Go.Proofs.YtfoifmacobldbaaGreatDoor.Kit
