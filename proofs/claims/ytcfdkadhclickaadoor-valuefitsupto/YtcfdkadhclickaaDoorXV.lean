import Derived.Test.YtcfdkadhclickaaDoorVG
import Derived.Lib.ValidLaws
namespace Go.Proofs.YtcfdkadhclickaaDoor.Kit
open Go.RowKit Go.Shelf Go.Deep
set_option linter.unusedVariables false
attribute [local go_sem] run_store_func

/-! ### the document's Utf8 96, Letters 75 -/
/-- how many bytes the first letter has; 0: it is none -/
def u8N (l : List UInt8) : Nat := if (l.getD 0 0).toNat < 128 then 1 else (Lib.checkN l.length (l.getD 1 0).toNat (l.getD 2 0).toNat (l.getD 3 0).toNat (Lib.firstT (l.getD 0 0).toNat % 8) (Lib.accLo (Lib.firstT (l.getD 0 0).toNat / 16)) (Lib.accHi (Lib.firstT (l.getD 0 0).toNat / 16))).getD 0
theorem getb (s : ByteArray) (p j : Nat) (h : p + j < s.size) : (s.data.toList.drop p).getD j 0 = s[p + j]'h := by
  have h' : p + j < s.data.toList.length := h
  rw [List.getD_eq_getElem?_getD, List.getElem?_drop, List.getElem?_eq_getElem h']
  rfl
theorem lenb (s : ByteArray) (p : Nat) : (s.data.toList.drop p).length = s.size - p := by
  rw [List.length_drop]; rfl
theorem check_no {n b1 b2 b3 sz lo hi : Nat} (hsz : sz = 2 ∨ sz = 3 ∨ sz = 4) (h : n < sz ∨ b1 < lo ∨ hi < b1 ∨ (3 ≤ sz ∧ (b2 < 128 ∨ 191 < b2)) ∨ (4 ≤ sz ∧ (b3 < 128 ∨ 191 < b3))) : (Lib.checkN n b1 b2 b3 sz lo hi).getD 0 = 0 := by
  unfold Lib.checkN
  rcases hsz with rfl | rfl | rfl
  · rw [if_pos rfl, if_pos (by omega)]; rfl
  · rw [if_neg (by decide), if_pos rfl, if_pos (by omega)]; rfl
  · rw [if_neg (by decide), if_neg (by decide), if_pos rfl, if_pos (by omega)]; rfl
theorem check_yes {n b1 b2 b3 sz lo hi : Nat} (hsz : sz = 2 ∨ sz = 3 ∨ sz = 4) (h0 : sz ≤ n) (h1 : lo ≤ b1) (h2 : b1 ≤ hi) (h3 : 3 ≤ sz → 128 ≤ b2 ∧ b2 ≤ 191) (h4 : 4 ≤ sz → 128 ≤ b3 ∧ b3 ≤ 191) : (Lib.checkN n b1 b2 b3 sz lo hi).getD 0 = sz := by
  unfold Lib.checkN
  rcases hsz with rfl | rfl | rfl
  · rw [if_pos rfl, if_neg (by omega)]; rfl
  · have := h3 (by decide)
    rw [if_neg (by decide), if_pos rfl, if_neg (by omega)]; rfl
  · have := h3 (by decide)
    have := h4 (by decide)
    rw [if_neg (by decide), if_neg (by decide), if_pos rfl, if_neg (by omega)]; rfl
set_option maxRecDepth 100000 in
set_option maxHeartbeats 2000000 in
theorem utf8_a (s : ByteArray) (p : Nat) (hp : p < s.size) (hs : s.size ≤ 1000000000000) (w : World) (h : 194 ≤ (s[p]'hp).toNat ∧ (s[p]'hp).toNat ≤ 223) :
    Calls Tryd.prog 96 #[.string s, .int .i64 (p : Int)] w fun e w' => e = .returned (.int .i64 (u8N (s.data.toList.drop p) : Int)) ∧ w = w' := by
  obtain ⟨R, hR⟩ : ∃ R, R = u8N (s.data.toList.drop p) := ⟨_, rfl⟩
  rw [← hR]
  have g0 : ((s.data.toList.drop p).getD 0 0).toNat = (s[p]'hp).toNat := by rw [getb s p 0 hp]; rfl
  have hR2 : R = (Lib.checkN (s.size - p) ((s.data.toList.drop p).getD 1 0).toNat ((s.data.toList.drop p).getD 2 0).toNat ((s.data.toList.drop p).getD 3 0).toNat 2 128 191).getD 0 := by
    rw [hR]
    unfold u8N
    rw [g0, if_neg (by omega), lenb]
    have f1 : Lib.firstT (s[p]'hp).toNat % 8 = 2 ∧ Lib.accLo (Lib.firstT (s[p]'hp).toNat / 16) = 128 ∧ Lib.accHi (Lib.firstT (s[p]'hp).toNat / 16) = 191 := by
      unfold Lib.firstT
      repeat' split
      all_goals first | (exfalso; omega) | decide
    rw [f1.1, f1.2.1, f1.2.2]
  have HR := hidM hR2
  have hpI : (p : Int) < (s.size : Int) := by omega
  have hw : wrap64 ((p : Int) + 2) = (p : Int) + 2 := by unfold wrap64; omega
  have hw1 : wrap64 ((p : Int) + 1) = (p : Int) + 1 := by unfold wrap64; omega
  have k1 : ¬ ((s[p]'hp).toNat : Int) < 128 := by omega
  have k2 : (194 : Int) ≤ ((s[p]'hp).toNat : Int) := by omega
  have k3 : ((s[p]'hp).toNat : Int) ≤ 223 := by omega
  have q224 : (((s[p]'hp).toNat : Int) == 224) = false := by simp; omega
  have q237 : (((s[p]'hp).toNat : Int) == 237) = false := by simp; omega
  have q240 : (((s[p]'hp).toNat : Int) == 240) = false := by simp; omega
  have q244 : (((s[p]'hp).toNat : Int) == 244) = false := by simp; omega
  clear hR hR2 g0 h
  by_cases hin : p + 2 ≤ s.size
  · have hinI : ¬ (s.size : Int) < (p : Int) + 2 := by omega
    have hb1 : p + 1 < s.size := by omega
    have G1 := hidM (getb s p 1 hb1)
    by_cases hlo : (s[p + 1]'hb1).toNat < 128
    · have HX : Hid (R = 0) := by show R = 0; rw [HR.out]; exact check_no (by decide) (.inr (.inl (by rw [G1.out]; exact hlo)))
      have hloI : ((s[p + 1]'hb1).toNat : Int) < 128 := by omega
      clear HR
      go_enter Tryd.func96, Tryd.ntmps96
      go_wp2
      go_ret
      exact ⟨by rw [HX.out]; rfl, rfl⟩
    · by_cases hhi : 191 < (s[p + 1]'hb1).toNat
      · have HX : Hid (R = 0) := by show R = 0; rw [HR.out]; exact check_no (by decide) (.inr (.inr (.inl (by rw [G1.out]; exact hhi))))
        have hloI : ¬ ((s[p + 1]'hb1).toNat : Int) < 128 := by omega
        have hhiI : (191 : Int) < ((s[p + 1]'hb1).toNat : Int) := by omega
        clear HR
        go_enter Tryd.func96, Tryd.ntmps96
        go_wp2
        go_ret
        exact ⟨by rw [HX.out]; rfl, rfl⟩
      · have hloI : ¬ ((s[p + 1]'hb1).toNat : Int) < 128 := by omega
        have hhiI : ¬ (191 : Int) < ((s[p + 1]'hb1).toNat : Int) := by omega
        go_enter Tryd.func96, Tryd.ntmps96
        go_wp2
        go_loop [9] (fun i => ∃ k : Nat, 2 ≤ k ∧ k ≤ 2 ∧ i = .int .i64 (k : Int) ∧ Hid (∀ j, 2 ≤ j → j < k → 128 ≤ ((s.data.toList.drop p).getD j 0).toNat ∧ ((s.data.toList.drop p).getD j 0).toNat ≤ 191)) (fun i => 2 - (intOf i).toNat)
        case atStart => exact ⟨2, by decide, by decide, rfl, fun j h1 h2 => by omega⟩
        case round =>
          obtain ⟨k, hk2, hk, rfl, HI⟩ := hrel
          by_cases hlt : k < 2
          · exact absurd hlt (by omega)
          · obtain rfl : k = 2 := by omega
            have HX : Hid (R = 2) := by show R = 2; rw [HR.out]; exact check_yes (by decide) (by omega) (by rw [G1.out]; omega) (by rw [G1.out]; omega) (fun h => HI.out 2 (by omega) (by omega)) (fun h => HI.out 3 (by omega) (by omega))
            clear HR HI
            go_wp2_with fail
            go_ret
            exact ⟨by rw [HX.out]; rfl, rfl⟩
  · have HX : Hid (R = 0) := by show R = 0; rw [HR.out]; exact check_no (by decide) (.inl (by omega))
    have hinI : (s.size : Int) < (p : Int) + 2 := by omega
    clear HR
    go_enter Tryd.func96, Tryd.ntmps96
    go_wp2
    go_ret
    exact ⟨by rw [HX.out]; rfl, rfl⟩
set_option maxRecDepth 100000 in
set_option maxHeartbeats 2000000 in
theorem utf8_b (s : ByteArray) (p : Nat) (hp : p < s.size) (hs : s.size ≤ 1000000000000) (w : World) (h : (s[p]'hp).toNat = 224) :
    Calls Tryd.prog 96 #[.string s, .int .i64 (p : Int)] w fun e w' => e = .returned (.int .i64 (u8N (s.data.toList.drop p) : Int)) ∧ w = w' := by
  obtain ⟨R, hR⟩ : ∃ R, R = u8N (s.data.toList.drop p) := ⟨_, rfl⟩
  rw [← hR]
  have g0 : ((s.data.toList.drop p).getD 0 0).toNat = (s[p]'hp).toNat := by rw [getb s p 0 hp]; rfl
  have hR2 : R = (Lib.checkN (s.size - p) ((s.data.toList.drop p).getD 1 0).toNat ((s.data.toList.drop p).getD 2 0).toNat ((s.data.toList.drop p).getD 3 0).toNat 3 160 191).getD 0 := by
    rw [hR]
    unfold u8N
    rw [g0, if_neg (by omega), lenb]
    have f1 : Lib.firstT (s[p]'hp).toNat % 8 = 3 ∧ Lib.accLo (Lib.firstT (s[p]'hp).toNat / 16) = 160 ∧ Lib.accHi (Lib.firstT (s[p]'hp).toNat / 16) = 191 := by
      unfold Lib.firstT
      repeat' split
      all_goals first | (exfalso; omega) | decide
    rw [f1.1, f1.2.1, f1.2.2]
  have HR := hidM hR2
  have hpI : (p : Int) < (s.size : Int) := by omega
  have hw : wrap64 ((p : Int) + 3) = (p : Int) + 3 := by unfold wrap64; omega
  have hw1 : wrap64 ((p : Int) + 1) = (p : Int) + 1 := by unfold wrap64; omega
  have k1 : ¬ ((s[p]'hp).toNat : Int) < 128 := by omega
  have k2 : (194 : Int) ≤ ((s[p]'hp).toNat : Int) := by omega
  have k3 : ¬ ((s[p]'hp).toNat : Int) ≤ 223 := by omega
  have k4 : (224 : Int) ≤ ((s[p]'hp).toNat : Int) := by omega
  have k5 : ((s[p]'hp).toNat : Int) ≤ 239 := by omega
  have q224 : (((s[p]'hp).toNat : Int) == 224) = true := by simp; omega
  have q237 : (((s[p]'hp).toNat : Int) == 237) = false := by simp; omega
  have q240 : (((s[p]'hp).toNat : Int) == 240) = false := by simp; omega
  have q244 : (((s[p]'hp).toNat : Int) == 244) = false := by simp; omega
  clear hR hR2 g0 h
  by_cases hin : p + 3 ≤ s.size
  · have hinI : ¬ (s.size : Int) < (p : Int) + 3 := by omega
    have hb1 : p + 1 < s.size := by omega
    have G1 := hidM (getb s p 1 hb1)
    by_cases hlo : (s[p + 1]'hb1).toNat < 160
    · have HX : Hid (R = 0) := by show R = 0; rw [HR.out]; exact check_no (by decide) (.inr (.inl (by rw [G1.out]; exact hlo)))
      have hloI : ((s[p + 1]'hb1).toNat : Int) < 160 := by omega
      clear HR
      go_enter Tryd.func96, Tryd.ntmps96
      go_wp2
      go_ret
      exact ⟨by rw [HX.out]; rfl, rfl⟩
    · by_cases hhi : 191 < (s[p + 1]'hb1).toNat
      · have HX : Hid (R = 0) := by show R = 0; rw [HR.out]; exact check_no (by decide) (.inr (.inr (.inl (by rw [G1.out]; exact hhi))))
        have hloI : ¬ ((s[p + 1]'hb1).toNat : Int) < 160 := by omega
        have hhiI : (191 : Int) < ((s[p + 1]'hb1).toNat : Int) := by omega
        clear HR
        go_enter Tryd.func96, Tryd.ntmps96
        go_wp2
        go_ret
        exact ⟨by rw [HX.out]; rfl, rfl⟩
      · have hloI : ¬ ((s[p + 1]'hb1).toNat : Int) < 160 := by omega
        have hhiI : ¬ (191 : Int) < ((s[p + 1]'hb1).toNat : Int) := by omega
        go_enter Tryd.func96, Tryd.ntmps96
        go_wp2
        go_loop [9] (fun i => ∃ k : Nat, 2 ≤ k ∧ k ≤ 3 ∧ i = .int .i64 (k : Int) ∧ Hid (∀ j, 2 ≤ j → j < k → 128 ≤ ((s.data.toList.drop p).getD j 0).toNat ∧ ((s.data.toList.drop p).getD j 0).toNat ≤ 191)) (fun i => 3 - (intOf i).toNat)
        case atStart => exact ⟨2, by decide, by decide, rfl, fun j h1 h2 => by omega⟩
        case round =>
          obtain ⟨k, hk2, hk, rfl, HI⟩ := hrel
          by_cases hlt : k < 3
          · have hbk : p + k < s.size := by omega
            have GK := hidM (getb s p k hbk)
            have hwk : wrap64 ((p : Int) + (k : Int)) = (p : Int) + (k : Int) := by unfold wrap64; omega
            have hltI : (k : Int) < 3 := by omega
            by_cases h8 : (s[p + k]'hbk).toNat < 128
            · have HX : Hid (R = 0) := by
                show R = 0
                rw [HR.out]
                have hk' : k = 2 ∨ k = 3 := by omega
                rcases hk' with rfl | rfl
                · exact check_no (by decide) (.inr (.inr (.inr (.inl ⟨by omega, .inl (by rw [GK.out]; exact h8)⟩))))
                · exact check_no (by decide) (.inr (.inr (.inr (.inr ⟨by omega, .inl (by rw [GK.out]; exact h8)⟩))))
              have h8I : ((s[p + k]'hbk).toNat : Int) < 128 := by omega
              clear HR HI
              go_wp2_with fail
              go_ret
              exact ⟨by rw [HX.out]; rfl, rfl⟩
            · by_cases h9 : 191 < (s[p + k]'hbk).toNat
              · have HX : Hid (R = 0) := by
                  show R = 0
                  rw [HR.out]
                  have hk' : k = 2 ∨ k = 3 := by omega
                  rcases hk' with rfl | rfl
                  · exact check_no (by decide) (.inr (.inr (.inr (.inl ⟨by omega, .inr (by rw [GK.out]; exact h9)⟩))))
                  · exact check_no (by decide) (.inr (.inr (.inr (.inr ⟨by omega, .inr (by rw [GK.out]; exact h9)⟩))))
                have h8I : ¬ ((s[p + k]'hbk).toNat : Int) < 128 := by omega
                have h9I : (191 : Int) < ((s[p + k]'hbk).toNat : Int) := by omega
                clear HR HI
                go_wp2_with fail
                go_ret
                exact ⟨by rw [HX.out]; rfl, rfl⟩
              · have h8I : ¬ ((s[p + k]'hbk).toNat : Int) < 128 := by omega
                have h9I : ¬ (191 : Int) < ((s[p + k]'hbk).toNat : Int) := by omega
                have HJ : Hid (∀ j, 2 ≤ j → j < k + 1 → 128 ≤ ((s.data.toList.drop p).getD j 0).toNat ∧ ((s.data.toList.drop p).getD j 0).toNat ≤ 191) := fun j h1 h2 => by
                  by_cases e : j = k
                  · subst e
                    rw [GK.out]
                    omega
                  · exact HI.out j h1 (by omega)
                clear HI
                go_wp2_with fail
                go_round
                case rel => exact ⟨k + 1, by omega, by omega, by simp, HJ.out⟩
                case measure => simp [intOf]; omega
          · obtain rfl : k = 3 := by omega
            have HX : Hid (R = 3) := by show R = 3; rw [HR.out]; exact check_yes (by decide) (by omega) (by rw [G1.out]; omega) (by rw [G1.out]; omega) (fun h => HI.out 2 (by omega) (by omega)) (fun h => HI.out 3 (by omega) (by omega))
            clear HR HI
            go_wp2_with fail
            go_ret
            exact ⟨by rw [HX.out]; rfl, rfl⟩
  · have HX : Hid (R = 0) := by show R = 0; rw [HR.out]; exact check_no (by decide) (.inl (by omega))
    have hinI : (s.size : Int) < (p : Int) + 3 := by omega
    clear HR
    go_enter Tryd.func96, Tryd.ntmps96
    go_wp2
    go_ret
    exact ⟨by rw [HX.out]; rfl, rfl⟩
set_option maxRecDepth 100000 in
set_option maxHeartbeats 2000000 in
theorem utf8_c (s : ByteArray) (p : Nat) (hp : p < s.size) (hs : s.size ≤ 1000000000000) (w : World) (h : (225 ≤ (s[p]'hp).toNat ∧ (s[p]'hp).toNat ≤ 236) ∨ (238 ≤ (s[p]'hp).toNat ∧ (s[p]'hp).toNat ≤ 239)) :
    Calls Tryd.prog 96 #[.string s, .int .i64 (p : Int)] w fun e w' => e = .returned (.int .i64 (u8N (s.data.toList.drop p) : Int)) ∧ w = w' := by
  obtain ⟨R, hR⟩ : ∃ R, R = u8N (s.data.toList.drop p) := ⟨_, rfl⟩
  rw [← hR]
  have g0 : ((s.data.toList.drop p).getD 0 0).toNat = (s[p]'hp).toNat := by rw [getb s p 0 hp]; rfl
  have hR2 : R = (Lib.checkN (s.size - p) ((s.data.toList.drop p).getD 1 0).toNat ((s.data.toList.drop p).getD 2 0).toNat ((s.data.toList.drop p).getD 3 0).toNat 3 128 191).getD 0 := by
    rw [hR]
    unfold u8N
    rw [g0, if_neg (by omega), lenb]
    have f1 : Lib.firstT (s[p]'hp).toNat % 8 = 3 ∧ Lib.accLo (Lib.firstT (s[p]'hp).toNat / 16) = 128 ∧ Lib.accHi (Lib.firstT (s[p]'hp).toNat / 16) = 191 := by
      unfold Lib.firstT
      repeat' split
      all_goals first | (exfalso; omega) | decide
    rw [f1.1, f1.2.1, f1.2.2]
  have HR := hidM hR2
  have hpI : (p : Int) < (s.size : Int) := by omega
  have hw : wrap64 ((p : Int) + 3) = (p : Int) + 3 := by unfold wrap64; omega
  have hw1 : wrap64 ((p : Int) + 1) = (p : Int) + 1 := by unfold wrap64; omega
  have k1 : ¬ ((s[p]'hp).toNat : Int) < 128 := by omega
  have k2 : (194 : Int) ≤ ((s[p]'hp).toNat : Int) := by omega
  have k3 : ¬ ((s[p]'hp).toNat : Int) ≤ 223 := by omega
  have k4 : (224 : Int) ≤ ((s[p]'hp).toNat : Int) := by omega
  have k5 : ((s[p]'hp).toNat : Int) ≤ 239 := by omega
  have q224 : (((s[p]'hp).toNat : Int) == 224) = false := by simp; omega
  have q237 : (((s[p]'hp).toNat : Int) == 237) = false := by simp; omega
  have q240 : (((s[p]'hp).toNat : Int) == 240) = false := by simp; omega
  have q244 : (((s[p]'hp).toNat : Int) == 244) = false := by simp; omega
  clear hR hR2 g0 h
  by_cases hin : p + 3 ≤ s.size
  · have hinI : ¬ (s.size : Int) < (p : Int) + 3 := by omega
    have hb1 : p + 1 < s.size := by omega
    have G1 := hidM (getb s p 1 hb1)
    by_cases hlo : (s[p + 1]'hb1).toNat < 128
    · have HX : Hid (R = 0) := by show R = 0; rw [HR.out]; exact check_no (by decide) (.inr (.inl (by rw [G1.out]; exact hlo)))
      have hloI : ((s[p + 1]'hb1).toNat : Int) < 128 := by omega
      clear HR
      go_enter Tryd.func96, Tryd.ntmps96
      go_wp2
      go_ret
      exact ⟨by rw [HX.out]; rfl, rfl⟩
    · by_cases hhi : 191 < (s[p + 1]'hb1).toNat
      · have HX : Hid (R = 0) := by show R = 0; rw [HR.out]; exact check_no (by decide) (.inr (.inr (.inl (by rw [G1.out]; exact hhi))))
        have hloI : ¬ ((s[p + 1]'hb1).toNat : Int) < 128 := by omega
        have hhiI : (191 : Int) < ((s[p + 1]'hb1).toNat : Int) := by omega
        clear HR
        go_enter Tryd.func96, Tryd.ntmps96
        go_wp2
        go_ret
        exact ⟨by rw [HX.out]; rfl, rfl⟩
      · have hloI : ¬ ((s[p + 1]'hb1).toNat : Int) < 128 := by omega
        have hhiI : ¬ (191 : Int) < ((s[p + 1]'hb1).toNat : Int) := by omega
        go_enter Tryd.func96, Tryd.ntmps96
        go_wp2
        go_loop [9] (fun i => ∃ k : Nat, 2 ≤ k ∧ k ≤ 3 ∧ i = .int .i64 (k : Int) ∧ Hid (∀ j, 2 ≤ j → j < k → 128 ≤ ((s.data.toList.drop p).getD j 0).toNat ∧ ((s.data.toList.drop p).getD j 0).toNat ≤ 191)) (fun i => 3 - (intOf i).toNat)
        case atStart => exact ⟨2, by decide, by decide, rfl, fun j h1 h2 => by omega⟩
        case round =>
          obtain ⟨k, hk2, hk, rfl, HI⟩ := hrel
          by_cases hlt : k < 3
          · have hbk : p + k < s.size := by omega
            have GK := hidM (getb s p k hbk)
            have hwk : wrap64 ((p : Int) + (k : Int)) = (p : Int) + (k : Int) := by unfold wrap64; omega
            have hltI : (k : Int) < 3 := by omega
            by_cases h8 : (s[p + k]'hbk).toNat < 128
            · have HX : Hid (R = 0) := by
                show R = 0
                rw [HR.out]
                have hk' : k = 2 ∨ k = 3 := by omega
                rcases hk' with rfl | rfl
                · exact check_no (by decide) (.inr (.inr (.inr (.inl ⟨by omega, .inl (by rw [GK.out]; exact h8)⟩))))
                · exact check_no (by decide) (.inr (.inr (.inr (.inr ⟨by omega, .inl (by rw [GK.out]; exact h8)⟩))))
              have h8I : ((s[p + k]'hbk).toNat : Int) < 128 := by omega
              clear HR HI
              go_wp2_with fail
              go_ret
              exact ⟨by rw [HX.out]; rfl, rfl⟩
            · by_cases h9 : 191 < (s[p + k]'hbk).toNat
              · have HX : Hid (R = 0) := by
                  show R = 0
                  rw [HR.out]
                  have hk' : k = 2 ∨ k = 3 := by omega
                  rcases hk' with rfl | rfl
                  · exact check_no (by decide) (.inr (.inr (.inr (.inl ⟨by omega, .inr (by rw [GK.out]; exact h9)⟩))))
                  · exact check_no (by decide) (.inr (.inr (.inr (.inr ⟨by omega, .inr (by rw [GK.out]; exact h9)⟩))))
                have h8I : ¬ ((s[p + k]'hbk).toNat : Int) < 128 := by omega
                have h9I : (191 : Int) < ((s[p + k]'hbk).toNat : Int) := by omega
                clear HR HI
                go_wp2_with fail
                go_ret
                exact ⟨by rw [HX.out]; rfl, rfl⟩
              · have h8I : ¬ ((s[p + k]'hbk).toNat : Int) < 128 := by omega
                have h9I : ¬ (191 : Int) < ((s[p + k]'hbk).toNat : Int) := by omega
                have HJ : Hid (∀ j, 2 ≤ j → j < k + 1 → 128 ≤ ((s.data.toList.drop p).getD j 0).toNat ∧ ((s.data.toList.drop p).getD j 0).toNat ≤ 191) := fun j h1 h2 => by
                  by_cases e : j = k
                  · subst e
                    rw [GK.out]
                    omega
                  · exact HI.out j h1 (by omega)
                clear HI
                go_wp2_with fail
                go_round
                case rel => exact ⟨k + 1, by omega, by omega, by simp, HJ.out⟩
                case measure => simp [intOf]; omega
          · obtain rfl : k = 3 := by omega
            have HX : Hid (R = 3) := by show R = 3; rw [HR.out]; exact check_yes (by decide) (by omega) (by rw [G1.out]; omega) (by rw [G1.out]; omega) (fun h => HI.out 2 (by omega) (by omega)) (fun h => HI.out 3 (by omega) (by omega))
            clear HR HI
            go_wp2_with fail
            go_ret
            exact ⟨by rw [HX.out]; rfl, rfl⟩
  · have HX : Hid (R = 0) := by show R = 0; rw [HR.out]; exact check_no (by decide) (.inl (by omega))
    have hinI : (s.size : Int) < (p : Int) + 3 := by omega
    clear HR
    go_enter Tryd.func96, Tryd.ntmps96
    go_wp2
    go_ret
    exact ⟨by rw [HX.out]; rfl, rfl⟩
set_option maxRecDepth 100000 in
set_option maxHeartbeats 2000000 in
theorem utf8_d (s : ByteArray) (p : Nat) (hp : p < s.size) (hs : s.size ≤ 1000000000000) (w : World) (h : (s[p]'hp).toNat = 237) :
    Calls Tryd.prog 96 #[.string s, .int .i64 (p : Int)] w fun e w' => e = .returned (.int .i64 (u8N (s.data.toList.drop p) : Int)) ∧ w = w' := by
  obtain ⟨R, hR⟩ : ∃ R, R = u8N (s.data.toList.drop p) := ⟨_, rfl⟩
  rw [← hR]
  have g0 : ((s.data.toList.drop p).getD 0 0).toNat = (s[p]'hp).toNat := by rw [getb s p 0 hp]; rfl
  have hR2 : R = (Lib.checkN (s.size - p) ((s.data.toList.drop p).getD 1 0).toNat ((s.data.toList.drop p).getD 2 0).toNat ((s.data.toList.drop p).getD 3 0).toNat 3 128 159).getD 0 := by
    rw [hR]
    unfold u8N
    rw [g0, if_neg (by omega), lenb]
    have f1 : Lib.firstT (s[p]'hp).toNat % 8 = 3 ∧ Lib.accLo (Lib.firstT (s[p]'hp).toNat / 16) = 128 ∧ Lib.accHi (Lib.firstT (s[p]'hp).toNat / 16) = 159 := by
      unfold Lib.firstT
      repeat' split
      all_goals first | (exfalso; omega) | decide
    rw [f1.1, f1.2.1, f1.2.2]
  have HR := hidM hR2
  have hpI : (p : Int) < (s.size : Int) := by omega
  have hw : wrap64 ((p : Int) + 3) = (p : Int) + 3 := by unfold wrap64; omega
  have hw1 : wrap64 ((p : Int) + 1) = (p : Int) + 1 := by unfold wrap64; omega
  have k1 : ¬ ((s[p]'hp).toNat : Int) < 128 := by omega
  have k2 : (194 : Int) ≤ ((s[p]'hp).toNat : Int) := by omega
  have k3 : ¬ ((s[p]'hp).toNat : Int) ≤ 223 := by omega
  have k4 : (224 : Int) ≤ ((s[p]'hp).toNat : Int) := by omega
  have k5 : ((s[p]'hp).toNat : Int) ≤ 239 := by omega
  have q224 : (((s[p]'hp).toNat : Int) == 224) = false := by simp; omega
  have q237 : (((s[p]'hp).toNat : Int) == 237) = true := by simp; omega
  have q240 : (((s[p]'hp).toNat : Int) == 240) = false := by simp; omega
  have q244 : (((s[p]'hp).toNat : Int) == 244) = false := by simp; omega
  clear hR hR2 g0 h
  by_cases hin : p + 3 ≤ s.size
  · have hinI : ¬ (s.size : Int) < (p : Int) + 3 := by omega
    have hb1 : p + 1 < s.size := by omega
    have G1 := hidM (getb s p 1 hb1)
    by_cases hlo : (s[p + 1]'hb1).toNat < 128
    · have HX : Hid (R = 0) := by show R = 0; rw [HR.out]; exact check_no (by decide) (.inr (.inl (by rw [G1.out]; exact hlo)))
      have hloI : ((s[p + 1]'hb1).toNat : Int) < 128 := by omega
      clear HR
      go_enter Tryd.func96, Tryd.ntmps96
      go_wp2
      go_ret
      exact ⟨by rw [HX.out]; rfl, rfl⟩
    · by_cases hhi : 159 < (s[p + 1]'hb1).toNat
      · have HX : Hid (R = 0) := by show R = 0; rw [HR.out]; exact check_no (by decide) (.inr (.inr (.inl (by rw [G1.out]; exact hhi))))
        have hloI : ¬ ((s[p + 1]'hb1).toNat : Int) < 128 := by omega
        have hhiI : (159 : Int) < ((s[p + 1]'hb1).toNat : Int) := by omega
        clear HR
        go_enter Tryd.func96, Tryd.ntmps96
        go_wp2
        go_ret
        exact ⟨by rw [HX.out]; rfl, rfl⟩
      · have hloI : ¬ ((s[p + 1]'hb1).toNat : Int) < 128 := by omega
        have hhiI : ¬ (159 : Int) < ((s[p + 1]'hb1).toNat : Int) := by omega
        go_enter Tryd.func96, Tryd.ntmps96
        go_wp2
        go_loop [9] (fun i => ∃ k : Nat, 2 ≤ k ∧ k ≤ 3 ∧ i = .int .i64 (k : Int) ∧ Hid (∀ j, 2 ≤ j → j < k → 128 ≤ ((s.data.toList.drop p).getD j 0).toNat ∧ ((s.data.toList.drop p).getD j 0).toNat ≤ 191)) (fun i => 3 - (intOf i).toNat)
        case atStart => exact ⟨2, by decide, by decide, rfl, fun j h1 h2 => by omega⟩
        case round =>
          obtain ⟨k, hk2, hk, rfl, HI⟩ := hrel
          by_cases hlt : k < 3
          · have hbk : p + k < s.size := by omega
            have GK := hidM (getb s p k hbk)
            have hwk : wrap64 ((p : Int) + (k : Int)) = (p : Int) + (k : Int) := by unfold wrap64; omega
            have hltI : (k : Int) < 3 := by omega
            by_cases h8 : (s[p + k]'hbk).toNat < 128
            · have HX : Hid (R = 0) := by
                show R = 0
                rw [HR.out]
                have hk' : k = 2 ∨ k = 3 := by omega
                rcases hk' with rfl | rfl
                · exact check_no (by decide) (.inr (.inr (.inr (.inl ⟨by omega, .inl (by rw [GK.out]; exact h8)⟩))))
                · exact check_no (by decide) (.inr (.inr (.inr (.inr ⟨by omega, .inl (by rw [GK.out]; exact h8)⟩))))
              have h8I : ((s[p + k]'hbk).toNat : Int) < 128 := by omega
              clear HR HI
              go_wp2_with fail
              go_ret
              exact ⟨by rw [HX.out]; rfl, rfl⟩
            · by_cases h9 : 191 < (s[p + k]'hbk).toNat
              · have HX : Hid (R = 0) := by
                  show R = 0
                  rw [HR.out]
                  have hk' : k = 2 ∨ k = 3 := by omega
                  rcases hk' with rfl | rfl
                  · exact check_no (by decide) (.inr (.inr (.inr (.inl ⟨by omega, .inr (by rw [GK.out]; exact h9)⟩))))
                  · exact check_no (by decide) (.inr (.inr (.inr (.inr ⟨by omega, .inr (by rw [GK.out]; exact h9)⟩))))
                have h8I : ¬ ((s[p + k]'hbk).toNat : Int) < 128 := by omega
                have h9I : (191 : Int) < ((s[p + k]'hbk).toNat : Int) := by omega
                clear HR HI
                go_wp2_with fail
                go_ret
                exact ⟨by rw [HX.out]; rfl, rfl⟩
              · have h8I : ¬ ((s[p + k]'hbk).toNat : Int) < 128 := by omega
                have h9I : ¬ (191 : Int) < ((s[p + k]'hbk).toNat : Int) := by omega
                have HJ : Hid (∀ j, 2 ≤ j → j < k + 1 → 128 ≤ ((s.data.toList.drop p).getD j 0).toNat ∧ ((s.data.toList.drop p).getD j 0).toNat ≤ 191) := fun j h1 h2 => by
                  by_cases e : j = k
                  · subst e
                    rw [GK.out]
                    omega
                  · exact HI.out j h1 (by omega)
                clear HI
                go_wp2_with fail
                go_round
                case rel => exact ⟨k + 1, by omega, by omega, by simp, HJ.out⟩
                case measure => simp [intOf]; omega
          · obtain rfl : k = 3 := by omega
            have HX : Hid (R = 3) := by show R = 3; rw [HR.out]; exact check_yes (by decide) (by omega) (by rw [G1.out]; omega) (by rw [G1.out]; omega) (fun h => HI.out 2 (by omega) (by omega)) (fun h => HI.out 3 (by omega) (by omega))
            clear HR HI
            go_wp2_with fail
            go_ret
            exact ⟨by rw [HX.out]; rfl, rfl⟩
  · have HX : Hid (R = 0) := by show R = 0; rw [HR.out]; exact check_no (by decide) (.inl (by omega))
    have hinI : (s.size : Int) < (p : Int) + 3 := by omega
    clear HR
    go_enter Tryd.func96, Tryd.ntmps96
    go_wp2
    go_ret
    exact ⟨by rw [HX.out]; rfl, rfl⟩
set_option maxRecDepth 100000 in
set_option maxHeartbeats 2000000 in
theorem utf8_e (s : ByteArray) (p : Nat) (hp : p < s.size) (hs : s.size ≤ 1000000000000) (w : World) (h : (s[p]'hp).toNat = 240) :
    Calls Tryd.prog 96 #[.string s, .int .i64 (p : Int)] w fun e w' => e = .returned (.int .i64 (u8N (s.data.toList.drop p) : Int)) ∧ w = w' := by
  obtain ⟨R, hR⟩ : ∃ R, R = u8N (s.data.toList.drop p) := ⟨_, rfl⟩
  rw [← hR]
  have g0 : ((s.data.toList.drop p).getD 0 0).toNat = (s[p]'hp).toNat := by rw [getb s p 0 hp]; rfl
  have hR2 : R = (Lib.checkN (s.size - p) ((s.data.toList.drop p).getD 1 0).toNat ((s.data.toList.drop p).getD 2 0).toNat ((s.data.toList.drop p).getD 3 0).toNat 4 144 191).getD 0 := by
    rw [hR]
    unfold u8N
    rw [g0, if_neg (by omega), lenb]
    have f1 : Lib.firstT (s[p]'hp).toNat % 8 = 4 ∧ Lib.accLo (Lib.firstT (s[p]'hp).toNat / 16) = 144 ∧ Lib.accHi (Lib.firstT (s[p]'hp).toNat / 16) = 191 := by
      unfold Lib.firstT
      repeat' split
      all_goals first | (exfalso; omega) | decide
    rw [f1.1, f1.2.1, f1.2.2]
  have HR := hidM hR2
  have hpI : (p : Int) < (s.size : Int) := by omega
  have hw : wrap64 ((p : Int) + 4) = (p : Int) + 4 := by unfold wrap64; omega
  have hw1 : wrap64 ((p : Int) + 1) = (p : Int) + 1 := by unfold wrap64; omega
  have k1 : ¬ ((s[p]'hp).toNat : Int) < 128 := by omega
  have k2 : (194 : Int) ≤ ((s[p]'hp).toNat : Int) := by omega
  have k3 : ¬ ((s[p]'hp).toNat : Int) ≤ 223 := by omega
  have k4 : (224 : Int) ≤ ((s[p]'hp).toNat : Int) := by omega
  have k5 : ¬ ((s[p]'hp).toNat : Int) ≤ 239 := by omega
  have k6 : (240 : Int) ≤ ((s[p]'hp).toNat : Int) := by omega
  have k7 : ((s[p]'hp).toNat : Int) ≤ 244 := by omega
  have q224 : (((s[p]'hp).toNat : Int) == 224) = false := by simp; omega
  have q237 : (((s[p]'hp).toNat : Int) == 237) = false := by simp; omega
  have q240 : (((s[p]'hp).toNat : Int) == 240) = true := by simp; omega
  have q244 : (((s[p]'hp).toNat : Int) == 244) = false := by simp; omega
  clear hR hR2 g0 h
  by_cases hin : p + 4 ≤ s.size
  · have hinI : ¬ (s.size : Int) < (p : Int) + 4 := by omega
    have hb1 : p + 1 < s.size := by omega
    have G1 := hidM (getb s p 1 hb1)
    by_cases hlo : (s[p + 1]'hb1).toNat < 144
    · have HX : Hid (R = 0) := by show R = 0; rw [HR.out]; exact check_no (by decide) (.inr (.inl (by rw [G1.out]; exact hlo)))
      have hloI : ((s[p + 1]'hb1).toNat : Int) < 144 := by omega
      clear HR
      go_enter Tryd.func96, Tryd.ntmps96
      go_wp2
      go_ret
      exact ⟨by rw [HX.out]; rfl, rfl⟩
    · by_cases hhi : 191 < (s[p + 1]'hb1).toNat
      · have HX : Hid (R = 0) := by show R = 0; rw [HR.out]; exact check_no (by decide) (.inr (.inr (.inl (by rw [G1.out]; exact hhi))))
        have hloI : ¬ ((s[p + 1]'hb1).toNat : Int) < 144 := by omega
        have hhiI : (191 : Int) < ((s[p + 1]'hb1).toNat : Int) := by omega
        clear HR
        go_enter Tryd.func96, Tryd.ntmps96
        go_wp2
        go_ret
        exact ⟨by rw [HX.out]; rfl, rfl⟩
      · have hloI : ¬ ((s[p + 1]'hb1).toNat : Int) < 144 := by omega
        have hhiI : ¬ (191 : Int) < ((s[p + 1]'hb1).toNat : Int) := by omega
        go_enter Tryd.func96, Tryd.ntmps96
        go_wp2
        go_loop [9] (fun i => ∃ k : Nat, 2 ≤ k ∧ k ≤ 4 ∧ i = .int .i64 (k : Int) ∧ Hid (∀ j, 2 ≤ j → j < k → 128 ≤ ((s.data.toList.drop p).getD j 0).toNat ∧ ((s.data.toList.drop p).getD j 0).toNat ≤ 191)) (fun i => 4 - (intOf i).toNat)
        case atStart => exact ⟨2, by decide, by decide, rfl, fun j h1 h2 => by omega⟩
        case round =>
          obtain ⟨k, hk2, hk, rfl, HI⟩ := hrel
          by_cases hlt : k < 4
          · have hbk : p + k < s.size := by omega
            have GK := hidM (getb s p k hbk)
            have hwk : wrap64 ((p : Int) + (k : Int)) = (p : Int) + (k : Int) := by unfold wrap64; omega
            have hltI : (k : Int) < 4 := by omega
            by_cases h8 : (s[p + k]'hbk).toNat < 128
            · have HX : Hid (R = 0) := by
                show R = 0
                rw [HR.out]
                have hk' : k = 2 ∨ k = 3 := by omega
                rcases hk' with rfl | rfl
                · exact check_no (by decide) (.inr (.inr (.inr (.inl ⟨by omega, .inl (by rw [GK.out]; exact h8)⟩))))
                · exact check_no (by decide) (.inr (.inr (.inr (.inr ⟨by omega, .inl (by rw [GK.out]; exact h8)⟩))))
              have h8I : ((s[p + k]'hbk).toNat : Int) < 128 := by omega
              clear HR HI
              go_wp2_with fail
              go_ret
              exact ⟨by rw [HX.out]; rfl, rfl⟩
            · by_cases h9 : 191 < (s[p + k]'hbk).toNat
              · have HX : Hid (R = 0) := by
                  show R = 0
                  rw [HR.out]
                  have hk' : k = 2 ∨ k = 3 := by omega
                  rcases hk' with rfl | rfl
                  · exact check_no (by decide) (.inr (.inr (.inr (.inl ⟨by omega, .inr (by rw [GK.out]; exact h9)⟩))))
                  · exact check_no (by decide) (.inr (.inr (.inr (.inr ⟨by omega, .inr (by rw [GK.out]; exact h9)⟩))))
                have h8I : ¬ ((s[p + k]'hbk).toNat : Int) < 128 := by omega
                have h9I : (191 : Int) < ((s[p + k]'hbk).toNat : Int) := by omega
                clear HR HI
                go_wp2_with fail
                go_ret
                exact ⟨by rw [HX.out]; rfl, rfl⟩
              · have h8I : ¬ ((s[p + k]'hbk).toNat : Int) < 128 := by omega
                have h9I : ¬ (191 : Int) < ((s[p + k]'hbk).toNat : Int) := by omega
                have HJ : Hid (∀ j, 2 ≤ j → j < k + 1 → 128 ≤ ((s.data.toList.drop p).getD j 0).toNat ∧ ((s.data.toList.drop p).getD j 0).toNat ≤ 191) := fun j h1 h2 => by
                  by_cases e : j = k
                  · subst e
                    rw [GK.out]
                    omega
                  · exact HI.out j h1 (by omega)
                clear HI
                go_wp2_with fail
                go_round
                case rel => exact ⟨k + 1, by omega, by omega, by simp, HJ.out⟩
                case measure => simp [intOf]; omega
          · obtain rfl : k = 4 := by omega
            have HX : Hid (R = 4) := by show R = 4; rw [HR.out]; exact check_yes (by decide) (by omega) (by rw [G1.out]; omega) (by rw [G1.out]; omega) (fun h => HI.out 2 (by omega) (by omega)) (fun h => HI.out 3 (by omega) (by omega))
            clear HR HI
            go_wp2_with fail
            go_ret
            exact ⟨by rw [HX.out]; rfl, rfl⟩
  · have HX : Hid (R = 0) := by show R = 0; rw [HR.out]; exact check_no (by decide) (.inl (by omega))
    have hinI : (s.size : Int) < (p : Int) + 4 := by omega
    clear HR
    go_enter Tryd.func96, Tryd.ntmps96
    go_wp2
    go_ret
    exact ⟨by rw [HX.out]; rfl, rfl⟩
set_option maxRecDepth 100000 in
set_option maxHeartbeats 2000000 in
theorem utf8_f (s : ByteArray) (p : Nat) (hp : p < s.size) (hs : s.size ≤ 1000000000000) (w : World) (h : 241 ≤ (s[p]'hp).toNat ∧ (s[p]'hp).toNat ≤ 243) :
    Calls Tryd.prog 96 #[.string s, .int .i64 (p : Int)] w fun e w' => e = .returned (.int .i64 (u8N (s.data.toList.drop p) : Int)) ∧ w = w' := by
  obtain ⟨R, hR⟩ : ∃ R, R = u8N (s.data.toList.drop p) := ⟨_, rfl⟩
  rw [← hR]
  have g0 : ((s.data.toList.drop p).getD 0 0).toNat = (s[p]'hp).toNat := by rw [getb s p 0 hp]; rfl
  have hR2 : R = (Lib.checkN (s.size - p) ((s.data.toList.drop p).getD 1 0).toNat ((s.data.toList.drop p).getD 2 0).toNat ((s.data.toList.drop p).getD 3 0).toNat 4 128 191).getD 0 := by
    rw [hR]
    unfold u8N
    rw [g0, if_neg (by omega), lenb]
    have f1 : Lib.firstT (s[p]'hp).toNat % 8 = 4 ∧ Lib.accLo (Lib.firstT (s[p]'hp).toNat / 16) = 128 ∧ Lib.accHi (Lib.firstT (s[p]'hp).toNat / 16) = 191 := by
      unfold Lib.firstT
      repeat' split
      all_goals first | (exfalso; omega) | decide
    rw [f1.1, f1.2.1, f1.2.2]
  have HR := hidM hR2
  have hpI : (p : Int) < (s.size : Int) := by omega
  have hw : wrap64 ((p : Int) + 4) = (p : Int) + 4 := by unfold wrap64; omega
  have hw1 : wrap64 ((p : Int) + 1) = (p : Int) + 1 := by unfold wrap64; omega
  have k1 : ¬ ((s[p]'hp).toNat : Int) < 128 := by omega
  have k2 : (194 : Int) ≤ ((s[p]'hp).toNat : Int) := by omega
  have k3 : ¬ ((s[p]'hp).toNat : Int) ≤ 223 := by omega
  have k4 : (224 : Int) ≤ ((s[p]'hp).toNat : Int) := by omega
  have k5 : ¬ ((s[p]'hp).toNat : Int) ≤ 239 := by omega
  have k6 : (240 : Int) ≤ ((s[p]'hp).toNat : Int) := by omega
  have k7 : ((s[p]'hp).toNat : Int) ≤ 244 := by omega
  have q224 : (((s[p]'hp).toNat : Int) == 224) = false := by simp; omega
  have q237 : (((s[p]'hp).toNat : Int) == 237) = false := by simp; omega
  have q240 : (((s[p]'hp).toNat : Int) == 240) = false := by simp; omega
  have q244 : (((s[p]'hp).toNat : Int) == 244) = false := by simp; omega
  clear hR hR2 g0 h
  by_cases hin : p + 4 ≤ s.size
  · have hinI : ¬ (s.size : Int) < (p : Int) + 4 := by omega
    have hb1 : p + 1 < s.size := by omega
    have G1 := hidM (getb s p 1 hb1)
    by_cases hlo : (s[p + 1]'hb1).toNat < 128
    · have HX : Hid (R = 0) := by show R = 0; rw [HR.out]; exact check_no (by decide) (.inr (.inl (by rw [G1.out]; exact hlo)))
      have hloI : ((s[p + 1]'hb1).toNat : Int) < 128 := by omega
      clear HR
      go_enter Tryd.func96, Tryd.ntmps96
      go_wp2
      go_ret
      exact ⟨by rw [HX.out]; rfl, rfl⟩
    · by_cases hhi : 191 < (s[p + 1]'hb1).toNat
      · have HX : Hid (R = 0) := by show R = 0; rw [HR.out]; exact check_no (by decide) (.inr (.inr (.inl (by rw [G1.out]; exact hhi))))
        have hloI : ¬ ((s[p + 1]'hb1).toNat : Int) < 128 := by omega
        have hhiI : (191 : Int) < ((s[p + 1]'hb1).toNat : Int) := by omega
        clear HR
        go_enter Tryd.func96, Tryd.ntmps96
        go_wp2
        go_ret
        exact ⟨by rw [HX.out]; rfl, rfl⟩
      · have hloI : ¬ ((s[p + 1]'hb1).toNat : Int) < 128 := by omega
        have hhiI : ¬ (191 : Int) < ((s[p + 1]'hb1).toNat : Int) := by omega
        go_enter Tryd.func96, Tryd.ntmps96
        go_wp2
        go_loop [9] (fun i => ∃ k : Nat, 2 ≤ k ∧ k ≤ 4 ∧ i = .int .i64 (k : Int) ∧ Hid (∀ j, 2 ≤ j → j < k → 128 ≤ ((s.data.toList.drop p).getD j 0).toNat ∧ ((s.data.toList.drop p).getD j 0).toNat ≤ 191)) (fun i => 4 - (intOf i).toNat)
        case atStart => exact ⟨2, by decide, by decide, rfl, fun j h1 h2 => by omega⟩
        case round =>
          obtain ⟨k, hk2, hk, rfl, HI⟩ := hrel
          by_cases hlt : k < 4
          · have hbk : p + k < s.size := by omega
            have GK := hidM (getb s p k hbk)
            have hwk : wrap64 ((p : Int) + (k : Int)) = (p : Int) + (k : Int) := by unfold wrap64; omega
            have hltI : (k : Int) < 4 := by omega
            by_cases h8 : (s[p + k]'hbk).toNat < 128
            · have HX : Hid (R = 0) := by
                show R = 0
                rw [HR.out]
                have hk' : k = 2 ∨ k = 3 := by omega
                rcases hk' with rfl | rfl
                · exact check_no (by decide) (.inr (.inr (.inr (.inl ⟨by omega, .inl (by rw [GK.out]; exact h8)⟩))))
                · exact check_no (by decide) (.inr (.inr (.inr (.inr ⟨by omega, .inl (by rw [GK.out]; exact h8)⟩))))
              have h8I : ((s[p + k]'hbk).toNat : Int) < 128 := by omega
              clear HR HI
              go_wp2_with fail
              go_ret
              exact ⟨by rw [HX.out]; rfl, rfl⟩
            · by_cases h9 : 191 < (s[p + k]'hbk).toNat
              · have HX : Hid (R = 0) := by
                  show R = 0
                  rw [HR.out]
                  have hk' : k = 2 ∨ k = 3 := by omega
                  rcases hk' with rfl | rfl
                  · exact check_no (by decide) (.inr (.inr (.inr (.inl ⟨by omega, .inr (by rw [GK.out]; exact h9)⟩))))
                  · exact check_no (by decide) (.inr (.inr (.inr (.inr ⟨by omega, .inr (by rw [GK.out]; exact h9)⟩))))
                have h8I : ¬ ((s[p + k]'hbk).toNat : Int) < 128 := by omega
                have h9I : (191 : Int) < ((s[p + k]'hbk).toNat : Int) := by omega
                clear HR HI
                go_wp2_with fail
                go_ret
                exact ⟨by rw [HX.out]; rfl, rfl⟩
              · have h8I : ¬ ((s[p + k]'hbk).toNat : Int) < 128 := by omega
                have h9I : ¬ (191 : Int) < ((s[p + k]'hbk).toNat : Int) := by omega
                have HJ : Hid (∀ j, 2 ≤ j → j < k + 1 → 128 ≤ ((s.data.toList.drop p).getD j 0).toNat ∧ ((s.data.toList.drop p).getD j 0).toNat ≤ 191) := fun j h1 h2 => by
                  by_cases e : j = k
                  · subst e
                    rw [GK.out]
                    omega
                  · exact HI.out j h1 (by omega)
                clear HI
                go_wp2_with fail
                go_round
                case rel => exact ⟨k + 1, by omega, by omega, by simp, HJ.out⟩
                case measure => simp [intOf]; omega
          · obtain rfl : k = 4 := by omega
            have HX : Hid (R = 4) := by show R = 4; rw [HR.out]; exact check_yes (by decide) (by omega) (by rw [G1.out]; omega) (by rw [G1.out]; omega) (fun h => HI.out 2 (by omega) (by omega)) (fun h => HI.out 3 (by omega) (by omega))
            clear HR HI
            go_wp2_with fail
            go_ret
            exact ⟨by rw [HX.out]; rfl, rfl⟩
  · have HX : Hid (R = 0) := by show R = 0; rw [HR.out]; exact check_no (by decide) (.inl (by omega))
    have hinI : (s.size : Int) < (p : Int) + 4 := by omega
    clear HR
    go_enter Tryd.func96, Tryd.ntmps96
    go_wp2
    go_ret
    exact ⟨by rw [HX.out]; rfl, rfl⟩
set_option maxRecDepth 100000 in
set_option maxHeartbeats 2000000 in
theorem utf8_g (s : ByteArray) (p : Nat) (hp : p < s.size) (hs : s.size ≤ 1000000000000) (w : World) (h : (s[p]'hp).toNat = 244) :
    Calls Tryd.prog 96 #[.string s, .int .i64 (p : Int)] w fun e w' => e = .returned (.int .i64 (u8N (s.data.toList.drop p) : Int)) ∧ w = w' := by
  obtain ⟨R, hR⟩ : ∃ R, R = u8N (s.data.toList.drop p) := ⟨_, rfl⟩
  rw [← hR]
  have g0 : ((s.data.toList.drop p).getD 0 0).toNat = (s[p]'hp).toNat := by rw [getb s p 0 hp]; rfl
  have hR2 : R = (Lib.checkN (s.size - p) ((s.data.toList.drop p).getD 1 0).toNat ((s.data.toList.drop p).getD 2 0).toNat ((s.data.toList.drop p).getD 3 0).toNat 4 128 143).getD 0 := by
    rw [hR]
    unfold u8N
    rw [g0, if_neg (by omega), lenb]
    have f1 : Lib.firstT (s[p]'hp).toNat % 8 = 4 ∧ Lib.accLo (Lib.firstT (s[p]'hp).toNat / 16) = 128 ∧ Lib.accHi (Lib.firstT (s[p]'hp).toNat / 16) = 143 := by
      unfold Lib.firstT
      repeat' split
      all_goals first | (exfalso; omega) | decide
    rw [f1.1, f1.2.1, f1.2.2]
  have HR := hidM hR2
  have hpI : (p : Int) < (s.size : Int) := by omega
  have hw : wrap64 ((p : Int) + 4) = (p : Int) + 4 := by unfold wrap64; omega
  have hw1 : wrap64 ((p : Int) + 1) = (p : Int) + 1 := by unfold wrap64; omega
  have k1 : ¬ ((s[p]'hp).toNat : Int) < 128 := by omega
  have k2 : (194 : Int) ≤ ((s[p]'hp).toNat : Int) := by omega
  have k3 : ¬ ((s[p]'hp).toNat : Int) ≤ 223 := by omega
  have k4 : (224 : Int) ≤ ((s[p]'hp).toNat : Int) := by omega
  have k5 : ¬ ((s[p]'hp).toNat : Int) ≤ 239 := by omega
  have k6 : (240 : Int) ≤ ((s[p]'hp).toNat : Int) := by omega
  have k7 : ((s[p]'hp).toNat : Int) ≤ 244 := by omega
  have q224 : (((s[p]'hp).toNat : Int) == 224) = false := by simp; omega
  have q237 : (((s[p]'hp).toNat : Int) == 237) = false := by simp; omega
  have q240 : (((s[p]'hp).toNat : Int) == 240) = false := by simp; omega
  have q244 : (((s[p]'hp).toNat : Int) == 244) = true := by simp; omega
  clear hR hR2 g0 h
  by_cases hin : p + 4 ≤ s.size
  · have hinI : ¬ (s.size : Int) < (p : Int) + 4 := by omega
    have hb1 : p + 1 < s.size := by omega
    have G1 := hidM (getb s p 1 hb1)
    by_cases hlo : (s[p + 1]'hb1).toNat < 128
    · have HX : Hid (R = 0) := by show R = 0; rw [HR.out]; exact check_no (by decide) (.inr (.inl (by rw [G1.out]; exact hlo)))
      have hloI : ((s[p + 1]'hb1).toNat : Int) < 128 := by omega
      clear HR
      go_enter Tryd.func96, Tryd.ntmps96
      go_wp2
      go_ret
      exact ⟨by rw [HX.out]; rfl, rfl⟩
    · by_cases hhi : 143 < (s[p + 1]'hb1).toNat
      · have HX : Hid (R = 0) := by show R = 0; rw [HR.out]; exact check_no (by decide) (.inr (.inr (.inl (by rw [G1.out]; exact hhi))))
        have hloI : ¬ ((s[p + 1]'hb1).toNat : Int) < 128 := by omega
        have hhiI : (143 : Int) < ((s[p + 1]'hb1).toNat : Int) := by omega
        clear HR
        go_enter Tryd.func96, Tryd.ntmps96
        go_wp2
        go_ret
        exact ⟨by rw [HX.out]; rfl, rfl⟩
      · have hloI : ¬ ((s[p + 1]'hb1).toNat : Int) < 128 := by omega
        have hhiI : ¬ (143 : Int) < ((s[p + 1]'hb1).toNat : Int) := by omega
        go_enter Tryd.func96, Tryd.ntmps96
        go_wp2
        go_loop [9] (fun i => ∃ k : Nat, 2 ≤ k ∧ k ≤ 4 ∧ i = .int .i64 (k : Int) ∧ Hid (∀ j, 2 ≤ j → j < k → 128 ≤ ((s.data.toList.drop p).getD j 0).toNat ∧ ((s.data.toList.drop p).getD j 0).toNat ≤ 191)) (fun i => 4 - (intOf i).toNat)
        case atStart => exact ⟨2, by decide, by decide, rfl, fun j h1 h2 => by omega⟩
        case round =>
          obtain ⟨k, hk2, hk, rfl, HI⟩ := hrel
          by_cases hlt : k < 4
          · have hbk : p + k < s.size := by omega
            have GK := hidM (getb s p k hbk)
            have hwk : wrap64 ((p : Int) + (k : Int)) = (p : Int) + (k : Int) := by unfold wrap64; omega
            have hltI : (k : Int) < 4 := by omega
            by_cases h8 : (s[p + k]'hbk).toNat < 128
            · have HX : Hid (R = 0) := by
                show R = 0
                rw [HR.out]
                have hk' : k = 2 ∨ k = 3 := by omega
                rcases hk' with rfl | rfl
                · exact check_no (by decide) (.inr (.inr (.inr (.inl ⟨by omega, .inl (by rw [GK.out]; exact h8)⟩))))
                · exact check_no (by decide) (.inr (.inr (.inr (.inr ⟨by omega, .inl (by rw [GK.out]; exact h8)⟩))))
              have h8I : ((s[p + k]'hbk).toNat : Int) < 128 := by omega
              clear HR HI
              go_wp2_with fail
              go_ret
              exact ⟨by rw [HX.out]; rfl, rfl⟩
            · by_cases h9 : 191 < (s[p + k]'hbk).toNat
              · have HX : Hid (R = 0) := by
                  show R = 0
                  rw [HR.out]
                  have hk' : k = 2 ∨ k = 3 := by omega
                  rcases hk' with rfl | rfl
                  · exact check_no (by decide) (.inr (.inr (.inr (.inl ⟨by omega, .inr (by rw [GK.out]; exact h9)⟩))))
                  · exact check_no (by decide) (.inr (.inr (.inr (.inr ⟨by omega, .inr (by rw [GK.out]; exact h9)⟩))))
                have h8I : ¬ ((s[p + k]'hbk).toNat : Int) < 128 := by omega
                have h9I : (191 : Int) < ((s[p + k]'hbk).toNat : Int) := by omega
                clear HR HI
                go_wp2_with fail
                go_ret
                exact ⟨by rw [HX.out]; rfl, rfl⟩
              · have h8I : ¬ ((s[p + k]'hbk).toNat : Int) < 128 := by omega
                have h9I : ¬ (191 : Int) < ((s[p + k]'hbk).toNat : Int) := by omega
                have HJ : Hid (∀ j, 2 ≤ j → j < k + 1 → 128 ≤ ((s.data.toList.drop p).getD j 0).toNat ∧ ((s.data.toList.drop p).getD j 0).toNat ≤ 191) := fun j h1 h2 => by
                  by_cases e : j = k
                  · subst e
                    rw [GK.out]
                    omega
                  · exact HI.out j h1 (by omega)
                clear HI
                go_wp2_with fail
                go_round
                case rel => exact ⟨k + 1, by omega, by omega, by simp, HJ.out⟩
                case measure => simp [intOf]; omega
          · obtain rfl : k = 4 := by omega
            have HX : Hid (R = 4) := by show R = 4; rw [HR.out]; exact check_yes (by decide) (by omega) (by rw [G1.out]; omega) (by rw [G1.out]; omega) (fun h => HI.out 2 (by omega) (by omega)) (fun h => HI.out 3 (by omega) (by omega))
            clear HR HI
            go_wp2_with fail
            go_ret
            exact ⟨by rw [HX.out]; rfl, rfl⟩
  · have HX : Hid (R = 0) := by show R = 0; rw [HR.out]; exact check_no (by decide) (.inl (by omega))
    have hinI : (s.size : Int) < (p : Int) + 4 := by omega
    clear HR
    go_enter Tryd.func96, Tryd.ntmps96
    go_wp2
    go_ret
    exact ⟨by rw [HX.out]; rfl, rfl⟩
end Go.Proofs.YtcfdkadhclickaaDoor.Kit
namespace Go.Proofs.YtcfdkadhclickaaDoor.Kit
open Go.RowKit Go.Shelf Go.Deep
set_option linter.unusedVariables false
attribute [local go_sem] run_store_func

set_option maxRecDepth 100000 in
set_option maxHeartbeats 2000000 in
theorem utf8_low (s : ByteArray) (p : Nat) (hp : p < s.size) (hs : s.size ≤ 1000000000000) (w : World) (h : (s[p]'hp).toNat < 128) :
    Calls Tryd.prog 96 #[.string s, .int .i64 (p : Int)] w fun e w' => e = .returned (.int .i64 (u8N (s.data.toList.drop p) : Int)) ∧ w = w' := by
  have g0 : ((s.data.toList.drop p).getD 0 0).toNat = (s[p]'hp).toNat := by rw [getb s p 0 hp]; rfl
  have hR : u8N (s.data.toList.drop p) = 1 := by unfold u8N; rw [g0, if_pos h]
  rw [hR]
  have hpI : (p : Int) < (s.size : Int) := by omega
  have k1 : ((s[p]'hp).toNat : Int) < 128 := by omega
  clear g0 hR h
  go_enter Tryd.func96, Tryd.ntmps96
  go_wp2
  go_ret
  exact ⟨rfl, rfl⟩
set_option maxRecDepth 100000 in
set_option maxHeartbeats 2000000 in
theorem utf8_bad (s : ByteArray) (p : Nat) (hp : p < s.size) (hs : s.size ≤ 1000000000000) (w : World) (h : (128 ≤ (s[p]'hp).toNat ∧ (s[p]'hp).toNat < 194) ∨ 245 ≤ (s[p]'hp).toNat) :
    Calls Tryd.prog 96 #[.string s, .int .i64 (p : Int)] w fun e w' => e = .returned (.int .i64 (u8N (s.data.toList.drop p) : Int)) ∧ w = w' := by
  have g0 : ((s.data.toList.drop p).getD 0 0).toNat = (s[p]'hp).toNat := by rw [getb s p 0 hp]; rfl
  have hf : Lib.firstT (s[p]'hp).toNat % 8 = 1 := by
    unfold Lib.firstT
    repeat' split
    all_goals first | (exfalso; omega) | decide
  have hR : u8N (s.data.toList.drop p) = 0 := by
    unfold u8N
    rw [g0, if_neg (by omega), hf]
    unfold Lib.checkN
    rw [if_neg (by decide), if_neg (by decide), if_neg (by decide)]
    rfl
  rw [hR]
  have hpI : (p : Int) < (s.size : Int) := by omega
  have k1 : ¬ ((s[p]'hp).toNat : Int) < 128 := by omega
  clear g0 hR hf
  rcases h with ⟨_, h⟩ | h
  · have k2 : ¬ (194 : Int) ≤ ((s[p]'hp).toNat : Int) := by omega
    have k3 : ¬ (224 : Int) ≤ ((s[p]'hp).toNat : Int) := by omega
    have k4 : ¬ (240 : Int) ≤ ((s[p]'hp).toNat : Int) := by omega
    clear h
    go_enter Tryd.func96, Tryd.ntmps96
    go_wp2
    go_ret
    exact ⟨rfl, rfl⟩
  · have k2 : (194 : Int) ≤ ((s[p]'hp).toNat : Int) := by omega
    have k3 : ¬ ((s[p]'hp).toNat : Int) ≤ 223 := by omega
    have k4 : (224 : Int) ≤ ((s[p]'hp).toNat : Int) := by omega
    have k5 : ¬ ((s[p]'hp).toNat : Int) ≤ 239 := by omega
    have k6 : (240 : Int) ≤ ((s[p]'hp).toNat : Int) := by omega
    have k7 : ¬ ((s[p]'hp).toNat : Int) ≤ 244 := by omega
    clear h
    go_enter Tryd.func96, Tryd.ntmps96
    go_wp2
    go_ret
    exact ⟨rfl, rfl⟩
theorem utf8_any (s : ByteArray) (p : Nat) (hp : p < s.size) (hs : s.size ≤ 1000000000000) (w : World) :
    Calls Tryd.prog 96 #[.string s, .int .i64 (p : Int)] w fun e w' => e = .returned (.int .i64 (u8N (s.data.toList.drop p) : Int)) ∧ w = w' := by
  by_cases c0 : (s[p]'hp).toNat < 128
  · exact utf8_low s p hp hs w c0
  by_cases c1 : (s[p]'hp).toNat < 194
  · exact utf8_bad s p hp hs w (.inl ⟨by omega, c1⟩)
  by_cases c2 : (s[p]'hp).toNat ≤ 223
  · exact utf8_a s p hp hs w ⟨by omega, c2⟩
  by_cases c3 : (s[p]'hp).toNat = 224
  · exact utf8_b s p hp hs w c3
  by_cases c4 : (s[p]'hp).toNat = 237
  · exact utf8_d s p hp hs w c4
  by_cases c5 : (s[p]'hp).toNat ≤ 239
  · exact utf8_c s p hp hs w (by omega)
  by_cases c6 : (s[p]'hp).toNat = 240
  · exact utf8_e s p hp hs w c6
  by_cases c7 : (s[p]'hp).toNat ≤ 243
  · exact utf8_f s p hp hs w ⟨by omega, c7⟩
  by_cases c8 : (s[p]'hp).toNat = 244
  · exact utf8_g s p hp hs w c8
  exact utf8_bad s p hp hs w (.inr (by omega))
/-- a letter more -/
theorem valid_u8 (l : List UInt8) (hne : l ≠ []) : Lib.validD l = if u8N l = 0 then false else Lib.validD (l.drop (u8N l)) := by
  unfold u8N
  by_cases h : (l.getD 0 0).toNat < 128
  · rw [if_pos h, if_neg (by decide)]
    cases l with
    | nil => exact absurd rfl hne
    | cons b t => rw [Lib.validD_cons b t h]; rfl
  · rw [if_neg h, Lib.validD_lead l hne (by omega)]
    cases hc : Lib.checkN l.length (l.getD 1 0).toNat (l.getD 2 0).toNat (l.getD 3 0).toNat (Lib.firstT (l.getD 0 0).toNat % 8) (Lib.accLo (Lib.firstT (l.getD 0 0).toNat / 16)) (Lib.accHi (Lib.firstT (l.getD 0 0).toNat / 16)) with
    | none => rfl
    | some k =>
      have hk : k ≠ 0 := by
        unfold Lib.checkN at hc
        repeat' split at hc
        all_goals first | (cases hc; done) | (cases hc; decide)
      show Lib.validD (l.drop k) = if k = 0 then false else Lib.validD (l.drop k)
      rw [if_neg hk]
theorem u8_le (l : List UInt8) (hne : l ≠ []) : u8N l ≤ l.length := by
  have hl : 0 < l.length := List.length_pos_iff.2 hne
  unfold u8N
  split
  · omega
  · unfold Lib.checkN
    repeat' split
    all_goals first | exact Nat.zero_le _ | (rename_i hh; exact Nat.le_of_not_lt (fun h' => hh (.inl h')))
set_option maxRecDepth 100000 in
theorem letters75 (s : ByteArray) (hs : s.size ≤ 1000000000000) (w : World) : Calls Tryd.prog 75 #[.string s] w fun e w' => e = .returned (.bool (Lib.validD s.data.toList)) ∧ w = w' := by
  have HU := hidM (fun k (hk : k < s.size) w => utf8_any s k hk hs w)
  have HSI := hidM (Int.ofNat_le.2 hs : (s.size : Int) ≤ ((1000000000000 : Nat) : Int))
  clear hs
  obtain ⟨R, hR⟩ : ∃ R, R = Lib.validD s.data.toList := ⟨_, rfl⟩
  rw [← hR]
  have HR := hidM hR
  clear hR
  go_enter Tryd.func75, Tryd.ntmps75
  go_wp2
  go_loop [3] (fun i => ∃ k : Nat, k ≤ s.size ∧ i = .int .i64 (k : Int) ∧ Hid (R = Lib.validD (s.data.toList.drop k))) (fun i => s.size - (intOf i).toNat)
  case atStart => exact ⟨0, by omega, rfl, HR.out⟩
  case round =>
    obtain ⟨k, hk, rfl, HI⟩ := hrel
    by_cases hlt : k < s.size
    · have hne : s.data.toList.drop k ≠ [] := fun h => by
        have := congrArg List.length h
        rw [lenb] at this
        simp at this
        omega
      have h96 := fun w => HU.out k hlt w
      have hst := HI.out
      rw [valid_u8 _ hne] at hst
      have hle := u8_le _ hne
      rw [lenb] at hle
      rw [List.drop_drop] at hst
      obtain ⟨z, hz⟩ : ∃ z, z = u8N (s.data.toList.drop k) := ⟨_, rfl⟩
      rw [← hz] at h96 hst hle
      have hltI : (k : Int) < (s.size : Int) := by omega
      have H96 := hidM h96
      clear HI h96 hz
      by_cases hz0 : z = 0
      · have HX : Hid (R = false) := by rw [if_pos hz0] at hst; exact hst
        subst hz0
        clear hst hle
        go_wp2_with (go_at_call 96; refine (H96.out _).mono ?_; rintro e w' ⟨rfl, rfl⟩)
        go_ret
        exact ⟨by rw [HX.out]; rfl, rfl⟩
      · have HX : Hid (R = Lib.validD (s.data.toList.drop (k + z))) := by rw [if_neg hz0] at hst; exact hst
        have hzb : ((z : Int) == 0) = false := by simp; omega
        have hw : wrap64 ((k : Int) + (z : Int)) = (k : Int) + (z : Int) := by have := HSI.out; unfold wrap64; omega
        have HZ := hidM (And.intro hz0 hle)
        have HWR := hidM hw
        clear hst hle hz0 hw
        go_wp2_with (go_at_call 96; refine (H96.out _).mono ?_; rintro e w' ⟨rfl, rfl⟩)
        go_round
        case rel => exact ⟨k + z, by have := HZ.out.2; omega, by rw [HWR.out]; simp, HX.out⟩
        case measure => have h := HZ.out; rw [HWR.out]; clear HWR; simp [intOf]; omega
    · obtain rfl : k = s.size := by omega
      have HX : Hid (R = true) := by
        have h := HI.out
        rw [List.drop_of_length_le (show s.data.toList.length ≤ s.size from Nat.le_of_eq rfl)] at h
        exact h
      clear HI
      go_wp2_with fail
      go_ret
      exact ⟨by rw [HX.out]; rfl, rfl⟩
end Go.Proofs.YtcfdkadhclickaaDoor.Kit
