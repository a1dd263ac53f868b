import Derived.Test.YtjdojbbjbippoaaDoorLA
namespace Go.Proofs.YtjdojbbjbippoaaDoor.Kit
open Go.RowKit Go.Shelf Go.Deep
set_option linter.unusedVariables false
attribute [local go_sem] run_store_func

set_option maxRecDepth 100000 in
set_option maxHeartbeats 1000000 in
theorem isNameR_any (s : ByteArray) (w : World) : Calls Tryd.prog 54 #[.string s] w fun e w' => e = .returned (.bool (nameB s)) ∧ w' = w := by
  go_enter Tryd.func54, Tryd.ntmps54
  by_cases h0 : s.size = 0
  · go_wp2_with fail
    go_ret
    exact ⟨congrArg (fun b => Ending.returned (.bool b)) (by simp [nameB, h0]), rfl⟩
  · by_cases h48 : 48 < s.size
    · go_wp2_with fail
      go_ret
      exact ⟨congrArg (fun b => Ending.returned (.bool b)) (by simp [nameB]; omega), rfl⟩
    · have h0' : 0 < s.size := by omega
      have hb : s.data.toList[0]! = s[0]'h0' := by
        rw [getElem!_pos s.data.toList 0 (by simpa using h0')]
        rfl
      have hi0 : ¬ ((s.size : Int) < 1) := by omega
      have hi1 : ¬ ((48 : Int) < (s.size : Int)) := by omega
      have hn : nameB s = ((!(digitB (s[0]'h0').toNat)) && s.data.toList.all fun b => wordB b.toNat) := by
        unfold nameB
        rw [hb]
        simp [h0', show s.size ≤ 48 by omega]
      have HN : Hid _ := hn
      have HD : Hid (digitB (s[0]'h0').toNat = (decide (48 ≤ (s[0]'h0').toNat) && decide ((s[0]'h0').toNat ≤ 57))) := rfl
      clear hb hn
      by_cases d1 : 48 ≤ (s[0]'h0').toNat ∧ (s[0]'h0').toNat ≤ 57
      · have d2 : (48 : Int) ≤ ((s[0]'h0').toNat : Int) := by omega
        have d3 : ((s[0]'h0').toNat : Int) ≤ 57 := by omega
        have HZ : Hid (nameB s = false) := by show _ = _; rw [HN.out, HD.out, decide_eq_true d1.1, decide_eq_true d1.2]; rfl
        clear d1
        go_wp2_with fail
        go_ret
        exact ⟨congrArg (fun b => Ending.returned (.bool b)) HZ.out.symm, rfl⟩
      · have HN2 : Hid (nameB s = (s.data.toList.all fun b => wordB b.toNat)) := by
          show _ = _
          rw [HN.out, HD.out]
          have : (decide (48 ≤ (s[0]'h0').toNat) && decide ((s[0]'h0').toNat ≤ 57)) = false := by
            rw [Bool.eq_false_iff]; intro h; simp at h; exact d1 ⟨h.1, h.2⟩
          rw [this]; rfl
        have hpart : ((s[0]'h0').toNat : Int) < 48 ∨ (48 ≤ ((s[0]'h0').toNat : Int) ∧ 57 < ((s[0]'h0').toNat : Int)) := by omega
        clear HN HD d1
        rcases hpart with d2 | ⟨d2, d3⟩
        all_goals
          go_wp2_with fail
          go_loop [3] (fun i => ∃ k : Nat, k ≤ s.size ∧ i = .int .i64 (k : Int) ∧ Hid ((s.data.toList.take k).all (fun b => wordB b.toNat) = true)) (fun i => s.size - (intOf i).toNat)
          case atStart => exact ⟨0, by omega, rfl, by simp [Hid]⟩
          case round =>
            obtain ⟨k, hk, rfl, HK⟩ := hrel
            by_cases hlt : k < s.size
            · have hb : s.data.toList[k]? = some (s[k]'hlt) := by
                rw [Array.getElem?_toList]
                exact Array.getElem?_eq_getElem hlt
              have hw := fun w => letter_any (s[k]'hlt).toNat w
              have hA := all_succ (p := fun b => wordB b.toNat) hb HK.out
              have HB : Hid _ := hb
              clear hb
              have HW : Hid ((s.data.toList.all fun b => wordB b.toNat) = true → wordB (s[k]'hlt).toNat = true) := fun h => by
                rw [List.all_eq_true] at h
                exact h _ (List.mem_of_getElem? HB.out)
              generalize wordB (s[k]'hlt).toNat = wb at hw hA HW
              have HA : Hid _ := hA
              clear hA HB
              cases wb with
              | true =>
                go_wp2_with (go_at_call 64; refine (hw _).mono ?_; rintro e w' ⟨rfl, rfl⟩)
                go_round
                case rel => exact ⟨k + 1, by omega, by simp, HA.out⟩
                case measure => simp [intOf]; omega
              | false =>
                go_wp2_with (go_at_call 64; refine (hw _).mono ?_; rintro e w' ⟨rfl, rfl⟩)
                go_ret
                refine ⟨congrArg (fun b => Ending.returned (.bool b)) ?_, rfl⟩
                rw [HN2.out]
                cases hx : (s.data.toList.all fun b => wordB b.toNat) with
                | true => exact absurd (HW.out hx) (by decide)
                | false => rfl
            · obtain rfl : k = s.size := by omega
              have hall := HK.out
              rw [List.take_of_length_le (by simp)] at hall
              have HM : Hid (nameB s = true) := by show _ = _; rw [HN2.out, hall]
              clear hall
              go_wp2_with fail
              go_ret
              exact ⟨congrArg (fun b => Ending.returned (.bool b)) HM.out.symm, rfl⟩
end Go.Proofs.YtjdojbbjbippoaaDoor.Kit
