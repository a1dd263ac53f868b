import Derived.Test.YtfepbpibhcfjdaaDoorEC
namespace Go.Proofs.YtfepbpibhcfjdaaDoor.Kit
open Go.RowKit Go.Shelf Go.Deep
set_option linter.unusedVariables false
attribute [local go_sem] run_store_func

abbrev Gr (w w' : World) : Prop := Keeps w w' (fun _ => False)
def digitB (c : Nat) : Bool := decide (48 ≤ c) && decide (c ≤ 57)
def wordB (c : Nat) : Bool := (decide (97 ≤ c) && decide (c ≤ 122)) || (decide (65 ≤ c) && decide (c ≤ 90)) || digitB c || decide (c = 95)

set_option maxRecDepth 100000 in
set_option maxHeartbeats 1000000 in
theorem isDigit_any (c : Nat) (w : World) : Calls Tryd.prog 80 #[.int .u8 (c : Int)] w fun e w' => e = .returned (.bool (digitB c)) ∧ w' = w := by
  go_enter Tryd.func80, Tryd.ntmps80
  go_wp2
  all_goals
    go_ret
    refine ⟨congrArg (fun b => Ending.returned (.bool b)) ?_, rfl⟩
    rw [Bool.eq_iff_iff]
    simp [digitB]
    try omega
set_option maxRecDepth 100000 in
set_option maxHeartbeats 1000000 in
theorem isWordByte_any (c : Nat) (w : World) : Calls Tryd.prog 81 #[.int .u8 (c : Int)] w fun e w' => e = .returned (.bool (wordB c)) ∧ w' = w := by
  go_enter Tryd.func81, Tryd.ntmps81
  go_wp2_with (go_at_call 80; refine (isDigit_any _ _).mono ?_; rintro e w' ⟨rfl, rfl⟩)
  all_goals
    go_ret
    refine ⟨congrArg (fun b => Ending.returned (.bool b)) ?_, rfl⟩
    rw [Bool.eq_iff_iff]
    simp [wordB, *]
    try omega
theorem all_succ {l : List UInt8} {p : UInt8 → Bool} {k : Nat} {b : UInt8} (h : l[k]? = some b) (hk : (l.take k).all p = true) : (l.take (k + 1)).all p = p b := by
  rw [List.take_add_one, h]
  simp [hk]
def nameB (s : ByteArray) : Bool := decide (0 < s.size) && decide (s.size ≤ 48) && !(digitB (s.data.toList[0]!).toNat) && s.data.toList.all fun b => wordB b.toNat
set_option maxRecDepth 100000 in
set_option maxHeartbeats 1000000 in
theorem isName_any (s : ByteArray) (w : World) : Calls Tryd.prog 73 #[.string s] w fun e w' => e = .returned (.bool (nameB s)) ∧ w' = w := by
  go_enter Tryd.func73, Tryd.ntmps73
  by_cases h0 : s.size = 0
  · go_wp2_with fail
    go_ret
    exact ⟨congrArg (fun b => Ending.returned (.bool b)) (by simp [nameB, h0]), rfl⟩
  · by_cases h48 : 48 < s.size
    · go_wp2_with fail
      go_ret
      exact ⟨congrArg (fun b => Ending.returned (.bool b)) (by simp [nameB]; omega), rfl⟩
    · have h0' : 0 < s.size := by omega
      have hb : s.data.toList[0]! = s[0]'h0' := by
        rw [getElem!_pos s.data.toList 0 (by simpa using h0')]
        rfl
      have hb1 := isDigit_any (s[0]'h0').toNat w
      have hi0 : ((s.size : Int) == 0) = false := by
        have : (s.size : Int) ≠ 0 := by omega
        simpa using this
      have hi1 : ¬ ((48 : Int) < (s.size : Int)) := by omega
      have hn : nameB s = ((!(digitB (s[0]'h0').toNat)) && s.data.toList.all fun b => wordB b.toNat) := by
        unfold nameB
        rw [hb]
        simp [h0', show s.size ≤ 48 by omega]
      generalize digitB (s[0]'h0').toNat = dg at hb1 hn
      have HN : Hid _ := hn
      clear hb hn
      cases dg with
      | true =>
        go_wp2_with (go_at_call 80; refine hb1.mono ?_; rintro e w' ⟨rfl, rfl⟩)
        go_ret
        exact ⟨congrArg (fun b => Ending.returned (.bool b)) (by rw [HN.out]; rfl), rfl⟩
      | false =>
        go_wp2_with (go_at_call 80; refine hb1.mono ?_; rintro e w' ⟨rfl, rfl⟩)
        clear hb1
        go_loop [19] (fun i => ∃ k : Nat, k ≤ s.size ∧ i = .int .i64 (k : Int) ∧ Hid ((s.data.toList.take k).all (fun b => wordB b.toNat) = true)) (fun i => s.size - (intOf i).toNat)
        case atStart => exact ⟨0, by omega, rfl, by simp [Hid]⟩
        case round =>
          obtain ⟨k, hk, rfl, HK⟩ := hrel
          by_cases hlt : k < s.size
          · have hb : s.data.toList[k]? = some (s[k]'hlt) := by
              rw [Array.getElem?_toList]
              exact Array.getElem?_eq_getElem hlt
            have hw := fun w => isWordByte_any (s[k]'hlt).toNat w
            have hA := all_succ (p := fun b => wordB b.toNat) hb HK.out
            have HB : Hid _ := hb
            clear hb
            have HW : Hid ((s.data.toList.all fun b => wordB b.toNat) = true → wordB (s[k]'hlt).toNat = true) := fun h => by
              rw [List.all_eq_true] at h
              exact h _ (List.mem_of_getElem? HB.out)
            generalize wordB (s[k]'hlt).toNat = wb at hw hA HW
            have HA : Hid _ := hA
            clear hA HB
            cases wb with
            | true =>
              go_wp2_with (go_at_call 81; refine (hw _).mono ?_; rintro e w' ⟨rfl, rfl⟩)
              go_round
              case rel => exact ⟨k + 1, by omega, by simp, HA.out⟩
              case measure => simp [intOf]; omega
            | false =>
              go_wp2_with (go_at_call 81; refine (hw _).mono ?_; rintro e w' ⟨rfl, rfl⟩)
              go_ret
              refine ⟨congrArg (fun b => Ending.returned (.bool b)) ?_, rfl⟩
              rw [HN.out]
              cases hx : (s.data.toList.all fun b => wordB b.toNat) with
              | true => exact absurd (HW.out hx) (by decide)
              | false => rfl
          · obtain rfl : k = s.size := by omega
            have hall := HK.out
            rw [List.take_of_length_le (by simp)] at hall
            have HM : Hid (nameB s = true) := by show _ = _; rw [HN.out, hall]; rfl
            clear hall
            go_wp2_with fail
            go_ret
            exact ⟨congrArg (fun b => Ending.returned (.bool b)) HM.out.symm, rfl⟩
end Go.Proofs.YtfepbpibhcfjdaaDoor.Kit
