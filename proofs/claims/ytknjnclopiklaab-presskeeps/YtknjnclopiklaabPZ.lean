import Derived.Test.YtknjnclopiklaabPY
namespace Go.Proofs.Ytknjnclopiklaab.Kit
open Go.RowKit Go.Shelf Go.Deep
set_option linter.unusedVariables false
attribute [local go_sem] run_store_func

/-! ### Pack -/
def howB (how : Int) : Bool := decide (0 ≤ how) && decide (how ≤ 2)
def packH (how : Int) (bs : List UInt8) : List UInt8 := if how = 1 then packRunsB bs else if how = 2 then packBackB bs else bs
def packE (how : Int) (bs : List UInt8) : Int := if howB how = false then 1 else if 65536 < bs.length then 4 else 0
def packR (how : Int) (bs : List UInt8) : List UInt8 := if packE how bs = 0 then packH how bs else []
set_option maxRecDepth 100000 in
set_option maxHeartbeats 1000000 in
theorem isHow_any (how : Int) (w : World) : Calls Try.prog 12 #[.int .i64 how] w fun e w' => e = .returned (.bool (howB how)) ∧ w = w' := by
  by_cases h : how = 0 ∨ how = 1 ∨ how = 2
  · have HH : Hid (howB how = true) := by show _ = _; unfold howB; simp; omega
    rcases h with rfl | rfl | rfl
    all_goals
      go_enter Try.func12, Try.ntmps12
      go_wp2_with fail
      go_ret
      exact ⟨by rw [HH.out]; rfl, rfl⟩
  · have HH : Hid (howB how = false) := by show _ = _; unfold howB; simp; omega
    have h0 : (how == 0) = false := by simp; omega
    have h1 : (how == 1) = false := by simp; omega
    have h2 : (how == 2) = false := by simp; omega
    clear h
    go_enter Try.func12, Try.ntmps12
    go_wp2_with fail
    go_ret
    exact ⟨by rw [HH.out]; rfl, rfl⟩
set_option maxRecDepth 100000 in
set_option maxHeartbeats 2000000 in
theorem pack_any {ao : Option Addr} {ca : Nat} {bs : List UInt8} {w : World} (how : Int) (h : BytesAt w ao bs) (hca : bs.length ≤ ca) (hl : bs.length ≤ 140737488355328) :
    Calls Try.prog 6 #[.int .i64 how, .slice ao bs.length ca] w fun e w' => ∃ vo vc n, e = .returned (.tuple #[.slice vo n vc, .int .i64 (packE how bs)]) ∧ Byts w w' vo vc n (packR how bs) := by
  have hw := fun w => isHow_any how w
  obtain ⟨L, hL⟩ : ∃ L, L = bs.length := ⟨_, rfl⟩
  have HL := hidM hL
  rw [← hL] at hl ⊢
  by_cases c0 : howB how = true
  rotate_left
  · have c0' : howB how = false := by simpa using c0
    have HE : Hid (packE how bs = 1 ∧ packR how bs = []) := by
      have : packE how bs = 1 := by unfold packE; rw [if_pos c0']
      exact ⟨this, by unfold packR; rw [this]; rfl⟩
    rw [c0'] at hw
    clear h hca c0 c0' hL
    go_enter Try.func6, Try.ntmps6
    go_wp2_with (go_at_call 12; with_reducible refine (hw _).mono ?_; rintro e w' ⟨rfl, rfl⟩)
    refine bodyPost_ret (v := .tuple #[.slice none 0 0, .int .i64 1]) ?_ rfl ⟨none, 0, 0, by rw [HE.out.1], by rw [HE.out.2]; exact Byts.nil _ _ (Keeps.refl _ _)⟩
    simp [results, Try.f6, go_sem]
  rw [c0] at hw
  by_cases c1 : 65536 < L
  · have c1I : (65536 : Int) < (L : Int) := by omega
    have HE : Hid (packE how bs = 4 ∧ packR how bs = []) := by
      have : packE how bs = 4 := by unfold packE; rw [c0, if_neg (by decide), if_pos (by omega)]
      exact ⟨this, by unfold packR; rw [this]; rfl⟩
    clear h hca c0 hL
    go_enter Try.func6, Try.ntmps6
    go_wp2_with (go_at_call 12; with_reducible refine (hw _).mono ?_; rintro e w' ⟨rfl, rfl⟩)
    refine bodyPost_ret (v := .tuple #[.slice none 0 0, .int .i64 4]) ?_ rfl ⟨none, 0, 0, by rw [HE.out.1], by rw [HE.out.2]; exact Byts.nil _ _ (Keeps.refl _ _)⟩
    simp [results, Try.f6, go_sem]
  have c1I : ¬ (65536 : Int) < (L : Int) := by omega
  have HE : Hid (packE how bs = 0 ∧ packR how bs = packH how bs) := by
    have : packE how bs = 0 := by unfold packE; rw [c0, if_neg (by decide), if_neg (by omega)]
    exact ⟨this, by unfold packR; rw [this]; rfl⟩
  have hh : how = 0 ∨ how = 1 ∨ how = 2 := by unfold howB at c0; simp at c0; omega
  rcases hh with rfl | rfl | rfl
  · have HA := hidM h
    clear h c0 hL
    go_enter Try.func6, Try.ntmps6
    go_wp2_with (first | (go_at_call 12; with_reducible refine (hw _).mono ?_; rintro e w' ⟨rfl, rfl⟩) | (at_builtin; refine Hid.out ?_))
    unfold Hid
    have hsrc : Src Try.prog 1 22 (.slice ao L ca) L (bv bs) w := by
      rw [HL.out]
      cases ao with
      | none =>
        have : bs = [] := by
          cases bs with
          | nil => rfl
          | cons x l => obtain ⟨b, o, e, -⟩ := HA.out (by simp); cases e
        subst this
        exact Src.ofNil w Try.underlying22 ca
      | some a =>
        refine Src.ofSlice w Try.underlying22 a bs.length ca (bv bs) (by simp [bv]) (fun j x hx => ?_) (fun x hx => by obtain ⟨z, _, rfl⟩ := List.mem_map.1 hx; rfl)
        have hj : j < bs.length := by have := (List.getElem?_eq_some_iff.1 hx).1; simpa [bv] using this
        obtain ⟨b, o, e, hc⟩ := HA.out.at (ne_nil hj)
        cases e
        have e2 : (⟨b, o, none⟩ : Addr).add j = ⟨b, o + j, none⟩ := by simp [Addr.add]
        rw [e2, hc j hj, ← hx]
        unfold bv
        rw [List.getElem?_map, List.getElem?_eq_getElem hj, List.getD_eq_getElem?_getD, List.getElem?_eq_getElem hj]
        rfl
    refine wpList_append_any _ rfl (.const (.slice none 0 0)) (.tmp 24) 22 22 rfl 5 (.int .u8 0) 1 Try.underlying22 info5 rfl _ 0 (bv []) rfl (World.ownsRow_nil _ _ _ _) _ L (bv bs) rfl hsrc (by omega) (by omega) ?_
    intro v' w1 hown hgrow hblk
    obtain ⟨vo2, vc2, rfl⟩ := own_form1 hown
    have HN := hidM ((Byts.nil w w (Keeps.refl _ _)).app (us := bs) rfl hown hgrow hblk).b
    clear hown hgrow hblk hsrc
    go_wp2_with fail
    refine bodyPost_ret (v := .tuple #[.slice vo2 (0 + L) vc2, .int .i64 0]) ?_ rfl ⟨vo2, vc2, 0 + L, by rw [HE.out.1], by rw [HE.out.2]; exact HN.out⟩
    simp [results, Try.f6, go_sem]
  · have HP := hidM (packRuns_any (ca := ca) h hca (by omega))
    rw [← hL] at HP
    clear h c0 hL
    go_enter Try.func6, Try.ntmps6
    go_wp2_with (first | (go_at_call 12; with_reducible refine (hw _).mono ?_; rintro e w' ⟨rfl, rfl⟩) | (go_at_call 13; refine Hid.out ?_))
    unfold Hid
    refine Calls.mono HP.out ?_
    rintro e V ⟨vo, vc, n, rfl, hb⟩
    go_wp2_with fail
    refine bodyPost_ret (v := .tuple #[.slice vo n vc, .int .i64 0]) ?_ rfl ⟨vo, vc, n, by rw [HE.out.1], by rw [HE.out.2]; exact hb⟩
    simp [results, Try.f6, go_sem]
  · have HP := hidM (packBack_any (ca := ca) h hca (by omega))
    rw [← hL] at HP
    clear h c0 hL
    go_enter Try.func6, Try.ntmps6
    go_wp2_with (first | (go_at_call 12; with_reducible refine (hw _).mono ?_; rintro e w' ⟨rfl, rfl⟩) | (go_at_call 14; refine Hid.out ?_))
    unfold Hid
    refine Calls.mono HP.out ?_
    rintro e V ⟨vo, vc, n, rfl, hb⟩
    go_wp2_with fail
    refine bodyPost_ret (v := .tuple #[.slice vo n vc, .int .i64 0]) ?_ rfl ⟨vo, vc, n, by rw [HE.out.1], by rw [HE.out.2]; exact hb⟩
    simp [results, Try.f6, go_sem]

end Go.Proofs.Ytknjnclopiklaab.Kit
