import Derived.Test.YtemleibpmaclmaaFG
namespace Go.Proofs.Ytemleibpmaclmaa.Kit
open Go.RowKit Go.Shelf Go.Deep
set_option linter.unusedVariables false
attribute [local go_sem] run_store_func

set_option maxRecDepth 100000 in
set_option maxHeartbeats 2000000 in
theorem kept_true {g : Nat} {oc : Nat} {bo : Option Addr} {bc : Nat} {l : List UInt8} {w : World} (ha : BytesAt w (some ⟨g, 0, none⟩) (l ++ marks)) (hb : BytesAt w bo l) (hl : l.length ≤ 140737488355300) (hoc : l.length + 3 ≤ oc) :
    Calls Try.prog 11 #[.slice (some ⟨g, 0, none⟩) (l.length + 3) oc, .slice bo l.length bc] w fun e w' => e = .returned (.bool true) ∧ Gr w w' := by
  have hp : BytesAt w (some ⟨g, 0, none⟩) l := by
    have := ha.take l.length
    rw [List.take_left'] at this
    · exact this
    · rfl
  obtain ⟨b, o, e, hc⟩ := ha (by simp [marks])
  cases e
  have q0 := hc l.length (by simp [marks])
  have q1 := hc (l.length + 1) (by simp [marks])
  have q2 := hc (l.length + 2) (by simp [marks])
  simp only [marks, List.getElem_append_right (Nat.le_refl _), List.getElem_append_right (Nat.le_add_right _ _), Nat.zero_add, Nat.sub_self, Nat.add_sub_cancel_left, List.getElem_cons_zero, List.getElem_cons_succ] at q0 q1 q2
  have HS := hidM (same_true (ac := oc) (bc := bc) hp hb (by omega))
  have HQ : Hid (∀ V, Gr w V → V.cell? ⟨g, l.length, none⟩ = some (.int .u8 171) ∧ V.cell? ⟨g, l.length + 1, none⟩ = some (.int .u8 171) ∧ V.cell? ⟨g, l.length + 2, none⟩ = some (.int .u8 171)) := fun V k => ⟨k.cell' q0 id, k.cell' q1 id, k.cell' q2 id⟩
  obtain ⟨L, hL⟩ : ∃ L, L = l.length := ⟨_, rfl⟩
  rw [← hL] at HS HQ hl hoc ⊢
  clear ha hb hp hc hL q0 q1 q2
  have hL0 : (0 : Int) ≤ (L : Int) := by omega
  have hLo : (L : Int) ≤ (oc : Int) := by omega
  have hL3 : (L : Int) < (L : Int) + 3 := by omega
  go_enter Try.func11, Try.ntmps11
  go_wp2_with (go_at_call 10; refine Hid.out ?_)
  unfold Hid
  refine Calls.mono HS.out ?_
  rintro e W1 ⟨rfl, g1⟩
  obtain ⟨c0, c1, c2⟩ := HQ.out W1 g1
  have HG := hidM g1
  have e1 : ((L : Int) + 1).toNat = L + 1 := by omega
  have e2 : ((L : Int) + 2).toNat = L + 2 := by omega
  clear g1 HQ HS
  go_wp2_with fail
  go_ret
  exact ⟨rfl, HG.out⟩
end Go.Proofs.Ytemleibpmaclmaa.Kit
