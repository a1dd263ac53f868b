import Derived.Test.YtknjnclopiklaabPT
namespace Go.Proofs.Ytknjnclopiklaab.Kit
open Go.RowKit Go.Shelf Go.Deep
set_option linter.unusedVariables false
attribute [local go_sem] run_store_func

/-! ### Pack by runs -/
theorem Byts.base {w w1 W : World} {vo : Option Addr} {vc n : Nat} {bs : List UInt8} (g : Gr w w1) (h : Byts w1 W vo vc n bs) : Byts w W vo vc n bs :=
  ⟨h.own, g.trans h.gr (fun _ _ h => h), fun x hx => Nat.le_trans g.size (h.new x hx)⟩
theorem runI_bound {bs : List UInt8} {j : Nat} (hj : j < bs.length) : j + runI bs j ≤ bs.length := by
  have h1 := sameN_le (bs.getD j 0) (bs.drop j)
  rw [List.length_drop] at h1
  unfold runI
  split
  · omega
  · unfold runN; omega
theorem runI_pos {bs : List UInt8} {j : Nat} (h : 0 < runI bs j) : 3 ≤ runI bs j ∧ runI bs j ≤ 130 := by
  have := runN_le bs j
  unfold runI at h ⊢
  split at h
  · omega
  · rename_i c; rw [if_neg c]; omega
theorem runI_le (bs : List UInt8) (j : Nat) : runI bs j ≤ 130 := by
  have := runN_le bs j
  unfold runI
  split <;> omega
set_option maxRecDepth 100000 in
set_option maxHeartbeats 2000000 in
theorem packRuns_any {ao : Option Addr} {ca : Nat} {bs : List UInt8} {w : World} (h : BytesAt w ao bs) (hca : bs.length ≤ ca) (hl : bs.length ≤ 100000) :
    Calls Try.prog 13 #[.slice ao bs.length ca] w fun e w' => ∃ vo vc n, e = .returned (.slice vo n vc) ∧ Byts w w' vo vc n (packRunsB bs) := by
  have hbx := heap_alloc_new w (.cells #[.slice ao bs.length ca] 22)
  have p0 := ce1 hbx
  have h' := h.gr (gr_alloc w (.cells #[.slice ao bs.length ca] 22))
  have HP := hidM (packRuns (B := w.heap.size) (ca := ca) (runI bs) (runC bs) h' hca hl (fun j => by have := runI_le bs j; omega)
    (fun j hj hp => ⟨runI_bound hj, by have := runI_pos hp; simp [runC]; omega⟩)
    (fun W j g hj => long28 h' p0 (by omega) W j g hj)
    (fun V vo vc n bs' j hb hj hp hn => by
      refine Calls.mono (item31 h' p0 (by omega) V vo vc n bs' j (runI bs j) hb hj (runI_pos hp).1 (runI_pos hp).2 hn) ?_
      rintro e w' ⟨vo', vc', rfl, hap⟩
      exact ⟨vo', vc', _, rfl, hap⟩))
  clear hbx h h'
  go_enter Try.func13, Try.ntmps13
  go_wp2_with (go_at_call 24; refine Hid.out ?_)
  unfold Hid
  refine Calls.mono HP.out ?_
  rintro e V ⟨vo, vc, n, rfl, hb⟩
  go_wp2_with fail
  go_ret
  exact ⟨vo, vc, n, rfl, hb.base (gr_alloc w _)⟩

end Go.Proofs.Ytknjnclopiklaab.Kit
