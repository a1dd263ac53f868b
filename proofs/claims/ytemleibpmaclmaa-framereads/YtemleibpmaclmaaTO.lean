import Derived.Test.YtemleibpmaclmaaTN
namespace Go.Proofs.Ytemleibpmaclmaa.Kit
open Go.RowKit Go.Shelf Go.Deep
set_option linter.unusedVariables false

/-! ### append onto a list of messages, as a law for the walk -/
theorem wpList_append_msgs {w : World} {ops : Array Oper} {rest : List Oper} {o : Oper} {a : Act} {Q : Exit → Act → World → Prop} (hgd : o.guard = none) (s x : Operand)
    (ho : o.op = .call { callee := .builtin .append, args := #[s, x], argTypes := #[58, 58] })
    (vo : Option Addr) (n vc : Nat) (xs : List Value) (hv : a.eval s = .slice vo n vc) (hown : OffRow w 24 2 vo n vc xs) (y : Value) (m : Nat) (news : List Value) (hx : a.eval x = y) (hs : Src Try.prog 2 58 y m news w) (h63 : n + m ≤ 9223372036854775807) (hbytes : (n + m) * 48 ≤ 140737488355328)
    (h : ∀ vo' vc' w', OffRow w' 24 2 vo' (n + m) vc' (xs ++ news) → w.grownBy w' (Value.slice vo n vc).ownBlock → ((Value.slice vo' (n + m) vc').ownBlock = (Value.slice vo n vc).ownBlock ∨ (∀ g, (Value.slice vo' (n + m) vc').ownBlock = some g → w.heap.size ≤ g) ∧ w.grownBy w' none) → wpList Try.prog ops Q rest (a.put o.dst (.slice vo' (n + m) vc')) w') :
    wpList Try.prog ops Q (o :: rest) a w := by
  refine wpList_plain hgd fun K hK' => ?_
  obtain ⟨i, hi, hzz⟩ := Option.map_eq_some_iff.1 info24
  simp only [Prod.mk.injEq] at hzz
  obtain ⟨hz, hsz, hb⟩ := hzz
  obtain ⟨vo', vc', w', hr, h2, h3, h4⟩ := run_append_off (P := Try.prog) w 58 58 o.type 24 i _ Try.underlying58 hi hz (by rw [hsz]; rfl) (by omega) vo n vc xs (by rw [hsz]; exact hown) y m news (by rw [hsz]; exact hs) h63 (by rw [hb]; exact hbytes)
  rw [hsz] at h2
  unfold Oper.wp
  simp [execOp, ho, resolve, invoke, builtin, hv, hx, hr, Result.andThen]
  exact hK' _ _ (h vo' vc' w' h2 h3 h4)
theorem src_msg0 (w : World) (a b : Value) (ha : a.oneCell' = true) (hb : b.oneCell' = true) : Src Try.prog 2 58 (.slice (some ⟨w.heap.size, 0, none⟩) 1 1) 1 [a, b] (w.alloc (.cells #[a, b] 24)) := by
  refine Src.ofSlice (w := w.alloc (.cells #[a, b] 24)) Try.underlying58 ⟨w.heap.size, 0, none⟩ 1 1 [a, b] (by simp) (fun j v hj => ?_) (fun v hv => by simp at hv; rcases hv with rfl | rfl <;> assumption)
  have hb' := heap_alloc_new w (.cells #[a, b] 24)
  have e : (⟨w.heap.size, 0, none⟩ : Addr).add j = ⟨w.heap.size, j, none⟩ := by cases j <;> simp [Addr.add]
  rw [e]
  simp only [World.cell?, hb']
  simpa using hj
end Go.Proofs.Ytemleibpmaclmaa.Kit
