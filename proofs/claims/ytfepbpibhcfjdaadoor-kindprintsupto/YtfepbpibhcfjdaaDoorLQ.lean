import Derived.Test.YtfepbpibhcfjdaaDoorLP
import Derived.Deep.RegionHeld3
namespace Go.Proofs.YtfepbpibhcfjdaaDoor.Kit
open Go.RowKit Go.Shelf Go.Deep
set_option linter.unusedVariables false
attribute [local go_sem] run_store_func

/-- a list of schemas, as it lies in memory -/
def SchsAt (S : Nat → Prop) (W : World) (D : Nat) (lo : Option Addr) (l : List (List FT × List (ByteArray × ByteArray))) : Prop :=
  ∀ i (h : i < l.length), ∃ b o fo cf no cn, lo = some ⟨b, o, none⟩ ∧ W.cell? ⟨b, o + i * 2, none⟩ = some (.slice fo l[i].1.length cf) ∧ W.cell? ⟨b, o + i * 2 + 1, none⟩ = some (.slice no l[i].2.length cn) ∧ l[i].1.length ≤ cf ∧ RowAt S W D fo l[i].1 ∧ NotesAt W no l[i].2
structure BX (w W : World) (X : Nat) (c : Array Value) (t : Nat) : Prop where
  g : Gr w W
  b : W.heap[X]? = some (.cells c t)
theorem BX.gr {w W W' : World} {X t : Nat} {c : Array Value} (h : BX w W X c t) (k : Gr W W') : BX w W' X c t := ⟨h.g.trans k (fun _ _ h => h), (k.block _ (lt_of_heap h.b) id).trans h.b⟩
theorem cell2 {W : World} {B t : Nat} {x y : Value} (h : W.heap[B]? = some (.cells #[x, y] t)) : W.cell? ⟨B, 0, none⟩ = some x ∧ W.cell? ⟨B, 1, none⟩ = some y := by simp [World.cell?, h]
theorem bx2 {w W : World} {X t : Nat} {x y : Value} (h : BX w W X #[x, y] t) : Hid (BX w W X #[x, y] t) ∧ W.cell? ⟨X, 0, none⟩ = some x ∧ W.cell? ⟨X, 1, none⟩ = some y := ⟨h, (cell2 h.b).1, (cell2 h.b).2⟩
theorem bx2_kept {w W W' : World} {X t : Nat} {x y : Value} (h : Hid (BX w W X #[x, y] t) ∧ W.cell? ⟨X, 0, none⟩ = some x ∧ W.cell? ⟨X, 1, none⟩ = some y) (k : Hid (Gr W W')) : Hid (BX w W' X #[x, y] t) ∧ W'.cell? ⟨X, 0, none⟩ = some x ∧ W'.cell? ⟨X, 1, none⟩ = some y := bx2 (h.1.out.gr k.out)
theorem bx2_g {w W : World} {X t : Nat} {x y : Value} (h : Hid (BX w W X #[x, y] t) ∧ W.cell? ⟨X, 0, none⟩ = some x ∧ W.cell? ⟨X, 1, none⟩ = some y) : Gr w W := h.1.out.g
theorem bx7 {w W : World} {X t : Nat} {x0 x1 x2 x3 x4 x5 x6 : Value} (h : BX w W X #[x0, x1, x2, x3, x4, x5, x6] t) : Hid (BX w W X #[x0, x1, x2, x3, x4, x5, x6] t) ∧ W.cell? ⟨X, 0, none⟩ = some x0 ∧ W.cell? ⟨X, 1, none⟩ = some x1 ∧ W.cell? ⟨X, 2, none⟩ = some x2 ∧ W.cell? ⟨X, 3, none⟩ = some x3 ∧ W.cell? ⟨X, 4, none⟩ = some x4 ∧ W.cell? ⟨X, 5, none⟩ = some x5 ∧ W.cell? ⟨X, 6, none⟩ = some x6 := by
  have hb := h.b
  refine ⟨h, ?_, ?_, ?_, ?_, ?_, ?_, ?_⟩ <;> simp [World.cell?, hb]
theorem bx7_kept {w W W' : World} {X t : Nat} {x0 x1 x2 x3 x4 x5 x6 : Value} (h : Hid (BX w W X #[x0, x1, x2, x3, x4, x5, x6] t) ∧ W.cell? ⟨X, 0, none⟩ = some x0 ∧ W.cell? ⟨X, 1, none⟩ = some x1 ∧ W.cell? ⟨X, 2, none⟩ = some x2 ∧ W.cell? ⟨X, 3, none⟩ = some x3 ∧ W.cell? ⟨X, 4, none⟩ = some x4 ∧ W.cell? ⟨X, 5, none⟩ = some x5 ∧ W.cell? ⟨X, 6, none⟩ = some x6) (k : Hid (Gr W W')) : Hid (BX w W' X #[x0, x1, x2, x3, x4, x5, x6] t) ∧ W'.cell? ⟨X, 0, none⟩ = some x0 ∧ W'.cell? ⟨X, 1, none⟩ = some x1 ∧ W'.cell? ⟨X, 2, none⟩ = some x2 ∧ W'.cell? ⟨X, 3, none⟩ = some x3 ∧ W'.cell? ⟨X, 4, none⟩ = some x4 ∧ W'.cell? ⟨X, 5, none⟩ = some x5 ∧ W'.cell? ⟨X, 6, none⟩ = some x6 := bx7 (h.1.out.gr k.out)
theorem bx7_g {w W : World} {X t : Nat} {x0 x1 x2 x3 x4 x5 x6 : Value} (h : Hid (BX w W X #[x0, x1, x2, x3, x4, x5, x6] t) ∧ W.cell? ⟨X, 0, none⟩ = some x0 ∧ W.cell? ⟨X, 1, none⟩ = some x1 ∧ W.cell? ⟨X, 2, none⟩ = some x2 ∧ W.cell? ⟨X, 3, none⟩ = some x3 ∧ W.cell? ⟨X, 4, none⟩ = some x4 ∧ W.cell? ⟨X, 5, none⟩ = some x5 ∧ W.cell? ⟨X, 6, none⟩ = some x6) : Gr w W := h.1.out.g

end Go.Proofs.YtfepbpibhcfjdaaDoor.Kit
