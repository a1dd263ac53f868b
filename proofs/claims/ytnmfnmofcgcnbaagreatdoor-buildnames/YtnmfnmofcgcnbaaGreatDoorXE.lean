import Derived.Test.YtnmfnmofcgcnbaaGreatDoorXD
namespace Go.Proofs.YtnmfnmofcgcnbaaGreatDoor.Kit
open Go.RowKit Go.Shelf Go.Deep
open Go.Proofs.YtnmfnmofcgcnbaaGreatDoor.Kd (Ans AnsV cell5 cell2)
open Go.Proofs.YtnmfnmofcgcnbaaGreatDoor.Ink (OwnRow)
set_option linter.unusedVariables false
set_option linter.unusedSimpArgs false
attribute [local go_sem] run_store_func
theorem DatB.kp {w u : World} {qb v1 c1 v2 b : Nat} {n m : Int} {v : Value} (h : DatB w qb v1 c1 v2) (hz : w.heap[b]? = some (.cells (dC n m v) 31)) (k : Keeps w u (fun z => z = b)) : DatB u qb v1 c1 v2 := by
  have c0 : w.cell? ⟨b, 0, none⟩ = some (.int .i64 n) := by simp [World.cell?, hz, dC]
  have n1 : qb ≠ b := fun e => by have := h.b0; rw [e, c0] at this; cases this
  have n2 : v1 ≠ b := fun e => by have := h.hv; rw [e, c0] at this; cases this
  have n3 : v2 ≠ b := fun e => by have := h.x0; rw [e, c0] at this; cases this
  exact ⟨k.cell' h.b0 n1, k.cell' h.b1 n1, k.cell' h.hv n2, k.cell' h.x0 n3, k.cell' h.x1 n3, k.cell' h.x2 n3, k.cell' h.x3 n3, h.n1⟩
/-- build.Of of the two values -/
theorem of5_2 (ao : Option Addr) (ca g : Nat) (u : World) (hT : Tab u) (hg : u.heap[g]? = some (.cells #[.bool false, .int .i64 (-2), .string ⟨#[]⟩, .slice none 0 0, .bool true, .int .i64 0, .string ⟨#[]⟩, .slice none 0 0] 37)) :
    Calls Tryz.prog 5 #[.agg #[.string nmA, .bool true, .int .i64 4, .int .i64 0, .int .i64 0, .int .i64 0, .slice ao 0 ca], .slice (some ⟨g, 0, none⟩) 2 2] u fun e w' => ∃ pb pc v1 c1 v2, e = .returned (.tuple #[.agg #[.int .i64 2, .int .i64 0, .int .i64 1, .slice (some ⟨pb, 0, none⟩) 2 pc, .slice none 0 0, .slice none 0 0], .int .i64 0, .int .i64 0]) ∧ Gr u w' ∧ DatB w' pb v1 c1 v2 := by
  have hV : VAt u (some ⟨g, 0, none⟩) [(false, -2), (true, 0)] := fun k vn x e => by
    obtain ⟨i0, i1, i2, i3, i4, i5, i6, i7⟩ := cell8 hg
    match k, e with
    | 0, e => cases e; exact ⟨g, none, 0, rfl, i0, i1, i2, i3⟩
    | 1, e => cases e; exact ⟨g, none, 0, rfl, i4, i5, i6, i7⟩
    | k + 2, e => simp at e
  refine (of5 true ao ca (some ⟨g, 0, none⟩) 2 [(false, -2), (true, 0)] u hT hV (by decide)).mono ?_
  rintro e w' ⟨hgr, h | h⟩
  · obtain ⟨bo, bc, -, rfl, hd⟩ := h
    obtain ⟨pb, v1, c1, v2, rfl, hb⟩ := dat_cells hd
    exact ⟨pb, bc, v1, c1, v2, rfl, hgr, hb⟩
  · obtain ⟨k, y, hy, hf, -⟩ := h
    exfalso
    match k, hy with
    | 0, hy => cases hy; revert hf; decide
    | 1, hy => cases hy; revert hf; decide
    | k + 2, hy => simp at hy
def fmU (w : World) (b pb pc : Nat) : World := setAll w b [(0, .int .i64 2), (1, .int .i64 0), (2, .int .i64 1), (3, .slice (some ⟨pb, 0, none⟩) 2 pc), (4, .slice none 0 0), (5, .slice none 0 0)]
theorem form_tail {W A2 w : World} {b4 b8 pb pc v1 c1 v2 : Nat} (gW : Gr W A2) (hb4 : A2.heap[b4]? = some (.cells (dC 0 0 (.slice none 0 0)) 31)) (h4 : W.heap.size ≤ b4) (g : Gr A2 w) (h8 : A2.heap.size ≤ b8) (hb8 : w.heap[b8]? = some (.cells (dC 0 0 (.slice none 0 0)) 31)) (hD : DatB w pb v1 c1 v2) :
    (fmU w b8 pb pc).heap[b8]? = some (.cells (dC 2 1 (.slice (some ⟨pb, 0, none⟩) 2 pc)) 31) ∧ (fmU w b8 pb pc).heap[b4]? = some (.cells (dC 0 0 (.slice none 0 0)) 31) ∧ Keeps A2 (fmU w b8 pb pc) (fun z => z = b4) ∧
    (fmU (fmU w b8 pb pc) b4 pb pc).heap[b4]? = some (.cells (dC 2 1 (.slice (some ⟨pb, 0, none⟩) 2 pc)) 31) ∧
    Gr W (fmU (fmU w b8 pb pc) b4 pb pc) ∧ DatB (fmU (fmU w b8 pb pc) b4 pb pc) pb v1 c1 v2 := by
  have l4 := lt_of_heap hb4
  have hb4w := (g.block b4 l4 id).trans hb4
  have k8 : Keeps w (fmU w b8 pb pc) (fun z => z = b8) := setAll_kp _ _ _
  have e8 : (fmU w b8 pb pc).heap[b8]? = some (.cells (dC 2 1 (.slice (some ⟨pb, 0, none⟩) 2 pc)) 31) := by
    unfold fmU
    rw [setAll_blk b8 31 _ _ _ hb8]
    rfl
  have e4 := (k8.block b4 (lt_of_heap hb4w) (by omega)).trans hb4w
  have kA : Keeps A2 (fmU w b8 pb pc) (fun z => z = b4) := (g.mono fun _ _ h => h.elim).trans k8 (fun j hj e => by have e' : j = b8 := e; omega)
  have k4 : Keeps (fmU w b8 pb pc) (fmU (fmU w b8 pb pc) b4 pb pc) (fun z => z = b4) := setAll_kp _ _ _
  refine ⟨e8, e4, kA, ?_, gW.trans (kA.trans k4 (fun _ _ h => h)) (fun j hj e => by have e' : j = b4 := e; omega), (hD.kp hb8 k8).kp e4 k4⟩
  rw [show fmU (fmU w b8 pb pc) b4 pb pc = setAll (fmU w b8 pb pc) b4 _ from rfl, setAll_blk b4 31 _ _ _ e4]
  rfl
end Go.Proofs.YtnmfnmofcgcnbaaGreatDoor.Kit
