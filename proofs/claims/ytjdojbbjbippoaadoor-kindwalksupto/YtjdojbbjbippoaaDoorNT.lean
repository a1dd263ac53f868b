import Derived.Test.YtjdojbbjbippoaaDoorRows
import Derived.Test.YtjdojbbjbippoaaDoorKC
import Derived.ProofKit
import Derived.OpenShut
import Derived.ChangeOld
import Derived.Below
import Derived.Deep.Slices
import Derived.Lib.LaidTab
import Derived.Deep.DeepHandedRow
namespace Go.Proofs.YtjdojbbjbippoaaDoor.kindR
open Go.ChangeShapes Go.WideShapes Go.ChangeAt Go.RowKit Go.Deep
set_option linter.unusedVariables false

def rowD (k : Nat) : DataW Unit := .agg [.lit (.string (Kit.wordK k)), .lit (.int .i64 (Kit.bytesK k)), .lit (.int .i64 (Kit.bufsK k)), .lit (.int .i64 (Kit.leastK k)), .lit (.int .i64 (Kit.mostK k))]
theorem laid_rows : (Rows.laid_colonnade_kind_kinds : DataW Unit) = .agg ((List.range 21).map rowD) := rfl
theorem cells85 : Tryd.prog.cellsOf 109 = 5 := by kernel_rfl
theorem cells86 : Tryd.prog.cellsOf 110 = 105 := by kernel_rfl
theorem cells3 : Tryd.prog.cellsOf 3 = 1 := by kernel_rfl
theorem cells9 : Tryd.prog.cellsOf 9 = 1 := by kernel_rfl
theorem gKinds : Tryd.prog.globalNamed "colonnade/kind.kinds" = some 0 := by kernel_rfl
theorem gKindsT : (Tryd.prog.globals[0]?).map (·.type) = some 110 := by kernel_rfl
set_option maxRecDepth 100000 in
/-- one row, read -/
theorem row_at {W : World} {fuel : Nat} {cs : List Value} {k : Nat} {p : List MemPlace} (h : DataW.trod (fun _ => ()) Tryd.prog W 0 (fun _ => true) false fuel 109 cs = some (rowD k, p)) :
    cs = [.string ⟨(Kit.wordK k).toArray⟩, .int .i64 (Kit.bytesK k), .int .i64 (Kit.bufsK k), .int .i64 (Kit.leastK k), .int .i64 (Kit.mostK k)] := by
  obtain ⟨xs, m, _, hd, hl, hxs, hf⟩ := DataW.trod_struct Tryd.underlying109 h
  rw [cells85] at hl
  obtain ⟨c0, c1, c2, c3, c4, rfl⟩ : ∃ c0 c1 c2 c3 c4, cs = [c0, c1, c2, c3, c4] := by
    match cs, hl with
    | [a, b, c, d, e], _ => exact ⟨a, b, c, d, e, rfl⟩
  obtain ⟨y0, y1, y2, y3, y4, rfl⟩ : ∃ y0 y1 y2 y3 y4, xs = [y0, y1, y2, y3, y4] := by
    match xs, (hxs.trans rfl : xs.length = 5) with
    | [a, b, c, d, e], _ => exact ⟨a, b, c, d, e, rfl⟩
  have f0 : DataW.trod (fun _ => ()) Tryd.prog W 0 (fun _ => true) false m 9 ((([c0, c1, c2, c3, c4] : List Value).drop 0).take (Tryd.prog.cellsOf 9)) = some y0 := hf 0 _ rfl
  have f1 : DataW.trod (fun _ => ()) Tryd.prog W 0 (fun _ => true) false m 3 ((([c0, c1, c2, c3, c4] : List Value).drop 1).take (Tryd.prog.cellsOf 3)) = some y1 := hf 1 _ rfl
  have f2 : DataW.trod (fun _ => ()) Tryd.prog W 0 (fun _ => true) false m 3 ((([c0, c1, c2, c3, c4] : List Value).drop 2).take (Tryd.prog.cellsOf 3)) = some y2 := hf 2 _ rfl
  have f3 : DataW.trod (fun _ => ()) Tryd.prog W 0 (fun _ => true) false m 3 ((([c0, c1, c2, c3, c4] : List Value).drop 3).take (Tryd.prog.cellsOf 3)) = some y3 := hf 3 _ rfl
  have f4 : DataW.trod (fun _ => ()) Tryd.prog W 0 (fun _ => true) false m 3 ((([c0, c1, c2, c3, c4] : List Value).drop 4).take (Tryd.prog.cellsOf 3)) = some y4 := hf 4 _ rfl
  rw [cells9] at f0
  rw [cells3] at f1 f2 f3 f4
  simp only [List.drop_zero, List.drop_succ_cons, List.take_succ_cons, List.take_zero] at f0 f1 f2 f3 f4
  obtain ⟨s, e0, g0, _⟩ := DataW.trod_string Tryd.underlying9 f0
  obtain ⟨k1, e1, g1, _⟩ := DataW.trod_int Tryd.underlying3 f1
  obtain ⟨k2, e2, g2, _⟩ := DataW.trod_int Tryd.underlying3 f2
  obtain ⟨k3, e3, g3, _⟩ := DataW.trod_int Tryd.underlying3 f3
  obtain ⟨k4, e4, g4, _⟩ := DataW.trod_int Tryd.underlying3 f4
  subst g0 g1 g2 g3 g4
  simp only [rowD, Prod.mk.injEq, DataW.agg.injEq, List.map_cons, List.map_nil, List.cons.injEq, DataW.lit.injEq, Lit.string.injEq, Lit.int.injEq, true_and, and_true] at hd
  obtain ⟨⟨h0, h1, h2, h3, h4⟩, _⟩ := hd
  simp only [List.cons.injEq, and_true] at e0 e1 e2 e3 e4
  rw [e0, e1, e2, e3, e4, h0, h1, h2, h3, h4]
/-- the table, as the rows list it -/
theorem table {W : World} {l0 l1 l2 : String × DataW Unit} (h : laidMet Tryd.prog [l0, l1, l2, ("colonnade/kind.kinds", Rows.laid_colonnade_kind_kinds)] W) : Kit.Tab W := by
  obtain ⟨ps, ⟨_, _, _, _, _, _, _, _, _, _, ⟨_, _, _, _, _, _, _, _, _, _, ⟨_, _, _, _, _, _, _, _, _, _, ⟨g', t', cs, fuel, p, q, hg', ht', hvar, hd, _, _⟩, _⟩, _⟩, _⟩, _⟩ := h
  obtain rfl := Option.some.inj (gKinds.symm.trans hg')
  obtain rfl := Option.some.inj (gKindsT.symm.trans ht')
  rw [laid_rows] at hd
  obtain ⟨xs, m, _, he, hl, hx, hf⟩ := DataW.trod_array Tryd.underlying110 hd
  rw [cells86] at hl
  rw [cells85] at hf
  simp only [Prod.mk.injEq, DataW.agg.injEq] at he
  have hcell := fun i => World.var?_cell gKinds hvar i
  have hsz : cs.size = 105 := by simpa using hl
  refine ⟨?_, fun k hk => ?_⟩
  · have := hcell 0
    rw [Array.getElem?_eq_getElem (by omega)] at this
    have := block_lt_of_cell this
    exact this
  · have h1 := hf k hk
    rw [List.getElem?_eq_getElem (by omega)] at h1
    have h2 : (xs[k]'(by omega)).1 = rowD k := by
      have := congrArg (·[k]?) he.1
      simp only [List.getElem?_map, List.getElem?_range hk, Option.map_some] at this
      rw [List.getElem?_eq_getElem (by omega)] at this
      simpa using this.symm
    have h3 := row_at (k := k) (p := (xs[k]'(by omega)).2) (by rw [h1, ← h2])
    have h4 : ∀ j, j < 5 → cs[k * 5 + j]? = ([.string ⟨(Kit.wordK k).toArray⟩, .int .i64 (Kit.bytesK k), .int .i64 (Kit.bufsK k), .int .i64 (Kit.leastK k), .int .i64 (Kit.mostK k)] : List Value)[j]? := fun j hj => by
      rw [← h3, List.getElem?_take_of_lt hj, List.getElem?_drop, Array.getElem?_toList]
    exact ⟨(hcell _).trans (h4 0 (by decide)), (hcell _).trans (h4 1 (by decide)), (hcell _).trans (h4 2 (by decide)), (hcell _).trans (h4 3 (by decide)), (hcell _).trans (h4 4 (by decide))⟩
end Go.Proofs.YtjdojbbjbippoaaDoor.kindR
