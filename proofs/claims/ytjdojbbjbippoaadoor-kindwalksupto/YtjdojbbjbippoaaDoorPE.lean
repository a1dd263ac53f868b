import Derived.Test.YtjdojbbjbippoaaDoorLR
import Derived.Test.YtjdojbbjbippoaaDoorMF
namespace Go.Proofs.YtjdojbbjbippoaaDoor.kindR
open Go.ChangeShapes Go.WideShapes Go.ChangeAt Go.RowKit Go.Deep
open Go.Proofs.YtjdojbbjbippoaaDoor
set_option linter.unusedVariables false

set_option maxRecDepth 100000 in
/-- one schema, read -/
theorem sch_at {H : Type} {enc : TypeId × Value → H} {W : World} {fuel : Nat} {cs : List Value} {d : DataW H} {p : List MemPlace} (hl : cs.length = 2)
    (h : DataW.trod enc Tryd.prog W 0 (fun _ => true) true fuel 25 cs = some (d, p)) (hb : Rows.uptoBulk d ≤ 1048576) :
    ∃ fo fs cf no ns cn, cs = [.slice fo (fs : List Kit.FT).length cf, .slice no (ns : List (ByteArray × ByteArray)).length cn] ∧ Kit.Sch (fun b => b < W.heap.size) W 1048576 fo no cf cn fs ns := by
  obtain ⟨xs, m2, _, hd, _, hxs, hf⟩ := DataW.trod_struct Tryd.underlying25 h
  obtain ⟨c0, c1, rfl⟩ := list2 cs hl
  obtain ⟨y0, y1, rfl⟩ := list2 xs (hxs.trans rfl)
  have f0 : DataW.trod enc Tryd.prog W 0 (fun _ => true) true m2 22 ((([c0, c1] : List Value).drop 0).take (Tryd.prog.cellsOf 22)) = some y0 := hf 0 _ rfl
  have f1 : DataW.trod enc Tryd.prog W 0 (fun _ => true) true m2 23 ((([c0, c1] : List Value).drop 1).take (Tryd.prog.cellsOf 23)) = some y1 := hf 1 _ rfl
  rw [cells24] at f0
  rw [cells25] at f1
  simp only [List.drop_zero, List.drop_succ_cons, List.take_succ_cons, List.take_zero] at f0 f1
  simp only [Prod.mk.injEq] at hd
  rw [hd.1] at hb
  simp only [Rows.uptoBulk] at hb
  have hy0 : Rows.uptoBulk y0.1 ≤ Rows.uptoBulkAll ([y0, y1].map fun x => x.1) := part_le (List.mem_map_of_mem (by simp))
  have hy1 : Rows.uptoBulk y1.1 ≤ Rows.uptoBulkAll ([y0, y1].map fun x => x.1) := part_le (List.mem_map_of_mem (by simp))
  obtain ⟨fo, l1, cf, rfl, h1, h2⟩ := fields_at 1048576 (Nat.le_refl _) (d := y0.1) (p := y0.2) f0 (by omega)
  obtain ⟨no, l2, cn, rfl, h3⟩ := notes_at (d := y1.1) (p := y1.2) f1 (by omega)
  exact ⟨fo, l1, cf, no, l2, cn, rfl, h2, h1, h3⟩
end Go.Proofs.YtjdojbbjbippoaaDoor.kindR
