import Derived.Test.YtjdojbbjbippoaaDoorME
namespace Go.Proofs.YtjdojbbjbippoaaDoor.Kit
open Go.RowKit Go.Shelf Go.Deep
set_option linter.unusedVariables false

/-! ### what both sides say of schemas -/
theorem FaultIs.zero {E : Int × Int} {N : List LS} {p : List Nat} {k : Int} (h : FaultIs E N 0 p k) : E.1 = 0 ∧ AllR N := by
  rcases h with ⟨a, e, _⟩ | ⟨a, b, _⟩ | ⟨a, L, x, _, _, h3, e, _⟩
  · exact absurd e.symm a
  · exact ⟨a, b⟩
  · exact absurd e.symm h3
theorem allr_cut {D : Nat} {fs : List FT} (h : AllR (nodes D fs [] false)) : grown [] (nodesC D fs [] false) = nodes D fs [] false := by
  have e := (cut_same D fs [] false 0 (by simp)).2 h.short
  rw [grown, List.nil_append, e, List.take_of_length_le (by have := h.len; omega)]
/-- a schema in memory, and what both Checks tell of it -/
structure Sch (S : Nat → Prop) (w : World) (D : Nat) (fo no : Option Addr) (cf cn : Nat) (fs : List FT) (ns : List (ByteArray × ByteArray)) : Prop where
  row : RowAt S w D fo fs
  le : fs.length ≤ cf
  notes : NotesAt w no ns
structure SchT (w : World) (D : Nat) (fo no : Option Addr) (cf cn : Nat) (fs : List FT) (ns : List (ByteArray × ByteArray)) (er : Int) (p : List Nat) (tt : Int) : Prop where
  is : FaultIs (listsE fs.length ns) (nodes D fs [] false) er p tt
  t11 : Tells w 13 (.agg #[.slice fo fs.length cf, .slice no ns.length cn]) er p tt
  t12 : Tells w 18 (.agg #[.slice fo fs.length cf, .slice no ns.length cn]) er p tt
  look : ∀ W, Gr w W → Calls Tryd.prog 30 #[.agg #[.slice fo fs.length cf, .slice no ns.length cn]] W fun e w' => ∃ vo vn vc k', e = .returned (.tuple #[.agg #[.int .i64 er, .slice vo vn vc, .int .i64 tt], .int .i64 k']) ∧ Gr W w' ∧ (er = 0 → k' = ((nodes D fs [] false).length : Int))
theorem Sch.tells {S : Nat → Prop} {D : Nat} {fo no : Option Addr} {cf cn : Nat} {fs : List FT} {ns : List (ByteArray × ByteArray)} {w : World} (h : Sch S w D fo no cf cn fs ns) (hT : Tab w) (hD : D ≤ big) (hS : ∀ b, S b → b < w.heap.size) :
    ∃ er p tt, SchT w D fo no cf cn fs ns er p tt := by
  obtain ⟨er, p, tt, hF⟩ := fault_is (listsE fs.length ns) (nodes D fs [] false)
  refine ⟨er, p, tt, hF, fun W g => ?_, fun W g => ?_, fun W g => ?_⟩
  · refine Calls.mono (check_fault hT h.row h.le hD hS h.notes W g) ?_
    rintro e w' ⟨er', vo, vn, vc, tt', rfl, hg, p', rfl, h1, h2⟩
    obtain ⟨rfl, rfl, rfl⟩ := hF.one h1
    exact ⟨vo, vc, rfl, hg, ints_of_own h2⟩
  · refine Calls.mono (checkR_fault h.row h.le hS h.notes W g) ?_
    rintro e w' ⟨er', vo, vn, vc, tt', rfl, hg, p', rfl, h1, h2⟩
    obtain ⟨rfl, rfl, rfl⟩ := hF.cut.one h1
    exact ⟨vo, vc, rfl, hg, ints_of_own h2⟩
  · refine Calls.mono (look_walk S D fo no cf cn fs ns W (hT.gr g) (h.row.kept fun b hb => g.block b (hS b hb) id) h.le hD (fun b hb => by have := hS b hb; have := g.size; omega) (h.notes.gr g)) ?_
    rintro e w' ⟨hg, h | h | h⟩
    · obtain ⟨h1, rfl⟩ := h
      obtain ⟨rfl, rfl, rfl⟩ := hF.one (.inl ⟨h1, rfl, rfl, rfl⟩)
      exact ⟨none, 0, 0, 0, rfl, hg, fun h => absurd h h1⟩
    · obtain ⟨h1, h2, rfl⟩ := h
      obtain ⟨rfl, rfl, rfl⟩ := hF.one (.inr (.inl ⟨h1, h2, rfl, rfl, rfl⟩))
      exact ⟨none, 0, 0, _, rfl, hg, fun _ => rfl⟩
    · obtain ⟨h1, L, x, vo, vc, h2, h3, h4, rfl, h5, h6⟩ := h
      obtain ⟨rfl, rfl, rfl⟩ := hF.one (.inr (.inr ⟨h1, L, x, h2, h3, h4, rfl, rfl, rfl⟩))
      exact ⟨vo, _, vc, _, rfl, hg, fun h => absurd h h4⟩
end Go.Proofs.YtjdojbbjbippoaaDoor.Kit
