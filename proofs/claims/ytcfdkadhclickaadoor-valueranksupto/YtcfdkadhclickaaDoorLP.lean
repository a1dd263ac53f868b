import Derived.Test.YtcfdkadhclickaaDoorLO
namespace Go.Proofs.YtcfdkadhclickaaDoor.Kit
open Go.RowKit Go.Shelf Go.Deep
set_option linter.unusedVariables false
attribute [local go_sem] run_store_func

theorem nodesC_path : ∀ (d : Nat) (l : List FT) (path : List Nat) (inD : Bool) (x : LS), path.length ≤ 64 → x ∈ nodesC d l path inD → x.path.length ≤ 65
  | 0, _, _, _, _, _, h => by simp [nodesC] at h
  | d + 1, l, path, inD, x, hp, h => by
    rw [nodesC] at h
    obtain ⟨i, _, hi⟩ := List.mem_flatMap.1 h
    rcases List.mem_cons.1 hi with rfl | hi
    · simp; omega
    · split at hi
      · rename_i h64
        exact nodesC_path d _ _ _ x (by simp; omega) hi
      · simp at hi
theorem FaultIs.short {E : Int × Int} {d : Nat} {fs : List FT} {er : Int} {p : List Nat} {k : Int} (h : FaultIs E (grown [] (nodesC d fs [] false)) er p k) : p.length ≤ 65 := by
  rcases h with ⟨_, _, rfl, _⟩ | ⟨_, _, _, rfl, _⟩ | ⟨_, L, x, h1, _, _, _, rfl, _⟩
  · simp
  · simp
  · have hx : x ∈ grown [] (nodesC d fs [] false) := h1.subset (by simp)
    exact nodesC_path d fs [] false x (by simp) (List.mem_of_mem_take hx)
theorem first_upto (N : List LS) (k : Nat) (hk : k ≤ N.length) : AllR (N.take k) ∨ ∃ L x, (L ++ [x]) <+: N ∧ AllR L ∧ wrongE x L.length (tkL L) ≠ 0 := by
  induction k with
  | zero => exact .inl (by simpa using AllR.nil)
  | succ k ih =>
    rcases ih (by omega) with h | h
    · have hkl : k < N.length := by omega
      have hl : (N.take k).length = k := by rw [List.length_take]; omega
      by_cases hx : wrongE N[k] k (tkL (N.take k)) = 0
      · exact .inl (AllR.next hkl h hx)
      · refine .inr ⟨N.take k, N[k], ?_, h, by rw [hl]; exact hx⟩
        rw [← List.take_succ_eq_append_getElem hkl]; exact List.take_prefix _ _
    · exact .inr h
theorem first_or (N : List LS) : AllR N ∨ ∃ L x, (L ++ [x]) <+: N ∧ AllR L ∧ wrongE x L.length (tkL L) ≠ 0 := by
  have h := first_upto N N.length (Nat.le_refl _)
  rwa [List.take_length] at h
theorem fault_is (E : Int × Int) (N : List LS) : ∃ er p k, FaultIs E N er p k := by
  by_cases h : E.1 = 0
  · rcases first_or N with h1 | ⟨L, x, h1, h2, h3⟩
    · exact ⟨0, [], 0, .inr (.inl ⟨h, h1, rfl, rfl, rfl⟩)⟩
    · exact ⟨_, _, 0, .inr (.inr ⟨h, L, x, h1, h2, h3, rfl, rfl, rfl⟩)⟩
  · exact ⟨_, [], _, .inl ⟨h, rfl, rfl, rfl⟩⟩

/-- a callee that answers a fault of those parts -/
def Tells (w : World) (F : Nat) (v : Value) (er : Int) (p : List Nat) (tt : Int) : Prop := ∀ W, Gr w W → Calls Tryd.prog F #[v] W fun e w' => ∃ vo vc, e = .returned (.agg #[.int .i64 er, .slice vo p.length vc, .int .i64 tt]) ∧ Gr W w' ∧ IntsAt w' vo p
theorem tells_check {S : Nat → Prop} {D : Nat} {fo no : Option Addr} {cf cn : Nat} {fs : List FT} {ns : List (ByteArray × ByteArray)} {w : World} (hT : Tab w) (hr : RowAt S w D fo fs) (hcf : fs.length ≤ cf) (hD : D ≤ big) (hS : ∀ b, S b → b < w.heap.size) (hn : NotesAt w no ns) :
    ∃ er p tt, p.length ≤ 65 ∧ Tells w 68 (.agg #[.slice fo fs.length cf, .slice no ns.length cn]) er p tt ∧ Tells w 71 (.agg #[.slice fo fs.length cf, .slice no ns.length cn]) er p tt := by
  obtain ⟨er, p, tt, hF⟩ := fault_is (listsE fs.length ns) (nodes D fs [] false)
  refine ⟨er, p, tt, hF.cut.short, fun W g => ?_, fun W g => ?_⟩
  · refine Calls.mono (check_fault hT hr hcf hD hS hn W g) ?_
    rintro e w' ⟨er', vo, vn, vc, tt', rfl, hg, p', rfl, h1, h2⟩
    obtain ⟨rfl, rfl, rfl⟩ := hF.one h1
    exact ⟨vo, vc, rfl, hg, ints_of_own h2⟩
  · refine Calls.mono (checkR_fault hr hcf hS hn W g) ?_
    rintro e w' ⟨er', vo, vn, vc, tt', rfl, hg, p', rfl, h1, h2⟩
    obtain ⟨rfl, rfl, rfl⟩ := hF.cut.one h1
    exact ⟨vo, vc, rfl, hg, ints_of_own h2⟩
theorem tells_field {S : Nat → Prop} {d : Nat} {f : FT} {ao : Option Addr} {ca : Nat} {w : World} (hT : Tab w) (hr : RowAt S w d ao f.kids) (hca : f.kids.length ≤ ca) (hd : d + 1 ≤ big) (hS : ∀ b, S b → b < w.heap.size) :
    ∃ er p tt, p.length ≤ 65 ∧ Tells w 46 (.agg #[.string f.name, .bool f.nul, .int .i64 f.kind, .int .i64 f.width, .int .i64 f.id, .int .i64 f.index, .slice ao f.kids.length ca]) er p tt ∧ Tells w 48 (.agg #[.string f.name, .bool f.nul, .int .i64 f.kind, .int .i64 f.width, .int .i64 f.id, .int .i64 f.index, .slice ao f.kids.length ca]) er p tt := by
  obtain ⟨er, p, tt, hF⟩ := fault_is (0, 0) (nodes (d + 1) [f] [] false)
  refine ⟨er, p.tail, tt, by have := hF.cut.short; simp; omega, fun W g => ?_, fun W g => ?_⟩
  · refine Calls.mono (checkField_any S d f ao ca W (hT.gr g) (hr.kept fun b hb => g.block b (hS b hb) id) hca hd (fun b hb => by have := hS b hb; have := g.size; omega)) ?_
    rintro e w' ⟨er', p', vo, vc, tt', rfl, hg, h1, h2⟩
    obtain ⟨rfl, rfl, rfl⟩ := hF.one h1
    exact ⟨vo, vc, rfl, hg, h2⟩
  · refine Calls.mono (checkFieldR_any S d f ao ca W (hr.kept fun b hb => g.block b (hS b hb) id) hca (fun b hb => by have := hS b hb; have := g.size; omega)) ?_
    rintro e w' ⟨er', p', vo, vc, tt', rfl, hg, h1, h2⟩
    obtain ⟨rfl, rfl, rfl⟩ := hF.cut.one h1
    exact ⟨vo, vc, rfl, hg, h2⟩
end Go.Proofs.YtcfdkadhclickaaDoor.Kit
