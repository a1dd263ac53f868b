import Derived.Test.YtjdojbbjbippoaaDoorLK
import Derived.Test.YtjdojbbjbippoaaDoorKC
import Derived.Deep.RegionHeld3
namespace Go.Proofs.YtjdojbbjbippoaaDoor.Kit
open Go.RowKit Go.Shelf Go.Deep
set_option linter.unusedVariables false
attribute [local go_sem] run_store_func

theorem nodesC_path : ∀ (d : Nat) (l : List FT) (path : List Nat) (inD : Bool) (x : LS), path.length ≤ 64 → x ∈ nodesC d l path inD → x.path.length ≤ 65
  | 0, _, _, _, _, _, h => by simp [nodesC] at h
  | d + 1, l, path, inD, x, hp, h => by
    rw [nodesC] at h
    obtain ⟨i, _, hi⟩ := List.mem_flatMap.1 h
    rcases List.mem_cons.1 hi with rfl | hi
    · simp; omega
    · split at hi
      · rename_i h64
        exact nodesC_path d _ _ _ x (by simp; omega) hi
      · simp at hi
theorem FaultIs.short {E : Int × Int} {d : Nat} {fs : List FT} {er : Int} {p : List Nat} {k : Int} (h : FaultIs E (grown [] (nodesC d fs [] false)) er p k) : p.length ≤ 65 := by
  rcases h with ⟨_, _, rfl, _⟩ | ⟨_, _, _, rfl, _⟩ | ⟨_, L, x, h1, _, _, _, rfl, _⟩
  · simp
  · simp
  · have hx : x ∈ grown [] (nodesC d fs [] false) := h1.subset (by simp)
    exact nodesC_path d fs [] false x (by simp) (List.mem_of_mem_take hx)
theorem first_upto (N : List LS) (k : Nat) (hk : k ≤ N.length) : AllR (N.take k) ∨ ∃ L x, (L ++ [x]) <+: N ∧ AllR L ∧ wrongE x L.length (tkL L) ≠ 0 := by
  induction k with
  | zero => exact .inl (by simpa using AllR.nil)
  | succ k ih =>
    rcases ih (by omega) with h | h
    · have hkl : k < N.length := by omega
      have hl : (N.take k).length = k := by rw [List.length_take]; omega
      by_cases hx : wrongE N[k] k (tkL (N.take k)) = 0
      · exact .inl (AllR.next hkl h hx)
      · refine .inr ⟨N.take k, N[k], ?_, h, by rw [hl]; exact hx⟩
        rw [← List.take_succ_eq_append_getElem hkl]; exact List.take_prefix _ _
    · exact .inr h
theorem first_or (N : List LS) : AllR N ∨ ∃ L x, (L ++ [x]) <+: N ∧ AllR L ∧ wrongE x L.length (tkL L) ≠ 0 := by
  have h := first_upto N N.length (Nat.le_refl _)
  rwa [List.take_length] at h
theorem fault_is (E : Int × Int) (N : List LS) : ∃ er p k, FaultIs E N er p k := by
  by_cases h : E.1 = 0
  · rcases first_or N with h1 | ⟨L, x, h1, h2, h3⟩
    · exact ⟨0, [], 0, .inr (.inl ⟨h, h1, rfl, rfl, rfl⟩)⟩
    · exact ⟨_, _, 0, .inr (.inr ⟨h, L, x, h1, h2, h3, rfl, rfl, rfl⟩)⟩
  · exact ⟨_, [], _, .inl ⟨h, rfl, rfl, rfl⟩⟩

/-- a callee that answers a fault of those parts -/
def Tells (w : World) (F : Nat) (v : Value) (er : Int) (p : List Nat) (tt : Int) : Prop := ∀ W, Gr w W → Calls Tryd.prog F #[v] W fun e w' => ∃ vo vc, e = .returned (.agg #[.int .i64 er, .slice vo p.length vc, .int .i64 tt]) ∧ Gr W w' ∧ IntsAt w' vo p
theorem tells_check {S : Nat → Prop} {D : Nat} {fo no : Option Addr} {cf cn : Nat} {fs : List FT} {ns : List (ByteArray × ByteArray)} {w : World} (hT : Tab w) (hr : RowAt S w D fo fs) (hcf : fs.length ≤ cf) (hD : D ≤ big) (hS : ∀ b, S b → b < w.heap.size) (hn : NotesAt w no ns) :
    ∃ er p tt, p.length ≤ 65 ∧ Tells w 13 (.agg #[.slice fo fs.length cf, .slice no ns.length cn]) er p tt ∧ Tells w 18 (.agg #[.slice fo fs.length cf, .slice no ns.length cn]) er p tt := by
  obtain ⟨er, p, tt, hF⟩ := fault_is (listsE fs.length ns) (nodes D fs [] false)
  refine ⟨er, p, tt, hF.cut.short, fun W g => ?_, fun W g => ?_⟩
  · refine Calls.mono (check_fault hT hr hcf hD hS hn W g) ?_
    rintro e w' ⟨er', vo, vn, vc, tt', rfl, hg, p', rfl, h1, h2⟩
    obtain ⟨rfl, rfl, rfl⟩ := hF.one h1
    exact ⟨vo, vc, rfl, hg, ints_of_own h2⟩
  · refine Calls.mono (checkR_fault hr hcf hS hn W g) ?_
    rintro e w' ⟨er', vo, vn, vc, tt', rfl, hg, p', rfl, h1, h2⟩
    obtain ⟨rfl, rfl, rfl⟩ := hF.cut.one h1
    exact ⟨vo, vc, rfl, hg, ints_of_own h2⟩
end Go.Proofs.YtjdojbbjbippoaaDoor.Kit
namespace Go.Proofs.YtjdojbbjbippoaaDoor.Kit
open Go.RowKit Go.Shelf Go.Deep
set_option linter.unusedVariables false
attribute [local go_sem] run_store_func

/-- a list of schemas, as it lies in memory -/
def SchsAt (S : Nat → Prop) (W : World) (D : Nat) (lo : Option Addr) (l : List (List FT × List (ByteArray × ByteArray))) : Prop :=
  ∀ i (h : i < l.length), ∃ b o fo cf no cn, lo = some ⟨b, o, none⟩ ∧ W.cell? ⟨b, o + i * 2, none⟩ = some (.slice fo l[i].1.length cf) ∧ W.cell? ⟨b, o + i * 2 + 1, none⟩ = some (.slice no l[i].2.length cn) ∧ l[i].1.length ≤ cf ∧ RowAt S W D fo l[i].1 ∧ NotesAt W no l[i].2
structure BX (w W : World) (X : Nat) (c : Array Value) (t : Nat) : Prop where
  g : Gr w W
  b : W.heap[X]? = some (.cells c t)
theorem BX.gr {w W W' : World} {X t : Nat} {c : Array Value} (h : BX w W X c t) (k : Gr W W') : BX w W' X c t := ⟨h.g.trans k (fun _ _ h => h), (k.block _ (lt_of_heap h.b) id).trans h.b⟩
theorem cell2 {W : World} {B t : Nat} {x y : Value} (h : W.heap[B]? = some (.cells #[x, y] t)) : W.cell? ⟨B, 0, none⟩ = some x ∧ W.cell? ⟨B, 1, none⟩ = some y := by simp [World.cell?, h]
theorem bx2 {w W : World} {X t : Nat} {x y : Value} (h : BX w W X #[x, y] t) : Hid (BX w W X #[x, y] t) ∧ W.cell? ⟨X, 0, none⟩ = some x ∧ W.cell? ⟨X, 1, none⟩ = some y := ⟨h, (cell2 h.b).1, (cell2 h.b).2⟩
theorem bx2_kept {w W W' : World} {X t : Nat} {x y : Value} (h : Hid (BX w W X #[x, y] t) ∧ W.cell? ⟨X, 0, none⟩ = some x ∧ W.cell? ⟨X, 1, none⟩ = some y) (k : Hid (Gr W W')) : Hid (BX w W' X #[x, y] t) ∧ W'.cell? ⟨X, 0, none⟩ = some x ∧ W'.cell? ⟨X, 1, none⟩ = some y := bx2 (h.1.out.gr k.out)
theorem bx2_g {w W : World} {X t : Nat} {x y : Value} (h : Hid (BX w W X #[x, y] t) ∧ W.cell? ⟨X, 0, none⟩ = some x ∧ W.cell? ⟨X, 1, none⟩ = some y) : Gr w W := h.1.out.g
theorem bx7 {w W : World} {X t : Nat} {x0 x1 x2 x3 x4 x5 x6 : Value} (h : BX w W X #[x0, x1, x2, x3, x4, x5, x6] t) : Hid (BX w W X #[x0, x1, x2, x3, x4, x5, x6] t) ∧ W.cell? ⟨X, 0, none⟩ = some x0 ∧ W.cell? ⟨X, 1, none⟩ = some x1 ∧ W.cell? ⟨X, 2, none⟩ = some x2 ∧ W.cell? ⟨X, 3, none⟩ = some x3 ∧ W.cell? ⟨X, 4, none⟩ = some x4 ∧ W.cell? ⟨X, 5, none⟩ = some x5 ∧ W.cell? ⟨X, 6, none⟩ = some x6 := by
  have hb := h.b
  refine ⟨h, ?_, ?_, ?_, ?_, ?_, ?_, ?_⟩ <;> simp [World.cell?, hb]
theorem bx7_kept {w W W' : World} {X t : Nat} {x0 x1 x2 x3 x4 x5 x6 : Value} (h : Hid (BX w W X #[x0, x1, x2, x3, x4, x5, x6] t) ∧ W.cell? ⟨X, 0, none⟩ = some x0 ∧ W.cell? ⟨X, 1, none⟩ = some x1 ∧ W.cell? ⟨X, 2, none⟩ = some x2 ∧ W.cell? ⟨X, 3, none⟩ = some x3 ∧ W.cell? ⟨X, 4, none⟩ = some x4 ∧ W.cell? ⟨X, 5, none⟩ = some x5 ∧ W.cell? ⟨X, 6, none⟩ = some x6) (k : Hid (Gr W W')) : Hid (BX w W' X #[x0, x1, x2, x3, x4, x5, x6] t) ∧ W'.cell? ⟨X, 0, none⟩ = some x0 ∧ W'.cell? ⟨X, 1, none⟩ = some x1 ∧ W'.cell? ⟨X, 2, none⟩ = some x2 ∧ W'.cell? ⟨X, 3, none⟩ = some x3 ∧ W'.cell? ⟨X, 4, none⟩ = some x4 ∧ W'.cell? ⟨X, 5, none⟩ = some x5 ∧ W'.cell? ⟨X, 6, none⟩ = some x6 := bx7 (h.1.out.gr k.out)
theorem bx7_g {w W : World} {X t : Nat} {x0 x1 x2 x3 x4 x5 x6 : Value} (h : Hid (BX w W X #[x0, x1, x2, x3, x4, x5, x6] t) ∧ W.cell? ⟨X, 0, none⟩ = some x0 ∧ W.cell? ⟨X, 1, none⟩ = some x1 ∧ W.cell? ⟨X, 2, none⟩ = some x2 ∧ W.cell? ⟨X, 3, none⟩ = some x3 ∧ W.cell? ⟨X, 4, none⟩ = some x4 ∧ W.cell? ⟨X, 5, none⟩ = some x5 ∧ W.cell? ⟨X, 6, none⟩ = some x6) : Gr w W := h.1.out.g

end Go.Proofs.YtjdojbbjbippoaaDoor.Kit
