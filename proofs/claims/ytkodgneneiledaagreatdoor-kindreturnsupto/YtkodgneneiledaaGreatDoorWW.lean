import Derived.Test.YtkodgneneiledaaGreatDoorUV
import Derived.Test.YtkodgneneiledaaGreatDoorHA
namespace Go.Proofs.YtkodgneneiledaaGreatDoor.Kit
open Go.RowKit Go.Shelf Go.Deep
set_option linter.unusedVariables false
attribute [local go_sem] run_store_func

/-! ### pure: how many notes, the way of a node, how many names -/
theorem com_len {α : Type} {T : List UInt8} {item : Pr α} (h : ∀ s x s1, item s = .ok (x, s1) → s.1 < s1.1) : ∀ n acc s y s1, comP T item n acc s = .ok (y, s1) → y.length + s.1 ≤ acc.length + s1.1
  | 0, acc, s, y, s1, e => by cases e; exact Nat.le_refl _
  | n + 1, acc, s, y, s1, e => by
    rw [comP] at e
    obtain ⟨b, s2, e1, e2⟩ := Pr.inv e
    have a := (fw_takes T 44 s b s2 e1).1
    (try dsimp only at e2)
    split at e2
    · obtain ⟨x, s3, e3, e4⟩ := Pr.inv e2
      have b := h _ _ _ e3
      have c := com_len h n (acc ++ [x]) s3 y s1 e4
      rw [List.length_append, List.length_singleton] at c
      omega
    · cases e2; omega
theorem sch_notes {T : List UInt8} {s s1 : Ps} {l : List FT} {ns : List (ByteArray × ByteArray)} (h : schP T s = .ok ((l, ns), s1)) : ns.length ≤ s1.1 := by
  have hn : ∀ (l : List FT) s (y : List FT × List (ByteArray × ByteArray)) s1, notesP T l s = .ok (y, s1) → y.2.length ≤ s1.1 := fun l s y s1 e => by
    unfold notesP at e
    obtain ⟨b, s2, e1, e2⟩ := Pr.inv e
    (try dsimp only at e2)
    split at e2
    · obtain ⟨z, s3, e3, e4⟩ := Pr.inv e2
      unfold manyP at e3
      obtain ⟨x, s4, e5, e6⟩ := Pr.inv e3
      have h1 : s2.1 < s4.1 := note_lt (a := s2.1) (g := s2.2) e5
      have h2 := com_len (fun s x s1 h => note_lt (a := s.1) (g := s.2) h) _ _ _ _ _ e6
      cases e4
      simp only [List.length_singleton] at h2
      show z.length ≤ s1.1
      omega
    · cases e2; exact Nat.zero_le _
  unfold schP at h
  obtain ⟨c, s2, e1, e2⟩ := Pr.inv h
  (try dsimp only at e2)
  split at e2
  · obtain ⟨x, s3, e3, e4⟩ := Pr.inv e2
    exact hn _ _ _ _ e4
  · exact hn _ _ _ _ e2
theorem field_fnE {T : List UInt8} : ∀ d e s x s1, d ≤ e → fieldP T d s = .ok (x, s1) → s1.2.length = s.2.length + nP e [x]
  | 0, e, s, x, s1, _, h => by cases h
  | d + 1, 0, s, x, s1, hd, h => absurd hd (by omega)
  | d + 1, e + 1, s, x, s1, hd, h => by
    rw [fieldP] at h
    obtain ⟨nm, s2, e1, e2⟩ := Pr.inv h
    obtain ⟨t, s3, e3, e4⟩ := Pr.inv e2
    obtain ⟨b, s4, e5, e6⟩ := Pr.inv e4
    have a1 := name_fw e1
    have a3 := fn_typ (T := T) (d := e) (rec := fieldP T d) (fun s x s1 h => ⟨Nat.le_of_lt (field_fn d s x s1 h).1, field_fnE d e s x s1 (by omega) h⟩) s2 t s3 e3
    have a5 := fw_takes T 63 s3 b s4 e5
    cases e6
    have a32 : s3.2.length = s2.2.length + nP e t.2.kids := a3.2
    rw [nP_one, a5.2, a32, a1.2.1]
    show _ = _ + (1 + nP e t.2.kids)
    omega
theorem sch_names {T : List UInt8} {s s1 : Ps} {l : List FT} {ns : List (ByteArray × ByteArray)} (h : schP T s = .ok ((l, ns), s1)) : s1.2.length = s.2.length + nP (D0 + 1) l := by
  have hn : ∀ (l : List FT) s (y : List FT × List (ByteArray × ByteArray)) s1, notesP T l s = .ok (y, s1) → s1.2 = s.2 ∧ y.1 = l := fun l s y s1 e => by
    unfold notesP at e
    obtain ⟨b, s2, e1, e2⟩ := Pr.inv e
    have a := fw_takes T 124 s b s2 e1
    (try dsimp only at e2)
    split at e2
    · obtain ⟨z, s3, e3, e4⟩ := Pr.inv e2
      have c := fw_many (T := T) (fw_note T) s2 z s3 e3
      cases e4
      exact ⟨c.2.trans a.2, rfl⟩
    · cases e2; exact ⟨a.2, rfl⟩
  unfold schP at h
  obtain ⟨c, s2, e1, e2⟩ := Pr.inv h
  have a := (fw_peek T s c s2 e1).2
  (try dsimp only at e2)
  split at e2
  · obtain ⟨x, s3, e3, e4⟩ := Pr.inv e2
    have h1 := (fn_many (T := T) (d := D0 + 1) (item := fieldP T D0) (fun s x s1 h => ⟨Nat.le_of_lt (field_fn D0 s x s1 h).1, field_fnE D0 (D0 + 1) s x s1 (by omega) h⟩) _ _ _ e3).2
    have h2 := hn _ _ _ _ e4
    have h3 : l = x := h2.2
    rw [h2.1, h3, ← a]
    exact h1
  · have h2 := hn _ _ _ _ e2
    have h3 : l = [] := h2.2
    rw [h2.1, h3, a, nP_nil]
    rfl
theorem node_way : ∀ (d : Nat) (l : List FT) (path : List Nat) (q : Bool) (x : LS), x ∈ nodes d l path q → path.length < x.path.length
  | 0, l, path, q, x, h => by cases h
  | d + 1, l, path, q, x, h => by
    rw [nodes] at h
    obtain ⟨i, hi, hx⟩ := List.mem_flatMap.1 h
    rcases List.mem_cons.1 hx with rfl | hx
    · simp
    · have := node_way d _ _ _ x hx
      simp at this
      omega
theorem notes_of {W w' : World} {ns : List (ByteArray × ByteArray)} {no : Option Addr} {nc : Nat} (h : LAt W w' 70 2 ncel ns no nc) (hl : ns.length ≤ big) : NotesAt w' no ns := by
  refine ⟨hl, fun hn => ?_⟩
  rcases h.own.2 with ⟨e, h0⟩ | ⟨g, cap, cur, e, h1, h2, h3, h4⟩
  · exact absurd (List.length_eq_zero_iff.1 h0) hn
  · cases e
    refine ⟨g, 0, rfl, fun i hi => ?_⟩
    have hf : ∀ (l : List (ByteArray × ByteArray)) (i : Nat) (h : i < l.length), (l.flatMap ncel)[i * 2]? = some (.string l[i].1) ∧ (l.flatMap ncel)[i * 2 + 1]? = some (.string l[i].2) := by
      intro l
      induction l with
      | nil => intro i h; simp at h
      | cons x l ih =>
        intro i h
        cases i with
        | zero => exact ⟨rfl, rfl⟩
        | succ i =>
          have := ih i (by simpa using h)
          rw [List.flatMap_cons]
          constructor
          · rw [List.getElem?_append_right (by show 2 ≤ _; omega), show (i + 1) * 2 - (ncel x).length = i * 2 by show _ - 2 = _; omega]
            simpa using this.1
          · rw [List.getElem?_append_right (by show 2 ≤ _; omega), show (i + 1) * 2 + 1 - (ncel x).length = i * 2 + 1 by show _ - 2 = _; omega]
            simpa using this.2
    have h5 := hf ns i hi
    rw [Nat.zero_add]
    exact ⟨(h.own.cellAt (i * 2) (by omega)).trans h5.1, (h.own.cellAt (i * 2 + 1) (by omega)).trans h5.2⟩
/-! ### read 13 -/
def whP {α : Type} (T : List UInt8) (r : Pr α) : Pr α := r.bind fun x => (endP T).bind fun _ => Pr.pure x
abbrev RSch := Pr (List FT × List (ByteArray × ByteArray))
def ParBad (s : ByteArray) (r : RSch) (er at_ : Int) : Prop :=
  (65536 < s.size ∧ er = 4 ∧ at_ = 65536) ∨ (s.size ≤ 65536 ∧ ∃ o : Nat, whP s.data.toList r (0, []) = .error o ∧ er = 8 ∧ at_ = (o : Int)) ∨
  (s.size ≤ 65536 ∧ ∃ l ns a g, whP s.data.toList r (0, []) = .ok ((l, ns), (a, g)) ∧
    (((listsE l.length ns).1 ≠ 0 ∧ er = (listsE l.length ns).1 ∧ at_ = 0) ∨
     ((listsE l.length ns).1 = 0 ∧ ∃ L x, L ++ [x] <+: nodes (D0 + 1) l [] false ∧ AllR L ∧ wrongE x L.length (tkL L) ≠ 0 ∧ er = wrongE x L.length (tkL L) ∧ at_ = ((g.getD L.length 0 : Nat) : Int))))
def ParQ (W : World) (s : ByteArray) (r : RSch) (e : Ending) (w' : World) : Prop :=
  Gr W w' ∧ ((∃ er at_ : Int, er ≠ 0 ∧ ParBad s r er at_ ∧ e = .returned (.tuple #[.agg #[.slice none 0 0, .slice none 0 0], .int .i64 er, .int .i64 at_])) ∨
    (∃ l ns a g fo fc no nc, s.size ≤ 65536 ∧ whP s.data.toList r (0, []) = .ok ((l, ns), (a, g)) ∧ (listsE l.length ns).1 = 0 ∧ AllR (nodes (D0 + 1) l [] false) ∧ ns.length ≤ big ∧
      e = .returned (.tuple #[.agg #[.slice fo l.length fc, .slice no ns.length nc], .int .i64 0, .int .i64 0]) ∧ l.length ≤ fc ∧ RowAt (fun z => W.heap.size ≤ z ∧ z < w'.heap.size) w' (D0 + 1) fo l ∧ LAt W w' 70 2 ncel ns no nc))
structure B3 (U : World) (b : Nat) (y0 y1 z x : Value) : Prop where
  sb : U.heap[b]? = some (.cells #[y0, y1] 27 (0, 0))
  eb : U.heap[b + 1]? = some (.cells #[z] 28 (0, 0))
  ab : U.heap[b + 1 + 1]? = some (.cells #[x] 3 (0, 0))
theorem B3.kp {U U' : World} {b : Nat} {y0 y1 z x : Value} {S : Nat → Prop} (h : B3 U b y0 y1 z x) (k : Keeps U U' S) (hS : ∀ q, S q → b + 1 + 1 < q) : B3 U' b y0 y1 z x :=
  ⟨(k.block b (lt_of_heap h.sb) fun e => by have := hS b e; omega).trans h.sb, (k.block (b + 1) (lt_of_heap h.eb) fun e => by have := hS _ e; omega).trans h.eb, (k.block (b + 1 + 1) (lt_of_heap h.ab) fun e => by have := hS _ e; omega).trans h.ab⟩
theorem B3.kpn {U U' : World} {b : Nat} {y0 y1 z x : Value} (h : B3 U b y0 y1 z x) (k : KpN U U' (b + 1 + 1 + 1)) : B3 U' b y0 y1 z x := h.kp k fun q e => e.elim (fun e => by omega) fun e => by have := e.1; omega
theorem results_read {fn : Func} {t u r : Tmp} {tmps : Array Value} {b : Nat} {y0 y1 z x : Value} {w : World} (h : fn.results = #[.cell t 27, .cell u 28, .cell r 3]) (ht : tmps.getD t undef = .pointer (some ⟨b, 0, none⟩)) (hu : tmps.getD u undef = .pointer (some ⟨b + 1, 0, none⟩)) (hr : tmps.getD r undef = .pointer (some ⟨b + 1 + 1, 0, none⟩)) (hb : B3 w b y0 y1 z x) :
    (results fn tmps).run Tryz.prog w = .ok (.tuple #[.agg #[y0, y1], z, x]) w := by
  have c0 : w.cell? ⟨b, 0, none⟩ = some y0 := by simp [World.cell?, hb.sb]
  have c0b : w.cell? ⟨b, 1, none⟩ = some y1 := by simp [World.cell?, hb.sb]
  have c1 : w.cell? ⟨b + 1, 0, none⟩ = some z := by simp [World.cell?, hb.eb]
  have c2 : w.cell? ⟨b + 1 + 1, 0, none⟩ = some x := by simp [World.cell?, hb.ab]
  unfold results
  rw [h]
  simp only [Array.mapM_eq_mapM_toList, List.mapM_cons, List.mapM_nil, ht, hu, hr]
  simp [asAddr, loadVar, go_sem, c0, c0b, c1, c2]
theorem read_stuck {W U : World} {b o : Nat} {y0 y1 z x : Value} {s : ByteArray} {r : RSch} {tmps : Array Value} (hb : b = W.heap.size) (hB : B3 U b y0 y1 z x) (hg : Gr W U) (h4 : tmps.getD 4 undef = .pointer (some ⟨b, 0, none⟩)) (h5 : tmps.getD 5 undef = .pointer (some ⟨b + 1, 0, none⟩)) (h6 : tmps.getD 6 undef = .pointer (some ⟨b + 1 + 1, 0, none⟩)) (hs : s.size ≤ 65536) (hR : whP s.data.toList r (0, []) = .error o) :
    Leaves Tryz.prog Tryz.f21 tmps (ParQ W s r) [{ target := .fn (.func 48) #[.pointer (some ⟨b, 0, none⟩), .pointer (some ⟨b + 1, 0, none⟩), .pointer (some ⟨b + 1 + 1, 0, none⟩)], args := #[] }] (.panicking [{ v := stuckV o, recovered := false }]) U := by
  refine leaves_cons (f := 48) (args := #[.pointer (some ⟨b, 0, none⟩), .pointer (some ⟨b + 1, 0, none⟩), .pointer (some ⟨b + 1 + 1, 0, none⟩)]) (by simp) (by simp [go_sem]) ?_
  refine (catch_stuck b o [] U _ _ _ _ hB.sb hB.eb hB.ab).mono ?_
  rintro e u' w' ⟨rfl, rfl, q1, q2, q3, k⟩
  refine ⟨_, results_read rfl h4 h5 h6 ⟨q1, q2, q3⟩, ?_⟩
  exact ⟨hg.trans k fun j hj h => by omega, .inl ⟨8, o, by decide, .inr (.inl ⟨hs, o, hR, rfl, rfl⟩), rfl⟩⟩
end Go.Proofs.YtkodgneneiledaaGreatDoor.Kit
