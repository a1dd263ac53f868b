import Derived.Test.YtemleibpmaclmaaSH
namespace Go.Proofs.Ytemleibpmaclmaa.Kit
open Go.RowKit Go.Shelf Go.Deep
set_option linter.unusedVariables false

/-- where a scan stands -/
structure PreOk (s : Sc) : Prop where
  st9 : s.st ≤ 9
  h0 : s.st = 0 → s.hd.length + s.left = 4
  h1 : s.st = 1 → s.hd.length + s.left = 12
  h2 : s.st = 2 → s.hd.length + s.left = 16
  h3 : s.st = 3 → s.hd.length + s.left = 20
  h4 : 4 ≤ s.st → s.st ≤ 8 → s.hd.length = 20
  h9 : s.st = 9 → s.hd = []
  m4 : s.st ≤ 4 → s.md = []
  m5 : s.st = 5 → s.md.length + s.left = s.me
  m6 : 6 ≤ s.st → s.st ≤ 8 → s.md.length = s.me
  m9 : s.st = 9 → s.md = []
  b6 : s.st ≤ 6 → s.bd = []
  b7 : s.st = 7 → s.bd.length + s.left = s.bo
  b8 : s.st = 8 → s.bd.length = s.bo
  b9 : s.st = 9 → s.bd = []
  lm : s.lm ≤ 100000000
  lb : s.lb ≤ 100000000
  me : s.me ≤ s.lm
  bo : s.bo ≤ s.lb
  e0 : s.e = 0
  lf : s.left ≤ 100000000
theorem PreOk.fw {s : Sc} (h : PreOk s) (h8 : s.st ≤ 8) (hms : s.ms.length ≤ 100000000000) : FwOk s := by
  have h0 := h.h0
  have h1 := h.h1
  have h2 := h.h2
  have h3 := h.h3
  have h4 := h.h4
  have a := h.lm
  have b := h.lb
  have c := h.me
  have d := h.bo
  refine ⟨h8, fun e0 e => by have := h2 e; omega, fun e0 e => by have := h3 e; omega, fun e => by have := h4 e h8; omega, ?_, a, b, by omega, by omega, hms⟩
  have : s.st = 0 ∨ s.st = 1 ∨ s.st = 2 ∨ s.st = 3 ∨ 4 ≤ s.st := by omega
  rcases this with e | e | e | e | e
  · have := h0 e; omega
  · have := h1 e; omega
  · have := h2 e; omega
  · have := h3 e; omega
  · have := h4 e h8; omega
theorem PreOk.begin {s : Sc} (h : PreOk s) : PreOk (beginF s 9) ∧ PreOk (beginF s 0) := by
  have a := h.lm
  have b := h.lb
  constructor
  · refine ⟨Nat.le_refl _, fun e => ?_, fun e => ?_, fun e => ?_, fun e => ?_, fun e e' => ?_, fun _ => rfl, fun e => ?_, fun e => ?_, fun e e' => ?_, fun _ => rfl, fun e => ?_, fun e => ?_, fun e => ?_, fun _ => rfl, a, b, Nat.zero_le _, Nat.zero_le _, rfl, by show wantsF 0 0 9 ≤ _; decide⟩
    all_goals (first | (have e1 : (9 : Nat) = _ := e; omega) | (have e1 : (9 : Nat) ≤ _ := e; omega) | (have e1 : (9 : Nat) ≤ _ := e'; omega))
  · refine ⟨Nat.zero_le _, fun e => rfl, fun e => ?_, fun e => ?_, fun e => ?_, fun e e' => ?_, fun e => ?_, fun _ => rfl, fun e => ?_, fun e e' => ?_, fun e => ?_, fun _ => rfl, fun e => ?_, fun e => ?_, fun e => ?_, a, b, Nat.zero_le _, Nat.zero_le _, rfl, by show wantsF 0 0 0 ≤ _; decide⟩
    all_goals (first | (have e1 : (0 : Nat) = _ := e; omega) | (have e1 : _ ≤ (0 : Nat) := e; omega))
theorem PreOk.step {s : Sc} (h : PreOk s) (h0 : s.left = 0) (h8 : s.st ≤ 7) (hr : s.st = 2 ∨ 3 ≤ s.st ∨ s.st ≤ 1) : PreOk (stepF s) := by
  have q0 := h.h0
  have q1 := h.h1
  have q2 := h.h2
  have q3 := h.h3
  have q4 := h.h4
  have m4 := h.m4
  have m5 := h.m5
  have m6 := h.m6
  have b6 := h.b6
  have b7 := h.b7
  have wl : (stepF s).left = wantsF s.me s.bo (s.st + 1) := rfl
  refine ⟨by show s.st + 1 ≤ 9; omega, fun e => ?_, fun e => ?_, fun e => ?_, fun e => ?_, fun e e' => ?_, fun e => ?_, fun e => ?_, fun e => ?_, fun e e' => ?_, fun e => ?_, fun e => ?_, fun e => ?_, fun e => ?_, fun e => ?_, h.lm, h.lb, h.me, h.bo, h.e0, ?_⟩
  · have e1 : s.st + 1 = 0 := e; omega
  · have e1 : s.st + 1 = 1 := e
    rw [wl, e1]; show s.hd.length + 8 = 12
    have := q0 (by omega); omega
  · have e1 : s.st + 1 = 2 := e
    rw [wl, e1]; show s.hd.length + 4 = 16
    have := q1 (by omega); omega
  · have e1 : s.st + 1 = 3 := e
    rw [wl, e1]; show s.hd.length + 4 = 20
    have := q2 (by omega); omega
  · have e1 : 4 ≤ s.st + 1 := e
    show s.hd.length = 20
    by_cases c : s.st = 3
    · have := q3 c; omega
    · exact q4 (by omega) (by omega)
  · have e1 : s.st + 1 = 9 := e; omega
  · have e1 : s.st + 1 ≤ 4 := e
    exact m4 (by omega)
  · have e1 : s.st + 1 = 5 := e
    rw [wl, e1]; show s.md.length + s.me = s.me
    rw [m4 (by omega)]; simp
  · have e1 : 6 ≤ s.st + 1 := e
    show s.md.length = s.me
    by_cases c : s.st = 5
    · have := m5 c; omega
    · exact m6 (by omega) (by omega)
  · have e1 : s.st + 1 = 9 := e; omega
  · have e1 : s.st + 1 ≤ 6 := e
    exact b6 (by omega)
  · have e1 : s.st + 1 = 7 := e
    rw [wl, e1]; show s.bd.length + s.bo = s.bo
    rw [b6 (by omega)]; simp
  · have e1 : s.st + 1 = 8 := e
    show s.bd.length = s.bo
    have := b7 (by omega); omega
  · have e1 : s.st + 1 = 9 := e; omega
  · rw [wl]
    have := h.lm
    have := h.lb
    have := h.me
    have := h.bo
    have a1 := up8_ge s.me
    have a2 := up8_ge s.bo
    have : s.st = 0 ∨ s.st = 1 ∨ s.st = 2 ∨ s.st = 3 ∨ s.st = 4 ∨ s.st = 5 ∨ s.st = 6 ∨ s.st = 7 := by omega
    rcases this with e | e | e | e | e | e | e | e <;> rw [e] <;> simp only [wantsF] <;> omega
theorem PreOk.head {s : Sc} (h : PreOk s) (e : s.st = 2) (he : (readHeadF s).1 = 0) : PreOk (readHeadF s).2 ∧ (readHeadF s).2.st = 2 ∧ (readHeadF s).2.left = s.left := by
  unfold readHeadF at he ⊢
  split
  · rename_i c; rw [if_pos c] at he; simp at he
  · rename_i c
    rw [if_neg c] at he
    split
    · rename_i c2; rw [if_pos c2] at he; simp at he
    · rename_i c2
      rw [if_neg c2] at he
      split
      · rename_i c3; rw [if_pos c3] at he; simp at he
      · refine ⟨⟨h.st9, h.h0, h.h1, h.h2, h.h3, h.h4, h.h9, h.m4, fun e' => ?_, fun e' => ?_, h.m9, h.b6, fun e' => ?_, fun e' => ?_, h.b9, h.lm, h.lb, by show num4 s.hd 4 ≤ s.lm; omega, by show num4 s.hd 8 ≤ s.lb; omega, h.e0, h.lf⟩, e, rfl⟩
        · have e1 : s.st = 5 := e'; omega
        · have e1 : 6 ≤ s.st := e'; omega
        · have e1 : s.st = 7 := e'; omega
        · have e1 : s.st = 8 := e'; omega
/-- behind going forward there is something left -/
theorem forward_ok : ∀ (n : Nat) (s : Sc), PreOk s → s.st ≤ 8 → 9 ≤ n + s.st → (forwardF n s).1 = 0 → PreOk (forwardF n s).2 ∧ 0 < (forwardF n s).2.left ∧ (forwardF n s).2.ms.length ≤ s.ms.length + 1 := by
  intro n
  induction n with
  | zero => intro s h h8 hn; omega
  | succ n ih =>
    intro s h h8 hn he
    unfold forwardF at he ⊢
    by_cases cl : s.left = 0
    · rw [if_neg (by simpa using cl)] at he ⊢
      by_cases c8 : s.st = 8
      · rw [if_pos c8] at he ⊢
        unfold finishF at he ⊢
        split
        · rename_i c; rw [if_pos c] at he; simp at he
        · split
          · exact ⟨h.begin.1, by show 0 < wantsF 0 0 9; decide, by show s.ms.length ≤ _; omega⟩
          · have h' : PreOk { s with ms := s.ms ++ [(s.md, s.bd)] } := ⟨h.st9, h.h0, h.h1, h.h2, h.h3, h.h4, h.h9, h.m4, h.m5, h.m6, h.m9, h.b6, h.b7, h.b8, h.b9, h.lm, h.lb, h.me, h.bo, h.e0, h.lf⟩
            exact ⟨h'.begin.2, by show 0 < wantsF 0 0 0; decide, by show (s.ms ++ [(s.md, s.bd)]).length ≤ _; simp⟩
      · rw [if_neg c8] at he ⊢
        by_cases c2 : s.st = 2
        · simp only [c2, if_true] at he ⊢
          by_cases cr : (readHeadF s).1 = 0
          · obtain ⟨a1, a2, a3⟩ := h.head c2 cr
            rw [if_neg (by simpa using cr)] at he ⊢
            have hms : (readHeadF s).2.ms = s.ms := by
              unfold readHeadF
              split
              · rfl
              · split
                · rfl
                · split <;> rfl
            have := ih (stepF (readHeadF s).2) (a1.step (by omega) (by omega) (.inl a2)) (by show (readHeadF s).2.st + 1 ≤ 8; omega) (by show 9 ≤ n + ((readHeadF s).2.st + 1); omega) he
            refine ⟨this.1, this.2.1, ?_⟩
            have h3 := this.2.2
            have : (stepF (readHeadF s).2).ms = s.ms := hms
            rw [this] at h3
            exact h3
          · rw [if_pos (by simpa using cr)] at he
            exact absurd he cr
        · simp only [c2, if_false] at he ⊢
          rw [if_neg (by simp)] at he ⊢
          exact ih (stepF s) (h.step cl (by omega) (by omega)) (by show s.st + 1 ≤ 8; omega) (by show 9 ≤ n + (s.st + 1); omega) he
    · rw [if_pos cl] at he ⊢
      exact ⟨h, by show 0 < s.left; omega, by show s.ms.length ≤ _; omega⟩
theorem piece_ok {s : Sc} {q : List UInt8} (h : PreOk s) (hq : q.length ≤ s.left) (he : (pieceF s q).1 = 0) : s.st ≤ 8 ∧ PreOk { (pieceF s q).2 with left := (pieceF s q).2.left - q.length } ∧ (pieceF s q).2.left = s.left ∧ (pieceF s q).2.ms = s.ms ∧ (pieceF s q).2.st = s.st := by
  have q0 := h.h0
  have q1 := h.h1
  have q2 := h.h2
  have q3 := h.h3
  have m5 := h.m5
  have b7 := h.b7
  unfold pieceF at he ⊢
  by_cases c0 : s.st = 0
  · rw [if_pos c0] at he ⊢
    refine ⟨by omega, ⟨h.st9, fun e => ?_, fun e => ?_, fun e => ?_, fun e => ?_, fun e e' => ?_, fun e => ?_, h.m4, fun e => ?_, h.m6, h.m9, h.b6, fun e => ?_, h.b8, h.b9, h.lm, h.lb, h.me, h.bo, h.e0, by have := h.lf; simp only []; omega⟩, rfl, rfl, rfl⟩
    all_goals (first | (have e1 : s.st = _ := e; simp only [List.length_append]; have := q0 c0; omega) | (have e1 : s.st = _ := e; omega) | (have e1 : _ ≤ s.st := e; omega))
  rw [if_neg c0] at he ⊢
  by_cases c1 : s.st = 1 ∨ s.st = 2 ∨ s.st = 3
  · rw [if_pos c1] at he ⊢
    refine ⟨by omega, ⟨h.st9, fun e => ?_, fun e => ?_, fun e => ?_, fun e => ?_, fun e e' => ?_, fun e => ?_, h.m4, fun e => ?_, h.m6, h.m9, h.b6, fun e => ?_, h.b8, h.b9, h.lm, h.lb, h.me, h.bo, h.e0, by have := h.lf; simp only []; omega⟩, rfl, rfl, rfl⟩
    · have e1 : s.st = 0 := e; omega
    · have e1 : s.st = 1 := e; simp only [List.length_append]; have := q1 e1; omega
    · have e1 : s.st = 2 := e; simp only [List.length_append]; have := q2 e1; omega
    · have e1 : s.st = 3 := e; simp only [List.length_append]; have := q3 e1; omega
    · have e1 : 4 ≤ s.st := e; omega
    · have e1 : s.st = 9 := e; omega
    · have e1 : s.st = 5 := e; omega
    · have e1 : s.st = 7 := e; omega
  rw [if_neg c1] at he ⊢
  by_cases c5 : s.st = 5
  · rw [if_pos c5] at he ⊢
    refine ⟨by omega, ⟨h.st9, fun e => ?_, fun e => ?_, fun e => ?_, fun e => ?_, h.h4, h.h9, fun e => ?_, fun e => ?_, fun e e' => ?_, fun e => ?_, h.b6, fun e => ?_, h.b8, h.b9, h.lm, h.lb, h.me, h.bo, h.e0, by have := h.lf; simp only []; omega⟩, rfl, rfl, rfl⟩
    · have e1 : s.st = 0 := e; omega
    · have e1 : s.st = 1 := e; omega
    · have e1 : s.st = 2 := e; omega
    · have e1 : s.st = 3 := e; omega
    · have e1 : s.st ≤ 4 := e; omega
    · simp only [List.length_append]; have := m5 c5; omega
    · have e1 : 6 ≤ s.st := e; omega
    · have e1 : s.st = 9 := e; omega
    · have e1 : s.st = 7 := e; omega
  rw [if_neg c5] at he ⊢
  by_cases c7 : s.st = 7
  · rw [if_pos c7] at he ⊢
    refine ⟨by omega, ⟨h.st9, fun e => ?_, fun e => ?_, fun e => ?_, fun e => ?_, h.h4, h.h9, h.m4, fun e => ?_, h.m6, h.m9, fun e => ?_, fun e => ?_, fun e => ?_, fun e => ?_, h.lm, h.lb, h.me, h.bo, h.e0, by have := h.lf; simp only []; omega⟩, rfl, rfl, rfl⟩
    · have e1 : s.st = 0 := e; omega
    · have e1 : s.st = 1 := e; omega
    · have e1 : s.st = 2 := e; omega
    · have e1 : s.st = 3 := e; omega
    · have e1 : s.st = 5 := e; omega
    · have e1 : s.st ≤ 6 := e; omega
    · simp only [List.length_append]; have := b7 c7; omega
    · have e1 : s.st = 8 := e; omega
    · have e1 : s.st = 9 := e; omega
  rw [if_neg c7] at he ⊢
  by_cases c4 : s.st = 4 ∨ s.st = 6 ∨ s.st = 8
  · rw [if_pos c4] at he ⊢
    refine ⟨by omega, ⟨h.st9, fun e => ?_, fun e => ?_, fun e => ?_, fun e => ?_, h.h4, h.h9, h.m4, fun e => ?_, h.m6, h.m9, h.b6, fun e => ?_, h.b8, h.b9, h.lm, h.lb, h.me, h.bo, h.e0, by have := h.lf; simp only []; omega⟩, rfl, rfl, rfl⟩
    · have e1 : s.st = 0 := e; omega
    · have e1 : s.st = 1 := e; omega
    · have e1 : s.st = 2 := e; omega
    · have e1 : s.st = 3 := e; omega
    · have e1 : s.st = 5 := e; omega
    · have e1 : s.st = 7 := e; omega
  · rw [if_neg c4] at he; simp at he
def setRow1 (R : Nat → Row) (i : Nat) (r : Row) (j : Nat) : Row := if j = i then r else R j
theorem wCells_set (R : Nat → Row) {i n : Nat} (r : Row) (hi : i < 3) : wCells (setRow1 R i r) n = wCells R n := by
  unfold wCells setRow1
  congr 1
  funext k
  rw [if_neg (by omega), if_neg (by omega)]
theorem Rd.app {w W W1 : World} {p T i ci : Nat} {tl : List Value} {s s' : Sc} {R : Nat → Row} {wo : Option Addr} {wc n k vc vc' : Nat} {vo vo' : Option Addr} {q : List UInt8} (h : Rd w W p T tl s R wo wc) (hi : i < 3) (hR : R i = (vo, n, vc))
    (own : W1.ownsRow 0 5 1 (.slice vo' (n + k) vc') (n + k) (bv (s.row i) ++ bv q)) (hg : W.grownBy W1 (Value.slice vo n vc).ownBlock) (hblk : (Value.slice vo' (n + k) vc').ownBlock = (Value.slice vo n vc).ownBlock ∨ ∀ g, (Value.slice vo' (n + k) vc').ownBlock = some g → W.heap.size ≤ g)
    (hc : (scCells s R wo wc ++ tl).set ci (.slice vo' (n + k) vc') = scCells s' (setRow1 R i (vo', n + k, vc')) wo wc ++ tl) (hms : s'.ms = s.ms) (hrow : ∀ j, s'.row j = if j = i then s.row i ++ q else s.row j) :
    W1.heap[p]? = some (.cells (scCells s R wo wc ++ tl).toArray T (0, 0)) ∧ RdDone w W (W1.setCell ⟨p, ci, none⟩ (.slice vo' (n + k) vc')) p T tl s.ms.length R wo wc s' ∧ Keeps W W1 (fun g => (rv (R i)).ownBlock = some g) := by
  have tp : Typ W p T := ⟨_, _, h.box⟩
  have n5 : T ≠ 5 ∧ T ≠ 24 := by rcases h.ty with rfl | rfl <;> decide
  have hri := h.rows i (by omega)
  have hb : (rv (R i)).ownBlock = (Value.slice vo n vc).ownBlock := by rw [hR]; rfl
  have k0 : Keeps W W1 (fun g => (rv (R i)).ownBlock = some g) := by rw [hb]; exact Keeps.ofGrown hg
  have hne : ¬ (rv (R i)).ownBlock = some p := fun e => n5.1 (tp.ne (own_typ hri e))
  have hb1 : W1.heap[p]? = some (.cells (scCells s R wo wc ++ tl).toArray T (0, 0)) := (k0.block p (lt_of_heap h.box) hne).trans h.box
  have tp1 : Typ W1 p T := ⟨_, _, hb1⟩
  have hne' : ¬ (Value.slice vo' (n + k) vc').ownBlock = some p := fun e => n5.1 (tp1.ne (own_typ own e))
  have oth : ∀ g, g ≠ p → (W1.setCell ⟨p, ci, none⟩ (.slice vo' (n + k) vc')).heap[g]? = W1.heap[g]? := fun g hg => heap_setCell_other W1 ⟨p, ci, none⟩ g _ hg
  have k1 : Keeps W (W1.setCell ⟨p, ci, none⟩ (.slice vo' (n + k) vc')) (fun g => g = p ∨ (rv (R i)).ownBlock = some g) := Keeps.setCell (S := fun g => g = p ∨ (rv (R i)).ownBlock = some g) (p := ⟨p, ci, none⟩) (k0.mono fun _ _ e => Or.inr e) (fun _ => Or.inl rfl) _
  have wsz := h.gr.size
  have nw : ∀ g, (Value.slice vo' (n + k) vc').ownBlock = some g → (rv (R i)).ownBlock = some g ∨ W.heap.size ≤ g := fun g e => by
    rcases hblk with z | z
    · rw [z, ← hb] at e; exact .inl e
    · exact .inr (z g e)
  refine ⟨hb1, ⟨setRow1 R i (vo', n + k, vc'), wo, wc, ⟨h.gr.trans k1 (fun j hj e => ?_), h.pnew, h.ty, ?_, fun j hj => ?_, fun j hj g e => ?_, fun j l g hj hl hjl e z => ?_, ?_, ?_⟩, k1.mono fun g _ e => ?_, fun g e => ?_⟩, k0⟩
  · rcases e with e | e
    · have := h.pnew; omega
    · have := h.rnew i (by omega) j e; omega
  · rw [heap_setCell_same W1 p ci _ T _ hb1, ← hc]
    simp
  · rw [hms] at hj
    rw [hrow]
    unfold setRow1
    by_cases c : j = i
    · rw [if_pos c, if_pos c, bv_app]
      exact own_kp own fun g e => oth g (fun z => hne' (by rw [← z]; exact e))
    · rw [if_neg c, if_neg c]
      exact own_kp (h.rows j hj) fun g e => k1.block g (own_lt (h.rows j hj) g e) (fun z => by
        rcases z with z | z
        · subst z; exact n5.1 (tp.ne (own_typ (h.rows j hj) e))
        · exact h.apart i j g (by omega) hj (fun q => c q.symm) z e)
  · rw [hms] at hj
    unfold setRow1 at e
    by_cases c : j = i
    · rw [if_pos c] at e
      rcases nw g e with z | z
      · exact h.rnew i (by omega) g z
      · omega
    · rw [if_neg c] at e; exact h.rnew j hj g e
  · rw [hms] at hj hl
    unfold setRow1 at e z
    by_cases c : j = i
    · rw [if_pos c] at e
      rw [if_neg (by omega)] at z
      rcases nw g e with y | y
      · exact h.apart i l g (by omega) hl (by omega) y z
      · have := own_lt (h.rows l hl) g z; omega
    · rw [if_neg c] at e
      by_cases d : l = i
      · rw [if_pos d] at z
        rcases nw g z with y | y
        · exact h.apart i j g (by omega) hj (fun q => c q.symm) y e
        · have := own_lt (h.rows j hj) g e; omega
      · rw [if_neg d] at z; exact h.apart j l g hj hl hjl e z
  · rw [hms, wCells_set _ _ hi]
    exact h.wown.kp fun g e => k1.block g (h.wown.lt e) (fun z => by
      rcases z with z | z
      · subst z; exact n5.2 (tp.ne (h.wown.typ e))
      · exact absurd ((own_typ hri z).ne (h.wown.typ e)) (by decide))
  · rw [hms]; exact h.wnew
  · rcases e with e | e
    · exact .inl e
    · exact .inr (.inr ⟨i, by omega, e⟩)
  · rw [hms] at e
    rcases e with e | e | ⟨j, hj, e⟩
    · exact .inl (.inl e)
    · exact .inl (.inr (.inl e))
    · unfold setRow1 at e
      by_cases c : j = i
      · rw [if_pos c] at e
        rcases nw g e with z | z
        · exact .inl (.inr (.inr ⟨i, by omega, z⟩))
        · exact .inr z
      · rw [if_neg c] at e; exact .inl (.inr (.inr ⟨j, hj, e⟩))
end Go.Proofs.Ytemleibpmaclmaa.Kit
