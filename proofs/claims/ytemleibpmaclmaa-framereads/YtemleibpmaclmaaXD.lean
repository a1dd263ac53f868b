import Derived.Test.YtemleibpmaclmaaXC
import Derived.Test.YtemleibpmaclmaaTQ
namespace Go.Proofs.Ytemleibpmaclmaa.Kit
open Go.RowKit Go.Shelf Go.Deep
set_option linter.unusedVariables false

/-! ### both readers and the book, apart -/
theorem Rd.typ {w W : World} {p : Nat} {tl : List Value} {s : Sc} {R : Nat → Row} {wo : Option Addr} {wc : Nat} (h : Rd w W p 76 tl s R wo wc) {g : Nat} (k : RIs p s.ms.length R wo wc g) : Typ W g 76 ∨ Typ W g 24 ∨ (Typ W g 5 ∧ ∃ i, i < 3 + 2 * s.ms.length ∧ (rv (R i)).ownBlock = some g) := by
  rcases k with rfl | k | ⟨i, hi, k⟩
  · exact .inl ⟨_, _, h.box⟩
  · exact .inr (.inl (h.wown.typ k))
  · exact .inr (.inr ⟨own_typ (h.rows i hi) k, i, hi, k⟩)
/-- a block of bytes is a scan's only as one of its rows -/
theorem Rd.row5 {w W : World} {p : Nat} {tl : List Value} {s : Sc} {R : Nat → Row} {wo : Option Addr} {wc : Nat} (h : Rd w W p 76 tl s R wo wc) {g : Nat} (t : Typ W g 5) (k : RIs p s.ms.length R wo wc g) : ∃ i, i < 3 + 2 * s.ms.length ∧ (rv (R i)).ownBlock = some g := by
  rcases h.typ k with q | q | q
  · exact absurd (t.ne q) (by decide)
  · exact absurd (t.ne q) (by decide)
  · exact q.2
theorem Rd.not {w W : World} {p : Nat} {tl : List Value} {s : Sc} {R : Nat → Row} {wo : Option Addr} {wc : Nat} (h : Rd w W p 76 tl s R wo wc) {g t : Nat} (ht : Typ W g t) (h1 : t ≠ 76) (h2 : t ≠ 24) (h3 : t ≠ 5) : ¬ RIs p s.ms.length R wo wc g := fun k => by
  rcases h.typ k with q | q | q
  · exact h1 (ht.ne q)
  · exact h2 (ht.ne q)
  · exact h3 (ht.ne q.1)
/-- a want: bytes that lie in the document's memory -/
structure Want (W : World) (sN : Nat) (R : Nat → Row) (N : Nat) (R' : Nat → Row) (fo : Option Addr) (n : Nat) (q : Row) (d : List UInt8) : Prop where
  bytes : BytesAt W q.1 d
  typ : ∀ X o, q.1 = some ⟨X, o, none⟩ → d ≠ [] → Typ W X 5
  rd : ∀ X o, q.1 = some ⟨X, o, none⟩ → d ≠ [] → ∀ i, i < 3 + 2 * sN → (rv (R i)).ownBlock ≠ some X
  bk : ∀ X o, q.1 = some ⟨X, o, none⟩ → d ≠ [] → ∀ i, i < N → (rv (R' i)).ownBlock ≠ some X
  fo : ∀ X o o', q.1 = some ⟨X, o, none⟩ → d ≠ [] → fo = some ⟨X, o', none⟩ → o + d.length ≤ n
structure Two (w W : World) (p x K lm lb : Nat) (s : Sc) (sh : Bool) (hd : Int) (F : List UInt8) (shD : Bool) (A : Nat) (last : Bool) (fo : Option Addr) (fc n : Nat) (R : Nat → Row) (wo : Option Addr) (wc : Nat) (N : Nat) (ao : Option Addr) (ac : Nat) (bo : Option Addr) (bc : Nat) (R' Q : Nat → Row) (D : Nat → List UInt8) : Prop where
  rd : Rd w W p 76 [.bool sh, .int .i64 hd] s R wo wc
  dr : Dr w W x lm lb F shD A last fo fc n
  bk : Bk w W K N ao ac bo bc (.slice none 0 0) (.slice none 0 0) R' Q D
  rxd : ∀ i g, i < 3 + 2 * s.ms.length → (rv (R i)).ownBlock = some g → (Value.slice fo n fc).ownBlock ≠ some g
  rxb : ∀ i j g, i < 3 + 2 * s.ms.length → j < N → (rv (R i)).ownBlock = some g → (rv (R' j)).ownBlock ≠ some g
  dxb : ∀ j g, j < N → (rv (R' j)).ownBlock = some g → (Value.slice fo n fc).ownBlock ≠ some g
  wants : ∀ j, j < N → Want W s.ms.length R N R' fo n (Q j) (D j)
section
variable {w W V : World} {p x K lm lb : Nat} {s : Sc} {sh : Bool} {hd : Int} {F : List UInt8} {shD : Bool} {A : Nat} {last : Bool} {fo : Option Addr} {fc n : Nat} {R : Nat → Row} {wo : Option Addr} {wc : Nat} {N : Nat} {ao : Option Addr} {ac : Nat} {bo : Option Addr} {bc : Nat} {R' Q : Nat → Row} {D : Nat → List UInt8}
theorem Typ.gr {g t : Nat} (h : Typ W g t) (k : Gr W V) : Typ V g t := by
  obtain ⟨c, f, e⟩ := h
  exact ⟨c, f, (k.block g (lt_of_heap e) id).trans e⟩
theorem Typ.lt {g t : Nat} (h : Typ W g t) : g < W.heap.size := by
  obtain ⟨c, f, e⟩ := h
  exact lt_of_heap e
theorem Two.grow (h : Two w W p x K lm lb s sh hd F shD A last fo fc n R wo wc N ao ac bo bc R' Q D) (g : Gr W V) : Two w V p x K lm lb s sh hd F shD A last fo fc n R wo wc N ao ac bo bc R' Q D :=
  ⟨h.rd.grow g, h.dr.grow g, h.bk.grow g, h.rxd, h.rxb, h.dxb, fun j hj => ⟨(h.wants j hj).bytes.gr g, fun X o e d => ((h.wants j hj).typ X o e d).gr g, (h.wants j hj).rd, (h.wants j hj).bk, (h.wants j hj).fo⟩⟩
/-- the blocks of the document's reader are none of the scan's -/
theorem Two.nd (h : Two w W p x K lm lb s sh hd F shD A last fo fc n R wo wc N ao ac bo bc R' Q D) {g : Nat} (k : DIs x fo g) : ¬ RIs p s.ms.length R wo wc g := fun q => by
  rcases k.to n fc with e | e
  · subst e
    exact h.rd.not ⟨_, _, h.dr.box⟩ (by decide) (by decide) (by decide) q
  · obtain ⟨i, hi, r⟩ := h.rd.row5 (own_typ h.dr.own e) q
    exact h.rxd i g hi r e
theorem Two.nb (h : Two w W p x K lm lb s sh hd F shD A last fo fc n R wo wc N ao ac bo bc R' Q D) {g : Nat} (k : h.bk.Is g) : ¬ RIs p s.ms.length R wo wc g := fun q => by
  rcases k with e | e | e | ⟨j, hj, e⟩
  · subst e
    exact h.rd.not ⟨_, _, h.bk.box⟩ (by decide) (by decide) (by decide) q
  · exact h.rd.not (own_typ h.bk.all e) (by decide) (by decide) (by decide) q
  · exact h.rd.not (own_typ h.bk.want e) (by decide) (by decide) (by decide) q
  · obtain ⟨i, hi, r⟩ := h.rd.row5 (own_typ (h.bk.rows j hj) e) q
    exact h.rxb i j g hi hj r e
/-- a step of the program's reader -/
theorem Two.prog {s' : Sc} {sh' : Bool} {hd' : Int} {R2 : Nat → Row} {wo2 : Option Addr} {wc2 : Nat} (h : Two w W p x K lm lb s sh hd F shD A last fo fc n R wo wc N ao ac bo bc R' Q D) (f : From w W V p 76 [.bool sh', .int .i64 hd'] s.ms.length R wo wc s' R2 wo2 wc2) : Two w V p x K lm lb s' sh' hd' F shD A last fo fc n R2 wo2 wc2 N ao ac bo bc R' Q D := by
  have hrow : ∀ i g, i < 3 + 2 * s'.ms.length → (rv (R2 i)).ownBlock = some g → g < W.heap.size → Typ W g 5 → ∃ k, k < 3 + 2 * s.ms.length ∧ (rv (R k)).ownBlock = some g := fun i g hi e hg t => by
    rcases f.bk g (.inr (.inr ⟨i, hi, e⟩)) with q | q
    · exact h.rd.row5 t q
    · omega
  refine ⟨f.rd, h.dr.kp fun g k => f.kp.block g (h.dr.lt k) (h.nd k), h.bk.kp (fun g k => f.kp.block g (h.bk.lt k) (h.nb k)) f.rd.gr, fun i g hi e q => ?_, fun i j g hi hj e q => ?_, h.dxb, fun j hj => ?_⟩
  · have t := own_typ h.dr.own q
    obtain ⟨k, hk, r⟩ := hrow i g hi e t.lt t
    exact h.rxd k g hk r q
  · have t := own_typ (h.bk.rows j hj) q
    obtain ⟨k, hk, r⟩ := hrow i g hi e t.lt t
    exact h.rxb k j g hk hj r q
  · have z := h.wants j hj
    have nr : ∀ X o, (Q j).1 = some ⟨X, o, none⟩ → D j ≠ [] → ¬ RIs p s.ms.length R wo wc X := fun X o e d q => by
      obtain ⟨i, hi, r⟩ := h.rd.row5 (z.typ X o e d) q
      exact z.rd X o e d i hi r
    refine ⟨fun hn => ?_, fun X o e d => (z.typ X o e d).keep f.kp (nr X o e d), fun X o e d i hi r => ?_, z.bk, z.fo⟩
    · exact (z.bytes.keep f.kp (fun X o e => nr X o e hn)) hn
    · have t := z.typ X o e d
      obtain ⟨k, hk, r'⟩ := hrow i X hi r t.lt t
      exact z.rd X o e d k hk r'
/-- a step of the document's reader that leaves its row alone -/
theorem Two.docSet {A' : Nat} {last' shD' : Bool} (h : Two w W p x K lm lb s sh hd F shD A last fo fc n R wo wc N ao ac bo bc R' Q D) (d : Dr w V x lm lb F shD' A' last' fo fc n) (k : Keeps W V (fun g => g = x)) : Two w V p x K lm lb s sh hd F shD' A' last' fo fc n R wo wc N ao ac bo bc R' Q D := by
  have tx : Typ W x 82 := ⟨_, _, h.dr.box⟩
  have gw : Gr w V := h.rd.gr.trans k (fun j hj e => by have := h.dr.xnew; omega)
  refine ⟨h.rd.kp (fun g r => k.block g (h.rd.lt r) (fun e => by subst e; exact h.rd.not tx (by decide) (by decide) (by decide) r)) gw, d, h.bk.kp (fun g r => k.block g (h.bk.lt r) (fun e => ?_)) gw, h.rxd, h.rxb, h.dxb, fun j hj => ?_⟩
  · subst e
    rcases r with e | e | e | ⟨j, hj, e⟩
    · subst e; exact absurd (tx.ne ⟨_, _, h.bk.box⟩) (by decide)
    · exact absurd (tx.ne (own_typ h.bk.all e)) (by decide)
    · exact absurd (tx.ne (own_typ h.bk.want e)) (by decide)
    · exact absurd (tx.ne (own_typ (h.bk.rows j hj) e)) (by decide)
  · have z := h.wants j hj
    have nx : ∀ X o, (Q j).1 = some ⟨X, o, none⟩ → D j ≠ [] → ¬ X = x := fun X o e dn q => by
      subst q; exact absurd (tx.ne (z.typ X o e dn)) (by decide)
    exact ⟨fun hn => (z.bytes.keep k (fun X o e => nx X o e hn)) hn, fun X o e dn => (z.typ X o e dn).keep k (nx X o e dn), z.rd, z.bk, z.fo⟩
end
end Go.Proofs.Ytemleibpmaclmaa.Kit

namespace Go.Proofs.Ytemleibpmaclmaa.Kit
open Go.RowKit Go.Shelf Go.Deep
set_option linter.unusedVariables false

section
variable {w W V : World} {p x K lm lb : Nat} {s : Sc} {sh : Bool} {hd : Int} {F : List UInt8} {shD : Bool} {A : Nat} {last : Bool} {fo : Option Addr} {fc n : Nat} {R : Nat → Row} {wo : Option Addr} {wc : Nat} {N : Nat} {ao : Option Addr} {ac : Nat} {bo : Option Addr} {bc : Nat} {R' Q : Nat → Row} {D : Nat → List UInt8}
theorem own_some {X o fc n : Nat} : (Value.slice (some ⟨X, o, none⟩) n fc).ownBlock = some X := rfl
/-- the document's reader is fed -/
theorem Two.docFed {q : List UInt8} {L : Nat} {fo' : Option Addr} {fc' : Nat} {shD' : Bool} (h : Two w W p x K lm lb s sh hd F shD A last fo fc n R wo wc N ao ac bo bc R' Q D) (d : Dr w V x lm lb (F ++ q) shD' A last fo' fc' (n + L)) (k : Keeps W V (fun g => DIs x fo g)) (b : (Value.slice fo' (n + L) fc').ownBlock = (Value.slice fo n fc).ownBlock ∨ ∀ g, (Value.slice fo' (n + L) fc').ownBlock = some g → W.heap.size ≤ g) (st : Stay W V fo n) :
    Two w V p x K lm lb s sh hd (F ++ q) shD' A last fo' fc' (n + L) R wo wc N ao ac bo bc R' Q D := by
  have tx : Typ W x 82 := ⟨_, _, h.dr.box⟩
  have gw : Gr w V := h.rd.gr.trans k (fun j hj e => by
    rcases e.to n fc with e | e
    · have := h.dr.xnew; omega
    · have := h.dr.fnew j e; omega)
  have new : ∀ g, (Value.slice fo' (n + L) fc').ownBlock = some g → g < W.heap.size → (Value.slice fo n fc).ownBlock = some g := fun g e hg => by
    rcases b with b | b
    · rw [← b]; exact e
    · have := b g e; omega
  refine ⟨h.rd.kp (fun g r => k.block g (h.rd.lt r) (fun e => h.nd e r)) gw, d, h.bk.kp (fun g r => k.block g (h.bk.lt r) (fun e => ?_)) gw, fun i g hi e q => h.rxd i g hi e (new g q (own_lt (h.rd.rows i hi) g e)), h.rxb, fun j g hj e q => h.dxb j g hj e (new g q (own_lt (h.bk.rows j hj) g e)), fun j hj => ?_⟩
  · rcases e.to n fc with e | e
    · subst e
      rcases r with e | e | e | ⟨j, hj, e⟩
      · subst e; exact absurd (tx.ne ⟨_, _, h.bk.box⟩) (by decide)
      · exact absurd (tx.ne (own_typ h.bk.all e)) (by decide)
      · exact absurd (tx.ne (own_typ h.bk.want e)) (by decide)
      · exact absurd (tx.ne (own_typ (h.bk.rows j hj) e)) (by decide)
    · have tf := own_typ h.dr.own e
      rcases r with r | r | r | ⟨j, hj, r⟩
      · subst r; exact absurd (tf.ne ⟨_, _, h.bk.box⟩) (by decide)
      · exact absurd (tf.ne (own_typ h.bk.all r)) (by decide)
      · exact absurd (tf.ne (own_typ h.bk.want r)) (by decide)
      · exact h.dxb j g hj r e
  · have z := h.wants j hj
    have foX : ∀ X, (Value.slice fo n fc).ownBlock = some X → fo = some ⟨X, 0, none⟩ := fun X e => by
      rcases own_off h.dr.own with ⟨q, -⟩ | ⟨X', q⟩
      · rw [q] at e; simp [Value.ownBlock] at e
      · rw [q] at e; simp [Value.ownBlock] at e; rw [q, e]
    have nx : ∀ X o, (Q j).1 = some ⟨X, o, none⟩ → D j ≠ [] → ¬ X = x := fun X o e dn q => by
      subst q; exact absurd (tx.ne (z.typ X o e dn)) (by decide)
    refine ⟨fun hn => ?_, fun X o e dn => ?_, z.rd, z.bk, fun X o o' e dn e' => ?_⟩
    · obtain ⟨X, o, e, hc⟩ := z.bytes hn
      refine ⟨X, o, e, fun i hi => ?_⟩
      rw [← hc i hi]
      by_cases c : (Value.slice fo n fc).ownBlock = some X
      · have e' := foX X c
        have := z.fo X o 0 e hn e'
        exact (st X 0 e').2 (o + i) (by omega)
      · exact k.cell (p := ⟨X, o + i, none⟩) (z.typ X o e hn).lt (fun q => (q.to n fc).elim (nx X o e hn) c)
    · by_cases c : (Value.slice fo n fc).ownBlock = some X
      · exact (st X 0 (foX X c)).1
      · exact (z.typ X o e dn).keep k (fun q => (q.to n fc).elim (nx X o e dn) c)
    · have hX : (Value.slice fo' (n + L) fc').ownBlock = some X := by rw [e']; rfl
      have := z.fo X o 0 e dn (foX X (new X hX (z.typ X o e dn).lt))
      omega
/-- one more row in the book -/
theorem Two.add {ao' bo' b1 qo : Option Addr} {ac' bc' c1 qc : Nat} {d : List UInt8} (h : Two w W p x K lm lb s sh hd F shD A last fo fc n R wo wc N ao ac bo bc R' Q D) (k : Keeps W V (fun g => Typ W g 22 ∨ Typ W g 33))
    (hb : Bk w V K (N + 1) ao' ac' bo' bc' (.slice none 0 0) (.slice none 0 0) (fun i => if i < N then R' i else (b1, d.length, c1)) (fun i => if i < N then Q i else (qo, d.length, qc)) (fun i => if i < N then D i else d))
    (h1 : ∀ g, (Value.slice b1 d.length c1).ownBlock = some g → (∀ i, i < 3 + 2 * s.ms.length → (rv (R i)).ownBlock ≠ some g) ∧ (Value.slice fo n fc).ownBlock ≠ some g ∧ ∀ j, j < N → ∀ o, (Q j).1 = some ⟨g, o, none⟩ → D j = [])
    (hw : Want W s.ms.length R N R' fo n (qo, d.length, qc) d) (hq : ∀ X o, qo = some ⟨X, o, none⟩ → d ≠ [] → (Value.slice b1 d.length c1).ownBlock ≠ some X) :
    Two w V p x K lm lb s sh hd F shD A last fo fc n R wo wc (N + 1) ao' ac' bo' bc' (fun i => if i < N then R' i else (b1, d.length, c1)) (fun i => if i < N then Q i else (qo, d.length, qc)) (fun i => if i < N then D i else d) := by
  have not5 : ∀ {g t : Nat}, Typ W g t → t ≠ 22 → t ≠ 33 → ¬ (Typ W g 22 ∨ Typ W g 33) := fun ht a b q => by
    rcases q with q | q
    · exact a (ht.ne q)
    · exact b (ht.ne q)
  refine ⟨h.rd.kp (fun g r => k.block g (h.rd.lt r) ?_) hb.gr, h.dr.kp fun g r => k.block g (h.dr.lt r) ?_, hb, h.rxd, fun i j g hi hj e q => ?_, fun j g hj e q => ?_, fun j hj => ?_⟩
  · rcases h.rd.typ r with q | q | q
    · exact not5 q (by decide) (by decide)
    · exact not5 q (by decide) (by decide)
    · exact not5 q.1 (by decide) (by decide)
  · rcases r.to n fc with q | q
    · subst q; exact not5 ⟨_, _, h.dr.box⟩ (by decide) (by decide)
    · exact not5 (own_typ h.dr.own q) (by decide) (by decide)
  · by_cases c : j < N
    · simp only [if_pos c] at q; exact h.rxb i j g hi c e q
    · simp only [if_neg c] at q; exact (h1 g q).1 i hi e
  · by_cases c : j < N
    · simp only [if_pos c] at e; exact h.dxb j g c e q
    · simp only [if_neg c] at e; exact (h1 g e).2.1 q
  · have up : ∀ {q : Row} {dd : List UInt8}, Want W s.ms.length R N R' fo n q dd → (∀ X o, q.1 = some ⟨X, o, none⟩ → dd ≠ [] → (Value.slice b1 d.length c1).ownBlock ≠ some X) → Want V s.ms.length R (N + 1) (fun i => if i < N then R' i else (b1, d.length, c1)) fo n q dd := fun z hz =>
      ⟨fun hn => (z.bytes.keep k (fun X o e => not5 (z.typ X o e hn) (by decide) (by decide))) hn, fun X o e dn => (z.typ X o e dn).keep k (not5 (z.typ X o e dn) (by decide) (by decide)), z.rd, fun X o e dn i hi r => by
        by_cases c : i < N
        · simp only [if_pos c] at r; exact z.bk X o e dn i c r
        · simp only [if_neg c] at r; exact hz X o e dn r, z.fo⟩
    by_cases c : j < N
    · simp only [if_pos c]
      exact up (h.wants j c) (fun X o e dn r => dn ((h1 X r).2.2 j c o e))
    · simp only [if_neg c]
      exact up hw hq
end
end Go.Proofs.Ytemleibpmaclmaa.Kit

namespace Go.Proofs.Ytemleibpmaclmaa.Kit
open Go.RowKit Go.Shelf Go.Deep
set_option linter.unusedVariables false
attribute [local go_sem] run_store_func

/-! ### next: Next of both, and the book -/
set_option maxRecDepth 100000 in
set_option maxHeartbeats 8000000 in
theorem next24_walk {W : World} {p x K n1 c1 n2 c2 : Nat} {a1 a2 : Option Addr} {z1 z2 : Int} {P : World → Prop} {Dp E1 E2 : Option Addr → Nat → Option Addr → Nat → World → Prop} (hx : x < W.heap.size)
    (hP : Calls Try.prog 17 #[.pointer (some ⟨p, 0, none⟩)] W fun e V => e = .returned (.tuple #[.agg #[.slice a1 n1 c1, .slice a2 n2 c2], .int .i64 z1, .int .i64 z2]) ∧ W.heap.size ≤ V.heap.size ∧ P V)
    (gP : ∀ V V', P V → Gr V V' → P V')
    (hD : ∀ V, P V → Calls Try.prog 41 #[.pointer (some ⟨x, 0, none⟩)] V fun e V' => ∃ e1 c3 e2 c4, e = .returned (.tuple #[.agg #[.slice e1 n1 c3, .slice e2 n2 c4], .int .i64 z1, .int .i64 z2]) ∧ Keeps V V' (fun g => g = x) ∧ Dp e1 c3 e2 c4 V')
    (gD : ∀ e1 c3 e2 c4 V V', Dp e1 c3 e2 c4 V → Gr V V' → Dp e1 c3 e2 c4 V')
    (hS1 : ∀ e1 c3 e2 c4 V, Dp e1 c3 e2 c4 V → Calls Try.prog 10 #[.slice a1 n1 c1, .slice e1 n1 c3] V fun e V' => e = .returned (.bool true) ∧ Gr V V')
    (hS2 : ∀ e1 c3 e2 c4 V, Dp e1 c3 e2 c4 V → Calls Try.prog 10 #[.slice a2 n2 c2, .slice e2 n2 c4] V fun e V' => e = .returned (.bool true) ∧ Gr V V')
    (hA1 : ∀ e1 c3 e2 c4 V, Dp e1 c3 e2 c4 V → Calls Try.prog 14 #[.pointer (some ⟨K, 0, none⟩), .slice a1 n1 c1, .slice e1 n1 c3] V fun e V' => e = .returned (.tuple #[]) ∧ Keeps V V' (fun g => Typ V g 22 ∨ Typ V g 33) ∧ E1 e1 c3 e2 c4 V')
    (hA2 : ∀ e1 c3 e2 c4 V, E1 e1 c3 e2 c4 V → Calls Try.prog 14 #[.pointer (some ⟨K, 0, none⟩), .slice a2 n2 c2, .slice e2 n2 c4] V fun e V' => e = .returned (.tuple #[]) ∧ E2 e1 c3 e2 c4 V') :
    Calls Try.prog 24 #[.pointer (some ⟨p, 0, none⟩), .pointer (some ⟨x, 0, none⟩), .pointer (some ⟨K, 0, none⟩)] W fun e V => e = .returned (.bool true) ∧ ∃ e1 c3 e2 c4, E2 e1 c3 e2 c4 V := by
  have HP := hidM hP
  have HGP := hidM gP
  have HD := hidM hD
  have HGD := hidM gD
  have HS1 := hidM hS1
  have HS2 := hidM hS2
  have HA1 := hidM hA1
  have HA2 := hidM hA2
  clear hP gP hD gD hS1 hS2 hA1 hA2
  go_enter Try.func24, Try.ntmps24
  go_wp2_with (go_at_call 17; refine Hid.out ?_)
  unfold Hid
  refine Calls.mono HP.out ?_
  rintro e V1 ⟨rfl, hs1, hp1⟩
  have hra_ra := heap_alloc_new V1 (.cells #[.slice none 0 0, .slice none 0 0] 24)
  obtain ⟨V1a, hV1a⟩ : ∃ Z, V1.alloc (.cells #[.slice none 0 0, .slice none 0 0] 24) = Z := ⟨_, rfl⟩
  obtain ⟨ra, hra⟩ : ∃ r, V1.heap.size = r := ⟨_, rfl⟩
  have gA_ra : Gr V1 V1a := by rw [← hV1a]; exact gr_alloc V1 _
  rw [hV1a, hra] at hra_ra
  go_wp2_with (with_reducible show wpList Try.prog _ _ (Oper.mk none (Op.store 24 (Operand.tmp 7) _) _ _ _ _ :: _) _ _; refine Hid.out ?_)
  unfold Hid
  first | rw [hV1a] | skip
  first | rw [hra] | skip
  refine wpList_store_off rfl 24 (.tmp 7) (.tmp 18) rfl ra 0 #[.slice a1 n1 c1, .slice a2 n2 c2] hra_ra (by rfl) (by rfl) (by simp) (by kernel_rfl) (by simp [Value.oneCell']) ?_
  obtain ⟨G1, hG1⟩ : ∃ G, G = World.setRow V1a ra ((#[.slice none 0 0, .slice none 0 0] : Array Value).toList.take 0 ++ (#[.slice a1 n1 c1, .slice a2 n2 c2] : Array Value).toList ++ (#[.slice none 0 0, .slice none 0 0] : Array Value).toList.drop (0 + (#[.slice a1 n1 c1, .slice a2 n2 c2] : Array Value).size)).toArray := ⟨_, rfl⟩
  rw [← hG1]
  have hb1 : G1.heap[ra]? = some (.cells #[.slice a1 n1 c1, .slice a2 n2 c2] 24 (0, 0)) := by rw [hG1]; exact setRow_heap V1a ra _ _ 24 (0, 0) hra_ra
  have k1 : Gr V1 G1 := by
    have k1 : Keeps V1a G1 (fun z => z = ra) := by rw [hG1]; exact ⟨rfl, rfl, rfl, by simp, fun kk hk hn => setRow_other V1a ra kk _ hn⟩
    exact gA_ra.trans k1 (fun j hj e => by omega)
  have HPG := hidM (HGP.out _ _ hp1 k1)
  have hrax : ¬ ra = x := by omega
  clear hp1 hG1 k1 gA_ra hra_ra hV1a hra HP HGP
  go_wp2_with (go_at_call 41; refine Hid.out ?_)
  unfold Hid
  refine Calls.mono (HD.out _ HPG.out) ?_
  rintro e V2 ⟨e1, c3, e2, c4, rfl, kx, hd2⟩
  have hb1' : V2.heap[ra]? = some (.cells #[.slice a1 n1 c1, .slice a2 n2 c2] 24 (0, 0)) := (kx.block ra (lt_of_heap hb1) hrax).trans hb1
  clear hb1 kx HPG HD
  have hra_rb := heap_alloc_new V2 (.cells #[.slice none 0 0, .slice none 0 0] 24)
  obtain ⟨V2a, hV2a⟩ : ∃ Z, V2.alloc (.cells #[.slice none 0 0, .slice none 0 0] 24) = Z := ⟨_, rfl⟩
  obtain ⟨rb, hrb⟩ : ∃ r, V2.heap.size = r := ⟨_, rfl⟩
  have gA_rb : Gr V2 V2a := by rw [← hV2a]; exact gr_alloc V2 _
  rw [hV2a, hrb] at hra_rb
  go_wp2_with (with_reducible show wpList Try.prog _ _ (Oper.mk none (Op.store 24 (Operand.tmp 10) _) _ _ _ _ :: _) _ _; refine Hid.out ?_)
  unfold Hid
  first | rw [hV2a] | skip
  first | rw [hrb] | skip
  refine wpList_store_off rfl 24 (.tmp 10) (.tmp 24) rfl rb 0 #[.slice e1 n1 c3, .slice e2 n2 c4] hra_rb (by rfl) (by rfl) (by simp) (by kernel_rfl) (by simp [Value.oneCell']) ?_
  obtain ⟨G2, hG2⟩ : ∃ G, G = World.setRow V2a rb ((#[.slice none 0 0, .slice none 0 0] : Array Value).toList.take 0 ++ (#[.slice e1 n1 c3, .slice e2 n2 c4] : Array Value).toList ++ (#[.slice none 0 0, .slice none 0 0] : Array Value).toList.drop (0 + (#[.slice e1 n1 c3, .slice e2 n2 c4] : Array Value).size)).toArray := ⟨_, rfl⟩
  rw [← hG2]
  have hb2 : G2.heap[rb]? = some (.cells #[.slice e1 n1 c3, .slice e2 n2 c4] 24 (0, 0)) := by rw [hG2]; exact setRow_heap V2a rb _ _ 24 (0, 0) hra_rb
  have k2 : Gr V2 G2 := by
    have k1 : Keeps V2a G2 (fun z => z = rb) := by rw [hG2]; exact ⟨rfl, rfl, rfl, by simp, fun kk hk hn => setRow_other V2a rb kk _ hn⟩
    exact gA_rb.trans k1 (fun j hj e => by omega)
  have hb3 : G2.heap[ra]? = some (.cells #[.slice a1 n1 c1, .slice a2 n2 c2] 24 (0, 0)) := (k2.block ra (lt_of_heap hb1') id).trans hb1'
  have HDG := hidM (HGD.out _ _ _ _ _ _ hd2 k2)
  have HC : Hid (∀ V, Gr G2 V → (V.cell? ⟨ra, 0, none⟩ = some (.slice a1 n1 c1) ∧ V.cell? ⟨ra, 1, none⟩ = some (.slice a2 n2 c2)) ∧ V.cell? ⟨rb, 0, none⟩ = some (.slice e1 n1 c3) ∧ V.cell? ⟨rb, 1, none⟩ = some (.slice e2 n2 c4)) := fun V g => ⟨ce2 ((g.block ra (lt_of_heap hb3) id).trans hb3), ce2 ((g.block rb (lt_of_heap hb2) id).trans hb2)⟩
  have HT : Hid (Typ G2 ra 24 ∧ Typ G2 rb 24) := ⟨⟨_, _, hb3⟩, ⟨_, _, hb2⟩⟩
  clear hd2 hG2 k2 gA_rb hra_rb hV2a hrb hb1' hb2 hb3
  obtain ⟨⟨x0, x1⟩, y0, y1⟩ := HC.out G2 (Keeps.refl _ _)
  go_wp2_with (go_at_call 10; refine Hid.out ?_)
  unfold Hid
  refine Calls.mono (HS1.out _ _ _ _ _ HDG.out) ?_
  rintro e V3 ⟨rfl, g3⟩
  have HG3 := hidM g3
  obtain ⟨⟨u0, u1⟩, v0, v1⟩ := HC.out V3 g3
  clear x0 x1 y0 y1 g3
  go_wp2_with (go_at_call 10; refine Hid.out ?_)
  unfold Hid
  refine Calls.mono (HS2.out _ _ _ _ _ (HGD.out _ _ _ _ _ _ HDG.out HG3.out)) ?_
  rintro e V4 ⟨rfl, g4⟩
  have HG4 := hidM (HG3.out.trans g4 (fun _ _ h => h))
  obtain ⟨⟨x0, x1⟩, y0, y1⟩ := HC.out V4 HG4.out
  have HT4 : Hid (Typ V4 ra 24 ∧ Typ V4 rb 24) := ⟨HT.out.1.gr HG4.out, HT.out.2.gr HG4.out⟩
  clear u0 u1 v0 v1 g4 HG3 HT
  go_wp2_with (go_at_call 14; refine Hid.out ?_)
  unfold Hid
  refine Calls.mono (HA1.out _ _ _ _ _ (HGD.out _ _ _ _ _ _ HDG.out HG4.out)) ?_
  rintro e V5 ⟨rfl, k5, he5⟩
  have n24 : ∀ g, Typ V4 g 24 → ¬ (Typ V4 g 22 ∨ Typ V4 g 33) := fun g t q => by
    rcases q with q | q
    · exact absurd (t.ne q) (by decide)
    · exact absurd (t.ne q) (by decide)
  have w1 := k5.cell' x1 (n24 ra HT4.out.1)
  have w2 := k5.cell' y1 (n24 rb HT4.out.2)
  have HE5 := hidM he5
  clear x0 x1 y0 y1 k5 n24 he5
  go_wp2_with (go_at_call 14; refine Hid.out ?_)
  unfold Hid
  refine Calls.mono (HA2.out _ _ _ _ _ HE5.out) ?_
  rintro e V6 ⟨rfl, he6⟩
  have HE6 := hidM he6
  clear he6
  go_wp2_with fail
  go_ret
  exact ⟨rfl, e1, c3, e2, c4, HE6.out⟩
end Go.Proofs.Ytemleibpmaclmaa.Kit

namespace Go.Proofs.Ytemleibpmaclmaa.Kit
open Go.RowKit Go.Shelf Go.Deep
set_option linter.unusedVariables false

/-! ### next, where nothing is told -/
theorem bytes_nil (V : World) (ao : Option Addr) : BytesAt V ao [] := fun h => absurd rfl h
def St (w W : World) (p x K lm lb : Nat) (s : Sc) (sh : Bool) (hd : Int) (F : List UInt8) (shD : Bool) (A : Nat) (last : Bool) (n N : Nat) : Prop :=
  ∃ fo fc R wo wc ao ac bo bc R' Q D, Two w W p x K lm lb s sh hd F shD A last fo fc n R wo wc N ao ac bo bc R' Q D
theorem St.grow {w W V : World} {p x K lm lb : Nat} {s : Sc} {sh : Bool} {hd : Int} {F : List UInt8} {shD : Bool} {A : Nat} {last : Bool} {n N : Nat} (h : St w W p x K lm lb s sh hd F shD A last n N) (g : Gr W V) : St w V p x K lm lb s sh hd F shD A last n N := by
  obtain ⟨fo, fc, R, wo, wc, ao, ac, bo, bc, R', Q, D, t⟩ := h
  exact ⟨fo, fc, R, wo, wc, ao, ac, bo, bc, R', Q, D, t.grow g⟩
/-- a row without bytes goes into the book -/
theorem St.addNil {w W : World} {p x K lm lb : Nat} {s : Sc} {sh : Bool} {hd : Int} {F : List UInt8} {shD : Bool} {A : Nat} {last : Bool} {n N : Nat} (h : St w W p x K lm lb s sh hd F shD A last n N) (hN : N ≤ 10000000000) :
    Calls Try.prog 14 #[.pointer (some ⟨K, 0, none⟩), .slice none 0 0, .slice none 0 0] W fun e V => e = .returned (.tuple #[]) ∧ Keeps W V (fun g => Typ W g 22 ∨ Typ W g 33) ∧ St w V p x K lm lb s sh hd F shD A last n (N + 1) := by
  obtain ⟨fo, fc, R, wo, wc, ao, ac, bo, bc, R', Q, D, t⟩ := h
  refine (add_any (bo := none) (qo := none) (bc := 0) (qc := 0) (d := []) t.bk hN (World.ownsRow_nil _ _ _ _) (by simp) (fun g e => by simp [Value.ownBlock] at e)).mono ?_
  rintro e V ⟨rfl, k, ao', ac', wo', wc', hb⟩
  refine ⟨rfl, k, fo, fc, R, wo, wc, ao', ac', wo', wc', _, _, _, t.add k hb (fun g e => by simp [Value.ownBlock] at e) ⟨bytes_nil _ _, fun _ _ _ d => absurd rfl d, fun _ _ _ d => absurd rfl d, fun _ _ _ d => absurd rfl d, fun _ _ _ _ d => absurd rfl d⟩ (fun _ _ _ d => absurd rfl d)⟩
/-- Next of both, where nothing is told -/
theorem next24_no {w W : World} {p x K lm lb : Nat} {sh : Bool} {hd : Int} {F : List UInt8} {A : Nat} {last : Bool} {n N : Nat} (h : St w W p x K lm lb (docS lm lb last (F.drop A)) sh hd F sh A last n N) (hn : n ≤ 140737488355000) (hlm : lm ≤ 65536) (hlb : lb ≤ 4194304) (hN : N ≤ 9000000000) (hst : (docS lm lb last (F.drop A)).st ≤ 100) (hno : (docN lm lb last sh (F.drop A)).1 ≠ 2) :
    Calls Try.prog 24 #[.pointer (some ⟨p, 0, none⟩), .pointer (some ⟨x, 0, none⟩), .pointer (some ⟨K, 0, none⟩)] W fun e V => e = .returned (.bool true) ∧ ∃ A' last', A' ≤ n ∧ (last' = false → A' = A ∧ last = false) ∧ docS lm lb last' (F.drop A') = docS lm lb last (F.drop A) ∧ St w V p x K lm lb (docS lm lb last' (F.drop A')) sh hd F sh A' last' n (N + 2) := by
  have hh := h
  obtain ⟨fo, fc, R, wo, wc, ao, ac, bo, bc, R', Q, D, t⟩ := hh
  have hst' := stands_doc hlm hlb last sh (F.drop A)
  have hx : x < W.heap.size := lt_of_heap t.dr.box
  obtain ⟨A', last', hA', hl', hS, hDoc⟩ : ∃ A' last', A' ≤ n ∧ (last' = false → A' = A ∧ last = false) ∧ docS lm lb last' (F.drop A') = docS lm lb last (F.drop A) ∧ ∀ V, Two w V p x K lm lb (docS lm lb last (F.drop A)) sh hd F sh A last fo fc n R wo wc N ao ac bo bc R' Q D → Calls Try.prog 41 #[.pointer (some ⟨x, 0, none⟩)] V fun e V' => e = .returned (.tuple #[.agg #[.slice none 0 0, .slice none 0 0], .int .i64 (docN lm lb last sh (F.drop A)).1, .int .i64 (docN lm lb last sh (F.drop A)).2]) ∧ Keeps V V' (fun g => g = x) ∧ Two w V' p x K lm lb (docS lm lb last (F.drop A)) sh hd F sh A' last' fo fc n R wo wc N ao ac bo bc R' Q D := by
    by_cases c : last = true ∨ (judgeF lm lb (F.drop A)).1 = 0
    · refine ⟨A, last, t.dr.at', fun z => ⟨rfl, z⟩, rfl, fun V u => ?_⟩
      refine (docNext_no u.dr hn hlm hlb c).mono ?_
      rintro e V' ⟨rfl, g⟩
      exact ⟨rfl, g.mono fun _ _ f => f.elim, u.grow g⟩
    · have hl : last = false := by cases last; rfl; exact absurd (.inl rfl) c
      have hj : (judgeF lm lb (F.drop A)).1 ≠ 0 := fun z => c (.inr z)
      have k : (F.drop A).getD 3 0 = 48 := by
        by_cases k : (F.drop A).getD 3 0 = 48
        · exact k
        · refine absurd ?_ hno
          subst hl
          unfold docN
          rw [if_neg (by simp), if_neg hj, if_neg k]
      obtain ⟨-, j2, -⟩ := judge_takes hj
      have hF := t.dr.len
      rw [List.length_drop, hF] at j2
      have hAt := t.dr.at'
      refine ⟨A + allN (F.drop A), true, by omega, (fun z => by cases z), ?_, fun V u => ?_⟩
      · subst hl
        rw [docS_end hlm hlb hj k, List.drop_drop]
      · refine (docNext_end u.dr hn hlm hlb hl hj k u.rd.gr.size).mono ?_
        rintro e V' ⟨rfl, d, g⟩
        exact ⟨rfl, g, u.docSet d g⟩
  have hsn : (standsF (docS lm lb last (F.drop A)) sh).1 ≠ 2 := by rw [hst']; exact hno
  have hP := next_no t.rd hst hsn
  rw [hst'] at hP
  refine (next24_walk (z1 := (docN lm lb last sh (F.drop A)).1) (z2 := (docN lm lb last sh (F.drop A)).2) (a1 := none) (n1 := 0) (c1 := 0) (a2 := none) (n2 := 0) (c2 := 0) (P := fun V => Two w V p x K lm lb (docS lm lb last (F.drop A)) sh hd F sh A last fo fc n R wo wc N ao ac bo bc R' Q D)
    (Dp := fun e1 c3 e2 c4 V => e1 = none ∧ c3 = 0 ∧ e2 = none ∧ c4 = 0 ∧ St w V p x K lm lb (docS lm lb last (F.drop A)) sh hd F sh A' last' n N)
    (E1 := fun e1 c3 e2 c4 V => e1 = none ∧ c3 = 0 ∧ e2 = none ∧ c4 = 0 ∧ St w V p x K lm lb (docS lm lb last (F.drop A)) sh hd F sh A' last' n (N + 1))
    (E2 := fun e1 c3 e2 c4 V => St w V p x K lm lb (docS lm lb last (F.drop A)) sh hd F sh A' last' n (N + 2)) hx
    (hP.mono ?_) (fun V V' u g => u.grow g) (fun V u => (hDoc V u).mono ?_) (fun _ _ _ _ V V' u g => ⟨u.1, u.2.1, u.2.2.1, u.2.2.2.1, u.2.2.2.2.grow g⟩)
    (fun e1 c3 e2 c4 V u => same_true (l := []) (bytes_nil _ _) (bytes_nil _ _) (by simp)) (fun e1 c3 e2 c4 V u => same_true (l := []) (bytes_nil _ _) (bytes_nil _ _) (by simp))
    (fun e1 c3 e2 c4 V u => ?_) (fun e1 c3 e2 c4 V u => ?_)).mono ?_
  · rintro e V ⟨rfl, g⟩
    exact ⟨rfl, g.size, t.grow g⟩
  · rintro e V' ⟨rfl, k, u'⟩
    exact ⟨none, 0, none, 0, rfl, k, rfl, rfl, rfl, rfl, fo, fc, R, wo, wc, ao, ac, bo, bc, R', Q, D, u'⟩
  · obtain ⟨rfl, rfl, rfl, rfl, u⟩ := u
    refine (u.addNil (by omega)).mono ?_
    rintro e V' ⟨rfl, k, u'⟩
    exact ⟨rfl, k, rfl, rfl, rfl, rfl, u'⟩
  · obtain ⟨rfl, rfl, rfl, rfl, u⟩ := u
    refine (u.addNil (by omega)).mono ?_
    rintro e V' ⟨rfl, k, u'⟩
    exact ⟨rfl, u'⟩
  · rintro e V ⟨rfl, e1, c3, e2, c4, u⟩
    exact ⟨rfl, A', last', hA', hl', hS, by rw [hS]; exact u⟩
end Go.Proofs.Ytemleibpmaclmaa.Kit

namespace Go.Proofs.Ytemleibpmaclmaa.Kit
open Go.RowKit Go.Shelf Go.Deep
set_option linter.unusedVariables false

/-! ### next, where a message is told -/
section
variable {w W V : World} {p x K lm lb : Nat} {s : Sc} {sh : Bool} {hd : Int} {F : List UInt8} {shD : Bool} {A : Nat} {last : Bool} {fo : Option Addr} {fc n : Nat} {R : Nat → Row} {wo : Option Addr} {wc : Nat} {N : Nat} {ao : Option Addr} {ac : Nat} {bo : Option Addr} {bc : Nat} {R' Q : Nat → Row} {D : Nat → List UInt8}
/-- a told row apart from all -/
def Alone (w : World) (sN : Nat) (R : Nat → Row) (fo : Option Addr) (fc n N : Nat) (R' Q : Nat → Row) (D : Nat → List UInt8) (v : Value) : Prop :=
  ∀ g, v.ownBlock = some g → w.heap.size ≤ g ∧ (∀ i, i < 3 + 2 * sN → (rv (R i)).ownBlock ≠ some g) ∧ (Value.slice fo n fc).ownBlock ≠ some g ∧ (∀ j, j < N → (rv (R' j)).ownBlock ≠ some g) ∧ ∀ j, j < N → ∀ o, (Q j).1 = some ⟨g, o, none⟩ → D j = []
theorem Two.addRow {a1 : Option Addr} {c1 c3 X q : Nat} {d : List UInt8} (u : Two w V p x K lm lb s sh hd F shD A last fo fc n R wo wc N ao ac bo bc R' Q D) (hN : N ≤ 10000000000) (own : V.ownsRow 0 5 1 (.slice a1 d.length c1) d.length (bv d)) (hd5 : d.length ≤ 5000000) (al : Alone w s.ms.length R fo fc n N R' Q D (.slice a1 d.length c1)) (hb : BytesAt V (some ⟨X, q, none⟩) d) (hfo : fo = some ⟨X, 0, none⟩) (hq : 0 < d.length → q + d.length ≤ n) :
    Calls Try.prog 14 #[.pointer (some ⟨K, 0, none⟩), .slice a1 d.length c1, .slice (some ⟨X, q, none⟩) d.length c3] V fun e V' => e = .returned (.tuple #[]) ∧ Keeps V V' (fun g => Typ V g 22 ∨ Typ V g 33) ∧ ∃ ao' ac' bo' bc', Two w V' p x K lm lb s sh hd F shD A last fo fc n R wo wc (N + 1) ao' ac' bo' bc' (fun i => if i < N then R' i else (a1, d.length, c1)) (fun i => if i < N then Q i else (some ⟨X, q, none⟩, d.length, c3)) (fun i => if i < N then D i else d) := by
  refine (add_any (qo := some ⟨X, q, none⟩) (qc := c3) u.bk hN own hd5 (fun g e => ⟨(al g e).1, (al g e).2.2.2.1⟩)).mono ?_
  rintro e V' ⟨rfl, k, ao', ac', wo', wc', hb'⟩
  have hX : (Value.slice fo n fc).ownBlock = some X := by rw [hfo]; rfl
  have hpos : ∀ {X' o' : Nat}, (some ⟨X, q, none⟩ : Option Addr) = some ⟨X', o', none⟩ → X' = X ∧ o' = q := fun e => by cases e; exact ⟨rfl, rfl⟩
  refine ⟨rfl, k, ao', ac', wo', wc', u.add k hb' (fun g e => ⟨(al g e).2.1, (al g e).2.2.1, (al g e).2.2.2.2⟩) ⟨hb, fun X' o' e dn => ?_, fun X' o' e dn i hi r => ?_, fun X' o' e dn j hj r => ?_, fun X' o' o2 e dn _ => ?_⟩ (fun X' o' e dn r => ?_)⟩
  · obtain ⟨rfl, rfl⟩ := hpos e; exact own_typ u.dr.own hX
  · obtain ⟨rfl, rfl⟩ := hpos e; exact u.rxd i _ hi r hX
  · obtain ⟨rfl, rfl⟩ := hpos e; exact u.dxb j _ hj r hX
  · obtain ⟨rfl, rfl⟩ := hpos e; exact hq (List.length_pos_iff.2 dn)
  · obtain ⟨rfl, rfl⟩ := hpos e; exact (al _ r).2.2.1 hX
end
/-- Next of both, where a message is told -/
theorem next24_one {w W : World} {p x K lm lb hd : Nat} {sh : Bool} {F : List UInt8} {A n N : Nat} (h : St w W p x K lm lb (docS lm lb false (F.drop A)) sh (hd : Int) F sh A false n N) (hn : n ≤ 140737488355000) (hlm : lm ≤ 65536) (hlb : lb ≤ 4194304) (hN : N ≤ 9000000000) (hst : (docS lm lb false (F.drop A)).st ≤ 100) (hhd : hd ≤ 1000000000000) (hj : (judgeF lm lb (F.drop A)).1 ≠ 0) (k48 : (F.drop A).getD 3 0 ≠ 48) :
    Calls Try.prog 24 #[.pointer (some ⟨p, 0, none⟩), .pointer (some ⟨x, 0, none⟩), .pointer (some ⟨K, 0, none⟩)] W fun e V => e = .returned (.bool true) ∧ St w V p x K lm lb (docS lm lb false (F.drop (A + allN (F.drop A)))) sh ((hd : Int) - (allN (F.drop A) : Nat)) F sh (A + allN (F.drop A)) false n (N + 2) := by
  obtain ⟨fo, fc, R, wo, wc, ao, ac, bo, bc, R', Q, D, t⟩ := h
  obtain ⟨e0, e1, e2⟩ := docS_one hlm hlb hj k48
  obtain ⟨j1, j2, j3, j4, j5, j6, j7⟩ := judge_takes hj
  rw [List.drop_drop] at e0 e1
  have hx : x < W.heap.size := lt_of_heap t.dr.box
  obtain ⟨s, hs⟩ : ∃ s, docS lm lb false (F.drop A) = s := ⟨_, rfl⟩
  obtain ⟨s1, hs1⟩ : ∃ s1, docS lm lb false (F.drop (A + allN (F.drop A))) = s1 := ⟨_, rfl⟩
  obtain ⟨b, hb⟩ : ∃ b, F.drop A = b := ⟨_, rfl⟩
  rw [hs] at t hst e0 e1
  rw [hs1] at e0 e1 ⊢
  rw [hb] at hj k48 e0 e2 j1 j2 j3 j4 j5 j6 ⊢
  clear j7
  obtain ⟨M, hM⟩ : ∃ M, metaB b = M := ⟨_, rfl⟩
  obtain ⟨T, hT⟩ : ∃ T, dataB b = T := ⟨_, rfl⟩
  rw [hM, hT] at e0 e2 j6
  rw [hM] at j4
  rw [hT] at j5
  have hms : s.ms = (M, T) :: s1.ms := by rw [e0]; rfl
  have hlen : s.ms.length = s1.ms.length + 1 := by rw [hms]; rfl
  have r3 : s.row 3 = M := by unfold Sc.row; simp [hms]
  have r4 : s.row 4 = T := by unfold Sc.row; simp [hms]
  have o3 := t.rd.rows 3 (by omega)
  have o4 := t.rd.rows 4 (by omega)
  rw [r3] at o3
  rw [r4] at o4
  obtain ⟨a1, n1, c1, hR3⟩ : ∃ a b c, R 3 = (a, b, c) := ⟨_, _, _, rfl⟩
  obtain ⟨a2, n2, c2, hR4⟩ : ∃ a b c, R 4 = (a, b, c) := ⟨_, _, _, rfl⟩
  have l3 : M.length = n1 := by have := o3.1; rw [hR3] at this; simpa [bv] using this
  have l4 : T.length = n2 := by have := o4.1; rw [hR4] at this; simpa [bv] using this
  subst l3 l4
  have hM5 : M.length ≤ 65536 := by have := j6.1; omega
  have hT5 : T.length ≤ 4194304 := by have := j6.2.1; omega
  have v3 : rv (R 3) = .slice a1 M.length c1 := by rw [hR3]; rfl
  have v4 : rv (R 4) = .slice a2 T.length c2 := by rw [hR4]; rfl
  have hsz : oneSize R = allN b := by rw [← e2]; unfold oneSize sizeM; rw [hR3, hR4]
  have al : ∀ i, i = 3 ∨ i = 4 → ∀ g, (rv (R i)).ownBlock = some g → w.heap.size ≤ g ∧ (Value.slice fo n fc).ownBlock ≠ some g ∧ (∀ j, j < N → (rv (R' j)).ownBlock ≠ some g) ∧ ∀ j, j < N → ∀ o, (Q j).1 = some ⟨g, o, none⟩ → D j = [] := fun i hi g e => by
    have hi' : i < 3 + 2 * s.ms.length := by omega
    refine ⟨t.rd.rnew i hi' g e, t.rxd i g hi' e, fun j hjj => t.rxb i j g hi' hjj e, fun j hjj o q => ?_⟩
    by_cases c : D j = []
    · exact c
    · exact absurd e ((t.wants j hjj).rd g o q c i hi')
  have ap : ∀ g, (rv (R 3)).ownBlock = some g → (rv (R 4)).ownBlock ≠ some g := fun g e => t.rd.apart 3 4 g (by omega) (by omega) (by omega) e
  have hP := next_one (n := s1.ms.length) t.rd hst hlen (by rw [hR3]; show M.length ≤ _; omega) (by rw [hR4]; show T.length ≤ _; omega) hhd
  rw [v3, v4, hsz, e1] at hP
  rw [v3, v4] at ap
  have hX := hx
  refine (next24_walk (z1 := 2) (z2 := 0) (n1 := M.length) (n2 := T.length) (a1 := a1) (c1 := c1) (a2 := a2) (c2 := c2)
    (P := fun V => ∃ wo2 wc2, Two w V p x K lm lb s1 sh ((hd : Int) - (allN b : Nat)) F sh A false fo fc n (pop2 R) wo2 wc2 N ao ac bo bc R' Q D ∧ V.ownsRow 0 5 1 (.slice a1 M.length c1) M.length (bv M) ∧ V.ownsRow 0 5 1 (.slice a2 T.length c2) T.length (bv T) ∧ Alone w s1.ms.length (pop2 R) fo fc n N R' Q D (.slice a1 M.length c1) ∧ Alone w s1.ms.length (pop2 R) fo fc n N R' Q D (.slice a2 T.length c2))
    (Dp := fun e1 c3 e2 c4 V => ∃ wo2 wc2, Two w V p x K lm lb s1 sh ((hd : Int) - (allN b : Nat)) F sh (A + allN b) false fo fc n (pop2 R) wo2 wc2 N ao ac bo bc R' Q D ∧ V.ownsRow 0 5 1 (.slice a1 M.length c1) M.length (bv M) ∧ V.ownsRow 0 5 1 (.slice a2 T.length c2) T.length (bv T) ∧ Alone w s1.ms.length (pop2 R) fo fc n N R' Q D (.slice a1 M.length c1) ∧ Alone w s1.ms.length (pop2 R) fo fc n N R' Q D (.slice a2 T.length c2) ∧ BytesAt V e1 M ∧ BytesAt V e2 T ∧ ∃ X q r, fo = some ⟨X, 0, none⟩ ∧ e1 = some ⟨X, q, none⟩ ∧ e2 = some ⟨X, r, none⟩ ∧ (0 < M.length → q + M.length ≤ n) ∧ (0 < T.length → r + T.length ≤ n))
    (E1 := fun e1 c3 e2 c4 V => ∃ wo2 wc2 ao' ac' bo' bc', Two w V p x K lm lb s1 sh ((hd : Int) - (allN b : Nat)) F sh (A + allN b) false fo fc n (pop2 R) wo2 wc2 (N + 1) ao' ac' bo' bc' (fun i => if i < N then R' i else (a1, M.length, c1)) (fun i => if i < N then Q i else (e1, M.length, c3)) (fun i => if i < N then D i else M) ∧ V.ownsRow 0 5 1 (.slice a2 T.length c2) T.length (bv T) ∧ Alone w s1.ms.length (pop2 R) fo fc n (N + 1) (fun i => if i < N then R' i else (a1, M.length, c1)) (fun i => if i < N then Q i else (e1, M.length, c3)) (fun i => if i < N then D i else M) (.slice a2 T.length c2) ∧ BytesAt V e2 T ∧ ∃ X r, fo = some ⟨X, 0, none⟩ ∧ e2 = some ⟨X, r, none⟩ ∧ (0 < T.length → r + T.length ≤ n))
    (E2 := fun e1 c3 e2 c4 V => St w V p x K lm lb s1 sh ((hd : Int) - (allN b : Nat)) F sh (A + allN b) false n (N + 2)) hx
    (hP.mono ?_) (fun V V' u g => ?_) (fun V u => ?_) (fun _ _ _ _ V V' u g => ?_) (fun f1 c3 f2 c4 V u => ?_) (fun f1 c3 f2 c4 V u => ?_) (fun f1 c3 f2 c4 V u => ?_) (fun f1 c3 f2 c4 V u => ?_)).mono ?_
  · rintro e V ⟨rfl, wo', wc', hF, hT', -⟩
    have tw := t.prog hF
    have q3 := hT' 3 (.inl rfl)
    have q4 := hT' 4 (.inr rfl)
    rw [v3, r3, hR3] at q3
    rw [v4, r4, hR4] at q4
    have rows : ∀ i, i < 3 + 2 * s1.ms.length → ∀ g, (rv (pop2 R i)).ownBlock = some g → RIs p s1.ms.length (pop2 R) wo' wc' g := fun i hi g e => .inr (.inr ⟨i, hi, e⟩)
    refine ⟨rfl, hF.kp.size, wo', wc', tw, q3.1, q4.1, fun g e => ?_, fun g e => ?_⟩
    · have z := al 3 (.inl rfl) g (by rw [v3]; exact e)
      exact ⟨z.1, fun i hi r => (q3.2 g e).2 (rows i hi g r), z.2.1, z.2.2.1, z.2.2.2⟩
    · have z := al 4 (.inr rfl) g (by rw [v4]; exact e)
      exact ⟨z.1, fun i hi r => (q4.2 g e).2 (rows i hi g r), z.2.1, z.2.2.1, z.2.2.2⟩
  · obtain ⟨wo2, wc2, u1, u2, u3, u4, u5⟩ := u
    exact ⟨wo2, wc2, u1.grow g, own_gr u2 g, own_gr u3 g, u4, u5⟩
  · obtain ⟨wo2, wc2, u1, u2, u3, u4, u5⟩ := u
    have := docNext_one u1.dr hn hlm hlb rfl (by rw [hb]; exact hj) (by rw [hb]; exact k48) u1.rd.gr.size
    rw [hb, hM, hT, ← j4, ← j5] at this
    refine this.mono ?_
    rintro e V' ⟨ma, mc, da, dc, rfl, d, k, m1, m2, X, q, r, f1, f2, f3, f4, f5⟩
    have tx : Typ V x 82 := ⟨_, _, u1.dr.box⟩
    have kp : ∀ {v : Value} {nn : Nat} {xs : List Value}, V.ownsRow 0 5 1 v nn xs → V'.ownsRow 0 5 1 v nn xs := fun o => own_kp o fun g e => k.block g (own_lt o g e) (fun z => by subst z; exact absurd (tx.ne (own_typ o e)) (by decide))
    exact ⟨ma, mc, da, dc, rfl, k, wo2, wc2, u1.docSet d k, kp u2, kp u3, u4, u5, m1, m2, X, q, r, f1, f2, f3, f4, f5⟩
  · obtain ⟨wo2, wc2, u1, u2, u3, u4, u5, u6, u7, u8⟩ := u
    exact ⟨wo2, wc2, u1.grow g, own_gr u2 g, own_gr u3 g, u4, u5, u6.gr g, u7.gr g, u8⟩
  · obtain ⟨wo2, wc2, u1, u2, u3, u4, u5, u6, u7, u8⟩ := u
    exact same_true (bytes_of_own u2) u6 (by omega)
  · obtain ⟨wo2, wc2, u1, u2, u3, u4, u5, u6, u7, u8⟩ := u
    exact same_true (bytes_of_own u3) u7 (by omega)
  · obtain ⟨wo2, wc2, u1, u2, u3, u4, u5, u6, u7, X, q, r, f1, rfl, rfl, f4, f5⟩ := u
    have tX : Typ V X 5 := own_typ u1.dr.own (by rw [f1]; rfl)
    refine (u1.addRow (c3 := c3) (by omega) u2 (by omega) u4 u6 f1 f4).mono ?_
    rintro e V' ⟨rfl, k, ao', ac', bo', bc', u'⟩
    have not5 : ∀ {g : Nat}, Typ V g 5 → ¬ (Typ V g 22 ∨ Typ V g 33) := fun ht q => by
      rcases q with q | q
      · exact absurd (ht.ne q) (by decide)
      · exact absurd (ht.ne q) (by decide)
    refine ⟨rfl, k, wo2, wc2, ao', ac', bo', bc', u', own_kp u3 fun g e => k.block g (own_lt u3 g e) (not5 (own_typ u3 e)), fun g e => ?_, u7.keep k (fun X' o' z => by cases z; exact not5 tX), X, r, f1, rfl, f5⟩
    have z := u5 g e
    refine ⟨z.1, z.2.1, z.2.2.1, fun j hjj q' => ?_, fun j hjj o q' => ?_⟩
    · by_cases c : j < N
      · simp only [if_pos c] at q'; exact z.2.2.2.1 j c q'
      · simp only [if_neg c] at q'; exact ap g q' e
    · by_cases c : j < N
      · simp only [if_pos c] at q' ⊢; exact z.2.2.2.2 j c o q'
      · simp only [if_neg c] at q'
        cases q'
        exact absurd (by rw [f1]; rfl) z.2.2.1
  · obtain ⟨wo2, wc2, ao', ac', bo', bc', u1, u2, u3, u4, X, r, f1, rfl, f5⟩ := u
    refine (u1.addRow (c3 := c4) (by omega) u2 (by omega) u3 u4 f1 f5).mono ?_
    rintro e V' ⟨rfl, k, ao2, ac2, bo2, bc2, u'⟩
    exact ⟨rfl, fo, fc, _, wo2, wc2, ao2, ac2, bo2, bc2, _, _, _, u'⟩
  · rintro e V ⟨rfl, f1, c3, f2, c4, u⟩
    exact ⟨rfl, u⟩
end Go.Proofs.Ytemleibpmaclmaa.Kit

namespace Go.Proofs.Ytemleibpmaclmaa.Kit
open Go.RowKit Go.Shelf Go.Deep
set_option linter.unusedVariables false

/-! ### the steps of a script -/
theorem docS_ok {lm lb : Nat} (h1 : lm ≤ 65536) (h2 : lb ≤ 4194304) (last : Bool) (b : List UInt8) : Ok (docS lm lb last b) ∧ (docS lm lb last b).ms.length ≤ b.length := by
  unfold docS
  cases last
  · simp only [Bool.false_eq_true, if_false]
    have := feed_ok b (s := startF lm lb []) (.inr ⟨start_ok' h1 h2 [], by show 0 < 4; omega⟩)
    exact ⟨this.1, by have := this.2; simpa [startF] using this⟩
  · simp only [if_true]
    have := feed_ok b (s := beginF (startF lm lb []) 9) (.inr ⟨begin9_ok h1 h2, by show 0 < 1; omega⟩)
    exact ⟨this.1, by have := this.2; simpa [beginF, startF] using this⟩
theorem docS_st {lm lb : Nat} (h1 : lm ≤ 65536) (h2 : lb ≤ 4194304) (last : Bool) (b : List UInt8) : (docS lm lb last b).st ≤ 100 := by
  rcases (docS_ok h1 h2 last b).1 with ⟨_, h⟩ | h
  · rw [← h]; show 0 ≤ 100; omega
  · have := h.1.st9; omega
theorem docN_one {lm lb : Nat} {last sh : Bool} {b : List UInt8} : (docN lm lb last sh b).1 = 2 ↔ last = false ∧ (judgeF lm lb b).1 ≠ 0 ∧ b.getD 3 0 ≠ 48 := by
  unfold docN
  cases last
  · simp only [Bool.false_eq_true, if_false, true_and]
    by_cases c : (judgeF lm lb b).1 = 0
    · rw [if_pos c]
      simp only [c, ne_eq, not_true, false_and, iff_false]
      split
      · show ¬ (4 : Int) = 2; decide
      · split <;> decide
    · rw [if_neg c]
      by_cases k : b.getD 3 0 = 48
      · rw [if_pos k]
        simp only [k, ne_eq, not_true, and_false, iff_false]
        split <;> decide
      · rw [if_neg k]
        exact ⟨fun _ => ⟨c, k⟩, fun _ => rfl⟩
  · simp only [if_true]
    constructor
    · intro h
      split at h <;> cases h
    · rintro ⟨h, -⟩
      cases h
theorem docN_live {lm lb : Nat} {last sh : Bool} {b : List UInt8} (h : ¬ ((docN lm lb last sh b).1 = 3 ∨ (docN lm lb last sh b).1 = 4)) : last = false ∧ ((docN lm lb last sh b).1 = 1 ∨ (docN lm lb last sh b).1 = 2) := by
  unfold docN at h ⊢
  cases last
  · refine ⟨rfl, ?_⟩
    simp only [Bool.false_eq_true, if_false] at h ⊢
    split at h
    · rename_i c
      rw [if_pos c]
      split at h
      · exact absurd (.inr rfl) h
      · rename_i c2
        rw [if_neg c2]
        split at h
        · exact absurd (.inr rfl) h
        · rename_i c3; rw [if_neg c3]; exact .inl rfl
    · rename_i c
      rw [if_neg c]
      split at h
      · split at h
        · exact absurd (.inl rfl) h
        · exact absurd (.inr rfl) h
      · rename_i c2; rw [if_neg c2]; exact .inr rfl
  · simp only [if_true] at h
    split at h
    · exact absurd (.inl rfl) h
    · exact absurd (.inr rfl) h
/-- both readers and the book behind i steps of at most m bytes -/
def Jn (w W : World) (p x K lm lb i m c : Nat) : Prop := ∃ F sh A last n N hd, St w W p x K lm lb (docS lm lb last (F.drop A)) sh ((hd : Nat) : Int) F sh A last n N ∧ (last = false → hd + A = n) ∧ hd ≤ n ∧ n ≤ m ∧ N ≤ 2 * i ∧ c ≤ N
theorem Jn.grow {w W V : World} {p x K lm lb i m c : Nat} (h : Jn w W p x K lm lb i m c) (g : Gr W V) : Jn w V p x K lm lb i m c := by
  obtain ⟨F, sh, A, last, n, N, hd, t, r⟩ := h
  exact ⟨F, sh, A, last, n, N, hd, t.grow g, r⟩
theorem Jn.mono {w W : World} {p x K lm lb i m i' m' c c' : Nat} (h : Jn w W p x K lm lb i m c) (hi : i ≤ i') (hm : m ≤ m') (hc : c' ≤ c) : Jn w W p x K lm lb i' m' c' := by
  obtain ⟨F, sh, A, last, n, N, hd, t, r1, r2, r3, r4, r5⟩ := h
  exact ⟨F, sh, A, last, n, N, hd, t, r1, r2, by omega, by omega, by omega⟩
/-- the step Next -/
theorem Jn.next {w W : World} {p x K lm lb i m c : Nat} (h : Jn w W p x K lm lb i m c) (hlm : lm ≤ 65536) (hlb : lb ≤ 4194304) (hi : i ≤ 4000000000) (hm : m ≤ 4000000000) :
    Calls Try.prog 24 #[.pointer (some ⟨p, 0, none⟩), .pointer (some ⟨x, 0, none⟩), .pointer (some ⟨K, 0, none⟩)] W fun e V => e = .returned (.bool true) ∧ Jn w V p x K lm lb (i + 1) m (c + 2) := by
  obtain ⟨F, sh, A, last, n, N, hd, t, r1, r2, r3, r4, r5⟩ := h
  by_cases cc : (docN lm lb last sh (F.drop A)).1 = 2
  · obtain ⟨rfl, hj, hk⟩ := docN_one.1 cc
    obtain ⟨-, j2, -⟩ := judge_takes hj
    have hl : F.length = n := by obtain ⟨_, _, _, _, _, _, _, _, _, _, _, _, u⟩ := t; exact u.dr.len
    have hr := r1 rfl
    rw [List.length_drop, hl] at j2
    refine (next24_one t (by omega) hlm hlb (by omega) (docS_st hlm hlb _ _) (by omega) hj hk).mono ?_
    rintro e V ⟨rfl, u⟩
    refine ⟨rfl, F, sh, A + allN (F.drop A), false, n, N + 2, hd - allN (F.drop A), ?_, fun _ => by omega, by omega, r3, by omega, by omega⟩
    have e9 : ((hd : Nat) : Int) - ((allN (F.drop A) : Nat) : Int) = ((hd - allN (F.drop A) : Nat) : Int) := by omega
    rw [← e9]
    exact u
  · refine (next24_no t (by omega) hlm hlb (by omega) (docS_st hlm hlb _ _) cc).mono ?_
    rintro e V ⟨rfl, A', last', hA, hl, hS, u⟩
    refine ⟨rfl, F, sh, A', last', n, N + 2, hd, u, fun z => ?_, r2, r3, by omega, by omega⟩
    obtain ⟨q1, q2⟩ := hl z
    subst q1
    exact r1 q2
/-- the step Held -/
theorem Jn.held {w W : World} {p x K lm lb i m c : Nat} (h : Jn w W p x K lm lb i m c) (hlm : lm ≤ 65536) (hlb : lb ≤ 4194304) (hm : m ≤ 4000000000) :
    ∃ z : Int, (∀ V, Gr W V → Calls Try.prog 25 #[.pointer (some ⟨p, 0, none⟩)] V fun e V' => e = .returned (.int .i64 z) ∧ Gr V V') ∧ ∀ V, Gr W V → Calls Try.prog 26 #[.pointer (some ⟨x, 0, none⟩)] V fun e V' => e = .returned (.int .i64 z) ∧ Gr V V' := by
  obtain ⟨F, sh, A, last, n, N, hd, ⟨fo, fc, R, wo, wc, ao, ac, bo, bc, R', Q, D, t⟩, r1, r2, r3, r4, r5⟩ := h
  refine ⟨heldD (docN lm lb last sh (F.drop A)).1 (n - A), fun V g => ?_, fun V g => docHeld_any (t.grow g).dr (by omega) hlm hlb (t.grow g).rd.gr.size⟩
  have := held_any (t.grow g).rd (docS_st hlm hlb _ _)
  rw [stands_doc hlm hlb] at this
  have e : (if (docN lm lb last sh (F.drop A)).1 = 3 ∨ (docN lm lb last sh (F.drop A)).1 = 4 then (0 : Int) else ((hd : Nat) : Int)) = heldD (docN lm lb last sh (F.drop A)).1 (n - A) := by
    unfold heldD
    by_cases c : (docN lm lb last sh (F.drop A)).1 = 3 ∨ (docN lm lb last sh (F.drop A)).1 = 4
    · rw [if_pos c, if_neg (by omega)]
    · obtain ⟨q1, q2⟩ := docN_live c
      have := r1 q1
      rw [if_neg c, if_pos q2]
      omega
  rw [e] at this
  exact this
end Go.Proofs.Ytemleibpmaclmaa.Kit

namespace Go.Proofs.Ytemleibpmaclmaa.Kit
open Go.RowKit Go.Shelf Go.Deep
set_option linter.unusedVariables false

/-! ### the steps Shut and Feed -/
/-- the step Shut -/
theorem Jn.shut {w W : World} {p x K lm lb i m c : Nat} (h : Jn w W p x K lm lb i m c) :
    ∃ z : Int, Calls Try.prog 22 #[.pointer (some ⟨p, 0, none⟩)] W fun e V => e = .returned (.int .i64 z) ∧ Calls Try.prog 23 #[.pointer (some ⟨x, 0, none⟩)] V fun e V' => e = .returned (.int .i64 z) ∧ Jn w V' p x K lm lb i m c := by
  obtain ⟨F, sh, A, last, n, N, hd, ⟨fo, fc, R, wo, wc, ao, ac, bo, bc, R', Q, D, t⟩, r⟩ := h
  have h22 := shut_any t.rd
  cases sh
  · refine ⟨0, h22.mono ?_⟩
    rintro e V q
    simp only [Bool.false_eq_true, if_false] at q
    obtain ⟨rfl, f⟩ := q
    have tw := t.prog f
    refine ⟨rfl, (docEnd_any tw.dr).mono ?_⟩
    rintro e V' q
    simp only [Bool.false_eq_true, if_false] at q
    obtain ⟨rfl, d, k⟩ := q
    exact ⟨rfl, F, true, A, last, n, N, hd, ⟨fo, fc, R, wo, wc, ao, ac, bo, bc, R', Q, D, tw.docSet d k⟩, r⟩
  · refine ⟨9, h22.mono ?_⟩
    rintro e V q
    simp only [if_true] at q
    obtain ⟨rfl, rfl⟩ := q
    refine ⟨rfl, (docEnd_any t.dr).mono ?_⟩
    rintro e V' q
    simp only [if_true] at q
    obtain ⟨rfl, rfl⟩ := q
    exact ⟨rfl, F, true, A, last, n, N, hd, ⟨fo, fc, R, wo, wc, ao, ac, bo, bc, R', Q, D, t⟩, r⟩
/-- the step Feed -/
theorem Jn.feed {w W V : World} {p x K lm lb i m c g0 ca : Nat} {q : List UInt8} (h : Jn w W p x K lm lb i m c) (hlm : lm ≤ 65536) (hlb : lb ≤ 4194304) (hm : m + q.length ≤ 4000000000) (gV : Gr W V) (hg0 : W.heap.size ≤ g0) (hq : BytesAt V (some ⟨g0, 0, none⟩) q) (hca : q.length ≤ ca) (hcm : ca ≤ 9223372036854775807) :
    ∃ z : Int, Calls Try.prog 20 #[.pointer (some ⟨p, 0, none⟩), .slice (some ⟨g0, 0, none⟩) q.length ca] V fun e V1 => e = .returned (.int .i64 z) ∧ Keeps V V1 (fun g => w.heap.size ≤ g ∧ g < W.heap.size) ∧ ∀ ao cb, BytesAt V1 ao q → Calls Try.prog 21 #[.pointer (some ⟨x, 0, none⟩), .slice ao q.length cb] V1 fun e V2 => e = .returned (.int .i64 z) ∧ Keeps V1 V2 (fun g => w.heap.size ≤ g ∧ g < W.heap.size) ∧ Jn w V2 p x K lm lb i (m + q.length) c := by
  obtain ⟨F, sh, A, last, n, N, hd, ⟨fo, fc, R, wo, wc, ao, ac, bo, bc, R', Q, D, t⟩, r1, r2, r3, r4, r5⟩ := h
  have tV := t.grow gV
  obtain ⟨k1, k2⟩ := docS_ok hlm hlb last (F.drop A)
  rw [List.length_drop, t.dr.len] at k2
  have hok : (docS lm lb last (F.drop A)).e ≠ 0 ∨ (PreOk (docS lm lb last (F.drop A)) ∧ 0 < (docS lm lb last (F.drop A)).left) := k1.imp And.left id
  have h20 := feed_any tV.rd hq hca hcm (fun X o e r => by cases e; have := t.rd.lt r; omega) (by omega) (by omega) hok (by omega)
  cases sh
  · refine ⟨0, h20.mono ?_⟩
    rintro e V1 z
    simp only [Bool.false_eq_true, if_false] at z
    obtain ⟨rfl, R2, wo2, wc2, f⟩ := z
    have tw := tV.prog f
    refine ⟨rfl, f.kp.mono fun b _ r => ⟨tV.rd.news r, t.rd.lt r⟩, fun ao' cb hb => (docFeed_any tw.dr hb rfl (by omega) tw.rd.gr.size).mono ?_⟩
    rintro e V2 z
    simp only [Bool.false_eq_true, if_false] at z
    obtain ⟨rfl, fo', fc', d, k, bl, st⟩ := z
    have t2 := tw.docFed d k bl st
    rw [docS_feed hlm hlb last F q A (by rw [t.dr.len]; exact t.dr.at')] at t2
    refine ⟨rfl, k.mono fun b _ r => ?_, F ++ q, false, A, last, n + q.length, N, hd + q.length, ⟨fo', fc', R2, wo2, wc2, ao, ac, bo, bc, R', Q, D, t2⟩, fun z => by have := r1 z; omega, by omega, by omega, r4, r5⟩
    refine ⟨?_, t.dr.lt r⟩
    rcases r.to n fc with r | r
    · have := t.dr.xnew; omega
    · exact t.dr.fnew b r
  · refine ⟨9, h20.mono ?_⟩
    rintro e V1 z
    simp only [if_true] at z
    obtain ⟨rfl, rfl⟩ := z
    refine ⟨rfl, Keeps.refl _ _, fun ao' cb hb => (docFeed_any tV.dr hb rfl (by omega) tV.rd.gr.size).mono ?_⟩
    rintro e V2 z
    simp only [if_true] at z
    obtain ⟨rfl, rfl⟩ := z
    exact ⟨rfl, Keeps.refl _ _, F, true, A, last, n, N, hd, ⟨fo, fc, R, wo, wc, ao, ac, bo, bc, R', Q, D, tV⟩, r1, r2, by omega, r4, r5⟩
/-- the end: all rows of the book are apart -/
theorem Jn.apart {w W : World} {p x K lm lb i m c : Nat} (h : Jn w W p x K lm lb i m c) (hi : i ≤ 4000000000) (hc : 0 < c) :
    Calls Try.prog 15 #[.pointer (some ⟨K, 0, none⟩)] W fun e w' => e = .returned (.bool true) ∧ Gr w w' := by
  obtain ⟨F, sh, A, last, n, N, hd, ⟨fo, fc, R, wo, wc, ao, ac, bo, bc, R', Q, D, t⟩, r1, r2, r3, r4, r5⟩ := h
  exact apart_any t.bk (by omega) (by omega) (fun j hj => (t.wants j hj).bytes)
end Go.Proofs.Ytemleibpmaclmaa.Kit

namespace Go.Proofs.Ytemleibpmaclmaa.Kit
open Go.RowKit Go.Shelf Go.Deep
set_option linter.unusedVariables false

/-! ### the law FrameReads: its beginning -/
theorem docS_new {lm lb : Nat} (h1 : lm ≤ 65536) (h2 : lb ≤ 4194304) : docS lm lb false (([] : List UInt8).drop 0) = newF lm lb := by
  unfold docS
  simp only [Bool.false_eq_true, if_false, List.drop_nil]
  rw [feed_nil (.inr ⟨start_ok' h1 h2 [], by show 0 < 4; omega⟩), new_start]
/-- both readers new, the book empty -/
theorem Jn.begin {w W : World} {p x K lm lb : Nat} {R : Nat → Row} {wo : Option Addr} {wc : Nat} (hlm : lm ≤ 65536) (hlb : lb ≤ 4194304) (r : Rd w W p 76 [.bool false, .int .i64 ((0 : Nat) : Int)] (newF lm lb) R wo wc) (d : Dr w W x lm lb [] false 0 false none 0 0) (hK : w.heap.size ≤ K) (hb : W.heap[K]? = some (.cells #[.slice none 0 0, .slice none 0 0, .slice none 0 0, .slice none 0 0] 33 (0, 0))) : Jn w W p x K lm lb 0 0 0 := by
  refine ⟨[], false, 0, false, 0, 0, 0, ⟨none, 0, R, wo, wc, none, 0, none, 0, nilR, nilR, fun _ => [], ?_⟩, fun _ => rfl, Nat.le_refl _, Nat.le_refl _, Nat.zero_le _, Nat.le_refl _⟩
  rw [docS_new hlm hlb]
  exact ⟨r, d, Bk.new w W K r.gr hK hb nilR nilR (fun _ => []), fun i g hi e q => by simp [Value.ownBlock] at q, fun i j g hi hj => by omega, fun j g hj => by omega, fun j hj => by omega⟩
/-- the document's NewReader, over an older base -/
theorem Dr.base {w V W : World} {x lm lb : Nat} {F : List UInt8} {sh : Bool} {A : Nat} {last : Bool} {fo : Option Addr} {fc n : Nat} (h : Dr V W x lm lb F sh A last fo fc n) (s : w.heap.size ≤ V.heap.size) : Dr w W x lm lb F sh A last fo fc n :=
  ⟨Nat.le_trans s h.xnew, h.box, h.own, fun g e => Nat.le_trans s (h.fnew g e), h.at'⟩
/-- a reader of no limits wants more -/
theorem new_more {w W : World} {p : Nat} {R : Nat → Row} {wo : Option Addr} {wc : Nat} (r : Rd w W p 76 [.bool false, .int .i64 ((0 : Nat) : Int)] (newF 0 0) R wo wc) :
    Calls Try.prog 17 #[.pointer (some ⟨p, 0, none⟩)] W fun e w' => e = .returned (.tuple #[.agg #[.slice none 0 0, .slice none 0 0], .int .i64 1, .int .i64 0]) ∧ Gr W w' :=
  next_no r (by show 0 ≤ 100; omega) (by show (1 : Int) ≠ 2; decide)
/-- the rows of the script stay -/
theorem keep_old {w V V1 : World} {B : Nat} (k : Keeps V V1 (fun g => w.heap.size ≤ g ∧ g < B)) (gV : Gr w V) : Gr w V1 := gV.trans k (fun j hj e => by omega)
end Go.Proofs.Ytemleibpmaclmaa.Kit
