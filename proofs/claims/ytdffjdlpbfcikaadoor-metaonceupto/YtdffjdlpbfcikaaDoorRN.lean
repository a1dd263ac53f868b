import Derived.Test.YtdffjdlpbfcikaaDoorRC
import Derived.Test.YtdffjdlpbfcikaaDoorVD
namespace Go.Proofs.YtdffjdlpbfcikaaDoor.Kit
open Go.RowKit Go.Shelf Go.Deep
set_option linter.unusedVariables false

/-! ### a field's bytes are read as the field -/
theorem tab_ext {f : FT} (h : tableB f = true) : 1 ≤ f.kind ∧ f.kind ≤ 20 ∧ 0 ≤ f.width ∧ f.width < 100 ∧ 0 ≤ f.id ∧ f.id < 32 ∧ 0 ≤ f.index ∧ f.index ≤ 10 ∧ (¬ (f.kind = 14 ∨ f.kind = 16) → f.width = 0) ∧ (¬ f.kind = 19 → f.id = 0 ∧ f.index = 0) ∧ f.kids.length ≤ 32 ∧
    (f.kind = 15 ∨ f.kind = 16 ∨ f.kind = 19 ∨ f.kind = 20 → f.kids.length = 1) ∧ (¬ (f.kind = 15 ∨ f.kind = 16 ∨ f.kind = 19 ∨ f.kind = 20 ∨ f.kind = 17 ∨ f.kind = 18) → f.kids.length = 0) := by
  have hn := tableB_nums h
  unfold tableB kindB widthB dictB indexB at h
  simp only [Bool.and_eq_true, decide_eq_true_eq] at h
  obtain ⟨⟨h1, h2⟩, ⟨⟨h3, h4⟩, h5⟩, h6⟩ := h
  have w1 : 0 ≤ f.width ∧ f.width < 100 ∧ (¬ (f.kind = 14 ∨ f.kind = 16) → f.width = 0) := by
    by_cases c : f.kind = 14
    · rw [if_pos c] at h5; simp at h5; omega
    rw [if_neg c] at h5
    by_cases c2 : f.kind = 16
    · rw [if_pos c2] at h5; simp at h5; omega
    rw [if_neg c2] at h5
    simp at h5
    omega
  have d1 : 0 ≤ f.id ∧ f.id < 32 ∧ 0 ≤ f.index ∧ f.index ≤ 10 ∧ (¬ f.kind = 19 → f.id = 0 ∧ f.index = 0) := by
    by_cases c : f.kind = 19
    · rw [if_pos c] at h6; simp at h6; omega
    rw [if_neg c] at h6
    simp at h6
    omega
  refine ⟨by omega, by omega, w1.1, w1.2.1, d1.1, d1.2.1, d1.2.2.1, d1.2.2.2.1, w1.2.2, d1.2.2.2.2, hn.2.2.2.2, fun c => ?_, fun c => ?_⟩
  · rcases c with c | c | c | c <;> rw [c] at h3 h4 <;> simp only [leastK, mostK] at h3 h4 <;> simp at h3 h4 <;> omega
  · by_cases c2 : f.kind = 14
    · rw [c2] at h4; simp only [mostK] at h4; simp at h4; exact List.length_eq_zero_iff.2 h4
    have := low_K (k := f.kind) (by omega) (by omega)
    rw [this.2] at h4
    omega
def extD (f : FT) : Nat × Nat × Nat × Nat := (f.width.toNat, f.id.toNat, f.index.toNat, f.kids.length)
theorem enc_ext {f : FT} (h : tableB f = true) : Enc (fun B => extR B f.kind.toNat) (extB f) (extD f) 0 := by
  obtain ⟨k1, k2, w1, w2, i1, i2, x1, x2, w0, d0, hl, l1, l0⟩ := tab_ext h
  unfold extR extB extD
  by_cases c1 : f.kind = 14
  · have e := d0 (by omega)
    have e2 := l0 (by omega)
    simp only [c1, if_true, true_or, e.1, e.2, e2]
    exact (enc_num (x := f.width.toNat) (k := 2) (by omega)).last (f := fun x => (x, 0, 0, 0))
  have t1 : ¬ f.kind.toNat = 14 := by omega
  simp only [if_neg t1]
  by_cases c2 : f.kind = 16
  · have e := d0 (by omega)
    have e2 := l1 (by omega)
    simp only [c2, if_true, or_true, e.1, e.2, e2]
    exact (enc_num (x := f.width.toNat) (k := 2) (by omega)).last (f := fun x => (x, 0, 0, 1))
  have t2 : ¬ f.kind.toNat = 16 := by omega
  have hw := w0 (by omega)
  rw [if_neg (show ¬ (f.kind = 14 ∨ f.kind = 16) by omega)]
  simp only [if_neg t2, hw]
  by_cases c3 : f.kind = 19
  · have e2 := l1 (by omega)
    simp only [c3, if_true, e2]
    have := (enc_num (x := f.id.toNat) (k := 2) (by omega)).bind (f := fun B x => (numR B 1).bind fun y => Rd.pure (0, x, y, 1)) ((enc_num (x := f.index.toNat) (k := 1) (by omega)).last (f := fun y => (0, f.id.toNat, y, 1)))
    exact this
  have t3 : ¬ f.kind.toNat = 19 := by omega
  have hd := d0 c3
  rw [if_neg c3]
  simp only [if_neg t3, hd.1, hd.2]
  by_cases c4 : f.kind = 15 ∨ f.kind = 20
  · have e2 := l1 (by omega)
    rw [if_neg (show ¬ (f.kind = 17 ∨ f.kind = 18) by omega)]
    simp only [if_pos (show f.kind.toNat = 15 ∨ f.kind.toNat = 20 by omega), e2]
    exact Enc.pure _
  simp only [if_neg (show ¬ (f.kind.toNat = 15 ∨ f.kind.toNat = 20) by omega)]
  by_cases c5 : f.kind = 17 ∨ f.kind = 18
  · rw [if_pos c5]
    simp only [if_pos (show f.kind.toNat = 17 ∨ f.kind.toNat = 18 by omega)]
    exact (enc_num (x := f.kids.length) (k := 1) (by omega)).last (f := fun x => (0, 0, 0, x))
  rw [if_neg c5]
  simp only [if_neg (show ¬ (f.kind.toNat = 17 ∨ f.kind.toNat = 18) by omega), l0 (by omega)]
  exact Enc.pure _
theorem FT.eta {f : FT} (h1 : 0 ≤ f.kind) (h2 : 0 ≤ f.width) (h3 : 0 ≤ f.id) (h4 : 0 ≤ f.index) : FT.mk f.name f.nul (f.kind.toNat : Int) (f.width.toNat : Int) (f.id.toNat : Int) (f.index.toNat : Int) f.kids = f := by
  obtain ⟨a, b, c, d, e, g, l⟩ := f
  simp only [FT.kind, FT.width, FT.id, FT.index] at h1 h2 h3 h4
  simp only [FT.name, FT.nul, FT.kind, FT.width, FT.id, FT.index, FT.kids, FT.mk.injEq, true_and, and_true]
  omega
theorem enc_typ {f : FT} {R : List UInt8 → Rd FT} {enc : FT → List UInt8} {c : FT → Nat} (h : tableB f = true) (hk : ∀ x ∈ f.kids, Enc R (enc x) x (c x)) : Enc (fun B => typR B (R B)) (numB f.kind.toNat 1 ++ extB f ++ f.kids.flatMap enc) ⟨f.kind.toNat, f.width.toNat, f.id.toNat, f.index.toNat, f.kids⟩ (f.kids.map c).sum := by
  obtain ⟨k1, k2, w1, w2, i1, i2, x1, x2, w0, d0, hl, l1, l0⟩ := tab_ext h
  have h3 := (enc_sev (n := f.kids.length) f.kids rfl hk).last (f := fun l => TD.mk f.kind.toNat f.width.toNat f.id.toNat f.index.toNat l)
  have h2 := (enc_ext h).bind (f := fun B e => (sevR e.2.2.2 (R B)).bind fun l => Rd.pure (TD.mk f.kind.toNat e.1 e.2.1 e.2.2.1 l)) h3
  have h1 := (enc_among (x := f.kind.toNat) (lo := 1) (hi := 20) (by omega) (by omega) (by omega)).bind (f := fun B k => (extR B k).bind fun e => (sevR e.2.2.2 (R B)).bind fun l => Rd.pure (TD.mk k e.1 e.2.1 e.2.2.1 l)) h2
  exact h1.to (by simp) (by omega)
theorem enc_field : ∀ (d : Nat) (f : FT), deep d f.kids → okM f → (∀ g ∈ pre d f.kids, okM g) → Enc (fun B => fieldR B (d + 1)) (fldB d f) f (1 + (pre d f.kids).length) := by
  have step : ∀ (d : Nat) (f : FT) (enc : FT → List UInt8) (c : FT → Nat), okM f → (∀ x ∈ f.kids, Enc (fun B => fieldR B d) (enc x) x (c x)) → Enc (fun B => fieldR B (d + 1)) (hdB f ++ f.kids.flatMap enc) f (1 + (f.kids.map c).sum) := by
    intro d f enc c hm hk
    obtain ⟨k1, k2, w1, w2, i1, i2, x1, x2, _⟩ := tab_ext hm.2
    have h3 := (enc_typ hm.2 hk).last (f := fun t => FT.mk f.name f.nul t.kind t.width t.id t.index t.kids)
    have h2 := (enc_flag f.nul).bind (f := fun B nu => (typR B (fieldR B d)).bind fun t => Rd.pure (FT.mk f.name nu t.kind t.width t.id t.index t.kids)) h3
    have h1 := (enc_text (s := f.name) (k := 1) (by have := hm.1; omega)).bind (f := fun B nm => (flagR B).bind fun nu => (typR B (fieldR B d)).bind fun t => Rd.pure (FT.mk nm nu t.kind t.width t.id t.index t.kids)) h2
    rw [FT.eta (by omega) w1 i1 x1] at h1
    have h0 := h1.to (b' := hdB f ++ f.kids.flatMap enc) (c' := (f.kids.map c).sum) (by simp [hdB]) (by omega)
    intro pre post g hg
    show fieldR (pre ++ (hdB f ++ f.kids.flatMap enc) ++ post) (d + 1) (pre.length, g) = _
    have := h0 pre post (g + 1) (by omega)
    rw [fieldR]
    dsimp only
    rw [if_neg (show ¬ g = 256 by omega)]
    refine Eq.trans this ?_
    rw [Nat.add_assoc]
  intro d
  induction d with
  | zero =>
    intro f hd hm hp
    have e : f.kids = [] := hd
    have := step 0 f (fun _ => []) (fun _ => 0) hm (fun x hx => by rw [e] at hx; cases hx)
    exact this.to (by simp [fldB, e]) (by simp [pre, e])
  | succ d ih =>
    intro f hd hm hp
    have hin : ∀ x ∈ f.kids, ∀ g, g = x ∨ g ∈ pre d x.kids → g ∈ pre (d + 1) f.kids := fun x hx g hg => by
      show g ∈ f.kids.flatMap fun f => f :: pre d f.kids
      exact List.mem_flatMap.2 ⟨x, hx, by simpa using hg⟩
    have := step (d + 1) f (fldB d) (fun x => 1 + (pre d x.kids).length) hm (fun x hx => ih x (hd x hx) (hp x (hin x hx x (.inl rfl))) (fun g hg => hp g (hin x hx g (.inr hg))))
    refine this.to rfl ?_
    congr 1
    show (f.kids.flatMap fun f => f :: pre d f.kids).length = _
    rw [List.length_flatMap]
    congr 1
    exact List.map_congr_left fun x _ => by simp; omega
end Go.Proofs.YtdffjdlpbfcikaaDoor.Kit
