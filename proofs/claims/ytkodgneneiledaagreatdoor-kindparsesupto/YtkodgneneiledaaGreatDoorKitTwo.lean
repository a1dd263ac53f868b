import Derived.Test.YtkodgneneiledaaGreatDoorUB
import Derived.Test.YtkodgneneiledaaGreatDoorMB
import Derived.Test.YtkodgneneiledaaGreatDoorUL
import Derived.Test.YtkodgneneiledaaGreatDoorLK
import Derived.Test.YtkodgneneiledaaGreatDoorDA
namespace Go.Proofs.YtkodgneneiledaaGreatDoor.Kit
open Go.RowKit Go.Shelf Go.Deep
set_option linter.unusedVariables false
theorem Pr.inv {α β : Type} {r : Pr α} {f : α → Pr β} {s s2 : Ps} {y : β} (h : r.bind f s = .ok (y, s2)) : ∃ x s1, r s = .ok (x, s1) ∧ f x s1 = .ok (y, s2) := by
  unfold Pr.bind at h
  cases e : r s with
  | error o => rw [e] at h; cases h
  | ok q => obtain ⟨x, s1⟩ := q; rw [e] at h; exact ⟨x, s1, rfl, h⟩
def Fw {α : Type} (r : Pr α) : Prop := ∀ s x s1, r s = .ok (x, s1) → s.1 ≤ s1.1 ∧ s1.2 = s.2
theorem Fw.bind {α β : Type} {r : Pr α} {f : α → Pr β} (h : Fw r) (k : ∀ x, Fw (f x)) : Fw (r.bind f) := fun s y s2 e => by
  obtain ⟨x, s1, e1, e2⟩ := Pr.inv e
  have a := h s x s1 e1
  have b := k x s1 y s2 e2
  exact ⟨Nat.le_trans a.1 b.1, b.2.trans a.2⟩
theorem fw_pure {α : Type} (x : α) : Fw (Pr.pure x) := fun s y s1 e => by cases e; exact ⟨Nat.le_refl _, rfl⟩
theorem fw_err {α : Type} (o : Ps → Nat) : Fw (fun s => .error (o s) : Pr α) := fun s y s1 e => by cases e
theorem fw_ite {α : Type} {c : Prop} [Decidable c] {r t : Pr α} (h : Fw r) (k : Fw t) : Fw (if c then r else t) := by split <;> assumption
theorem fw_peek (T : List UInt8) : Fw (peekP T) := fun s y s1 e => by cases e; exact ⟨Nat.le_add_right _ _, rfl⟩
theorem fw_takes (T : List UInt8) (c : UInt8) : Fw (takesP T c) := (fw_peek T).bind fun x s y s1 e => by
  (try dsimp only at e)
  split at e
  · cases e; exact ⟨Nat.le_succ _, rfl⟩
  cases e; exact ⟨Nat.le_refl _, rfl⟩
theorem fw_must (T : List UInt8) (c : UInt8) : Fw (mustP T c) := (fw_takes T c).bind fun x s y s1 e => by
  (try dsimp only at e)
  split at e
  · cases e; exact ⟨Nat.le_refl _, rfl⟩
  cases e
theorem fw_end (T : List UInt8) : Fw (endP T) := (fw_peek T).bind fun x s y s1 e => by
  (try dsimp only at e)
  split at e
  · cases e
  cases e; exact ⟨Nat.le_refl _, rfl⟩
theorem fw_word (T : List UInt8) : Fw (wordP T) := (fw_peek T).bind fun x s y s1 e => by cases e; exact ⟨Nat.le_add_right _ _, rfl⟩
theorem fw_mean (T : List UInt8) (of : ByteArray → Int) : Fw (meanP T of) := (fw_word T).bind fun x s y s1 e => by
  (try dsimp only at e)
  split at e
  · cases e
  cases e; exact ⟨Nat.le_refl _, rfl⟩
theorem fw_next (T : List UInt8) : Fw (nextP T) := fun s y s1 e => by
  unfold nextP at e
  split at e
  · cases e
  cases e; exact ⟨Nat.le_succ _, rfl⟩
theorem fw_digit (T : List UInt8) (o : Nat) : Fw (digitP T o) := (fw_next T).bind fun x s y s1 e => by
  (try dsimp only at e)
  split at e
  · cases e
  cases e; exact ⟨Nat.le_refl _, rfl⟩
theorem fw_esc (T : List UInt8) (o : Nat) : Fw (escP T o) := (fw_next T).bind fun c => fw_ite (fw_pure _) (fw_ite ((fw_digit T o).bind fun _ => (fw_digit T o).bind fun _ => fw_pure _) (fw_err _))
theorem fw_quo (T : List UInt8) : ∀ n acc, Fw (quoP T n acc)
  | 0, acc => fw_err _
  | n + 1, acc => fun s y s2 e => by
    rw [quoP] at e
    have h : Fw ((nextP T).bind fun c => if c = 34 then Pr.pure (⟨acc.toArray⟩ : ByteArray) else if c = 92 then (escP T s.1).bind fun b => quoP T n (acc ++ [b]) else if plainB c then quoP T n (acc ++ [c]) else fun _ => .error s.1) :=
      (fw_next T).bind fun c => fw_ite (fw_pure _) (fw_ite ((fw_esc T _).bind fun b => fw_quo T n _) (fw_ite (fw_quo T n _) (fw_err _)))
    exact h s y s2 e
theorem fw_quoted (T : List UInt8) : Fw (quotedP T) := (fw_must T 34).bind fun _ => fw_quo T _ _
theorem fw_note (T : List UInt8) : Fw (noteP T) := (fw_quoted T).bind fun _ => (fw_quoted T).bind fun _ => fw_pure _
theorem fw_com {α : Type} {T : List UInt8} {item : Pr α} (h : Fw item) : ∀ n acc, Fw (comP T item n acc)
  | 0, acc => fw_pure _
  | n + 1, acc => (fw_takes T 44).bind fun b => fw_ite (h.bind fun x => fw_com h n _) (fw_pure _)
theorem fw_many {α : Type} {T : List UInt8} {item : Pr α} (h : Fw item) : Fw (manyP T item) := h.bind fun x => fw_com h _ _
def Fn {α : Type} (c : α → Nat) (r : Pr α) : Prop := ∀ s x s1, r s = .ok (x, s1) → s.1 ≤ s1.1 ∧ s1.2.length = s.2.length + c x
theorem Fw.bindN {α β : Type} {r : Pr α} {f : α → Pr β} {c : β → Nat} (h : Fw r) (k : ∀ x, Fn c (f x)) : Fn c (r.bind f) := fun s y s2 e => by
  obtain ⟨x, s1, e1, e2⟩ := Pr.inv e
  have a := h s x s1 e1
  have b := k x s1 y s2 e2
  exact ⟨Nat.le_trans a.1 b.1, by rw [b.2, a.2]⟩
theorem Fn.bindW {α β : Type} {r : Pr α} {f : α → Pr β} {c : α → Nat} {e : β → Nat} (h : Fn c r) (k : ∀ x s y s1, f x s = .ok (y, s1) → s.1 ≤ s1.1 ∧ s1.2 = s.2 ∧ e y = c x) : Fn e (r.bind f) := fun s y s2 q => by
  obtain ⟨x, s1, e1, e2⟩ := Pr.inv q
  have a := h s x s1 e1
  have b := k x s1 y s2 e2
  exact ⟨Nat.le_trans a.1 b.1, by rw [b.2.1, a.2, b.2.2]⟩
theorem fn_ite {α : Type} {c : α → Nat} {p : Prop} [Decidable p] {r t : Pr α} (h : Fn c r) (k : Fn c t) : Fn c (if p then r else t) := by split <;> assumption
theorem fn_pure {α : Type} {c : α → Nat} {x : α} (h : c x = 0) : Fn c (Pr.pure x) := fun s y s1 e => by cases e; exact ⟨Nat.le_refl _, by rw [h]; rfl⟩
def nP (d : Nat) (l : List FT) : Nat := (pre d l).length
theorem nP_nil (d : Nat) : nP d [] = 0 := by cases d <;> rfl
theorem nP_app (d : Nat) (l m : List FT) : nP d (l ++ m) = nP d l + nP d m := by
  cases d with
  | zero => rfl
  | succ d => unfold nP; rw [pre, pre, pre, List.flatMap_append, List.length_append]
theorem nP_one (d : Nat) (f : FT) : nP (d + 1) [f] = 1 + nP d f.kids := by
  unfold nP; rw [pre]; simp; omega
theorem fn_com {T : List UInt8} {item : Pr FT} {d : Nat} (h : Fn (fun f => nP d [f]) item) : ∀ n acc s y s1, comP T item n acc s = .ok (y, s1) → s.1 ≤ s1.1 ∧ s1.2.length + nP d acc = s.2.length + nP d y
  | 0, acc, s, y, s1, e => by cases e; exact ⟨Nat.le_refl _, rfl⟩
  | n + 1, acc, s, y, s1, e => by
    rw [comP] at e
    obtain ⟨b, s2, e1, e2⟩ := Pr.inv e
    have a := fw_takes T 44 s b s2 e1
    (try dsimp only at e2)
    split at e2
    · obtain ⟨x, s3, e3, e4⟩ := Pr.inv e2
      have b := h s2 x s3 e3
      have c := fn_com h n (acc ++ [x]) s3 y s1 e4
      have b2 : s3.2.length = s2.2.length + nP d [x] := b.2
      have c2 : s1.2.length + nP d (acc ++ [x]) = s3.2.length + nP d y := c.2
      rw [nP_app] at c2
      have a2 : s2.2.length = s.2.length := by rw [a.2]
      exact ⟨Nat.le_trans a.1 (Nat.le_trans b.1 c.1), by omega⟩
    cases e2; exact ⟨a.1, by rw [a.2]⟩
theorem fn_many {T : List UInt8} {item : Pr FT} {d : Nat} (h : Fn (fun f => nP d [f]) item) : Fn (fun l => nP d l) (manyP T item) := fun s y s1 e => by
  obtain ⟨x, s2, e1, e2⟩ := Pr.inv e
  have a := h s x s2 e1
  have b := fn_com h D0 [x] s2 y s1 e2
  have a2 : s2.2.length = s.2.length + nP d [x] := a.2
  exact ⟨Nat.le_trans a.1 b.1, by have := b.2; show s1.2.length = s.2.length + nP d y; omega⟩
theorem fn_inn {T : List UInt8} {rec : Pr FT} {d : Nat} (h : Fn (fun f => nP d [f]) rec) (k : Int) : Fn (fun t : TP => nP d t.kids) (innP T rec k) := by
  have h0 : ∀ x y z, nP d (TP.mk x y z []).kids = 0 := fun _ _ _ => nP_nil d
  have h1 : ∀ x y z, Fn (fun t : TP => nP d t.kids) (rec.bind fun f => Pr.pure (⟨x, y, z, [f]⟩ : TP)) := fun x y z => h.bindW fun f s t s1 e => by cases e; exact ⟨Nat.le_refl _, rfl, rfl⟩
  have h2 : ∀ x y z, Fn (fun t : TP => nP d t.kids) ((manyP T rec).bind fun l => Pr.pure (⟨x, y, z, l⟩ : TP)) := fun x y z => (fn_many h).bindW fun f s t s1 e => by cases e; exact ⟨Nat.le_refl _, rfl, rfl⟩
  unfold innP
  refine fn_ite ((fw_mean T _).bindN fun x => fn_pure (h0 _ _ _)) (fn_ite (h1 _ _ _) (fn_ite ((fw_mean T _).bindN fun x => (fw_must T _).bindN fun _ => h1 _ _ _) (fn_ite ((fw_peek T).bindN fun c => fn_ite (fn_pure (h0 _ _ _)) (h2 _ _ _)) (fn_ite (h2 _ _ _) (fn_ite ((fw_mean T _).bindN fun x => (fw_must T _).bindN fun _ => (fw_mean T _).bindN fun y => (fw_must T _).bindN fun _ => h1 _ _ _) (fn_pure (h0 _ _ _)))))))
theorem fn_typ {T : List UInt8} {rec : Pr FT} {d : Nat} (h : Fn (fun f => nP d [f]) rec) : Fn (fun t : Int × TP => nP d t.2.kids) (typP T rec) :=
  (fw_mean T _).bindN fun k => fn_ite (fn_pure (nP_nil d)) ((fw_must T _).bindN fun _ => (fn_inn h k).bindW fun t s y s1 e => by
    obtain ⟨u, s2, e1, e2⟩ := Pr.inv e
    have a := fw_must T 41 s u s2 e1
    cases e2
    exact ⟨a.1, a.2, rfl⟩)
theorem name_fw {T : List UInt8} {s s1 : Ps} {x : ByteArray} (h : nameP T s = .ok (x, s1)) : s.1 < s1.1 ∧ s1.2.length = s.2.length + 1 ∧ x.size ≠ 0 := by
  unfold nameP at h
  obtain ⟨y, s2, e1, e2⟩ := Pr.inv h
  have a := fw_peek T
  unfold wordP at e1
  obtain ⟨c, s3, e3, e4⟩ := Pr.inv e1
  have a := fw_peek T s c s3 e3
  cases e4
  (try dsimp only at e2)
  split at e2
  · cases e2
  rename_i hz
  cases e2
  have hz' : (wordsB (T.drop s3.1)).length ≠ 0 := by simpa [ByteArray.size] using hz
  refine ⟨?_, ?_, hz⟩
  · show s.1 < s3.1 + _; have := a.1; omega
  show (s3.2 ++ _).length = _; rw [List.length_append, a.2]; rfl
theorem field_fn {T : List UInt8} : ∀ d s x s1, fieldP T d s = .ok (x, s1) → s.1 < s1.1 ∧ s1.2.length = s.2.length + nP d [x]
  | 0, s, x, s1, e => by cases e
  | d + 1, s, x, s1, e => by
    rw [fieldP] at e
    obtain ⟨nm, s2, e1, e2⟩ := Pr.inv e
    obtain ⟨t, s3, e3, e4⟩ := Pr.inv e2
    obtain ⟨b, s4, e5, e6⟩ := Pr.inv e4
    have a1 := name_fw e1
    have a3 := fn_typ (T := T) (d := d) (rec := fieldP T d) (fun s x s1 e => ⟨Nat.le_of_lt (field_fn d s x s1 e).1, (field_fn d s x s1 e).2⟩) s2 t s3 e3
    have a5 := fw_takes T 63 s3 b s4 e5
    cases e6
    refine ⟨by have := a1.1; have := a3.1; have := a5.1; omega, ?_⟩
    have a32 : s3.2.length = s2.2.length + nP d t.2.kids := a3.2
    rw [nP_one, a5.2, a32, a1.2.1]
    show _ = _ + (1 + nP d t.2.kids)
    omega
theorem fn_field {T : List UInt8} (d : Nat) : Fn (fun f => nP d [f]) (fieldP T d) := fun s x s1 e => ⟨Nat.le_of_lt (field_fn d s x s1 e).1, (field_fn d s x s1 e).2⟩
def IntsB (p : Nat) (W : World) (z : Nat) : Prop := p < z ∧ ∃ cs b, W.heap[z]? = some (.cells cs 3 b)
theorem IntsB.of {p : Nat} {W : World} {z t : Nat} {cs : Array Value} {b : Nat × Nat} (h : W.heap[z]? = some (.cells cs t b)) (ht : t ≠ 3) : ¬ IntsB p W z := fun ⟨_, cs', b', e⟩ => by
  rw [h] at e
  cases e
  exact ht rfl
theorem IntsB.same {p : Nat} {W W' : World} {z : Nat} (e : W'.heap[z]? = W.heap[z]?) (h : ¬ IntsB p W z) : ¬ IntsB p W' z := fun ⟨l, cs, b, q⟩ => h ⟨l, cs, b, e ▸ q⟩
abbrev KpN (W W' : World) (p : Nat) : Prop := Keeps W W' (fun z => z = p ∨ IntsB p W z)
theorem KpN.blk {W W' : World} {p z : Nat} (h : KpN W W' p) (hz : z < W.heap.size) (hp : z ≠ p) (hi : ¬ IntsB p W z) : W'.heap[z]? = W.heap[z]? := h.block z hz fun e => e.elim hp hi
theorem KpN.tr {A B C : World} {p : Nat} (h : KpN A B p) (k : KpN B C p) : KpN A C p :=
  ⟨k.os.trans h.os, k.tape.trans h.tape, k.output.trans h.output, Nat.le_trans h.size k.size, fun j hj hn => by
    have hp : j ≠ p := fun e => hn (.inl e)
    have hi : ¬ IntsB p A j := fun e => hn (.inr e)
    have e1 := h.blk hj hp hi
    exact (k.blk (Nat.lt_of_lt_of_le hj h.size) hp (IntsB.same e1 hi)).trans e1⟩
theorem KpR.n {W W' : World} {p : Nat} (h : KpR W W' p) : KpN W W' p := Keeps.mono h fun _ _ e => .inl e
theorem Gr.n {W W' : World} (p : Nat) (h : Gr W W') : KpN W W' p := Keeps.mono h fun _ _ e => e.elim
structure NAt (W : World) (p : Nat) (s : ByteArray) (a : Nat) (g : List Nat) (vo : Option Addr) (vc : Nat) : Prop where
  tat : TAt W p s a (.slice vo g.length vc)
  own : W.ownsRow 0 3 1 (.slice vo g.length vc) g.length (ints g)
  few : g.length ≤ a
  new : ∀ q, (Value.slice vo g.length vc).ownBlock = some q → p < q
  tab : Tab W
  pz : p ≠ 0
def NA (W : World) (p : Nat) (s : ByteArray) (a : Nat) (g : List Nat) : Prop := ∃ vo vc, NAt W p s a g vo vc
theorem NA.lt {W : World} {p : Nat} {s : ByteArray} {a : Nat} {g : List Nat} (h : NA W p s a g) : p < W.heap.size := by obtain ⟨vo, vc, h⟩ := h; exact h.tat.lt
theorem NA.pos {W : World} {p : Nat} {s : ByteArray} {a : Nat} {g : List Nat} (h : NA W p s a g) : a ≤ s.size := by obtain ⟨vo, vc, h⟩ := h; exact h.tat.pos
theorem NA.len {W : World} {p : Nat} {s : ByteArray} {a : Nat} {g : List Nat} (h : NA W p s a g) : s.size ≤ 65536 := by obtain ⟨vo, vc, h⟩ := h; exact h.tat.len
theorem own_blk {W : World} {t s n : Nat} {v : Value} {xs : List Value} (h : W.ownsRow 0 t s v n xs) {g : Nat} (e : v.ownBlock = some g) : ∃ cs, W.heap[g]? = some (.cells cs t (0, 0)) := by
  rcases h.2 with ⟨rfl, _⟩ | ⟨g', cap, cur, rfl, _, hb, _⟩
  · simp [Value.ownBlock] at e
  have e' : g' = g := by simpa [Value.ownBlock] using e
  exact ⟨cur, e' ▸ hb⟩
theorem own_apart {W : World} {t s n q u : Nat} {v : Value} {xs : List Value} {cs : Array Value} {b : Nat × Nat} (h : W.ownsRow 0 t s v n xs) (hq : W.heap[q]? = some (.cells cs u b)) (ht : u ≠ t) : v.ownBlock ≠ some q := fun e => by
  obtain ⟨cs', hb⟩ := own_blk h e
  rw [hq] at hb
  cases hb
  exact ht rfl
theorem NA.kept {W U : World} {p : Nat} {s : ByteArray} {a : Nat} {g : List Nat} {S : Nat → Prop} (h : NA W p s a g) (k : Keeps W U S) (hS : ∀ z, S z → z ≠ p ∧ z ≠ 0 ∧ ¬ IntsB p W z) : NA U p s a g := by
  obtain ⟨vo, vc, h⟩ := h
  refine ⟨vo, vc, ⟨(k.block p h.tat.lt fun e => (hS p e).1 rfl).trans h.tat.box, h.tat.len, h.tat.pos⟩, row_kp h.own fun q e => k.block q (own_lt h.own q e) fun e' => ?_, h.few, h.new, h.tab.kp (k.block 0 h.tab.1 fun e => (hS 0 e).2.1 rfl), h.pz⟩
  obtain ⟨cs, hb⟩ := own_blk h.own e
  exact (hS q e').2.2 ⟨h.new q e, cs, _, hb⟩
theorem NA.gr {W U : World} {p : Nat} {s : ByteArray} {a : Nat} {g : List Nat} (h : NA W p s a g) (k : Gr W U) : NA U p s a g := h.kept k fun _ e => e.elim
def PnQ {α : Type} (W : World) (p : Nat) (s : ByteArray) (r : Except Nat (α × Ps)) (V : World → α → Value → Prop) (e : Ending) (w' : World) : Prop :=
  KpN W w' p ∧
  match r with
  | .ok (x, a', g') => ∃ v, e = .returned v ∧ V w' x v ∧ NA w' p s a' g'
  | .error o => e = .panicked [{ v := stuckV o, recovered := false }]
def PnC {α : Type} (p : Nat) (s : ByteArray) (d : Nat) (F : Nat) (args : Array Value) (r : Pr α) (V : World → World → α → Value → Prop) : Prop :=
  ∀ W a g, NA W p s a g → s.size - a < d → Calls Tryz.prog F args W (PnQ W p s (r (a, g)) (V W))
theorem PnQ.ok {α : Type} {W w' : World} {p : Nat} {s : ByteArray} {r : Except Nat (α × Ps)} {V : World → α → Value → Prop} {x : α} {a : Nat} {g : List Nat} {v : Value} (hk : KpN W w' p) (hr : r = .ok (x, (a, g))) (hv : V w' x v) (hR : NA w' p s a g) : PnQ W p s r V (.returned v) w' := ⟨hk, by rw [hr]; exact ⟨v, rfl, hv, hR⟩⟩
theorem PnQ.err {α : Type} {W w' : World} {p : Nat} {s : ByteArray} {r : Except Nat (α × Ps)} {V : World → α → Value → Prop} {o : Nat} (hk : KpN W w' p) (hr : r = .error o) : PnQ W p s r V (.panicked [{ v := stuckV o, recovered := false }]) w' := ⟨hk, by rw [hr]⟩
theorem PrQ.n {α : Type} {W : World} {p : Nat} {s : ByteArray} {a : Nat} {g : List Nat} {vo : Option Addr} {vc : Nat} {r : Pr α} {V : α → Value → Prop} (hN : NAt W p s a g vo vc) (hf : Fw r) {e : Ending} {w' : World} (h : PrQ W p s (.slice vo g.length vc) g (r (a, g)) V e w') : PnQ W p s (r (a, g)) (fun _ => V) e w' := by
  obtain ⟨hk, h⟩ := h
  refine ⟨hk.n, ?_⟩
  cases hr : r (a, g) with
  | error o => rw [hr] at h; exact h
  | ok q =>
    obtain ⟨x, a', g'⟩ := q
    rw [hr] at h
    obtain ⟨rfl, v, e1, hv, ht⟩ := h
    have hf' := hf _ _ _ hr
    exact ⟨v, e1, hv, vo, vc, ht, row_kp hN.own fun q e => hk.block q (own_lt hN.own q e) fun e' => own_apart hN.own hN.tat.box (by decide) (e' ▸ e), Nat.le_trans hN.few hf'.1, hN.new, tab_kp hN.tab hk hN.pz, hN.pz⟩
theorem PrC.n {α : Type} {p : Nat} {s : ByteArray} {F : Nat} {args : Array Value} {r : Pr α} {V : α → Value → Prop} (h : PrC p s F args r V) (hf : Fw r) (d : Nat) : PnC p s d F args r (fun _ _ => V) := fun W a g hN _ => by
  obtain ⟨vo, vc, hN⟩ := hN
  exact Calls.mono (h _ W a g hN.tat) fun e w' q => PrQ.n hN hf q
theorem PrT.n {α : Type} {p : Nat} {s : ByteArray} {F : Nat} {args : Array Value} {r : Pr α} {V : α → Value → Prop} (h : PrT p s F args r V) (hf : Fw r) (d : Nat) : PnC p s d F args r (fun _ _ => V) := fun W a g hN _ => by
  obtain ⟨vo, vc, hN⟩ := hN
  exact Calls.mono (h _ W a g hN.tat hN.tab) fun e w' q => PrQ.n hN hf q
theorem peek_n (p : Nat) (s : ByteArray) (d : Nat) : PnC p s d 50 #[.pointer (some ⟨p, 0, none⟩)] (peekP s.data.toList) (fun _ _ c v => v = .int .u8 (c.toNat : Int)) := fun W a g hN _ => by
  obtain ⟨vo, vc, hN⟩ := hN
  refine Calls.mono (peek_any p s _ W a hN.tat) ?_
  rintro e w' ⟨rfl, hk, ht⟩
  exact PrQ.n (r := peekP s.data.toList) (V := uQ) hN (fw_peek _) (PrQ.ok hk rfl rfl ht)
end Go.Proofs.YtkodgneneiledaaGreatDoor.Kit
namespace Go.Proofs.YtkodgneneiledaaGreatDoor.Kit
open Go.RowKit Go.Deep
section
variable {P : Program} (w : World)
theorem run_append_anyN (t tx ty e : TypeId) (i : TypeInfo) (z : Value) (bytes : Nat) (ht : P.underlying t = some (.slice e)) (hi : P.info? e = some i) (hz : i.zero = some z) (size : Nat) (hsize : i.size = size) (hby : i.bytes = bytes) (hzs : z.cells.size = size)
    (v : Value) (n : Nat) (xs : List Value) (hown : w.ownsRow 0 e size v n xs) (x : Value) (m : Nat) (news : List Value) (hs : Src P size tx x m news w)
    (h63 : n + m ≤ 9223372036854775807) (hbytes : (n + m) * bytes ≤ 140737488355328) :
    ∃ v' w', (Builtin.append_ #[t, tx] ty #[v, x]).run P w = .ok v' w' ∧ w'.ownsRow 0 e size v' (n + m) (xs ++ news) ∧ w.grownBy w' v.ownBlock ∧
      (v'.ownBlock = v.ownBlock ∨ ∀ g, v'.ownBlock = some g → w.heap.size ≤ g) := by
  subst hby
  have hlen : (xs ++ news).length = (n + m) * size := by rw [List.length_append, hown.1, hs.newsLen, Nat.add_mul]
  have grown : ∀ (old : Nat), old < n + m → ∀ (row : Option Nat),
      (w.drew.alloc (.cells ((xs ++ news).toArray ++ Builtin.zeroCells z.cells (grownCap w (n + m) old e - (n + m))) e)).ownsRow 0 e size
        (.slice (some ⟨w.heap.size, 0, none⟩) (n + m) (grownCap w (n + m) old e)) (n + m) (xs ++ news) ∧
      w.grownBy (w.drew.alloc (.cells ((xs ++ news).toArray ++ Builtin.zeroCells z.cells (grownCap w (n + m) old e - (n + m))) e)) row := by
    intro old ho row
    have hge := grownCap_ge w (n + m) old e
    have hcm : grownCap w (n + m) old e ≤ maxLen := grownCap_le_maxLen w (n + m) old e h63
    refine ⟨⟨hlen, .inr ⟨w.heap.size, _, _, rfl, Nat.zero_le _, heap_alloc_new w.drew _, hge, hcm, ?_, ?_⟩⟩, ⟨rfl, rfl, rfl, by simp, fun k hk _ => Below.heap_alloc w.drew _ k hk⟩⟩
    · simp only [Array.size_append, List.size_toArray, size_zeroCells, hzs, hlen, ← Nat.add_mul]
      congr 1
      omega
    simp only [Array.toList_append]
    rw [← hlen]
    exact List.take_left
  rcases hown.2 with ⟨rfl, rfl⟩ | ⟨g, cap, cur, rfl, hbg, hg, hnc, hcm, hcs, htake⟩
  · have hx : xs = [] := List.eq_nil_of_length_eq_zero (by simpa using hown.1)
    subst hx
    by_cases hm : m = 0
    · subst hm
      have hn : news = [] := List.eq_nil_of_length_eq_zero (by have := hs.newsLen; simpa using this)
      subst hn
      refine ⟨.slice none 0 0, w, ?_, World.ownsRow_nil w 0 e size, ⟨rfl, rfl, rfl, Nat.le_refl _, fun _ _ _ => rfl⟩, .inl rfl⟩
      have hc := hs.cells
      have hl := hs.len
      rcases hs.kind with ⟨e', hk⟩ | hk <;> simp [Builtin.append_, run_underlying ht, run_underlying hk, sizeOf, typeInfo, hi, hsize, hl, hc]
    have hr := run_append_grow_src (P := P) w t tx ty e i z ht hi hz none 0 0 [] (by simpa using run_firstCells_none w.drew i.size 0 0 0) x m news (by rw [hsize]; exact hs) (by omega) (by omega) (growslice_fits (by omega) hbytes)
    have hgr := grown 0 (by omega) (Value.ownBlock (.slice none 0 0))
    exact ⟨_, _, hr, hgr.1, hgr.2, .inr fun g hg => by simp [Value.ownBlock] at hg; omega⟩
  by_cases hroom : n + m ≤ cap
  · have hl := hs.newsLen
    have hfit : n * i.size + news.length ≤ cur.size := by rw [hl, hcs, hsize, ← Nat.add_mul]; exact Nat.mul_le_mul_right _ hroom
    have hr := run_append_room_row (P := P) w t tx ty e i ht hi g n cap cur hg x m news (by rw [hsize]; exact hs) hroom hfit
    rw [hsize] at hr hfit
    refine ⟨_, _, hr, ⟨hlen, .inr ⟨g, cap, _, rfl, hbg, setRow_heap w g cur _ e _ hg, hroom, hcm, ?_, ?_⟩⟩, ⟨rfl, rfl, rfl, by simp, fun k _ hk => setRow_other w g k _ (fun e => hk (by simp [Value.ownBlock, e]))⟩, .inl rfl⟩
    · simp only [List.size_toArray, List.length_append, List.length_take, List.length_drop, Array.length_toList]
      omega
    rw [htake, ← hlen]
    exact List.take_left
  have holds : ∀ j u, xs[j]? = some u → w.cell? ((⟨g, 0, none⟩ : Addr).add j) = some u := hown.cells (g := g) rfl
  have hr := run_append_grow_src (P := P) w t tx ty e i z ht hi hz (some ⟨g, 0, none⟩) n cap xs (run_firstCells_some w.drew i.size n ⟨g, 0, none⟩ n cap xs (by rw [hsize]; exact hown.1) (by simpa using holds)) x m news (by rw [hsize]; exact hs) (by omega) (by omega) (growslice_fits (by omega) hbytes)
  have hgr := grown cap (by omega) (Value.ownBlock (.slice (some ⟨g, 0, none⟩) n cap))
  exact ⟨_, _, hr, hgr.1, hgr.2, .inr fun g' hg' => by simp [Value.ownBlock] at hg'; omega⟩
theorem wpList_append_anyN {ops : Array Oper} {rest : List Oper} {o : Oper} {a : Act} {Q : Exit → Act → World → Prop} (hgd : o.guard = none) (s x : Operand) (t tx : TypeId)
    (ho : o.op = .call { callee := .builtin .append, args := #[s, x], argTypes := #[t, tx] })
    (e : TypeId) (z : Value) (size bytes : Nat) (ht : P.underlying t = some (.slice e)) (hinfo : (P.info? e).map (fun i => (i.zero, i.size, i.bytes)) = some (some z, size, bytes)) (hzs : z.cells.size = size)
    (v : Value) (n : Nat) (xs : List Value) (hv : a.eval s = v) (hown : w.ownsRow 0 e size v n xs) (y : Value) (m : Nat) (news : List Value) (hx : a.eval x = y) (hs : Src P size tx y m news w)
    (h63 : n + m ≤ 9223372036854775807) (hbytes : (n + m) * bytes ≤ 140737488355328)
    (h : ∀ v' w', w'.ownsRow 0 e size v' (n + m) (xs ++ news) → w.grownBy w' v.ownBlock → (v'.ownBlock = v.ownBlock ∨ ∀ g, v'.ownBlock = some g → w.heap.size ≤ g) → wpList P ops Q rest (a.put o.dst v') w') :
    wpList P ops Q (o :: rest) a w := by
  refine wpList_plain hgd fun K hK' => ?_
  obtain ⟨i, hi, hzz⟩ := Option.map_eq_some_iff.1 hinfo
  simp only [Prod.mk.injEq] at hzz
  obtain ⟨hz, hsz, hb⟩ := hzz
  obtain ⟨v', w', hr, h2, h3, h4⟩ := run_append_anyN (P := P) w t tx o.type e i z bytes ht hi hz size hsz hb hzs v n xs hown y m news hs h63 hbytes
  unfold Oper.wp
  simp [execOp, ho, resolve, invoke, builtin, hv, hx, hr, Result.andThen]
  exact hK' _ _ (h v' w' h2 h3 h4)
theorem step_append_anyN {ops : Array Oper} {o : Oper} {a : Act} {K : Act → World → Prop} {Q : Exit → Act → World → Prop} {E : Prop} (hgd : o.guard = none) (s x : Operand) (t tx : TypeId)
    (ho : o.op = .call { callee := .builtin .append, args := #[s, x], argTypes := #[t, tx] })
    (e : TypeId) (z : Value) (size bytes : Nat) (ht : P.underlying t = some (.slice e)) (hinfo : (P.info? e).map (fun i => (i.zero, i.size, i.bytes)) = some (some z, size, bytes)) (hzs : z.cells.size = size)
    (v : Value) (n : Nat) (xs : List Value) (hv : a.eval s = v) (hown : w.ownsRow 0 e size v n xs) (y : Value) (m : Nat) (news : List Value) (hx : a.eval x = y) (hs : Src P size tx y m news w)
    (h63 : n + m ≤ 9223372036854775807) (hbytes : (n + m) * bytes ≤ 140737488355328)
    (h : ∀ v' w', w'.ownsRow 0 e size v' (n + m) (xs ++ news) → w.grownBy w' v.ownBlock → (v'.ownBlock = v.ownBlock ∨ ∀ g, v'.ownBlock = some g → w.heap.size ≤ g) → K (a.put o.dst v') w') :
    if Region.wanted o (yielded ops a.tmps) = true then Oper.wp P o a w K Q else E := by
  have hw : Region.wanted o (yielded ops a.tmps) = true := by simp [Region.wanted, hgd]
  rw [if_pos hw]
  obtain ⟨i, hi, hzz⟩ := Option.map_eq_some_iff.1 hinfo
  simp only [Prod.mk.injEq] at hzz
  obtain ⟨hz, hsz, hb⟩ := hzz
  obtain ⟨v', w', hr, h2, h3, h4⟩ := run_append_anyN (P := P) w t tx o.type e i z bytes ht hi hz size hsz hb hzs v n xs hown y m news hs h63 hbytes
  unfold Oper.wp
  simp [execOp, ho, resolve, invoke, builtin, hv, hx, hr, Result.andThen]
  exact h v' w' h2 h3 h4
end
end Go.Proofs.YtkodgneneiledaaGreatDoor.Kit
