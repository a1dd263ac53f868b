import Derived.Test.YtkodgneneiledaaGreatDoorUL
import Derived.Test.YtkodgneneiledaaGreatDoorLK
import Derived.Test.YtkodgneneiledaaGreatDoorTU
namespace Go.Proofs.YtkodgneneiledaaGreatDoor.Kit
open Go.RowKit Go.Shelf Go.Deep
set_option linter.unusedVariables false

/-! ### the parser with the places of the names -/
/-- a block of whole numbers -/
def IntsB (p : Nat) (W : World) (z : Nat) : Prop := p < z ∧ ∃ cs b, W.heap[z]? = some (.cells cs 3 b)
theorem IntsB.of {p : Nat} {W : World} {z t : Nat} {cs : Array Value} {b : Nat × Nat} (h : W.heap[z]? = some (.cells cs t b)) (ht : t ≠ 3) : ¬ IntsB p W z := fun ⟨_, cs', b', e⟩ => by
  rw [h] at e
  cases e
  exact ht rfl
theorem IntsB.same {p : Nat} {W W' : World} {z : Nat} (e : W'.heap[z]? = W.heap[z]?) (h : ¬ IntsB p W z) : ¬ IntsB p W' z := fun ⟨l, cs, b, q⟩ => h ⟨l, cs, b, e ▸ q⟩
/-- only the reader and whole numbers have changed -/
abbrev KpN (W W' : World) (p : Nat) : Prop := Keeps W W' (fun z => z = p ∨ IntsB p W z)
theorem KpN.blk {W W' : World} {p z : Nat} (h : KpN W W' p) (hz : z < W.heap.size) (hp : z ≠ p) (hi : ¬ IntsB p W z) : W'.heap[z]? = W.heap[z]? := h.block z hz fun e => e.elim hp hi
theorem KpN.tr {A B C : World} {p : Nat} (h : KpN A B p) (k : KpN B C p) : KpN A C p :=
  ⟨k.os.trans h.os, k.tape.trans h.tape, k.output.trans h.output, Nat.le_trans h.size k.size, fun j hj hn => by
    have hp : j ≠ p := fun e => hn (.inl e)
    have hi : ¬ IntsB p A j := fun e => hn (.inr e)
    have e1 := h.blk hj hp hi
    exact (k.blk (Nat.lt_of_lt_of_le hj h.size) hp (IntsB.same e1 hi)).trans e1⟩
theorem KpR.n {W W' : World} {p : Nat} (h : KpR W W' p) : KpN W W' p := Keeps.mono h fun _ _ e => .inl e
theorem Gr.n {W W' : World} (p : Nat) (h : Gr W W') : KpN W W' p := Keeps.mono h fun _ _ e => e.elim
/-- the reader in memory, its names too -/
structure NAt (W : World) (p : Nat) (s : ByteArray) (a : Nat) (g : List Nat) (vo : Option Addr) (vc : Nat) : Prop where
  tat : TAt W p s a (.slice vo g.length vc)
  own : W.ownsRow 0 3 1 (.slice vo g.length vc) g.length (ints g)
  few : g.length ≤ a
  new : ∀ q, (Value.slice vo g.length vc).ownBlock = some q → p < q
  tab : Tab W
  pz : p ≠ 0
def NA (W : World) (p : Nat) (s : ByteArray) (a : Nat) (g : List Nat) : Prop := ∃ vo vc, NAt W p s a g vo vc
theorem NA.lt {W : World} {p : Nat} {s : ByteArray} {a : Nat} {g : List Nat} (h : NA W p s a g) : p < W.heap.size := by obtain ⟨vo, vc, h⟩ := h; exact h.tat.lt
theorem NA.pos {W : World} {p : Nat} {s : ByteArray} {a : Nat} {g : List Nat} (h : NA W p s a g) : a ≤ s.size := by obtain ⟨vo, vc, h⟩ := h; exact h.tat.pos
theorem NA.len {W : World} {p : Nat} {s : ByteArray} {a : Nat} {g : List Nat} (h : NA W p s a g) : s.size ≤ 65536 := by obtain ⟨vo, vc, h⟩ := h; exact h.tat.len
theorem NA.box {W : World} {p : Nat} {s : ByteArray} {a : Nat} {g : List Nat} (h : NA W p s a g) : ∃ cs, W.heap[p]? = some (.cells cs 87 (0, 0)) := by obtain ⟨vo, vc, h⟩ := h; exact ⟨_, h.tat.box⟩
theorem own_blk {W : World} {t s n : Nat} {v : Value} {xs : List Value} (h : W.ownsRow 0 t s v n xs) {g : Nat} (e : v.ownBlock = some g) : ∃ cs, W.heap[g]? = some (.cells cs t (0, 0)) := by
  rcases h.2 with ⟨rfl, _⟩ | ⟨g', cap, cur, rfl, _, hb, _⟩
  · simp [Value.ownBlock] at e
  · have e' : g' = g := by simpa [Value.ownBlock] using e
    exact ⟨cur, e' ▸ hb⟩
theorem own_apart {W : World} {t s n q u : Nat} {v : Value} {xs : List Value} {cs : Array Value} {b : Nat × Nat} (h : W.ownsRow 0 t s v n xs) (hq : W.heap[q]? = some (.cells cs u b)) (ht : u ≠ t) : v.ownBlock ≠ some q := fun e => by
  obtain ⟨cs', hb⟩ := own_blk h e
  rw [hq] at hb
  cases hb
  exact ht rfl
/-- where nothing but new blocks and those of a list of another kind has changed -/
theorem NA.kept {W U : World} {p : Nat} {s : ByteArray} {a : Nat} {g : List Nat} {S : Nat → Prop} (h : NA W p s a g) (k : Keeps W U S) (hS : ∀ z, S z → z ≠ p ∧ z ≠ 0 ∧ ¬ IntsB p W z) : NA U p s a g := by
  obtain ⟨vo, vc, h⟩ := h
  refine ⟨vo, vc, ⟨(k.block p h.tat.lt fun e => (hS p e).1 rfl).trans h.tat.box, h.tat.len, h.tat.pos⟩, row_kp h.own fun q e => k.block q (own_lt h.own q e) fun e' => ?_, h.few, h.new, h.tab.kp (k.block 0 h.tab.1 fun e => (hS 0 e).2.1 rfl), h.pz⟩
  obtain ⟨cs, hb⟩ := own_blk h.own e
  exact (hS q e').2.2 ⟨h.new q e, cs, _, hb⟩
theorem NA.gr {W U : World} {p : Nat} {s : ByteArray} {a : Nat} {g : List Nat} (h : NA W p s a g) (k : Gr W U) : NA U p s a g := h.kept k fun _ e => e.elim
/-- what a function of the parser does -/
def PnQ {α : Type} (W : World) (p : Nat) (s : ByteArray) (r : Except Nat (α × Ps)) (V : World → α → Value → Prop) (e : Ending) (w' : World) : Prop :=
  KpN W w' p ∧
  match r with
  | .ok (x, a', g') => ∃ v, e = .returned v ∧ V w' x v ∧ NA w' p s a' g'
  | .error o => e = .panicked [{ v := stuckV o, recovered := false }]
def PnC {α : Type} (p : Nat) (s : ByteArray) (d : Nat) (F : Nat) (args : Array Value) (r : Pr α) (V : World → World → α → Value → Prop) : Prop :=
  ∀ W a g, NA W p s a g → s.size - a < d → Calls Tryz.prog F args W (PnQ W p s (r (a, g)) (V W))
theorem PnQ.ok {α : Type} {W w' : World} {p : Nat} {s : ByteArray} {r : Except Nat (α × Ps)} {V : World → α → Value → Prop} {x : α} {a : Nat} {g : List Nat} {v : Value} (hk : KpN W w' p) (hr : r = .ok (x, (a, g))) (hv : V w' x v) (hR : NA w' p s a g) : PnQ W p s r V (.returned v) w' := ⟨hk, by rw [hr]; exact ⟨v, rfl, hv, hR⟩⟩
theorem PnQ.err {α : Type} {W w' : World} {p : Nat} {s : ByteArray} {r : Except Nat (α × Ps)} {V : World → α → Value → Prop} {o : Nat} (hk : KpN W w' p) (hr : r = .error o) : PnQ W p s r V (.panicked [{ v := stuckV o, recovered := false }]) w' := ⟨hk, by rw [hr]⟩
/-- a function that keeps no name -/
theorem PrQ.n {α : Type} {W : World} {p : Nat} {s : ByteArray} {a : Nat} {g : List Nat} {vo : Option Addr} {vc : Nat} {r : Pr α} {V : α → Value → Prop} (hN : NAt W p s a g vo vc) (hf : Fw r) {e : Ending} {w' : World} (h : PrQ W p s (.slice vo g.length vc) g (r (a, g)) V e w') : PnQ W p s (r (a, g)) (fun _ => V) e w' := by
  obtain ⟨hk, h⟩ := h
  refine ⟨hk.n, ?_⟩
  cases hr : r (a, g) with
  | error o => rw [hr] at h; exact h
  | ok q =>
    obtain ⟨x, a', g'⟩ := q
    rw [hr] at h
    obtain ⟨rfl, v, e1, hv, ht⟩ := h
    have hf' := hf _ _ _ hr
    exact ⟨v, e1, hv, vo, vc, ht, row_kp hN.own fun q e => hk.block q (own_lt hN.own q e) fun e' => own_apart hN.own hN.tat.box (by decide) (e' ▸ e), Nat.le_trans hN.few hf'.1, hN.new, tab_kp hN.tab hk hN.pz, hN.pz⟩
theorem PrC.n {α : Type} {p : Nat} {s : ByteArray} {F : Nat} {args : Array Value} {r : Pr α} {V : α → Value → Prop} (h : PrC p s F args r V) (hf : Fw r) (d : Nat) : PnC p s d F args r (fun _ _ => V) := fun W a g hN _ => by
  obtain ⟨vo, vc, hN⟩ := hN
  exact Calls.mono (h _ W a g hN.tat) fun e w' q => PrQ.n hN hf q
theorem PrT.n {α : Type} {p : Nat} {s : ByteArray} {F : Nat} {args : Array Value} {r : Pr α} {V : α → Value → Prop} (h : PrT p s F args r V) (hf : Fw r) (d : Nat) : PnC p s d F args r (fun _ _ => V) := fun W a g hN _ => by
  obtain ⟨vo, vc, hN⟩ := hN
  exact Calls.mono (h _ W a g hN.tat hN.tab) fun e w' q => PrQ.n hN hf q
/-- peek 27 in that form -/
theorem peek_n (p : Nat) (s : ByteArray) (d : Nat) : PnC p s d 50 #[.pointer (some ⟨p, 0, none⟩)] (peekP s.data.toList) (fun _ _ c v => v = .int .u8 (c.toNat : Int)) := fun W a g hN _ => by
  obtain ⟨vo, vc, hN⟩ := hN
  refine Calls.mono (peek_any p s _ W a hN.tat) ?_
  rintro e w' ⟨rfl, hk, ht⟩
  exact PrQ.n (r := peekP s.data.toList) (V := uQ) hN (fw_peek _) (PrQ.ok hk rfl rfl ht)
end Go.Proofs.YtkodgneneiledaaGreatDoor.Kit
