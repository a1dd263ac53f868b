import Derived.Test.YtemleibpmaclmaaKit
import Derived.Maps.AppendAt
import Derived.Deep.RegionHeld3
import Derived.Shelf.Abstract
import Derived.Shelf.RegionOpen
import Derived.Test.YtemleibpmaclmaaProg
namespace Go.Proofs.Ytemleibpmaclmaa.Kit
open Go.RowKit Go.Shelf Go.Deep
set_option linter.unusedVariables false

abbrev Gr (w w' : World) : Prop := Keeps w w' (fun _ => False)
theorem own_kp {W W' : World} {t : Nat} {v : Value} {n : Nat} {xs : List Value} (h : W.ownsRow 0 t 1 v n xs) (e : ∀ g, v.ownBlock = some g → W'.heap[g]? = W.heap[g]?) : W'.ownsRow 0 t 1 v n xs := by
  refine ⟨h.1, h.2.imp id ?_⟩
  rintro ⟨g, cap, cur, rfl, h0, hg, r⟩
  exact ⟨g, cap, cur, rfl, h0, (e g rfl).trans hg, r⟩
theorem own_lt {w : World} {t s : Nat} {v : Value} {n : Nat} {xs : List Value} (h : w.ownsRow 0 t s v n xs) (g : Nat) (e : v.ownBlock = some g) : g < w.heap.size := by
  rcases h.2 with ⟨rfl, _⟩ | ⟨g', cap, cur, rfl, _, hgg, _⟩
  · simp [Value.ownBlock] at e
  · simp [Value.ownBlock] at e
    subst e
    exact (Array.getElem?_eq_some_iff.1 hgg).1
/-- the field's own box -/
theorem beqF {a b : Int} (h : ¬ a = b) : (a == b) = false := by simpa using h
theorem gr_alloc (w : World) (o : Obj) : Gr w (w.alloc o) := (Keeps.refl w _).alloc o
theorem hidM {p : Prop} (h : p) : Hid p := h
theorem lt_of_heap {W : World} {B : Nat} {o : Obj} (h : W.heap[B]? = some o) : B < W.heap.size := (Array.getElem?_eq_some_iff.1 h).1
theorem frz {W : World} {B t : Nat} {c : Array Value} (h : W.heap[B]? = some (.cells c t)) (j : Nat) : W.frozen? ⟨B, j, none⟩ = false := by simp [World.frozen?, h]
theorem ce2 {W : World} {B t : Nat} {x y : Value} (h : W.heap[B]? = some (.cells #[x, y] t)) : W.cell? ⟨B, 0, none⟩ = some x ∧ W.cell? ⟨B, 1, none⟩ = some y := by simp [World.cell?, h]
theorem ce3 {W : World} {B t : Nat} {x y z : Value} (h : W.heap[B]? = some (.cells #[x, y, z] t)) : W.cell? ⟨B, 0, none⟩ = some x ∧ W.cell? ⟨B, 1, none⟩ = some y ∧ W.cell? ⟨B, 2, none⟩ = some z := by simp [World.cell?, h]
theorem ce1 {W : World} {B t : Nat} {x : Value} (h : W.heap[B]? = some (.cells #[x] t)) : W.cell? ⟨B, 0, none⟩ = some x := by simp [World.cell?, h]

/-! ### bytes in memory -/
def bv (l : List UInt8) : List Value := l.map fun b => .int .u8 (b.toNat : Int)
theorem bv_app (a b : List UInt8) : bv (a ++ b) = bv a ++ bv b := by simp [bv]
theorem own_form1 {W : World} {t n : Nat} {v : Value} {xs : List Value} (h : W.ownsRow 0 t 1 v n xs) : ∃ vo vc, v = .slice vo n vc := by
  rcases h.2 with ⟨rfl, h0⟩ | ⟨g, cap, cur, rfl, _⟩
  · exact ⟨none, 0, by rw [h0]⟩
  · exact ⟨_, _, rfl⟩
/-- bytes of the call's own -/
structure Byts (w W : World) (vo : Option Addr) (vc n : Nat) (bs : List UInt8) : Prop where
  own : W.ownsRow 0 5 1 (.slice vo n vc) n (bv bs)
  gr : Gr w W
  new : ∀ g, (Value.slice vo n vc).ownBlock = some g → w.heap.size ≤ g
theorem info5 : (Try.prog.info? 5).map (fun i => (i.zero, i.size, i.bytes)) = some (some (.int .u8 0), 1, 1) := by kernel_rfl
theorem Byts.len {w W : World} {vo : Option Addr} {vc n : Nat} {bs : List UInt8} (h : Byts w W vo vc n bs) : bs.length = n := by have := h.own.1; simpa [bv] using this
theorem Byts.gr' {w W W' : World} {vo : Option Addr} {vc n : Nat} {bs : List UInt8} (h : Byts w W vo vc n bs) (g : Gr W W') : Byts w W' vo vc n bs :=
  ⟨own_kp h.own fun b e => g.block b (own_lt h.own b e) id, h.gr.trans g (fun _ _ h => h), h.new⟩
theorem Byts.nil (w W : World) (g : Gr w W) : Byts w W none 0 0 [] := ⟨World.ownsRow_nil _ _ _ _, g, fun g e => by simp [Value.ownBlock] at e⟩
/-- a list of bytes has grown: nothing else has changed -/
structure Ap (w W w' : World) (vo : Option Addr) (vc n : Nat) (vo' : Option Addr) (vc' n' : Nat) (bs' : List UInt8) : Prop where
  b : Byts w w' vo' vc' n' bs'
  kp : Keeps W w' (fun g => (Value.slice vo n vc).ownBlock = some g)
  blk : (Value.slice vo' n' vc').ownBlock = (Value.slice vo n vc).ownBlock ∨ ∀ g, (Value.slice vo' n' vc').ownBlock = some g → W.heap.size ≤ g
theorem Ap.refl {w W : World} {vo : Option Addr} {vc n : Nat} {bs : List UInt8} (h : Byts w W vo vc n bs) : Ap w W W vo vc n vo vc n bs := ⟨h, Keeps.refl _ _, .inl rfl⟩
theorem Ap.gr {w W W' W'' : World} {vo : Option Addr} {vc n : Nat} {vo' : Option Addr} {vc' n' : Nat} {bs' : List UInt8} (h : Ap w W W' vo vc n vo' vc' n' bs') (g : Gr W' W'') : Ap w W W'' vo vc n vo' vc' n' bs' :=
  ⟨h.b.gr' g, h.kp.trans g (fun _ _ f => f.elim), h.blk⟩
theorem Ap.pre {w W0 W W' : World} {vo : Option Addr} {vc n : Nat} {vo' : Option Addr} {vc' n' : Nat} {bs' : List UInt8} (g : Gr W0 W) (h : Ap w W W' vo vc n vo' vc' n' bs') : Ap w W0 W' vo vc n vo' vc' n' bs' :=
  ⟨h.b, (g.mono fun _ _ f => f.elim).trans h.kp (fun _ _ e => e), h.blk.imp id fun hb x hx => Nat.le_trans g.size (hb x hx)⟩
theorem Ap.trans {w W W1 W2 : World} {vo vo1 vo2 : Option Addr} {vc n vc1 n1 vc2 n2 : Nat} {b1 b2 : List UInt8} (h : Ap w W W1 vo vc n vo1 vc1 n1 b1) (k : Ap w W1 W2 vo1 vc1 n1 vo2 vc2 n2 b2) : Ap w W W2 vo vc n vo2 vc2 n2 b2 := by
  refine ⟨k.b, h.kp.trans k.kp (fun j hj e => ?_), ?_⟩
  · rcases h.blk with hb | hb
    · rw [← hb]; exact e
    · have := hb j e; omega
  · rcases k.blk with kb | kb
    · rw [kb]; exact h.blk
    · exact .inr fun g hg => Nat.le_trans h.kp.size (kb g hg)
/-- a box that is no row's stays -/
theorem Ap.box {w W W' : World} {vo : Option Addr} {vc n : Nat} {vo' : Option Addr} {vc' n' : Nat} {bs' : List UInt8} (h : Ap w W W' vo vc n vo' vc' n' bs') {B : Nat} {o : Obj} (hB : W.heap[B]? = some o) (hne : ¬ (Value.slice vo n vc).ownBlock = some B) : W'.heap[B]? = some o ∧ ¬ (Value.slice vo' n' vc').ownBlock = some B := by
  have hlt : B < W.heap.size := (Array.getElem?_eq_some_iff.1 hB).1
  refine ⟨(h.kp.block B hlt hne).trans hB, fun e => ?_⟩
  rcases h.blk with hb | hb
  · rw [hb] at e; exact hne e
  · have := hb B e; omega
theorem Byts.app {w W W2 : World} {vo vo' : Option Addr} {vc vc' n m : Nat} {bs us : List UInt8} {vs : List Value} (h : Byts w W vo vc n bs) (hvs : vs = bv us)
    (ho : W2.ownsRow 0 5 1 (.slice vo' m vc') m (bv bs ++ vs)) (hg : W.grownBy W2 (Value.slice vo n vc).ownBlock)
    (hor : (Value.slice vo' m vc').ownBlock = (Value.slice vo n vc).ownBlock ∨ ∀ g, (Value.slice vo' m vc').ownBlock = some g → W.heap.size ≤ g) : Ap w W W2 vo vc n vo' vc' m (bs ++ us) := by
  refine ⟨⟨?_, h.gr.trans (Keeps.ofGrown hg) (fun j hj e => by have := h.new j e; omega), fun g hg' => ?_⟩, Keeps.ofGrown hg, hor⟩
  · rw [bv_app, ← hvs]; exact ho
  · rcases hor with h1 | h1
    · rw [h1] at hg'; exact h.new g hg'
    · have := h1 g hg'
      have := h.gr.size
      omega
theorem src_u8 (w : World) (cs : List Value) (n : Nat) (hn : n = cs.length) (h1 : ∀ v ∈ cs, ∃ z, v = .int .u8 z) : Src Try.prog 1 22 (.slice (some ⟨w.heap.size, 0, none⟩) n n) n cs (w.alloc (.cells cs.toArray 5)) := by
  subst hn
  refine Src.ofSlice (w := w.alloc (.cells cs.toArray 5)) Try.underlying22 ⟨w.heap.size, 0, none⟩ cs.length cs.length cs (by simp) (fun j x h => ?_) (fun x h => by obtain ⟨z, rfl⟩ := h1 x h; rfl)
  have hb := heap_alloc_new w (.cells cs.toArray 5)
  have e : (⟨w.heap.size, 0, none⟩ : Addr).add j = ⟨w.heap.size, j, none⟩ := by cases j <;> simp [Addr.add]
  rw [e]
  simp only [World.cell?, hb]
  simpa using h
/-- bytes somewhere in memory -/
def BytesAt (W : World) (ao : Option Addr) (bs : List UInt8) : Prop :=
  bs ≠ [] → ∃ b o, ao = some ⟨b, o, none⟩ ∧ ∀ i (h : i < bs.length), W.cell? ⟨b, o + i, none⟩ = some (.int .u8 (bs[i].toNat : Int))
theorem BytesAt.gr {W W' : World} {ao : Option Addr} {bs : List UInt8} (h : BytesAt W ao bs) (g : Gr W W') : BytesAt W' ao bs := fun hn => by
  obtain ⟨b, o, e, hc⟩ := h hn
  exact ⟨b, o, e, fun j hj => g.cell' (hc j hj) id⟩
theorem bytes_of_own {W : World} {vo : Option Addr} {n vc : Nat} {l : List UInt8} (h : W.ownsRow 0 5 1 (.slice vo n vc) n (bv l)) : BytesAt W vo l := fun hn => by
  have hl : l.length = n := by have := h.1; simpa [bv] using this
  rcases h.2 with ⟨e, h0⟩ | ⟨g, cap, cur, e, _⟩
  · exact absurd (List.eq_nil_of_length_eq_zero (by omega)) hn
  · cases e
    refine ⟨g, 0, rfl, fun j hj => ?_⟩
    rw [Nat.zero_add, h.cellAt j (by omega)]
    simp [bv, hj]
theorem bytes_of_block {W : World} {B : Nat} {l : List UInt8} (h : W.heap[B]? = some (.cells (bv l).toArray 5 (0, 0))) : BytesAt W (some ⟨B, 0, none⟩) l := fun hn => by
  refine ⟨B, 0, rfl, fun j hj => ?_⟩
  simp [World.cell?, h, bv, hj]
end Go.Proofs.Ytemleibpmaclmaa.Kit
