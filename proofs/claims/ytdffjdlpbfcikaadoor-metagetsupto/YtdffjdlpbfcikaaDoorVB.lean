import Derived.Test.YtdffjdlpbfcikaaDoorFH
import Derived.Deep.AppendSrc
namespace Go.Proofs.YtdffjdlpbfcikaaDoor.Kit
open Go.RowKit Go.Shelf Go.Deep
set_option linter.unusedVariables false

/-! ### the bytes of a head -/
def numB (x : Nat) : Nat → List UInt8
  | 0 => []
  | k + 1 => numB x k ++ [UInt8.ofNat (x / 256 ^ k % 256)]
theorem numB_len (x : Nat) : ∀ k, (numB x k).length = k
  | 0 => rfl
  | k + 1 => by rw [numB, List.length_append, numB_len x k]; rfl
def flgB (b : Bool) : List UInt8 := if b then [1] else [0]
theorem flgB_len (b : Bool) : (flgB b).length = 1 := by cases b <;> rfl
def txtB (s : ByteArray) (w : Nat) : List UInt8 := numB s.size w ++ s.data.toList
def extB (f : FT) : List UInt8 := if f.kind = 14 ∨ f.kind = 16 then numB f.width.toNat 2 else if f.kind = 19 then numB f.id.toNat 2 ++ numB f.index.toNat 1 else if f.kind = 17 ∨ f.kind = 18 then numB f.kids.length 1 else []
def hdB (f : FT) : List UInt8 := txtB f.name 1 ++ flgB f.nul ++ numB f.kind.toNat 1 ++ extB f
def fldB : Nat → FT → List UInt8
  | 0, f => hdB f
  | d + 1, f => hdB f ++ f.kids.flatMap (fldB d)
def kidB : Nat → List FT → List UInt8
  | 0, _ => []
  | d + 1, l => l.flatMap (fldB d)
theorem fldB_eq (d : Nat) (f : FT) : fldB d f = hdB f ++ kidB d f.kids := by
  cases d with
  | zero => simp [fldB, kidB]
  | succ d => rfl
/-! ### bytes in memory -/
def bv (l : List UInt8) : List Value := l.map fun b => .int .u8 (b.toNat : Int)
theorem bv_app (a b : List UInt8) : bv (a ++ b) = bv a ++ bv b := by simp [bv]
theorem own_form1 {W : World} {t n : Nat} {v : Value} {xs : List Value} (h : W.ownsRow 0 t 1 v n xs) : ∃ vo vc, v = .slice vo n vc := by
  rcases h.2 with ⟨rfl, h0⟩ | ⟨g, cap, cur, rfl, _⟩
  · exact ⟨none, 0, by rw [h0]⟩
  · exact ⟨_, _, rfl⟩
/-- bytes of the call's own -/
structure Byts (w W : World) (vo : Option Addr) (vc n : Nat) (bs : List UInt8) : Prop where
  own : W.ownsRow 0 5 1 (.slice vo n vc) n (bv bs)
  gr : Gr w W
  new : ∀ g, (Value.slice vo n vc).ownBlock = some g → w.heap.size ≤ g
theorem info5 : (Tryd.prog.info? 5).map (fun i => (i.zero, i.size, i.bytes)) = some (some (.int .u8 0), 1, 1) := by kernel_rfl
theorem Byts.len {w W : World} {vo : Option Addr} {vc n : Nat} {bs : List UInt8} (h : Byts w W vo vc n bs) : bs.length = n := by have := h.own.1; simpa [bv] using this
theorem Byts.gr' {w W W' : World} {vo : Option Addr} {vc n : Nat} {bs : List UInt8} (h : Byts w W vo vc n bs) (g : Gr W W') : Byts w W' vo vc n bs :=
  ⟨own_kp h.own fun b e => g.block b (own_lt h.own b e) id, h.gr.trans g (fun _ _ h => h), h.new⟩
theorem Byts.nil (w W : World) (g : Gr w W) : Byts w W none 0 0 [] := ⟨World.ownsRow_nil _ _ _ _, g, fun g e => by simp [Value.ownBlock] at e⟩
/-- a list of bytes has grown: nothing else has changed -/
structure Ap (w W w' : World) (vo : Option Addr) (vc n : Nat) (vo' : Option Addr) (vc' n' : Nat) (bs' : List UInt8) : Prop where
  b : Byts w w' vo' vc' n' bs'
  kp : Keeps W w' (fun g => (Value.slice vo n vc).ownBlock = some g)
  blk : (Value.slice vo' n' vc').ownBlock = (Value.slice vo n vc).ownBlock ∨ ∀ g, (Value.slice vo' n' vc').ownBlock = some g → W.heap.size ≤ g
theorem Ap.refl {w W : World} {vo : Option Addr} {vc n : Nat} {bs : List UInt8} (h : Byts w W vo vc n bs) : Ap w W W vo vc n vo vc n bs := ⟨h, Keeps.refl _ _, .inl rfl⟩
theorem Ap.gr {w W W' W'' : World} {vo : Option Addr} {vc n : Nat} {vo' : Option Addr} {vc' n' : Nat} {bs' : List UInt8} (h : Ap w W W' vo vc n vo' vc' n' bs') (g : Gr W' W'') : Ap w W W'' vo vc n vo' vc' n' bs' :=
  ⟨h.b.gr' g, h.kp.trans g (fun _ _ f => f.elim), h.blk⟩
theorem Ap.pre {w W0 W W' : World} {vo : Option Addr} {vc n : Nat} {vo' : Option Addr} {vc' n' : Nat} {bs' : List UInt8} (g : Gr W0 W) (h : Ap w W W' vo vc n vo' vc' n' bs') : Ap w W0 W' vo vc n vo' vc' n' bs' :=
  ⟨h.b, (g.mono fun _ _ f => f.elim).trans h.kp (fun _ _ e => e), h.blk.imp id fun hb x hx => Nat.le_trans g.size (hb x hx)⟩
theorem Ap.trans {w W W1 W2 : World} {vo vo1 vo2 : Option Addr} {vc n vc1 n1 vc2 n2 : Nat} {b1 b2 : List UInt8} (h : Ap w W W1 vo vc n vo1 vc1 n1 b1) (k : Ap w W1 W2 vo1 vc1 n1 vo2 vc2 n2 b2) : Ap w W W2 vo vc n vo2 vc2 n2 b2 := by
  refine ⟨k.b, h.kp.trans k.kp (fun j hj e => ?_), ?_⟩
  · rcases h.blk with hb | hb
    · rw [← hb]; exact e
    · have := hb j e; omega
  · rcases k.blk with kb | kb
    · rw [kb]; exact h.blk
    · exact .inr fun g hg => Nat.le_trans h.kp.size (kb g hg)
/-- a box that is no row's stays -/
theorem Ap.box {w W W' : World} {vo : Option Addr} {vc n : Nat} {vo' : Option Addr} {vc' n' : Nat} {bs' : List UInt8} (h : Ap w W W' vo vc n vo' vc' n' bs') {B : Nat} {o : Obj} (hB : W.heap[B]? = some o) (hne : ¬ (Value.slice vo n vc).ownBlock = some B) : W'.heap[B]? = some o ∧ ¬ (Value.slice vo' n' vc').ownBlock = some B := by
  have hlt : B < W.heap.size := (Array.getElem?_eq_some_iff.1 hB).1
  refine ⟨(h.kp.block B hlt hne).trans hB, fun e => ?_⟩
  rcases h.blk with hb | hb
  · rw [hb] at e; exact hne e
  · have := hb B e; omega
theorem Byts.app {w W W2 : World} {vo vo' : Option Addr} {vc vc' n m : Nat} {bs us : List UInt8} {vs : List Value} (h : Byts w W vo vc n bs) (hvs : vs = bv us)
    (ho : W2.ownsRow 0 5 1 (.slice vo' m vc') m (bv bs ++ vs)) (hg : W.grownBy W2 (Value.slice vo n vc).ownBlock)
    (hor : (Value.slice vo' m vc').ownBlock = (Value.slice vo n vc).ownBlock ∨ ∀ g, (Value.slice vo' m vc').ownBlock = some g → W.heap.size ≤ g) : Ap w W W2 vo vc n vo' vc' m (bs ++ us) := by
  refine ⟨⟨?_, h.gr.trans (Keeps.ofGrown hg) (fun j hj e => by have := h.new j e; omega), fun g hg' => ?_⟩, Keeps.ofGrown hg, hor⟩
  · rw [bv_app, ← hvs]; exact ho
  · rcases hor with h1 | h1
    · rw [h1] at hg'; exact h.new g hg'
    · have := h1 g hg'
      have := h.gr.size
      omega
theorem src_u8 (w : World) (cs : List Value) (n : Nat) (hn : n = cs.length) (h1 : ∀ v ∈ cs, ∃ z, v = .int .u8 z) : Src Tryd.prog 1 22 (.slice (some ⟨w.heap.size, 0, none⟩) n n) n cs (w.alloc (.cells cs.toArray 5)) := by
  subst hn
  refine Src.ofSlice (w := w.alloc (.cells cs.toArray 5)) Tryd.underlying22 ⟨w.heap.size, 0, none⟩ cs.length cs.length cs (by simp) (fun j x h => ?_) (fun x h => by obtain ⟨z, rfl⟩ := h1 x h; rfl)
  have hb := World.alloc_heap_new w (.cells cs.toArray 5)
  have e : (⟨w.heap.size, 0, none⟩ : Addr).add j = ⟨w.heap.size, j, none⟩ := by cases j <;> simp [Addr.add]
  rw [e]
  simp only [World.cell?, hb]
  simpa using h
end Go.Proofs.YtdffjdlpbfcikaaDoor.Kit
namespace Go.Proofs.YtdffjdlpbfcikaaDoor.Kit
open Go.RowKit Go.Shelf Go.Deep
set_option linter.unusedVariables false
attribute [local go_sem] run_store_func

/-! ### the document's appends -/
theorem pow_div (x k : Nat) : x / 256 ^ k / 256 = x / 256 ^ (k + 1) := by rw [Nat.div_div_eq_div_mul, Nat.pow_succ]
end Go.Proofs.YtdffjdlpbfcikaaDoor.Kit
