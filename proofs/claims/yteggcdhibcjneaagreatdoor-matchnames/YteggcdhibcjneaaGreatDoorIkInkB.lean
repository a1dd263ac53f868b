import Derived.Test.YteggcdhibcjneaaGreatDoorKit
import Derived.Maps.AppendAt
import Derived.Deep.RegionHeld3
import Derived.Shelf.Abstract
import Derived.Shelf.RegionOpen
import Derived.Test.YteggcdhibcjneaaGreatDoorProg
set_option maxRecDepth 100000
set_option maxHeartbeats 4000000
namespace Go.Proofs.YteggcdhibcjneaaGreatDoor.Ink
open Go.Proofs.YteggcdhibcjneaaGreatDoor.Kit
open Go.RowKit Go.Shelf Go.Deep
set_option linter.unusedVariables false
abbrev Gr (w w' : World) : Prop := Keeps w w' (fun _ => False)
theorem own_kp {W W' : World} {t : Nat} {v : Value} {n : Nat} {xs : List Value} (h : W.ownsRow 0 t 1 v n xs) (e : ∀ g, v.ownBlock = some g → W'.heap[g]? = W.heap[g]?) : W'.ownsRow 0 t 1 v n xs := by
  refine ⟨h.1, h.2.imp id ?_⟩
  rintro ⟨g, cap, cur, rfl, h0, hg, r⟩
  exact ⟨g, cap, cur, rfl, h0, (e g rfl).trans hg, r⟩
theorem own_lt {w : World} {t s : Nat} {v : Value} {n : Nat} {xs : List Value} (h : w.ownsRow 0 t s v n xs) (g : Nat) (e : v.ownBlock = some g) : g < w.heap.size := by
  rcases h.2 with ⟨rfl, _⟩ | ⟨g', cap, cur, rfl, _, hgg, _⟩
  · simp [Value.ownBlock] at e
  · simp [Value.ownBlock] at e
    subst e
    exact (Array.getElem?_eq_some_iff.1 hgg).1
/-- the field's own box -/
theorem beqF {a b : Int} (h : ¬ a = b) : (a == b) = false := by simpa using h
theorem gr_alloc (w : World) (o : Obj) : Gr w (w.alloc o) := (Keeps.refl w _).alloc o
theorem hidM {p : Prop} (h : p) : Hid p := h
theorem lt_of_heap {W : World} {B : Nat} {o : Obj} (h : W.heap[B]? = some o) : B < W.heap.size := (Array.getElem?_eq_some_iff.1 h).1
theorem frz {W : World} {B t : Nat} {c : Array Value} (h : W.heap[B]? = some (.cells c t)) (j : Nat) : W.frozen? ⟨B, j, none⟩ = false := by simp [World.frozen?, h]
theorem ce2 {W : World} {B t : Nat} {x y : Value} (h : W.heap[B]? = some (.cells #[x, y] t)) : W.cell? ⟨B, 0, none⟩ = some x ∧ W.cell? ⟨B, 1, none⟩ = some y := by simp [World.cell?, h]
theorem ce3 {W : World} {B t : Nat} {x y z : Value} (h : W.heap[B]? = some (.cells #[x, y, z] t)) : W.cell? ⟨B, 0, none⟩ = some x ∧ W.cell? ⟨B, 1, none⟩ = some y ∧ W.cell? ⟨B, 2, none⟩ = some z := by simp [World.cell?, h]
theorem ce1 {W : World} {B t : Nat} {x : Value} (h : W.heap[B]? = some (.cells #[x] t)) : W.cell? ⟨B, 0, none⟩ = some x := by simp [World.cell?, h]

/-! ### bytes in memory -/
def bv (l : List UInt8) : List Value := l.map fun b => .int .u8 (b.toNat : Int)
theorem bv_app (a b : List UInt8) : bv (a ++ b) = bv a ++ bv b := by simp [bv]
theorem own_form1 {W : World} {t n : Nat} {v : Value} {xs : List Value} (h : W.ownsRow 0 t 1 v n xs) : ∃ vo vc, v = .slice vo n vc := by
  rcases h.2 with ⟨rfl, h0⟩ | ⟨g, cap, cur, rfl, _⟩
  · exact ⟨none, 0, by rw [h0]⟩
  · exact ⟨_, _, rfl⟩
/-- bytes of the call's own -/
structure Byts (w W : World) (vo : Option Addr) (vc n : Nat) (bs : List UInt8) : Prop where
  own : W.ownsRow 0 5 1 (.slice vo n vc) n (bv bs)
  gr : Gr w W
  new : ∀ g, (Value.slice vo n vc).ownBlock = some g → w.heap.size ≤ g
theorem info5 : (Tryz.prog.info? 5).map (fun i => (i.zero, i.size, i.bytes)) = some (some (.int .u8 0), 1, 1) := by kernel_rfl
theorem Byts.len {w W : World} {vo : Option Addr} {vc n : Nat} {bs : List UInt8} (h : Byts w W vo vc n bs) : bs.length = n := by have := h.own.1; simpa [bv] using this
theorem Byts.gr' {w W W' : World} {vo : Option Addr} {vc n : Nat} {bs : List UInt8} (h : Byts w W vo vc n bs) (g : Gr W W') : Byts w W' vo vc n bs :=
  ⟨own_kp h.own fun b e => g.block b (own_lt h.own b e) id, h.gr.trans g (fun _ _ h => h), h.new⟩
theorem Byts.nil (w W : World) (g : Gr w W) : Byts w W none 0 0 [] := ⟨World.ownsRow_nil _ _ _ _, g, fun g e => by simp [Value.ownBlock] at e⟩
/-- a list of bytes has grown: nothing else has changed -/
structure Ap (w W w' : World) (vo : Option Addr) (vc n : Nat) (vo' : Option Addr) (vc' n' : Nat) (bs' : List UInt8) : Prop where
  b : Byts w w' vo' vc' n' bs'
  kp : Keeps W w' (fun g => (Value.slice vo n vc).ownBlock = some g)
  blk : (Value.slice vo' n' vc').ownBlock = (Value.slice vo n vc).ownBlock ∨ ∀ g, (Value.slice vo' n' vc').ownBlock = some g → W.heap.size ≤ g
theorem Ap.refl {w W : World} {vo : Option Addr} {vc n : Nat} {bs : List UInt8} (h : Byts w W vo vc n bs) : Ap w W W vo vc n vo vc n bs := ⟨h, Keeps.refl _ _, .inl rfl⟩
theorem Ap.gr {w W W' W'' : World} {vo : Option Addr} {vc n : Nat} {vo' : Option Addr} {vc' n' : Nat} {bs' : List UInt8} (h : Ap w W W' vo vc n vo' vc' n' bs') (g : Gr W' W'') : Ap w W W'' vo vc n vo' vc' n' bs' :=
  ⟨h.b.gr' g, h.kp.trans g (fun _ _ f => f.elim), h.blk⟩
theorem Ap.pre {w W0 W W' : World} {vo : Option Addr} {vc n : Nat} {vo' : Option Addr} {vc' n' : Nat} {bs' : List UInt8} (g : Gr W0 W) (h : Ap w W W' vo vc n vo' vc' n' bs') : Ap w W0 W' vo vc n vo' vc' n' bs' :=
  ⟨h.b, (g.mono fun _ _ f => f.elim).trans h.kp (fun _ _ e => e), h.blk.imp id fun hb x hx => Nat.le_trans g.size (hb x hx)⟩
theorem Ap.trans {w W W1 W2 : World} {vo vo1 vo2 : Option Addr} {vc n vc1 n1 vc2 n2 : Nat} {b1 b2 : List UInt8} (h : Ap w W W1 vo vc n vo1 vc1 n1 b1) (k : Ap w W1 W2 vo1 vc1 n1 vo2 vc2 n2 b2) : Ap w W W2 vo vc n vo2 vc2 n2 b2 := by
  refine ⟨k.b, h.kp.trans k.kp (fun j hj e => ?_), ?_⟩
  · rcases h.blk with hb | hb
    · rw [← hb]; exact e
    · have := hb j e; omega
  · rcases k.blk with kb | kb
    · rw [kb]; exact h.blk
    · exact .inr fun g hg => Nat.le_trans h.kp.size (kb g hg)
/-- a box that is no row's stays -/
theorem Ap.box {w W W' : World} {vo : Option Addr} {vc n : Nat} {vo' : Option Addr} {vc' n' : Nat} {bs' : List UInt8} (h : Ap w W W' vo vc n vo' vc' n' bs') {B : Nat} {o : Obj} (hB : W.heap[B]? = some o) (hne : ¬ (Value.slice vo n vc).ownBlock = some B) : W'.heap[B]? = some o ∧ ¬ (Value.slice vo' n' vc').ownBlock = some B := by
  have hlt : B < W.heap.size := (Array.getElem?_eq_some_iff.1 hB).1
  refine ⟨(h.kp.block B hlt hne).trans hB, fun e => ?_⟩
  rcases h.blk with hb | hb
  · rw [hb] at e; exact hne e
  · have := hb B e; omega
theorem Byts.app {w W W2 : World} {vo vo' : Option Addr} {vc vc' n m : Nat} {bs us : List UInt8} {vs : List Value} (h : Byts w W vo vc n bs) (hvs : vs = bv us)
    (ho : W2.ownsRow 0 5 1 (.slice vo' m vc') m (bv bs ++ vs)) (hg : W.grownBy W2 (Value.slice vo n vc).ownBlock)
    (hor : (Value.slice vo' m vc').ownBlock = (Value.slice vo n vc).ownBlock ∨ ∀ g, (Value.slice vo' m vc').ownBlock = some g → W.heap.size ≤ g) : Ap w W W2 vo vc n vo' vc' m (bs ++ us) := by
  refine ⟨⟨?_, h.gr.trans (Keeps.ofGrown hg) (fun j hj e => by have := h.new j e; omega), fun g hg' => ?_⟩, Keeps.ofGrown hg, hor⟩
  · rw [bv_app, ← hvs]; exact ho
  · rcases hor with h1 | h1
    · rw [h1] at hg'; exact h.new g hg'
    · have := h1 g hg'
      have := h.gr.size
      omega
theorem src_u8 (w : World) (cs : List Value) (n : Nat) (hn : n = cs.length) (h1 : ∀ v ∈ cs, ∃ z, v = .int .u8 z) : Src Tryz.prog 1 43 (.slice (some ⟨w.heap.size, 0, none⟩) n n) n cs (w.alloc (.cells cs.toArray 5)) := by
  subst hn
  refine Src.ofSlice (w := w.alloc (.cells cs.toArray 5)) Tryz.underlying43 ⟨w.heap.size, 0, none⟩ cs.length cs.length cs (by simp) (fun j x h => ?_) (fun x h => by obtain ⟨z, rfl⟩ := h1 x h; rfl)
  have hb := heap_alloc_new w (.cells cs.toArray 5)
  have e : (⟨w.heap.size, 0, none⟩ : Addr).add j = ⟨w.heap.size, j, none⟩ := by cases j <;> simp [Addr.add]
  rw [e]
  simp only [World.cell?, hb]
  simpa using h
/-- bytes somewhere in memory -/
def BytesAt (W : World) (ao : Option Addr) (bs : List UInt8) : Prop :=
  bs ≠ [] → ∃ b o, ao = some ⟨b, o, none⟩ ∧ ∀ i (h : i < bs.length), W.cell? ⟨b, o + i, none⟩ = some (.int .u8 (bs[i].toNat : Int))
theorem BytesAt.gr {W W' : World} {ao : Option Addr} {bs : List UInt8} (h : BytesAt W ao bs) (g : Gr W W') : BytesAt W' ao bs := fun hn => by
  obtain ⟨b, o, e, hc⟩ := h hn
  exact ⟨b, o, e, fun j hj => g.cell' (hc j hj) id⟩
theorem bytes_of_own {W : World} {vo : Option Addr} {n vc : Nat} {l : List UInt8} (h : W.ownsRow 0 5 1 (.slice vo n vc) n (bv l)) : BytesAt W vo l := fun hn => by
  have hl : l.length = n := by have := h.1; simpa [bv] using this
  rcases h.2 with ⟨e, h0⟩ | ⟨g, cap, cur, e, _⟩
  · exact absurd (List.eq_nil_of_length_eq_zero (by omega)) hn
  · cases e
    refine ⟨g, 0, rfl, fun j hj => ?_⟩
    rw [Nat.zero_add, h.cellAt j (by omega)]
    simp [bv, hj]
theorem bytes_of_block {W : World} {B : Nat} {l : List UInt8} (h : W.heap[B]? = some (.cells (bv l).toArray 5 (0, 0))) : BytesAt W (some ⟨B, 0, none⟩) l := fun hn => by
  refine ⟨B, 0, rfl, fun j hj => ?_⟩
  simp [World.cell?, h, bv, hj]
end Go.Proofs.YteggcdhibcjneaaGreatDoor.Ink
namespace Go.Proofs.YteggcdhibcjneaaGreatDoor.Ink
open Go.Proofs.YteggcdhibcjneaaGreatDoor.Kit
open Go.RowKit Go.Deep
theorem size5 : (Tryz.prog.info? 5).map (·.size) = some 1 := by kernel_rfl

/-- an ink in memory: its list, its bound -/
def InkAt (w : World) (ty p : Nat) (go : Option Nat) (most : Int) (bs : List Int) : Prop :=
  ∃ v, w.heap[p]? = some (.cells #[v, .int .i64 most] ty (0, 0)) ∧ w.ownsRow 0 5 1 v bs.length (bs.map (Value.int .u8)) ∧ v.ownBlock = go

theorem InkAt.kept {w w' : World} {ty p : Nat} {go : Option Nat} {most : Int} {bs : List Int} {S : Nat → Prop} (h : InkAt w ty p go most bs) (hk : Keeps w w' S) (hp : ¬ S p) (hg : ∀ g, go = some g → ¬ S g) : InkAt w' ty p go most bs := by
  obtain ⟨v, hv, hown, hb⟩ := h
  refine ⟨v, ?_, ?_, hb⟩
  · rw [hk.block p (Array.getElem?_eq_some_iff.1 hv).1 hp]; exact hv
  · refine ⟨hown.1, ?_⟩
    rcases hown.2 with hn | ⟨g, cap, cur, rfl, hb', hgg, rest⟩
    · exact .inl hn
    · refine .inr ⟨g, cap, cur, rfl, hb', ?_, rest⟩
      rw [hk.block g (Array.getElem?_eq_some_iff.1 hgg).1 (hg g (by rw [← hb]; rfl))]
      exact hgg

theorem InkAt.form {w : World} {ty p : Nat} {go : Option Nat} {most : Int} {bs : List Int} (h : InkAt w ty p go most bs) :
    ∃ ao cap, w.heap[p]? = some (.cells #[.slice ao bs.length cap, .int .i64 most] ty (0, 0)) ∧ w.ownsRow 0 5 1 (.slice ao bs.length cap) bs.length (bs.map (Value.int .u8)) ∧ (Value.slice ao bs.length cap).ownBlock = go ∧
      w.cell? ⟨p, 0, none⟩ = some (.slice ao bs.length cap) ∧ w.cell? ⟨p, 1, none⟩ = some (.int .i64 most) ∧ w.frozen? ⟨p, 0, none⟩ = false := by
  obtain ⟨v, hv, hown, hb⟩ := h
  obtain ⟨ao, cap, rfl⟩ : ∃ ao cap, v = .slice ao bs.length cap := by
    rcases hown.2 with ⟨rfl, h0⟩ | ⟨g, cap, cur, rfl, _⟩
    · exact ⟨none, 0, by rw [h0]⟩
    · exact ⟨_, _, rfl⟩
  refine ⟨ao, cap, hv, hown, hb, ?_, ?_, frozen_of_row w p 0 _ _ hv⟩
  · rw [cell_of_row w p 0 _ _ _ hv]; rfl
  · rw [cell_of_row w p 1 _ _ _ hv]; rfl

theorem InkAt.lt {w : World} {ty p : Nat} {go : Option Nat} {most : Int} {bs : List Int} (h : InkAt w ty p go most bs) : p < w.heap.size ∧ ∀ g, go = some g → g < w.heap.size := by
  obtain ⟨v, hv, hown, hb⟩ := h
  exact ⟨(Array.getElem?_eq_some_iff.1 hv).1, fun g hg => (hown.lt g (hb.trans hg)).2⟩

/-- a row of bytes is no ink -/
theorem own_ne {w : World} {ty p : Nat} {v : Value} {n : Nat} {xs : List Value} {cs : Array Value} (hty : ty ≠ 5) (hp : w.heap[p]? = some (.cells cs ty (0, 0))) (hown : w.ownsRow 0 5 1 v n xs) : v.ownBlock ≠ some p := by
  intro e
  rcases hown.2 with ⟨rfl, _⟩ | ⟨g, cap, cur, rfl, _, hgg, _⟩
  · simp [Value.ownBlock] at e
  · simp [Value.ownBlock] at e
    subst e
    rw [hp] at hgg
    simp at hgg
    exact hty hgg.2

theorem InkAt.stored {w w1 : World} {ty p : Nat} {most : Int} {bs bs' : List Int} {v v' : Value} (hty : ty ≠ 5) (hv : w.heap[p]? = some (.cells #[v, .int .i64 most] ty (0, 0))) (hown : w.ownsRow 0 5 1 v bs.length (bs.map (Value.int .u8)))
    (hown' : w1.ownsRow 0 5 1 v' bs'.length (bs'.map (Value.int .u8))) (hgrow : w.grownBy w1 v.ownBlock) :
    w1.cell? ⟨p, 0, none⟩ = some v ∧ w1.frozen? ⟨p, 0, none⟩ = false ∧ InkAt (w1.setCell ⟨p, 0, none⟩ v') ty p v'.ownBlock most bs' ∧ Keeps w (w1.setCell ⟨p, 0, none⟩ v') (fun k => k = p ∨ v.ownBlock = some k) := by
  have hne := own_ne hty hv hown
  have hp1 : w1.heap[p]? = some (.cells #[v, .int .i64 most] ty (0, 0)) := by
    rw [hgrow.block p (Array.getElem?_eq_some_iff.1 hv).1 (fun e => hne e.symm)]; exact hv
  have hne' := own_ne hty hp1 hown'
  refine ⟨by rw [cell_of_row w1 p 0 _ _ _ hp1]; rfl, frozen_of_row w1 p 0 _ _ hp1, ⟨v', ?_, ?_, rfl⟩, ?_⟩
  · rw [heap_setCell_same w1 p 0 _ ty v' hp1]; rfl
  · refine ⟨hown'.1, ?_⟩
    rcases hown'.2 with hn | ⟨g, cap, cur, rfl, hb', hgg, rest⟩
    · exact .inl hn
    · refine .inr ⟨g, cap, cur, rfl, hb', ?_, rest⟩
      rw [heap_setCell_other w1 ⟨p, 0, none⟩ g _ (fun e => hne' (by simp [Value.ownBlock, e]))]
      exact hgg
  · have k := (Keeps.ofGrown hgrow).mono (T := fun k => k = p ∨ v.ownBlock = some k) fun b _ h => Or.inr h
    exact k.setCell (p := ⟨p, 0, none⟩) (fun _ => Or.inl rfl) _

def bytesOf (s : ByteArray) : List Int := s.data.toList.map fun b => (b.toNat : Int)
theorem bytesOf_cells (s : ByteArray) : (bytesOf s).map (Value.int .u8) = byteCells s := by simp [bytesOf, byteCells]
theorem bytesOf_length (s : ByteArray) : (bytesOf s).length = s.size := by simp [bytesOf]

theorem takes_any (p : Nat) (ao : Option Addr) (n cap : Nat) (most k : Int) (w : World) (h0 : w.cell? ⟨p, 0, none⟩ = some (.slice ao n cap)) (h1 : w.cell? ⟨p, 1, none⟩ = some (.int .i64 most))
    (hm : 0 ≤ most) (hm' : most ≤ 16777216) (hn : n ≤ 16777216) :
    Calls Tryz.prog 305 #[.pointer (some ⟨p, 0, none⟩), .int .i64 k] w fun e w' => e = .returned (.bool (decide (k ≤ most - n))) ∧ ∃ q, w' = w.drewN q := by
  go_enter Tryz.func305, Tryz.ntmps305
  go_wp2
  go_quiet (fail)
  go_wp2
  go_ret
  exact ⟨rfl, _, rfl⟩

/-- what every call on an ink leaves -/
def InkDone (w w' : World) (ty p : Nat) (go : Option Nat) (most : Int) (bs' : List Int) : Prop :=
  ∃ go', InkAt w' ty p go' most bs' ∧ Keeps w w' (fun k => k = p ∨ go = some k) ∧ (go' = go ∨ ∀ g, go' = some g → w.heap.size ≤ g)

theorem own_form {w : World} {v : Value} {n : Nat} {xs : List Value} (h : w.ownsRow 0 5 1 v n xs) : ∃ ao cap, v = .slice ao n cap := by
  rcases h.2 with ⟨rfl, h0⟩ | ⟨g, cap, cur, rfl, _⟩
  · exact ⟨none, 0, by rw [h0]⟩
  · exact ⟨_, _, rfl⟩

/-- behind an append and its store -/
theorem InkDone.mk {w w1 : World} {ty p q : Nat} {go : Option Nat} {most : Int} {bs : List Int} (news : List Int) {v v' : Value} {n' : Nat} {xs' : List Value} (hty : ty ≠ 5) (hv : w.heap[p]? = some (.cells #[v, .int .i64 most] ty (0, 0))) (hgo : v.ownBlock = go)
    (hown : w.ownsRow 0 5 1 v bs.length (bs.map (Value.int .u8))) (hown' : w1.ownsRow 0 5 1 v' n' xs') (hn : n' = (bs ++ news).length) (hx : xs' = (bs ++ news).map (Value.int .u8)) (hgrow : (w.drewN q).grownBy w1 v.ownBlock)
    (hblk : v'.ownBlock = v.ownBlock ∨ ∀ g, v'.ownBlock = some g → w.heap.size ≤ g) :
    w1.cell? ⟨p, 0, none⟩ = some v ∧ w1.frozen? ⟨p, 0, none⟩ = false ∧ InkDone w (w1.setCell ⟨p, 0, none⟩ v') ty p go most (bs ++ news) := by
  subst hn hx hgo
  obtain ⟨c, f, i, k⟩ := InkAt.stored (w := w.drewN q) (bs := bs) (bs' := bs ++ news) hty hv hown hown' hgrow
  exact ⟨c, f, _, i, ⟨k.os, k.tape, k.output, k.size, k.block⟩, hblk⟩

theorem InkDone.same {w : World} {ty p : Nat} {go : Option Nat} {most : Int} {bs : List Int} (h : InkAt w ty p go most bs) (q : Nat) : InkDone w (w.drewN q) ty p go most bs :=
  ⟨go, h, (Keeps.refl _ _).drewN q, .inl rfl⟩

def wideB (n : Int) : Bool := n == 1 || n == 2 || n == 4 || n == 8
theorem wideB_iff (n : Int) : wideB n = true ↔ n = 1 ∨ n = 2 ∨ n = 4 ∨ n = 8 := by simp [wideB, or_assoc]
theorem ret_bool {a b : Bool} (h : a = b) : Ending.returned (.bool a) = .returned (.bool b) := by rw [h]

theorem isWidth_any (n : Int) (w : World) : Calls Tryz.prog 237 #[.int .i64 n] w fun e w' => e = .returned (.bool (wideB n)) ∧ w = w' := by
  by_cases h1 : n = 1
  · subst h1; go_enter Tryz.func237, Tryz.ntmps237; go_wp2; go_ret; exact ⟨rfl, rfl⟩
  by_cases h2 : n = 2
  · subst h2; go_enter Tryz.func237, Tryz.ntmps237; go_wp2; go_ret; exact ⟨rfl, rfl⟩
  by_cases h4 : n = 4
  · subst h4; go_enter Tryz.func237, Tryz.ntmps237; go_wp2; go_ret; exact ⟨rfl, rfl⟩
  by_cases h8 : n = 8
  · subst h8; go_enter Tryz.func237, Tryz.ntmps237; go_wp2; go_ret; exact ⟨rfl, rfl⟩
  have g1 : (n == 1) = false := by simpa using h1
  have g2 : (n == 2) = false := by simpa using h2
  have g4 : (n == 4) = false := by simpa using h4
  have g8 : (n == 8) = false := by simpa using h8
  have e : Hid (false = wideB n) := by show _ = _; simp [wideB, g1, g2, g4, g8]
  go_enter Tryz.func237, Tryz.ntmps237; go_wp2; go_ret; exact ⟨ret_bool e.out, rfl⟩

theorem InkDone.trans {a b c : World} {ty p : Nat} {go go1 : Option Nat} {most : Int} {bs2 : List Int} (hk : Keeps a b (fun k => k = p ∨ go = some k)) (hg : go1 = go ∨ ∀ g, go1 = some g → a.heap.size ≤ g)
    (h : InkDone b c ty p go1 most bs2) : InkDone a c ty p go most bs2 := by
  obtain ⟨go2, i2, k2, g2⟩ := h
  refine ⟨go2, i2, hk.trans k2 ?_, ?_⟩
  · intro j hj h
    rcases h with h | h
    · exact .inl h
    · rcases hg with e | e
      · exact .inr (e ▸ h)
      · have := e j h; omega
  · rcases g2 with e | e
    · subst e; exact hg
    · exact .inr fun g h => Nat.le_trans hk.size (e g h)

/-- the lowest k bytes of x, the lowest first -/
def leB (x : Int) (k : Nat) : List Int := (List.range k).map fun i => x / 256 ^ i % 256
theorem leB_succ (x : Int) (k : Nat) : leB x (k + 1) = leB x k ++ [x / 256 ^ k % 256] := by simp [leB, List.range_succ]
theorem leB_length (x : Int) (k : Nat) : (leB x k).length = k := by simp [leB]

theorem u8_wrap (y : Int) : IntKind.u8.wrap y = y % 256 := by simp [IntKind.wrap, IntKind.bits, IntKind.signed]
theorem shr8 (x : Int) (k : Nat) (hk : k < 8) : Op.shift BinOp.shr IntKind.u64 x IntKind.i64 (IntKind.i64.wrap (8 * (k : Int))) = pure (.int .u64 (x / 256 ^ k)) := by
  have e : IntKind.i64.wrap (8 * (k : Int)) = 8 * (k : Int) := by rw [IntKind.wrap_i64]; omega
  rw [e, shift_shr_any _ _ _ _ (by omega)]
  have e2 : (2 : Int) ^ min ((8 * (k : Int)).toNat) IntKind.u64.bits = 256 ^ k := by
    have : min ((8 * (k : Int)).toNat) IntKind.u64.bits = 8 * k := by
      have hb : IntKind.u64.bits = 64 := rfl
      rw [hb]; omega
    rw [this, Int.pow_mul]; rfl
  rw [e2]

/-- an ink whose list is written out, hidden from the walk -/
def InkForm (w : World) (ty p : Nat) (go : Option Nat) (most : Int) (bs : List Int) (ao : Option Addr) (cap : Nat) : Prop :=
  w.heap[p]? = some (.cells #[.slice ao bs.length cap, .int .i64 most] ty (0, 0)) ∧ w.ownsRow 0 5 1 (.slice ao bs.length cap) bs.length (bs.map (Value.int .u8)) ∧ (Value.slice ao bs.length cap).ownBlock = go

theorem InkAt.open {w : World} {ty p : Nat} {go : Option Nat} {most : Int} {bs : List Int} (h : InkAt w ty p go most bs) :
    ∃ ao cap, Hid (InkForm w ty p go most bs ao cap) ∧ w.cell? ⟨p, 0, none⟩ = some (.slice ao bs.length cap) ∧ w.cell? ⟨p, 1, none⟩ = some (.int .i64 most) ∧ w.frozen? ⟨p, 0, none⟩ = false := by
  obtain ⟨ao, cap, a, b, c, d, e, f⟩ := h.form
  exact ⟨ao, cap, ⟨a, b, c⟩, d, e, f⟩

/-- behind the block of what is appended, the append and its store -/
theorem InkForm.grown {w W w1 : World} {ty p : Nat} {go : Option Nat} {most : Int} {bs : List Int} {ao : Option Addr} {cap : Nat} (hf : InkForm w ty p go most bs ao cap) (hty : ty ≠ 5) (hW : Keeps w W (fun _ => False))
    (news : List Int) {v' : Value} {n' : Nat} {xs' : List Value} (hown' : w1.ownsRow 0 5 1 v' n' xs') (hn : n' = (bs ++ news).length) (hx : xs' = (bs ++ news).map (Value.int .u8))
    (hgrow : W.grownBy w1 (Value.slice ao bs.length cap).ownBlock) (hblk : v'.ownBlock = (Value.slice ao bs.length cap).ownBlock ∨ ∀ g, v'.ownBlock = some g → W.heap.size ≤ g) :
    w1.cell? ⟨p, 0, none⟩ = some (.slice ao bs.length cap) ∧ w1.frozen? ⟨p, 0, none⟩ = false ∧ InkDone w (w1.setCell ⟨p, 0, none⟩ v') ty p go most (bs ++ news) := by
  obtain ⟨hh, ho, hg⟩ := hf
  subst hn hx
  have hI : InkAt W ty p go most bs := InkAt.kept ⟨_, hh, ho, hg⟩ hW id (fun _ _ => id)
  have hh' : W.heap[p]? = some (.cells #[.slice ao bs.length cap, .int .i64 most] ty (0, 0)) := by
    rw [hW.block p (Array.getElem?_eq_some_iff.1 hh).1 id]; exact hh
  have ho' : W.ownsRow 0 5 1 (.slice ao bs.length cap) bs.length (bs.map (Value.int .u8)) := by
    obtain ⟨v, hv, hown, _⟩ := hI
    rw [hh'] at hv
    simp at hv
    rw [← hv] at hown
    exact hown
  obtain ⟨c, f, i, k⟩ := InkAt.stored (w := W) (bs := bs) (bs' := bs ++ news) hty hh' ho' hown' hgrow
  subst hg
  refine ⟨c, f, InkDone.trans (b := W) (go1 := (Value.slice ao bs.length cap).ownBlock) (hW.mono fun _ _ h => h.elim) (.inl rfl) ⟨_, i, k, hblk⟩⟩

theorem Keeps.none_alloc_drew (w : World) (o : Obj) : Keeps w (w.alloc o).drew (fun _ => False) := ((Keeps.refl w _).alloc o).drew
theorem own_alloc_drew {w : World} {v : Value} {n : Nat} {xs : List Value} (h : w.ownsRow 0 5 1 v n xs) (o : Obj) : (w.alloc o).drew.ownsRow 0 5 1 v n xs := h.alloc o
theorem src_one_drew (w : World) (u : Value) (hu : u.oneCell' = true) : Src Tryz.prog 1 43 (.slice (some ⟨w.heap.size, 0, none⟩) 1 1) 1 [u] (w.alloc (.cells #[u] 5)).drew := by
  refine Src.ofSlice _ Tryz.underlying43 _ _ _ _ (by simp) ?_ (by simpa using hu)
  intro j v hj
  match j, hj with
  | 0, hj => simp at hj; subst hj; simp [Addr.add]
theorem src_one (w : World) (u : Value) (hu : u.oneCell' = true) : Src Tryz.prog 1 43 (.slice (some ⟨w.heap.size, 0, none⟩) 1 1) 1 [u] (w.alloc (.cells #[u] 5)) := by
  refine Src.ofSlice _ Tryz.underlying43 _ _ _ _ (by simp) ?_ (by simpa using hu)
  intro j v hj
  match j, hj with
  | 0, hj => simp at hj; subst hj; simp [Addr.add]

theorem number_yes (p : Nat) (go : Option Nat) (most : Int) (bs : List Int) (x : Int) (width : Nat) (w : World) (hI : InkAt w 416 p go most bs) (hm : 0 ≤ most) (hm' : most ≤ 16777216) (hfit : (bs.length : Int) + width ≤ most)
    (hw8 : width ≤ 8) (hwide : wideB width = true) :
    Calls Tryz.prog 302 #[.pointer (some ⟨p, 0, none⟩), .int .u64 x, .int .i64 width] w fun e w' => e = .returned (.int .i64 0) ∧ InkDone w w' 416 p go most (bs ++ leB x width) := by
  obtain ⟨ao, cap, HF, h0, h1, hf⟩ := hI.open
  have hd : decide ((width : Int) ≤ most - (bs.length : Int)) = true := by simp; omega
  have HI : Hid (InkAt w 416 p go most bs) := hI
  clear hI
  go_enter Tryz.func302, Tryz.ntmps302
  go_wp2_with (first | (go_at_call 237; refine (isWidth_any _ _).mono ?_; rintro e w' ⟨rfl, rfl⟩) | (go_at_call 305; refine (takes_any p ao bs.length cap most _ _ h0 h1 hm hm' (by omega)).mono ?_; rintro e w' ⟨rfl, q, rfl⟩))
  go_loopw [16] (fun i wr => ∃ k : Nat, k ≤ width ∧ i = .int .i64 k ∧ Hid (InkDone w wr 416 p go most (bs ++ leB x k))) (fun i _ => width - (intOf i).toNat)
  case atStart => exact ⟨0, Nat.zero_le _, rfl, by have := InkDone.same HI.out q; show InkDone _ _ _ _ _ _ _; simpa [leB] using this⟩
  case round =>
    clear h0 h1 hf hd HF HI
    obtain ⟨k, hk, rfl, HD⟩ := hrel
    by_cases hlt : k < width
    · obtain ⟨go1, i1, k1, g1⟩ := HD.out
      have HK : Hid (Keeps w wr (fun k => k = p ∨ go = some k) ∧ (go1 = go ∨ ∀ g, go1 = some g → w.heap.size ≤ g)) := ⟨k1, g1⟩
      obtain ⟨L, hL⟩ : ∃ L, L = bs ++ leB x k := ⟨_, rfl⟩
      rw [← hL] at i1
      have hNb : (L.length : Int) + (width - k) ≤ most := by rw [hL]; simp [leB_length]; omega
      have HL : Hid (L = bs ++ leB x k) := hL
      obtain ⟨ao, cap, HF, h0, h1, hf⟩ := i1.open
      obtain ⟨y, hy⟩ : ∃ y, y = x / 256 ^ k := ⟨_, rfl⟩
      have hsh : Op.shift BinOp.shr IntKind.u64 x IntKind.i64 (IntKind.i64.wrap (8 * (k : Int))) = pure (.int .u64 y) := by rw [hy]; exact shr8 x k (by omega)
      have HY : Hid (y = x / 256 ^ k) := hy
      have h0a : ∀ o, (wr.alloc o).cell? ⟨p, 0, none⟩ = some (.slice ao L.length cap) := fun o => (((Keeps.refl wr (fun _ => False)).alloc o).cell i1.lt.1 id).trans h0
      clear hy i1 k1 g1 HD hL
      go_wp2
      go_region_law (refine step_append_any _ rfl (.tmp 23) (.tmp 29) 43 43 rfl 5 (.int .u8 0) 1 Tryz.underlying43 info5 rfl _ _ _ rfl (own_alloc_drew HF.out.2.1 _) _ _ _ rfl (src_one_drew wr _ rfl) (by omega) (by omega) ?_; intro v' w1 hown' hgrow hblk; obtain ⟨ao', cap', rfl⟩ := own_form hown'; obtain ⟨c1, f1, D⟩ := InkForm.grown HF.out (by decide) (Keeps.none_alloc_drew wr _) [IntKind.u8.wrap y] hown' (by simp) (by simp) hgrow hblk; have DD : Hid (InkDone wr _ 416 p go1 most (L ++ [IntKind.u8.wrap y])) := D; clear D hown' hgrow hblk)
      all_goals
        go_wp2
        go_roundw
        case rel =>
          refine ⟨k + 1, by omega, by go_num, ?_⟩
          show InkDone _ _ _ _ _ _ _
          have e : bs ++ leB x (k + 1) = L ++ [IntKind.u8.wrap y] := by rw [leB_succ, HL.out, HY.out, u8_wrap]; simp
          rw [e]
          exact InkDone.trans HK.out.1 HK.out.2 DD.out
        case measure => simp [intOf]; omega
    · obtain rfl : k = width := by omega
      go_wp2
      go_ret
      exact ⟨rfl, HD.out⟩

theorem number_arg (p : Nat) (x width : Int) (w : World) (hwide : wideB width = false) :
    Calls Tryz.prog 302 #[.pointer (some ⟨p, 0, none⟩), .int .u64 x, .int .i64 width] w fun e w' => e = .returned (.int .i64 1) ∧ w = w' := by
  go_enter Tryz.func302, Tryz.ntmps302
  go_wp2_with (first | (go_at_call 237; refine (isWidth_any _ _).mono ?_; rintro e w' ⟨rfl, rfl⟩))
  go_ret
  exact ⟨rfl, rfl⟩

theorem number_no (p : Nat) (go : Option Nat) (most : Int) (bs : List Int) (x width : Int) (w : World) (hI : InkAt w 416 p go most bs) (hm : 0 ≤ most) (hm' : most ≤ 16777216) (hbs : bs.length ≤ 16777216) (hfit : most < (bs.length : Int) + width) (hwide : wideB width = true) :
    Calls Tryz.prog 302 #[.pointer (some ⟨p, 0, none⟩), .int .u64 x, .int .i64 width] w fun e w' => e = .returned (.int .i64 4) ∧ InkDone w w' 416 p go most bs := by
  obtain ⟨ao, cap, HF, h0, h1, hf⟩ := hI.open
  have HI : Hid (InkAt w 416 p go most bs) := hI
  have hd : decide (width ≤ most - (bs.length : Int)) = false := by simp; omega
  clear hI
  go_enter Tryz.func302, Tryz.ntmps302
  go_wp2_with (first | (go_at_call 237; refine (isWidth_any _ _).mono ?_; rintro e w' ⟨rfl, rfl⟩) | (go_at_call 305; refine (takes_any p ao bs.length cap most _ _ h0 h1 hm hm' hbs).mono ?_; rintro e w' ⟨rfl, q, rfl⟩))
  go_ret
  exact ⟨rfl, InkDone.same HI.out q⟩

theorem Keeps.none_alloc (w : World) (o : Obj) : Keeps w (w.alloc o) (fun _ => False) := (Keeps.refl w _).alloc o

end Go.Proofs.YteggcdhibcjneaaGreatDoor.Ink
