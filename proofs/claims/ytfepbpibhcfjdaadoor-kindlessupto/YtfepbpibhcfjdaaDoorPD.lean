import Derived.Test.YtfepbpibhcfjdaaDoorPB
import Derived.Test.YtfepbpibhcfjdaaDoorLQ
import Derived.Test.YtfepbpibhcfjdaaDoorKC
namespace Go.Proofs.YtfepbpibhcfjdaaDoor.Kit
open Go.RowKit Go.Shelf Go.Deep
set_option linter.unusedVariables false
theorem bxf {w w' : World} {X b p : Nat} {s0 s1 : Value} {f : FT} {ko : Option Addr} {kc : Nat} (h : BX w w' X #[s0, s1] 25) (c : CellsAt w' b p f ko kc) : Hid (BX w w' X #[s0, s1] 25 ∧ CellsAt w' b p f ko kc) ∧ w'.cell? ⟨X, 0, none⟩ = some s0 ∧ w'.cell? ⟨b, p, none⟩ = some (.string f.name) ∧ w'.cell? ⟨b, p + 1, none⟩ = some (.bool f.nul) ∧ w'.cell? ⟨b, p + 2, none⟩ = some (.int .i64 f.kind) ∧ w'.cell? ⟨b, p + 3, none⟩ = some (.int .i64 f.width) ∧ w'.cell? ⟨b, p + 4, none⟩ = some (.int .i64 f.id) ∧ w'.cell? ⟨b, p + 5, none⟩ = some (.int .i64 f.index) ∧ w'.cell? ⟨b, p + 6, none⟩ = some (.slice ko f.kids.length kc) :=
  ⟨⟨h, c⟩, (cell2 h.b).1, c.c0, c.c1, c.c2, c.c3, c.c4, c.c5, c.c6⟩
theorem bxf_kept {w w' W : World} {X b p : Nat} {s0 s1 : Value} {f : FT} {ko : Option Addr} {kc : Nat} (h : Hid (BX w w' X #[s0, s1] 25 ∧ CellsAt w' b p f ko kc) ∧ w'.cell? ⟨X, 0, none⟩ = some s0 ∧ w'.cell? ⟨b, p, none⟩ = some (.string f.name) ∧ w'.cell? ⟨b, p + 1, none⟩ = some (.bool f.nul) ∧ w'.cell? ⟨b, p + 2, none⟩ = some (.int .i64 f.kind) ∧ w'.cell? ⟨b, p + 3, none⟩ = some (.int .i64 f.width) ∧ w'.cell? ⟨b, p + 4, none⟩ = some (.int .i64 f.id) ∧ w'.cell? ⟨b, p + 5, none⟩ = some (.int .i64 f.index) ∧ w'.cell? ⟨b, p + 6, none⟩ = some (.slice ko f.kids.length kc)) (k : Hid (Gr w' W)) : Hid (BX w W X #[s0, s1] 25 ∧ CellsAt W b p f ko kc) ∧ W.cell? ⟨X, 0, none⟩ = some s0 ∧ W.cell? ⟨b, p, none⟩ = some (.string f.name) ∧ W.cell? ⟨b, p + 1, none⟩ = some (.bool f.nul) ∧ W.cell? ⟨b, p + 2, none⟩ = some (.int .i64 f.kind) ∧ W.cell? ⟨b, p + 3, none⟩ = some (.int .i64 f.width) ∧ W.cell? ⟨b, p + 4, none⟩ = some (.int .i64 f.id) ∧ W.cell? ⟨b, p + 5, none⟩ = some (.int .i64 f.index) ∧ W.cell? ⟨b, p + 6, none⟩ = some (.slice ko f.kids.length kc) :=
  bxf (h.1.out.1.gr k.out) (h.1.out.2.kept (k.out.block _ (block_lt_of_cell h.1.out.2.c0) id))
theorem bxf_g {w w' : World} {X b p : Nat} {s0 s1 : Value} {f : FT} {ko : Option Addr} {kc : Nat} (h : Hid (BX w w' X #[s0, s1] 25 ∧ CellsAt w' b p f ko kc) ∧ w'.cell? ⟨X, 0, none⟩ = some s0 ∧ w'.cell? ⟨b, p, none⟩ = some (.string f.name) ∧ w'.cell? ⟨b, p + 1, none⟩ = some (.bool f.nul) ∧ w'.cell? ⟨b, p + 2, none⟩ = some (.int .i64 f.kind) ∧ w'.cell? ⟨b, p + 3, none⟩ = some (.int .i64 f.width) ∧ w'.cell? ⟨b, p + 4, none⟩ = some (.int .i64 f.id) ∧ w'.cell? ⟨b, p + 5, none⟩ = some (.int .i64 f.index) ∧ w'.cell? ⟨b, p + 6, none⟩ = some (.slice ko f.kids.length kc)) : Gr w w' := h.1.out.1.g
theorem bxf_grow {w w' W : World} {X b p : Nat} {s0 s1 : Value} {f : FT} {ko : Option Addr} {kc : Nat} (N : Nat) {Z : Nat → Prop} (h : Hid (BX w w' X #[s0, s1] 25 ∧ CellsAt w' b p f ko kc) ∧ w'.cell? ⟨X, 0, none⟩ = some s0 ∧ w'.cell? ⟨b, p, none⟩ = some (.string f.name) ∧ w'.cell? ⟨b, p + 1, none⟩ = some (.bool f.nul) ∧ w'.cell? ⟨b, p + 2, none⟩ = some (.int .i64 f.kind) ∧ w'.cell? ⟨b, p + 3, none⟩ = some (.int .i64 f.width) ∧ w'.cell? ⟨b, p + 4, none⟩ = some (.int .i64 f.id) ∧ w'.cell? ⟨b, p + 5, none⟩ = some (.int .i64 f.index) ∧ w'.cell? ⟨b, p + 6, none⟩ = some (.slice ko f.kids.length kc)) (k : Keeps w' W Z) (hn : ∀ g, Z g → N ≤ g) (hX : X < N) (hb : b < N) (hw : w.heap.size ≤ N) : Hid (BX w W X #[s0, s1] 25 ∧ CellsAt W b p f ko kc) ∧ W.cell? ⟨X, 0, none⟩ = some s0 ∧ W.cell? ⟨b, p, none⟩ = some (.string f.name) ∧ W.cell? ⟨b, p + 1, none⟩ = some (.bool f.nul) ∧ W.cell? ⟨b, p + 2, none⟩ = some (.int .i64 f.kind) ∧ W.cell? ⟨b, p + 3, none⟩ = some (.int .i64 f.width) ∧ W.cell? ⟨b, p + 4, none⟩ = some (.int .i64 f.id) ∧ W.cell? ⟨b, p + 5, none⟩ = some (.int .i64 f.index) ∧ W.cell? ⟨b, p + 6, none⟩ = some (.slice ko f.kids.length kc) := by
  have hx := k.block X (lt_of_heap h.1.out.1.b) (fun e => by have := hn X e; omega)
  have hy := k.block b (block_lt_of_cell h.1.out.2.c0) (fun e => by have := hn b e; omega)
  exact bxf ⟨h.1.out.1.g.trans k (fun j hj e => by have := hn j e; omega), hx.trans h.1.out.1.b⟩ (h.1.out.2.kept hy)
theorem bxf_set3 {w w' : World} {X b p : Nat} {s0 s1 : Value} {f : FT} {ko : Option Addr} {kc : Nat} (N : Nat) {G : Nat} {u0 u1 u2 : Value} (h : Hid (BX w w' X #[s0, s1] 25 ∧ CellsAt w' b p f ko kc) ∧ w'.cell? ⟨X, 0, none⟩ = some s0 ∧ w'.cell? ⟨b, p, none⟩ = some (.string f.name) ∧ w'.cell? ⟨b, p + 1, none⟩ = some (.bool f.nul) ∧ w'.cell? ⟨b, p + 2, none⟩ = some (.int .i64 f.kind) ∧ w'.cell? ⟨b, p + 3, none⟩ = some (.int .i64 f.width) ∧ w'.cell? ⟨b, p + 4, none⟩ = some (.int .i64 f.id) ∧ w'.cell? ⟨b, p + 5, none⟩ = some (.int .i64 f.index) ∧ w'.cell? ⟨b, p + 6, none⟩ = some (.slice ko f.kids.length kc)) (hn : N ≤ G) (hX : X < N) (hb : b < N) (hw : w.heap.size ≤ N) : Hid (BX w (((w'.setCell ⟨G, 0, none⟩ u0).setCell ⟨G, 1, none⟩ u1).setCell ⟨G, 2, none⟩ u2) X #[s0, s1] 25 ∧ CellsAt (((w'.setCell ⟨G, 0, none⟩ u0).setCell ⟨G, 1, none⟩ u1).setCell ⟨G, 2, none⟩ u2) b p f ko kc) ∧ (((w'.setCell ⟨G, 0, none⟩ u0).setCell ⟨G, 1, none⟩ u1).setCell ⟨G, 2, none⟩ u2).cell? ⟨X, 0, none⟩ = some s0 ∧ (((w'.setCell ⟨G, 0, none⟩ u0).setCell ⟨G, 1, none⟩ u1).setCell ⟨G, 2, none⟩ u2).cell? ⟨b, p, none⟩ = some (.string f.name) ∧ (((w'.setCell ⟨G, 0, none⟩ u0).setCell ⟨G, 1, none⟩ u1).setCell ⟨G, 2, none⟩ u2).cell? ⟨b, p + 1, none⟩ = some (.bool f.nul) ∧ (((w'.setCell ⟨G, 0, none⟩ u0).setCell ⟨G, 1, none⟩ u1).setCell ⟨G, 2, none⟩ u2).cell? ⟨b, p + 2, none⟩ = some (.int .i64 f.kind) ∧ (((w'.setCell ⟨G, 0, none⟩ u0).setCell ⟨G, 1, none⟩ u1).setCell ⟨G, 2, none⟩ u2).cell? ⟨b, p + 3, none⟩ = some (.int .i64 f.width) ∧ (((w'.setCell ⟨G, 0, none⟩ u0).setCell ⟨G, 1, none⟩ u1).setCell ⟨G, 2, none⟩ u2).cell? ⟨b, p + 4, none⟩ = some (.int .i64 f.id) ∧ (((w'.setCell ⟨G, 0, none⟩ u0).setCell ⟨G, 1, none⟩ u1).setCell ⟨G, 2, none⟩ u2).cell? ⟨b, p + 5, none⟩ = some (.int .i64 f.index) ∧ (((w'.setCell ⟨G, 0, none⟩ u0).setCell ⟨G, 1, none⟩ u1).setCell ⟨G, 2, none⟩ u2).cell? ⟨b, p + 6, none⟩ = some (.slice ko f.kids.length kc) :=
  bxf_grow N h (keep1 (j := 2) (keep1 (j := 1) (keep1 (j := 0) (Keeps.refl w' (fun j => j = G)) u0) u1) u2) (fun g e => by subst e; exact hn) hX hb hw
theorem hp_alloc (w : World) (o : Obj) (i : Nat) : (w.alloc o).heap[i]? = if i = w.heap.size then some o else w.heap[i]? := by
  show (w.heap.push o)[i]? = _
  rw [Array.getElem?_push]
theorem hp_drew (w : World) (i : Nat) : w.drew.heap[i]? = w.heap[i]? := rfl
theorem gr_blk {A W : World} {G : Nat} {o : Obj} (g : Gr A W) (h : A.heap[G]? = some o) : W.heap[G]? = some o := (g.block G (lt_of_heap h) id).trans h
theorem hp_new (B : World) (c : Array Value) (G : Nat) (h : B.heap.size = G) : (B.alloc (.cells c 41)).heap[G]? = some (.cells c 41) := by subst h; exact World.alloc_heap_new B _
theorem hp_E (B : World) (G : Nat) (h : B.heap.size = G) : (B.alloc (.cells #[] 35)).heap[G]? = some (.cells #[] 35) := by subst h; exact World.alloc_heap_new B _
theorem hp_F (B : World) (G : Nat) (h : B.heap.size = G) {x0 x1 x2 x3 x4 x5 x6 : Value} : (B.alloc (.cells #[x0, x1, x2, x3, x4, x5, x6] 35)).heap[G]? = some (.cells #[x0, x1, x2, x3, x4, x5, x6] 35) := by subst h; exact World.alloc_heap_new B _
theorem own_E_ge (N G : Nat) (h : N ≤ G) : ∀ g, (Value.slice (some ⟨G, 0, none⟩) 0 0).ownBlock = some g → N ≤ g := fun g e => by
  simp [Value.ownBlock] at e
  omega
theorem tcells {W : World} {G : Nat} {x y z : Value} (h : W.heap[G]? = some (.cells #[x, y, z] 41)) : Hid (W.heap[G]? = some (.cells #[x, y, z] 41)) ∧ W.cell? ⟨G, 0, none⟩ = some x ∧ W.cell? ⟨G, 1, none⟩ = some y ∧ W.cell? ⟨G, 2, none⟩ = some z ∧ W.frozen? ⟨G, 0, none⟩ = false ∧ W.frozen? ⟨G, 1, none⟩ = false ∧ W.frozen? ⟨G, 2, none⟩ = false := ⟨h, (cell3 h).1, (cell3 h).2.1, (cell3 h).2.2, frz h 0, frz h 1, frz h 2⟩
theorem hp_d {W : World} {G : Nat} {o : Obj} (h : W.heap[G]? = some o) : W.drew.heap[G]? = some o := h
theorem O1 (V : World) (o : Obj) : (V.alloc o).heap[V.heap.size]? = some o := World.alloc_heap_new V o
theorem O2 (V : World) (o1 o : Obj) : ((V.alloc o1).alloc o).heap[V.heap.size + 1]? = some o := by
  have := World.alloc_heap_new (V.alloc o1) o
  rw [World.size_alloc] at this
  exact this
theorem O3 (V : World) (o1 o2 o : Obj) : (((V.alloc o1).alloc o2).alloc o).heap[V.heap.size + 2]? = some o := by
  have := World.alloc_heap_new ((V.alloc o1).alloc o2) o
  rw [World.size_alloc, World.size_alloc] at this
  exact this
theorem gr_allocD (V : World) (o : Obj) : Gr V.drew (V.alloc o).drew := gr_alloc V.drew o
theorem bxf_al {w w' : World} {X b p : Nat} {s0 s1 : Value} {f : FT} {ko : Option Addr} {kc : Nat} {o : Obj} (h : Hid (BX w w' X #[s0, s1] 25 ∧ CellsAt w' b p f ko kc) ∧ w'.cell? ⟨X, 0, none⟩ = some s0 ∧ w'.cell? ⟨b, p, none⟩ = some (.string f.name) ∧ w'.cell? ⟨b, p + 1, none⟩ = some (.bool f.nul) ∧ w'.cell? ⟨b, p + 2, none⟩ = some (.int .i64 f.kind) ∧ w'.cell? ⟨b, p + 3, none⟩ = some (.int .i64 f.width) ∧ w'.cell? ⟨b, p + 4, none⟩ = some (.int .i64 f.id) ∧ w'.cell? ⟨b, p + 5, none⟩ = some (.int .i64 f.index) ∧ w'.cell? ⟨b, p + 6, none⟩ = some (.slice ko f.kids.length kc)) : Hid (BX w (w'.alloc o) X #[s0, s1] 25 ∧ CellsAt (w'.alloc o) b p f ko kc) ∧ (w'.alloc o).cell? ⟨X, 0, none⟩ = some s0 ∧ (w'.alloc o).cell? ⟨b, p, none⟩ = some (.string f.name) ∧ (w'.alloc o).cell? ⟨b, p + 1, none⟩ = some (.bool f.nul) ∧ (w'.alloc o).cell? ⟨b, p + 2, none⟩ = some (.int .i64 f.kind) ∧ (w'.alloc o).cell? ⟨b, p + 3, none⟩ = some (.int .i64 f.width) ∧ (w'.alloc o).cell? ⟨b, p + 4, none⟩ = some (.int .i64 f.id) ∧ (w'.alloc o).cell? ⟨b, p + 5, none⟩ = some (.int .i64 f.index) ∧ (w'.alloc o).cell? ⟨b, p + 6, none⟩ = some (.slice ko f.kids.length kc) := bxf_kept h (hidM (gr_alloc _ _))
theorem bxf_alD {w w' : World} {X b p : Nat} {s0 s1 : Value} {f : FT} {ko : Option Addr} {kc : Nat} {o : Obj} (h : Hid (BX w w'.drew X #[s0, s1] 25 ∧ CellsAt w'.drew b p f ko kc) ∧ w'.drew.cell? ⟨X, 0, none⟩ = some s0 ∧ w'.drew.cell? ⟨b, p, none⟩ = some (.string f.name) ∧ w'.drew.cell? ⟨b, p + 1, none⟩ = some (.bool f.nul) ∧ w'.drew.cell? ⟨b, p + 2, none⟩ = some (.int .i64 f.kind) ∧ w'.drew.cell? ⟨b, p + 3, none⟩ = some (.int .i64 f.width) ∧ w'.drew.cell? ⟨b, p + 4, none⟩ = some (.int .i64 f.id) ∧ w'.drew.cell? ⟨b, p + 5, none⟩ = some (.int .i64 f.index) ∧ w'.drew.cell? ⟨b, p + 6, none⟩ = some (.slice ko f.kids.length kc)) : Hid (BX w (w'.alloc o).drew X #[s0, s1] 25 ∧ CellsAt (w'.alloc o).drew b p f ko kc) ∧ (w'.alloc o).drew.cell? ⟨X, 0, none⟩ = some s0 ∧ (w'.alloc o).drew.cell? ⟨b, p, none⟩ = some (.string f.name) ∧ (w'.alloc o).drew.cell? ⟨b, p + 1, none⟩ = some (.bool f.nul) ∧ (w'.alloc o).drew.cell? ⟨b, p + 2, none⟩ = some (.int .i64 f.kind) ∧ (w'.alloc o).drew.cell? ⟨b, p + 3, none⟩ = some (.int .i64 f.width) ∧ (w'.alloc o).drew.cell? ⟨b, p + 4, none⟩ = some (.int .i64 f.id) ∧ (w'.alloc o).drew.cell? ⟨b, p + 5, none⟩ = some (.int .i64 f.index) ∧ (w'.alloc o).drew.cell? ⟨b, p + 6, none⟩ = some (.slice ko f.kids.length kc) := bxf_kept h (hidM (gr_allocD _ _))
/-- an empty row -/
theorem own_e {W : World} {G : Nat} (h : W.heap[G]? = some (.cells #[] 35)) : W.ownsRow 0 35 7 (.slice (some ⟨G, 0, none⟩) 0 0) 0 [] := ⟨rfl, .inr ⟨_, 0, #[], rfl, Nat.zero_le _, h, Nat.le_refl _, by decide, rfl, rfl⟩⟩
theorem own_ge {N : Nat} {v u : Value} {W : World} (h : v.ownBlock = u.ownBlock ∨ ∀ g, v.ownBlock = some g → W.heap.size ≤ g) (hu : ∀ g, u.ownBlock = some g → N ≤ g) (hW : N ≤ W.heap.size) : ∀ g, v.ownBlock = some g → N ≤ g := fun g e => by
  rcases h with h | h
  · exact hu g (h ▸ e)
  · have := h g e; omega
/-- a block of another type is as it was -/
theorem own_T {A W : World} {v : Value} {n : Nat} {xs : List Value} (h : A.ownsRow 0 35 7 v n xs) (k : Keeps A W (fun j => v.ownBlock = some j)) : ∀ (G : Nat) (c : Array Value), A.heap[G]? = some (Obj.cells c 41) → W.heap[G]? = some (Obj.cells c 41) := fun G c hG => (k.block G (lt_of_heap hG) (fun e => by
  rcases h.2 with ⟨rfl, _⟩ | ⟨g, cap, cur, rfl, _, h3, _⟩
  · simp [Value.ownBlock] at e
  · simp [Value.ownBlock] at e
    subst e
    rw [hG] at h3
    simp at h3)).trans hG
theorem own_F {A W : World} {G0 : Nat} (h : A.heap[G0]? = some (.cells #[] 35)) (k : Keeps A W (fun j => (Value.slice (some ⟨G0, 0, none⟩) 0 0).ownBlock = some j)) : ∀ (G : Nat) (c : Array Value), c.size ≠ 0 → A.heap[G]? = some (Obj.cells c 35) → W.heap[G]? = some (Obj.cells c 35) := fun G c hc hG => (k.block G (lt_of_heap hG) (fun e => by
  simp [Value.ownBlock] at e
  subst e
  rw [h] at hG
  simp at hG
  subst hG
  simp at hc)).trans hG
theorem blk_alloc {W : World} {G : Nat} {o : Obj} (o' : Obj) (h : W.heap[G]? = some o) : (W.alloc o').heap[G]? = some o := (Below.heap_alloc _ _ _ (lt_of_heap h)).trans h
theorem own_alloc {W : World} {v : Value} {n : Nat} {xs : List Value} (h : W.ownsRow 0 35 7 v n xs) (o' : Obj) : (W.alloc o').ownsRow 0 35 7 v n xs := row_kp h fun g e => (gr_alloc W o').block g (own_lt h g e) id
theorem src_one {W : World} {G : Nat} {f : FT} {ko : Option Addr} {kc : Nat} (h : W.heap[G]? = some (.cells #[.string f.name, .bool f.nul, .int .i64 f.kind, .int .i64 f.width, .int .i64 f.id, .int .i64 f.index, .slice ko f.kids.length kc] 35)) : Src Tryd.prog 7 22 (.slice (some ⟨G, 0, none⟩) 1 1) 1 (row7 [f] (fun _ => (ko, kc))) W :=
  src_row W _ 1 1 [f] rfl _ fun _ => ⟨G, 0, rfl, fun i hi => by
    have e : i = 0 := by simp at hi; omega
    subst e
    exact ⟨by simp [World.cell?, h], by simp [World.cell?, h], by simp [World.cell?, h], by simp [World.cell?, h], by simp [World.cell?, h], by simp [World.cell?, h], by simp [World.cell?, h]⟩⟩
/-- Check of the fields with one of them twice -/
theorem twice_call {S : Nat → Prop} {w W : World} {d b o k : Nat} {l : List FT} {F : Nat → Option Addr × Nat} {zo : Option Addr} {zc : Nat} (hk : k < l.length) (hF : ∀ i (hi : i < l.length), CellsAt w b (o + i * 7) l[i] (F i).1 (F i).2 ∧ l[i].kids.length ≤ (F i).2 ∧ RowAt S w d (F i).1 l[i].kids) (hS : ∀ b, S b → b < w.heap.size) (hT : Tab w) (hD : d + 1 ≤ big)
    (hA : AllR (nodes (d + 1) l [] false)) (h256 : (nodes (d + 1) l [] false).length < 256) (h32 : l.length < 32) (g : Gr w W) (h : W.ownsRow 0 35 7 (.slice zo (l.length + 1) zc) (l.length + 1) (row7 l F ++ row7 [l[k]] (fun _ => ((F k).1, (F k).2)))) :
    Calls Tryd.prog 11 #[.agg #[.slice zo (l.length + 1) zc, .slice none 0 0]] W fun e w' => ∃ vo vc, e = .returned (.agg #[.int .i64 31, .slice vo 1 vc, .int .i64 0]) ∧ Gr W w' ∧ IntsAt w' vo [l.length] := by
  obtain ⟨hzc, hrow⟩ := more_row hk (by unfold big; omega) hF g hS h
  have sD : Sch (fun c => c < W.heap.size) W (d + 1) zo none zc 0 (l ++ [l[k]]) [] := ⟨hrow, by simpa using hzc, notes_nil W⟩
  obtain ⟨er, p, tt, t⟩ := sD.tells (hT.gr g) hD (fun _ h => h)
  obtain ⟨N, h1, h2, h3⟩ := twice_bad d l k hk hA h256
  have hE : (listsE (l ++ [l[k]]).length []).1 = 0 := by
    unfold listsE
    rw [if_neg (by simp; omega)]
    simp
  obtain ⟨rfl, rfl, rfl⟩ := t.is.one (.inr (.inr ⟨hE, N, _, h1, h2, by rw [h3]; decide, rfl, rfl, rfl⟩))
  have := t.t11 W (Keeps.refl _ _)
  rw [h3] at this
  simpa using this
theorem end_al {w v6 : World} {L : Nat} {vo : Option Addr} {vc : Nat} {P : World → Prop} (hi : IntsAt v6 vo [L]) (hg : Gr w (v6.alloc (.cells #[.int .i64 31, .slice vo 1 vc, .int .i64 0] 41)))
    (h : ∀ W7, Hid (Gr w W7) → W7.heap[v6.heap.size]? = some (.cells #[.int .i64 31, .slice vo 1 vc, .int .i64 0] 41) → Hid (IntsAt W7 vo [L]) → P W7) : P (v6.alloc (.cells #[.int .i64 31, .slice vo 1 vc, .int .i64 0] 41)) :=
  h _ hg (O1 v6 _) (hi.gr (gr_alloc _ _))
theorem end_set {w v6 : World} {G L : Nat} {vo : Option Addr} {vc : Nat} {P : World → Prop} (hT : v6.heap[G]? = some (.cells #[.int .i64 0, .slice none 0 0, .int .i64 0] 41)) (hi : IntsAt v6 vo [L]) (hL : 0 < L) (hg : Gr w (((v6.setCell ⟨G, 0, none⟩ (.int .i64 31)).setCell ⟨G, 1, none⟩ (.slice vo 1 vc)).setCell ⟨G, 2, none⟩ (.int .i64 0)))
    (h : ∀ W7, Hid (Gr w W7) → W7.heap[G]? = some (.cells #[.int .i64 31, .slice vo 1 vc, .int .i64 0] 41) → Hid (IntsAt W7 vo [L]) → P W7) : P (((v6.setCell ⟨G, 0, none⟩ (.int .i64 31)).setCell ⟨G, 1, none⟩ (.slice vo 1 vc)).setCell ⟨G, 2, none⟩ (.int .i64 0)) := by
  have e0 := setc (j := 0) hT (.int .i64 31)
  have e1 := setc (j := 1) e0 (.slice vo 1 vc)
  have e2 := setc (j := 2) e1 (.int .i64 0)
  have k := keep1 (j := 2) (keep1 (j := 1) (keep1 (j := 0) (Keeps.refl v6 (fun j => j = G)) (.int .i64 31)) (.slice vo 1 vc)) (.int .i64 0)
  refine h _ hg (e2.trans (by simp)) fun hn => ?_
  obtain ⟨c, o, e, hc⟩ := hi hn
  have h0 := hc 0 (by simp)
  have hne : c ≠ G := fun e => by
    subst e
    simp only [World.cell?, hT] at h0
    have this : ∀ j : Nat, ([Value.int IntKind.i64 0, Value.slice none 0 0, Value.int IntKind.i64 0] : List Value)[j]? ≠ some (Value.int IntKind.i64 (L : Int)) := fun j hj => by
      match j, hj with
      | 0, hj => simp at hj; omega
      | 1, hj => simp at hj
      | 2, hj => simp at hj; omega
      | j + 3, hj => simp at hj
    simp at h0
    exact this _ h0
  exact ⟨c, o, e, fun j hj => k.cell' (hc j hj) hne⟩
theorem ints_new (W : World) (L : Nat) : IntsAt (W.alloc (.cells #[.int .i64 (L : Int)] 3)) (some ⟨W.heap.size, 0, none⟩) [L] := fun _ => ⟨_, 0, rfl, fun j hj => by
  have e : j = 0 := by simp at hj; omega
  subst e
  exact cell1 (World.alloc_heap_new W (.cells #[.int .i64 (L : Int)] 3))⟩
theorem own_empty (W : World) (G : Nat) (hG : W.heap.size = G) : (W.alloc (.cells #[] 35)).ownsRow 0 35 7 (.slice (some ⟨G, 0, none⟩) 0 0) 0 [] := by
  subst hG
  exact ⟨rfl, .inr ⟨_, 0, #[], rfl, Nat.zero_le _, World.alloc_heap_new W _, Nat.le_refl _, by decide, rfl, rfl⟩⟩
theorem grown_gr (W : World) (G : Nat) (hG : W.heap.size = G) {w3 : World} {o : Obj} (h : (W.alloc o).grownBy w3 (Value.slice (some ⟨G, 0, none⟩) 0 0).ownBlock) : Gr W w3 := by
  subst hG
  refine (gr_alloc W o).trans (Keeps.ofGrown h) (fun j hj e => ?_)
  simp [Value.ownBlock] at e
  omega
theorem grown_new (W : World) (G : Nat) (hG : W.heap.size = G) {v : Value} {o : Obj} (h : v.ownBlock = (Value.slice (some ⟨G, 0, none⟩) 0 0).ownBlock ∨ ∀ g, v.ownBlock = some g → (W.alloc o).heap.size ≤ g) : ∀ g, v.ownBlock = some g → W.heap.size ≤ g := fun g e => by
  subst hG
  rcases h with h | h
  · rw [h] at e; simp [Value.ownBlock] at e; omega
  · have := h g e; simp at this; omega
end Go.Proofs.YtfepbpibhcfjdaaDoor.Kit
