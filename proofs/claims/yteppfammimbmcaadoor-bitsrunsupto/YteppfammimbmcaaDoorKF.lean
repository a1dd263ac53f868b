import Derived.Test.YteppfammimbmcaaDoorKE
namespace Go.Proofs.YteppfammimbmcaaDoor.Kit
open Go.RowKit Go.Deep
set_option linter.unusedVariables false

/-- a variable in memory -/
def Box (W : World) (b : Nat) (cs : Array Value) (t : Nat) : Prop := W.heap[b]? = some (.cells cs t (0, 0))
theorem Box.lt {W : World} {b t : Nat} {cs : Array Value} (h : Box W b cs t) : b < W.heap.size := (Array.getElem?_eq_some_iff.1 h).1
theorem Box.kept {W W' : World} {b t : Nat} {cs : Array Value} {S : Nat → Prop} (h : Box W b cs t) (k : Keeps W W' S) (hS : ¬ S b) : Box W' b cs t := (k.block b h.lt hS).trans h
theorem Box.made (w : World) (cs : Array Value) (t : Nat) : Box (w.alloc (.cells cs t)) w.heap.size cs t := heap_alloc_new w _
theorem Box.cell {W : World} {b t : Nat} {cs : Array Value} (h : Box W b cs t) (i : Nat) {v : Value} (hv : cs[i]? = some v) : W.cell? ⟨b, i, none⟩ = some v := by rw [cell_of_row _ _ i _ _ _ h]; exact hv
theorem Box.c3 {W : World} {b t : Nat} {x0 x1 x2 : Value} (h : Box W b #[x0, x1, x2] t) : W.cell? ⟨b, 0, none⟩ = some x0 ∧ W.cell? ⟨b, 1, none⟩ = some x1 ∧ W.cell? ⟨b, 2, none⟩ = some x2 :=
  ⟨h.cell 0 rfl, h.cell 1 rfl, h.cell 2 rfl⟩
theorem Box.c6 {W : World} {b t : Nat} {x0 x1 x2 x3 x4 x5 : Value} (h : Box W b #[x0, x1, x2, x3, x4, x5] t) : W.cell? ⟨b, 0, none⟩ = some x0 ∧ W.cell? ⟨b, 1, none⟩ = some x1 ∧ W.cell? ⟨b, 2, none⟩ = some x2 ∧ W.cell? ⟨b, 3, none⟩ = some x3 ∧ W.cell? ⟨b, 4, none⟩ = some x4 ∧ W.cell? ⟨b, 5, none⟩ = some x5 :=
  ⟨h.cell 0 rfl, h.cell 1 rfl, h.cell 2 rfl, h.cell 3 rfl, h.cell 4 rfl, h.cell 5 rfl⟩
theorem Box.c8 {W : World} {b t : Nat} {x0 x1 x2 x3 x4 x5 x6 x7 : Value} (h : Box W b #[x0, x1, x2, x3, x4, x5, x6, x7] t) : W.cell? ⟨b, 0, none⟩ = some x0 ∧ W.cell? ⟨b, 1, none⟩ = some x1 ∧ W.cell? ⟨b, 2, none⟩ = some x2 ∧ W.cell? ⟨b, 3, none⟩ = some x3 ∧ W.cell? ⟨b, 4, none⟩ = some x4 ∧ W.cell? ⟨b, 5, none⟩ = some x5 ∧ W.cell? ⟨b, 6, none⟩ = some x6 ∧ W.cell? ⟨b, 7, none⟩ = some x7 :=
  ⟨h.cell 0 rfl, h.cell 1 rfl, h.cell 2 rfl, h.cell 3 rfl, h.cell 4 rfl, h.cell 5 rfl, h.cell 6 rfl, h.cell 7 rfl⟩
theorem Box.a3 {W : World} {b t : Nat} {x0 x1 x2 : Value} (h : Box W b #[x0, x1, x2] t) : (∀ o, (W.alloc o).cell? ⟨b, 0, none⟩ = some x0) ∧ (∀ o, (W.alloc o).cell? ⟨b, 1, none⟩ = some x1) ∧ (∀ o, (W.alloc o).cell? ⟨b, 2, none⟩ = some x2) :=
  ⟨fun o => cellAlloc o (h.cell 0 rfl), fun o => cellAlloc o (h.cell 1 rfl), fun o => cellAlloc o (h.cell 2 rfl)⟩
theorem Box.a6 {W : World} {b t : Nat} {x0 x1 x2 x3 x4 x5 : Value} (h : Box W b #[x0, x1, x2, x3, x4, x5] t) : (∀ o, (W.alloc o).cell? ⟨b, 0, none⟩ = some x0) ∧ (∀ o, (W.alloc o).cell? ⟨b, 1, none⟩ = some x1) ∧ (∀ o, (W.alloc o).cell? ⟨b, 2, none⟩ = some x2) ∧ (∀ o, (W.alloc o).cell? ⟨b, 3, none⟩ = some x3) ∧ (∀ o, (W.alloc o).cell? ⟨b, 4, none⟩ = some x4) ∧ (∀ o, (W.alloc o).cell? ⟨b, 5, none⟩ = some x5) :=
  ⟨fun o => cellAlloc o (h.cell 0 rfl), fun o => cellAlloc o (h.cell 1 rfl), fun o => cellAlloc o (h.cell 2 rfl), fun o => cellAlloc o (h.cell 3 rfl), fun o => cellAlloc o (h.cell 4 rfl), fun o => cellAlloc o (h.cell 5 rfl)⟩
theorem Box.a8 {W : World} {b t : Nat} {x0 x1 x2 x3 x4 x5 x6 x7 : Value} (h : Box W b #[x0, x1, x2, x3, x4, x5, x6, x7] t) : (∀ o, (W.alloc o).cell? ⟨b, 0, none⟩ = some x0) ∧ (∀ o, (W.alloc o).cell? ⟨b, 1, none⟩ = some x1) ∧ (∀ o, (W.alloc o).cell? ⟨b, 2, none⟩ = some x2) ∧ (∀ o, (W.alloc o).cell? ⟨b, 3, none⟩ = some x3) ∧ (∀ o, (W.alloc o).cell? ⟨b, 4, none⟩ = some x4) ∧ (∀ o, (W.alloc o).cell? ⟨b, 5, none⟩ = some x5) ∧ (∀ o, (W.alloc o).cell? ⟨b, 6, none⟩ = some x6) ∧ (∀ o, (W.alloc o).cell? ⟨b, 7, none⟩ = some x7) :=
  ⟨fun o => cellAlloc o (h.cell 0 rfl), fun o => cellAlloc o (h.cell 1 rfl), fun o => cellAlloc o (h.cell 2 rfl), fun o => cellAlloc o (h.cell 3 rfl), fun o => cellAlloc o (h.cell 4 rfl), fun o => cellAlloc o (h.cell 5 rfl), fun o => cellAlloc o (h.cell 6 rfl), fun o => cellAlloc o (h.cell 7 rfl)⟩

/-- an answer in memory: its rows lie from lo on, below hi -/
structure RepIn (lo hi : Nat) (W : World) (r : Rep) (a1 a2 a3 : Option Addr) (c1 c2 c3 : Nat) : Prop where
  o1 : W.ownsRow 0 5 1 (.slice a1 r.bytes.length c1) r.bytes.length (cellsB r.bytes)
  o2 : W.ownsRow 0 4 1 (.slice a2 r.bools.length c2) r.bools.length (cellsO r.bools)
  o3 : W.ownsRow 0 3 1 (.slice a3 r.nums.length c3) r.nums.length (cellsI r.nums)
  i1 : ∀ g, (Value.slice a1 r.bytes.length c1).ownBlock = some g → lo ≤ g ∧ g < hi
  i2 : ∀ g, (Value.slice a2 r.bools.length c2).ownBlock = some g → lo ≤ g ∧ g < hi
  i3 : ∀ g, (Value.slice a3 r.nums.length c3).ownBlock = some g → lo ≤ g ∧ g < hi
theorem RepIn.kept {lo hi : Nat} {W W' : World} {r : Rep} {a1 a2 a3 : Option Addr} {c1 c2 c3 : Nat} {S : Nat → Prop} (h : RepIn lo hi W r a1 a2 a3 c1 c2 c3) (k : Keeps W W' S) (hS : ∀ g, lo ≤ g → g < hi → ¬ S g) : RepIn lo hi W' r a1 a2 a3 c1 c2 c3 :=
  ⟨own_kept h.o1 k fun g e => hS g (h.i1 g e).1 (h.i1 g e).2, own_kept h.o2 k fun g e => hS g (h.i2 g e).1 (h.i2 g e).2, own_kept h.o3 k fun g e => hS g (h.i3 g e).1 (h.i3 g e).2, h.i1, h.i2, h.i3⟩
theorem own_lt {w : World} {t : Nat} {v : Value} {n : Nat} {xs : List Value} (h : w.ownsRow 0 t 1 v n xs) (g : Nat) (e : v.ownBlock = some g) : g < w.heap.size := by
  rcases h.2 with ⟨rfl, _⟩ | ⟨g', cap, cur, rfl, _, hgg, _⟩
  · simp [Value.ownBlock] at e
  · simp [Value.ownBlock] at e
    subst e
    exact (Array.getElem?_eq_some_iff.1 hgg).1
theorem RepIn.of {lo : Nat} {W : World} {rv : Value} {r : Rep} (h : RepAt lo W rv r) : ∃ a1 a2 a3 c1 c2 c3, rv = .agg #[.int .i64 r.err, .int .i64 r.num, .bool r.yes, .slice a1 r.bytes.length c1, .slice a2 r.bools.length c2, .slice a3 r.nums.length c3] ∧ RepIn lo W.heap.size W r a1 a2 a3 c1 c2 c3 := by
  obtain ⟨v1, v2, v3, rfl, h1, h2, h3, h4⟩ := h
  obtain ⟨a1, c1, rfl⟩ := own_form h1
  obtain ⟨a2, c2, rfl⟩ := own_form h2
  obtain ⟨a3, c3, rfl⟩ := own_form h3
  exact ⟨a1, a2, a3, c1, c2, c3, rfl, h1, h2, h3, fun g e => ⟨h4 g (.inl e), own_lt h1 g e⟩, fun g e => ⟨h4 g (.inr (.inl e)), own_lt h2 g e⟩, fun g e => ⟨h4 g (.inr (.inr e)), own_lt h3 g e⟩⟩
theorem RepIn.rep {lo hi : Nat} {W : World} {r : Rep} {a1 a2 a3 : Option Addr} {c1 c2 c3 : Nat} (h : RepIn lo hi W r a1 a2 a3 c1 c2 c3) : RepAt lo W (.agg #[.int .i64 r.err, .int .i64 r.num, .bool r.yes, .slice a1 r.bytes.length c1, .slice a2 r.bools.length c2, .slice a3 r.nums.length c3]) r :=
  ⟨_, _, _, rfl, h.o1, h.o2, h.o3, fun g e => e.elim (fun e => (h.i1 g e).1) fun e => e.elim (fun e => (h.i2 g e).1) fun e => (h.i3 g e).1⟩

/-- what a call of ask or of says gives -/
def RepCall (f : Nat) (v : Value) (r : Rep) (W : World) (z : Nat) : Prop :=
  Calls Tryd.prog f #[v] W fun e w' => ∃ lo hi a1 a2 a3 c1 c2 c3, e = .returned (.agg #[.int .i64 r.err, .int .i64 r.num, .bool r.yes, .slice a1 r.bytes.length c1, .slice a2 r.bools.length c2, .slice a3 r.nums.length c3]) ∧ RepIn lo hi w' r a1 a2 a3 c1 c2 c3 ∧ z ≤ lo ∧ lo ≤ hi ∧ hi ≤ w'.heap.size ∧ Keeps W w' (fun _ => False)
theorem ask_c (v : Value) (o : OpD) (W : World) (z : Nat) (hT : Tab W) (hO : OpAt W v o) (hz : z ≤ W.heap.size) : RepCall 7 v (ans o) W z := by
  refine (ask_all v o W hT hO).mono ?_
  rintro e w' ⟨rv, rfl, hR, hk⟩
  obtain ⟨a1, a2, a3, c1, c2, c3, rfl, h⟩ := RepIn.of hR
  exact ⟨_, _, a1, a2, a3, c1, c2, c3, rfl, h, hz, hk.size, Nat.le_refl _, hk⟩
theorem says_c (v : Value) (o : OpD) (W : World) (z : Nat) (hT : Tab W) (hO : OpAt W v o) (hz : z ≤ W.heap.size) : RepCall 8 v (ans o) W z := by
  refine (says_all v o W hT hO).mono ?_
  rintro e w' ⟨rv, rfl, hR, hk⟩
  obtain ⟨a1, a2, a3, c1, c2, c3, rfl, h⟩ := RepIn.of hR
  exact ⟨_, _, a1, a2, a3, c1, c2, c3, rfl, h, hz, hk.size, Nat.le_refl _, hk⟩
theorem alike_c {lo hi lo' hi' : Nat} {W : World} {r : Rep} {a1 a2 a3 b1 b2 b3 : Option Addr} {c1 c2 c3 d1 d2 d3 : Nat} (hs : Hid r.small) (h : Hid (RepIn lo hi W r a1 a2 a3 c1 c2 c3)) (h' : Hid (RepIn lo' hi' W r b1 b2 b3 d1 d2 d3)) :
    Calls Tryd.prog 9 #[.agg #[.int .i64 r.err, .int .i64 r.num, .bool r.yes, .slice a1 r.bytes.length c1, .slice a2 r.bools.length c2, .slice a3 r.nums.length c3], .agg #[.int .i64 r.err, .int .i64 r.num, .bool r.yes, .slice b1 r.bytes.length d1, .slice b2 r.bools.length d2, .slice b3 r.nums.length d3]] W fun e w' => e = .returned (.bool true) ∧ Keeps W w' (fun _ => False) :=
  alike_all _ _ r lo lo' W hs.out h.out.rep h'.out.rep
theorem spoil_c {lo hi : Nat} {W : World} {r : Rep} {a1 a2 a3 : Option Addr} {c1 c2 c3 : Nat} (hs : Hid r.small) (h : Hid (RepIn lo hi W r a1 a2 a3 c1 c2 c3)) :
    Calls Tryd.prog 13 #[.agg #[.int .i64 r.err, .int .i64 r.num, .bool r.yes, .slice a1 r.bytes.length c1, .slice a2 r.bools.length c2, .slice a3 r.nums.length c3], .int .u8 81] W fun e w' => (∃ v, e = .returned v) ∧ Keeps W w' (fun k => lo ≤ k ∧ k < hi) := by
  refine (spoil_form r.err r.num r.yes a1 a2 a3 _ c1 _ c2 _ c3 _ r.bools W hs.out.1 hs.out.2.1 h.out.o1 h.out.o2).mono ?_
  rintro e w' ⟨hv, hk⟩
  exact ⟨hv, hk.mono fun b _ e => e.elim (h.out.i1 b) (h.out.i2 b)⟩

/-- lists with room behind them: their rows lie from lo on, below hi -/
structure GivIn (lo hi : Nat) (W : World) (a1 a2 a3 c1 c2 c3 : Nat) (g : Giv) : Prop where
  at_ : GivAt W a1 a2 a3 c1 c2 c3 g
  i1 : lo ≤ a1 ∧ a1 < hi
  i2 : lo ≤ a2 ∧ a2 < hi
  i3 : lo ≤ a3 ∧ a3 < hi
theorem GivIn.kept {lo hi : Nat} {W W' : World} {a1 a2 a3 c1 c2 c3 : Nat} {g : Giv} {S : Nat → Prop} (h : GivIn lo hi W a1 a2 a3 c1 c2 c3 g) (k : Keeps W W' S) (hS : ∀ b, lo ≤ b → b < hi → ¬ S b) : GivIn lo hi W' a1 a2 a3 c1 c2 c3 g :=
  ⟨h.at_.kept k (hS _ h.i1.1 h.i1.2) (hS _ h.i2.1 h.i2.2) (hS _ h.i3.1 h.i3.2), h.i1, h.i2, h.i3⟩
theorem gave_c (o : OpD) (ao bo lo' : Option Addr) (ca cb cl : Nat) (W : World) (z : Nat) (hA : MapAt W (.slice ao o.a.length ca) o.a) (hB : MapAt W (.slice bo o.b.length cb) o.b) (hL : BoolsAt W lo' o.l.length (fun k => o.l.getD k false)) (h1 : o.a.length ≤ 9000000) (h2 : o.b.length ≤ 9000000) (h3 : o.l.length ≤ 90000000) (hz : z ≤ W.heap.size) :
    Calls Tryd.prog 11 #[.agg #[.int .i64 o.kind, .slice ao o.a.length ca, .slice bo o.b.length cb, .slice lo' o.l.length cl, .int .i64 o.fr, .int .i64 o.n, .int .i64 o.k, .bool o.on]] W fun e w' => ∃ lo hi a1 a2 a3 c1 c2 c3, e = .returned (.agg #[.slice (some ⟨a1, 0, none⟩) (o.a.length + 9) c1, .slice (some ⟨a2, 0, none⟩) (o.b.length + 9) c2, .slice (some ⟨a3, 0, none⟩) (o.l.length + 9) c3]) ∧ GivIn lo hi w' a1 a2 a3 c1 c2 c3 ⟨o.a, o.b, o.l⟩ ∧ z ≤ lo ∧ lo ≤ hi ∧ hi ≤ w'.heap.size ∧ Keeps W w' (fun _ => False) := by
  refine (gave_form o.kind ao bo lo' ca cb cl o.a o.b o.l o.fr o.n o.k o.on W hA hB hL h1 h2 h3).mono ?_
  rintro e w' ⟨a1, a2, a3, c1, c2, c3, rfl, hG, q1, q2, q3, hk⟩
  exact ⟨W.heap.size, w'.heap.size, a1, a2, a3, c1, c2, c3, rfl, ⟨hG, ⟨q1, (own_cap hG.o1).2.2⟩, ⟨q2, (own_cap hG.o2).2.2⟩, ⟨q3, (own_cap hG.o3).2.2⟩⟩, hz, hk.size, Nat.le_refl _, hk⟩
theorem op_c (o : OpD) (ao bo lo' : Option Addr) (ca cb cl : Nat) {lo hi : Nat} {W : World} {a1 a2 a3 c1 c2 c3 : Nat} {g : Giv} (n1 n2 n3 : Nat) (l1 : g.a.length = n1) (l2 : g.b.length = n2) (l3 : g.l.length = n3) (hG : GivIn lo hi W a1 a2 a3 c1 c2 c3 g) :
    Calls Tryd.prog 12 #[.agg #[.slice (some ⟨a1, 0, none⟩) (n1 + 9) c1, .slice (some ⟨a2, 0, none⟩) (n2 + 9) c2, .slice (some ⟨a3, 0, none⟩) (n3 + 9) c3], .agg #[.int .i64 o.kind, .slice ao n1 ca, .slice bo n2 cb, .slice lo' n3 cl, .int .i64 o.fr, .int .i64 o.n, .int .i64 o.k, .bool o.on]] W fun e w' =>
      e = .returned (.agg #[.int .i64 o.kind, .slice (some ⟨a1, 0, none⟩) n1 c1, .slice (some ⟨a2, 0, none⟩) n2 c2, .slice (some ⟨a3, 0, none⟩) n3 c3, .int .i64 o.fr, .int .i64 o.n, .int .i64 o.k, .bool o.on]) ∧ Keeps W w' (fun _ => False) := by
  have e1 := own_cap hG.at_.o1
  have e2 := own_cap hG.at_.o2
  have e3 := own_cap hG.at_.o3
  exact op_any a1 a2 a3 n1 n2 n3 c1 c2 c3 (by omega) (by omega) (by omega) e1.2.1 e2.2.1 e3.2.1 o.kind ao bo lo' _ ca _ cb _ cl o.fr o.n o.k o.on W
theorem giv_op {lo hi : Nat} {W : World} {a1 a2 a3 c1 c2 c3 : Nat} {g : Giv} (hG : GivIn lo hi W a1 a2 a3 c1 c2 c3 g) (o : OpD) (hok : o.ok) (n1 n2 n3 : Nat) (l1 : g.a.length = n1) (l2 : g.b.length = n2) (l3 : g.l.length = n3) :
    OpAt W (.agg #[.int .i64 o.kind, .slice (some ⟨a1, 0, none⟩) n1 c1, .slice (some ⟨a2, 0, none⟩) n2 c2, .slice (some ⟨a3, 0, none⟩) n3 c3, .int .i64 o.fr, .int .i64 o.n, .int .i64 o.k, .bool o.on]) { o with a := g.a, b := g.b, l := g.l } := by
  subst l1 l2 l3
  exact ⟨_, _, _, c1, c2, c3, rfl, hG.at_.mapA, hG.at_.mapB, hG.at_.boolsL, by have := hG.at_.ll; show g.l.length ≤ _; omega, hok⟩
theorem same_c {lo hi lo' hi' : Nat} {W : World} {a1 a2 a3 c1 c2 c3 d1 d2 d3 e1 e2 e3 : Nat} {la lb : List Nat} {ll : List Bool} (hG : Hid (GivIn lo hi W a1 a2 a3 c1 c2 c3 ⟨la, lb, ll⟩)) (hH : Hid (GivIn lo' hi' W d1 d2 d3 e1 e2 e3 ⟨la, lb, ll⟩)) :
    Calls Tryd.prog 14 #[.agg #[.slice (some ⟨a1, 0, none⟩) (la.length + 9) c1, .slice (some ⟨a2, 0, none⟩) (lb.length + 9) c2, .slice (some ⟨a3, 0, none⟩) (ll.length + 9) c3], .agg #[.slice (some ⟨d1, 0, none⟩) (la.length + 9) e1, .slice (some ⟨d2, 0, none⟩) (lb.length + 9) e2, .slice (some ⟨d3, 0, none⟩) (ll.length + 9) e3]] W fun e w' => e = .returned (.bool true) ∧ Keeps W w' (fun _ => False) :=
  same_form a1 a2 a3 c1 c2 c3 d1 d2 d3 e1 e2 e3 ⟨la, lb, ll⟩ W hG.out.at_ hH.out.at_
theorem bytes_map {l : List Nat} {F : Nat → Nat} (h : ∀ x, F x < 256) : Bytes (l.map F) := fun y hy => by
  obtain ⟨x, _, rfl⟩ := List.mem_map.1 hy
  exact h x
theorem turned_c {lo hi : Nat} {W : World} {a1 a2 a3 c1 c2 c3 : Nat} {la lb : List Nat} {ll : List Bool} (hG : Hid (GivIn lo hi W a1 a2 a3 c1 c2 c3 ⟨la, lb, ll⟩)) :
    Calls Tryd.prog 15 #[.agg #[.slice (some ⟨a1, 0, none⟩) (la.length + 9) c1, .slice (some ⟨a2, 0, none⟩) (lb.length + 9) c2, .slice (some ⟨a3, 0, none⟩) (ll.length + 9) c3]] W fun e w' => (∃ v, e = .returned v) ∧ GivIn lo hi w' a1 a2 a3 c1 c2 c3 ⟨la.map FA1, lb.map FB1, ll.map not⟩ ∧ Keeps W w' (fun k => lo ≤ k ∧ k < hi) := by
  have G := hG.out.at_
  have e1 := own_cap G.o1
  have e2 := own_cap G.o2
  have e3 := own_cap G.o3
  refine (turned_form a1 a2 a3 _ _ _ c1 c2 c3 la lb ll W rfl rfl rfl G.la G.lb G.ll G.ba G.bb G.ne (own_ne_type (by decide) G.o1 G.o3) (own_ne_type (by decide) G.o2 G.o3) e1.2.2 e2.2.2 e3.2.2 G.o1 G.o2 G.o3).mono ?_
  rintro e w' ⟨hv, W', hk, hR⟩
  refine ⟨hv, ⟨⟨?_, ?_, ?_, G.ne, bytes_map fun x => by unfold FA1; omega, bytes_map fun x => by unfold FB1; omega, ?_, ?_, ?_⟩, hG.out.i1, hG.out.i2, hG.out.i3⟩, ?_⟩
  · simpa using hR.o1
  · simpa using hR.o2
  · simpa using hR.o3
  · simpa using G.la
  · simpa using G.lb
  · simpa using G.ll
  · refine (hk.mono (T := fun k => lo ≤ k ∧ k < hi) fun _ _ h => h.elim).trans hR.keeps fun j _ e => ?_
    rcases e with rfl | rfl | rfl
    · exact hG.out.i1
    · exact hG.out.i2
    · exact hG.out.i3
end Go.Proofs.YteppfammimbmcaaDoor.Kit
