import Derived.Test.YteppfammimbmcaaDoorU
namespace Go.Proofs.YteppfammimbmcaaDoor.Kit
open Go.RowKit Go.Deep
set_option linter.unusedVariables false

structure OpD where
  kind : Int
  a : List Nat
  b : List Nat
  l : List Bool
  fr : Int
  n : Int
  k : Int
  on : Bool
def OpD.ok (o : OpD) : Prop := i64 o.kind ∧ i64 o.fr ∧ i64 o.n ∧ i64 o.k
def rep0 : Rep := ⟨0, 0, false, [], [], []⟩
def numsOf (l : List (Nat × Nat)) : List Int := l.flatMap fun r => [(r.1 : Int), (r.2 : Int)]
def ans (o : OpD) : Rep :=
  if o.kind = 1 then { rep0 with err := errOf o.a.length o.n 1, yes := getV o.a o.n }
  else if o.kind = 2 then { rep0 with err := errOf o.a.length o.fr o.n, num := countV o.a o.fr o.n }
  else if o.kind = 3 then { rep0 with bytes := mk (fun k => o.l.getD k false) o.l.length }
  else if o.kind = 4 then { rep0 with err := errOf o.a.length o.fr o.n, bools := listV o.a o.fr o.n }
  else if o.kind = 5 then { rep0 with err := errOf o.a.length o.fr o.n, bytes := cutV o.a o.fr o.n }
  else if o.kind = 6 then { rep0 with err := errJ o.a.length o.b.length o.n, bytes := joinV (fun a b => a && b) o.a o.b o.n }
  else if o.kind = 7 then { rep0 with err := errJ o.a.length o.b.length o.n, bytes := joinV (fun a b => a || b) o.a o.b o.n }
  else if o.kind = 8 then { rep0 with err := errJ o.a.length o.b.length o.n, bytes := joinV (fun a b => a ^^ b) o.a o.b o.n }
  else if o.kind = 9 then { rep0 with err := errOf o.a.length 0 o.n, bytes := notV o.a o.n }
  else if o.kind = 10 then { rep0 with nums := numsOf (runsV o.a o.fr o.n) }
  else if o.kind = 11 then { rep0 with num := nextV o.a o.fr o.n o.on }
  else if o.kind = 12 then { rep0 with err := errP o.a o.fr o.n o.k, num := placeV o.a o.fr o.n o.k }
  else { rep0 with num := needV o.n }
def opV (kind : Int) (ao bo lo : Option Addr) (na ca nb cb nl cl : Nat) (fr n k : Int) (on : Bool) : Value := .agg #[.int .i64 kind, .slice ao na ca, .slice bo nb cb, .slice lo nl cl, .int .i64 fr, .int .i64 n, .int .i64 k, .bool on]
/-- a call's arguments in memory -/
def OpAt (w : World) (v : Value) (o : OpD) : Prop :=
  ∃ ao bo lo ca cb cl, v = opV o.kind ao bo lo o.a.length ca o.b.length cb o.l.length cl o.fr o.n o.k o.on ∧ MapAt w (.slice ao o.a.length ca) o.a ∧ MapAt w (.slice bo o.b.length cb) o.b ∧ BoolsAt w lo o.l.length (fun k => o.l.getD k false) ∧ o.l.length ≤ 100000000 ∧ o.ok
/-- the room of ask and says: the arguments' box, the result's, r's -/
def room3 (w : World) (kind : Int) (ao bo lo : Option Addr) (na ca nb cb nl cl : Nat) (fr n k : Int) (on : Bool) : World :=
  ((w.alloc (.cells #[.int .i64 kind, .slice ao na ca, .slice bo nb cb, .slice lo nl cl, .int .i64 fr, .int .i64 n, .int .i64 k, .bool on] 31)).alloc (.cells #[.int .i64 0, .int .i64 0, .bool false, .slice none 0 0, .slice none 0 0, .slice none 0 0] 28)).alloc (.cells #[.int .i64 0, .int .i64 0, .bool false, .slice none 0 0, .slice none 0 0, .slice none 0 0] 28)
def Zero6 (w : World) (B : Nat) : Prop := w.heap[B]? = some (.cells #[.int .i64 0, .int .i64 0, .bool false, .slice none 0 0, .slice none 0 0, .slice none 0 0] 28 (0, 0))
structure After (w w1 : World) : Prop where
  keeps : Keeps w w1 (fun _ => False)
  r1 : Zero6 w1 (w.heap.size + 1)
  r2 : Zero6 w1 (w.heap.size + 1 + 1)
theorem After.mk' {w w1 : World} {kind : Int} {ao bo lo : Option Addr} {na ca nb cb nl cl : Nat} {fr n k : Int} {on : Bool} (h : Keeps (room3 w kind ao bo lo na ca nb cb nl cl fr n k on) w1 (fun _ => False)) : After w w1 := by
  refine ⟨((((Keeps.refl _ _).alloc _).alloc _).alloc _).trans h fun _ _ h => h, ?_, ?_⟩
  · refine (h.block _ (by simp [room3]) id).trans ?_
    simp only [room3]
    rw [Below.heap_alloc _ _ _ (by simp)]
    have := heap_alloc_new (w.alloc (.cells #[.int .i64 kind, .slice ao na ca, .slice bo nb cb, .slice lo nl cl, .int .i64 fr, .int .i64 n, .int .i64 k, .bool on] 31)) (.cells #[.int .i64 0, .int .i64 0, .bool false, .slice none 0 0, .slice none 0 0, .slice none 0 0] 28)
    rw [World.size_alloc] at this
    exact this
  · refine (h.block _ (by simp [room3]) id).trans ?_
    simp only [room3]
    have := heap_alloc_new ((w.alloc (.cells #[.int .i64 kind, .slice ao na ca, .slice bo nb cb, .slice lo nl cl, .int .i64 fr, .int .i64 n, .int .i64 k, .bool on] 31)).alloc (.cells #[.int .i64 0, .int .i64 0, .bool false, .slice none 0 0, .slice none 0 0, .slice none 0 0] 28)) (.cells #[.int .i64 0, .int .i64 0, .bool false, .slice none 0 0, .slice none 0 0, .slice none 0 0] 28)
    rw [World.size_alloc, World.size_alloc] at this
    exact this
theorem Zero6.cells {w : World} {B : Nat} (h : Zero6 w B) : w.cell? ⟨B, 0, none⟩ = some (.int .i64 0) ∧ w.cell? ⟨B, 1, none⟩ = some (.int .i64 0) ∧ w.cell? ⟨B, 2, none⟩ = some (.bool false) ∧ w.cell? ⟨B, 3, none⟩ = some (.slice none 0 0) ∧ w.cell? ⟨B, 4, none⟩ = some (.slice none 0 0) ∧ w.cell? ⟨B, 5, none⟩ = some (.slice none 0 0) := by
  have h' : w.heap[B]? = _ := h
  refine ⟨?_, ?_, ?_, ?_, ?_, ?_⟩ <;> · rw [cell_of_row w B _ _ _ _ h']; rfl
theorem Zero6.frozen {w : World} {B : Nat} (h : Zero6 w B) (j : Nat) : w.frozen? ⟨B, j, none⟩ = false := frozen_of_row w B j _ _ h

theorem Zero6.other {w : World} {B : Nat} (h : Zero6 w B) {p : Addr} (hp : B ≠ p.block) (u : Value) : Zero6 (w.setCell p u) B := (heap_setCell_other w p B u hp).trans h
theorem six {w : World} {B : Nat} (h : Zero6 w B) (u0 u1 u2 u3 u4 u5 : Value) :
    ((((((w.setCell ⟨B, 0, none⟩ u0).setCell ⟨B, 1, none⟩ u1).setCell ⟨B, 2, none⟩ u2).setCell ⟨B, 3, none⟩ u3).setCell ⟨B, 4, none⟩ u4).setCell ⟨B, 5, none⟩ u5).heap[B]? = some (.cells #[u0, u1, u2, u3, u4, u5] 28 (0, 0)) := by
  have h0 := heap_setCell_same w B 0 _ 28 u0 h
  have h1 := heap_setCell_same _ B 1 _ 28 u1 h0
  have h2 := heap_setCell_same _ B 2 _ 28 u2 h1
  have h3 := heap_setCell_same _ B 3 _ 28 u3 h2
  have h4 := heap_setCell_same _ B 4 _ 28 u4 h3
  have h5 := heap_setCell_same _ B 5 _ 28 u5 h4
  simpa using h5
theorem res6 {fn : Func} (hfn : fn.results = #[.cell 2 28]) {B : Nat} {u0 u1 u2 u3 u4 u5 : Value} {tmps : Array Value} {W2 : World} (htm : tmps[2]?.getD undef = .pointer (some ⟨B, 0, none⟩)) (h : W2.heap[B]? = some (.cells #[u0, u1, u2, u3, u4, u5] 28 (0, 0))) : (results fn tmps).run Tryd.prog W2 = .ok (.agg #[u0, u1, u2, u3, u4, u5]) W2 := by
  have c0 : W2.cell? ⟨B, 0, none⟩ = some u0 := by rw [cell_of_row W2 B _ _ _ _ h]; rfl
  have c1 : W2.cell? ⟨B, 1, none⟩ = some u1 := by rw [cell_of_row W2 B _ _ _ _ h]; rfl
  have c2 : W2.cell? ⟨B, 2, none⟩ = some u2 := by rw [cell_of_row W2 B _ _ _ _ h]; rfl
  have c3 : W2.cell? ⟨B, 3, none⟩ = some u3 := by rw [cell_of_row W2 B _ _ _ _ h]; rfl
  have c4 : W2.cell? ⟨B, 4, none⟩ = some u4 := by rw [cell_of_row W2 B _ _ _ _ h]; rfl
  have c5 : W2.cell? ⟨B, 5, none⟩ = some u5 := by rw [cell_of_row W2 B _ _ _ _ h]; rfl
  simp [results, hfn, go_sem, htm, c0, c1, c2, c3, c4, c5]
theorem resf7 : Tryd.f7.results = #[.cell 2 28] := rfl
theorem resf8 : Tryd.f8.results = #[.cell 2 28] := rfl
def S12 (B k : Nat) : Prop := k = B + 1 ∨ k = B + 1 + 1
theorem rep_mk {w w1 w2 : World} {r : Rep} {v1 v2 v3 : Value} (hA : Keeps w w1 (fun _ => False)) (hk : Keeps w1 w2 (S12 w.heap.size)) (h1 : w1.ownsRow 0 5 1 v1 r.bytes.length (cellsB r.bytes)) (h2 : w1.ownsRow 0 4 1 v2 r.bools.length (cellsO r.bools)) (h3 : w1.ownsRow 0 3 1 v3 r.nums.length (cellsI r.nums))
    (hf : ∀ g, v1.ownBlock = some g ∨ v2.ownBlock = some g ∨ v3.ownBlock = some g → w.heap.size + 3 ≤ g) : RepAt w.heap.size w2 (.agg #[.int .i64 r.err, .int .i64 r.num, .bool r.yes, v1, v2, v3]) r ∧ Keeps w w2 (fun _ => False) := by
  refine ⟨⟨v1, v2, v3, rfl, own_kept h1 hk fun g hg hS => ?_, own_kept h2 hk fun g hg hS => ?_, own_kept h3 hk fun g hg hS => ?_, fun g hg => by have := hf g hg; omega⟩, hA.trans hk fun j hj hS => ?_⟩
  · have := hf g (.inl hg); unfold S12 at hS; omega
  · have := hf g (.inr (.inl hg)); unfold S12 at hS; omega
  · have := hf g (.inr (.inr hg)); unfold S12 at hS; omega
  · unfold S12 at hS; omega
theorem own_nil (w : World) (t : Nat) : w.ownsRow 0 t 1 (.slice none 0 0) 0 [] := World.ownsRow_nil w 0 t 1
theorem New.len {w w1 : World} {t : Nat} {v : Value} {α : Type} {xs : List α} {f : α → Value} (h : New w w1 t v (xs.map f)) : w1.ownsRow 0 t 1 v xs.length (xs.map f) := h.own (by simp)
theorem room3_keeps (w : World) (kind : Int) (ao bo lo : Option Addr) (na ca nb cb nl cl : Nat) (fr n k : Int) (on : Bool) : Keeps w (room3 w kind ao bo lo na ca nb cb nl cl fr n k on) (fun _ => False) := (((Keeps.refl _ _).alloc _).alloc _).alloc _
theorem room3_size (w : World) (kind : Int) (ao bo lo : Option Addr) (na ca nb cb nl cl : Nat) (fr n k : Int) (on : Bool) : (room3 w kind ao bo lo na ca nb cb nl cl fr n k on).heap.size = w.heap.size + 3 := by simp [room3]
end Go.Proofs.YteppfammimbmcaaDoor.Kit
