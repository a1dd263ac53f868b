import Derived.Test.YtdihbfjjddmbiaaGreatDoorLD
namespace Go.Proofs.YtdihbfjjddmbiaaGreatDoor.Kit
open Go.RowKit Go.Shelf Go.Deep
set_option linter.unusedVariables false
attribute [local go_sem] Oper.semAt_some run_store_func
def tkL (l : List LS) : Nat → Bool := fun n => l.any fun s => decide (s.fld.kind = 19) && decide (s.fld.id.toNat = n)
def AllR (l : List LS) : Prop := ∀ k (h : k < l.length), wrongE l[k] k (tkL (l.take k)) = 0
theorem AllR.nil : AllR [] := fun k h => by simp at h
theorem AllR.snoc {l : List LS} {x : LS} (h : AllR l) (hx : wrongE x l.length (tkL l) = 0) : AllR (l ++ [x]) := by
  intro k hk
  by_cases e : k < l.length
  · rw [List.getElem_append_left e, List.take_append_of_le_length (by omega)]
    exact h k e
  have e2 : k = l.length := by simp at hk; omega
  subst e2
  rw [List.getElem_append_right (by omega)]
  simp [hx]
theorem tkL_snoc (l : List LS) (x : LS) (n : Nat) : tkL (l ++ [x]) n = (tkL l n || (decide (x.fld.kind = 19) && decide (x.fld.id.toNat = n))) := by simp [tkL]
def schV (fo no : Option Addr) (nf cf nn cn : Nat) : Value := .agg #[.slice fo nf cf, .slice no nn cn]
theorem AllR.len {l : List LS} (h : AllR l) : l.length ≤ 256 := by
  by_cases hl : 256 < l.length
  · have := h 256 hl
    unfold wrongE wr at this
    split at this
    · omega
    simp at this
  omega
def tkA (t : Nat → Bool) : Array Value := #[.bool (t 0), .bool (t 1), .bool (t 2), .bool (t 3), .bool (t 4), .bool (t 5), .bool (t 6), .bool (t 7), .bool (t 8), .bool (t 9), .bool (t 10), .bool (t 11), .bool (t 12), .bool (t 13), .bool (t 14), .bool (t 15), .bool (t 16), .bool (t 17), .bool (t 18), .bool (t 19), .bool (t 20), .bool (t 21), .bool (t 22), .bool (t 23), .bool (t 24), .bool (t 25), .bool (t 26), .bool (t 27), .bool (t 28), .bool (t 29), .bool (t 30), .bool (t 31)]
theorem tkA_get (t : Nat → Bool) (k : Nat) (hk : k < 32) : (tkA t)[k]? = some (.bool (t k)) := by
  have e : tkA t = ((List.range 32).map fun j => Value.bool (t j)).toArray := rfl
  rw [e]; simp [hk]
theorem tkA_set (t : Nat → Bool) (k : Nat) (hk : k < 32) : (tkA t).setIfInBounds k (.bool true) = tkA (fun n => t n || decide (k = n)) := by
  have e : ∀ t, tkA t = ((List.range 32).map fun j => Value.bool (t j)).toArray := fun _ => rfl
  rw [e, e]
  apply Array.ext'
  simp only [Array.toList_setIfInBounds]
  apply List.ext_getElem
  · simp
  intro j h1 h2
  simp at h1
  by_cases hj : k = j
  · subst hj; simp
  rw [List.getElem_set_ne hj]; simp [hj]
structure LI (w W : World) (A r : Nat) (P : List LS) : Prop where
  gr : Gr w W
  a : W.heap[A]? = some (.cells #[.int .i64 (P.length : Int)] 3)
  t : W.heap[A + 1]? = some (.cells (tkA (tkL P)) 114)
  r2 : W.heap[r]? = some (.cells #[.int .i64 0, .slice none 0 0, .int .i64 0] 67)
  r3 : W.heap[r + 1]? = some (.cells #[.int .i64 0] 3)
  ok : AllR P
theorem LI.kept {w W W' : World} {A r : Nat} {P : List LS} (h : LI w W A r P) (g : Gr w W') (k : ∀ b, b = A ∨ b = A + 1 ∨ b = r ∨ b = r + 1 → W'.heap[b]? = W.heap[b]?) : LI w W' A r P :=
  ⟨g, (k _ (.inl rfl)).trans h.a, (k _ (.inr (.inl rfl))).trans h.t, (k _ (.inr (.inr (.inl rfl)))).trans h.r2, (k _ (.inr (.inr (.inr rfl)))).trans h.r3, h.ok⟩
structure LX (w W : World) (r Z : Nat) (P : List LS) (L : List LS) (x : LS) (vo : Option Addr) (vc : Nat) : Prop where
  e : P = L ++ [x]
  ok : AllR L
  bad : wrongE x L.length (tkL L) ≠ 0
  gr : Gr w W
  r2 : W.heap[r]? = some (.cells #[.int .i64 (wrongE x L.length (tkL L)), .slice vo x.path.length vc, .int .i64 0] 67)
  r3 : W.heap[r + 1]? = some (.cells #[.int .i64 (L.length : Int)] 3)
  own : W.ownsRow 0 3 1 (.slice vo x.path.length vc) x.path.length (ints x.path)
  new : ∀ g, (Value.slice vo x.path.length vc).ownBlock = some g → Z ≤ g
theorem LX.kept {w W W' : World} {r Z : Nat} {P L : List LS} {x : LS} {vo : Option Addr} {vc : Nat} (h : LX w W r Z P L x vo vc) (g : Gr w W') (k : ∀ b, b = r ∨ b = r + 1 ∨ (Z ≤ b ∧ b < W.heap.size) → W'.heap[b]? = W.heap[b]?) : LX w W' r Z P L x vo vc :=
  ⟨h.e, h.ok, h.bad, g, (k _ (.inl rfl)).trans h.r2, (k _ (.inr (.inl rfl))).trans h.r3, own_kp h.own fun b e => k b (.inr (.inr ⟨h.new b e, own_lt h.own b e⟩)), h.new⟩
theorem gr_below {w W W' : World} {B : Nat} (h : Gr w W) (hB : w.heap.size ≤ B) (b : Below B W W') : Gr w W' :=
  h.trans (T := fun k => B ≤ k) (Keeps.ofBelow b) (fun j hj hk => by omega)
end Go.Proofs.YtdihbfjjddmbiaaGreatDoor.Kit
