import Derived.RangeFuncNested
import Derived.RangeFuncFrom
import Derived.RangeFuncBound
import Derived.RangeFuncCalls
import Derived.RangeFuncLeaves
import Derived.Shelf.Abstract
import Derived.Shelf.RegionOpen
import Derived.OwnWalkIn
import Derived.TacticsInMore
import Derived.LoopNIn
import Derived.LoopIn
import Derived.Test.YtjdojbbjbippoaaDoorKit
namespace Go.Proofs.YtjdojbbjbippoaaDoor.Kit
open Go.RowKit Go.Shelf Go.Deep

/-! ### a range over a function whose iterator has cells of its own -/
def KpOf (S : Nat → Prop) (W W' : World) : Prop := ∀ b, S b → W'.heap[b]? = W.heap[b]?
/-- what abides what an iterator does: it turns blocks of its own (O) and new ones, and may take new ones for its own -/
def JAbides {β : Type} (J : (Nat → Prop) → β → World → Prop) : Prop :=
  ∀ (O O' : Nat → Prop) (s : β) (A B : World), J O s A → Keeps A B O → (∀ k, O' k → k < B.heap.size ∧ (O k ∨ A.heap.size ≤ k)) → J O' s B
def XAbides {β : Type} (J : β → World → Prop) : Prop := ∀ (s : β) (A B : World), J s A → Keeps A B (fun _ => False) → J s B
/-- the iterator's word -/
def SeqOwn {α : Type} (n : Nat) (P : Program) (g : Nat) (lb : Array Value) (encs : α → Array Value) (At : (Nat → Prop) → List α → α → World → Prop) (S : Nat → Prop) (Sx Sp : List α → Prop) (w : World) : Prop :=
  ∀ (l : Nat) (J : (Nat → Prop) → List α → World → Prop) (Jx : List α → World → Prop) (W : World), Keeps w W (fun _ => False) → JAbides J → XAbides Jx →
    (∀ O pre x W1, J O pre W1 → At O pre x W1 → YieldAt Fence.wide (n - 1) P l (encs x) W1 fun e W' =>
      (e = .returned (.bool true) ∧ J O (pre ++ [x]) W' ∧ KpOf (fun b => S b ∨ O b) W1 W') ∨ (e = .returned (.bool false) ∧ Jx (pre ++ [x]) W')) →
    J (fun _ => False) [] W →
    CallsIn Fence.wide n P g (#[.func (.yield l) #[] #[]] ++ lb) W fun e W' => (∃ v, e = .returned v) ∧ ((∃ O xs, Sx xs ∧ J O xs W') ∨ (∃ pre, Sp pre ∧ Jx pre W'))

def xPost {α : Type} (Sb : Nat → Prop) (I : List α → World → Prop) (Ix : Code → List α → World → Prop) (xs : List α) (W : World) : Exit → Act → World → Prop
  | .normal, _, W' => Keeps W W' Sb ∧ I xs W'
  | .ret, _, W' => Keeps W W' Sb ∧ Ix .ret xs W'
  | .exit id, _, W' => Keeps W W' Sb ∧ Ix (.exit id) xs W'
  | .goto t, _, W' => Keeps W W' Sb ∧ Ix (.goto t) xs W'
  | .panic _, _, _ => False
  | .outgrown, _, _ => False

theorem keeps_put (W : World) (l : Nat) (o : Obj) : Keeps W (W.putObj l o) (fun k => k = l) := ⟨rfl, rfl, rfl, by simp, fun k _ h => World.putObj_heap_other h⟩

theorem rangeX {α : Type} {n : Nat} {P : Program} {g : Operand} {ps : Array Tmp} {assign body : Code} {Q : Exit → Act → World → Prop} {a : Act} {w : World}
    (h1 : 1 ≤ n) {gf : Nat} {lb : Array Value} (hg : a.eval g = .func (.func gf) #[] lb) (eg : ∀ args w, (callFunc gf args).run P w = .ok (.enter gf args) w)
    {encs : α → Array Value} {At : (Nat → Prop) → List α → α → World → Prop} {S : Nat → Prop} {Sx Sp : List α → Prop} (hseq : SeqOwn (n - 1) P gf lb encs At S Sx Sp w)
    (hps : ∀ x, (encs x).size = ps.size) (hS : ∀ b, S b → b < w.heap.size) (hAt : ∀ O pre x A B, At O pre x A → KpOf (fun b => S b ∨ O b) A B → At O pre x B)
    (Sb : Nat → Prop) (hSb : ∀ b, Sb b → b < w.heap.size ∧ ¬ S b)
    (I : List α → World → Prop) (hI : ∀ pre A B, I pre A → w.heap.size ≤ A.heap.size → Below w.heap.size A B → I pre B)
    (Ix : Code → List α → World → Prop) (hIx : ∀ c pre A B, Ix c pre A → Keeps A B (fun k => k = w.heap.size ∨ k = w.heap.size + 1) → Ix c pre B)
    (h0 : I [] w) (Ax : α → Act → World → Prop) (hAx : ∀ x a' A B, Ax x a' A → Keeps A B (fun k => k = w.heap.size + 1) → Ax x a' B)
    (hassign : ∀ (l : Nat) (x : α) (W : World) (K : Act → World → Prop), w.heap.size + 2 ≤ W.heap.size → (∀ a' W', Keeps W W' (fun _ => False) → Ax x a' W' → K a' W') →
      assign.wpIn (Fence.wide.inRound l) (n - 1 - 1) P (Exit.then K (fun _ _ _ => False)) { tmps := (ps.zip (encs x)).foldl (fun t (p, v) => t.setIfInBounds p v) a.tmps, defers := [] } W)
    (hbody : ∀ (l : Nat) (O : Nat → Prop) (pre : List α) (x : α) (a' : Act) (W : World), I pre W → At O pre x W → Ax x a' W → (∀ b, O b → w.heap.size + 2 ≤ b) → w.heap.size + 2 ≤ W.heap.size →
      body.wpIn (Fence.wide.inRound l) (n - 1 - 1) P (xPost Sb I Ix (pre ++ [x]) W) a' W)
    (hdone : ∀ (xs : List α) (W : World), Sx xs → I xs W → w.heap.size + 2 ≤ W.heap.size → W.heap[w.heap.size]? = some (.deferred (some [])) → Q .normal { a with defers := { target := .collected w.heap.size, args := #[] } :: a.defers } W)
    (hstop : ∀ (c : Code) (pre : List α) (W : World), Sp pre → Ix c pre W → w.heap.size + 2 ≤ W.heap.size → W.heap[w.heap.size]? = some (.deferred (some [])) → c.wpIn Fence.wide n P Q { a with defers := { target := .collected w.heap.size, args := #[] } :: a.defers } W) :
    (Code.rangeFunc g ps assign body).wpIn Fence.wide n P Q a w := by
  refine wpIn_rangeFunc fun fn _ => ?_
  -- the record, by its state and its pending jump
  let R : LoopState → Option Code → Loop := fun st pe => { state := st, pending := pe, fn := fn, tmps := a.tmps, params := ps, assign := assign, body := body, defers := w.heap.size }
  let s := w.heap.size
  let W1 := (w.alloc (.deferred (some []))).alloc (.loop (R .ready none))
  have hz1 : W1.heap.size = s + 2 := by simp [W1, s]
  have hrec1 : W1.heap[s + 1]? = some (.loop (R .ready none)) := by
    have := World.alloc_heap_new (w.alloc (.deferred (some []))) (.loop (R .ready none))
    rwa [World.size_alloc] at this
  have hdef1 : W1.heap[s]? = some (.deferred (some [])) := (Below.heap_alloc _ _ _ (by simp [s])).trans (World.alloc_heap_new w _)
  have hk1 : Keeps w W1 (fun _ => False) := ((Keeps.refl w _).alloc _).alloc _
  refine ⟨s + 1, [{ target := .collected s, args := #[] }], W1, { target := .fn (.func gf) lb, args := #[.func (.yield (s + 1)) #[] #[]] }, W1, gf, #[.func (.yield (s + 1)) #[] #[]] ++ lb, W1,
    run_enterLoop_outer _ _ _ _ _, (by simp only [resolve, hg]; simp [go_sem]), fun _ _ => trivial, by simp [invoke, go_sem, eg], fun _ => h1, ?_⟩
  -- what is kept in mind of the record and of the deferred calls
  let Bk : LoopState → Option Code → World → Prop := fun st pe W => W.heap[s + 1]? = some (.loop (R st pe)) ∧ W.heap[s]? = some (.deferred (some [])) ∧ s + 2 ≤ W.heap.size
  have hBk : ∀ {st pe A B} {T : Nat → Prop}, Bk st pe A → Keeps A B T → (∀ k, T k → k < s ∨ s + 2 ≤ k) → Bk st pe B := fun h k hT =>
    ⟨(k.block _ (by have := h.2.2; omega) fun ht => by have := hT _ ht; omega).trans h.1, (k.block _ (by have := h.2.2; omega) fun ht => by have := hT _ ht; omega).trans h.2.1, Nat.le_trans h.2.2 k.size⟩
  have hput : ∀ {st pe W} (st' : LoopState) (pe' : Option Code), Bk st pe W → Bk st' pe' (W.putObj (s + 1) (.loop (R st' pe'))) := fun st' pe' h =>
    ⟨World.putObj_heap_same (by have := h.2.2; omega), (World.putObj_heap_other (by omega)).trans h.2.1, by simpa using h.2.2⟩
  have hIput : ∀ {pre W} (o : Obj), I pre W → s + 2 ≤ W.heap.size → I pre (W.putObj (s + 1) o) := fun {pre W} o hi hz =>
    hI pre _ _ hi (by omega) ((keeps_put W (s + 1) o).below (fun k _ e => by subst e; show s ≤ _; omega) (by show s ≤ _; omega))
  refine (hseq (s + 1) (fun O pre W => (∀ b, O b → s + 2 ≤ b ∧ b < W.heap.size) ∧ I pre W ∧ Bk .ready none W) (fun pre W => ∃ c, Ix c pre W ∧ Bk .done (some c) W) W1 hk1 ?_ ?_ ?_ ⟨fun _ h => h.elim, hI _ _ _ h0 (Nat.le_refl _) (hk1.below (fun _ _ h => h.elim) (Nat.le_refl _)), hrec1, hdef1, by omega⟩).mono ?_
  · rintro O O' pre A B ⟨hO, hi, hb⟩ hk hO'
    have hz := hb.2.2
    refine ⟨fun b h => ⟨(hO' b h).2.elim (fun h => (hO b h).1) fun h => by omega, (hO' b h).1⟩, hI _ _ _ hi (by show s ≤ _; omega) (hk.below (fun k _ h => by have := (hO k h).1; show s ≤ _; omega) (by show s ≤ _; omega)), hBk hb hk fun k h => .inr (hO k h).1⟩
  · rintro pre A B ⟨c, hx, hb⟩ hk
    exact ⟨c, hIx _ _ _ _ hx (hk.mono fun _ _ h => h.elim), hBk hb hk fun k h => h.elim⟩
  · -- one round
    rintro O pre x W0 ⟨hO0, hi0, hb0⟩ hat0
    refine ⟨fn, _, assign, body, run_yield hb0.1 (hps x), roundIn_of_wpIn trivial (hassign _ x W0 _ hb0.2.2 ?_)⟩
    intro a' W hgr hax
    have hz0 := hb0.2.2
    have hb : Bk .ready none W := hBk hb0 hgr fun k h => h.elim
    have hz := hb.2.2
    have hi : I pre W := hI _ _ _ hi0 (by show s ≤ _; omega) (hgr.below (fun _ _ h => h.elim) (by show s ≤ _; omega))
    have hO : ∀ b, O b → s + 2 ≤ b ∧ b < W.heap.size := fun b h => ⟨(hO0 b h).1, Nat.lt_of_lt_of_le (hO0 b h).2 hgr.size⟩
    have hlt0 : ∀ b, S b ∨ O b → b < W0.heap.size := fun b h => h.elim (fun h => by have := hS b h; show b < W0.heap.size; have : s = w.heap.size := rfl; omega) fun h => (hO0 b h).2
    have hk0 : KpOf (fun b => S b ∨ O b) W0 W := fun b h => hgr.block b (hlt0 b h) id
    have hat : At O pre x W := hAt _ _ _ _ _ hat0 hk0
    refine ⟨_, run_beginRound hb.1 rfl, ?_⟩
    have hb2 := hput .busy none hb
    have hne : ∀ b, S b ∨ O b → b ≠ s + 1 := by
      rintro b (h | h)
      · have := hS b h
        show b ≠ w.heap.size + 1
        omega
      · have := hO b h
        omega
    have hkS : KpOf (fun b => S b ∨ O b) W (W.putObj (s + 1) (.loop (R .busy none))) := fun b h => World.putObj_heap_other (hne b h)
    refine wpIn_mono (hbody (s + 1) O pre x a' _ (hIput _ hi hz) (hAt _ _ _ _ _ hat hkS) (hAx _ _ _ _ hax (keeps_put _ _ _)) (fun b h => (hO b h).1) (by simpa using hz)) ?_
    have fin : ∀ (jump : Option Code) (W3 : World), Keeps (W.putObj (s + 1) (.loop (R .busy none))) W3 Sb → Bk .busy none W3 ∧ (Instr.endRound (s + 1) jump).run P W3 = .ok (.bool jump.isNone) (W3.putObj (s + 1) (.loop (R (if jump.isNone then .ready else .done) jump))) := fun jump W3 hk3 => by
      have hb3 : Bk .busy none W3 := hBk hb2 hk3 fun k h => .inl (hSb k h).1
      exact ⟨hb3, run_endRound jump hb3.1⟩
    have leave : ∀ (c : Code) (W3 : World), Keeps (W.putObj (s + 1) (.loop (R .busy none))) W3 Sb → Ix c (pre ++ [x]) W3 → ∃ v W4, (Instr.endRound (s + 1) (some c)).run P W3 = .ok v W4 ∧
        ((Ending.returned v = .returned (.bool true) ∧ ((∀ b, O b → s + 2 ≤ b ∧ b < W4.heap.size) ∧ I (pre ++ [x]) W4 ∧ Bk .ready none W4) ∧ KpOf (fun b => S b ∨ O b) W0 W4) ∨ (Ending.returned v = .returned (.bool false) ∧ ∃ c, Ix c (pre ++ [x]) W4 ∧ Bk .done (some c) W4)) := fun c W3 hk3 hx3 => by
      obtain ⟨hb3, hr⟩ := fin (some c) W3 hk3
      exact ⟨_, _, hr, .inr ⟨rfl, c, hIx _ _ _ _ hx3 ((keeps_put _ _ _).mono fun _ _ h => .inr h), hput .done (some c) hb3⟩⟩
    rintro e a3 W3 hp
    cases e with
    | normal =>
      obtain ⟨hk3, hi3⟩ := hp
      obtain ⟨hb3, hr⟩ := fin none W3 hk3
      refine ⟨_, _, hr, .inl ⟨rfl, ⟨fun b h => ⟨(hO b h).1, by have := (hO b h).2; have := hk3.size; simp at this ⊢; omega⟩, hIput _ hi3 hb3.2.2, hput .ready none hb3⟩, fun b h => ?_⟩⟩
      have hlt : b < W.heap.size := Nat.lt_of_lt_of_le (hlt0 b h) hgr.size
      rw [World.putObj_heap_other (hne b h)]
      refine ((hk3.block b (by simpa using hlt) fun hs => ?_).trans (hkS b h)).trans (hk0 b h)
      rcases h with h | h
      · exact (hSb b hs).2 h
      · have := hO b h; have := (hSb b hs).1; omega
    | ret => exact leave _ _ hp.1 hp.2
    | exit id => exact leave _ _ hp.1 hp.2
    | goto t => exact leave _ _ hp.1 hp.2
    | panic ch => exact hp.elim
    | outgrown => exact hp.elim
  · -- behind the iterator
    rintro e W2 ⟨⟨v, rfl⟩, (⟨O, xs, hx, _, hi, hb⟩ | ⟨pre, hp, c, hx, hb⟩)⟩
    · exact ⟨none, _, run_endLoop hb.1 (by simp [R]), hdone xs _ hx (hIput _ hi hb.2.2) (by simpa using hb.2.2) ((World.putObj_heap_other (by omega)).trans hb.2.1)⟩
    · exact ⟨some c, _, run_endLoop hb.1 (by simp [R]), hstop c pre _ hp (hIx _ _ _ _ hx ((keeps_put _ _ _).mono fun _ _ h => .inr h)) (by simpa using hb.2.2) ((World.putObj_heap_other (by omega)).trans hb.2.1)⟩
end Go.Proofs.YtjdojbbjbippoaaDoor.Kit
