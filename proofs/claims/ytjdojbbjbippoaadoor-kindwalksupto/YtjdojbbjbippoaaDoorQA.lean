import Derived.Test.YtjdojbbjbippoaaDoorEC
namespace Go.Proofs.YtjdojbbjbippoaaDoor.Kit
open Go.RowKit Go.Shelf Go.Deep

/-! ### a range over an iterator that hands out new memory -/
/-- what abides, once the loop was left, what the iterator still does with its own blocks -/
def LAbides {β : Type} (J : (Nat → Prop) → β → World → Prop) : Prop := ∀ (O : Nat → Prop) (s : β) (A B : World), J O s A → Keeps A B O → J O s B
/-- the iterator's word; At is told how great the memory was when it was called -/
def SeqNew {α : Type} (n : Nat) (P : Program) (g : Nat) (lb : Array Value) (encs : α → Array Value) (At : Nat → (Nat → Prop) → List α → α → World → Prop) (S : Nat → Prop) (Sx Sp : List α → Prop) (w : World) : Prop :=
  ∀ (l : Nat) (J : (Nat → Prop) → List α → World → Prop) (Jx : (Nat → Prop) → List α → World → Prop) (W : World), Keeps w W (fun _ => False) → JAbides J → LAbides Jx →
    (∀ O pre x W1, J O pre W1 → At W.heap.size O pre x W1 → YieldAt Fence.wide (n - 1) P l (encs x) W1 fun e W' =>
      (KpOf (fun b => S b ∨ O b) W1 W' ∧ W1.heap.size ≤ W'.heap.size) ∧ ((e = .returned (.bool true) ∧ J O (pre ++ [x]) W') ∨ (e = .returned (.bool false) ∧ Jx O (pre ++ [x]) W'))) →
    J (fun _ => False) [] W →
    CallsIn Fence.wide n P g (#[.func (.yield l) #[] #[]] ++ lb) W fun e W' => (∃ v, e = .returned v) ∧ ((∃ O xs, Sx xs ∧ J O xs W') ∨ (∃ O pre, Sp pre ∧ Jx O pre W'))
theorem SeqOwn.new {α : Type} {n : Nat} {P : Program} {g : Nat} {lb : Array Value} {encs : α → Array Value} {At : (Nat → Prop) → List α → α → World → Prop} {S : Nat → Prop} {Sx Sp : List α → Prop} {w : World} (h : SeqOwn n P g lb encs At S Sx Sp w) : SeqNew n P g lb encs (fun _ => At) S Sx Sp w := fun l J Jx W hW hJ hL hY h0 => by
  refine (h l J (fun pre V => ∃ O, Jx O pre V) W hW hJ (fun pre A B ⟨O, hx⟩ k => ⟨O, hL O pre A B hx (k.mono fun _ _ f => f.elim)⟩) (fun O pre x W1 hj hat => (hY O pre x W1 hj hat).mono fun e W' => ?_) h0).mono fun e W' => ?_
  · exact fun ⟨hk, h⟩ => h.imp (fun ⟨e, hj⟩ => ⟨e, hj, hk.1⟩) fun ⟨e, hx⟩ => ⟨e, O, hx⟩
  · rintro ⟨hv, h | ⟨pre, hp, O, hx⟩⟩
    · exact ⟨hv, .inl h⟩
    · exact ⟨hv, .inr ⟨O, pre, hp, hx⟩⟩

/-- what the body leaves alone: the iterator's blocks, and the record's two -/
def Left (S O : Nat → Prop) (s : Nat) (W W' : World) : Prop := KpOf (fun b => S b ∨ O b ∨ b = s ∨ b = s + 1) W W' ∧ W.heap.size ≤ W'.heap.size
def yPost {α : Type} (S O : Nat → Prop) (s : Nat) (I : (Nat → Prop) → List α → World → Prop) (Ix : (Nat → Prop) → Code → List α → World → Prop) (xs : List α) (W : World) : Exit → Act → World → Prop
  | .normal, _, W' => Left S O s W W' ∧ I O xs W'
  | .ret, _, W' => Left S O s W W' ∧ Ix O .ret xs W'
  | .exit id, _, W' => Left S O s W W' ∧ Ix O (.exit id) xs W'
  | .goto t, _, W' => Left S O s W W' ∧ Ix O (.goto t) xs W'
  | .panic _, _, _ => False
  | .outgrown, _, _ => False

theorem rangeY {α : Type} {n : Nat} {P : Program} {g : Operand} {ps : Array Tmp} {assign body : Code} {Q : Exit → Act → World → Prop} {a : Act} {w : World}
    (h1 : 1 ≤ n) {gf : Nat} {lb : Array Value} (hg : a.eval g = .func (.func gf) #[] lb) (eg : ∀ args w, (callFunc gf args).run P w = .ok (.enter gf args) w)
    {encs : α → Array Value} {At : Nat → (Nat → Prop) → List α → α → World → Prop} {S : Nat → Prop} {Sx Sp : List α → Prop} (hseq : SeqNew (n - 1) P gf lb encs At S Sx Sp w)
    (hps : ∀ x, (encs x).size = ps.size) (hS : ∀ b, S b → b < w.heap.size) (hAt : ∀ O pre x A B, At (w.heap.size + 2) O pre x A → w.heap.size + 2 ≤ A.heap.size → (∀ b, O b → w.heap.size + 2 ≤ b ∧ b < A.heap.size) → Keeps A B (fun k => k = w.heap.size + 1) → At (w.heap.size + 2) O pre x B)
    (I : (Nat → Prop) → List α → World → Prop)
    (hI : ∀ O O' pre A B, I O pre A → w.heap.size + 2 ≤ A.heap.size → (∀ b, O b → w.heap.size + 2 ≤ b ∧ b < A.heap.size) → Keeps A B O → (∀ k, O' k → k < B.heap.size ∧ (O k ∨ A.heap.size ≤ k)) → I O' pre B)
    (hIr : ∀ O pre A B, I O pre A → Keeps A B (fun k => k = w.heap.size ∨ k = w.heap.size + 1) → I O pre B)
    (Ix : (Nat → Prop) → Code → List α → World → Prop) (hIx : ∀ O c pre A B, Ix O c pre A → Keeps A B (fun k => O k ∨ k = w.heap.size ∨ k = w.heap.size + 1) → Ix O c pre B)
    (h0 : ∀ W, Keeps w W (fun _ => False) → W.heap.size = w.heap.size + 2 → I (fun _ => False) [] W) (Ax : α → Act → World → Prop) (hAx : ∀ x a' A B, Ax x a' A → Keeps A B (fun k => k = w.heap.size + 1) → Ax x a' B)
    (hassign : ∀ (l : Nat) (x : α) (W : World) (K : Act → World → Prop), w.heap.size + 2 ≤ W.heap.size → (∀ a' W', Keeps W W' (fun _ => False) → Ax x a' W' → K a' W') →
      assign.wpIn (Fence.wide.inRound l) (n - 1 - 1) P (Exit.then K (fun _ _ _ => False)) { tmps := (ps.zip (encs x)).foldl (fun t (p, v) => t.setIfInBounds p v) a.tmps, defers := [] } W)
    (hbody : ∀ (l : Nat) (O : Nat → Prop) (pre : List α) (x : α) (a' : Act) (W : World), I O pre W → At (w.heap.size + 2) O pre x W → Ax x a' W → (∀ b, O b → w.heap.size + 2 ≤ b ∧ b < W.heap.size) → w.heap.size + 2 ≤ W.heap.size →
      body.wpIn (Fence.wide.inRound l) (n - 1 - 1) P (yPost S O w.heap.size I Ix (pre ++ [x]) W) a' W)
    (hdone : ∀ (O : Nat → Prop) (xs : List α) (W : World), Sx xs → I O xs W → w.heap.size + 2 ≤ W.heap.size → W.heap[w.heap.size]? = some (.deferred (some [])) → Q .normal { a with defers := { target := .collected w.heap.size, args := #[] } :: a.defers } W)
    (hstop : ∀ (O : Nat → Prop) (c : Code) (pre : List α) (W : World), Sp pre → Ix O c pre W → w.heap.size + 2 ≤ W.heap.size → W.heap[w.heap.size]? = some (.deferred (some [])) → c.wpIn Fence.wide n P Q { a with defers := { target := .collected w.heap.size, args := #[] } :: a.defers } W) :
    (Code.rangeFunc g ps assign body).wpIn Fence.wide n P Q a w := by
  refine wpIn_rangeFunc fun fn _ => ?_
  let R : LoopState → Option Code → Loop := fun st pe => { state := st, pending := pe, fn := fn, tmps := a.tmps, params := ps, assign := assign, body := body, defers := w.heap.size }
  let s := w.heap.size
  let W1 := (w.alloc (.deferred (some []))).alloc (.loop (R .ready none))
  have hz1 : W1.heap.size = s + 2 := by simp [W1, s]
  have hrec1 : W1.heap[s + 1]? = some (.loop (R .ready none)) := by
    have := World.alloc_heap_new (w.alloc (.deferred (some []))) (.loop (R .ready none))
    rwa [World.size_alloc] at this
  have hdef1 : W1.heap[s]? = some (.deferred (some [])) := (Below.heap_alloc _ _ _ (by simp [s])).trans (World.alloc_heap_new w _)
  have hk1 : Keeps w W1 (fun _ => False) := ((Keeps.refl w _).alloc _).alloc _
  refine ⟨s + 1, [{ target := .collected s, args := #[] }], W1, { target := .fn (.func gf) lb, args := #[.func (.yield (s + 1)) #[] #[]] }, W1, gf, #[.func (.yield (s + 1)) #[] #[]] ++ lb, W1,
    run_enterLoop_outer _ _ _ _ _, (by simp only [resolve, hg]; simp [go_sem]), fun _ _ => trivial, by simp [invoke, go_sem, eg], fun _ => h1, ?_⟩
  let Bk : LoopState → Option Code → World → Prop := fun st pe W => W.heap[s + 1]? = some (.loop (R st pe)) ∧ W.heap[s]? = some (.deferred (some [])) ∧ s + 2 ≤ W.heap.size
  have hBk : ∀ {st pe A B} {T : Nat → Prop}, Bk st pe A → Keeps A B T → (∀ k, T k → k < s ∨ s + 2 ≤ k) → Bk st pe B := fun h k hT =>
    ⟨(k.block _ (by have := h.2.2; omega) fun ht => by have := hT _ ht; omega).trans h.1, (k.block _ (by have := h.2.2; omega) fun ht => by have := hT _ ht; omega).trans h.2.1, Nat.le_trans h.2.2 k.size⟩
  have hput : ∀ {st pe W} (st' : LoopState) (pe' : Option Code), Bk st pe W → Bk st' pe' (W.putObj (s + 1) (.loop (R st' pe'))) := fun st' pe' h =>
    ⟨World.putObj_heap_same (by have := h.2.2; omega), (World.putObj_heap_other (by omega)).trans h.2.1, by simpa using h.2.2⟩
  have hIput : ∀ {O pre W} (o : Obj), I O pre W → I O pre (W.putObj (s + 1) o) := fun {O pre W} o hi => hIr O pre _ _ hi ((keeps_put W (s + 1) o).mono fun _ _ e => .inr e)
  have hseq' := hseq (s + 1) (fun O pre W => (∀ b, O b → s + 2 ≤ b ∧ b < W.heap.size) ∧ I O pre W ∧ Bk .ready none W) (fun O pre W => (∀ b, O b → s + 2 ≤ b) ∧ ∃ c, Ix O c pre W ∧ Bk .done (some c) W) W1 hk1
  rw [hz1] at hseq'
  refine (hseq' ?_ ?_ ?_ ⟨fun _ h => h.elim, h0 _ hk1 hz1, hrec1, hdef1, by omega⟩).mono ?_
  · rintro O O' pre A B ⟨hO, hi, hb⟩ hk hO'
    have hz := hb.2.2
    refine ⟨fun b h => ⟨(hO' b h).2.elim (fun h => (hO b h).1) fun h => by omega, (hO' b h).1⟩, hI _ _ _ _ _ hi hz hO hk hO', hBk hb hk fun k h => .inr (hO k h).1⟩
  · rintro O pre A B ⟨hO, c, hx, hb⟩ hk
    exact ⟨hO, c, hIx _ _ _ _ _ hx (hk.mono fun _ _ h => .inl h), hBk hb hk fun k h => .inr (hO k h)⟩
  · rintro O pre x W0 ⟨hO0, hi0, hb0⟩ hat0
    refine ⟨fn, _, assign, body, run_yield hb0.1 (hps x), roundIn_of_wpIn trivial (hassign _ x W0 _ hb0.2.2 ?_)⟩
    intro a' W hgr hax
    have hz0 := hb0.2.2
    have hb : Bk .ready none W := hBk hb0 hgr fun k h => h.elim
    have hz := hb.2.2
    have hO : ∀ b, O b → s + 2 ≤ b ∧ b < W.heap.size := fun b h => ⟨(hO0 b h).1, Nat.lt_of_lt_of_le (hO0 b h).2 hgr.size⟩
    have hi : I O pre W := hI _ _ _ _ _ hi0 hz0 hO0 (hgr.mono fun _ _ h => h.elim) fun k h => ⟨(hO k h).2, .inl h⟩
    have hlt0 : ∀ b, S b ∨ O b → b < W0.heap.size := fun b h => h.elim (fun h => by have := hS b h; show b < W0.heap.size; have : s = w.heap.size := rfl; omega) fun h => (hO0 b h).2
    have hk0 : KpOf (fun b => S b ∨ O b) W0 W := fun b h => hgr.block b (hlt0 b h) id
    have hat : At (s + 2) O pre x W := hAt _ _ _ _ _ hat0 hz0 hO0 (hgr.mono fun _ _ h => h.elim)
    refine ⟨_, run_beginRound hb.1 rfl, ?_⟩
    have hb2 := hput .busy none hb
    have hne : ∀ b, S b ∨ O b → b ≠ s + 1 := by
      rintro b (h | h)
      · have := hS b h
        show b ≠ w.heap.size + 1
        omega
      · have := hO b h
        omega
    have hkS : KpOf (fun b => S b ∨ O b) W (W.putObj (s + 1) (.loop (R .busy none))) := fun b h => World.putObj_heap_other (hne b h)
    have hO2 : ∀ b, O b → s + 2 ≤ b ∧ b < (W.putObj (s + 1) (.loop (R .busy none))).heap.size := fun b h => by simpa using hO b h
    refine wpIn_mono (hbody (s + 1) O pre x a' _ (hIput _ hi) (hAt _ _ _ _ _ hat hz hO (keeps_put _ _ _)) (hAx _ _ _ _ hax (keeps_put _ _ _)) hO2 (by simpa using hz)) ?_
    have fin : ∀ (jump : Option Code) (W3 : World), Left S O s (W.putObj (s + 1) (.loop (R .busy none))) W3 → Bk .busy none W3 ∧ (Instr.endRound (s + 1) jump).run P W3 = .ok (.bool jump.isNone) (W3.putObj (s + 1) (.loop (R (if jump.isNone then .ready else .done) jump))) := fun jump W3 hk3 => by
      have hb3 : Bk .busy none W3 := ⟨(hk3.1 _ (.inr (.inr (.inr rfl)))).trans hb2.1, (hk3.1 _ (.inr (.inr (.inl rfl)))).trans hb2.2.1, Nat.le_trans hb2.2.2 hk3.2⟩
      exact ⟨hb3, run_endRound jump hb3.1⟩
    have kept : ∀ (W3 : World) (o : Obj), Left S O s (W.putObj (s + 1) (.loop (R .busy none))) W3 → KpOf (fun b => S b ∨ O b) W0 (W3.putObj (s + 1) o) ∧ W0.heap.size ≤ (W3.putObj (s + 1) o).heap.size := fun W3 o hk3 => by
      refine ⟨fun b h => ?_, by have := hgr.size; have := hk3.2; simp at this ⊢; omega⟩
      rw [World.putObj_heap_other (hne b h)]
      exact ((hk3.1 b (h.elim .inl fun h => .inr (.inl h))).trans (hkS b h)).trans (hk0 b h)
    have leave : ∀ (c : Code) (W3 : World), Left S O s (W.putObj (s + 1) (.loop (R .busy none))) W3 → Ix O c (pre ++ [x]) W3 → ∃ v W4, (Instr.endRound (s + 1) (some c)).run P W3 = .ok v W4 ∧
        (KpOf (fun b => S b ∨ O b) W0 W4 ∧ W0.heap.size ≤ W4.heap.size) ∧ ((Ending.returned v = .returned (.bool true) ∧ ((∀ b, O b → s + 2 ≤ b ∧ b < W4.heap.size) ∧ I O (pre ++ [x]) W4 ∧ Bk .ready none W4)) ∨ (Ending.returned v = .returned (.bool false) ∧ (∀ b, O b → s + 2 ≤ b) ∧ ∃ c, Ix O c (pre ++ [x]) W4 ∧ Bk .done (some c) W4)) := fun c W3 hk3 hx3 => by
      obtain ⟨hb3, hr⟩ := fin (some c) W3 hk3
      exact ⟨_, _, hr, kept W3 _ hk3, .inr ⟨rfl, fun b h => (hO b h).1, c, hIx _ _ _ _ _ hx3 ((keeps_put _ _ _).mono fun _ _ h => .inr (.inr h)), hput .done (some c) hb3⟩⟩
    rintro e a3 W3 hp
    cases e with
    | normal =>
      obtain ⟨hk3, hi3⟩ := hp
      obtain ⟨hb3, hr⟩ := fin none W3 hk3
      exact ⟨_, _, hr, kept W3 _ hk3, .inl ⟨rfl, fun b h => ⟨(hO b h).1, by have := (hO b h).2; have := hk3.2; simp at this ⊢; omega⟩, hIput _ hi3, hput .ready none hb3⟩⟩
    | ret => exact leave _ _ hp.1 hp.2
    | exit id => exact leave _ _ hp.1 hp.2
    | goto t => exact leave _ _ hp.1 hp.2
    | panic ch => exact hp.elim
    | outgrown => exact hp.elim
  · rintro e W2 ⟨⟨v, rfl⟩, (⟨O, xs, hx, _, hi, hb⟩ | ⟨O, pre, hp, _, c, hx, hb⟩)⟩
    · exact ⟨none, _, run_endLoop hb.1 (by simp [R]), hdone O xs _ hx (hIput _ hi) (by simpa using hb.2.2) ((World.putObj_heap_other (by omega)).trans hb.2.1)⟩
    · exact ⟨some c, _, run_endLoop hb.1 (by simp [R]), hstop O c pre _ hp (hIx _ _ _ _ _ hx ((keeps_put _ _ _).mono fun _ _ h => .inr (.inr h))) (by simpa using hb.2.2) ((World.putObj_heap_other (by omega)).trans hb.2.1)⟩
/-- a call of yield, in a round of another loop too -/
theorem yieldRound {m m' : Nat} {P : Program} {l l' : Nat} {args : Array Value} {W : World} {R : Ending → World → Prop} (h : YieldAt Fence.wide m P l args W R) : YieldAt (Fence.wide.inRound l') m' P l args W R := by
  obtain ⟨fn, tmps, assign, body, hy, hR⟩ := h
  exact ⟨fn, tmps, assign, body, hy, hR.1, fun c cs _ => hR.2 c cs fun d hd => by cases hd⟩
end Go.Proofs.YtjdojbbjbippoaaDoor.Kit
