import Derived.Test.YtjdojbbjbippoaaDoorTD
namespace Go.Proofs.YtjdojbbjbippoaaDoor.Kit
open Go.RowKit Go.Shelf Go.Deep
/-! ### a range over an iterator within a round of another one; it is gone through to its end -/
def nPost {α : Type} (S O : Nat → Prop) (s : Nat) (I : (Nat → Prop) → List α → World → Prop) (Nx : List α → Prop) (xs : List α) (W : World) : Exit → Act → World → Prop
  | .normal, _, W' => (KpOf (fun b => S b ∨ O b ∨ b = s) W W' ∧ W.heap.size ≤ W'.heap.size) ∧ I O xs W'
  | .ret, _, W' => (KpOf (fun b => S b ∨ O b ∨ b = s) W W' ∧ W.heap.size ≤ W'.heap.size) ∧ Nx xs
  | _, _, _ => False
theorem rangeN {α : Type} {n : Nat} {P : Program} {g : Operand} {ps : Array Tmp} {assign body : Code} {Q : Exit → Act → World → Prop} {a : Act} {w : World} {l₀ : Nat} (hl₀ : ∃ r, w.heap[l₀]? = some (.loop r))
    (h1 : 1 ≤ n) {gf : Nat} {lb : Array Value} (hg : a.eval g = .func (.func gf) #[] lb) (eg : ∀ args w, (callFunc gf args).run P w = .ok (.enter gf args) w)
    {encs : α → Array Value} {At : Nat → (Nat → Prop) → Nat → α → World → Prop} {S : Nat → Prop} {Sx Sp : List α → Prop} (hseq : SeqM (n - 1) P gf lb encs At S Sx Sp w)
    (hps : ∀ x, (encs x).size = ps.size) (hS : ∀ b, S b → b < w.heap.size) (hAt : ∀ O M x A B, At (w.heap.size + 1) O M x A → w.heap.size + 1 ≤ A.heap.size → (∀ b, O b → w.heap.size + 1 ≤ b ∧ b < A.heap.size) → Keeps A B (fun k => k = w.heap.size) → At (w.heap.size + 1) O M x B)
    (I : (Nat → Prop) → List α → World → Prop)
    (hI : ∀ O O' pre A B, I O pre A → w.heap.size + 1 ≤ A.heap.size → (∀ b, O b → w.heap.size + 1 ≤ b ∧ b < A.heap.size) → Keeps A B O → (∀ k, O' k → k < B.heap.size ∧ (O k ∨ A.heap.size ≤ k)) → I O' pre B)
    (hIr : ∀ O pre A B, I O pre A → Keeps A B (fun k => k = w.heap.size) → I O pre B)
    (Nx : List α → Prop) (hNx : ∀ pre, Sp pre → ¬ Nx pre) (h0 : ∀ W, Keeps w W (fun _ => False) → W.heap.size = w.heap.size + 1 → I (fun _ => False) [] W) (Ax : α → Act → World → Prop) (hAx : ∀ x a' A B, Ax x a' A → Keeps A B (fun k => k = w.heap.size) → Ax x a' B)
    (hassign : ∀ (l : Nat) (x : α) (W : World) (K : Act → World → Prop), w.heap.size + 1 ≤ W.heap.size → (∀ a' W', Keeps W W' (fun _ => False) → Ax x a' W' → K a' W') →
      assign.wpIn (Fence.wide.inRound l) (n - 1 - 1) P (Exit.then K (fun _ _ _ => False)) { tmps := (ps.zip (encs x)).foldl (fun t (p, v) => t.setIfInBounds p v) a.tmps, defers := [] } W)
    (hbody : ∀ (l : Nat) (O : Nat → Prop) (pre : List α) (x : α) (a' : Act) (W : World), I O pre W → (∃ M, At (w.heap.size + 1) O M x W) → Ax x a' W → (∀ b, O b → w.heap.size + 1 ≤ b ∧ b < W.heap.size) → w.heap.size + 1 ≤ W.heap.size →
      body.wpIn (Fence.wide.inRound l) (n - 1 - 1) P (nPost S O w.heap.size I Nx (pre ++ [x]) W) a' W)
    (hdone : ∀ (O : Nat → Prop) (xs : List α) (W : World), Sx xs → I O xs W → w.heap.size + 1 ≤ W.heap.size → Q .normal a W) :
    (Code.rangeFunc g ps assign body).wpIn (Fence.wide.inRound l₀) n P Q a w := by
  obtain ⟨r₀, hl₀⟩ := hl₀
  refine wpIn_rangeFunc fun fn _ => ?_
  let R : LoopState → Option Code → Loop := fun st pe => { state := st, pending := pe, fn := fn, tmps := a.tmps, params := ps, assign := assign, body := body, defers := r₀.defers }
  let s := w.heap.size
  let W1 := w.alloc (.loop (R .ready none))
  have hz1 : W1.heap.size = s + 1 := by simp [W1, s]
  have hrec1 : W1.heap[s]? = some (.loop (R .ready none)) := World.alloc_heap_new w _
  have hk1 : Keeps w W1 (fun _ => False) := (Keeps.refl w _).alloc _
  refine ⟨s, [], W1, { target := .fn (.func gf) lb, args := #[.func (.yield s) #[] #[]] }, W1, gf, #[.func (.yield s) #[] #[]] ++ lb, W1,
    run_enterLoop_inner hl₀ _ _ _ _ _, (by simp only [resolve, hg]; simp [go_sem]), fun _ _ => trivial, by simp [invoke, go_sem, eg], fun _ => h1, CallsIn.inRound l₀ ?_⟩
  let Bk : LoopState → Option Code → World → Prop := fun st pe W => W.heap[s]? = some (.loop (R st pe)) ∧ s + 1 ≤ W.heap.size
  have hBk : ∀ {st pe A B} {T : Nat → Prop}, Bk st pe A → Keeps A B T → (∀ k, T k → k < s ∨ s + 1 ≤ k) → Bk st pe B := fun h k hT =>
    ⟨(k.block _ (by have := h.2; omega) fun ht => by have := hT _ ht; omega).trans h.1, Nat.le_trans h.2 k.size⟩
  have hput : ∀ {st pe W} (st' : LoopState) (pe' : Option Code), Bk st pe W → Bk st' pe' (W.putObj s (.loop (R st' pe'))) := fun st' pe' h =>
    ⟨World.putObj_heap_same (by have := h.2; omega), by simpa using h.2⟩
  have hIput : ∀ {O pre W} (o : Obj), I O pre W → I O pre (W.putObj s o) := fun {O pre W} o hi => hIr O pre _ _ hi (keeps_put W s o)
  have hseq' := hseq s (fun O _ pre W => (∀ b, O b → s + 1 ≤ b ∧ b < W.heap.size) ∧ I O pre W ∧ Bk .ready none W) (fun _ pre _ => Nx pre) W1 hk1
  rw [hz1] at hseq'
  refine (hseq' ?_ ?_ ?_ ⟨fun _ h => h.elim, h0 _ hk1 hz1, hrec1, by omega⟩).mono ?_
  · rintro _ O O' pre A B ⟨hO, hi, hb⟩ hk hO'
    have hz := hb.2
    refine ⟨fun b h => ⟨(hO' b h).2.elim (fun h => (hO b h).1) fun h => by omega, (hO' b h).1⟩, hI _ _ _ _ _ hi hz hO hk hO', hBk hb hk fun k h => .inr (hO k h).1⟩
  · exact fun _ _ _ _ h _ => h
  · rintro O M pre x W0 ⟨hO0, hi0, hb0⟩ hat0
    refine ⟨fn, _, assign, body, run_yield hb0.1 (hps x), roundIn_of_wpIn trivial (hassign _ x W0 _ hb0.2 ?_)⟩
    intro a' W hgr hax
    have hz0 := hb0.2
    have hb : Bk .ready none W := hBk hb0 hgr fun k h => h.elim
    have hz := hb.2
    have hO : ∀ b, O b → s + 1 ≤ b ∧ b < W.heap.size := fun b h => ⟨(hO0 b h).1, Nat.lt_of_lt_of_le (hO0 b h).2 hgr.size⟩
    have hi : I O pre W := hI _ _ _ _ _ hi0 hz0 hO0 (hgr.mono fun _ _ h => h.elim) fun k h => ⟨(hO k h).2, .inl h⟩
    have hlt0 : ∀ b, S b ∨ O b → b < W0.heap.size := fun b h => h.elim (fun h => by have := hS b h; show b < W0.heap.size; have : s = w.heap.size := rfl; omega) fun h => (hO0 b h).2
    have hk0 : KpOf (fun b => S b ∨ O b) W0 W := fun b h => hgr.block b (hlt0 b h) id
    have hat : At (s + 1) O M x W := hAt _ _ _ _ _ hat0 hz0 hO0 (hgr.mono fun _ _ h => h.elim)
    refine ⟨_, run_beginRound hb.1 rfl, ?_⟩
    have hb2 := hput .busy none hb
    have hne : ∀ b, S b ∨ O b → b ≠ s := by
      rintro b (h | h)
      · have := hS b h
        show b ≠ w.heap.size
        omega
      · have := hO b h
        omega
    have hkS : KpOf (fun b => S b ∨ O b) W (W.putObj s (.loop (R .busy none))) := fun b h => World.putObj_heap_other (hne b h)
    have hO2 : ∀ b, O b → s + 1 ≤ b ∧ b < (W.putObj s (.loop (R .busy none))).heap.size := fun b h => by simpa using hO b h
    refine wpIn_mono (hbody s O pre x a' _ (hIput _ hi) ⟨M, hAt _ _ _ _ _ hat hz hO (keeps_put _ _ _)⟩ (hAx _ _ _ _ hax (keeps_put _ _ _)) hO2 (by simpa using hz)) ?_
    rintro e a3 W3 hp
    cases e with
    | normal =>
      obtain ⟨hk3, hi3⟩ := hp
      have hb3 : Bk .busy none W3 := ⟨(hk3.1 _ (.inr (.inr rfl))).trans hb2.1, Nat.le_trans hb2.2 hk3.2⟩
      refine ⟨_, _, run_endRound none hb3.1, ⟨fun b h => ?_, by have := hgr.size; have := hk3.2; simp at this ⊢; omega⟩, .inl ⟨rfl, fun b h => ⟨(hO b h).1, by have := (hO b h).2; have := hk3.2; simp at this ⊢; omega⟩, hIput _ hi3, hput .ready none hb3⟩⟩
      rw [World.putObj_heap_other (hne b h)]
      exact ((hk3.1 b (h.elim .inl fun h => .inr (.inl h))).trans (hkS b h)).trans (hk0 b h)
    | ret =>
      obtain ⟨hk3, hn3⟩ := hp
      have hb3 : Bk .busy none W3 := ⟨(hk3.1 _ (.inr (.inr rfl))).trans hb2.1, Nat.le_trans hb2.2 hk3.2⟩
      refine ⟨_, _, run_endRound (some .ret) hb3.1, ⟨fun b h => ?_, by have := hgr.size; have := hk3.2; simp at this ⊢; omega⟩, .inr ⟨rfl, hn3⟩⟩
      rw [World.putObj_heap_other (hne b h)]
      exact ((hk3.1 b (h.elim .inl fun h => .inr (.inl h))).trans (hkS b h)).trans (hk0 b h)
    | exit id => exact hp.elim
    | goto t => exact hp.elim
    | panic ch => exact hp.elim
    | outgrown => exact hp.elim
  · rintro e W2 ⟨⟨v, rfl⟩, (⟨O, M, xs, hx, _, hi, hb⟩ | ⟨O, pre, hp, hf⟩)⟩
    · exact ⟨none, _, run_endLoop hb.1 (by simp [R]), hdone O xs _ hx (hIput _ hi) (by simpa using hb.2)⟩
    · exact absurd hf (hNx pre hp)
end Go.Proofs.YtjdojbbjbippoaaDoor.Kit
