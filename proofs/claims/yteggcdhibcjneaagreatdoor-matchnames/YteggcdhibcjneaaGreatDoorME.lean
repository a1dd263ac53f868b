import Derived.Test.YteggcdhibcjneaaGreatDoorFD
import Derived.Test.YteggcdhibcjneaaGreatDoorMD
set_option maxRecDepth 100000
set_option maxHeartbeats 4000000
namespace Go.Proofs.YteggcdhibcjneaaGreatDoor.Kit
open Go.RowKit Go.Shelf Go.Deep
/-! ### a range over an iterator that hands out new memory -/
/-- what abides, once the loop was left, what the iterator still does with its own blocks -/
def LAbides {β : Type} (J : (Nat → Prop) → β → World → Prop) : Prop := ∀ (O : Nat → Prop) (s : β) (A B : World), J O s A → Keeps A B O → J O s B
/-- the iterator's word; At is told how great the memory was when it was called -/
def SeqNew {α : Type} (n : Nat) (P : Program) (g : Nat) (lb : Array Value) (encs : α → Array Value) (At : Nat → (Nat → Prop) → List α → α → World → Prop) (S : Nat → Prop) (Sx Sp : List α → Prop) (w : World) : Prop :=
  ∀ (l : Nat) (J : (Nat → Prop) → List α → World → Prop) (Jx : (Nat → Prop) → List α → World → Prop) (W : World), Keeps w W (fun _ => False) → JAbides J → LAbides Jx →
    (∀ O pre x W1, J O pre W1 → At W.heap.size O pre x W1 → YieldAt Fence.wide (n - 1) P l (encs x) W1 fun e W' =>
      (KpOf (fun b => S b ∨ O b) W1 W' ∧ W1.heap.size ≤ W'.heap.size) ∧ ((e = .returned (.bool true) ∧ J O (pre ++ [x]) W') ∨ (e = .returned (.bool false) ∧ Jx O (pre ++ [x]) W'))) →
    J (fun _ => False) [] W →
    CallsIn Fence.wide n P g (#[.func (.yield l) #[] #[]] ++ lb) W fun e W' => (∃ v, e = .returned v) ∧ ((∃ O xs, Sx xs ∧ J O xs W') ∨ (∃ O pre, Sp pre ∧ Jx O pre W'))
theorem SeqOwn.new {α : Type} {n : Nat} {P : Program} {g : Nat} {lb : Array Value} {encs : α → Array Value} {At : (Nat → Prop) → List α → α → World → Prop} {S : Nat → Prop} {Sx Sp : List α → Prop} {w : World} (h : SeqOwn n P g lb encs At S Sx Sp w) : SeqNew n P g lb encs (fun _ => At) S Sx Sp w := fun l J Jx W hW hJ hL hY h0 => by
  refine (h l J (fun pre V => ∃ O, Jx O pre V) W hW hJ (fun pre A B ⟨O, hx⟩ k => ⟨O, hL O pre A B hx (k.mono fun _ _ f => f.elim)⟩) (fun O pre x W1 hj hat => (hY O pre x W1 hj hat).mono fun e W' => ?_) h0).mono fun e W' => ?_
  · exact fun ⟨hk, h⟩ => h.imp (fun ⟨e, hj⟩ => ⟨e, hj, hk.1⟩) fun ⟨e, hx⟩ => ⟨e, O, hx⟩
  · rintro ⟨hv, h | ⟨pre, hp, O, hx⟩⟩
    · exact ⟨hv, .inl h⟩
    · exact ⟨hv, .inr ⟨O, pre, hp, hx⟩⟩

/-- what the body leaves alone: the iterator's blocks, and the record's two -/
def Left (S O : Nat → Prop) (s : Nat) (W W' : World) : Prop := KpOf (fun b => S b ∨ O b ∨ b = s ∨ b = s + 1) W W' ∧ W.heap.size ≤ W'.heap.size
def yPost {α : Type} (S O : Nat → Prop) (s : Nat) (I : (Nat → Prop) → List α → World → Prop) (Ix : (Nat → Prop) → Code → List α → World → Prop) (xs : List α) (W : World) : Exit → Act → World → Prop
  | .normal, _, W' => Left S O s W W' ∧ I O xs W'
  | .ret, _, W' => Left S O s W W' ∧ Ix O .ret xs W'
  | .exit id, _, W' => Left S O s W W' ∧ Ix O (.exit id) xs W'
  | .goto t, _, W' => Left S O s W W' ∧ Ix O (.goto t) xs W'
  | .panic _, _, _ => False
  | .outgrown, _, _ => False

theorem rangeY {α : Type} {n : Nat} {P : Program} {g : Operand} {ps : Array Tmp} {assign body : Code} {Q : Exit → Act → World → Prop} {a : Act} {w : World}
    (h1 : 1 ≤ n) {gf : Nat} {lb : Array Value} (hg : a.eval g = .func (.func gf) #[] lb) (eg : ∀ args w, (callFunc gf args).run P w = .ok (.enter gf args) w)
    {encs : α → Array Value} {At : Nat → (Nat → Prop) → List α → α → World → Prop} {S : Nat → Prop} {Sx Sp : List α → Prop} (hseq : SeqNew (n - 1) P gf lb encs At S Sx Sp w)
    (hps : ∀ x, (encs x).size = ps.size) (hS : ∀ b, S b → b < w.heap.size) (hAt : ∀ O pre x A B, At (w.heap.size + 2) O pre x A → w.heap.size + 2 ≤ A.heap.size → (∀ b, O b → w.heap.size + 2 ≤ b ∧ b < A.heap.size) → Keeps A B (fun k => k = w.heap.size + 1) → At (w.heap.size + 2) O pre x B)
    (I : (Nat → Prop) → List α → World → Prop)
    (hI : ∀ O O' pre A B, I O pre A → w.heap.size + 2 ≤ A.heap.size → (∀ b, O b → w.heap.size + 2 ≤ b ∧ b < A.heap.size) → Keeps A B O → (∀ k, O' k → k < B.heap.size ∧ (O k ∨ A.heap.size ≤ k)) → I O' pre B)
    (hIr : ∀ O pre A B, I O pre A → Keeps A B (fun k => k = w.heap.size ∨ k = w.heap.size + 1) → I O pre B)
    (Ix : (Nat → Prop) → Code → List α → World → Prop) (hIx : ∀ O c pre A B, Ix O c pre A → Keeps A B (fun k => O k ∨ k = w.heap.size ∨ k = w.heap.size + 1) → Ix O c pre B)
    (h0 : ∀ W, Keeps w W (fun _ => False) → W.heap.size = w.heap.size + 2 → I (fun _ => False) [] W) (Ax : α → Act → World → Prop) (hAx : ∀ x a' A B, Ax x a' A → Keeps A B (fun k => k = w.heap.size + 1) → Ax x a' B)
    (hassign : ∀ (l : Nat) (x : α) (W : World) (K : Act → World → Prop), w.heap.size + 2 ≤ W.heap.size → (∀ a' W', Keeps W W' (fun _ => False) → Ax x a' W' → K a' W') →
      assign.wpIn (Fence.wide.inRound l) (n - 1 - 1) P (Exit.then K (fun _ _ _ => False)) { tmps := (ps.zip (encs x)).foldl (fun t (p, v) => t.setIfInBounds p v) a.tmps, defers := [] } W)
    (hbody : ∀ (l : Nat) (O : Nat → Prop) (pre : List α) (x : α) (a' : Act) (W : World), I O pre W → At (w.heap.size + 2) O pre x W → Ax x a' W → (∀ b, O b → w.heap.size + 2 ≤ b ∧ b < W.heap.size) → w.heap.size + 2 ≤ W.heap.size → W.heap[w.heap.size]? = some (.deferred (some [])) → (∃ lp, W.heap[w.heap.size + 1]? = some (.loop lp)) →
      body.wpIn (Fence.wide.inRound l) (n - 1 - 1) P (yPost S O w.heap.size I Ix (pre ++ [x]) W) a' W)
    (hdone : ∀ (O : Nat → Prop) (xs : List α) (W : World), Sx xs → I O xs W → w.heap.size + 2 ≤ W.heap.size → W.heap[w.heap.size]? = some (.deferred (some [])) → Q .normal { a with defers := { target := .collected w.heap.size, args := #[] } :: a.defers } W)
    (hstop : ∀ (O : Nat → Prop) (c : Code) (pre : List α) (W : World), Sp pre → Ix O c pre W → w.heap.size + 2 ≤ W.heap.size → W.heap[w.heap.size]? = some (.deferred (some [])) → c.wpIn Fence.wide n P Q { a with defers := { target := .collected w.heap.size, args := #[] } :: a.defers } W) :
    (Code.rangeFunc g ps assign body).wpIn Fence.wide n P Q a w := by
  refine wpIn_rangeFunc fun fn _ => ?_
  let R : LoopState → Option Code → Loop := fun st pe => { state := st, pending := pe, fn := fn, tmps := a.tmps, params := ps, assign := assign, body := body, defers := w.heap.size }
  let s := w.heap.size
  let W1 := (w.alloc (.deferred (some []))).alloc (.loop (R .ready none))
  have hz1 : W1.heap.size = s + 2 := by simp [W1, s]
  have hrec1 : W1.heap[s + 1]? = some (.loop (R .ready none)) := by
    have := World.alloc_heap_new (w.alloc (.deferred (some []))) (.loop (R .ready none))
    rwa [World.size_alloc] at this
  have hdef1 : W1.heap[s]? = some (.deferred (some [])) := (Below.heap_alloc _ _ _ (by simp [s])).trans (World.alloc_heap_new w _)
  have hk1 : Keeps w W1 (fun _ => False) := ((Keeps.refl w _).alloc _).alloc _
  refine ⟨s + 1, [{ target := .collected s, args := #[] }], W1, { target := .fn (.func gf) lb, args := #[.func (.yield (s + 1)) #[] #[]] }, W1, gf, #[.func (.yield (s + 1)) #[] #[]] ++ lb, W1,
    run_enterLoop_outer _ _ _ _ _, (by simp only [resolve, hg]; simp [go_sem]), fun _ _ => trivial, by simp [invoke, go_sem, eg], fun _ => h1, ?_⟩
  let Bk : LoopState → Option Code → World → Prop := fun st pe W => W.heap[s + 1]? = some (.loop (R st pe)) ∧ W.heap[s]? = some (.deferred (some [])) ∧ s + 2 ≤ W.heap.size
  have hBk : ∀ {st pe A B} {T : Nat → Prop}, Bk st pe A → Keeps A B T → (∀ k, T k → k < s ∨ s + 2 ≤ k) → Bk st pe B := fun h k hT =>
    ⟨(k.block _ (by have := h.2.2; omega) fun ht => by have := hT _ ht; omega).trans h.1, (k.block _ (by have := h.2.2; omega) fun ht => by have := hT _ ht; omega).trans h.2.1, Nat.le_trans h.2.2 k.size⟩
  have hput : ∀ {st pe W} (st' : LoopState) (pe' : Option Code), Bk st pe W → Bk st' pe' (W.putObj (s + 1) (.loop (R st' pe'))) := fun st' pe' h =>
    ⟨World.putObj_heap_same (by have := h.2.2; omega), (World.putObj_heap_other (by omega)).trans h.2.1, by simpa using h.2.2⟩
  have hIput : ∀ {O pre W} (o : Obj), I O pre W → I O pre (W.putObj (s + 1) o) := fun {O pre W} o hi => hIr O pre _ _ hi ((keeps_put W (s + 1) o).mono fun _ _ e => .inr e)
  have hseq' := hseq (s + 1) (fun O pre W => (∀ b, O b → s + 2 ≤ b ∧ b < W.heap.size) ∧ I O pre W ∧ Bk .ready none W) (fun O pre W => (∀ b, O b → s + 2 ≤ b) ∧ ∃ c, Ix O c pre W ∧ Bk .done (some c) W) W1 hk1
  rw [hz1] at hseq'
  refine (hseq' ?_ ?_ ?_ ⟨fun _ h => h.elim, h0 _ hk1 hz1, hrec1, hdef1, by omega⟩).mono ?_
  · rintro O O' pre A B ⟨hO, hi, hb⟩ hk hO'
    have hz := hb.2.2
    refine ⟨fun b h => ⟨(hO' b h).2.elim (fun h => (hO b h).1) fun h => by omega, (hO' b h).1⟩, hI _ _ _ _ _ hi hz hO hk hO', hBk hb hk fun k h => .inr (hO k h).1⟩
  · rintro O pre A B ⟨hO, c, hx, hb⟩ hk
    exact ⟨hO, c, hIx _ _ _ _ _ hx (hk.mono fun _ _ h => .inl h), hBk hb hk fun k h => .inr (hO k h)⟩
  · rintro O pre x W0 ⟨hO0, hi0, hb0⟩ hat0
    refine ⟨fn, _, assign, body, run_yield hb0.1 (hps x), roundIn_of_wpIn trivial (hassign _ x W0 _ hb0.2.2 ?_)⟩
    intro a' W hgr hax
    have hz0 := hb0.2.2
    have hb : Bk .ready none W := hBk hb0 hgr fun k h => h.elim
    have hz := hb.2.2
    have hO : ∀ b, O b → s + 2 ≤ b ∧ b < W.heap.size := fun b h => ⟨(hO0 b h).1, Nat.lt_of_lt_of_le (hO0 b h).2 hgr.size⟩
    have hi : I O pre W := hI _ _ _ _ _ hi0 hz0 hO0 (hgr.mono fun _ _ h => h.elim) fun k h => ⟨(hO k h).2, .inl h⟩
    have hlt0 : ∀ b, S b ∨ O b → b < W0.heap.size := fun b h => h.elim (fun h => by have := hS b h; show b < W0.heap.size; have : s = w.heap.size := rfl; omega) fun h => (hO0 b h).2
    have hk0 : KpOf (fun b => S b ∨ O b) W0 W := fun b h => hgr.block b (hlt0 b h) id
    have hat : At (s + 2) O pre x W := hAt _ _ _ _ _ hat0 hz0 hO0 (hgr.mono fun _ _ h => h.elim)
    refine ⟨_, run_beginRound hb.1 rfl, ?_⟩
    have hb2 := hput .busy none hb
    have hne : ∀ b, S b ∨ O b → b ≠ s + 1 := by
      rintro b (h | h)
      · have := hS b h
        show b ≠ w.heap.size + 1
        omega
      · have := hO b h
        omega
    have hkS : KpOf (fun b => S b ∨ O b) W (W.putObj (s + 1) (.loop (R .busy none))) := fun b h => World.putObj_heap_other (hne b h)
    have hO2 : ∀ b, O b → s + 2 ≤ b ∧ b < (W.putObj (s + 1) (.loop (R .busy none))).heap.size := fun b h => by simpa using hO b h
    refine wpIn_mono (hbody (s + 1) O pre x a' _ (hIput _ hi) (hAt _ _ _ _ _ hat hz hO (keeps_put _ _ _)) (hAx _ _ _ _ hax (keeps_put _ _ _)) hO2 (by simpa using hz) hb2.2.1 ⟨_, hb2.1⟩) ?_
    have fin : ∀ (jump : Option Code) (W3 : World), Left S O s (W.putObj (s + 1) (.loop (R .busy none))) W3 → Bk .busy none W3 ∧ (Instr.endRound (s + 1) jump).run P W3 = .ok (.bool jump.isNone) (W3.putObj (s + 1) (.loop (R (if jump.isNone then .ready else .done) jump))) := fun jump W3 hk3 => by
      have hb3 : Bk .busy none W3 := ⟨(hk3.1 _ (.inr (.inr (.inr rfl)))).trans hb2.1, (hk3.1 _ (.inr (.inr (.inl rfl)))).trans hb2.2.1, Nat.le_trans hb2.2.2 hk3.2⟩
      exact ⟨hb3, run_endRound jump hb3.1⟩
    have kept : ∀ (W3 : World) (o : Obj), Left S O s (W.putObj (s + 1) (.loop (R .busy none))) W3 → KpOf (fun b => S b ∨ O b) W0 (W3.putObj (s + 1) o) ∧ W0.heap.size ≤ (W3.putObj (s + 1) o).heap.size := fun W3 o hk3 => by
      refine ⟨fun b h => ?_, by have := hgr.size; have := hk3.2; simp at this ⊢; omega⟩
      rw [World.putObj_heap_other (hne b h)]
      exact ((hk3.1 b (h.elim .inl fun h => .inr (.inl h))).trans (hkS b h)).trans (hk0 b h)
    have leave : ∀ (c : Code) (W3 : World), Left S O s (W.putObj (s + 1) (.loop (R .busy none))) W3 → Ix O c (pre ++ [x]) W3 → ∃ v W4, (Instr.endRound (s + 1) (some c)).run P W3 = .ok v W4 ∧
        (KpOf (fun b => S b ∨ O b) W0 W4 ∧ W0.heap.size ≤ W4.heap.size) ∧ ((Ending.returned v = .returned (.bool true) ∧ ((∀ b, O b → s + 2 ≤ b ∧ b < W4.heap.size) ∧ I O (pre ++ [x]) W4 ∧ Bk .ready none W4)) ∨ (Ending.returned v = .returned (.bool false) ∧ (∀ b, O b → s + 2 ≤ b) ∧ ∃ c, Ix O c (pre ++ [x]) W4 ∧ Bk .done (some c) W4)) := fun c W3 hk3 hx3 => by
      obtain ⟨hb3, hr⟩ := fin (some c) W3 hk3
      exact ⟨_, _, hr, kept W3 _ hk3, .inr ⟨rfl, fun b h => (hO b h).1, c, hIx _ _ _ _ _ hx3 ((keeps_put _ _ _).mono fun _ _ h => .inr (.inr h)), hput .done (some c) hb3⟩⟩
    rintro e a3 W3 hp
    cases e with
    | normal =>
      obtain ⟨hk3, hi3⟩ := hp
      obtain ⟨hb3, hr⟩ := fin none W3 hk3
      exact ⟨_, _, hr, kept W3 _ hk3, .inl ⟨rfl, fun b h => ⟨(hO b h).1, by have := (hO b h).2; have := hk3.2; simp at this ⊢; omega⟩, hIput _ hi3, hput .ready none hb3⟩⟩
    | ret => exact leave _ _ hp.1 hp.2
    | exit id => exact leave _ _ hp.1 hp.2
    | goto t => exact leave _ _ hp.1 hp.2
    | panic ch => exact hp.elim
    | outgrown => exact hp.elim
  · rintro e W2 ⟨⟨v, rfl⟩, (⟨O, xs, hx, _, hi, hb⟩ | ⟨O, pre, hp, _, c, hx, hb⟩)⟩
    · exact ⟨none, _, run_endLoop hb.1 (by simp [R]), hdone O xs _ hx (hIput _ hi) (by simpa using hb.2.2) ((World.putObj_heap_other (by omega)).trans hb.2.1)⟩
    · exact ⟨some c, _, run_endLoop hb.1 (by simp [R]), hstop O c pre _ hp (hIx _ _ _ _ _ hx ((keeps_put _ _ _).mono fun _ _ h => .inr (.inr h))) (by simpa using hb.2.2) ((World.putObj_heap_other (by omega)).trans hb.2.1)⟩
/-- a call of yield, in a round of another loop too -/
theorem yieldRound {m m' : Nat} {P : Program} {l l' : Nat} {args : Array Value} {W : World} {R : Ending → World → Prop} (h : YieldAt Fence.wide m P l args W R) : YieldAt (Fence.wide.inRound l') m' P l args W R := by
  obtain ⟨fn, tmps, assign, body, hy, hR⟩ := h
  exact ⟨fn, tmps, assign, body, hy, hR.1, fun c cs _ => hR.2 c cs fun d hd => by cases hd⟩
end Go.Proofs.YteggcdhibcjneaaGreatDoor.Kit
namespace Go.Proofs.YteggcdhibcjneaaGreatDoor.Kit
variable {nx : Bool}
open Go.RowKit Go.Shelf Go.Deep
open Go.Proofs.YteggcdhibcjneaaGreatDoor.Kd (Ans AnsV cell5 cell2)
set_option linter.unusedVariables false
set_option linter.unusedSimpArgs false
attribute [local go_sem] run_store_func

/-- bytes of two or three numbers, handed in as an array -/
structure DatN (W : World) (L qb v2 c2 : Nat) : Prop where
  b0 : ∃ bo0 bc0, W.cell? ⟨qb, 0, none⟩ = some (.slice bo0 0 bc0)
  b1 : W.cell? ⟨qb, 1, none⟩ = some (.slice (some ⟨v2, 0, none⟩) L c2)
  n2 : L ≤ c2
  T : Tab W
  hL : L = 2 ∨ L = 3
theorem DatN.gr {W u : World} {L qb v2 c2 : Nat} (h : DatN W L qb v2 c2) (g : Gr W u) : DatN u L qb v2 c2 := ⟨h.b0.imp fun _ e => e.imp fun _ e => g.cell' e id, g.cell' h.b1 id, h.n2, h.T.gr g, h.hL⟩
/-- an array that was opened -/
structure OpA (nx : Bool) (W w' : World) (L v2 c2 a : Nat) : Prop where
  g : Gr W w'
  p : ∃ q r rc fo fc, (W.heap.size ≤ a ∧ W.heap.size ≤ q ∧ W.heap.size ≤ r) ∧ NdA nx w' q r rc false fo fc L 0 v2 L c2 ∧ w'.heap[a]? = some (.cells #[.pointer (some ⟨q, 0, none⟩), .int .i64 0, .int .i64 L, .pointer none] 146)
theorem OpA.gr {W w' u : World} {L v2 c2 a : Nat} (h : OpA nx W w' L v2 c2 a) (k : Gr w' u) : OpA nx W u L v2 c2 a := by
  obtain ⟨q, r, rc, fo, fc, h1, h2, h3⟩ := h.p
  exact ⟨h.g.trans k (fun _ _ h => h), q, r, rc, fo, fc, h1, h2.gr k, (k.block _ (lt_of_heap h3) id).trans h3⟩
theorem OpA.low {W V w' : World} {L v2 c2 a : Nat} (h : OpA nx V w' L v2 c2 a) (k : Gr W V) : OpA nx W w' L v2 c2 a := by
  obtain ⟨q, r, rc, fo, fc, ⟨h1, h4, h5⟩, h2, h3⟩ := h.p
  have := k.size
  exact ⟨k.trans h.g (fun _ _ h => h), q, r, rc, fo, fc, ⟨by omega, by omega, by omega⟩, h2, h3⟩
theorem open49 (L qb bc v2 c2 : Nat) (ao : Option Addr) (ca : Nat) (W : World) (hD : DatN W L qb v2 c2) :
    Calls Tryz.prog 49 #[.agg #[.string (nmB nx), .bool false, .int .i64 3, .int .i64 0, .int .i64 0, .int .i64 0, .slice ao 0 ca], .agg #[.int .i64 L, .int .i64 0, .int .i64 0, .slice (some ⟨qb, 0, none⟩) 2 bc, .slice none 0 0, .slice none 0 0]] W fun e w' => ∃ a, e = .returned (.tuple #[.pointer (some ⟨a, 0, none⟩), .agg #[.int .i64 0, .slice none 0 0, .int .i64 0]]) ∧ OpA nx W w' L v2 c2 a := by
  rcases hD.hL with rfl | rfl
  · refine (open18_c qb bc v2 c2 ao ca W ⟨hD.b0, hD.b1, hD.n2, hD.T⟩).mono ?_
    rintro e w' ⟨a, q, r, rc, fo, fc, rfl, h1, h2, h3, h4⟩
    exact ⟨a, rfl, h1, q, r, rc, fo, fc, h2, h3, h4⟩
  · refine (open18_d qb bc v2 c2 ao ca W ⟨hD.b0, hD.b1, hD.n2, hD.T⟩).mono ?_
    rintro e w' ⟨a, q, r, rc, fo, fc, rfl, h1, h2, h3, h4⟩
    exact ⟨a, rfl, h1, q, r, rc, fo, fc, h2, h3, h4⟩
theorem opened59 (L qb bc v2 c2 : Nat) (ao : Option Addr) (ca : Nat) (W : World) (hD : DatN W L qb v2 c2) :
    Calls Tryz.prog 59 #[.agg #[.string (nmB nx), .bool false, .int .i64 3, .int .i64 0, .int .i64 0, .int .i64 0, .slice ao 0 ca], .agg #[.int .i64 L, .int .i64 0, .int .i64 0, .slice (some ⟨qb, 0, none⟩) 2 bc, .slice none 0 0, .slice none 0 0]] W fun e w' => ∃ a, e = .returned (.tuple #[.pointer (some ⟨a, 0, none⟩), .int .i64 0]) ∧ OpA nx W w' L v2 c2 a := by
  obtain ⟨A0, hA0⟩ : ∃ A, W.alloc (.cells #[.string (nmB nx), .bool false, .int .i64 3, .int .i64 0, .int .i64 0, .int .i64 0, .slice ao 0 ca] 47) = A := ⟨_, rfl⟩
  have g0 : Gr W A0 := by rw [← hA0]; exact gr_alloc W _
  have b0 : A0.heap[W.heap.size]? = some (.cells #[.string (nmB nx), .bool false, .int .i64 3, .int .i64 0, .int .i64 0, .int .i64 0, .slice ao 0 ca] 47) := by rw [← hA0]; exact heap_alloc_new W _
  obtain ⟨A1, hA1⟩ : ∃ A, A0.alloc (.cells #[.int .i64 L, .int .i64 0, .int .i64 0, .slice (some ⟨qb, 0, none⟩) 2 bc, .slice none 0 0, .slice none 0 0] 50) = A := ⟨_, rfl⟩
  have g1 : Gr A0 A1 := by rw [← hA1]; exact gr_alloc A0 _
  have b1 : A1.heap[A0.heap.size]? = some (.cells #[.int .i64 L, .int .i64 0, .int .i64 0, .slice (some ⟨qb, 0, none⟩) 2 bc, .slice none 0 0, .slice none 0 0] 50) := by rw [← hA1]; exact heap_alloc_new A0 _
  have gW : Gr W A1 := g0.trans g1 (fun _ _ h => h)
  have HC := hidM (open49 (nx := nx) L qb bc v2 c2 ao ca A1 (hD.gr gW))
  have HG := hidM gW
  obtain ⟨e0, e1, e2, e3, e4, e5, e6⟩ := cell7 ((g1.block _ (lt_of_heap b0) id).trans b0)
  obtain ⟨f0, f1, f2, f3, f4, f5⟩ := cell6 b1
  clear g0 b0 g1 b1 gW hD
  go_enter Tryz.func59, Tryz.ntmps59
  go_wp2_with (go_at_call 49; refine HC.out.mono ?_; rintro e w1 ⟨a, rfl, hO⟩; clear e0 e1 e2 e3 e4 e5 e6 f0 f1 f2 f3 f4 f5 hA0 hA1; obtain ⟨V, hV⟩ : ∃ V, w1.alloc (.cells #[.int .i64 0, .slice none 0 0, .int .i64 0] 61) = V := ⟨_, rfl⟩; have gV : Gr w1 V := (by rw [← hV]; exact gr_alloc w1 _); have hbv : V.heap[w1.heap.size]? = some (.cells #[.int .i64 0, .slice none 0 0, .int .i64 0] 61) := (by rw [← hV]; exact heap_alloc_new w1 _); obtain ⟨y0, y1, y2⟩ := cell3V hbv; have z0 := frz hbv 0; have z1 := frz hbv 1; have z2 := frz hbv 2; have i0 := set_id (j := 0) (v := .int .i64 0) hbv rfl; have i1 := set_id (j := 1) (v := .slice none 0 0) hbv rfl; have i2 := set_id (j := 2) (v := .int .i64 0) hbv rfl; have HO := hidM ((hO.gr gV).low HG.out); have HY : Hid (V.drew.cell? ⟨w1.heap.size, 0, none⟩ = some (.int .i64 0)) := (gr_drew.cell' y0 id); have HX := hidM (HO.out.gr gr_drew); clear hO gV hbv)
  clear y0 y1 y2 z0 z1 z2 i0 i1 i2 hV
  go_region_held3 (fun u => u.cell? ⟨w1.heap.size, 0, none⟩ = some (.int .i64 0)) (first | with_reducible exact HY.out) (fail)
  go_wp2_with fail
  go_ret2
  exact ⟨a, rfl, HX.out⟩
theorem hasColumns58 (L : Int) (g ac db dbc qb bc : Nat) (hL : L = 2 ∨ L = 3) (W : World) (hd : W.heap[db]? = some (.cells #[.int .i64 L, .int .i64 0, .int .i64 0, .slice (some ⟨qb, 0, none⟩) 2 bc, .slice none 0 0, .slice none 0 0] 50)) : Calls Tryz.prog 58 #[.agg #[.slice (some ⟨g, 0, none⟩) 1 ac, .slice none 0 0], .agg #[.int .i64 L, .slice (some ⟨db, 0, none⟩) 1 dbc]] W fun e w' => e = .returned (.bool true) ∧ Gr W w' := by
  obtain ⟨A0, hA0⟩ : ∃ A, W.alloc (.cells #[.slice (some ⟨g, 0, none⟩) 1 ac, .slice none 0 0] 30) = A := ⟨_, rfl⟩
  have g0 : Gr W A0 := by rw [← hA0]; exact gr_alloc W _
  have b0 : A0.heap[W.heap.size]? = some (.cells #[.slice (some ⟨g, 0, none⟩) 1 ac, .slice none 0 0] 30) := by rw [← hA0]; exact heap_alloc_new W _
  obtain ⟨A1, hA1⟩ : ∃ A, A0.alloc (.cells #[.int .i64 L, .slice (some ⟨db, 0, none⟩) 1 dbc] 33) = A := ⟨_, rfl⟩
  have g1 : Gr A0 A1 := by rw [← hA1]; exact gr_alloc A0 _
  have b1 : A1.heap[A0.heap.size]? = some (.cells #[.int .i64 L, .slice (some ⟨db, 0, none⟩) 1 dbc] 33) := by rw [← hA1]; exact heap_alloc_new A0 _
  obtain ⟨A2, hA2⟩ : ∃ A, A1.alloc (.cells #[.int .i64 L, .int .i64 0, .int .i64 0, .slice (some ⟨qb, 0, none⟩) 2 bc, .slice none 0 0, .slice none 0 0] 50) = A := ⟨_, rfl⟩
  have g2 : Gr A1 A2 := by rw [← hA2]; exact gr_alloc A1 _
  have b2 : A2.heap[A1.heap.size]? = some (.cells #[.int .i64 L, .int .i64 0, .int .i64 0, .slice (some ⟨qb, 0, none⟩) 2 bc, .slice none 0 0, .slice none 0 0] 50) := by rw [← hA2]; exact heap_alloc_new A1 _
  have gW : Gr W A1 := g0.trans g1 (fun _ _ h => h)
  have HG : Hid (Gr W A2) := gW.trans g2 (fun _ _ h => h)
  obtain ⟨e0, e1⟩ := cell2 ((g1.block _ (lt_of_heap b0) id).trans b0)
  obtain ⟨f0, f1⟩ := cell2 b1
  obtain ⟨k0, k1⟩ := cell2 ((g2.block _ (lt_of_heap b1) id).trans b1)
  obtain ⟨d0, d1, d2, d3, d4, d5⟩ := cell6 ((gW.block _ (lt_of_heap hd) id).trans hd)
  obtain ⟨h0, h1, h2, h3, h4, h5⟩ := cell6 b2
  have z := frzA b2
  have i0 := set_id (j := 0) (v := .int .i64 L) b2 rfl
  have i1 := set_id (j := 1) (v := .int .i64 0) b2 rfl
  have i2 := set_id (j := 2) (v := .int .i64 0) b2 rfl
  have i3 := set_id (j := 3) (v := .slice (some ⟨qb, 0, none⟩) 2 bc) b2 rfl
  have i4 := set_id (j := 4) (v := .slice none 0 0) b2 rfl
  have i5 := set_id (j := 5) (v := .slice none 0 0) b2 rfl
  clear g0 b0 g1 b1 g2 b2 gW hd
  rcases hL with rfl | rfl
  all_goals
    go_enter Tryz.func58, Tryz.ntmps58
    go_wp2_with fail
    go_loopw [27] (fun i wr => ∃ k : Nat, k ≤ 1 ∧ i = .int .i64 k ∧ wr = (if k = 0 then A1 else A2)) (fun i _ => 1 - (intOf i).toNat)
    case atStart => exact ⟨0, by omega, rfl, rfl⟩
    case round =>
      obtain ⟨k, hk, rfl, rfl⟩ := hrel
      have hk3 : k = 0 ∨ k = 1 := by omega
      rcases hk3 with rfl | rfl
      · simp only [if_pos rfl]
        go_wp2_with fail
        go_roundw
        case rel => exact ⟨1, by omega, by go_num, rfl⟩
        case measure => simp [intOf]
      · go_wp2_with fail
        go_ret
        exact ⟨rfl, HG.out⟩
end Go.Proofs.YteggcdhibcjneaaGreatDoor.Kit
