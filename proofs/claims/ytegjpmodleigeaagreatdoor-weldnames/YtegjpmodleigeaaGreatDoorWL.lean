import Derived.Test.YtegjpmodleigeaaGreatDoorFB
import Derived.Test.YtegjpmodleigeaaGreatDoorWH
import Derived.Test.YtegjpmodleigeaaGreatDoorTD
set_option maxRecDepth 100000
set_option maxHeartbeats 4000000
namespace Go.Proofs.YtegjpmodleigeaaGreatDoor.Kit
open Go.RowKit Go.Shelf Go.Deep
/-! ### a range over an iterator that hands out new memory -/
/-- what abides, once the loop was left, what the iterator still does with its own blocks -/
def LAbides {β : Type} (J : (Nat → Prop) → β → World → Prop) : Prop := ∀ (O : Nat → Prop) (s : β) (A B : World), J O s A → Keeps A B O → J O s B
/-- the iterator's word; At is told how great the memory was when it was called -/
def SeqNew {α : Type} (n : Nat) (P : Program) (g : Nat) (lb : Array Value) (encs : α → Array Value) (At : Nat → (Nat → Prop) → List α → α → World → Prop) (S : Nat → Prop) (Sx Sp : List α → Prop) (w : World) : Prop :=
  ∀ (l : Nat) (J : (Nat → Prop) → List α → World → Prop) (Jx : (Nat → Prop) → List α → World → Prop) (W : World), Keeps w W (fun _ => False) → JAbides J → LAbides Jx →
    (∀ O pre x W1, J O pre W1 → At W.heap.size O pre x W1 → YieldAt Fence.wide (n - 1) P l (encs x) W1 fun e W' =>
      (KpOf (fun b => S b ∨ O b) W1 W' ∧ W1.heap.size ≤ W'.heap.size) ∧ ((e = .returned (.bool true) ∧ J O (pre ++ [x]) W') ∨ (e = .returned (.bool false) ∧ Jx O (pre ++ [x]) W'))) →
    J (fun _ => False) [] W →
    CallsIn Fence.wide n P g (#[.func (.yield l) #[] #[]] ++ lb) W fun e W' => (∃ v, e = .returned v) ∧ ((∃ O xs, Sx xs ∧ J O xs W') ∨ (∃ O pre, Sp pre ∧ Jx O pre W'))
theorem SeqOwn.new {α : Type} {n : Nat} {P : Program} {g : Nat} {lb : Array Value} {encs : α → Array Value} {At : (Nat → Prop) → List α → α → World → Prop} {S : Nat → Prop} {Sx Sp : List α → Prop} {w : World} (h : SeqOwn n P g lb encs At S Sx Sp w) : SeqNew n P g lb encs (fun _ => At) S Sx Sp w := fun l J Jx W hW hJ hL hY h0 => by
  refine (h l J (fun pre V => ∃ O, Jx O pre V) W hW hJ (fun pre A B ⟨O, hx⟩ k => ⟨O, hL O pre A B hx (k.mono fun _ _ f => f.elim)⟩) (fun O pre x W1 hj hat => (hY O pre x W1 hj hat).mono fun e W' => ?_) h0).mono fun e W' => ?_
  · exact fun ⟨hk, h⟩ => h.imp (fun ⟨e, hj⟩ => ⟨e, hj, hk.1⟩) fun ⟨e, hx⟩ => ⟨e, O, hx⟩
  · rintro ⟨hv, h | ⟨pre, hp, O, hx⟩⟩
    · exact ⟨hv, .inl h⟩
    · exact ⟨hv, .inr ⟨O, pre, hp, hx⟩⟩

/-- what the body leaves alone: the iterator's blocks, and the record's two -/
def Left (S O : Nat → Prop) (s : Nat) (W W' : World) : Prop := KpOf (fun b => S b ∨ O b ∨ b = s ∨ b = s + 1) W W' ∧ W.heap.size ≤ W'.heap.size
def yPost {α : Type} (S O : Nat → Prop) (s : Nat) (I : (Nat → Prop) → List α → World → Prop) (Ix : (Nat → Prop) → Code → List α → World → Prop) (xs : List α) (W : World) : Exit → Act → World → Prop
  | .normal, _, W' => Left S O s W W' ∧ I O xs W'
  | .ret, _, W' => Left S O s W W' ∧ Ix O .ret xs W'
  | .exit id, _, W' => Left S O s W W' ∧ Ix O (.exit id) xs W'
  | .goto t, _, W' => Left S O s W W' ∧ Ix O (.goto t) xs W'
  | .panic _, _, _ => False
  | .outgrown, _, _ => False

theorem rangeY {α : Type} {n : Nat} {P : Program} {g : Operand} {ps : Array Tmp} {assign body : Code} {Q : Exit → Act → World → Prop} {a : Act} {w : World}
    (h1 : 1 ≤ n) {gf : Nat} {lb : Array Value} (hg : a.eval g = .func (.func gf) #[] lb) (eg : ∀ args w, (callFunc gf args).run P w = .ok (.enter gf args) w)
    {encs : α → Array Value} {At : Nat → (Nat → Prop) → List α → α → World → Prop} {S : Nat → Prop} {Sx Sp : List α → Prop} (hseq : SeqNew (n - 1) P gf lb encs At S Sx Sp w)
    (hps : ∀ x, (encs x).size = ps.size) (hS : ∀ b, S b → b < w.heap.size) (hAt : ∀ O pre x A B, At (w.heap.size + 2) O pre x A → w.heap.size + 2 ≤ A.heap.size → (∀ b, O b → w.heap.size + 2 ≤ b ∧ b < A.heap.size) → Keeps A B (fun k => k = w.heap.size + 1) → At (w.heap.size + 2) O pre x B)
    (I : (Nat → Prop) → List α → World → Prop)
    (hI : ∀ O O' pre A B, I O pre A → w.heap.size + 2 ≤ A.heap.size → (∀ b, O b → w.heap.size + 2 ≤ b ∧ b < A.heap.size) → Keeps A B O → (∀ k, O' k → k < B.heap.size ∧ (O k ∨ A.heap.size ≤ k)) → I O' pre B)
    (hIr : ∀ O pre A B, I O pre A → Keeps A B (fun k => k = w.heap.size ∨ k = w.heap.size + 1) → I O pre B)
    (Ix : (Nat → Prop) → Code → List α → World → Prop) (hIx : ∀ O c pre A B, Ix O c pre A → Keeps A B (fun k => O k ∨ k = w.heap.size ∨ k = w.heap.size + 1) → Ix O c pre B)
    (h0 : ∀ W, Keeps w W (fun _ => False) → W.heap.size = w.heap.size + 2 → I (fun _ => False) [] W) (Ax : α → Act → World → Prop) (hAx : ∀ x a' A B, Ax x a' A → Keeps A B (fun k => k = w.heap.size + 1) → Ax x a' B)
    (hassign : ∀ (l : Nat) (x : α) (W : World) (K : Act → World → Prop), w.heap.size + 2 ≤ W.heap.size → (∀ a' W', Keeps W W' (fun _ => False) → Ax x a' W' → K a' W') →
      assign.wpIn (Fence.wide.inRound l) (n - 1 - 1) P (Exit.then K (fun _ _ _ => False)) { tmps := (ps.zip (encs x)).foldl (fun t (p, v) => t.setIfInBounds p v) a.tmps, defers := [] } W)
    (hbody : ∀ (l : Nat) (O : Nat → Prop) (pre : List α) (x : α) (a' : Act) (W : World), I O pre W → At (w.heap.size + 2) O pre x W → Ax x a' W → (∀ b, O b → w.heap.size + 2 ≤ b ∧ b < W.heap.size) → w.heap.size + 2 ≤ W.heap.size → W.heap[w.heap.size]? = some (.deferred (some [])) → (∃ lp, W.heap[w.heap.size + 1]? = some (.loop lp)) →
      body.wpIn (Fence.wide.inRound l) (n - 1 - 1) P (yPost S O w.heap.size I Ix (pre ++ [x]) W) a' W)
    (hdone : ∀ (O : Nat → Prop) (xs : List α) (W : World), Sx xs → I O xs W → w.heap.size + 2 ≤ W.heap.size → W.heap[w.heap.size]? = some (.deferred (some [])) → Q .normal { a with defers := { target := .collected w.heap.size, args := #[] } :: a.defers } W)
    (hstop : ∀ (O : Nat → Prop) (c : Code) (pre : List α) (W : World), Sp pre → Ix O c pre W → w.heap.size + 2 ≤ W.heap.size → W.heap[w.heap.size]? = some (.deferred (some [])) → c.wpIn Fence.wide n P Q { a with defers := { target := .collected w.heap.size, args := #[] } :: a.defers } W) :
    (Code.rangeFunc g ps assign body).wpIn Fence.wide n P Q a w := by
  refine wpIn_rangeFunc fun fn _ => ?_
  let R : LoopState → Option Code → Loop := fun st pe => { state := st, pending := pe, fn := fn, tmps := a.tmps, params := ps, assign := assign, body := body, defers := w.heap.size }
  let s := w.heap.size
  let W1 := (w.alloc (.deferred (some []))).alloc (.loop (R .ready none))
  have hz1 : W1.heap.size = s + 2 := by simp [W1, s]
  have hrec1 : W1.heap[s + 1]? = some (.loop (R .ready none)) := by
    have := World.alloc_heap_new (w.alloc (.deferred (some []))) (.loop (R .ready none))
    rwa [World.size_alloc] at this
  have hdef1 : W1.heap[s]? = some (.deferred (some [])) := (Below.heap_alloc _ _ _ (by simp [s])).trans (World.alloc_heap_new w _)
  have hk1 : Keeps w W1 (fun _ => False) := ((Keeps.refl w _).alloc _).alloc _
  refine ⟨s + 1, [{ target := .collected s, args := #[] }], W1, { target := .fn (.func gf) lb, args := #[.func (.yield (s + 1)) #[] #[]] }, W1, gf, #[.func (.yield (s + 1)) #[] #[]] ++ lb, W1,
    run_enterLoop_outer _ _ _ _ _, (by simp only [resolve, hg]; simp [go_sem]), fun _ _ => trivial, by simp [invoke, go_sem, eg], fun _ => h1, ?_⟩
  let Bk : LoopState → Option Code → World → Prop := fun st pe W => W.heap[s + 1]? = some (.loop (R st pe)) ∧ W.heap[s]? = some (.deferred (some [])) ∧ s + 2 ≤ W.heap.size
  have hBk : ∀ {st pe A B} {T : Nat → Prop}, Bk st pe A → Keeps A B T → (∀ k, T k → k < s ∨ s + 2 ≤ k) → Bk st pe B := fun h k hT =>
    ⟨(k.block _ (by have := h.2.2; omega) fun ht => by have := hT _ ht; omega).trans h.1, (k.block _ (by have := h.2.2; omega) fun ht => by have := hT _ ht; omega).trans h.2.1, Nat.le_trans h.2.2 k.size⟩
  have hput : ∀ {st pe W} (st' : LoopState) (pe' : Option Code), Bk st pe W → Bk st' pe' (W.putObj (s + 1) (.loop (R st' pe'))) := fun st' pe' h =>
    ⟨World.putObj_heap_same (by have := h.2.2; omega), (World.putObj_heap_other (by omega)).trans h.2.1, by simpa using h.2.2⟩
  have hIput : ∀ {O pre W} (o : Obj), I O pre W → I O pre (W.putObj (s + 1) o) := fun {O pre W} o hi => hIr O pre _ _ hi ((keeps_put W (s + 1) o).mono fun _ _ e => .inr e)
  have hseq' := hseq (s + 1) (fun O pre W => (∀ b, O b → s + 2 ≤ b ∧ b < W.heap.size) ∧ I O pre W ∧ Bk .ready none W) (fun O pre W => (∀ b, O b → s + 2 ≤ b) ∧ ∃ c, Ix O c pre W ∧ Bk .done (some c) W) W1 hk1
  rw [hz1] at hseq'
  refine (hseq' ?_ ?_ ?_ ⟨fun _ h => h.elim, h0 _ hk1 hz1, hrec1, hdef1, by omega⟩).mono ?_
  · rintro O O' pre A B ⟨hO, hi, hb⟩ hk hO'
    have hz := hb.2.2
    refine ⟨fun b h => ⟨(hO' b h).2.elim (fun h => (hO b h).1) fun h => by omega, (hO' b h).1⟩, hI _ _ _ _ _ hi hz hO hk hO', hBk hb hk fun k h => .inr (hO k h).1⟩
  · rintro O pre A B ⟨hO, c, hx, hb⟩ hk
    exact ⟨hO, c, hIx _ _ _ _ _ hx (hk.mono fun _ _ h => .inl h), hBk hb hk fun k h => .inr (hO k h)⟩
  · rintro O pre x W0 ⟨hO0, hi0, hb0⟩ hat0
    refine ⟨fn, _, assign, body, run_yield hb0.1 (hps x), roundIn_of_wpIn trivial (hassign _ x W0 _ hb0.2.2 ?_)⟩
    intro a' W hgr hax
    have hz0 := hb0.2.2
    have hb : Bk .ready none W := hBk hb0 hgr fun k h => h.elim
    have hz := hb.2.2
    have hO : ∀ b, O b → s + 2 ≤ b ∧ b < W.heap.size := fun b h => ⟨(hO0 b h).1, Nat.lt_of_lt_of_le (hO0 b h).2 hgr.size⟩
    have hi : I O pre W := hI _ _ _ _ _ hi0 hz0 hO0 (hgr.mono fun _ _ h => h.elim) fun k h => ⟨(hO k h).2, .inl h⟩
    have hlt0 : ∀ b, S b ∨ O b → b < W0.heap.size := fun b h => h.elim (fun h => by have := hS b h; show b < W0.heap.size; have : s = w.heap.size := rfl; omega) fun h => (hO0 b h).2
    have hk0 : KpOf (fun b => S b ∨ O b) W0 W := fun b h => hgr.block b (hlt0 b h) id
    have hat : At (s + 2) O pre x W := hAt _ _ _ _ _ hat0 hz0 hO0 (hgr.mono fun _ _ h => h.elim)
    refine ⟨_, run_beginRound hb.1 rfl, ?_⟩
    have hb2 := hput .busy none hb
    have hne : ∀ b, S b ∨ O b → b ≠ s + 1 := by
      rintro b (h | h)
      · have := hS b h
        show b ≠ w.heap.size + 1
        omega
      · have := hO b h
        omega
    have hkS : KpOf (fun b => S b ∨ O b) W (W.putObj (s + 1) (.loop (R .busy none))) := fun b h => World.putObj_heap_other (hne b h)
    have hO2 : ∀ b, O b → s + 2 ≤ b ∧ b < (W.putObj (s + 1) (.loop (R .busy none))).heap.size := fun b h => by simpa using hO b h
    refine wpIn_mono (hbody (s + 1) O pre x a' _ (hIput _ hi) (hAt _ _ _ _ _ hat hz hO (keeps_put _ _ _)) (hAx _ _ _ _ hax (keeps_put _ _ _)) hO2 (by simpa using hz) hb2.2.1 ⟨_, hb2.1⟩) ?_
    have fin : ∀ (jump : Option Code) (W3 : World), Left S O s (W.putObj (s + 1) (.loop (R .busy none))) W3 → Bk .busy none W3 ∧ (Instr.endRound (s + 1) jump).run P W3 = .ok (.bool jump.isNone) (W3.putObj (s + 1) (.loop (R (if jump.isNone then .ready else .done) jump))) := fun jump W3 hk3 => by
      have hb3 : Bk .busy none W3 := ⟨(hk3.1 _ (.inr (.inr (.inr rfl)))).trans hb2.1, (hk3.1 _ (.inr (.inr (.inl rfl)))).trans hb2.2.1, Nat.le_trans hb2.2.2 hk3.2⟩
      exact ⟨hb3, run_endRound jump hb3.1⟩
    have kept : ∀ (W3 : World) (o : Obj), Left S O s (W.putObj (s + 1) (.loop (R .busy none))) W3 → KpOf (fun b => S b ∨ O b) W0 (W3.putObj (s + 1) o) ∧ W0.heap.size ≤ (W3.putObj (s + 1) o).heap.size := fun W3 o hk3 => by
      refine ⟨fun b h => ?_, by have := hgr.size; have := hk3.2; simp at this ⊢; omega⟩
      rw [World.putObj_heap_other (hne b h)]
      exact ((hk3.1 b (h.elim .inl fun h => .inr (.inl h))).trans (hkS b h)).trans (hk0 b h)
    have leave : ∀ (c : Code) (W3 : World), Left S O s (W.putObj (s + 1) (.loop (R .busy none))) W3 → Ix O c (pre ++ [x]) W3 → ∃ v W4, (Instr.endRound (s + 1) (some c)).run P W3 = .ok v W4 ∧
        (KpOf (fun b => S b ∨ O b) W0 W4 ∧ W0.heap.size ≤ W4.heap.size) ∧ ((Ending.returned v = .returned (.bool true) ∧ ((∀ b, O b → s + 2 ≤ b ∧ b < W4.heap.size) ∧ I O (pre ++ [x]) W4 ∧ Bk .ready none W4)) ∨ (Ending.returned v = .returned (.bool false) ∧ (∀ b, O b → s + 2 ≤ b) ∧ ∃ c, Ix O c (pre ++ [x]) W4 ∧ Bk .done (some c) W4)) := fun c W3 hk3 hx3 => by
      obtain ⟨hb3, hr⟩ := fin (some c) W3 hk3
      exact ⟨_, _, hr, kept W3 _ hk3, .inr ⟨rfl, fun b h => (hO b h).1, c, hIx _ _ _ _ _ hx3 ((keeps_put _ _ _).mono fun _ _ h => .inr (.inr h)), hput .done (some c) hb3⟩⟩
    rintro e a3 W3 hp
    cases e with
    | normal =>
      obtain ⟨hk3, hi3⟩ := hp
      obtain ⟨hb3, hr⟩ := fin none W3 hk3
      exact ⟨_, _, hr, kept W3 _ hk3, .inl ⟨rfl, fun b h => ⟨(hO b h).1, by have := (hO b h).2; have := hk3.2; simp at this ⊢; omega⟩, hIput _ hi3, hput .ready none hb3⟩⟩
    | ret => exact leave _ _ hp.1 hp.2
    | exit id => exact leave _ _ hp.1 hp.2
    | goto t => exact leave _ _ hp.1 hp.2
    | panic ch => exact hp.elim
    | outgrown => exact hp.elim
  · rintro e W2 ⟨⟨v, rfl⟩, (⟨O, xs, hx, _, hi, hb⟩ | ⟨O, pre, hp, _, c, hx, hb⟩)⟩
    · exact ⟨none, _, run_endLoop hb.1 (by simp [R]), hdone O xs _ hx (hIput _ hi) (by simpa using hb.2.2) ((World.putObj_heap_other (by omega)).trans hb.2.1)⟩
    · exact ⟨some c, _, run_endLoop hb.1 (by simp [R]), hstop O c pre _ hp (hIx _ _ _ _ _ hx ((keeps_put _ _ _).mono fun _ _ h => .inr (.inr h))) (by simpa using hb.2.2) ((World.putObj_heap_other (by omega)).trans hb.2.1)⟩
/-- a call of yield, in a round of another loop too -/
theorem yieldRound {m m' : Nat} {P : Program} {l l' : Nat} {args : Array Value} {W : World} {R : Ending → World → Prop} (h : YieldAt Fence.wide m P l args W R) : YieldAt (Fence.wide.inRound l') m' P l args W R := by
  obtain ⟨fn, tmps, assign, body, hy, hR⟩ := h
  exact ⟨fn, tmps, assign, body, hy, hR.1, fun c cs _ => hR.2 c cs fun d hd => by cases hd⟩
end Go.Proofs.YtegjpmodleigeaaGreatDoor.Kit
namespace Go.Proofs.YtegjpmodleigeaaGreatDoor.Kit
open Go.RowKit Go.Shelf Go.Deep
open Go.Proofs.YtegjpmodleigeaaGreatDoor.Kd (Ans AnsV cell5 cell2)
set_option linter.unusedVariables false
set_option linter.unusedSimpArgs false
attribute [local go_sem] run_store_func
theorem all15 (R cb cc : Nat) (W : World) : Calls Tryz.prog 15 #[.agg #[.int .i64 R, .slice (some ⟨cb, 0, none⟩) 1 cc]] W fun e w' => e = .returned (.func (.func 24) #[] #[.pointer (some ⟨W.heap.size, 0, none⟩)]) ∧ w' = W.alloc (.cells #[.int .i64 R, .slice (some ⟨cb, 0, none⟩) 1 cc] 59) := by
  have hmf := run_makeFuncT
  go_enter Tryz.func15, Tryz.ntmps15
  go_wp2
  go_ret
  exact ⟨rfl, rfl⟩
theorem joined10 (o : Option Addr) (n c : Nat) (W : World) : Calls Tryz.prog 10 #[.slice o n c] W fun e w' => e = .returned (.func (.func 21) #[] #[.pointer (some ⟨W.heap.size, 0, none⟩)]) ∧ w' = W.alloc (.cells #[.slice o n c] 48) := by
  have hmf := run_makeFuncT
  go_enter Tryz.func10, Tryz.ntmps10
  go_wp2
  go_ret
  exact ⟨rfl, rfl⟩
theorem tooMany13 (W : World) : Calls Tryz.prog 13 #[.int .i64 2, .int .i64 1] W fun e w' => e = .returned (.bool false) ∧ w' = W := by
  go_enter Tryz.func13, Tryz.ntmps13
  go_wp2
  go_ret
  exact ⟨rfl, rfl⟩
theorem hasColumns23 (fo : Option Addr) (fcc xb xc : Nat) (bo : Option Addr) (bc : Nat) (W : World) (hx : W.heap[xb]? = some (.cells #[.int .i64 2, .int .i64 0, .int .i64 0, .slice bo 2 bc, .slice none 0 0, .slice none 0 0] 32)) : Calls Tryz.prog 23 #[.slice fo 1 fcc, .agg #[.int .i64 2, .slice (some ⟨xb, 0, none⟩) 1 xc]] W fun e w' => e = .returned (.bool true) ∧ Gr W w' := by
  obtain ⟨A, hA⟩ : ∃ A, W.alloc (.cells #[.int .i64 2, .slice (some ⟨xb, 0, none⟩) 1 xc] 43) = A := ⟨_, rfl⟩
  have g0 : Gr W A := by rw [← hA]; exact gr_alloc W _
  have b0 : A.heap[W.heap.size]? = some (.cells #[.int .i64 2, .slice (some ⟨xb, 0, none⟩) 1 xc] 43) := by rw [← hA]; exact heap_alloc_new W _
  obtain ⟨q0, q1⟩ := cell2 b0
  obtain ⟨t0, t1, t2, t3, t4, t5⟩ := cell6 ((g0.block _ (lt_of_heap hx) id).trans hx)
  obtain ⟨X2, hX2⟩ : ∃ X2, A.alloc (.cells #[.int .i64 2, .int .i64 0, .int .i64 0, .slice bo 2 bc, .slice none 0 0, .slice none 0 0] 32) = X2 := ⟨_, rfl⟩
  have g2 : Gr A X2 := by rw [← hX2]; exact gr_alloc A _
  have hbx : X2.heap[A.heap.size]? = some (.cells #[.int .i64 2, .int .i64 0, .int .i64 0, .slice bo 2 bc, .slice none 0 0, .slice none 0 0] 32) := by rw [← hX2]; exact heap_alloc_new A _
  obtain ⟨y0, y1, y2, y3, y4, y5⟩ := cell6 hbx
  have z4 := frz hbx 4
  have z5 := frz hbx 5
  have i4 := set_idT (j := 4) (v := .slice none 0 0) hbx rfl
  have i5 := set_idT (j := 5) (v := .slice none 0 0) hbx rfl
  have w0 : X2.cell? ⟨W.heap.size, 0, none⟩ = some (.int .i64 2) := g2.cell' q0 id
  have HG := hidM (g0.trans g2 (fun _ _ h => h))
  clear hx g0 b0 g2 hbx
  go_enter Tryz.func23, Tryz.ntmps23
  go_wp2_with fail
  clear hA
  go_loopw [26] (fun j wr => (j = .int .i64 0 ∧ A = wr) ∨ (j = .int .i64 1 ∧ X2 = wr)) (fun j _ => 1 - (intOf j).toNat)
  case atStart => exact .inl ⟨rfl, rfl⟩
  case round =>
    rcases hrel with ⟨rfl, rfl⟩ | ⟨rfl, rfl⟩
    · go_wp2_with fail
      go_roundw
      case rel => exact .inr ⟨by go_num, trivial⟩
      case measure => simp [intOf]
    · clear hX2
      go_wp2_with fail
      go_ret
      exact ⟨rfl, HG.out⟩
/-- a row of a part, as it is handed on -/
def encR (cb cc : Nat) (x : Nat) : Array Value := #[.agg #[.slice (some ⟨cb, 0, none⟩) 1 cc, .int .i64 x]]
/-- what an iterator of rows tells with each row: its number, and of what types its own blocks are -/
def AtT (R : Nat) (_ : Nat) (O : Nat → Prop) (pre : List Nat) (x : Nat) (W : World) : Prop := pre = List.range x ∧ x < R ∧ ∀ b cs ty fz, O b → W.heap[b]? = some (.cells cs ty fz) → ty = 59 ∨ ty = 72 ∨ ty = 69
def AllI (J : (Nat → Prop) → List Nat → World → Prop) (pb R cb cc : Nat) (k : Nat) (wr : World) : Prop :=
  J (fun _ => False) (List.range k) wr ∧ wr.heap[pb]? = some (.cells #[.int .i64 R, .slice (some ⟨cb, 0, none⟩) 1 cc] 59)
theorem seq24 (n pb R cb cc : Nat) (w : World) (hb : w.heap[pb]? = some (.cells #[.int .i64 R, .slice (some ⟨cb, 0, none⟩) 1 cc] 59)) (hR : R ≤ 1000) :
    SeqNew n Tryz.prog 24 #[.pointer (some ⟨pb, 0, none⟩)] (encR cb cc) (AtT R) (fun b => b = pb) (fun xs => xs = List.range R) (fun _ => True) w := by
  intro lp J Jx W hW hJ hL hY h0
  have hbW : W.heap[pb]? = some (.cells #[.int .i64 R, .slice (some ⟨cb, 0, none⟩) 1 cc] 59) := (hW.block _ (lt_of_heap hb) id).trans hb
  obtain ⟨c0, c1⟩ := cell2 hbW
  have HI0 : Hid (AllI J pb R cb cc 0 W) := ⟨h0, hbW⟩
  have HYY : Hid (∀ k wr, k < R → AllI J pb R cb cc k wr → YieldAt Fence.wide (n - 1) Tryz.prog lp #[.agg #[.slice (some ⟨cb, 0, none⟩) 1 cc, .int .i64 k]] wr fun e W' => (e = .returned (.bool true) ∧ AllI J pb R cb cc (k + 1) W') ∨ (e = .returned (.bool false) ∧ Jx (fun _ => False) (List.range k ++ [k]) W')) := fun k wr hk hI => by
    refine (hY _ _ k wr hI.1 ⟨rfl, hk, fun _ _ _ _ h => h.elim⟩).mono ?_
    rintro e W' ⟨⟨hkp, hsz⟩, h⟩
    rcases h with ⟨rfl, hj⟩ | ⟨rfl, hx⟩
    · exact .inl ⟨rfl, by rw [List.range_succ]; exact hj, (hkp pb (.inl rfl)).trans hI.2⟩
    · exact .inr ⟨rfl, hx⟩
  clear hW hJ hL hY h0 hb hbW
  refine callsIn_of_wp Tryz.func24 rfl trivial ?_ rfl
  simp only [Tryz.ntmps24, List.size_toArray, List.length_cons, List.length_nil, Nat.reduceAdd, Nat.reduceSub, Array.replicate_succ, Array.replicate_zero, List.push_toArray, List.append_toArray, List.nil_append, List.cons_append]
  gi_wp2_with fail
  gi_loopw [6] (fun p wr => ∃ k : Nat, k ≤ R ∧ p = .int .i64 (k : Int) ∧ Hid (AllI J pb R cb cc k wr)) (fun p _ => R - (intOf p).toNat)
  case atStart => exact ⟨0, Nat.zero_le _, rfl, HI0⟩
  case round =>
    clear HI0 c0 c1
    obtain ⟨k, hk, rfl, HI⟩ := hrel
    by_cases hlt : k < R
    · have hlt' : (k : Int) < (R : Int) := by omega
      obtain ⟨fn, tm, asn, bdy, hy, hR⟩ := HYY.out k wr hlt HI.out
      obtain ⟨c0, c1⟩ := cell2 HI.out.2
      gi_wp2_with (refine ⟨fun h => (by cases h), hR.mono ?_⟩; refine Hid.out ?_)
      unfold Hid
      rintro e W3 (⟨rfl, hI⟩ | ⟨rfl, hx⟩)
      · have HI2 := hidM hI
        clear hI hR hy HI c0 c1
        gi_wp2
        go_roundw
        case rel => exact ⟨k + 1, by omega, by go_num, HI2⟩
        case measure => simp [intOf]; omega
      · have HX := hidM hx
        clear hx hR hy HI c0 c1
        gi_wp2
        (try simp only [Exit.inBlock, Exit.then])
        refine bodyPost_ret (results_none rfl _ _ _) rfl ?_
        exact ⟨⟨_, rfl⟩, .inr ⟨_, _, trivial, HX.out⟩⟩
    · obtain rfl : k = R := by omega
      have hn : ¬ ((k : Int) < (k : Int)) := by omega
      have HE : Hid (J (fun _ => False) (List.range k) wr) := HI.out.1
      clear HI
      gi_wp2
      go_end0
      exact ⟨⟨_, rfl⟩, .inl ⟨_, HE.out⟩⟩
end Go.Proofs.YtegjpmodleigeaaGreatDoor.Kit
namespace Go.Proofs.YtegjpmodleigeaaGreatDoor.Kit
open Go.RowKit Go.Shelf Go.Deep
open Go.Proofs.YtegjpmodleigeaaGreatDoor.Kd (Ans AnsV cell5 cell2)
set_option linter.unusedVariables false
set_option linter.unusedSimpArgs false
attribute [local go_sem] run_store_func
attribute [local go_sem] Oper.semAt_some
/-- the blocks of a pile and the box that holds it, by their types -/
def IsQ (B : Nat) (W : World) (b : Nat) : Prop := B ≤ b ∧ ∃ cs ty fz, W.heap[b]? = some (.cells cs ty fz) ∧ (ty = 78 ∨ ty = 121 ∨ ty = 151 ∨ ty = 262 ∨ ty = 4 ∨ ty = 2 ∨ ty = 117 ∨ ty = 82 ∨ ty = 66)
theorem IsQ.lt {B : Nat} {W : World} {b : Nat} (h : IsQ B W b) : b < W.heap.size := by
  obtain ⟨_, cs, ty, fz, e, _⟩ := h
  exact lt_of_heap e
theorem IsP.q {B : Nat} {W : World} {b : Nat} (h : IsP B W b) : IsQ B W b := by
  obtain ⟨h1, cs, ty, fz, e, ht⟩ := h
  refine ⟨h1, cs, ty, fz, e, ?_⟩
  rcases ht with h | h | h | h | h | h | h <;> simp [h]
theorem Pil.kp {B : Nat} {W V : World} {pl pc p n m t : Nat} {nu : Bool} {fo : Option Addr} {fc : Nat} {xs : List Int} (h : Pil B W pl pc p n m t nu fo fc xs) (k : ∀ b, IsQ B W b → V.heap[b]? = W.heap[b]?) : Pil B V pl pc p n m t nu fo fc xs := by
  obtain ⟨vo, vc, lo, lc, hn⟩ := h.nd
  have hv : ∀ g, (Value.slice vo xs.length vc).ownBlock = some g → IsQ B W g := fun g e => by
    obtain ⟨cs, fz, hg⟩ := own_type hn.rv e
    exact ⟨hn.bv g e, cs, 4, fz, hg, by simp⟩
  have hl : ∀ g, (Value.slice lo xs.length lc).ownBlock = some g → IsQ B W g := fun g e => by
    obtain ⟨cs, fz, hg⟩ := own_type hn.rl e
    exact ⟨hn.bl g e, cs, 2, fz, hg, by simp⟩
  refine ⟨(k _ ⟨h.low.1, _, _, _, h.hl, by simp⟩).trans h.hl, (k _ ⟨h.low.2.1, _, _, _, h.hc, by simp⟩).trans h.hc, (k _ ⟨h.low.2.2, _, _, _, h.hp, by simp⟩).trans h.hp, ⟨vo, vc, lo, lc, ?_⟩, h.low⟩
  exact ⟨(k _ ⟨hn.low.1, _, _, _, hn.hn, by simp⟩).trans hn.hn, (k _ ⟨hn.low.2.1, _, _, _, hn.hm, by simp⟩).trans hn.hm, (k _ ⟨hn.low.2.2, _, _, _, hn.ht, by simp⟩).trans hn.ht, row_kp hn.rv fun q e => k q (hv q e), row_kp hn.rl fun q e => k q (hl q e), hn.low, hn.bv, hn.bl⟩
/-- while rows are laid -/
def LdI (w0 : World) (pl pc p n m t : Nat) (fo : Option Addr) (fc q6 s : Nat) (vs : Nat → Int) (O : Nat → Prop) (pre : List Nat) (W : World) : Prop :=
  Gr w0 W ∧ ∃ W0, W0.heap.size ≤ W.heap.size ∧ Pil w0.heap.size W0 pl pc p n m t false fo fc (pre.map vs) ∧ W0.heap[q6]? = some (.cells #[.pointer (some ⟨pl, 0, none⟩)] 66) ∧ w0.heap.size ≤ q6 ∧ ∀ b, IsQ w0.heap.size W0 b → W.heap[b]? = W0.heap[b]? ∧ ¬ O b ∧ b ≠ s ∧ b ≠ s + 1
theorem LdI.step {w0 : World} {pl pc p n m t : Nat} {fo : Option Addr} {fc q6 s : Nat} {vs : Nat → Int} {O O' : Nat → Prop} {pre : List Nat} {A B : World} {T : Nat → Prop} (h : LdI w0 pl pc p n m t fo fc q6 s vs O pre A) (k : Keeps A B T) (hT : ∀ b, T b → w0.heap.size ≤ b) (hT2 : ∀ b, T b → O b ∨ b = s ∨ b = s + 1) (hO' : ∀ b, O' b → O b ∨ A.heap.size ≤ b) : LdI w0 pl pc p n m t fo fc q6 s vs O' pre B := by
  obtain ⟨g, W0, hs, hp, h6, l6, hk⟩ := h
  refine ⟨g.trans k (fun j hj e => by have := hT j e; omega), W0, Nat.le_trans hs k.size, hp, h6, l6, fun b hb => ?_⟩
  have hlt := hb.lt
  obtain ⟨e, ne, n1, n2⟩ := hk b hb
  refine ⟨(k.block b (by omega) (fun e => (hT2 b e).elim ne (fun e => e.elim n1 n2))).trans e, fun ho => ?_, n1, n2⟩
  rcases hO' b ho with h | h
  · exact ne h
  · omega
theorem LdI.pil {w0 : World} {pl pc p n m t : Nat} {fo : Option Addr} {fc q6 s : Nat} {vs : Nat → Int} {O : Nat → Prop} {pre : List Nat} {A : World} (h : LdI w0 pl pc p n m t fo fc q6 s vs O pre A) : Pil w0.heap.size A pl pc p n m t false fo fc (pre.map vs) ∧ A.heap[q6]? = some (.cells #[.pointer (some ⟨pl, 0, none⟩)] 66) := by
  obtain ⟨g, W0, hs, hp, h6, l6, hk⟩ := h
  exact ⟨hp.kp fun b hb => (hk b hb).1, (hk q6 ⟨l6, _, _, _, h6, by simp⟩).1.trans h6⟩
end Go.Proofs.YtegjpmodleigeaaGreatDoor.Kit
