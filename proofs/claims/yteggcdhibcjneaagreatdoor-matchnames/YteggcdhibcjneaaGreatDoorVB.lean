import Derived.RangeFuncNested
import Derived.RangeFuncFrom
import Derived.RangeFuncBound
import Derived.RangeFuncCalls
import Derived.RangeFuncLeaves
import Derived.Shelf.Abstract
import Derived.Shelf.RegionOpen
import Derived.OwnWalkIn
import Derived.TacticsInMore
import Derived.LoopNIn
import Derived.LoopIn
import Derived.Test.YteggcdhibcjneaaGreatDoorKit
namespace Go.Proofs.YteggcdhibcjneaaGreatDoor.Kit
open Go.RowKit Go.Shelf Go.Deep
/-! ### a range over a function whose iterator has cells of its own -/
def KpOf (S : Nat → Prop) (W W' : World) : Prop := ∀ b, S b → W'.heap[b]? = W.heap[b]?
/-- what abides what an iterator does: it turns blocks of its own (O) and new ones, and may take new ones for its own -/
def JAbides {β : Type} (J : (Nat → Prop) → β → World → Prop) : Prop :=
  ∀ (O O' : Nat → Prop) (s : β) (A B : World), J O s A → Keeps A B O → (∀ k, O' k → k < B.heap.size ∧ (O k ∨ A.heap.size ≤ k)) → J O' s B
def XAbides {β : Type} (J : β → World → Prop) : Prop := ∀ (s : β) (A B : World), J s A → Keeps A B (fun _ => False) → J s B
/-- the iterator's word -/
def SeqOwn {α : Type} (n : Nat) (P : Program) (g : Nat) (lb : Array Value) (encs : α → Array Value) (At : (Nat → Prop) → List α → α → World → Prop) (S : Nat → Prop) (Sx Sp : List α → Prop) (w : World) : Prop :=
  ∀ (l : Nat) (J : (Nat → Prop) → List α → World → Prop) (Jx : List α → World → Prop) (W : World), Keeps w W (fun _ => False) → JAbides J → XAbides Jx →
    (∀ O pre x W1, J O pre W1 → At O pre x W1 → YieldAt Fence.wide (n - 1) P l (encs x) W1 fun e W' =>
      (e = .returned (.bool true) ∧ J O (pre ++ [x]) W' ∧ KpOf (fun b => S b ∨ O b) W1 W') ∨ (e = .returned (.bool false) ∧ Jx (pre ++ [x]) W')) →
    J (fun _ => False) [] W →
    CallsIn Fence.wide n P g (#[.func (.yield l) #[] #[]] ++ lb) W fun e W' => (∃ v, e = .returned v) ∧ ((∃ O xs, Sx xs ∧ J O xs W') ∨ (∃ pre, Sp pre ∧ Jx pre W'))

def xPost {α : Type} (Sb : Nat → Prop) (I : List α → World → Prop) (Ix : Code → List α → World → Prop) (xs : List α) (W : World) : Exit → Act → World → Prop
  | .normal, _, W' => Keeps W W' Sb ∧ I xs W'
  | .ret, _, W' => Keeps W W' Sb ∧ Ix .ret xs W'
  | .exit id, _, W' => Keeps W W' Sb ∧ Ix (.exit id) xs W'
  | .goto t, _, W' => Keeps W W' Sb ∧ Ix (.goto t) xs W'
  | .panic _, _, _ => False
  | .outgrown, _, _ => False

theorem keeps_put (W : World) (l : Nat) (o : Obj) : Keeps W (W.putObj l o) (fun k => k = l) := ⟨rfl, rfl, rfl, by simp, fun k _ h => World.putObj_heap_other h⟩

theorem rangeX {α : Type} {n : Nat} {P : Program} {g : Operand} {ps : Array Tmp} {assign body : Code} {Q : Exit → Act → World → Prop} {a : Act} {w : World}
    (h1 : 1 ≤ n) {gf : Nat} {lb : Array Value} (hg : a.eval g = .func (.func gf) #[] lb) (eg : ∀ args w, (callFunc gf args).run P w = .ok (.enter gf args) w)
    {encs : α → Array Value} {At : (Nat → Prop) → List α → α → World → Prop} {S : Nat → Prop} {Sx Sp : List α → Prop} (hseq : SeqOwn (n - 1) P gf lb encs At S Sx Sp w)
    (hps : ∀ x, (encs x).size = ps.size) (hS : ∀ b, S b → b < w.heap.size) (hAt : ∀ O pre x A B, At O pre x A → KpOf (fun b => S b ∨ O b) A B → At O pre x B)
    (Sb : Nat → Prop) (hSb : ∀ b, Sb b → b < w.heap.size ∧ ¬ S b)
    (I : List α → World → Prop) (hI : ∀ pre A B, I pre A → w.heap.size ≤ A.heap.size → Below w.heap.size A B → I pre B)
    (Ix : Code → List α → World → Prop) (hIx : ∀ c pre A B, Ix c pre A → Keeps A B (fun k => k = w.heap.size ∨ k = w.heap.size + 1) → Ix c pre B)
    (h0 : I [] w) (Ax : α → Act → World → Prop) (hAx : ∀ x a' A B, Ax x a' A → Keeps A B (fun k => k = w.heap.size + 1) → Ax x a' B)
    (hassign : ∀ (l : Nat) (x : α) (W : World) (K : Act → World → Prop), w.heap.size + 2 ≤ W.heap.size → (∀ a' W', Keeps W W' (fun _ => False) → Ax x a' W' → K a' W') →
      assign.wpIn (Fence.wide.inRound l) (n - 1 - 1) P (Exit.then K (fun _ _ _ => False)) { tmps := (ps.zip (encs x)).foldl (fun t (p, v) => t.setIfInBounds p v) a.tmps, defers := [] } W)
    (hbody : ∀ (l : Nat) (O : Nat → Prop) (pre : List α) (x : α) (a' : Act) (W : World), I pre W → At O pre x W → Ax x a' W → (∀ b, O b → w.heap.size + 2 ≤ b) → w.heap.size + 2 ≤ W.heap.size →
      body.wpIn (Fence.wide.inRound l) (n - 1 - 1) P (xPost Sb I Ix (pre ++ [x]) W) a' W)
    (hdone : ∀ (xs : List α) (W : World), Sx xs → I xs W → w.heap.size + 2 ≤ W.heap.size → W.heap[w.heap.size]? = some (.deferred (some [])) → Q .normal { a with defers := { target := .collected w.heap.size, args := #[] } :: a.defers } W)
    (hstop : ∀ (c : Code) (pre : List α) (W : World), Sp pre → Ix c pre W → w.heap.size + 2 ≤ W.heap.size → W.heap[w.heap.size]? = some (.deferred (some [])) → c.wpIn Fence.wide n P Q { a with defers := { target := .collected w.heap.size, args := #[] } :: a.defers } W) :
    (Code.rangeFunc g ps assign body).wpIn Fence.wide n P Q a w := by
  refine wpIn_rangeFunc fun fn _ => ?_
  -- the record, by its state and its pending jump
  let R : LoopState → Option Code → Loop := fun st pe => { state := st, pending := pe, fn := fn, tmps := a.tmps, params := ps, assign := assign, body := body, defers := w.heap.size }
  let s := w.heap.size
  let W1 := (w.alloc (.deferred (some []))).alloc (.loop (R .ready none))
  have hz1 : W1.heap.size = s + 2 := by simp [W1, s]
  have hrec1 : W1.heap[s + 1]? = some (.loop (R .ready none)) := by
    have := World.alloc_heap_new (w.alloc (.deferred (some []))) (.loop (R .ready none))
    rwa [World.size_alloc] at this
  have hdef1 : W1.heap[s]? = some (.deferred (some [])) := (Below.heap_alloc _ _ _ (by simp [s])).trans (World.alloc_heap_new w _)
  have hk1 : Keeps w W1 (fun _ => False) := ((Keeps.refl w _).alloc _).alloc _
  refine ⟨s + 1, [{ target := .collected s, args := #[] }], W1, { target := .fn (.func gf) lb, args := #[.func (.yield (s + 1)) #[] #[]] }, W1, gf, #[.func (.yield (s + 1)) #[] #[]] ++ lb, W1,
    run_enterLoop_outer _ _ _ _ _, (by simp only [resolve, hg]; simp [go_sem]), fun _ _ => trivial, by simp [invoke, go_sem, eg], fun _ => h1, ?_⟩
  -- what is kept in mind of the record and of the deferred calls
  let Bk : LoopState → Option Code → World → Prop := fun st pe W => W.heap[s + 1]? = some (.loop (R st pe)) ∧ W.heap[s]? = some (.deferred (some [])) ∧ s + 2 ≤ W.heap.size
  have hBk : ∀ {st pe A B} {T : Nat → Prop}, Bk st pe A → Keeps A B T → (∀ k, T k → k < s ∨ s + 2 ≤ k) → Bk st pe B := fun h k hT =>
    ⟨(k.block _ (by have := h.2.2; omega) fun ht => by have := hT _ ht; omega).trans h.1, (k.block _ (by have := h.2.2; omega) fun ht => by have := hT _ ht; omega).trans h.2.1, Nat.le_trans h.2.2 k.size⟩
  have hput : ∀ {st pe W} (st' : LoopState) (pe' : Option Code), Bk st pe W → Bk st' pe' (W.putObj (s + 1) (.loop (R st' pe'))) := fun st' pe' h =>
    ⟨World.putObj_heap_same (by have := h.2.2; omega), (World.putObj_heap_other (by omega)).trans h.2.1, by simpa using h.2.2⟩
  have hIput : ∀ {pre W} (o : Obj), I pre W → s + 2 ≤ W.heap.size → I pre (W.putObj (s + 1) o) := fun {pre W} o hi hz =>
    hI pre _ _ hi (by omega) ((keeps_put W (s + 1) o).below (fun k _ e => by subst e; show s ≤ _; omega) (by show s ≤ _; omega))
  refine (hseq (s + 1) (fun O pre W => (∀ b, O b → s + 2 ≤ b ∧ b < W.heap.size) ∧ I pre W ∧ Bk .ready none W) (fun pre W => ∃ c, Ix c pre W ∧ Bk .done (some c) W) W1 hk1 ?_ ?_ ?_ ⟨fun _ h => h.elim, hI _ _ _ h0 (Nat.le_refl _) (hk1.below (fun _ _ h => h.elim) (Nat.le_refl _)), hrec1, hdef1, by omega⟩).mono ?_
  · rintro O O' pre A B ⟨hO, hi, hb⟩ hk hO'
    have hz := hb.2.2
    refine ⟨fun b h => ⟨(hO' b h).2.elim (fun h => (hO b h).1) fun h => by omega, (hO' b h).1⟩, hI _ _ _ hi (by show s ≤ _; omega) (hk.below (fun k _ h => by have := (hO k h).1; show s ≤ _; omega) (by show s ≤ _; omega)), hBk hb hk fun k h => .inr (hO k h).1⟩
  · rintro pre A B ⟨c, hx, hb⟩ hk
    exact ⟨c, hIx _ _ _ _ hx (hk.mono fun _ _ h => h.elim), hBk hb hk fun k h => h.elim⟩
  · -- one round
    rintro O pre x W0 ⟨hO0, hi0, hb0⟩ hat0
    refine ⟨fn, _, assign, body, run_yield hb0.1 (hps x), roundIn_of_wpIn trivial (hassign _ x W0 _ hb0.2.2 ?_)⟩
    intro a' W hgr hax
    have hz0 := hb0.2.2
    have hb : Bk .ready none W := hBk hb0 hgr fun k h => h.elim
    have hz := hb.2.2
    have hi : I pre W := hI _ _ _ hi0 (by show s ≤ _; omega) (hgr.below (fun _ _ h => h.elim) (by show s ≤ _; omega))
    have hO : ∀ b, O b → s + 2 ≤ b ∧ b < W.heap.size := fun b h => ⟨(hO0 b h).1, Nat.lt_of_lt_of_le (hO0 b h).2 hgr.size⟩
    have hlt0 : ∀ b, S b ∨ O b → b < W0.heap.size := fun b h => h.elim (fun h => by have := hS b h; show b < W0.heap.size; have : s = w.heap.size := rfl; omega) fun h => (hO0 b h).2
    have hk0 : KpOf (fun b => S b ∨ O b) W0 W := fun b h => hgr.block b (hlt0 b h) id
    have hat : At O pre x W := hAt _ _ _ _ _ hat0 hk0
    refine ⟨_, run_beginRound hb.1 rfl, ?_⟩
    have hb2 := hput .busy none hb
    have hne : ∀ b, S b ∨ O b → b ≠ s + 1 := by
      rintro b (h | h)
      · have := hS b h
        show b ≠ w.heap.size + 1
        omega
      · have := hO b h
        omega
    have hkS : KpOf (fun b => S b ∨ O b) W (W.putObj (s + 1) (.loop (R .busy none))) := fun b h => World.putObj_heap_other (hne b h)
    refine wpIn_mono (hbody (s + 1) O pre x a' _ (hIput _ hi hz) (hAt _ _ _ _ _ hat hkS) (hAx _ _ _ _ hax (keeps_put _ _ _)) (fun b h => (hO b h).1) (by simpa using hz)) ?_
    have fin : ∀ (jump : Option Code) (W3 : World), Keeps (W.putObj (s + 1) (.loop (R .busy none))) W3 Sb → Bk .busy none W3 ∧ (Instr.endRound (s + 1) jump).run P W3 = .ok (.bool jump.isNone) (W3.putObj (s + 1) (.loop (R (if jump.isNone then .ready else .done) jump))) := fun jump W3 hk3 => by
      have hb3 : Bk .busy none W3 := hBk hb2 hk3 fun k h => .inl (hSb k h).1
      exact ⟨hb3, run_endRound jump hb3.1⟩
    have leave : ∀ (c : Code) (W3 : World), Keeps (W.putObj (s + 1) (.loop (R .busy none))) W3 Sb → Ix c (pre ++ [x]) W3 → ∃ v W4, (Instr.endRound (s + 1) (some c)).run P W3 = .ok v W4 ∧
        ((Ending.returned v = .returned (.bool true) ∧ ((∀ b, O b → s + 2 ≤ b ∧ b < W4.heap.size) ∧ I (pre ++ [x]) W4 ∧ Bk .ready none W4) ∧ KpOf (fun b => S b ∨ O b) W0 W4) ∨ (Ending.returned v = .returned (.bool false) ∧ ∃ c, Ix c (pre ++ [x]) W4 ∧ Bk .done (some c) W4)) := fun c W3 hk3 hx3 => by
      obtain ⟨hb3, hr⟩ := fin (some c) W3 hk3
      exact ⟨_, _, hr, .inr ⟨rfl, c, hIx _ _ _ _ hx3 ((keeps_put _ _ _).mono fun _ _ h => .inr h), hput .done (some c) hb3⟩⟩
    rintro e a3 W3 hp
    cases e with
    | normal =>
      obtain ⟨hk3, hi3⟩ := hp
      obtain ⟨hb3, hr⟩ := fin none W3 hk3
      refine ⟨_, _, hr, .inl ⟨rfl, ⟨fun b h => ⟨(hO b h).1, by have := (hO b h).2; have := hk3.size; simp at this ⊢; omega⟩, hIput _ hi3 hb3.2.2, hput .ready none hb3⟩, fun b h => ?_⟩⟩
      have hlt : b < W.heap.size := Nat.lt_of_lt_of_le (hlt0 b h) hgr.size
      rw [World.putObj_heap_other (hne b h)]
      refine ((hk3.block b (by simpa using hlt) fun hs => ?_).trans (hkS b h)).trans (hk0 b h)
      rcases h with h | h
      · exact (hSb b hs).2 h
      · have := hO b h; have := (hSb b hs).1; omega
    | ret => exact leave _ _ hp.1 hp.2
    | exit id => exact leave _ _ hp.1 hp.2
    | goto t => exact leave _ _ hp.1 hp.2
    | panic ch => exact hp.elim
    | outgrown => exact hp.elim
  · -- behind the iterator
    rintro e W2 ⟨⟨v, rfl⟩, (⟨O, xs, hx, _, hi, hb⟩ | ⟨pre, hp, c, hx, hb⟩)⟩
    · exact ⟨none, _, run_endLoop hb.1 (by simp [R]), hdone xs _ hx (hIput _ hi hb.2.2) (by simpa using hb.2.2) ((World.putObj_heap_other (by omega)).trans hb.2.1)⟩
    · exact ⟨some c, _, run_endLoop hb.1 (by simp [R]), hstop c pre _ hp (hIx _ _ _ _ hx ((keeps_put _ _ _).mono fun _ _ h => .inr h)) (by simpa using hb.2.2) ((World.putObj_heap_other (by omega)).trans hb.2.1)⟩
end Go.Proofs.YteggcdhibcjneaaGreatDoor.Kit
namespace Go.Proofs.YteggcdhibcjneaaGreatDoor.Kit
open Go.RowKit Go.Shelf Go.Deep
/-! ### fields as trees, and as they lie in memory -/
inductive FT where
  | mk (name : ByteArray) (nul : Bool) (kind width id index : Int) (kids : List FT)
deriving Inhabited
namespace FT
def name : FT → ByteArray | mk n _ _ _ _ _ _ => n
def nul : FT → Bool | mk _ n _ _ _ _ _ => n
def kind : FT → Int | mk _ _ k _ _ _ _ => k
def width : FT → Int | mk _ _ _ w _ _ _ => w
def id : FT → Int | mk _ _ _ _ i _ _ => i
def index : FT → Int | mk _ _ _ _ _ i _ => i
def kids : FT → List FT | mk _ _ _ _ _ _ l => l
end FT

def big : Nat := 1000000000000
/-- seven cells: a field -/
structure CellsAt (W : World) (b o : Nat) (f : FT) (ao : Option Addr) (ca : Nat) : Prop where
  c0 : W.cell? ⟨b, o, none⟩ = some (.string f.name)
  c1 : W.cell? ⟨b, o + 1, none⟩ = some (.bool f.nul)
  c2 : W.cell? ⟨b, o + 2, none⟩ = some (.int .i64 f.kind)
  c3 : W.cell? ⟨b, o + 3, none⟩ = some (.int .i64 f.width)
  c4 : W.cell? ⟨b, o + 4, none⟩ = some (.int .i64 f.id)
  c5 : W.cell? ⟨b, o + 5, none⟩ = some (.int .i64 f.index)
  c6 : W.cell? ⟨b, o + 6, none⟩ = some (.slice ao f.kids.length ca)

/-- a list of fields lies in blocks of S; d: no deeper -/
def RowAt (S : Nat → Prop) (W : World) : Nat → Option Addr → List FT → Prop
  | 0, _, l => l = []
  | d + 1, ao, l => l.length ≤ big ∧ (l ≠ [] → ∃ b o, ao = some ⟨b, o, none⟩ ∧ S b ∧ ∀ i (h : i < l.length), ∃ ao' ca', CellsAt W b (o + i * 7) l[i] ao' ca' ∧ l[i].kids.length ≤ ca' ∧ RowAt S W d ao' l[i].kids)

theorem CellsAt.kept {W W' : World} {b o : Nat} {f : FT} {ao : Option Addr} {ca : Nat} (h : CellsAt W b o f ao ca) (e : W'.heap[b]? = W.heap[b]?) : CellsAt W' b o f ao ca := by
  have k : ∀ j, W'.cell? ⟨b, j, none⟩ = W.cell? ⟨b, j, none⟩ := fun j => World.cell?_of_block (w := W) e
  exact ⟨(k _).trans h.c0, (k _).trans h.c1, (k _).trans h.c2, (k _).trans h.c3, (k _).trans h.c4, (k _).trans h.c5, (k _).trans h.c6⟩
theorem RowAt.kept {S : Nat → Prop} {W W' : World} (k : KpOf S W W') : ∀ {d : Nat} {ao : Option Addr} {l : List FT}, RowAt S W d ao l → RowAt S W' d ao l
  | 0, _, _, h => h
  | _ + 1, _, _, h => ⟨h.1, fun hn => by
    obtain ⟨b, o, e, hb, hi⟩ := h.2 hn
    refine ⟨b, o, e, hb, fun i hl => ?_⟩
    obtain ⟨ao', ca', hc, hle, hr⟩ := hi i hl
    exact ⟨ao', ca', hc.kept (k b hb), hle, RowAt.kept k hr⟩⟩
theorem RowAt.mono {S T : Nat → Prop} (hST : ∀ b, S b → T b) {W : World} : ∀ {d : Nat} {ao : Option Addr} {l : List FT}, RowAt S W d ao l → RowAt T W d ao l
  | 0, _, _, h => h
  | _ + 1, _, _, h => ⟨h.1, fun hn => by
    obtain ⟨b, o, e, hb, hi⟩ := h.2 hn
    refine ⟨b, o, e, hST b hb, fun i hl => ?_⟩
    obtain ⟨ao', ca', hc, hle, hr⟩ := hi i hl
    exact ⟨ao', ca', hc, hle, RowAt.mono hST hr⟩⟩
theorem RowAt.len {S : Nat → Prop} {W : World} {d : Nat} {ao : Option Addr} {l : List FT} (h : RowAt S W d ao l) : l.length ≤ big := by
  cases d with
  | zero => have : l = [] := h; subst this; simp [big]
  | succ d => exact h.1

/-- where a walk through fields stands -/
structure LS where
  list : List FT
  path : List Nat
  inD : Bool
/-- the fields, each ahead of those within it -/
def nodes : Nat → List FT → List Nat → Bool → List LS
  | 0, _, _, _ => []
  | d + 1, l, path, inD => (List.range l.length).flatMap fun i => ⟨l, path ++ [i], inD⟩ :: nodes d (l[i]!).kids (path ++ [i]) (inD || decide ((l[i]!).kind = 19))
/-- those of the first i fields -/
def upto (d : Nat) (l : List FT) (path : List Nat) (inD : Bool) (i : Nat) : List LS :=
  (List.range i).flatMap fun i => ⟨l, path ++ [i], inD⟩ :: nodes d (l[i]!).kids (path ++ [i]) (inD || decide ((l[i]!).kind = 19))
theorem nodes_succ (d : Nat) (l : List FT) (path : List Nat) (inD : Bool) : nodes (d + 1) l path inD = upto d l path inD l.length := rfl
theorem upto_zero (d : Nat) (l : List FT) (path : List Nat) (inD : Bool) : upto d l path inD 0 = [] := rfl
theorem upto_succ (d : Nat) (l : List FT) (path : List Nat) (inD : Bool) (i : Nat) :
    upto d l path inD (i + 1) = upto d l path inD i ++ ⟨l, path ++ [i], inD⟩ :: nodes d (l[i]!).kids (path ++ [i]) (inD || decide ((l[i]!).kind = 19)) := by
  simp [upto, List.range_succ, List.flatMap_append]
theorem upto_prefix (d : Nat) (l : List FT) (path : List Nat) (inD : Bool) {i j : Nat} (h : i ≤ j) : upto d l path inD i <+: upto d l path inD j := by
  induction j with
  | zero => obtain rfl : i = 0 := by omega
            exact List.prefix_rfl
  | succ j ih =>
    by_cases e : i = j + 1
    · subst e; exact List.prefix_rfl
    · exact (ih (by omega)).trans (by rw [upto_succ]; exact List.prefix_append _ _)

/-- a spot as it is handed out: where its lists lie, too -/
structure Spot where
  ao : Option Addr
  ca : Nat
  list : List FT
  path : List Nat
  wb : Nat
  wc : Nat
  inD : Bool
  d : Nat
def Spot.ls (x : Spot) : LS := ⟨x.list, x.path, x.inD⟩
def ints (l : List Nat) : List Value := l.map fun (n : Nat) => Value.int .i64 (n : Int)
end Go.Proofs.YteggcdhibcjneaaGreatDoor.Kit
namespace Go.Proofs.YteggcdhibcjneaaGreatDoor.Kit
set_option linter.unusedVariables false
/-! ### values as trees, their shape and their order -/
inductive VT where
  | mk (nul : Bool) (num : Int) (text : ByteArray) (list : List VT)
deriving Inhabited
namespace VT
def nul : VT → Bool | mk n _ _ _ => n
def num : VT → Int | mk _ n _ _ => n
def text : VT → ByteArray | mk _ _ t _ => t
def list : VT → List VT | mk _ _ _ l => l
theorem ext' {a b : VT} (h1 : a.nul = b.nul) (h2 : a.num = b.num) (h3 : a.text = b.text) (h4 : a.list = b.list) : a = b := by
  cases a; cases b
  simp only [nul, num, text, list] at h1 h2 h3 h4
  subst h1 h2 h3 h4
  rfl
end VT
def u64Of (n : Int) : Int := if n < 0 then n + 18446744073709551616 else n
/-- a number that rises as floating-point numbers do -/
def rankOf (n : Int) : Int := if n < 0 then -9223372036854775809 - n else n
def is64 (n : Int) : Prop := -9223372036854775808 ≤ n ∧ n ≤ 9223372036854775807
theorem u64Of_inj {a b : Int} (ha : is64 a) (hb : is64 b) (h : u64Of a = u64Of b) : a = b := by
  unfold u64Of at h
  unfold is64 at ha hb
  split at h <;> split at h <;> omega
theorem rankOf_inj {a b : Int} (ha : is64 a) (hb : is64 b) (h : rankOf a = rankOf b) : a = b := by
  unfold rankOf at h
  unfold is64 at ha hb
  split at h <;> split at h <;> omega
/-- what kinds ask of a value that is not null -/
def shapeB (sh : FT → VT → Prop) (f : FT) (v : VT) : Prop :=
  if f.kind = 12 ∨ f.kind = 13 ∨ f.kind = 14 then v.num = 0 ∧ v.list = []
  else if f.kind = 15 ∨ f.kind = 16 then v.num = 0 ∧ v.text = ⟨#[]⟩ ∧ ∀ x ∈ v.list, sh f.kids.head! x
  else if f.kind = 17 then v.num = 0 ∧ v.text = ⟨#[]⟩ ∧ Parts (f.kids.map sh) v.list
  else if f.kind = 18 then v.text = ⟨#[]⟩ ∧ ∃ x, v.list = [x] ∧ sh (f.kids.getD v.num.toNat default) x
  else if f.kind = 19 ∨ f.kind = 20 then sh f.kids.head! v ∧ v.nul = false
  else v.text = ⟨#[]⟩ ∧ v.list = [] ∧ is64 v.num
/-- what a value that fits is made of (its weight and the bounds of its numbers aside) -/
def shape : Nat → FT → VT → Prop
  | 0, _, _ => False
  | n + 1, f, v => (v.nul = true → v.num = 0 ∧ v.text = ⟨#[]⟩ ∧ v.list = []) ∧ (v.nul = false → shapeB (shape n) f v)
def cmpB (c : FT → VT → VT → Int) (f : FT) (a b : VT) : Int :=
  if f.kind = 12 ∨ f.kind = 13 ∨ f.kind = 14 then cmpT a.text.data.toList b.text.data.toList
  else if f.kind = 15 ∨ f.kind = 16 then cmpL (c f.kids.head!) a.list b.list
  else if f.kind = 17 then cmpP (f.kids.map c) a.list b.list
  else if f.kind = 18 then cmpC VT.num (fun k a b => c (f.kids.getD k.toNat default) a.list.head! b.list.head!) a b
  else if f.kind = 19 ∨ f.kind = 20 then c f.kids.head! a b
  else if f.kind = 10 then cmpI (u64Of a.num) (u64Of b.num)
  else if f.kind = 11 then cmpI (rankOf a.num) (rankOf b.num)
  else cmpI a.num b.num
def cmpV : Nat → FT → VT → VT → Int
  | 0, _, _, _ => 0
  | n + 1, f, a, b => cmpN VT.nul (cmpB (cmpV n) f) a b
theorem ords_map {sh : FT → VT → Prop} {c : FT → VT → VT → Int} (h : ∀ f, IsOrd (sh f) (c f)) : ∀ l : List FT, Ords (l.map sh) (l.map c)
  | [] => rfl
  | f :: l => ⟨_, _, rfl, h f, ords_map h l⟩
theorem bytes_ext {a b : ByteArray} (h : a.data.toList = b.data.toList) : a = b := by
  cases a; cases b
  simp at h
  rw [h]
theorem cmpB_ord {sh : FT → VT → Prop} {c : FT → VT → VT → Int} (h : ∀ f, IsOrd (sh f) (c f)) (f : FT) : IsOrd (fun v => v.nul = false ∧ shapeB sh f v) (cmpB c f) := by
  unfold cmpB shapeB
  by_cases k1 : f.kind = 12 ∨ f.kind = 13 ∨ f.kind = 14
  · simp only [if_pos k1]
    exact cmpT_ord.comap (fun v : VT => v.text.data.toList) (fun _ _ => trivial) (fun a b ha hb e => VT.ext' (ha.1.trans hb.1.symm) (ha.2.1.trans hb.2.1.symm) (bytes_ext e) (ha.2.2.trans hb.2.2.symm))
  simp only [if_neg k1]
  by_cases k2 : f.kind = 15 ∨ f.kind = 16
  · simp only [if_pos k2]
    exact (cmpL_ord (h f.kids.head!)).comap VT.list (fun a ha => ha.2.2.2) (fun a b ha hb e => VT.ext' (ha.1.trans hb.1.symm) (ha.2.1.trans hb.2.1.symm) (ha.2.2.1.trans hb.2.2.1.symm) e)
  simp only [if_neg k2]
  by_cases k3 : f.kind = 17
  · simp only [if_pos k3]
    exact (cmpP_ord (ords_map h f.kids)).comap VT.list (fun a ha => ha.2.2.2) (fun a b ha hb e => VT.ext' (ha.1.trans hb.1.symm) (ha.2.1.trans hb.2.1.symm) (ha.2.2.1.trans hb.2.2.1.symm) e)
  simp only [if_neg k3]
  by_cases k4 : f.kind = 18
  · simp only [if_pos k4]
    refine cmpC_ord (fun k => ?_)
    refine (h (f.kids.getD k.toNat default)).comap (fun v : VT => v.list.head!) (fun a ha => ?_) (fun a b ha hb e => ?_)
    · obtain ⟨⟨h1, h2, x, h3, h4⟩, rfl⟩ := ha
      simp only [h3]
      exact h4
    · obtain ⟨⟨h1, h2, x, h3, h4⟩, h5⟩ := ha
      obtain ⟨⟨g1, g2, y, g3, g4⟩, g5⟩ := hb
      simp only [h3, g3] at e
      have e' : x = y := e
      subst e'
      exact VT.ext' (h1.trans g1.symm) (h5.trans g5.symm) (h2.trans g2.symm) (h3.trans g3.symm)
  simp only [if_neg k4]
  by_cases k5 : f.kind = 19 ∨ f.kind = 20
  · simp only [if_pos k5]
    exact (h f.kids.head!).mono (fun a ha => ha.2.1)
  simp only [if_neg k5]
  by_cases k6 : f.kind = 10
  · simp only [if_pos k6]
    exact cmpK_ord (fun v : VT => u64Of v.num) (fun a b ha hb e => VT.ext' (ha.1.trans hb.1.symm) (u64Of_inj ha.2.2.2 hb.2.2.2 e) (ha.2.1.trans hb.2.1.symm) (ha.2.2.1.trans hb.2.2.1.symm))
  simp only [if_neg k6]
  by_cases k7 : f.kind = 11
  · simp only [if_pos k7]
    exact cmpK_ord (fun v : VT => rankOf v.num) (fun a b ha hb e => VT.ext' (ha.1.trans hb.1.symm) (rankOf_inj ha.2.2.2 hb.2.2.2 e) (ha.2.1.trans hb.2.1.symm) (ha.2.2.1.trans hb.2.2.1.symm))
  simp only [if_neg k7]
  exact cmpK_ord (fun v : VT => v.num) (fun a b ha hb e => VT.ext' (ha.1.trans hb.1.symm) e (ha.2.1.trans hb.2.1.symm) (ha.2.2.1.trans hb.2.2.1.symm))
/-- the order of the values that fit a field is one of all -/
theorem cmpV_ord : ∀ (n : Nat) (f : FT), IsOrd (shape n f) (cmpV n f)
  | 0, f => ⟨fun a b ha => ha.elim, fun a b d ha => ha.elim, fun a b ha => ha.elim⟩
  | n + 1, f => cmpN_ord (S := fun v => v.nul = false ∧ shapeB (shape n) f v) (cmpB_ord (cmpV_ord n) f) (fun a ha hn => ⟨hn, ha.2 hn⟩)
    (fun a b ha hb na nb => by
      obtain ⟨a1, a2, a3⟩ := ha.1 na
      obtain ⟨b1, b2, b3⟩ := hb.1 nb
      exact VT.ext' (na.trans nb.symm) (a1.trans b1.symm) (a2.trans b2.symm) (a3.trans b3.symm))
/-- a null stands ahead -/
theorem cmpV_null {n : Nat} {f : FT} {a b : VT} (h : a.nul = true) : cmpV n f a b ≤ 0 := by
  cases n with
  | zero => exact Int.le_refl _
  | succ n =>
    show cmpN VT.nul _ a b ≤ 0
    unfold cmpN
    rw [if_pos (.inl h), h]
    split
    · omega
    · simp
end Go.Proofs.YteggcdhibcjneaaGreatDoor.Kit
