import Derived.WalkKit
import Derived.WalkSmall
import Derived.Outline
import Derived.Deep.AppendSrc
import Derived.Deep.RegionLaw
import Derived.Deep.OwnRows
import Derived.Deep.QuietTactic
import Derived.BigQuiet
import Derived.Laws.CopyOwn
import Derived.RangeFuncNested
import Derived.RangeFuncFrom
import Derived.RangeFuncBound
import Derived.RangeFuncCalls
import Derived.RangeFuncLeaves
import Derived.Shelf.Abstract
import Derived.Shelf.RegionOpen
import Derived.OwnWalkIn
import Derived.TacticsInMore
import Derived.LoopNIn
import Derived.LoopIn
import Derived.Maps.AppendAt
import Derived.Test.YthhpamhfnpacpaaGreatDoorProg
import Derived.Deep.RegionHeld3
set_option linter.unusedVariables false
set_option linter.unusedSimpArgs false
set_option maxRecDepth 100000
set_option maxHeartbeats 8000000
namespace Go.Proofs.YthhpamhfnpacpaaGreatDoor.Kit
open Go.RowKit Go.Deep
structure Keeps (w w' : World) (S : Nat → Prop) : Prop where
 os : w'.os = w.os
 tape : w'.tape = w.tape
 output : w'.output = w.output
 size : w.heap.size ≤ w'.heap.size
 block : ∀ k, k < w.heap.size → ¬ S k → w'.heap[k]? = w.heap[k]?
theorem Keeps.refl (w : World) (S : Nat → Prop) : Keeps w w S := ⟨rfl, rfl, rfl, Nat.le_refl _, fun _ _ _ => rfl⟩
theorem Keeps.mono {w w' : World} {S T : Nat → Prop} (h : Keeps w w' S) (k : ∀ b, b < w.heap.size → S b → T b) : Keeps w w' T :=
 ⟨h.os, h.tape, h.output, h.size, fun b hb hn => h.block b hb fun hs => hn (k b hb hs)⟩
theorem Keeps.trans {a b c : World} {S T : Nat → Prop} (h : Keeps a b S) (k : Keeps b c T) (hT : ∀ j, j < a.heap.size → T j → S j) : Keeps a c S :=
 ⟨k.os.trans h.os, k.tape.trans h.tape, k.output.trans h.output, Nat.le_trans h.size k.size,
  fun j hj hn => (k.block j (Nat.lt_of_lt_of_le hj h.size) fun ht => hn (hT j hj ht)).trans (h.block j hj hn)⟩
theorem Keeps.tr {a b c : World} {S : Nat → Prop} (h : Keeps a b S) (k : Keeps b c S) : Keeps a c S := h.trans k fun _ _ h => h
theorem ex {α : Sort _} (a : α) : ∃ b, a = b := ⟨a, rfl⟩
theorem al_new {W A : World} {o : Obj} (h : W.alloc o = A) : A.heap[W.heap.size]? = some o := by rw [← h]; exact heap_alloc_new W _
theorem Keeps.alloc {a w : World} {S : Nat → Prop} (h : Keeps a w S) (o : Obj) : Keeps a (w.alloc o) S :=
 h.trans (T := fun _ => False) ⟨rfl, rfl, rfl, by simp, fun k hk _ => Below.heap_alloc w o k hk⟩ (fun _ _ h => h.elim)
theorem Keeps.drew {a w : World} {S : Nat → Prop} (h : Keeps a w S) : Keeps a w.drew S := ⟨h.os, h.tape, h.output, h.size, h.block⟩
theorem Keeps.drewN {a w : World} {S : Nat → Prop} (h : Keeps a w S) (n : Nat) : Keeps a (w.drewN n) S := ⟨h.os, h.tape, h.output, h.size, h.block⟩
theorem Keeps.setCell {a w : World} {S : Nat → Prop} (h : Keeps a w S) {p : Addr} (hp : p.block < a.heap.size → S p.block) (u : Value) : Keeps a (w.setCell p u) S :=
 h.trans (T := fun k => k = p.block) ⟨rfl, rfl, rfl, by simp [World.setCell], fun k _ hk => heap_setCell_other w p k u hk⟩ (fun j hj e => by subst e; exact hp hj)
theorem Keeps.ofGrown {w w' : World} {row : Option Nat} (h : w.grownBy w' row) : Keeps w w' (fun k => row = some k) :=
 ⟨h.os, h.tape, h.output, h.size, fun k hk hn => h.block k hk fun e => hn e.symm⟩
theorem Keeps.ofBelow {w w' : World} {B : Nat} (h : Below B w w') : Keeps w w' (fun k => B ≤ k) :=
 ⟨h.os, h.tape, h.output, h.size, fun k _ hn => h.block k (by omega)⟩
theorem Keeps.below {w w' : World} {S : Nat → Prop} (h : Keeps w w' S) {B : Nat} (hS : ∀ k, k < w.heap.size → S k → B ≤ k) (hB : B ≤ w.heap.size) : Below B w w' :=
 ⟨h.os, h.tape, h.output, h.size, fun k hk => h.block k (by omega) fun hs => by have := hS k (by omega) hs; omega⟩
theorem Keeps.cell {w w' : World} {S : Nat → Prop} (h : Keeps w w' S) {p : Addr} (hp : p.block < w.heap.size) (hn : ¬ S p.block) : w'.cell? p = w.cell? p := World.cell?_of_block (w := w) (h.block p.block hp hn)
theorem Keeps.cell' {w w' : World} {S : Nat → Prop} (h : Keeps w w' S) {p : Addr} {v : Value} (hc : w.cell? p = some v) (hn : ¬ S p.block) : w'.cell? p = some v :=
 (h.cell (block_lt_of_cell hc) hn).trans hc
section
variable {P : Program} (w : World)
theorem run_append_room_row (t tx ty e : TypeId) (i : TypeInfo) (ht : P.underlying t = some (.slice e)) (hi : P.info? e = some i)
  (g sLen sCap : Nat) (cur : Array Value) (hg : w.heap[g]? = some (.cells cur e (0, 0))) (x : Value) (m : Nat) (news : List Value) (hs : Src P i.size tx x m news w)
  (hroom : sLen + m ≤ sCap) (hfit : sLen * i.size + news.length ≤ cur.size) :
  (Builtin.append_ #[t, tx] ty #[.slice (some ⟨g, 0, none⟩) sLen sCap, x]).run P w =
   .ok (.slice (some ⟨g, 0, none⟩) (sLen + m) sCap) (w.setRow g (cur.toList.take (sLen * i.size) ++ news ++ cur.toList.drop (sLen * i.size + news.length)).toArray) := by
 have hst := run_storeCells_at P g (sLen * i.size) e news 0 cur w hg (by simpa using hfit) hs.one
 simp only [Nat.add_zero] at hst
 rcases hs.kind with ⟨e', hk⟩ | hk <;> simp [Builtin.append_, run_underlying ht, run_underlying hk, sizeOf, typeInfo, hi, hs.len, hroom, hs.cells, Addr.add_lit, hst]
theorem run_append_any (t tx ty e : TypeId) (i : TypeInfo) (z : Value) (bytes : Nat) (ht : P.underlying t = some (.slice e)) (hi : P.info? e = some i) (hz : i.zero = some z) (hsize : i.size = 1) (hby : i.bytes = bytes) (hzs : z.cells.size = 1)
  (v : Value) (n : Nat) (xs : List Value) (hown : w.ownsRow 0 e 1 v n xs) (x : Value) (m : Nat) (news : List Value) (hs : Src P 1 tx x m news w)
  (h63 : n + m ≤ 9223372036854775807) (hbytes : (n + m) * bytes ≤ 140737488355328) :
  ∃ v' w', (Builtin.append_ #[t, tx] ty #[v, x]).run P w = .ok v' w' ∧ w'.ownsRow 0 e 1 v' (n + m) (xs ++ news) ∧ w.grownBy w' v.ownBlock ∧
   (v'.ownBlock = v.ownBlock ∨ ∀ g, v'.ownBlock = some g → w.heap.size ≤ g) := by
 subst hby
 have hlen : (xs ++ news).length = (n + m) * 1 := by rw [List.length_append, hown.1, hs.newsLen, Nat.add_mul]
 have grown : ∀ (old : Nat), old < n + m → ∀ (row : Option Nat),
   (w.drew.alloc (.cells ((xs ++ news).toArray ++ Builtin.zeroCells z.cells (grownCap w (n + m) old e - (n + m))) e)).ownsRow 0 e 1
    (.slice (some ⟨w.heap.size, 0, none⟩) (n + m) (grownCap w (n + m) old e)) (n + m) (xs ++ news) ∧
   w.grownBy (w.drew.alloc (.cells ((xs ++ news).toArray ++ Builtin.zeroCells z.cells (grownCap w (n + m) old e - (n + m))) e)) row := by
  intro old ho row
  have hge := grownCap_ge w (n + m) old e
  have hcm : grownCap w (n + m) old e ≤ maxLen := grownCap_le_maxLen w (n + m) old e h63
  refine ⟨⟨hlen, .inr ⟨w.heap.size, _, _, rfl, Nat.zero_le _, heap_alloc_new w.drew _, hge, hcm, ?_, ?_⟩⟩, ⟨rfl, rfl, rfl, by simp, fun k hk _ => Below.heap_alloc w.drew _ k hk⟩⟩
  ·simp only [Array.size_append, List.size_toArray, size_zeroCells, hzs, hlen]
   omega
  simp only [Array.toList_append]
  rw [← hlen]
  exact List.take_left
 rcases hown.2 with ⟨rfl, rfl⟩ | ⟨g, cap, cur, rfl, hbg, hg, hnc, hcm, hcs, htake⟩
 ·have hx : xs = [] := List.eq_nil_of_length_eq_zero (by simpa using hown.1)
  subst hx
  by_cases hm : m = 0
  ·subst hm
   have hn : news = [] := List.eq_nil_of_length_eq_zero (by simpa using hs.newsLen)
   subst hn
   refine ⟨.slice none 0 0, w, ?_, World.ownsRow_nil w 0 e 1, ⟨rfl, rfl, rfl, Nat.le_refl _, fun _ _ _ => rfl⟩, .inl rfl⟩
   have hc := hs.cells
   have hl := hs.len
   rcases hs.kind with ⟨e', hk⟩ | hk <;> simp [Builtin.append_, run_underlying ht, run_underlying hk, sizeOf, typeInfo, hi, hsize, hl, hc]
  have hr := run_append_grow_src (P := P) w t tx ty e i z ht hi hz none 0 0 [] (by simpa using run_firstCells_none w.drew i.size 0 0 0) x m news (by rw [hsize]; exact hs) (by omega) (by omega) (growslice_fits (by omega) hbytes)
  have hgr := grown 0 (by omega) (Value.ownBlock (.slice none 0 0))
  exact ⟨_, _, hr, hgr.1, hgr.2, .inr fun g hg => by simp [Value.ownBlock] at hg; omega⟩
 by_cases hroom : n + m ≤ cap
 ·have hl := hs.newsLen
  have hfit : n * i.size + news.length ≤ cur.size := by rw [hl, hcs, hsize, ← Nat.add_mul]; exact Nat.mul_le_mul_right _ hroom
  have hr := run_append_room_row (P := P) w t tx ty e i ht hi g n cap cur hg x m news (by rw [hsize]; exact hs) hroom hfit
  rw [hsize] at hr hfit
  refine ⟨_, _, hr, ⟨hlen, .inr ⟨g, cap, _, rfl, hbg, setRow_heap w g cur _ e _ hg, hroom, hcm, ?_, ?_⟩⟩, ⟨rfl, rfl, rfl, by simp, fun k _ hk => setRow_other w g k _ (fun e => hk (by simp [Value.ownBlock, e]))⟩, .inl rfl⟩
  ·simp only [List.size_toArray, List.length_append, List.length_take, List.length_drop, Array.length_toList]
   omega
  rw [htake, ← hlen]
  exact List.take_left
 have holds : ∀ j u, xs[j]? = some u → w.cell? ((⟨g, 0, none⟩ : Addr).add j) = some u := hown.cells (g := g) rfl
 have hr := run_append_grow_src (P := P) w t tx ty e i z ht hi hz (some ⟨g, 0, none⟩) n cap xs (run_firstCells_some w.drew i.size n ⟨g, 0, none⟩ n cap xs (by rw [hsize]; exact hown.1) (by simpa using holds)) x m news (by rw [hsize]; exact hs) (by omega) (by omega) (growslice_fits (by omega) hbytes)
 have hgr := grown cap (by omega) (Value.ownBlock (.slice (some ⟨g, 0, none⟩) n cap))
 exact ⟨_, _, hr, hgr.1, hgr.2, .inr fun g' hg' => by simp [Value.ownBlock] at hg'; omega⟩
theorem wpList_append_any {ops : Array Oper} {rest : List Oper} {o : Oper} {a : Act} {Q : Exit → Act → World → Prop} (hgd : o.guard = none) (s x : Operand) (t tx : TypeId)
  (ho : o.op = .call { callee := .builtin .append, args := #[s, x], argTypes := #[t, tx] })
  (e : TypeId) (z : Value) (bytes : Nat) (ht : P.underlying t = some (.slice e)) (hinfo : (P.info? e).map (fun i => (i.zero, i.size, i.bytes)) = some (some z, 1, bytes)) (hzs : z.cells.size = 1)
  (v : Value) (n : Nat) (xs : List Value) (hv : a.eval s = v) (hown : w.ownsRow 0 e 1 v n xs) (y : Value) (m : Nat) (news : List Value) (hx : a.eval x = y) (hs : Src P 1 tx y m news w)
  (h63 : n + m ≤ 9223372036854775807) (hbytes : (n + m) * bytes ≤ 140737488355328)
  (h : ∀ v' w', w'.ownsRow 0 e 1 v' (n + m) (xs ++ news) → w.grownBy w' v.ownBlock → (v'.ownBlock = v.ownBlock ∨ ∀ g, v'.ownBlock = some g → w.heap.size ≤ g) → wpList P ops Q rest (a.put o.dst v') w') :
  wpList P ops Q (o :: rest) a w := by
 refine wpList_plain hgd fun K hK' => ?_
 obtain ⟨i, hi, hzz⟩ := Option.map_eq_some_iff.1 hinfo
 simp only [Prod.mk.injEq] at hzz
 obtain ⟨hz, hsz, hb⟩ := hzz
 obtain ⟨v', w', hr, h2, h3, h4⟩ := run_append_any (P := P) w t tx o.type e i z bytes ht hi hz hsz hb hzs v n xs hown y m news hs h63 hbytes
 unfold Oper.wp
 simp [execOp, ho, resolve, invoke, builtin, hv, hx, hr, Result.andThen]
 exact hK' _ _ (h v' w' h2 h3 h4)
theorem step_append_any {ops : Array Oper} {o : Oper} {a : Act} {K : Act → World → Prop} {Q : Exit → Act → World → Prop} {E : Prop} (hgd : o.guard = none) (s x : Operand) (t tx : TypeId)
  (ho : o.op = .call { callee := .builtin .append, args := #[s, x], argTypes := #[t, tx] })
  (e : TypeId) (z : Value) (bytes : Nat) (ht : P.underlying t = some (.slice e)) (hinfo : (P.info? e).map (fun i => (i.zero, i.size, i.bytes)) = some (some z, 1, bytes)) (hzs : z.cells.size = 1)
  (v : Value) (n : Nat) (xs : List Value) (hv : a.eval s = v) (hown : w.ownsRow 0 e 1 v n xs) (y : Value) (m : Nat) (news : List Value) (hx : a.eval x = y) (hs : Src P 1 tx y m news w)
  (h63 : n + m ≤ 9223372036854775807) (hbytes : (n + m) * bytes ≤ 140737488355328)
  (h : ∀ v' w', w'.ownsRow 0 e 1 v' (n + m) (xs ++ news) → w.grownBy w' v.ownBlock → (v'.ownBlock = v.ownBlock ∨ ∀ g, v'.ownBlock = some g → w.heap.size ≤ g) → K (a.put o.dst v') w') :
  if Region.wanted o (yielded ops a.tmps) = true then Oper.wp P o a w K Q else E := by
 have hw : Region.wanted o (yielded ops a.tmps) = true := by simp [Region.wanted, hgd]
 rw [if_pos hw]
 obtain ⟨i, hi, hzz⟩ := Option.map_eq_some_iff.1 hinfo
 simp only [Prod.mk.injEq] at hzz
 obtain ⟨hz, hsz, hb⟩ := hzz
 obtain ⟨v', w', hr, h2, h3, h4⟩ := run_append_any (P := P) w t tx o.type e i z bytes ht hi hz hsz hb hzs v n xs hown y m news hs h63 hbytes
 unfold Oper.wp
 simp [execOp, ho, resolve, invoke, builtin, hv, hx, hr, Result.andThen]
 exact h v' w' h2 h3 h4
end
end Go.Proofs.YthhpamhfnpacpaaGreatDoor.Kit
namespace Go.Proofs.YthhpamhfnpacpaaGreatDoor.Kit
open Go.RowKit Go.Shelf Go.Deep
def KpOf (S : Nat → Prop) (W W' : World) : Prop := ∀ b, S b → W'.heap[b]? = W.heap[b]?
def JAbides {β : Type} (J : (Nat → Prop) → β → World → Prop) : Prop :=
 ∀ (O O' : Nat → Prop) (s : β) (A B : World), J O s A → Keeps A B O → (∀ k, O' k → k < B.heap.size ∧ (O k ∨ A.heap.size ≤ k)) → J O' s B
def XAbides {β : Type} (J : β → World → Prop) : Prop := ∀ (s : β) (A B : World), J s A → Keeps A B (fun _ => False) → J s B
def SeqOwn {α : Type} (n : Nat) (P : Program) (g : Nat) (lb : Array Value) (encs : α → Array Value) (At : (Nat → Prop) → List α → α → World → Prop) (S : Nat → Prop) (Sx Sp : List α → Prop) (w : World) : Prop :=
 ∀ (l : Nat) (J : (Nat → Prop) → List α → World → Prop) (Jx : List α → World → Prop) (W : World), Keeps w W (fun _ => False) → JAbides J → XAbides Jx →
  (∀ O pre x W1, J O pre W1 → At O pre x W1 → YieldAt Fence.wide (n - 1) P l (encs x) W1 fun e W' =>
   (e = .returned (.bool true) ∧ J O (pre ++ [x]) W' ∧ KpOf (fun b => S b ∨ O b) W1 W') ∨ (e = .returned (.bool false) ∧ Jx (pre ++ [x]) W')) →
  J (fun _ => False) [] W →
  CallsIn Fence.wide n P g (#[.func (.yield l) #[] #[]] ++ lb) W fun e W' => (∃ v, e = .returned v) ∧ ((∃ O xs, Sx xs ∧ J O xs W') ∨ (∃ pre, Sp pre ∧ Jx pre W'))
def xPost {α : Type} (Sb : Nat → Prop) (I : List α → World → Prop) (Ix : Code → List α → World → Prop) (xs : List α) (W : World) : Exit → Act → World → Prop
 | .normal, _, W' => Keeps W W' Sb ∧ I xs W'
 | .ret, _, W' => Keeps W W' Sb ∧ Ix .ret xs W'
 | .exit id, _, W' => Keeps W W' Sb ∧ Ix (.exit id) xs W'
 | .goto t, _, W' => Keeps W W' Sb ∧ Ix (.goto t) xs W'
 | .panic _, _, _ => False
 | .outgrown, _, _ => False
theorem keeps_put (W : World) (l : Nat) (o : Obj) : Keeps W (W.putObj l o) (fun k => k = l) := ⟨rfl, rfl, rfl, by simp, fun k _ h => World.putObj_heap_other h⟩
theorem rangeX {α : Type} {n : Nat} {P : Program} {g : Operand} {ps : Array Tmp} {assign body : Code} {Q : Exit → Act → World → Prop} {a : Act} {w : World}
  (h1 : 1 ≤ n) {gf : Nat} {lb : Array Value} (hg : a.eval g = .func (.func gf) #[] lb) (eg : ∀ args w, (callFunc gf args).run P w = .ok (.enter gf args) w)
  {encs : α → Array Value} {At : (Nat → Prop) → List α → α → World → Prop} {S : Nat → Prop} {Sx Sp : List α → Prop} (hseq : SeqOwn (n - 1) P gf lb encs At S Sx Sp w)
  (hps : ∀ x, (encs x).size = ps.size) (hS : ∀ b, S b → b < w.heap.size) (hAt : ∀ O pre x A B, At O pre x A → KpOf (fun b => S b ∨ O b) A B → At O pre x B)
  (Sb : Nat → Prop) (hSb : ∀ b, Sb b → b < w.heap.size ∧ ¬ S b)
  (I : List α → World → Prop) (hI : ∀ pre A B, I pre A → w.heap.size ≤ A.heap.size → Below w.heap.size A B → I pre B)
  (Ix : Code → List α → World → Prop) (hIx : ∀ c pre A B, Ix c pre A → Keeps A B (fun k => k = w.heap.size ∨ k = w.heap.size + 1) → Ix c pre B)
  (h0 : I [] w) (Ax : α → Act → World → Prop) (hAx : ∀ x a' A B, Ax x a' A → Keeps A B (fun k => k = w.heap.size + 1) → Ax x a' B)
  (hassign : ∀ (l : Nat) (x : α) (W : World) (K : Act → World → Prop), w.heap.size + 2 ≤ W.heap.size → (∀ a' W', Keeps W W' (fun _ => False) → Ax x a' W' → K a' W') →
   assign.wpIn (Fence.wide.inRound l) (n - 1 - 1) P (Exit.then K (fun _ _ _ => False)) { tmps := (ps.zip (encs x)).foldl (fun t (p, v) => t.setIfInBounds p v) a.tmps, defers := [] } W)
  (hbody : ∀ (l : Nat) (O : Nat → Prop) (pre : List α) (x : α) (a' : Act) (W : World), I pre W → At O pre x W → Ax x a' W → (∀ b, O b → w.heap.size + 2 ≤ b) → w.heap.size + 2 ≤ W.heap.size →
   body.wpIn (Fence.wide.inRound l) (n - 1 - 1) P (xPost Sb I Ix (pre ++ [x]) W) a' W)
  (hdone : ∀ (xs : List α) (W : World), Sx xs → I xs W → w.heap.size + 2 ≤ W.heap.size → W.heap[w.heap.size]? = some (.deferred (some [])) → Q .normal { a with defers := { target := .collected w.heap.size, args := #[] } :: a.defers } W)
  (hstop : ∀ (c : Code) (pre : List α) (W : World), Sp pre → Ix c pre W → w.heap.size + 2 ≤ W.heap.size → W.heap[w.heap.size]? = some (.deferred (some [])) → c.wpIn Fence.wide n P Q { a with defers := { target := .collected w.heap.size, args := #[] } :: a.defers } W) :
  (Code.rangeFunc g ps assign body).wpIn Fence.wide n P Q a w := by
 refine wpIn_rangeFunc fun fn _ => ?_
 -- the record, by its state and its pending jump
 let R : LoopState → Option Code → Loop := fun st pe => { state := st, pending := pe, fn := fn, tmps := a.tmps, params := ps, assign := assign, body := body, defers := w.heap.size }
 let s := w.heap.size
 let W1 := (w.alloc (.deferred (some []))).alloc (.loop (R .ready none))
 have hz1 : W1.heap.size = s + 2 := by simp [W1, s]
 have hrec1 : W1.heap[s + 1]? = some (.loop (R .ready none)) := by
  have := World.alloc_heap_new (w.alloc (.deferred (some []))) (.loop (R .ready none))
  rwa [World.size_alloc] at this
 have hdef1 : W1.heap[s]? = some (.deferred (some [])) := (Below.heap_alloc _ _ _ (by simp [s])).trans (World.alloc_heap_new w _)
 have hk1 : Keeps w W1 (fun _ => False) := ((Keeps.refl w _).alloc _).alloc _
 refine ⟨s + 1, [{ target := .collected s, args := #[] }], W1, { target := .fn (.func gf) lb, args := #[.func (.yield (s + 1)) #[] #[]] }, W1, gf, #[.func (.yield (s + 1)) #[] #[]] ++ lb, W1,
  run_enterLoop_outer _ _ _ _ _, (by simp only [resolve, hg]; simp [go_sem]), fun _ _ => trivial, by simp [invoke, go_sem, eg], fun _ => h1, ?_⟩
 -- what is kept in mind of the record and of the deferred calls
 let Bk : LoopState → Option Code → World → Prop := fun st pe W => W.heap[s + 1]? = some (.loop (R st pe)) ∧ W.heap[s]? = some (.deferred (some [])) ∧ s + 2 ≤ W.heap.size
 have hBk : ∀ {st pe A B} {T : Nat → Prop}, Bk st pe A → Keeps A B T → (∀ k, T k → k < s ∨ s + 2 ≤ k) → Bk st pe B := fun h k hT =>
  ⟨(k.block _ (by have := h.2.2; omega) fun ht => by have := hT _ ht; omega).trans h.1, (k.block _ (by have := h.2.2; omega) fun ht => by have := hT _ ht; omega).trans h.2.1, Nat.le_trans h.2.2 k.size⟩
 have hput : ∀ {st pe W} (st' : LoopState) (pe' : Option Code), Bk st pe W → Bk st' pe' (W.putObj (s + 1) (.loop (R st' pe'))) := fun st' pe' h =>
  ⟨World.putObj_heap_same (by have := h.2.2; omega), (World.putObj_heap_other (by omega)).trans h.2.1, by simpa using h.2.2⟩
 have hIput : ∀ {pre W} (o : Obj), I pre W → s + 2 ≤ W.heap.size → I pre (W.putObj (s + 1) o) := fun {pre W} o hi hz =>
  hI pre _ _ hi (by omega) ((keeps_put W (s + 1) o).below (fun k _ e => by subst e; show s ≤ _; omega) (by show s ≤ _; omega))
 refine (hseq (s + 1) (fun O pre W => (∀ b, O b → s + 2 ≤ b ∧ b < W.heap.size) ∧ I pre W ∧ Bk .ready none W) (fun pre W => ∃ c, Ix c pre W ∧ Bk .done (some c) W) W1 hk1 ?_ ?_ ?_ ⟨fun _ h => h.elim, hI _ _ _ h0 (Nat.le_refl _) (hk1.below (fun _ _ h => h.elim) (Nat.le_refl _)), hrec1, hdef1, by omega⟩).mono ?_
 ·rintro O O' pre A B ⟨hO, hi, hb⟩ hk hO'
  have hz := hb.2.2
  refine ⟨fun b h => ⟨(hO' b h).2.elim (fun h => (hO b h).1) fun h => by omega, (hO' b h).1⟩, hI _ _ _ hi (by show s ≤ _; omega) (hk.below (fun k _ h => by have := (hO k h).1; show s ≤ _; omega) (by show s ≤ _; omega)), hBk hb hk fun k h => .inr (hO k h).1⟩
 ·rintro pre A B ⟨c, hx, hb⟩ hk
  exact ⟨c, hIx _ _ _ _ hx (hk.mono fun _ _ h => h.elim), hBk hb hk fun k h => h.elim⟩
 ·-- one round
  rintro O pre x W0 ⟨hO0, hi0, hb0⟩ hat0
  refine ⟨fn, _, assign, body, run_yield hb0.1 (hps x), roundIn_of_wpIn trivial (hassign _ x W0 _ hb0.2.2 ?_)⟩
  intro a' W hgr hax
  have hz0 := hb0.2.2
  have hb : Bk .ready none W := hBk hb0 hgr fun k h => h.elim
  have hz := hb.2.2
  have hi : I pre W := hI _ _ _ hi0 (by show s ≤ _; omega) (hgr.below (fun _ _ h => h.elim) (by show s ≤ _; omega))
  have hO : ∀ b, O b → s + 2 ≤ b ∧ b < W.heap.size := fun b h => ⟨(hO0 b h).1, Nat.lt_of_lt_of_le (hO0 b h).2 hgr.size⟩
  have hlt0 : ∀ b, S b ∨ O b → b < W0.heap.size := fun b h => h.elim (fun h => by have := hS b h; show b < W0.heap.size; have : s = w.heap.size := rfl; omega) fun h => (hO0 b h).2
  have hk0 : KpOf (fun b => S b ∨ O b) W0 W := fun b h => hgr.block b (hlt0 b h) id
  have hat : At O pre x W := hAt _ _ _ _ _ hat0 hk0
  refine ⟨_, run_beginRound hb.1 rfl, ?_⟩
  have hb2 := hput .busy none hb
  have hne : ∀ b, S b ∨ O b → b ≠ s + 1 := by
   rintro b (h | h)
   ·have := hS b h
    show b ≠ w.heap.size + 1
    omega
   have := hO b h
   omega
  have hkS : KpOf (fun b => S b ∨ O b) W (W.putObj (s + 1) (.loop (R .busy none))) := fun b h => World.putObj_heap_other (hne b h)
  refine wpIn_mono (hbody (s + 1) O pre x a' _ (hIput _ hi hz) (hAt _ _ _ _ _ hat hkS) (hAx _ _ _ _ hax (keeps_put _ _ _)) (fun b h => (hO b h).1) (by simpa using hz)) ?_
  have fin : ∀ (jump : Option Code) (W3 : World), Keeps (W.putObj (s + 1) (.loop (R .busy none))) W3 Sb → Bk .busy none W3 ∧ (Instr.endRound (s + 1) jump).run P W3 = .ok (.bool jump.isNone) (W3.putObj (s + 1) (.loop (R (if jump.isNone then .ready else .done) jump))) := fun jump W3 hk3 => by
   have hb3 : Bk .busy none W3 := hBk hb2 hk3 fun k h => .inl (hSb k h).1
   exact ⟨hb3, run_endRound jump hb3.1⟩
  have leave : ∀ (c : Code) (W3 : World), Keeps (W.putObj (s + 1) (.loop (R .busy none))) W3 Sb → Ix c (pre ++ [x]) W3 → ∃ v W4, (Instr.endRound (s + 1) (some c)).run P W3 = .ok v W4 ∧
    ((Ending.returned v = .returned (.bool true) ∧ ((∀ b, O b → s + 2 ≤ b ∧ b < W4.heap.size) ∧ I (pre ++ [x]) W4 ∧ Bk .ready none W4) ∧ KpOf (fun b => S b ∨ O b) W0 W4) ∨ (Ending.returned v = .returned (.bool false) ∧ ∃ c, Ix c (pre ++ [x]) W4 ∧ Bk .done (some c) W4)) := fun c W3 hk3 hx3 => by
   obtain ⟨hb3, hr⟩ := fin (some c) W3 hk3
   exact ⟨_, _, hr, .inr ⟨rfl, c, hIx _ _ _ _ hx3 ((keeps_put _ _ _).mono fun _ _ h => .inr h), hput .done (some c) hb3⟩⟩
  rintro e a3 W3 hp
  cases e with
  | normal =>
   obtain ⟨hk3, hi3⟩ := hp
   obtain ⟨hb3, hr⟩ := fin none W3 hk3
   refine ⟨_, _, hr, .inl ⟨rfl, ⟨fun b h => ⟨(hO b h).1, by have := (hO b h).2; have := hk3.size; simp at this ⊢; omega⟩, hIput _ hi3 hb3.2.2, hput .ready none hb3⟩, fun b h => ?_⟩⟩
   have hlt : b < W.heap.size := Nat.lt_of_lt_of_le (hlt0 b h) hgr.size
   rw [World.putObj_heap_other (hne b h)]
   refine ((hk3.block b (by simpa using hlt) fun hs => ?_).trans (hkS b h)).trans (hk0 b h)
   rcases h with h | h
   ·exact (hSb b hs).2 h
   have := hO b h; have := (hSb b hs).1; omega
  | ret => exact leave _ _ hp.1 hp.2
  | exit id => exact leave _ _ hp.1 hp.2
  | goto t => exact leave _ _ hp.1 hp.2
  | panic ch => exact hp.elim
  | outgrown => exact hp.elim
 -- behind the iterator
 rintro e W2 ⟨⟨v, rfl⟩, (⟨O, xs, hx, _, hi, hb⟩ | ⟨pre, hp, c, hx, hb⟩)⟩
 ·exact ⟨none, _, run_endLoop hb.1 (by simp [R]), hdone xs _ hx (hIput _ hi hb.2.2) (by simpa using hb.2.2) ((World.putObj_heap_other (by omega)).trans hb.2.1)⟩
 exact ⟨some c, _, run_endLoop hb.1 (by simp [R]), hstop c pre _ hp (hIx _ _ _ _ hx ((keeps_put _ _ _).mono fun _ _ h => .inr h)) (by simpa using hb.2.2) ((World.putObj_heap_other (by omega)).trans hb.2.1)⟩
end Go.Proofs.YthhpamhfnpacpaaGreatDoor.Kit
namespace Go.Proofs.YthhpamhfnpacpaaGreatDoor.Kit
open Go.RowKit Go.Shelf Go.Deep
inductive FT where
 | mk (name : ByteArray) (nul : Bool) (kind width id index : Int) (kids : List FT)
deriving Inhabited
namespace FT
def name : FT → ByteArray | mk n _ _ _ _ _ _ => n
def nul : FT → Bool | mk _ n _ _ _ _ _ => n
def kind : FT → Int | mk _ _ k _ _ _ _ => k
def width : FT → Int | mk _ _ _ w _ _ _ => w
def id : FT → Int | mk _ _ _ _ i _ _ => i
def index : FT → Int | mk _ _ _ _ _ i _ => i
def kids : FT → List FT | mk _ _ _ _ _ _ l => l
end FT
def big : Nat := 1000000000000
structure CellsAt (W : World) (b o : Nat) (f : FT) (ao : Option Addr) (ca : Nat) : Prop where
 c0 : W.cell? ⟨b, o, none⟩ = some (.string f.name)
 c1 : W.cell? ⟨b, o + 1, none⟩ = some (.bool f.nul)
 c2 : W.cell? ⟨b, o + 2, none⟩ = some (.int .i64 f.kind)
 c3 : W.cell? ⟨b, o + 3, none⟩ = some (.int .i64 f.width)
 c4 : W.cell? ⟨b, o + 4, none⟩ = some (.int .i64 f.id)
 c5 : W.cell? ⟨b, o + 5, none⟩ = some (.int .i64 f.index)
 c6 : W.cell? ⟨b, o + 6, none⟩ = some (.slice ao f.kids.length ca)
def RowAt (S : Nat → Prop) (W : World) : Nat → Option Addr → List FT → Prop
 | 0, _, l => l = []
 | d + 1, ao, l => l.length ≤ big ∧ (l ≠ [] → ∃ b o, ao = some ⟨b, o, none⟩ ∧ S b ∧ ∀ i (h : i < l.length), ∃ ao' ca', CellsAt W b (o + i * 7) l[i] ao' ca' ∧ l[i].kids.length ≤ ca' ∧ RowAt S W d ao' l[i].kids)
theorem CellsAt.kept {W W' : World} {b o : Nat} {f : FT} {ao : Option Addr} {ca : Nat} (h : CellsAt W b o f ao ca) (e : W'.heap[b]? = W.heap[b]?) : CellsAt W' b o f ao ca := by
 have k : ∀ j, W'.cell? ⟨b, j, none⟩ = W.cell? ⟨b, j, none⟩ := fun j => World.cell?_of_block (w := W) e
 exact ⟨(k _).trans h.c0, (k _).trans h.c1, (k _).trans h.c2, (k _).trans h.c3, (k _).trans h.c4, (k _).trans h.c5, (k _).trans h.c6⟩
theorem RowAt.kept {S : Nat → Prop} {W W' : World} (k : KpOf S W W') : ∀ {d : Nat} {ao : Option Addr} {l : List FT}, RowAt S W d ao l → RowAt S W' d ao l
 | 0, _, _, h => h
 | _ + 1, _, _, h => ⟨h.1, fun hn => by
  obtain ⟨b, o, e, hb, hi⟩ := h.2 hn
  refine ⟨b, o, e, hb, fun i hl => ?_⟩
  obtain ⟨ao', ca', hc, hle, hr⟩ := hi i hl
  exact ⟨ao', ca', hc.kept (k b hb), hle, RowAt.kept k hr⟩⟩
theorem RowAt.mono {S T : Nat → Prop} (hST : ∀ b, S b → T b) {W : World} : ∀ {d : Nat} {ao : Option Addr} {l : List FT}, RowAt S W d ao l → RowAt T W d ao l
 | 0, _, _, h => h
 | _ + 1, _, _, h => ⟨h.1, fun hn => by
  obtain ⟨b, o, e, hb, hi⟩ := h.2 hn
  refine ⟨b, o, e, hST b hb, fun i hl => ?_⟩
  obtain ⟨ao', ca', hc, hle, hr⟩ := hi i hl
  exact ⟨ao', ca', hc, hle, RowAt.mono hST hr⟩⟩
theorem RowAt.len {S : Nat → Prop} {W : World} {d : Nat} {ao : Option Addr} {l : List FT} (h : RowAt S W d ao l) : l.length ≤ big := by
 cases d with
 | zero => have : l = [] := h; subst this; simp [big]
 | succ d => exact h.1
structure LS where
 list : List FT
 path : List Nat
 inD : Bool
def nodes : Nat → List FT → List Nat → Bool → List LS
 | 0, _, _, _ => []
 | d + 1, l, path, inD => (List.range l.length).flatMap fun i => ⟨l, path ++ [i], inD⟩ :: nodes d (l[i]!).kids (path ++ [i]) (inD || decide ((l[i]!).kind = 19))
def upto (d : Nat) (l : List FT) (path : List Nat) (inD : Bool) (i : Nat) : List LS :=
 (List.range i).flatMap fun i => ⟨l, path ++ [i], inD⟩ :: nodes d (l[i]!).kids (path ++ [i]) (inD || decide ((l[i]!).kind = 19))
theorem nodes_succ (d : Nat) (l : List FT) (path : List Nat) (inD : Bool) : nodes (d + 1) l path inD = upto d l path inD l.length := rfl
theorem upto_zero (d : Nat) (l : List FT) (path : List Nat) (inD : Bool) : upto d l path inD 0 = [] := rfl
theorem upto_succ (d : Nat) (l : List FT) (path : List Nat) (inD : Bool) (i : Nat) :
  upto d l path inD (i + 1) = upto d l path inD i ++ ⟨l, path ++ [i], inD⟩ :: nodes d (l[i]!).kids (path ++ [i]) (inD || decide ((l[i]!).kind = 19)) := by
 simp [upto, List.range_succ, List.flatMap_append]
theorem upto_prefix (d : Nat) (l : List FT) (path : List Nat) (inD : Bool) {i j : Nat} (h : i ≤ j) : upto d l path inD i <+: upto d l path inD j := by
 induction j with
 | zero => obtain rfl : i = 0 := by omega
           exact List.prefix_rfl
 | succ j ih =>
  by_cases e : i = j + 1
  ·subst e; exact List.prefix_rfl
  exact (ih (by omega)).trans (by rw [upto_succ]; exact List.prefix_append _ _)
structure Spot where
 ao : Option Addr
 ca : Nat
 list : List FT
 path : List Nat
 wb : Nat
 wc : Nat
 inD : Bool
 d : Nat
def Spot.ls (x : Spot) : LS := ⟨x.list, x.path, x.inD⟩
def ints (l : List Nat) : List Value := l.map fun (n : Nat) => Value.int .i64 (n : Int)
end Go.Proofs.YthhpamhfnpacpaaGreatDoor.Kit
namespace Go.Proofs.YthhpamhfnpacpaaGreatDoor.Kit
open Go.RowKit Go.Shelf Go.Deep
theorem run_store_func {P : Program} {w : World} {a : Addr} {m : Mode} (f : Fn) (env lb : Array Value) : (store a (.func f env lb) m).run P w = stored P w a (.func f env lb) m := run_store P w a _ m rfl
attribute [local go_sem] Oper.semAt_some run_store_func
structure AtS (S O : Nat → Prop) (x : Spot) (W : World) : Prop where
 row : RowAt S W (x.d + 1) x.ao x.list
 le : x.list.length ≤ x.ca
 ix : ∃ p i, x.path = p ++ [i] ∧ i < x.list.length
 way : W.ownsRow 0 3 1 (.slice (some ⟨x.wb, 0, none⟩) x.path.length x.wc) x.path.length (ints x.path)
 wO : O x.wb
 deep : x.path.length ≤ big
def encS (x : Spot) : Array Value := #[.agg #[.slice x.ao x.list.length x.ca, .slice (some ⟨x.wb, 0, none⟩) x.path.length x.wc, .bool x.inD]]
structure Dn (l bw by_ bd : Nat) (O : Nat → Prop) (path : List Nat) (W : World) : Prop where
 yb : Boxed W by_ 142 (.func (.yield l) #[] #[])
 db : Boxed W bd 143 (.func (.func 75) #[] #[.pointer (some ⟨bw, 0, none⟩), .pointer (some ⟨by_, 0, none⟩), .pointer (some ⟨bd, 0, none⟩)])
 wy : ∃ vo vc, Boxed W bw 29 (.slice vo path.length vc) ∧ W.ownsRow 0 3 1 (.slice vo path.length vc) path.length (ints path) ∧ ∀ g, (Value.slice vo path.length vc).ownBlock = some g → O g
 ow : O bw
 oy : O by_
 od : O bd
theorem Boxed.kp {W W' : World} {B t : Nat} {v : Value} (h : Boxed W B t v) (e : W'.heap[B]? = W.heap[B]?) : Boxed W' B t v := (e.trans h : _)
theorem own_kp {W W' : World} {t : Nat} {v : Value} {n : Nat} {xs : List Value} (h : W.ownsRow 0 t 1 v n xs) (e : ∀ g, v.ownBlock = some g → W'.heap[g]? = W.heap[g]?) : W'.ownsRow 0 t 1 v n xs := by
 refine ⟨h.1, h.2.imp id ?_⟩
 rintro ⟨g, cap, cur, rfl, h0, hg, r⟩
 exact ⟨g, cap, cur, rfl, h0, (e g rfl).trans hg, r⟩
theorem Dn.kept {l bw by_ bd : Nat} {O : Nat → Prop} {path : List Nat} {W W' : World} (h : Dn l bw by_ bd O path W) (k : KpOf O W W') : Dn l bw by_ bd O path W' := by
 obtain ⟨vo, vc, h1, h2, h3⟩ := h.wy
 exact ⟨Boxed.kp h.yb (k _ h.oy), Boxed.kp h.db (k _ h.od), ⟨vo, vc, Boxed.kp h1 (k _ h.ow), own_kp h2 fun g e => k g (h3 g e), h3⟩, h.ow, h.oy, h.od⟩
theorem wpListIn_append_any {F : Fence} {n : Nat} {P : Program} (w : World) {ops : Array Oper} {rest : List Oper} {o : Oper} {a : Act} {Q : Exit → Act → World → Prop} (hgd : o.guard = none) (s x : Operand) (t tx : TypeId)
  (ho : o.op = .call { callee := .builtin .append, args := #[s, x], argTypes := #[t, tx] })
  (e : TypeId) (z : Value) (bytes : Nat) (ht : P.underlying t = some (.slice e)) (hinfo : (P.info? e).map (fun i => (i.zero, i.size, i.bytes)) = some (some z, 1, bytes)) (hzs : z.cells.size = 1)
  (v : Value) (k : Nat) (xs : List Value) (hv : a.eval s = v) (hown : w.ownsRow 0 e 1 v k xs) (y : Value) (m : Nat) (news : List Value) (hx : a.eval x = y) (hs : Src P 1 tx y m news w)
  (h63 : k + m ≤ 9223372036854775807) (hbytes : (k + m) * bytes ≤ 140737488355328)
  (h : ∀ v' w', w'.ownsRow 0 e 1 v' (k + m) (xs ++ news) → w.grownBy w' v.ownBlock → (v'.ownBlock = v.ownBlock ∨ ∀ g, v'.ownBlock = some g → w.heap.size ≤ g) → wpListIn F n P ops Q rest (a.put o.dst v') w') :
  wpListIn F n P ops Q (o :: rest) a w := by
 refine wpListIn_plain hgd fun K hK' => ?_
 obtain ⟨i, hi, hzz⟩ := Option.map_eq_some_iff.1 hinfo
 simp only [Prod.mk.injEq] at hzz
 obtain ⟨hz, hsz, hb⟩ := hzz
 obtain ⟨v', w', hr, h2, h3, h4⟩ := run_append_any (P := P) w t tx o.type e i z bytes ht hi hz hsz hb hzs v k xs hown y m news hs h63 hbytes
 unfold Oper.wpIn
 refine ⟨by simp [Oper.about, ho, resolve, Target.leads, Sem.run_pure], ?_⟩
 rw [Oper.semAt_plain F _ _ (by rw [ho]; intro c hc'; cases hc')]
 simp [execOp, ho, resolve, invoke, builtin, hv, hx, hr, Result.andThen]
 exact hK' _ _ (h v' w' h2 h3 h4)
theorem info3 : (Tryz.prog.info? 3).map (fun i => (i.zero, i.size, i.bytes)) = some (some (.int .i64 0), 1, 8) := by kernel_rfl
theorem cell_new (W : World) (v : Value) (t : TypeId) : (W.alloc (.cells #[v] t)).cell? ⟨W.heap.size, 0, none⟩ = some v := by
 exact (Boxed.new W t v).cell
theorem src_int (w : World) (u : Value) (hu : u.oneCell' = true) : Src Tryz.prog 1 29 (.slice (some ⟨w.heap.size, 0, none⟩) 1 1) 1 [u] (w.alloc (.cells #[u] 3)) := by
 refine Src.ofSlice (w := w.alloc (.cells #[u] 3)) Tryz.underlying29 ⟨w.heap.size, 0, none⟩ 1 1 [u] rfl (fun j v h => ?_) (fun v h => by simp at h; subst h; exact hu)
 cases j with
 | zero => cases h; exact (cell_new w u 3)
 | succ j => simp at h
theorem src_int_at (w : World) (G : Nat) (hG : w.heap.size = G) (u : Value) (hu : u.oneCell' = true) : Src Tryz.prog 1 29 (.slice (some ⟨G, 0, none⟩) 1 1) 1 [u] (w.alloc (.cells #[u] 3)) := by subst hG; exact src_int w u hu
theorem ints_snoc (p : List Nat) (k : Nat) : ints (p ++ [k]) = ints p ++ [.int .i64 (k : Int)] := by simp [ints]
theorem box_ne_row {W : World} {bw t u : Nat} {x : Value} {v : Value} {n : Nat} {xs : List Value} (h : Boxed W bw t x) (ho : W.ownsRow 0 u 1 v n xs) (hne : t ≠ u) (e : v.ownBlock = some bw) : False := by
 rcases ho.2 with ⟨rfl, _⟩ | ⟨g, cap, cur, rfl, _, hg, _⟩
 ·simp [Value.ownBlock] at e
 simp [Value.ownBlock] at e
 subst e
 have h2 : W.heap[g]? = _ := h
 rw [hg] at h2
 simp at h2
 exact hne h2.2.symm
theorem dn_step {l bw by_ bd : Nat} {O : Nat → Prop} {path : List Nat} {wr w1 : World} {vo : Option Addr} {vc g cap k : Nat} {F : Obj}
  (hD : Dn l bw by_ bd O path wr) (hO : ∀ b, O b → b < wr.heap.size) (hv : Boxed wr bw 29 (.slice vo path.length vc)) (hown : wr.ownsRow 0 3 1 (.slice vo path.length vc) path.length (ints path)) (hvO : ∀ g, (Value.slice vo path.length vc).ownBlock = some g → O g)
  (ho1 : w1.ownsRow 0 3 1 (.slice (some ⟨g, 0, none⟩) (path.length + 1) cap) (path.length + 1) (ints path ++ [.int .i64 (k : Int)]))
  (hg1 : ((wr.alloc F).alloc (.cells #[.int .i64 (k : Int)] 3)).grownBy w1 (Value.slice vo path.length vc).ownBlock)
  (hor : (Value.slice (some ⟨g, 0, none⟩) (path.length + 1) cap).ownBlock = (Value.slice vo path.length vc).ownBlock ∨ ∀ g', (Value.slice (some ⟨g, 0, none⟩) (path.length + 1) cap).ownBlock = some g' → ((wr.alloc F).alloc (.cells #[.int .i64 (k : Int)] 3)).heap.size ≤ g') :
  Boxed w1 bw 29 (.slice vo path.length vc) ∧ (w1.setCell ⟨bw, 0, none⟩ (.slice (some ⟨g, 0, none⟩) (path.length + 1) cap)).heap[wr.heap.size]? = some F ∧
  Dn l bw by_ bd (fun b => O b ∨ b = wr.heap.size ∨ b = g) (path ++ [k]) (w1.setCell ⟨bw, 0, none⟩ (.slice (some ⟨g, 0, none⟩) (path.length + 1) cap)) ∧
  Keeps wr (w1.setCell ⟨bw, 0, none⟩ (.slice (some ⟨g, 0, none⟩) (path.length + 1) cap)) O ∧
  (∀ b, (O b ∨ b = wr.heap.size ∨ b = g) → b < (w1.setCell ⟨bw, 0, none⟩ (.slice (some ⟨g, 0, none⟩) (path.length + 1) cap)).heap.size ∧ (O b ∨ wr.heap.size ≤ b)) ∧
  (w1.setCell ⟨bw, 0, none⟩ (.slice (some ⟨g, 0, none⟩) (path.length + 1) cap)).ownsRow 0 3 1 (.slice (some ⟨g, 0, none⟩) (path.length + 1) cap) (path ++ [k]).length (ints (path ++ [k])) := by
 have hbw := hO _ hD.ow
 have hne : (Value.slice vo path.length vc).ownBlock ≠ some bw := fun e => box_ne_row hv hown (by decide) e
 have hk1 : Keeps wr w1 (fun b => (Value.slice vo path.length vc).ownBlock = some b) := (((Keeps.refl wr _).alloc F).alloc _).tr (Keeps.ofGrown hg1)
 have hb1 : Boxed w1 bw 29 (.slice vo path.length vc) := Boxed.kp hv (hk1.block _ hbw hne)
 have hgb : (Value.slice (some (⟨g, 0, none⟩ : Addr)) (path.length + 1) cap).ownBlock = some g := rfl
 have hgl : g < w1.heap.size := by
  rcases ho1.2 with ⟨e, _⟩ | ⟨g', cap', cur, e, _, hgg, _⟩
  ·cases e
  cases e; exact (Array.getElem?_eq_some_iff.1 hgg).1
 have hgne : g ≠ bw := fun e => box_ne_row hb1 ho1 (by decide) (by rw [hgb, e])
 have hgO : O g ∨ wr.heap.size ≤ g := by
  rcases hor with e | e
  ·exact .inl (hvO g (by rw [← e, hgb]))
  have := e g hgb
  simp at this
  exact .inr (by omega)
 have hsz : wr.heap.size < w1.heap.size := by have := hg1.size; simp at this; omega
 have hk2 : Keeps wr (w1.setCell ⟨bw, 0, none⟩ (.slice (some ⟨g, 0, none⟩) (path.length + 1) cap)) O :=
  (hk1.mono fun b _ e => hvO b e).setCell (fun _ => hD.ow) _
 have hother : ∀ b, b ≠ bw → (w1.setCell ⟨bw, 0, none⟩ (.slice (some ⟨g, 0, none⟩) (path.length + 1) cap)).heap[b]? = w1.heap[b]? := fun b h => heap_setCell_other w1 ⟨bw, 0, none⟩ b _ h
 have hnb : ∀ {B t x}, Boxed wr B t x → t ≠ 3 → B ≠ bw → Boxed (w1.setCell ⟨bw, 0, none⟩ (.slice (some ⟨g, 0, none⟩) (path.length + 1) cap)) B t x := fun {B t x} h ht hB =>
  Boxed.kp h ((hother B hB).trans (hk1.block B (Array.getElem?_eq_some_iff.1 (show wr.heap[B]? = _ from h)).1 fun e => box_ne_row h hown ht e))
 have hby : by_ ≠ bw := fun e => by have h1 : wr.heap[by_]? = _ := hD.yb; rw [e, show wr.heap[bw]? = _ from hv] at h1; simp at h1
 have hbd : bd ≠ bw := fun e => by have h1 : wr.heap[bd]? = _ := hD.db; rw [e, show wr.heap[bw]? = _ from hv] at h1; simp at h1
 have how : (w1.setCell ⟨bw, 0, none⟩ (.slice (some ⟨g, 0, none⟩) (path.length + 1) cap)).ownsRow 0 3 1 (.slice (some ⟨g, 0, none⟩) (path.length + 1) cap) (path ++ [k]).length (ints (path ++ [k])) := by
  rw [ints_snoc, List.length_append]
  exact own_kp ho1 fun g' e => by rw [hgb] at e; cases e; exact hother g hgne
 refine ⟨hb1, ?_, ⟨hnb hD.yb (by decide) hby, hnb hD.db (by decide) hbd, ⟨some ⟨g, 0, none⟩, cap, ?_, ?_, ?_⟩, .inl hD.ow, .inl hD.oy, .inl hD.od⟩, hk2, ?_, how⟩
 ·rw [hother _ (by omega)]
  have h3 : ((wr.alloc F).alloc (.cells #[.int .i64 (k : Int)] 3)).heap[wr.heap.size]? = some F := (Below.heap_alloc _ _ _ (by simp)).trans (World.alloc_heap_new wr F)
  refine (hg1.block _ (by simp; omega) fun e => ?_).trans h3
  have := hO _ (hvO _ e.symm)
  omega
 ·rw [List.length_append]; exact hb1.set _
 ·rw [List.length_append]; rw [List.length_append] at how; exact how
 ·rw [List.length_append]; rintro g' e; cases e; exact .inr (.inr rfl)
 rintro b (h | rfl | rfl)
 ·exact ⟨by have := hO b h; simp [World.setCell]; omega, .inl h⟩
 ·exact ⟨by simp [World.setCell]; omega, .inr (Nat.le_refl _)⟩
 exact ⟨by simp [World.setCell]; omega, hgO⟩
end Go.Proofs.YthhpamhfnpacpaaGreatDoor.Kit
namespace Go.Proofs.YthhpamhfnpacpaaGreatDoor.Kit
open Go.RowKit Go.Shelf Go.Deep
attribute [local go_sem] Oper.semAt_some run_store_func
theorem own_lt {w : World} {t s : Nat} {v : Value} {n : Nat} {xs : List Value} (h : w.ownsRow 0 t s v n xs) (g : Nat) (e : v.ownBlock = some g) : g < w.heap.size := by
 rcases h.2 with ⟨rfl, _⟩ | ⟨g', cap, cur, rfl, _, hgg, _⟩
 ·simp [Value.ownBlock] at e
 simp [Value.ownBlock] at e
 subst e
 exact (Array.getElem?_eq_some_iff.1 hgg).1
section down
variable {l bw by_ bd : Nat} {S : Nat → Prop} {J : (Nat → Prop) → List Spot → World → Prop} {Jx : List Spot → World → Prop}
structure FBox (W : World) (B : Nat) (f : FT) (ao : Option Addr) (ca : Nat) : Prop where
 k : W.cell? ⟨B, 2, none⟩ = some (.int .i64 f.kind)
 l : W.cell? ⟨B, 6, none⟩ = some (.slice ao f.kids.length ca)
structure Mid (l bw by_ bd : Nat) (S : Nat → Prop) (J : (Nat → Prop) → List Spot → World → Prop) (W : World) (O O2 : Nat → Prop) (ys : List Spot) (path : List Nat) (W3 : World) : Prop where
 dn : Dn l bw by_ bd O2 path W3
 j : J O2 ys W3
 oo : ∀ b, O b → O2 b
 lt : ∀ b, O2 b → b < W3.heap.size
 s : ∀ b, S b → b < W3.heap.size ∧ ¬ O2 b
 k : KpOf S W W3
theorem ready (hJ : JAbides J)
  (hY : ∀ m O pre x W1, J O pre W1 → AtS S O x W1 → YieldAt Fence.wide m Tryz.prog l (encS x) W1 fun e W' =>
   (e = .returned (.bool true) ∧ J O (pre ++ [x]) W' ∧ KpOf (fun b => S b ∨ O b) W1 W') ∨ (e = .returned (.bool false) ∧ Jx (pre ++ [x]) W'))
  (m : Nat) {O O' : Nat → Prop} {pre xs : List Spot} {W wr W2 : World} {b o ca L d k g cap : Nat} {list : List FT} {path : List Nat} {inD : Bool} {f : FT} {ao' : Option Addr} {ca' : Nat}
  (hr : RowAt S W (d + 1) (some ⟨b, o, none⟩) list) (hL : L = list.length) (hca : L ≤ ca) (hk : k < L) (hbig : path.length + (d + 1) ≤ big)
  (hX : xs.map Spot.ls = upto d list path inD k ∧ Dn l bw by_ bd O' path wr ∧ J O' (pre ++ xs) wr ∧ (∀ b, O b → O' b) ∧ (∀ b, O' b → b < wr.heap.size) ∧ (∀ b, S b → b < wr.heap.size ∧ ¬ O' b) ∧ KpOf S W wr)
  (s2 : W2.heap[wr.heap.size]? = some (.cells #[.string f.name, .bool f.nul, .int .i64 f.kind, .int .i64 f.width, .int .i64 f.id, .int .i64 f.index, .slice ao' f.kids.length ca'] 58))
  (s3 : Dn l bw by_ bd (fun b => O' b ∨ b = wr.heap.size ∨ b = g) (path ++ [k]) W2) (s4 : Keeps wr W2 O')
  (s5 : ∀ b, (O' b ∨ b = wr.heap.size ∨ b = g) → b < W2.heap.size ∧ (O' b ∨ wr.heap.size ≤ b))
  (s6 : W2.ownsRow 0 3 1 (.slice (some ⟨g, 0, none⟩) (path.length + 1) cap) (path ++ [k]).length (ints (path ++ [k]))) :
  YieldAt Fence.wide m Tryz.prog l #[.agg #[.slice (some ⟨b, o, none⟩) L ca, .slice (some ⟨g, 0, none⟩) (path.length + 1) cap, .bool inD]] W2 fun e W3 =>
   (e = .returned (.bool true) ∧ FBox W3 wr.heap.size f ao' ca' ∧ Hid (Mid l bw by_ bd S J W O (fun b => O' b ∨ b = wr.heap.size ∨ b = g) (pre ++ (xs ++ [⟨some ⟨b, o, none⟩, ca, list, path ++ [k], g, cap, inD, d⟩])) (path ++ [k]) W3)) ∨
   (e = .returned (.bool false) ∧ Hid (∃ ys, ys.map Spot.ls <+: nodes (d + 1) list path inD ∧ ys ≠ [] ∧ Jx (pre ++ ys) W3)) := by
 obtain ⟨hxs, hD, hj, hOO, hOs, hSs, hK⟩ := hX
 have hKS : KpOf S wr W2 := fun c hc => s4.block c (hSs c hc).1 (hSs c hc).2
 have hgs : ∀ c, S c → ¬ (O' c ∨ c = wr.heap.size ∨ c = g) := fun c hc h => by
  have h1 := hSs c hc
  rcases (s5 c h).2 with h2 | h2
  ·exact h1.2 h2
  omega
 have hat : AtS S (fun b => O' b ∨ b = wr.heap.size ∨ b = g) ⟨some ⟨b, o, none⟩, ca, list, path ++ [k], g, cap, inD, d⟩ W2 := by
  refine ⟨(hr.kept hK).kept hKS, by show list.length ≤ ca; omega, ⟨path, k, rfl, by show k < list.length; omega⟩, ?_, .inr (.inr rfl), by simp; omega⟩
  have e : (path ++ [k]).length = path.length + 1 := by simp
  rw [← e] at s6
  exact s6
 have h := hY m _ _ _ W2 (hJ _ _ _ _ _ hj s4 s5) hat
 have hE : encS ⟨some ⟨b, o, none⟩, ca, list, path ++ [k], g, cap, inD, d⟩ = #[.agg #[.slice (some ⟨b, o, none⟩) L ca, .slice (some ⟨g, 0, none⟩) (path.length + 1) cap, .bool inD]] := by
  simp [encS, hL]
 rw [hE] at h
 refine YieldAt.mono h ?_
 rintro e W3 (⟨rfl, hj3, hk3⟩ | ⟨rfl, hx3⟩)
 ·refine .inl ⟨rfl, ?_, ?_⟩
  ·have hB : W3.heap[wr.heap.size]? = _ := (hk3 _ (.inr (.inr (.inl rfl)))).trans s2
   exact ⟨by simp [World.cell?, hB], by simp [World.cell?, hB]⟩
  have hlt : ∀ c, c < W2.heap.size → (S c ∨ O' c ∨ c = wr.heap.size ∨ c = g) → c < W3.heap.size := fun c hc h => by
   have e := hk3 c h
   rw [Array.getElem?_eq_getElem hc] at e
   exact (Array.getElem?_eq_some_iff.1 e).1
  exact ⟨s3.kept fun c hc => hk3 c (.inr hc), by rw [← List.append_assoc]; exact hj3, fun c hc => .inl (hOO c hc), fun c hc => hlt c (s5 c hc).1 (.inr hc),
   fun c hc => ⟨hlt c (by have := (hSs c hc).1; have := s4.size; omega) (.inl hc), hgs c hc⟩, fun c hc => (hk3 c (.inl hc)).trans ((hKS c hc).trans (hK c hc))⟩
 refine .inr ⟨rfl, xs ++ [⟨some ⟨b, o, none⟩, ca, list, path ++ [k], g, cap, inD, d⟩], ?_, by simp, by rw [← List.append_assoc]; exact hx3⟩
 rw [List.map_append, hxs, nodes_succ]
 refine List.IsPrefix.trans ?_ (upto_prefix d list path inD (show k + 1 ≤ list.length by omega))
 rw [upto_succ]
 exact ⟨nodes d (list[k]!).kids (path ++ [k]) (inD || decide ((list[k]!).kind = 19)), by simp [Spot.ls]⟩
theorem own_less {W : World} {g cap n t : Nat} {xs : List Value} {u : Value} (h : W.ownsRow 0 t 1 (.slice (some ⟨g, 0, none⟩) (n + 1) cap) (n + 1) (xs ++ [u])) : W.ownsRow 0 t 1 (.slice (some ⟨g, 0, none⟩) n cap) n xs := by
 have hl : xs.length = n := by have := h.1; simp at this; omega
 rcases h.2 with ⟨e, _⟩ | ⟨g', cap', cur, e, h0, hg, h1, h2, h3, h4⟩
 ·cases e
 cases e
 refine ⟨by simp [hl], .inr ⟨g, cap, cur, rfl, h0, hg, by omega, h2, h3, ?_⟩⟩
 have h5 := congrArg (List.take n) h4
 rw [List.take_take] at h5
 simp only [Nat.mul_one] at h5 ⊢
 rw [show min n (n + 1) = n by omega] at h5
 rw [h5, ← hl, List.take_left]
theorem back (hJ : JAbides J) {m : Nat} {O O' O2 : Nat → Prop} {pre xs : List Spot} {W wr W3 : World} {ao ao' : Option Addr} {ca ca' L d k g cap : Nat} {list : List FT} {path : List Nat} {inD : Bool} {f : FT}
  (ih : ∀ (n : Nat) (O : Nat → Prop) (pre : List Spot) (W : World) (ao : Option Addr) (ca : Nat) (list : List FT) (path : List Nat) (inD : Bool),
   RowAt S W d ao list → list.length ≤ ca → path.length + d ≤ big → Dn l bw by_ bd O path W → J O pre W → (∀ b, O b → b < W.heap.size) → (∀ b, S b → b < W.heap.size ∧ ¬ O b) →
   CallsIn Fence.wide n Tryz.prog 75 #[.slice ao list.length ca, .bool inD, .pointer (some ⟨bw, 0, none⟩), .pointer (some ⟨by_, 0, none⟩), .pointer (some ⟨bd, 0, none⟩)] W fun e W' =>
    (e = .returned (.bool true) ∧ ∃ O' xs, xs.map Spot.ls = nodes d list path inD ∧ J O' (pre ++ xs) W' ∧ Dn l bw by_ bd O' path W' ∧ (∀ b, O b → O' b) ∧ (∀ b, O' b → b < W'.heap.size) ∧ (∀ b, S b → ¬ O' b) ∧ KpOf S W W') ∨
    (e = .returned (.bool false) ∧ ∃ xs, xs.map Spot.ls <+: nodes d list path inD ∧ xs ≠ [] ∧ Jx (pre ++ xs) W'))
  (hr' : RowAt S wr d ao' f.kids) (hle' : f.kids.length ≤ ca') (hL : L = list.length) (hk : k < L) (hf : f = list[k]'(by omega)) (hbig : path.length + (d + 1) ≤ big)
  (hX : xs.map Spot.ls = upto d list path inD k ∧ Dn l bw by_ bd O' path wr ∧ J O' (pre ++ xs) wr ∧ (∀ b, O b → O' b) ∧ (∀ b, O' b → b < wr.heap.size) ∧ (∀ b, S b → b < wr.heap.size ∧ ¬ O' b) ∧ KpOf S W wr)
  (M : Mid l bw by_ bd S J W O O2 (pre ++ (xs ++ [⟨ao, ca, list, path ++ [k], g, cap, inD, d⟩])) (path ++ [k]) W3) (X : Bool) (hXe : X = (inD || decide (f.kind = 19))) :
  CallsIn Fence.wide m Tryz.prog 75 #[.slice ao' f.kids.length ca', .bool X, .pointer (some ⟨bw, 0, none⟩), .pointer (some ⟨by_, 0, none⟩), .pointer (some ⟨bd, 0, none⟩)] W3 fun e W4 =>
   (e = .returned (.bool true) ∧ ∃ g4 cap4, W4.cell? ⟨bw, 0, none⟩ = some (.slice (some ⟨g4, 0, none⟩) (path.length + 1) cap4) ∧ W4.frozen? ⟨bw, 0, none⟩ = false ∧ path.length + 1 ≤ cap4 ∧
    ∃ O4 ys, Hid (ys.map Spot.ls = upto d list path inD (k + 1) ∧ Dn l bw by_ bd O4 path (W4.setCell ⟨bw, 0, none⟩ (.slice (some ⟨g4, 0, none⟩) path.length cap4)) ∧ J O4 (pre ++ ys) (W4.setCell ⟨bw, 0, none⟩ (.slice (some ⟨g4, 0, none⟩) path.length cap4)) ∧ (∀ b, O b → O4 b) ∧
     (∀ b, O4 b → b < (W4.setCell ⟨bw, 0, none⟩ (.slice (some ⟨g4, 0, none⟩) path.length cap4)).heap.size) ∧ (∀ b, S b → b < (W4.setCell ⟨bw, 0, none⟩ (.slice (some ⟨g4, 0, none⟩) path.length cap4)).heap.size ∧ ¬ O4 b) ∧ KpOf S W (W4.setCell ⟨bw, 0, none⟩ (.slice (some ⟨g4, 0, none⟩) path.length cap4)))) ∨
   (e = .returned (.bool false) ∧ Hid (∃ ys, ys.map Spot.ls <+: nodes (d + 1) list path inD ∧ ys ≠ [] ∧ Jx (pre ++ ys) W4)) := by
 obtain ⟨hxs, -, -, -, -, hSs, hK⟩ := hX
 have hkS : KpOf S wr W3 := fun b hb => (M.k b hb).trans (hK b hb).symm
 have hf' : list[k]! = f := by rw [hf]; exact getElem!_pos list k (by omega)
 have hup : upto d list path inD (k + 1) = (xs ++ [(⟨ao, ca, list, path ++ [k], g, cap, inD, d⟩ : Spot)]).map Spot.ls ++ nodes d f.kids (path ++ [k]) X := by
  rw [upto_succ, hf', List.map_append, hxs, hXe]; simp [Spot.ls]
 refine (ih m O2 _ W3 ao' ca' f.kids (path ++ [k]) X (hr'.kept hkS) hle' (by simp; omega) M.dn M.j M.lt M.s).mono ?_
 rintro e W4 (⟨rfl, O4, ys, hys, hj, hD, hOO, hOs, hSn, hk4⟩ | ⟨rfl, ys, hp, hne, hx⟩)
 ·refine .inl ⟨rfl, ?_⟩
  obtain ⟨vo, vc, hv, hown, hvO⟩ := hD.wy
  have hlen : (path ++ [k]).length = path.length + 1 := by simp
  rw [hlen] at hv hown hvO
  rw [ints_snoc] at hown
  obtain ⟨g4, cap4, e⟩ := ownsRow_succ hown
  cases e
  have hcap : path.length + 1 ≤ vc := by
   rcases hown.2 with ⟨e, _⟩ | ⟨g', cap', cur, e, _, _, h, _⟩
   ·cases e
   cases e; exact h
  have hbl : bw < W4.heap.size := hOs _ hD.ow
  have hoth : ∀ b, b ≠ bw → (W4.setCell ⟨bw, 0, none⟩ (.slice (some ⟨g4, 0, none⟩) path.length vc)).heap[b]? = W4.heap[b]? := fun b h => heap_setCell_other W4 ⟨bw, 0, none⟩ b _ h
  have hsz : (W4.setCell ⟨bw, 0, none⟩ (.slice (some ⟨g4, 0, none⟩) path.length vc)).heap.size = W4.heap.size := by simp [World.setCell]
  have hgne : g4 ≠ bw := fun e => box_ne_row hv hown (by decide) (by rw [e]; rfl)
  have hby : by_ ≠ bw := fun e => by have h1 : W4.heap[by_]? = _ := hD.yb; rw [e, show W4.heap[bw]? = _ from hv] at h1; simp at h1
  have hbd : bd ≠ bw := fun e => by have h1 : W4.heap[bd]? = _ := hD.db; rw [e, show W4.heap[bw]? = _ from hv] at h1; simp at h1
  have hSl : ∀ b, S b → b < W4.heap.size := fun b hb => by
   have h1 := M.s b hb
   have h2 := hk4 b hb
   rw [Array.getElem?_eq_getElem h1.1] at h2
   exact (Array.getElem?_eq_some_iff.1 h2).1
  refine ⟨g4, vc, hv.cell, hv.frozen, hcap, O4, xs ++ [⟨ao, ca, list, path ++ [k], g, cap, inD, d⟩] ++ ys, ?_, ?_, ?_, fun b h => hOO b (M.oo b h), fun b h => by rw [hsz]; exact hOs b h, fun b h => ⟨by rw [hsz]; exact hSl b h, hSn b h⟩, ?_⟩
  ·rw [List.map_append, hys, hup]
  ·exact ⟨Boxed.kp hD.yb (hoth _ hby), Boxed.kp hD.db (hoth _ hbd), ⟨some ⟨g4, 0, none⟩, vc, Boxed.set _ hv, own_less (own_kp hown fun g' e => by cases e; exact hoth _ hgne), fun g' e => hvO g' e⟩, hD.ow, hD.oy, hD.od⟩
  ·rw [← List.append_assoc]
   exact hJ O4 O4 _ _ _ hj ((Keeps.refl W4 O4).setCell (fun _ => hD.ow) _) fun b h => ⟨by rw [hsz]; exact hOs b h, .inl h⟩
  intro b hb
  rw [hoth b fun e => hSn b hb (e ▸ hD.ow)]
  exact (hk4 b hb).trans (M.k b hb)
 refine .inr ⟨rfl, xs ++ [⟨ao, ca, list, path ++ [k], g, cap, inD, d⟩] ++ ys, ?_, by simp, by rw [← List.append_assoc]; exact hx⟩
 rw [nodes_succ]
 refine List.IsPrefix.trans ?_ (upto_prefix d list path inD (show k + 1 ≤ list.length by omega))
 rw [hup, List.map_append]
 exact (List.prefix_append_right_inj _).2 hp
theorem down_in (hJ : JAbides J) (hJx : XAbides Jx)
  (hY : ∀ m O pre x W1, J O pre W1 → AtS S O x W1 → YieldAt Fence.wide m Tryz.prog l (encS x) W1 fun e W' =>
   (e = .returned (.bool true) ∧ J O (pre ++ [x]) W' ∧ KpOf (fun b => S b ∨ O b) W1 W') ∨ (e = .returned (.bool false) ∧ Jx (pre ++ [x]) W')) (d : Nat) :
  ∀ (n : Nat) (O : Nat → Prop) (pre : List Spot) (W : World) (ao : Option Addr) (ca : Nat) (list : List FT) (path : List Nat) (inD : Bool),
   RowAt S W d ao list → list.length ≤ ca → path.length + d ≤ big → Dn l bw by_ bd O path W → J O pre W → (∀ b, O b → b < W.heap.size) → (∀ b, S b → b < W.heap.size ∧ ¬ O b) →
   CallsIn Fence.wide n Tryz.prog 75 #[.slice ao list.length ca, .bool inD, .pointer (some ⟨bw, 0, none⟩), .pointer (some ⟨by_, 0, none⟩), .pointer (some ⟨bd, 0, none⟩)] W fun e W' =>
    (e = .returned (.bool true) ∧ ∃ O' xs, xs.map Spot.ls = nodes d list path inD ∧ J O' (pre ++ xs) W' ∧ Dn l bw by_ bd O' path W' ∧ (∀ b, O b → O' b) ∧ (∀ b, O' b → b < W'.heap.size) ∧ (∀ b, S b → ¬ O' b) ∧ KpOf S W W') ∨
    (e = .returned (.bool false) ∧ ∃ xs, xs.map Spot.ls <+: nodes d list path inD ∧ xs ≠ [] ∧ Jx (pre ++ xs) W') := by
 induction d with
 | zero =>
  intro n O pre W ao ca list path inD hr hca hbig hD hj hO hS
  obtain rfl : list = [] := hr
  refine callsIn_of_wp Tryz.func75 rfl trivial ?_ rfl
  simp only [Tryz.ntmps75, List.size_toArray, List.length_cons, List.length_nil, Nat.reduceAdd, Nat.reduceSub, Array.replicate_succ, Array.replicate_zero, List.push_toArray, List.append_toArray, List.nil_append, List.cons_append]
  gi_wp2
  gi_loopw [12] (fun p wr => p = .int .i64 0 ∧ wr = W) (fun p _ => 0)
  case atStart => exact ⟨rfl, rfl⟩
  case round =>
   obtain ⟨rfl, rfl⟩ := hrel
   gi_wp2
   go_ret
   exact .inl ⟨rfl, O, [], rfl, by simpa using hj, hD, fun _ h => h, hO, fun b h => (hS b h).2, fun _ _ => rfl⟩
 | succ d ih =>
  intro n O pre W ao ca list path inD hr hca hbig hD hj hO hS
  have hlen : list.length ≤ 1000000000000 := hr.1
  refine callsIn_of_wp Tryz.func75 rfl trivial ?_ rfl
  simp only [Tryz.ntmps75, List.size_toArray, List.length_cons, List.length_nil, Nat.reduceAdd, Nat.reduceSub, Array.replicate_succ, Array.replicate_zero, List.push_toArray, List.append_toArray, List.nil_append, List.cons_append]
  have HR : Hid (RowAt S W (d + 1) ao list) := hr
  have HI : Hid (Dn l bw by_ bd O path W ∧ J O pre W ∧ (∀ b, O b → b < W.heap.size) ∧ ∀ b, S b → b < W.heap.size ∧ ¬ O b) := ⟨hD, hj, hO, hS⟩
  have HB : Hid (path.length + (d + 1) ≤ big) := hbig
  have HY : Hid _ := hY
  have HJ : Hid _ := And.intro hJ hJx
  have IH : Hid _ := ih
  obtain ⟨L, hL⟩ : ∃ L, L = list.length := ⟨_, rfl⟩
  rw [← hL] at hlen hca ⊢
  have HL : Hid (L = list.length) := hL
  clear hr hD hj hO hS hbig hY hJ hJx ih hL
  gi_wp2
  gi_loopw [12] (fun p wr => ∃ k : Nat, k ≤ L ∧ p = .int .i64 (k : Int) ∧ ∃ O' xs, Hid (xs.map Spot.ls = upto d list path inD k ∧ Dn l bw by_ bd O' path wr ∧ J O' (pre ++ xs) wr ∧ (∀ b, O b → O' b) ∧ (∀ b, O' b → b < wr.heap.size) ∧ (∀ b, S b → b < wr.heap.size ∧ ¬ O' b) ∧ KpOf S W wr)) (fun p _ => L - (intOf p).toNat)
  case atStart =>
   obtain ⟨hD, hj, hO, hS⟩ := HI.out
   exact ⟨0, Nat.zero_le _, rfl, O, [], rfl, hD, by simpa using hj, fun _ h => h, hO, hS, fun _ _ => rfl⟩
  case round =>
   clear HI
   obtain ⟨k, hk, rfl, O', xs, HX⟩ := hrel
   by_cases hlt : k < L
   ·obtain ⟨_, hrow⟩ := HR.out
    have hl := HL.out
    obtain ⟨b, o, rfl, hSb, hcs⟩ := hrow (by intro e; rw [e] at hl; simp at hl; omega)
    have hkl : k < list.length := by omega
    obtain ⟨ao', ca', hc, hle', hr'⟩ := hcs k hkl
    obtain ⟨hxs, hD, hj, hOO, hOs, hSs, hK⟩ := HX.out
    have hc2 := hc.kept (hK b hSb)
    obtain ⟨f, hf⟩ : ∃ f, f = list[k]'hkl := ⟨_, rfl⟩
    rw [← hf] at hc hc2 hle' hr'
    have HR' : Hid (RowAt S wr d ao' f.kids) := hr'.kept hK
    have HF : Hid (f = list[k]'hkl) := hf
    obtain ⟨g0, g1, g2, g3, g4, g5, g6⟩ := hc2
    obtain ⟨vo, vc, hv, hown, hvO⟩ := hD.wy
    have HO : Hid (wr.ownsRow 0 3 1 (.slice vo path.length vc) path.length (ints path)) := hown
    have h1 : ∀ x, (wr.alloc x).cell? ⟨bw, 0, none⟩ = some (.slice vo path.length vc) := fun x => (hv.alloc x).cell
    have h1f : ∀ x, (wr.alloc x).frozen? ⟨bw, 0, none⟩ = false := fun x => (hv.alloc x).frozen
    have hpl := HB.out
    unfold big at hpl
    have HS : Hid (∃ j, j = k ∧ Dn l bw by_ bd O' path wr ∧ Boxed wr bw 29 (.slice vo path.length vc) ∧ ∀ g, (Value.slice vo path.length vc).ownBlock = some g → O' g) := ⟨k, rfl, hD, hv, hvO⟩
    clear hrow hcs hc hr' hxs hj hOO hOs hSs hK hf hD hv hown hvO hl
    gi_wp2_with (gi_at_builtin; refine Hid.out ?_)
    unfold Hid
    refine wpListIn_append_any _ rfl (.tmp 17) (.tmp 19) 29 29 rfl 3 (.int .i64 0) 8 Tryz.underlying29 info3 rfl _ path.length (ints path) rfl (own_kp HO.out fun g e => ((Keeps.refl wr (fun _ => False)).alloc _ |>.alloc _).block g (own_lt HO.out g e) id) _ 1 [.int .i64 (k : Int)] rfl (src_int_at _ _ (by simp) _ rfl) (by omega) (by omega) ?_
    intro v' w1 hown1 hgrow1 hor1
    obtain ⟨g', cap', rfl⟩ := ownsRow_succ hown1
    obtain ⟨W2, hW2⟩ := ex (w1.setCell ⟨bw, 0, none⟩ (.slice (some ⟨g', 0, none⟩) (path.length + 1) cap'))
    obtain ⟨s1, s2, s3, s4, s5, s6⟩ := dn_step (k := k) HS.out.choose_spec.2.1 HX.out.2.2.2.2.1 HS.out.choose_spec.2.2.1 HO.out HS.out.choose_spec.2.2.2 hown1 hgrow1 hor1
    rw [hW2] at s2 s3 s4 s5 s6
    have q1 := s1.cell
    have q2 := s1.frozen
    have q3 := s3.yb.cell
    obtain ⟨wo, wc, q4, _, _⟩ := s3.wy
    have q5 : W2.cell? ⟨bw, 0, none⟩ = some (.slice (some ⟨g', 0, none⟩) (path.length + 1) cap') := by rw [← hW2]; exact (Boxed.set _ s1).cell
    obtain ⟨fn, tmps, assign, body, hy, hR⟩ := ready HJ.out.1 HY.out (n - 1) HR.out HL.out hca hlt HB.out HX.out s2 s3 s4 s5 s6
    clear s1 s2 s3 s4 s5 s6 q4 hown1 hgrow1 hor1
    gi_wp2_with fail
    refine ⟨fun h => (by cases h), hR.mono ?_⟩
    rintro e W3 (⟨rfl, hfb, HM⟩ | ⟨rfl, HN⟩)
    ·have p1 := hfb.k
     have p2 := hfb.l
     have p3 := HM.out.dn.db.cell
     clear hR hy q1 q2 q3 q5 hW2
     have hIH := fun X hX => back (m := n - 1) HJ.out.1 IH.out HR'.out hle' HL.out hlt HF.out HB.out HX.out HM.out X hX
     have HI2 : Hid _ := hIH
     clear hIH
     gi_wp2_with fail
     all_goals
      first
       | (have hi := ‹inD = true›; subst hi)
       | (have hi : inD = false := (by simpa using ‹¬ inD = true›); subst hi)
      refine ⟨trivial, fun h => (by cases h), (HI2.out _ (by first | (simp; done) | (simp; rfl))).mono ?_⟩
      rintro e W4 (⟨rfl, g4, cap4, r1, r2, r3, O4, ys, H4⟩ | ⟨rfl, HN⟩)
      ·clear p1 p2 p3 hfb HM HI2
       gi_wp2
       go_roundw
       case rel => exact ⟨k + 1, by omega, by simp, O4, ys, H4⟩
       case measure => simp [intOf]; omega
      gi_wp2
      go_ret
      exact .inr ⟨rfl, HN.out⟩
    clear hR hy q1 q2 q3 q5 hW2
    gi_wp2
    go_ret
    exact .inr ⟨rfl, HN.out⟩
   obtain ⟨hxs, hD, hj, hOO, hOs, hSs, hK⟩ := HX.out
   have hkL : k = L := by omega
   subst hkL
   have hl := HL.out
   have HE : Hid (∃ O' xs, xs.map Spot.ls = nodes (d + 1) list path inD ∧ J O' (pre ++ xs) wr ∧ Dn l bw by_ bd O' path wr ∧ (∀ b, O b → O' b) ∧ (∀ b, O' b → b < wr.heap.size) ∧ (∀ b, S b → ¬ O' b) ∧ KpOf S W wr) :=
    ⟨O', xs, by rw [nodes_succ, hxs, hl], hj, hD, hOO, hOs, fun b h => (hSs b h).2, hK⟩
   clear hxs hD hj hOO hOs hSs hK hl
   gi_wp2
   go_ret
   exact .inl ⟨rfl, HE.out⟩
end down
end Go.Proofs.YthhpamhfnpacpaaGreatDoor.Kit
namespace Go.Proofs.YthhpamhfnpacpaaGreatDoor.Kit
open Go.RowKit Go.Shelf Go.Deep
attribute [local go_sem] Oper.semAt_some run_store_func
theorem yieldAny {m m' : Nat} {P : Program} {l : Nat} {args : Array Value} {W : World} {R : Ending → World → Prop} (h : YieldAt Fence.wide m P l args W R) : YieldAt Fence.wide m' P l args W R := by
 obtain ⟨fn, tmps, assign, body, hy, hR⟩ := h
 exact ⟨fn, tmps, assign, body, hy, hR.1, fun c cs _ => hR.2 c cs fun d hd => by cases hd⟩
theorem each1_seq (n B : Nat) (S : Nat → Prop) (D : Nat) (ao : Option Addr) (ca : Nat) (list : List FT) (w : World) (hB : w.cell? ⟨B, 0, none⟩ = some (.slice ao list.length ca)) (hr : RowAt S w D ao list) (hca : list.length ≤ ca) (hD : D ≤ big) (hS : ∀ b, S b → b < w.heap.size) :
  SeqOwn n Tryz.prog 74 #[.pointer (some ⟨B, 0, none⟩)] encS (fun O _ x W => AtS S O x W) S (fun xs => xs.map Spot.ls = nodes D list [] false) (fun pre => pre ≠ [] ∧ pre.map Spot.ls <+: nodes D list [] false) w := by
 intro l J Jx W hW hJ hJx hY h0
 have hlB : W.cell? ⟨B, 0, none⟩ = some (.slice ao list.length ca) := hW.cell' hB id
 have hBl : B < W.heap.size := block_lt_of_cell hlB
 have hSl : ∀ b, S b → b < W.heap.size := fun b h => Nat.lt_of_lt_of_le (hS b h) hW.size
 have hrW : RowAt S W D ao list := hr.kept fun b h => hW.block b (hS b h) id
 have hdown := down_in (bw := W.heap.size + 1) (by_ := W.heap.size) (bd := W.heap.size + 2) hJ hJx (fun m O pre x W1 h1 h2 => yieldAny (m' := m) (hY O pre x W1 h1 h2)) D
 obtain ⟨W2, hW2⟩ := ex ((((W.alloc (.cells #[.func (.yield l) #[] #[]] 142)).alloc (.cells #[.slice none 0 0] 29)).alloc (.cells #[.nilFunc] 143)).setCell ⟨W.heap.size + 2, 0, none⟩ (.func (.func 75) #[] #[.pointer (some ⟨W.heap.size + 1, 0, none⟩), .pointer (some ⟨W.heap.size, 0, none⟩), .pointer (some ⟨W.heap.size + 2, 0, none⟩)]))
 have b1 : Boxed (((W.alloc (.cells #[.func (.yield l) #[] #[]] 142)).alloc (.cells #[.slice none 0 0] 29)).alloc (.cells #[.nilFunc] 143)) (W.heap.size + 2) 143 .nilFunc := by
  have := Boxed.new ((W.alloc (.cells #[.func (.yield l) #[] #[]] 142)).alloc (.cells #[.slice none 0 0] 29)) 143 .nilFunc
  simpa using this
 have b2 : Boxed W2 W.heap.size 142 (.func (.yield l) #[] #[]) := by
  rw [← hW2]; exact Boxed.other (((Boxed.new W 142 _).alloc _).alloc _) (by omega) _
 have b3 : Boxed W2 (W.heap.size + 1) 29 (.slice none 0 0) := by
  rw [← hW2]
  refine Boxed.other (Boxed.alloc ?_ _) (by omega) _
  have := Boxed.new (W.alloc (.cells #[.func (.yield l) #[] #[]] 142)) 29 (.slice none 0 0)
  simpa using this
 have b4 : Boxed W2 (W.heap.size + 2) 143 (.func (.func 75) #[] #[.pointer (some ⟨W.heap.size + 1, 0, none⟩), .pointer (some ⟨W.heap.size, 0, none⟩), .pointer (some ⟨W.heap.size + 2, 0, none⟩)]) := by
  rw [← hW2]; exact Boxed.set _ b1
 have hk2 : Keeps W W2 (fun _ => False) := by
  rw [← hW2]; exact ((((Keeps.refl W _).alloc _).alloc _).alloc _).setCell (fun h => by simp at h; omega) _
 have hsz : W2.heap.size = W.heap.size + 3 := by rw [← hW2]; simp [World.setCell]
 have hc := hdown (n - 1) (fun b => b = W.heap.size + 1 ∨ b = W.heap.size ∨ b = W.heap.size + 2) [] W2 ao ca list [] false (hrW.kept fun b h => hk2.block b (hSl b h) id) hca (by simpa using hD)
  ⟨b2, b4, ⟨none, 0, b3, World.ownsRow_nil _ _ _ _, fun g e => by simp [Value.ownBlock] at e⟩, .inl rfl, .inr (.inl rfl), .inr (.inr rfl)⟩
  (hJ _ _ _ _ _ h0 hk2 fun b h => ⟨by rw [hsz]; omega, .inr (by omega)⟩) (fun b h => by rw [hsz]; omega) (fun b h => ⟨by rw [hsz]; have := hSl b h; omega, fun e => by have := hSl b h; omega⟩)
 have q1 := b4.cell
 have q2 : W2.cell? ⟨B, 0, none⟩ = some (.slice ao list.length ca) := hk2.cell' hlB id
 have q3 := b1.cell
 have q4 := b1.frozen
 have HC : Hid _ := hc
 clear hW hJ hJx hY h0 hB hr hrW hdown b2 b3 b4 hk2 hsz hc hlB b1
 refine callsIn_of_wp Tryz.func74 rfl trivial ?_ rfl
 simp only [Tryz.ntmps74, List.size_toArray, List.length_cons, List.length_nil, Nat.reduceAdd, Nat.reduceSub, Array.replicate_succ, Array.replicate_zero, List.push_toArray, List.append_toArray, List.nil_append, List.cons_append]
 gi_wp2_with fail
 refine ⟨trivial, fun h => (by cases h), CallsIn.mono HC.out ?_⟩
 rintro e W3 (⟨rfl, O', xs, h1, h2, _⟩ | ⟨rfl, xs, h1, h2, h3⟩)
 ·have HE : Hid (∃ O xs, xs.map Spot.ls = nodes D list [] false ∧ J O xs W3) := ⟨O', xs, h1, by simpa using h2⟩
  clear h1 h2
  gi_wp2
  go_end0
  exact ⟨⟨_, rfl⟩, .inl HE.out⟩
 have HE : Hid (∃ pre, (pre ≠ [] ∧ pre.map Spot.ls <+: nodes D list [] false) ∧ Jx pre W3) := ⟨xs, ⟨h2, h1⟩, by simpa using h3⟩
 clear h1 h2 h3
 gi_wp2
 go_end0
 exact ⟨⟨_, rfl⟩, .inr HE.out⟩
theorem each_any (v : Value) (ao : Option Addr) (n ca : Nat) (hv : v = .slice ao n ca) (w : World) :
  Calls Tryz.prog 51 #[v] w fun e w' => e = .returned (.func (.func 74) #[] #[.pointer (some ⟨w.heap.size, 0, none⟩)]) ∧ w' = w.alloc (.cells #[v] 22) := by
 subst hv
 go_enter Tryz.func51, Tryz.ntmps51
 go_wp2
 go_ret
 exact ⟨rfl, rfl⟩
attribute [local go_sem] run_store_func
abbrev Gr (w w' : World) : Prop := Keeps w w' (fun _ => False)
def digitB (c : Nat) : Bool := decide (48 ≤ c) && decide (c ≤ 57)
def wordB (c : Nat) : Bool := (decide (97 ≤ c) && decide (c ≤ 122)) || (decide (65 ≤ c) && decide (c ≤ 90)) || digitB c || decide (c = 95)
theorem isDigit_any (c : Nat) (w : World) : Calls Tryz.prog 94 #[.int .u8 (c : Int)] w fun e w' => e = .returned (.bool (digitB c)) ∧ w' = w := by
 go_enter Tryz.func94, Tryz.ntmps94
 go_wp2
 all_goals
  go_ret
  refine ⟨congrArg (fun b => Ending.returned (.bool b)) ?_, rfl⟩
  rw [Bool.eq_iff_iff]
  simp [digitB]
  try omega
theorem isWordByte_any (c : Nat) (w : World) : Calls Tryz.prog 95 #[.int .u8 (c : Int)] w fun e w' => e = .returned (.bool (wordB c)) ∧ w' = w := by
 go_enter Tryz.func95, Tryz.ntmps95
 go_wp2_with (go_at_call 94; refine (isDigit_any _ _).mono ?_; rintro e w' ⟨rfl, rfl⟩)
 all_goals
  go_ret
  refine ⟨congrArg (fun b => Ending.returned (.bool b)) ?_, rfl⟩
  rw [Bool.eq_iff_iff]
  simp [wordB, *]
  try omega
theorem all_succ {l : List UInt8} {p : UInt8 → Bool} {k : Nat} {b : UInt8} (h : l[k]? = some b) (hk : (l.take k).all p = true) : (l.take (k + 1)).all p = p b := by
 rw [List.take_add_one, h]
 simp [hk]
def nameB (s : ByteArray) : Bool := decide (0 < s.size) && decide (s.size ≤ 48) && !(digitB (s.data.toList[0]!).toNat) && s.data.toList.all fun b => wordB b.toNat
theorem isName_any (s : ByteArray) (w : World) : Calls Tryz.prog 76 #[.string s] w fun e w' => e = .returned (.bool (nameB s)) ∧ w' = w := by
 go_enter Tryz.func76, Tryz.ntmps76
 by_cases h0 : s.size = 0
 ·go_wp2_with fail
  go_ret
  exact ⟨congrArg (fun b => Ending.returned (.bool b)) (by simp [nameB, h0]), rfl⟩
 by_cases h48 : 48 < s.size
 ·go_wp2_with fail
  go_ret
  exact ⟨congrArg (fun b => Ending.returned (.bool b)) (by simp [nameB]; omega), rfl⟩
 have h0' : 0 < s.size := by omega
 have hb : s.data.toList[0]! = s[0]'h0' := by
  rw [getElem!_pos s.data.toList 0 (by simpa using h0')]
  rfl
 have hb1 := isDigit_any (s[0]'h0').toNat w
 have hi0 : ((s.size : Int) == 0) = false := by
  have : (s.size : Int) ≠ 0 := by omega
  simpa using this
 have hi1 : ¬ ((48 : Int) < (s.size : Int)) := by omega
 have hn : nameB s = ((!(digitB (s[0]'h0').toNat)) && s.data.toList.all fun b => wordB b.toNat) := by
  unfold nameB
  rw [hb]
  simp [h0', show s.size ≤ 48 by omega]
 generalize digitB (s[0]'h0').toNat = dg at hb1 hn
 have HN : Hid _ := hn
 clear hb hn
 cases dg with
 | true =>
  go_wp2_with (go_at_call 94; refine hb1.mono ?_; rintro e w' ⟨rfl, rfl⟩)
  go_ret
  exact ⟨congrArg (fun b => Ending.returned (.bool b)) (by rw [HN.out]; rfl), rfl⟩
 | false =>
  go_wp2_with (go_at_call 94; refine hb1.mono ?_; rintro e w' ⟨rfl, rfl⟩)
  clear hb1
  go_loop [19] (fun i => ∃ k : Nat, k ≤ s.size ∧ i = .int .i64 (k : Int) ∧ Hid ((s.data.toList.take k).all (fun b => wordB b.toNat) = true)) (fun i => s.size - (intOf i).toNat)
  case atStart => exact ⟨0, by omega, rfl, by simp [Hid]⟩
  case round =>
   obtain ⟨k, hk, rfl, HK⟩ := hrel
   by_cases hlt : k < s.size
   ·have hb : s.data.toList[k]? = some (s[k]'hlt) := by
     rw [Array.getElem?_toList]
     exact Array.getElem?_eq_getElem hlt
    have hw := fun w => isWordByte_any (s[k]'hlt).toNat w
    have hA := all_succ (p := fun b => wordB b.toNat) hb HK.out
    have HB : Hid _ := hb
    clear hb
    have HW : Hid ((s.data.toList.all fun b => wordB b.toNat) = true → wordB (s[k]'hlt).toNat = true) := fun h => by
     rw [List.all_eq_true] at h
     exact h _ (List.mem_of_getElem? HB.out)
    generalize wordB (s[k]'hlt).toNat = wb at hw hA HW
    have HA : Hid _ := hA
    clear hA HB
    cases wb with
    | true =>
     go_wp2_with (go_at_call 95; refine (hw _).mono ?_; rintro e w' ⟨rfl, rfl⟩)
     go_round
     case rel => exact ⟨k + 1, by omega, by simp, HA.out⟩
     case measure => simp [intOf]; omega
    | false =>
     go_wp2_with (go_at_call 95; refine (hw _).mono ?_; rintro e w' ⟨rfl, rfl⟩)
     go_ret
     refine ⟨congrArg (fun b => Ending.returned (.bool b)) ?_, rfl⟩
     rw [HN.out]
     cases hx : (s.data.toList.all fun b => wordB b.toNat) with
     | true => exact absurd (HW.out hx) (by decide)
     | false => rfl
   obtain rfl : k = s.size := by omega
   have hall := HK.out
   rw [List.take_of_length_le (by simp)] at hall
   have HM : Hid (nameB s = true) := by show _ = _; rw [HN.out, hall]; rfl
   clear hall
   go_wp2_with fail
   go_ret
   exact ⟨congrArg (fun b => Ending.returned (.bool b)) HM.out.symm, rfl⟩
def typV (f : FT) (ao : Option Addr) (ca : Nat) : Value := .agg #[.int .i64 f.kind, .int .i64 f.width, .int .i64 f.id, .int .i64 f.index, .slice ao f.kids.length ca]
def fldV (f : FT) (ao : Option Addr) (ca : Nat) : Value := .agg #[.string f.name, .bool f.nul, .int .i64 f.kind, .int .i64 f.width, .int .i64 f.id, .int .i64 f.index, .slice ao f.kids.length ca]
def kindB (k : Int) : Bool := decide (0 < k) && decide (k < 21)
def indexB (k : Int) : Bool := decide (3 ≤ k) && decide (k ≤ 10)
def widthB (f : FT) : Bool := if f.kind = 14 then decide (1 ≤ f.width) && decide (f.width ≤ 16) else if f.kind = 16 then decide (1 ≤ f.width) && decide (f.width ≤ 64) else decide (f.width = 0)
def dictB (f : FT) : Bool := if f.kind = 19 then (decide (0 ≤ f.id) && decide (f.id < 32)) && indexB f.index else decide (f.id = 0) && decide (f.index = 0)
theorem isKind_any (k : Int) (w : World) : Calls Tryz.prog 98 #[.int .i64 k] w fun e w' => e = .returned (.bool (kindB k)) ∧ w' = w := by
 go_enter Tryz.func98, Tryz.ntmps98
 go_wp2
 all_goals
  go_ret
  refine ⟨congrArg (fun b => Ending.returned (.bool b)) ?_, rfl⟩
  rw [Bool.eq_iff_iff]
  simp [kindB]
  try omega
theorem isIndex_any (k : Int) (w : World) : Calls Tryz.prog 117 #[.int .i64 k] w fun e w' => e = .returned (.bool (indexB k)) ∧ w' = w := by
 go_enter Tryz.func117, Tryz.ntmps117
 go_wp2
 all_goals
  go_ret
  refine ⟨congrArg (fun b => Ending.returned (.bool b)) ?_, rfl⟩
  rw [Bool.eq_iff_iff]
  simp [indexB]
  try omega
theorem beqF {a b : Int} (h : ¬ a = b) : (a == b) = false := by simpa using h
theorem gr_alloc (w : World) (o : Obj) : Gr w (w.alloc o) := (Keeps.refl w _).alloc o
theorem gr_al {W A : World} {o : Obj} (h : W.alloc o = A) : Gr W A := h ▸ gr_alloc W o
theorem mkf (fn : Fn) (first cap : Array Value) (w : World) : (Instr.makeFunc fn first cap).run Tryz.prog w = .ok (.func fn first cap) w := rfl
theorem fld52 (x : Int) (vo : Option Addr) (vn vc : Nat) (tt : Int) (w : World) : (Instr.field 52 (.agg #[.int .i64 x, .slice vo vn vc, .int .i64 tt]) 0).run Tryz.prog w = .ok (.int .i64 x) w := by kernel_rfl
theorem nw (W : World) (o : Obj) : ∃ A, W.alloc o = A ∧ Gr W A ∧ A.heap[W.heap.size]? = some o := ⟨_, rfl, gr_alloc W o, heap_alloc_new W o⟩
theorem sz_al {W A : World} {o : Obj} (h : W.alloc o = A) : A.heap.size = W.heap.size + 1 := by rw [← h]; simp
theorem fitsWidth_any (f : FT) (ao : Option Addr) (ca : Nat) (w : World) : Calls Tryz.prog 99 #[typV f ao ca] w fun e w' => e = .returned (.bool (widthB f)) ∧ Gr w w' := by
 unfold typV widthB
 go_enter Tryz.func99, Tryz.ntmps99
 by_cases h14 : f.kind = 14
 ·rw [if_pos h14]
  go_wp2
  all_goals
   go_ret
   refine ⟨congrArg (fun b => Ending.returned (.bool b)) ?_, gr_alloc _ _⟩
   rw [Bool.eq_iff_iff]
   simp
   try omega
 have q1 := beqF h14
 rw [if_neg h14]
 by_cases h16 : f.kind = 16
 ·rw [if_pos h16]
  go_wp2
  all_goals
   go_ret
   refine ⟨congrArg (fun b => Ending.returned (.bool b)) ?_, gr_alloc _ _⟩
   rw [Bool.eq_iff_iff]
   simp
   try omega
 have q2 := beqF h16
 rw [if_neg h16]
 go_wp2
 go_ret
 refine ⟨congrArg (fun b => Ending.returned (.bool b)) ?_, gr_alloc _ _⟩
 rw [Bool.eq_iff_iff]
 simp
theorem fitsDict_any (f : FT) (ao : Option Addr) (ca : Nat) (w : World) : Calls Tryz.prog 100 #[typV f ao ca] w fun e w' => e = .returned (.bool (dictB f)) ∧ Gr w w' := by
 unfold typV dictB
 go_enter Tryz.func100, Tryz.ntmps100
 have hi := fun w => isIndex_any f.index w
 by_cases h19 : f.kind = 19
 ·rw [if_pos h19]
  go_wp2_with (go_at_call 117; refine (hi _).mono ?_; rintro e w' ⟨rfl, rfl⟩)
  all_goals
   go_ret
   refine ⟨congrArg (fun b => Ending.returned (.bool b)) ?_, gr_alloc _ _⟩
   rw [Bool.eq_iff_iff]
   simp
   try omega
 have q1 := beqF h19
 rw [if_neg h19]
 go_wp2_with fail
 all_goals
  go_ret
  refine ⟨congrArg (fun b => Ending.returned (.bool b)) ?_, gr_alloc _ _⟩
  rw [Bool.eq_iff_iff]
  simp [*]
  try omega
def wordK : Nat → List UInt8
 | 1 => [110, 117, 108, 108] | 2 => [98, 111, 111, 108] | 3 => [105, 110, 116, 56] | 4 => [105, 110, 116, 49, 54] | 5 => [105, 110, 116, 51, 50] | 6 => [105, 110, 116, 54, 52]
 | 7 => [117, 105, 110, 116, 56] | 8 => [117, 105, 110, 116, 49, 54] | 9 => [117, 105, 110, 116, 51, 50] | 10 => [117, 105, 110, 116, 54, 52] | 11 => [102, 108, 111, 97, 116, 54, 52]
 | 12 => [116, 101, 120, 116] | 13 => [98, 121, 116, 101, 115] | 14 => [102, 105, 120, 101, 100] | 15 => [108, 105, 115, 116] | 16 => [115, 112, 97, 110] | 17 => [115, 116, 114, 117, 99, 116]
 | 18 => [99, 104, 111, 105, 99, 101] | 19 => [100, 105, 99, 116] | 20 => [114, 117, 110, 115] | _ => []
def bytesK : Nat → Int
 | 3 => 1 | 4 => 2 | 5 => 4 | 6 => 8 | 7 => 1 | 8 => 2 | 9 => 4 | 10 => 8 | 11 => 8 | _ => 0
def bufsK : Nat → Int
 | 0 => 0 | 1 => 0 | 12 => 3 | 13 => 3 | 16 => 1 | 17 => 1 | 20 => 0 | _ => 2
def leastK : Nat → Int
 | 15 => 1 | 16 => 1 | 18 => 1 | 19 => 1 | 20 => 1 | _ => 0
def mostK : Nat → Int
 | 15 => 1 | 16 => 1 | 17 => 32 | 18 => 32 | 19 => 1 | 20 => 1 | _ => 0
structure KRow (W : World) (k : Nat) : Prop where
 c0 : W.cell? ⟨0, k * 5, none⟩ = some (.string ⟨(wordK k).toArray⟩)
 c1 : W.cell? ⟨0, k * 5 + 1, none⟩ = some (.int .i64 (bytesK k))
 c2 : W.cell? ⟨0, k * 5 + 2, none⟩ = some (.int .i64 (bufsK k))
 c3 : W.cell? ⟨0, k * 5 + 3, none⟩ = some (.int .i64 (leastK k))
 c4 : W.cell? ⟨0, k * 5 + 4, none⟩ = some (.int .i64 (mostK k))
def Tab (W : World) : Prop := 0 < W.heap.size ∧ ∀ k, k < 21 → KRow W k
theorem Tab.kp {W W' : World} (h : Tab W) (e : W'.heap[0]? = W.heap[0]?) : Tab W' := by
 refine ⟨?_, fun k hk => ?_⟩
 ·rw [Array.getElem?_eq_getElem h.1] at e
  exact (Array.getElem?_eq_some_iff.1 e).1
 have k' : ∀ j, W'.cell? ⟨0, j, none⟩ = W.cell? ⟨0, j, none⟩ := fun j => World.cell?_of_block (w := W) e
 have := h.2 k hk
 exact ⟨(k' _).trans this.c0, (k' _).trans this.c1, (k' _).trans this.c2, (k' _).trans this.c3, (k' _).trans this.c4⟩
theorem Tab.gr {W W' : World} (h : Tab W) (g : Gr W W') : Tab W' := h.kp (g.block 0 h.1 id)
def tableB (f : FT) : Bool := kindB f.kind && (decide (leastK f.kind.toNat ≤ (f.kids.length : Int)) && decide ((f.kids.length : Int) ≤ mostK f.kind.toNat) && widthB f && dictB f)
theorem fitsTable_any (f : FT) (ao : Option Addr) (ca : Nat) (w : World) (hT : Tab w) (hl : f.kids.length ≤ big) : Calls Tryz.prog 79 #[typV f ao ca] w fun e w' => e = .returned (.bool (tableB f)) ∧ Gr w w' := by
 obtain ⟨nm, nu, kd, wd, di, ix, ks⟩ := f
 have hk : ∀ w, Calls Tryz.prog 98 #[.int .i64 kd] w fun e w' => e = .returned (.bool (kindB kd)) ∧ w' = w := fun w => isKind_any kd w
 have hll : ks.length ≤ 1000000000000 := hl
 obtain ⟨wb, hwb⟩ : ∃ wb, wb = widthB ⟨nm, nu, kd, wd, di, ix, ks⟩ := ⟨_, rfl⟩
 obtain ⟨db, hdb⟩ : ∃ db, db = dictB ⟨nm, nu, kd, wd, di, ix, ks⟩ := ⟨_, rfl⟩
 have hw : ∀ w, Calls Tryz.prog 99 #[.agg #[.int .i64 kd, .int .i64 wd, .int .i64 di, .int .i64 ix, .slice ao ks.length ca]] w fun e w' => e = .returned (.bool wb) ∧ Gr w w' := by rw [hwb]; exact fitsWidth_any ⟨nm, nu, kd, wd, di, ix, ks⟩ ao ca
 have hd : ∀ w, Calls Tryz.prog 100 #[.agg #[.int .i64 kd, .int .i64 wd, .int .i64 di, .int .i64 ix, .slice ao ks.length ca]] w fun e w' => e = .returned (.bool db) ∧ Gr w w' := by rw [hdb]; exact fitsDict_any ⟨nm, nu, kd, wd, di, ix, ks⟩ ao ca
 have hB : tableB ⟨nm, nu, kd, wd, di, ix, ks⟩ = (kindB kd && (decide (leastK kd.toNat ≤ (ks.length : Int)) && decide ((ks.length : Int) ≤ mostK kd.toNat) && wb && db)) := by rw [hwb, hdb]; rfl
 show Calls Tryz.prog 79 #[.agg #[.int .i64 kd, .int .i64 wd, .int .i64 di, .int .i64 ix, .slice ao ks.length ca]] w _
 have hK : kindB kd = true → ∃ k : Nat, k < 21 ∧ kd = k := fun h => by
  simp [kindB] at h
  exact ⟨kd.toNat, by omega, by omega⟩
 clear hwb hdb hl
 generalize tableB ⟨nm, nu, kd, wd, di, ix, ks⟩ = tb at hB
 generalize hkb : kindB kd = kb at hk hB hK
 cases kb with
 | false =>
  subst hB
  clear hK hw hd hT hkb
  go_enter Tryz.func79, Tryz.ntmps79
  go_wp2_with (go_at_call 98; refine (hk _).mono ?_; rintro e w' ⟨rfl, rfl⟩)
  go_ret
  exact ⟨rfl, gr_alloc _ _⟩
 | true =>
  obtain ⟨k, hk21, rfl⟩ := hK rfl
  have hr := hT.2 k hk21
  rw [Int.toNat_natCast] at hB
  simp only [Bool.true_and] at hB
  obtain ⟨c0, c1, c2, c3, c4⟩ := hr
  have b0 : ∀ o, (w.alloc o).cell? ⟨0, k * 5, none⟩ = some (.string ⟨(wordK k).toArray⟩) := fun o => (gr_alloc w o).cell' c0 id
  have b0d : ∀ o o', ((w.alloc o).alloc o').cell? ⟨0, k * 5, none⟩ = some (.string ⟨(wordK k).toArray⟩) := fun o o' => ((gr_alloc w o).alloc o').cell' c0 id
  have b1 : ∀ o, (w.alloc o).cell? ⟨0, k * 5 + 1, none⟩ = some (.int .i64 (bytesK k)) := fun o => (gr_alloc w o).cell' c1 id
  have b1d : ∀ o o', ((w.alloc o).alloc o').cell? ⟨0, k * 5 + 1, none⟩ = some (.int .i64 (bytesK k)) := fun o o' => ((gr_alloc w o).alloc o').cell' c1 id
  have b2 : ∀ o, (w.alloc o).cell? ⟨0, k * 5 + 2, none⟩ = some (.int .i64 (bufsK k)) := fun o => (gr_alloc w o).cell' c2 id
  have b2d : ∀ o o', ((w.alloc o).alloc o').cell? ⟨0, k * 5 + 2, none⟩ = some (.int .i64 (bufsK k)) := fun o o' => ((gr_alloc w o).alloc o').cell' c2 id
  have b3 : ∀ o, (w.alloc o).cell? ⟨0, k * 5 + 3, none⟩ = some (.int .i64 (leastK k)) := fun o => (gr_alloc w o).cell' c3 id
  have b3d : ∀ o o', ((w.alloc o).alloc o').cell? ⟨0, k * 5 + 3, none⟩ = some (.int .i64 (leastK k)) := fun o o' => ((gr_alloc w o).alloc o').cell' c3 id
  have b4 : ∀ o, (w.alloc o).cell? ⟨0, k * 5 + 4, none⟩ = some (.int .i64 (mostK k)) := fun o => (gr_alloc w o).cell' c4 id
  have b4d : ∀ o o', ((w.alloc o).alloc o').cell? ⟨0, k * 5 + 4, none⟩ = some (.int .i64 (mostK k)) := fun o o' => ((gr_alloc w o).alloc o').cell' c4 id
  generalize wordK k = e0 at b0 b0d
  generalize bytesK k = e1 at b1 b1d
  generalize bufsK k = e2 at b2 b2d
  generalize leastK k = e3 at b3 b3d hB
  generalize mostK k = e4 at b4 b4d hB
  have HB : Hid _ := hB
  obtain ⟨L, hL⟩ := ex (ks.length)
  rw [hL] at hll hw hd ⊢
  have HB : Hid (tb = (decide (e3 ≤ (L : Int)) && decide ((L : Int) ≤ e4) && wb && db)) := by rw [← hL]; exact hB
  clear hT c0 c1 c2 c3 c4 hB hkb hL
  go_enter Tryz.func79, Tryz.ntmps79
  go_wp2_with (go_at_call 98; refine (hk _).mono ?_; rintro e w' ⟨rfl, rfl⟩)
  go_region
  obtain ⟨W2, hW2⟩ := ex (((w.alloc (.cells #[.int .i64 (k : Int), .int .i64 wd, .int .i64 di, .int .i64 ix, .slice ao L ca] 56)).alloc (.cells #[.string ⟨e0.toArray⟩, .int .i64 e1, .int .i64 e2, .int .i64 e3, .int .i64 e4] 174)).drew)
  have HG : Hid (Gr w W2) := by rw [← hW2]; exact (((Keeps.refl w _).alloc _).alloc _).drew
  have x1 : W2.heap[w.heap.size]? = some (.cells #[.int .i64 (k : Int), .int .i64 wd, .int .i64 di, .int .i64 ix, .slice ao L ca] 56) := by
   rw [← hW2]; exact (Below.heap_alloc _ _ _ (by simp)).trans (World.alloc_heap_new w _)
  have x2 : W2.heap[w.heap.size + 1]? = some (.cells #[.string ⟨e0.toArray⟩, .int .i64 e1, .int .i64 e2, .int .i64 e3, .int .i64 e4] 174) := by
   rw [← hW2]
   have := World.alloc_heap_new (w.alloc (.cells #[.int .i64 (k : Int), .int .i64 wd, .int .i64 di, .int .i64 ix, .slice ao L ca] 56)) (.cells #[.string ⟨e0.toArray⟩, .int .i64 e1, .int .i64 e2, .int .i64 e3, .int .i64 e4] 174)
   rw [World.size_alloc] at this
   exact this
  have y0 : ∀ W3, Gr W2 W3 → W3.heap[w.heap.size]? = some (.cells #[.int .i64 (k : Int), .int .i64 wd, .int .i64 di, .int .i64 ix, .slice ao L ca] 56) := fun W3 g => (g.block _ (Array.getElem?_eq_some_iff.1 x1).1 (fun h => h)).trans x1
  have HY : Hid _ := y0
  have z0 : W2.cell? ⟨w.heap.size, 0, none⟩ = some (.int .i64 (k : Int)) := by simp [World.cell?, x1]
  have z1 : W2.cell? ⟨w.heap.size, 1, none⟩ = some (.int .i64 wd) := by simp [World.cell?, x1]
  have z2 : W2.cell? ⟨w.heap.size, 2, none⟩ = some (.int .i64 di) := by simp [World.cell?, x1]
  have z3 : W2.cell? ⟨w.heap.size, 3, none⟩ = some (.int .i64 ix) := by simp [World.cell?, x1]
  have z4 : W2.cell? ⟨w.heap.size, 4, none⟩ = some (.slice ao L ca) := by simp [World.cell?, x1]
  have z5 : W2.cell? ⟨w.heap.size + 1, 3, none⟩ = some (.int .i64 e3) := by simp [World.cell?, x2]
  have z6 : W2.cell? ⟨w.heap.size + 1, 4, none⟩ = some (.int .i64 e4) := by simp [World.cell?, x2]
  rw [hW2]
  clear hW2 x1 x2 y0 b0 b1 b2 b3 b4 hk
  by_cases g1 : e3 ≤ (L : Int)
  ·by_cases g2 : (L : Int) ≤ e4
   ·cases wb with
    | true =>
     go_wp2_with (first
      | (go_at_call 99; refine (hw _).mono ?_; clear hw; rintro e w2 ⟨rfl, hg2⟩; have y := HY.out w2 hg2; have z0 : w2.cell? ⟨w.heap.size, 0, none⟩ = some (.int .i64 (k : Int)) := (by simp [World.cell?, y]); have z1 : w2.cell? ⟨w.heap.size, 1, none⟩ = some (.int .i64 wd) := (by simp [World.cell?, y]); have z2 : w2.cell? ⟨w.heap.size, 2, none⟩ = some (.int .i64 di) := (by simp [World.cell?, y]); have z3 : w2.cell? ⟨w.heap.size, 3, none⟩ = some (.int .i64 ix) := (by simp [World.cell?, y]); have z4 : w2.cell? ⟨w.heap.size, 4, none⟩ = some (.slice ao L ca) := (by simp [World.cell?, y]); have HG2 : Hid (Gr w w2) := HG.out.tr hg2; clear y hg2)
      | (go_at_call 100; refine (hd _).mono ?_; clear hd; rintro e w3 ⟨rfl, hg3⟩; have HG3 : Hid (Gr w w3) := HG2.out.tr hg3; clear hg3))
     go_ret
     exact ⟨congrArg (fun b => Ending.returned (.bool b)) (by rw [HB.out]; simp [g1, g2]), HG3.out⟩
    | false =>
     go_wp2_with (go_at_call 99; refine (hw _).mono ?_; clear hw; rintro e w2 ⟨rfl, hg2⟩; have HG2 : Hid (Gr w w2) := HG.out.tr hg2; clear hg2)
     go_ret
     exact ⟨congrArg (fun b => Ending.returned (.bool b)) (by rw [HB.out]; simp), HG2.out⟩
   go_wp2_with fail
   go_ret
   exact ⟨congrArg (fun b => Ending.returned (.bool b)) (by rw [HB.out, decide_eq_false (Int.not_le.2 g2)]; simp), HG.out⟩
  go_wp2_with fail
  go_ret
  exact ⟨congrArg (fun b => Ending.returned (.bool b)) (by rw [HB.out, decide_eq_false (Int.not_le.2 g1)]; simp), HG.out⟩
def nullB (f : FT) : Bool := if f.kind = 1 then f.nul else if f.kind = 18 then !f.nul else if f.kind = 20 then f.nul == ((f.kids[0]?.map FT.nul).getD false) else true
theorem fitsNull_any (f : FT) (ao : Option Addr) (ca : Nat) (S : Nat → Prop) (d : Nat) (w : World) (hr : RowAt S w d ao f.kids) (hk : f.kind = 20 → f.kids ≠ []) :
  Calls Tryz.prog 80 #[fldV f ao ca] w fun e w' => e = .returned (.bool (nullB f)) ∧ Gr w w' := by
 obtain ⟨nm, nu, kd, wd, di, ix, ks⟩ := f
 show Calls Tryz.prog 80 #[.agg #[.string nm, .bool nu, .int .i64 kd, .int .i64 wd, .int .i64 di, .int .i64 ix, .slice ao ks.length ca]] w _
 obtain ⟨nb, hnb⟩ := ex (nullB ⟨nm, nu, kd, wd, di, ix, ks⟩)
 rw [hnb]
 simp only [FT.kind, FT.kids] at hr hk
 by_cases h1 : kd = 1
 ·have e : nb = nu := by rw [← hnb]; simp [nullB, FT.kind, FT.nul, h1]
  subst e
  clear hr hk hnb
  go_enter Tryz.func80, Tryz.ntmps80
  go_wp2
  go_ret
  exact ⟨rfl, gr_alloc _ _⟩
 have q1 := beqF h1
 by_cases h2 : kd = 18
 ·have e : nb = !nu := by rw [← hnb]; simp [nullB, FT.kind, FT.nul, h2]
  subst e
  clear hr hk hnb
  go_enter Tryz.func80, Tryz.ntmps80
  go_wp2
  go_ret
  exact ⟨rfl, gr_alloc _ _⟩
 have q2 := beqF h2
 by_cases h3 : kd = 20
 ·have hne := hk h3
  cases d with
  | zero => exact absurd hr hne
  | succ d =>
   obtain ⟨b, o, rfl, hSb, hcs⟩ := hr.2 hne
   have hpos : 0 < ks.length := List.length_pos_iff.2 hne
   obtain ⟨ao', ca', hc, _, _⟩ := hcs 0 hpos
   have hn : ks[0]? = some ks[0] := List.getElem?_eq_getElem hpos
   have e : nb = (nu == (ks[0]).nul) := by rw [← hnb]; simp [nullB, FT.kind, FT.nul, FT.kids, h3, hn]
   have c1 : ∀ o', (w.alloc o').cell? ⟨b, o + 1, none⟩ = some (.bool (ks[0]).nul) := fun o' => (gr_alloc w o').cell' (by have := hc.c1; simpa using this) (fun h => h)
   have hposI : (0 : Int) < (ks.length : Int) := by omega
   generalize (ks[0]).nul = kn at c1 e
   subst e
   clear hr hk hcs hc hn hne hnb
   go_enter Tryz.func80, Tryz.ntmps80
   go_wp2
   go_region
   go_wp2
   go_ret
   exact ⟨rfl, by first | exact (gr_alloc _ _) | exact (gr_alloc _ _).drew⟩
 have q3 := beqF h3
 have e : nb = true := by rw [← hnb]; simp [nullB, FT.kind, h1, h2, h3]
 subst e
 clear hr hk hnb
 go_enter Tryz.func80, Tryz.ntmps80
 go_wp2
 go_ret
 exact ⟨rfl, gr_alloc _ _⟩
theorem number_exact (ao : Option Addr) (L ca wb m wc i : Nat) (inD : Bool) (hb : m ≤ 1000000000000) (w : World) (hc : w.cell? ⟨wb, m, none⟩ = some (.int .i64 (i : Int))) :
  Calls Tryz.prog 78 #[.agg #[.slice ao L ca, .slice (some ⟨wb, 0, none⟩) (m + 1) wc, .bool inD]] w fun e w' => e = .returned (.int .i64 (i : Int)) ∧ w' = w.alloc (.cells #[.slice ao L ca, .slice (some ⟨wb, 0, none⟩) (m + 1) wc, .bool inD] 116) := by
 have hc : ∀ o, (w.alloc o).cell? ⟨wb, m, none⟩ = some (.int .i64 (i : Int)) := fun o => (gr_alloc w o).cell' hc (fun h => h)
 go_enter Tryz.func78, Tryz.ntmps78
 go_wp2
 go_ret
 exact ⟨rfl, rfl⟩
structure SpotF (w : World) (x : Spot) (f : FT) (b o i m : Nat) (ao' : Option Addr) (ca' : Nat) : Prop where
 ao : x.ao = some ⟨b, o, none⟩
 len : x.path.length = m + 1
 lt : i < x.list.length
 bl : x.list.length ≤ 1000000000000
 bm : m ≤ 1000000000000
 wc : w.cell? ⟨x.wb, m, none⟩ = some (.int .i64 (i : Int))
 cs : CellsAt w b (o + i * 7) f ao' ca'
 fe : x.list[i]? = some f
theorem AtS.f {S O : Nat → Prop} {x : Spot} {w : World} (h : AtS S O x w) : ∃ f b o i m ao' ca', SpotF w x f b o i m ao' ca' ∧ f.kids.length ≤ ca' ∧ RowAt S w x.d ao' f.kids ∧ S b ∧ ∃ p, x.path = p ++ [i] := by
 obtain ⟨p, i, hp, hi⟩ := h.ix
 have hne : x.list ≠ [] := fun e => by rw [e] at hi; simp at hi
 obtain ⟨b, o, he, hS, hcs⟩ := h.row.2 hne
 obtain ⟨ao', ca', hc, hle, hr⟩ := hcs i hi
 have hl : x.path.length = p.length + 1 := by rw [hp]; simp
 have hw := h.way
 rw [hl, hp, ints_snoc] at hw
 refine ⟨x.list[i], b, o, i, p.length, ao', ca', ⟨he, hl, hi, h.row.1, by have := h.deep; unfold big at this; omega, ?_, hc, List.getElem?_eq_getElem hi⟩, hle, hr, hS, p, hp⟩
 rw [hw.cellAt p.length (by simp), List.getElem?_append_right (by simp [ints])]
 simp [ints]
theorem SpotF.gr {w w' : World} {x : Spot} {f : FT} {b o i m : Nat} {ao' : Option Addr} {ca' : Nat} (h : SpotF w x f b o i m ao' ca') (g : Gr w w') : SpotF w' x f b o i m ao' ca' :=
 ⟨h.ao, h.len, h.lt, h.bl, h.bm, g.cell' h.wc (fun h => h), h.cs.kept (g.block b (block_lt_of_cell h.cs.c0) (fun h => h)), h.fe⟩
def spotV (x : Spot) : Value := .agg #[.slice x.ao x.list.length x.ca, .slice (some ⟨x.wb, 0, none⟩) x.path.length x.wc, .bool x.inD]
theorem setc {W : World} {B t j : Nat} {c : Array Value} (h : W.heap[B]? = some (.cells c t (0, 0))) (v : Value) : (W.setCell ⟨B, j, none⟩ v).heap[B]? = some (.cells (c.setIfInBounds j v) t (0, 0)) := by
 obtain ⟨hlt, hk⟩ := Array.getElem?_eq_some_iff.1 h
 simp [World.setCell, hlt, Array.getElem_modify_self, hk]
theorem keep1 {W W' : World} {B j : Nat} (h : Keeps W W' (fun b => b = B)) (v : Value) : Keeps W (W'.setCell ⟨B, j, none⟩ v) (fun b => b = B) := h.setCell (p := ⟨B, j, none⟩) (fun _ => rfl) v
theorem set7 {W : World} {B t : Nat} {z0 z1 z2 z3 z4 z5 z6 : Value} (u0 u1 u2 u3 u4 u5 u6 : Value) (h : W.heap[B]? = some (.cells #[z0, z1, z2, z3, z4, z5, z6] t (0, 0))) :
  (((((((W.setCell ⟨B, 0, none⟩ u0).setCell ⟨B, 1, none⟩ u1).setCell ⟨B, 2, none⟩ u2).setCell ⟨B, 3, none⟩ u3).setCell ⟨B, 4, none⟩ u4).setCell ⟨B, 5, none⟩ u5).setCell ⟨B, 6, none⟩ u6).heap[B]? = some (.cells #[u0, u1, u2, u3, u4, u5, u6] t (0, 0)) ∧
  Keeps W (((((((W.setCell ⟨B, 0, none⟩ u0).setCell ⟨B, 1, none⟩ u1).setCell ⟨B, 2, none⟩ u2).setCell ⟨B, 3, none⟩ u3).setCell ⟨B, 4, none⟩ u4).setCell ⟨B, 5, none⟩ u5).setCell ⟨B, 6, none⟩ u6) (fun b => b = B) := by
 refine ⟨?_, keep1 (keep1 (keep1 (keep1 (keep1 (keep1 (keep1 (Keeps.refl W _) _) _) _) _) _) _) _⟩
 have e0 := setc (j := 0) h u0
 have e1 := setc (j := 1) e0 u1
 have e2 := setc (j := 2) e1 u2
 have e3 := setc (j := 3) e2 u3
 have e4 := setc (j := 4) e3 u4
 have e5 := setc (j := 5) e4 u5
 have e6 := setc (j := 6) e5 u6
 rw [e6]
 simp
theorem field_any (x : Spot) (f : FT) (b o i m : Nat) (ao' : Option Addr) (ca' : Nat) (w : World) (h : SpotF w x f b o i m ao' ca') :
  Calls Tryz.prog 54 #[spotV x] w fun e w' => e = .returned (fldV f ao' ca') ∧ Gr w w' := by
 obtain ⟨h1, h2, h3, h4, h5, h6, ⟨g0, g1, g2, g3, g4, g5, g6⟩, -⟩ := h
 unfold spotV fldV
 rw [h1, h2]
 generalize x.list.length = L at *
 generalize x.ca = ca at *
 generalize x.wb = wb at *
 generalize x.wc = wc at *
 generalize x.inD = inD at *
 generalize f.name = f0 at *
 generalize f.nul = f1 at *
 generalize f.kind = f2 at *
 generalize f.width = f3 at *
 generalize f.id = f4 at *
 generalize f.index = f5 at *
 generalize f.kids.length = f6 at *
 clear h1 h2
 have hiI : (i : Int) < (L : Int) := by omega
 obtain ⟨W0, hW⟩ : ∃ W0, W0 = (w.alloc (.cells #[.slice (some ⟨b, o, none⟩) L ca, .slice (some ⟨wb, 0, none⟩) (m + 1) wc, .bool inD] 116)).alloc (.cells #[.string ⟨#[]⟩, .bool false, .int .i64 0, .int .i64 0, .int .i64 0, .int .i64 0, .slice none 0 0] 58) := ⟨_, rfl⟩
 have hgr : Gr w W0 := by rw [hW]; exact ((Keeps.refl w _).alloc _).alloc _
 have k0 := hgr.cell' g0 (fun h => h)
 have k1 := hgr.cell' g1 (fun h => h)
 have k2 := hgr.cell' g2 (fun h => h)
 have k3 := hgr.cell' g3 (fun h => h)
 have k4 := hgr.cell' g4 (fun h => h)
 have k5 := hgr.cell' g5 (fun h => h)
 have k6 := hgr.cell' g6 (fun h => h)
 have kw := hgr.cell' h6 (fun h => h)
 have x1 : W0.heap[w.heap.size]? = some (.cells #[.slice (some ⟨b, o, none⟩) L ca, .slice (some ⟨wb, 0, none⟩) (m + 1) wc, .bool inD] 116) := by
  rw [hW]; exact (Below.heap_alloc _ _ _ (by simp)).trans (World.alloc_heap_new w _)
 have x2 : W0.heap[w.heap.size + 1]? = some (.cells #[.string ⟨#[]⟩, .bool false, .int .i64 0, .int .i64 0, .int .i64 0, .int .i64 0, .slice none 0 0] 58) := by
  rw [hW]
  have := World.alloc_heap_new (w.alloc (.cells #[.slice (some ⟨b, o, none⟩) L ca, .slice (some ⟨wb, 0, none⟩) (m + 1) wc, .bool inD] 116)) (.cells #[.string ⟨#[]⟩, .bool false, .int .i64 0, .int .i64 0, .int .i64 0, .int .i64 0, .slice none 0 0] 58)
  rw [World.size_alloc] at this
  exact this
 clear g0 g1 g2 g3 g4 g5 g6 h6
 go_enter Tryz.func54, Tryz.ntmps54
 go_wp2
 rw [← hW]
 have HG : Hid _ := hgr
 obtain ⟨B, hB⟩ : ∃ B, B = w.heap.size := ⟨_, rfl⟩
 rw [← hB] at x1 x2 ⊢
 have p0 : W0.cell? ⟨B, 0, none⟩ = some (.slice (some ⟨b, o, none⟩) L ca) := by simp [World.cell?, x1]
 have p1 : W0.cell? ⟨B, 1, none⟩ = some (.slice (some ⟨wb, 0, none⟩) (m + 1) wc) := by simp [World.cell?, x1]
 have p2 : W0.cell? ⟨B, 2, none⟩ = some (.bool inD) := by simp [World.cell?, x1]
 have hn := fun W hc => number_exact (some ⟨b, o, none⟩) L ca wb m wc i inD h5 W hc
 have HX : Hid _ := x2
 have HB : Hid _ := hB
 clear hW hgr x1 x2 hB
 have a0 : ∀ x, (W0.alloc x).cell? ⟨B, 0, none⟩ = some (.slice (some ⟨b, o, none⟩) L ca) := fun x => (gr_alloc W0 x).cell' p0 (fun h => h)
 have r0 : ∀ x, (W0.alloc x).cell? ⟨b, o + i * 7, none⟩ = _ := fun x => (gr_alloc W0 x).cell' k0 (fun h => h)
 have r1 : ∀ x, (W0.alloc x).cell? ⟨b, o + i * 7 + 1, none⟩ = _ := fun x => (gr_alloc W0 x).cell' k1 (fun h => h)
 have r2 : ∀ x, (W0.alloc x).cell? ⟨b, o + i * 7 + 2, none⟩ = _ := fun x => (gr_alloc W0 x).cell' k2 (fun h => h)
 have r3 : ∀ x, (W0.alloc x).cell? ⟨b, o + i * 7 + 3, none⟩ = _ := fun x => (gr_alloc W0 x).cell' k3 (fun h => h)
 have r4 : ∀ x, (W0.alloc x).cell? ⟨b, o + i * 7 + 4, none⟩ = _ := fun x => (gr_alloc W0 x).cell' k4 (fun h => h)
 have r5 : ∀ x, (W0.alloc x).cell? ⟨b, o + i * 7 + 5, none⟩ = _ := fun x => (gr_alloc W0 x).cell' k5 (fun h => h)
 have r6 : ∀ x, (W0.alloc x).cell? ⟨b, o + i * 7 + 6, none⟩ = _ := fun x => (gr_alloc W0 x).cell' k6 (fun h => h)
 have yb : ∀ x, (W0.alloc x).heap[B + 1]? = some (.cells #[.string ⟨#[]⟩, .bool false, .int .i64 0, .int .i64 0, .int .i64 0, .int .i64 0, .slice none 0 0] 58) := fun x => ((gr_alloc W0 x).block _ (Array.getElem?_eq_some_iff.1 HX.out).1 (fun h => h)).trans HX.out
 have y0 : ∀ x, (W0.alloc x).cell? ⟨B + 1, 0, none⟩ = some (.string ⟨#[]⟩) := fun x => by simp [World.cell?, yb x]
 have z0 : ∀ x, (W0.alloc x).frozen? ⟨B + 1, 0, none⟩ = false := fun x => by simp [World.frozen?, yb x]
 have y1 : ∀ x, (W0.alloc x).cell? ⟨B + 1, 1, none⟩ = some (.bool false) := fun x => by simp [World.cell?, yb x]
 have z1 : ∀ x, (W0.alloc x).frozen? ⟨B + 1, 1, none⟩ = false := fun x => by simp [World.frozen?, yb x]
 have y2 : ∀ x, (W0.alloc x).cell? ⟨B + 1, 2, none⟩ = some (.int .i64 0) := fun x => by simp [World.cell?, yb x]
 have z2 : ∀ x, (W0.alloc x).frozen? ⟨B + 1, 2, none⟩ = false := fun x => by simp [World.frozen?, yb x]
 have y3 : ∀ x, (W0.alloc x).cell? ⟨B + 1, 3, none⟩ = some (.int .i64 0) := fun x => by simp [World.cell?, yb x]
 have z3 : ∀ x, (W0.alloc x).frozen? ⟨B + 1, 3, none⟩ = false := fun x => by simp [World.frozen?, yb x]
 have y4 : ∀ x, (W0.alloc x).cell? ⟨B + 1, 4, none⟩ = some (.int .i64 0) := fun x => by simp [World.cell?, yb x]
 have z4 : ∀ x, (W0.alloc x).frozen? ⟨B + 1, 4, none⟩ = false := fun x => by simp [World.frozen?, yb x]
 have y5 : ∀ x, (W0.alloc x).cell? ⟨B + 1, 5, none⟩ = some (.int .i64 0) := fun x => by simp [World.cell?, yb x]
 have z5 : ∀ x, (W0.alloc x).frozen? ⟨B + 1, 5, none⟩ = false := fun x => by simp [World.frozen?, yb x]
 have y6 : ∀ x, (W0.alloc x).cell? ⟨B + 1, 6, none⟩ = some (.slice none 0 0) := fun x => by simp [World.cell?, yb x]
 have z6 : ∀ x, (W0.alloc x).frozen? ⟨B + 1, 6, none⟩ = false := fun x => by simp [World.frozen?, yb x]
 have HYB : Hid _ := yb
 clear yb
 go_region_with (go_at_call 78; refine (hn _ (by first | exact kw | simpa using kw)).mono ?_; rintro e w' ⟨rfl, rfl⟩)
 all_goals
  obtain ⟨e7, k7⟩ := set7 (.string f0) (.bool f1) (.int .i64 f2) (.int .i64 f3) (.int .i64 f4) (.int .i64 f5) (.slice ao' f6 ca') (HYB.out (.cells #[.slice (some ⟨b, o, none⟩) L ca, .slice (some ⟨wb, 0, none⟩) (m + 1) wc, .bool inD] 116))
  generalize (((((((W0.alloc (.cells #[.slice (some ⟨b, o, none⟩) L ca, .slice (some ⟨wb, 0, none⟩) (m + 1) wc, .bool inD] 116)).setCell ⟨B + 1, 0, none⟩ (.string f0)).setCell ⟨B + 1, 1, none⟩ (.bool f1)).setCell ⟨B + 1, 2, none⟩ (.int .i64 f2)).setCell ⟨B + 1, 3, none⟩ (.int .i64 f3)).setCell ⟨B + 1, 4, none⟩ (.int .i64 f4)).setCell ⟨B + 1, 5, none⟩ (.int .i64 f5)).setCell ⟨B + 1, 6, none⟩ (.slice ao' f6 ca') = W4 at *
  have HE : Hid (Gr w W4) := HG.out.trans (T := fun k => k = B + 1) (((gr_alloc W0 _).mono fun _ _ h => h.elim).tr k7) (fun j hj h => by have := HB.out; omega)
  have t0 : W4.cell? ⟨B + 1, 0, none⟩ = some (.string f0) := by simp [World.cell?, e7]
  have t1 : W4.cell? ⟨B + 1, 1, none⟩ = some (.bool f1) := by simp [World.cell?, e7]
  have t2 : W4.cell? ⟨B + 1, 2, none⟩ = some (.int .i64 f2) := by simp [World.cell?, e7]
  have t3 : W4.cell? ⟨B + 1, 3, none⟩ = some (.int .i64 f3) := by simp [World.cell?, e7]
  have t4 : W4.cell? ⟨B + 1, 4, none⟩ = some (.int .i64 f4) := by simp [World.cell?, e7]
  have t5 : W4.cell? ⟨B + 1, 5, none⟩ = some (.int .i64 f5) := by simp [World.cell?, e7]
  have t6 : W4.cell? ⟨B + 1, 6, none⟩ = some (.slice ao' f6 ca') := by simp [World.cell?, e7]
  clear e7 k7 y0 y1 y2 y3 y4 y5 y6 z0 z1 z2 z3 z4 z5 z6 r0 r1 r2 r3 r4 r5 r6 a0 p0 p1 p2 k0 k1 k2 k3 k4 k5 k6 hn kw HYB HX HG
  go_wp2_with fail
  refine bodyPost_ret (v := .agg #[.string f0, .bool f1, .int .i64 f2, .int .i64 f3, .int .i64 f4, .int .i64 f5, .slice ao' f6 ca']) ?_ rfl ?_
  ·simp [results, Tryz.f54, go_sem, t0, t1, t2, t3, t4, t5, t6]
  exact ⟨rfl, HE.out.drew⟩
def sEq (a b : ByteArray) : Bool := a.toList == b.toList
theorem named_any (f : FT) (ao : Option Addr) (ca nb : Nat) (nm : ByteArray) (w : World) (hn : w.cell? ⟨nb, 0, none⟩ = some (.string nm)) :
  Calls Tryz.prog 97 #[fldV f ao ca, .pointer (some ⟨nb, 0, none⟩)] w fun e w' => e = .returned (.bool (sEq f.name nm)) ∧ Gr w w' := by
 have hn : ∀ o, (w.alloc o).cell? ⟨nb, 0, none⟩ = some (.string nm) := fun o => (gr_alloc w o).cell' hn (fun h => h)
 unfold fldV
 go_enter Tryz.func97, Tryz.ntmps97
 go_wp2
 go_ret
 exact ⟨rfl, gr_alloc _ _⟩
def idxOf (l : List FT) (nm : ByteArray) : Int := if l.findIdx (fun f => sEq f.name nm) < l.length then (l.findIdx (fun f => sEq f.name nm) : Nat) else -1
theorem idxOf_none {l : List FT} {nm : ByteArray} (h : ∀ i (h : i < l.length), (sEq l[i].name nm) = false) : idxOf l nm = -1 := by
 unfold idxOf
 rw [if_neg]
 intro hlt
 have := List.findIdx_getElem (w := hlt)
 rw [h _ hlt] at this
 cases this
theorem idxOf_some {l : List FT} {nm : ByteArray} {k : Nat} (hk : k < l.length) (h : ∀ i (h : i < l.length), i < k → (sEq l[i].name nm) = false) (hx : (sEq l[k].name nm) = true) : idxOf l nm = k := by
 have : l.findIdx (fun f => sEq f.name nm) = k := by
  rw [List.findIdx_eq hk]
  exact ⟨hx, fun j hj => by rw [h j (by omega) hj]⟩
 unfold idxOf
 rw [this, if_pos hk]
theorem indexFunc_any (S : Nat → Prop) (d : Nat) (ao : Option Addr) (ca nb : Nat) (l : List FT) (nm : ByteArray) (w : World) (hr : RowAt S w d ao l) (hn : w.cell? ⟨nb, 0, none⟩ = some (.string nm)) :
  Calls Tryz.prog 96 #[.slice ao l.length ca, .func (.func 97) #[] #[.pointer (some ⟨nb, 0, none⟩)]] w fun e w' => e = .returned (.int .i64 (idxOf l nm)) ∧ Gr w w' := by
 have hlen : l.length ≤ 1000000000000 := hr.len
 have HR : Hid (l ≠ [] → ∃ b o, ao = some ⟨b, o, none⟩ ∧ ∀ i (h : i < l.length), ∃ ao' ca', CellsAt w b (o + i * 7) l[i] ao' ca') := fun hne => by
  cases d with
  | zero => exact absurd hr hne
  | succ d =>
   obtain ⟨b, o, e, _, h⟩ := hr.2 hne
   exact ⟨b, o, e, fun i hi => by obtain ⟨a, c, h1, _⟩ := h i hi; exact ⟨a, c, h1⟩⟩
 have HN : Hid _ := hn
 obtain ⟨L, hL⟩ : ∃ L, L = l.length := ⟨_, rfl⟩
 rw [← hL] at hlen ⊢
 have HL : Hid (L = l.length) := hL
 clear hr hn hL
 go_enter Tryz.func96, Tryz.ntmps96
 go_wp2
 go_loopw [8] (fun i wr => ∃ k : Nat, k ≤ L ∧ i = .int .i64 (k : Int) ∧ Hid (Gr w wr ∧ ∀ i (h : i < l.length), i < k → (sEq l[i].name nm) = false)) (fun i _ => L - (intOf i).toNat)
 case atStart => exact ⟨0, by omega, rfl, Keeps.refl _ _, fun i h h0 => by omega⟩
 case round =>
  obtain ⟨k, hk, rfl, HK⟩ := hrel
  by_cases hlt : k < L
  ·have hl := HL.out
   have hkl : k < l.length := by omega
   obtain ⟨b, o, rfl, hcs⟩ := HR.out (fun e => by rw [e] at hkl; simp at hkl)
   obtain ⟨ao', ca', hc⟩ := hcs k hkl
   obtain ⟨g0, g1, g2, g3, g4, g5, g6⟩ := hc.kept (HK.out.1.block b (block_lt_of_cell hc.c0) (fun h => h))
   have hnn : wr.cell? ⟨nb, 0, none⟩ = some (.string nm) := HK.out.1.cell' HN.out (fun h => h)
   have hcall : Calls Tryz.prog 97 #[.agg #[.string l[k].name, .bool l[k].nul, .int .i64 l[k].kind, .int .i64 l[k].width, .int .i64 l[k].id, .int .i64 l[k].index, .slice ao' l[k].kids.length ca'], .pointer (some ⟨nb, 0, none⟩)] wr fun e w' => e = .returned (.bool (sEq l[k].name nm)) ∧ Gr wr w' := named_any l[k] ao' ca' nb nm wr hnn
   have HE : Hid _ := @idxOf_some l nm k hkl HK.out.2
   have HM : Hid ((sEq l[k].name nm) = false → ∀ i (h : i < l.length), i < k + 1 → (sEq l[i].name nm) = false) := fun hx i hi hlt => by
    by_cases e : i = k
    ·subst e; exact hx
    exact HK.out.2 i hi (by omega)
   have HG : Hid (Gr w wr) := HK.out.1
   generalize l[k].name = f0 at *
   generalize l[k].nul = f1 at *
   generalize l[k].kind = f2 at *
   generalize l[k].width = f3 at *
   generalize l[k].id = f4 at *
   generalize l[k].index = f5 at *
   generalize l[k].kids.length = f6 at *
   generalize (sEq f0 nm) = eq at *
   clear hc hcs hl hkl HK hnn
   cases eq with
   | true =>
    go_wp2_with (go_at_call 97; refine hcall.mono ?_; rintro e w2 ⟨rfl, hg⟩)
    go_ret
    exact ⟨congrArg (fun z => Ending.returned (.int .i64 z)) (HE.out (by trivial)).symm, HG.out.tr hg⟩
   | false =>
    go_wp2_with (go_at_call 97; refine hcall.mono ?_; rintro e w2 ⟨rfl, hg⟩)
    go_roundw
    case rel => exact ⟨k + 1, by omega, by simp, HG.out.tr hg, HM.out (by trivial)⟩
    case measure => simp [intOf]; omega
  have HE : Hid (idxOf l nm = -1) := idxOf_none fun i hi => HK.out.2 i hi (by have := HL.out; omega)
  have HG : Hid (Gr w wr) := HK.out.1
  have hkL : k = L := by omega
  subst hkL
  clear HK
  go_wp2_with fail
  go_ret
  exact ⟨congrArg (fun z => Ending.returned (.int .i64 z)) HE.out.symm, HG.out⟩
theorem numberOfName_any (S : Nat → Prop) (d : Nat) (ao : Option Addr) (ca : Nat) (l : List FT) (nm : ByteArray) (w : World) (hr : RowAt S w d ao l) (hS : ∀ b, S b → b < w.heap.size) :
  Calls Tryz.prog 77 #[.slice ao l.length ca, .string nm] w fun e w' => e = .returned (.int .i64 (idxOf l nm)) ∧ Gr w w' := by
 have hc := indexFunc_any S d ao ca w.heap.size l nm (w.alloc (.cells #[.string nm] 9)) (hr.kept fun b h => (gr_alloc w _).block b (hS b h) (fun h => h)) (cell_new w _ 9)
 have HC : Hid _ := hc
 clear hc hr
 generalize l.length = L at *
 go_enter Tryz.func77, Tryz.ntmps77
 go_wp2_with (go_at_call 96; refine Calls.mono HC.out ?_; rintro e w2 ⟨rfl, hg⟩)
 go_ret
 exact ⟨rfl, (gr_alloc w _).tr hg⟩
end Go.Proofs.YthhpamhfnpacpaaGreatDoor.Kit
