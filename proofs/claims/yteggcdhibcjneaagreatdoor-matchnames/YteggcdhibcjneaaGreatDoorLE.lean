import Derived.Test.YteggcdhibcjneaaGreatDoorVG
import Derived.Deep.RegionHeld3
import Derived.Test.YteggcdhibcjneaaGreatDoorFG
import Derived.Test.YteggcdhibcjneaaGreatDoorVB
import Derived.Test.YteggcdhibcjneaaGreatDoorKit
import Derived.Test.YteggcdhibcjneaaGreatDoorGA
set_option maxRecDepth 100000
set_option maxHeartbeats 4000000
namespace Go.Proofs.YteggcdhibcjneaaGreatDoor.Kit
open Go.RowKit Go.Shelf Go.Deep
set_option linter.unusedVariables false
attribute [local go_sem] run_store_func
/-! ### fitsType, kind by kind -/
theorem type_null (f0 : ByteArray) (f1 : Bool) (f2 : Int) (f3 f4 f5 : Int) (ao : Option Addr) (n ca : Nat) (v1 : Int) (v2 : ByteArray) (vo : Option Addr) (m vc : Nat) (w W : World) (sb : Nat) (l : Int) (x : Option Int) (b1 b2 b3 : Bool) (hb1 : (v1 == 0) = b1) (hb2 : v2.toList.isEmpty = b2) (hb3 : ((m : Int) == 0) = b3) (hs : Sc w W sb l) (hx : x = if (f1 && b1 && b2 && b3) = true then some l else none) :
    Calls Tryz.prog 174 #[.pointer (some ⟨sb, 0, none⟩), .agg #[.string f0, .bool f1, .int .i64 f2, .int .i64 f3, .int .i64 f4, .int .i64 f5, .slice ao n ca], .agg #[.bool true, .int .i64 v1, .string v2, .slice vo m vc]] W fun e w' => FitQ W sb x e w' := by
  have HS := hidM hs.self
  clear hs
  cases f1 <;> cases b1 <;> cases b2 <;> cases b3 <;> simp only [Bool.and_true, Bool.and_false, if_true, if_false, Bool.false_eq_true] at hx
  all_goals
    have HX := hidM hx
    clear hx
    go_enter Tryz.func174, Tryz.ntmps174
    go_wp2
    go_region
    all_goals
      go_wp2
      go_ret
      first | exact .no HX.out rfl ((HS.out.alloc _).alloc _).drew | exact .yes HX.out rfl ((HS.out.alloc _).alloc _).drew
theorem type13 (f0 : ByteArray) (f1 : Bool) (f3 f4 f5 : Int) (ao : Option Addr) (n ca : Nat) (v1 : Int) (v2 : ByteArray) (vo : Option Addr) (m vc : Nat) (w W : World) (sb : Nat) (l : Int) (x : Option Int) (b1 b2 b3 : Bool) (hb1 : (v1 == 0) = b1) (hb2 : v2.toList.isEmpty = b2) (hb3 : ((m : Int) == 0) = b3) (hs : Sc w W sb l) (hx : x = if (b1 && b3) = true then some l else none) :
    Calls Tryz.prog 174 #[.pointer (some ⟨sb, 0, none⟩), .agg #[.string f0, .bool f1, .int .i64 13, .int .i64 f3, .int .i64 f4, .int .i64 f5, .slice ao n ca], .agg #[.bool false, .int .i64 v1, .string v2, .slice vo m vc]] W fun e w' => FitQ W sb x e w' := by
  have HS := hidM hs.self
  clear hs
  cases b1 <;> cases b3 <;> simp only [Bool.and_true, Bool.and_false, if_true, if_false, Bool.false_eq_true] at hx
  all_goals
    have HX := hidM hx
    clear hx
    go_enter Tryz.func174, Tryz.ntmps174
    go_wp2
    go_region
    all_goals
      go_wp2
      go_ret
      first | exact .no HX.out rfl ((((HS.out.alloc _).alloc _).alloc _).drew) | exact .yes HX.out rfl ((((HS.out.alloc _).alloc _).alloc _).drew)
theorem type14 (f0 : ByteArray) (f1 : Bool) (f3 f4 f5 : Int) (ao : Option Addr) (n ca : Nat) (v1 : Int) (v2 : ByteArray) (vo : Option Addr) (m vc : Nat) (w W : World) (sb : Nat) (l : Int) (x : Option Int) (b1 b2 b3 : Bool) (hb1 : (v1 == 0) = b1) (hb2 : v2.toList.isEmpty = b2) (hb3 : ((m : Int) == 0) = b3) (hs : Sc w W sb l) (b4 : Bool) (hb4 : ((v2.size : Int) == f3) = b4) (hx : x = if (b1 && b3 && b4) = true then some l else none) :
    Calls Tryz.prog 174 #[.pointer (some ⟨sb, 0, none⟩), .agg #[.string f0, .bool f1, .int .i64 14, .int .i64 f3, .int .i64 f4, .int .i64 f5, .slice ao n ca], .agg #[.bool false, .int .i64 v1, .string v2, .slice vo m vc]] W fun e w' => FitQ W sb x e w' := by
  have HS := hidM hs.self
  clear hs
  cases b1 <;> cases b3 <;> cases b4 <;> simp only [Bool.and_true, Bool.and_false, if_true, if_false, Bool.false_eq_true] at hx
  all_goals
    have HX := hidM hx
    clear hx
    go_enter Tryz.func174, Tryz.ntmps174
    go_wp2
    go_region
    all_goals
      go_wp2
      go_ret
      first | exact .no HX.out rfl ((((HS.out.alloc _).alloc _).alloc _).drew) | exact .yes HX.out rfl ((((HS.out.alloc _).alloc _).alloc _).drew)
theorem type12 (f0 : ByteArray) (f1 : Bool) (f3 f4 f5 : Int) (ao : Option Addr) (n ca : Nat) (v1 : Int) (v2 : ByteArray) (vo : Option Addr) (m vc : Nat) (w W : World) (sb : Nat) (l : Int) (x : Option Int) (b1 b2 b3 : Bool) (hb1 : (v1 == 0) = b1) (hb2 : v2.toList.isEmpty = b2) (hb3 : ((m : Int) == 0) = b3) (hs : Sc w W sb l) (vb : Bool) (h89 : ∀ W', Gr W W' → Calls Tryz.prog 185 #[.string v2] W' fun e w' => e = .returned (.bool vb) ∧ Gr W' w') (hx : x = if (b1 && b3 && vb) = true then some l else none) :
    Calls Tryz.prog 174 #[.pointer (some ⟨sb, 0, none⟩), .agg #[.string f0, .bool f1, .int .i64 12, .int .i64 f3, .int .i64 f4, .int .i64 f5, .slice ao n ca], .agg #[.bool false, .int .i64 v1, .string v2, .slice vo m vc]] W fun e w' => FitQ W sb x e w' := by
  have HS := hidM hs.self
  have H89 := hidM h89
  clear hs h89
  have HG : Hid (∀ a b c, Gr W (((W.alloc a).alloc b).alloc c).drew) := fun a b c => ((((Keeps.refl W _).alloc a).alloc b).alloc c).drew
  cases b1 <;> cases b3 <;> cases vb <;> simp only [Bool.and_true, Bool.and_false, if_true, if_false, Bool.false_eq_true] at hx
  all_goals
    have HX := hidM hx
    clear hx
    go_enter Tryz.func174, Tryz.ntmps174
    go_wp2
    go_region
    all_goals
      go_wp2_with (go_at_call 185; refine (H89.out _ (HG.out _ _ _)).mono ?_; rintro e v1' ⟨rfl, hg⟩; replace hg := hidM hg)
      go_ret
      first | exact .no HX.out rfl ((((HS.out.alloc _).alloc _).alloc _).drew) | exact .yes HX.out rfl (((((HS.out.alloc _).alloc _).alloc _).drew).gr hg.out) | exact .no HX.out rfl (((((HS.out.alloc _).alloc _).alloc _).drew).gr hg.out)
theorem type_num (f0 : ByteArray) (f1 : Bool) (f2 : Int) (f3 f4 f5 : Int) (ao : Option Addr) (n ca : Nat) (v1 : Int) (v2 : ByteArray) (vo : Option Addr) (m vc : Nat) (w W : World) (sb : Nat) (l : Int) (x : Option Int) (b1 b2 b3 : Bool) (hb1 : (v1 == 0) = b1) (hb2 : v2.toList.isEmpty = b2) (hb3 : ((m : Int) == 0) = b3) (hs : Sc w W sb l) (hk : 1 ≤ f2 ∧ f2 ≤ 11) (nb : Bool) (hnb : numB f2 v1 = nb) (hx : x = if (b2 && b3 && nb) = true then some l else none) :
    Calls Tryz.prog 174 #[.pointer (some ⟨sb, 0, none⟩), .agg #[.string f0, .bool f1, .int .i64 f2, .int .i64 f3, .int .i64 f4, .int .i64 f5, .slice ao n ca], .agg #[.bool false, .int .i64 v1, .string v2, .slice vo m vc]] W fun e w' => FitQ W sb x e w' := by
  have HS := hidM hs.self
  clear hs
  have H93 : Hid (∀ W', Calls Tryz.prog 189 #[.int .i64 f2, .int .i64 v1] W' fun e w' => e = .returned (.bool nb) ∧ W' = w') := fun W' => by rw [← hnb]; exact fitsNumber_any f2 v1 (by omega) W'
  have e12 : (f2 == 12) = false := by simp; omega
  have e13 : (f2 == 13) = false := by simp; omega
  have e14 : (f2 == 14) = false := by simp; omega
  have e15 : (f2 == 15) = false := by simp; omega
  have e16 : (f2 == 16) = false := by simp; omega
  have e17 : (f2 == 17) = false := by simp; omega
  have e18 : (f2 == 18) = false := by simp; omega
  have e19 : (f2 == 19) = false := by simp; omega
  have e20 : (f2 == 20) = false := by simp; omega
  clear hk hnb
  cases b2 <;> cases b3 <;> cases nb <;> simp only [Bool.and_true, Bool.and_false, if_true, if_false, Bool.false_eq_true] at hx
  all_goals
    have HX := hidM hx
    clear hx
    go_enter Tryz.func174, Tryz.ntmps174
    go_wp2
    go_region
    all_goals
      go_wp2_with (go_at_call 189; refine (H93.out _).mono ?_; rintro e v1' ⟨rfl, rfl⟩)
      go_ret
      first | exact .no HX.out rfl ((((HS.out.alloc _).alloc _).alloc _).drew) | exact .yes HX.out rfl ((((HS.out.alloc _).alloc _).alloc _).drew)
/-! ### lists of numbers, read -/
def IntsAt (W : World) (ao : Option Addr) (l : List Nat) : Prop := l ≠ [] → ∃ b o, ao = some ⟨b, o, none⟩ ∧ ∀ j (h : j < l.length), W.cell? ⟨b, o + j, none⟩ = some (.int .i64 (l[j] : Int))
theorem IntsAt.gr {W W' : World} {ao : Option Addr} {l : List Nat} (h : IntsAt W ao l) (g : Gr W W') : IntsAt W' ao l := fun hn => by
  obtain ⟨b, o, e, hc⟩ := h hn
  exact ⟨b, o, e, fun j hj => g.cell' (hc j hj) id⟩
theorem ints_of_own {W : World} {vo : Option Addr} {n vc : Nat} {l : List Nat} (h : W.ownsRow 0 3 1 (.slice vo n vc) n (ints l)) : IntsAt W vo l := fun hn => by
  have hl : l.length = n := by have := h.1; simpa [ints] using this
  rcases h.2 with ⟨e, h0⟩ | ⟨g, cap, cur, e, _⟩
  · exact absurd (List.eq_nil_of_length_eq_zero (by omega)) hn
  · cases e
    refine ⟨g, 0, rfl, fun j hj => ?_⟩
    rw [Nat.zero_add, h.cellAt j (by omega)]
    simp [ints, hj]
end Go.Proofs.YteggcdhibcjneaaGreatDoor.Kit
namespace Go.Proofs.YteggcdhibcjneaaGreatDoor.Kit
/-! ### the fields in their order, no deeper than 65 and not many more than 256: as the document lays them -/
/-- children of a field, if its way is no longer than 64 -/
def nodesC : Nat → List FT → List Nat → Bool → List LS
  | 0, _, _, _ => []
  | d + 1, l, path, inD => (List.range l.length).flatMap fun i => ⟨l, path ++ [i], inD⟩ :: (if path.length + 1 ≤ 64 then nodesC d (l[i]!).kids (path ++ [i]) (inD || decide ((l[i]!).kind = 19)) else [])
def uptoC (d : Nat) (l : List FT) (path : List Nat) (inD : Bool) (i : Nat) : List LS :=
  (List.range i).flatMap fun i => ⟨l, path ++ [i], inD⟩ :: (if path.length + 1 ≤ 64 then nodesC d (l[i]!).kids (path ++ [i]) (inD || decide ((l[i]!).kind = 19)) else [])
theorem nodesC_succ (d : Nat) (l : List FT) (path : List Nat) (inD : Bool) : nodesC (d + 1) l path inD = uptoC d l path inD l.length := rfl
theorem uptoC_zero (d : Nat) (l : List FT) (path : List Nat) (inD : Bool) : uptoC d l path inD 0 = [] := rfl
theorem uptoC_succ (d : Nat) (l : List FT) (path : List Nat) (inD : Bool) (i : Nat) :
    uptoC d l path inD (i + 1) = uptoC d l path inD i ++ ⟨l, path ++ [i], inD⟩ :: (if path.length + 1 ≤ 64 then nodesC d (l[i]!).kids (path ++ [i]) (inD || decide ((l[i]!).kind = 19)) else []) := by
  simp [uptoC, List.range_succ, List.flatMap_append]
theorem uptoC_prefix (d : Nat) (l : List FT) (path : List Nat) (inD : Bool) {i j : Nat} (h : i ≤ j) : uptoC d l path inD i <+: uptoC d l path inD j := by
  induction j with
  | zero => obtain rfl : i = 0 := by omega
            exact List.prefix_rfl
  | succ j ih =>
    by_cases e : i = j + 1
    · subst e; exact List.prefix_rfl
    · exact (ih (by omega)).trans (by rw [uptoC_succ]; exact List.prefix_append _ _)

/-- what the document's list is, when others lie ahead of it -/
def grown (out new : List LS) : List LS := (out ++ new).take 257
/-- full: nothing more joins -/
theorem grown_full {out new more : List LS} (h : 256 < (grown out new).length) (hp : new <+: more) : grown out more = grown out new := by
  obtain ⟨t, rfl⟩ := hp
  simp only [grown, List.length_take] at h
  simp only [grown, ← List.append_assoc]
  exact List.take_append_of_le_length (by omega)
/-- not full: all that was new has joined -/
theorem grown_room {out new : List LS} (h : (grown out new).length ≤ 256) : grown out new = out ++ new := by
  simp only [grown, List.length_take] at h
  exact List.take_of_length_le (by omega)
theorem grown_le (out new : List LS) : (grown out new).length ≤ 257 := by simp [grown]; omega
/-- one joins, then those within it -/
theorem grown_step {out new : List LS} (h : (grown out new).length ≤ 256) (x : LS) (kids : List LS) : grown (grown out new ++ [x]) kids = grown out (new ++ x :: kids) := by
  rw [grown_room h]
  simp [grown]
theorem grown_one {out new : List LS} (h : (grown out new).length ≤ 256) (x : LS) : grown out (new ++ [x]) = grown out new ++ [x] := by
  have e := grown_room h
  rw [e]
  rw [e] at h
  simp only [grown, ← List.append_assoc]
  exact List.take_of_length_le (by simp at h ⊢; omega)

/-- up to the first field whose way is too long, both lists are the same -/
theorem cut_same : ∀ (d : Nat) (l : List FT) (path : List Nat) (inD : Bool) (k : Nat), (∀ x ∈ (nodes d l path inD).take k, x.path.length ≤ 64) →
    (nodes d l path inD).take (k + 1) = (nodesC d l path inD).take (k + 1) ∧ ((∀ x ∈ nodes d l path inD, x.path.length ≤ 64) → nodesC d l path inD = nodes d l path inD)
  | 0, _, _, _, _, _ => ⟨rfl, fun _ => rfl⟩
  | d + 1, l, path, inD, k, h => by
    rw [nodes_succ, nodesC_succ]
    rw [nodes_succ] at h
    by_cases hp : path.length + 1 ≤ 64
    · -- the way is short enough here: by the fields within
      have key : ∀ n k, (∀ x ∈ (upto d l path inD n).take k, x.path.length ≤ 64) → (upto d l path inD n).take (k + 1) = (uptoC d l path inD n).take (k + 1) ∧ ((∀ x ∈ upto d l path inD n, x.path.length ≤ 64) → uptoC d l path inD n = upto d l path inD n) := by
        intro n
        induction n with
        | zero => exact fun _ _ => ⟨rfl, fun _ => rfl⟩
        | succ n ih =>
          intro k hk
          have hwhole : (∀ x ∈ upto d l path inD (n + 1), x.path.length ≤ 64) → uptoC d l path inD (n + 1) = upto d l path inD (n + 1) := by
            intro hall
            rw [upto_succ] at hall ⊢
            rw [uptoC_succ, if_pos hp, (ih 0 (by simp)).2 (fun x hx => hall x (List.mem_append_left _ hx)),
              (cut_same d (l[n]!).kids (path ++ [n]) _ 0 (by simp)).2 (fun x hx => hall x (List.mem_append_right _ (List.mem_cons_of_mem _ hx)))]
          refine ⟨?_, hwhole⟩
          rw [upto_succ] at hk ⊢
          rw [uptoC_succ, if_pos hp]
          by_cases hlt : k < (upto d l path inD n).length
          · have h1 := (ih k (fun x hx => hk x (by rw [List.take_append_of_le_length (by omega)]; exact hx))).1
            have hlen : k + 1 ≤ (uptoC d l path inD n).length := by
              have := congrArg List.length h1
              simp only [List.length_take] at this
              omega
            rw [List.take_append_of_le_length (by omega), List.take_append_of_le_length hlen, h1]
          · have hall : ∀ x ∈ upto d l path inD n, x.path.length ≤ 64 := fun x hx => hk x (by
              rw [List.take_append]
              exact List.mem_append_left _ (by rw [List.take_of_length_le (by omega)]; exact hx))
            rw [(ih 0 (by simp)).2 hall, List.take_append, List.take_append]
            congr 1
            obtain ⟨m, hm⟩ : ∃ m, k = (upto d l path inD n).length + m := ⟨k - (upto d l path inD n).length, by omega⟩
            have e1 : k + 1 - (upto d l path inD n).length = m + 1 := by omega
            rw [e1, List.take_succ_cons, List.take_succ_cons]
            congr 1
            cases m with
            | zero => simp
            | succ m =>
              refine (cut_same d (l[n]!).kids (path ++ [n]) _ m fun x hx => hk x ?_).1
              rw [List.take_append]
              refine List.mem_append_right _ ?_
              rw [show k - (upto d l path inD n).length = m + 1 by omega, List.take_succ_cons]
              exact List.mem_cons_of_mem _ hx
      exact key l.length k h
    · -- the way is too long already: the first is too deep
      cases l with
      | nil => exact ⟨rfl, fun _ => rfl⟩
      | cons f l =>
        obtain ⟨t, ht⟩ : ∃ t, upto d (f :: l) path inD (f :: l).length = ⟨f :: l, path ++ [0], inD⟩ :: t := by
          have := upto_prefix d (f :: l) path inD (i := 1) (j := (f :: l).length) (by simp)
          rw [upto_succ, upto_zero] at this
          obtain ⟨t, ht⟩ := this
          exact ⟨_, ht.symm⟩
        obtain ⟨t', ht'⟩ : ∃ t, uptoC d (f :: l) path inD (f :: l).length = ⟨f :: l, path ++ [0], inD⟩ :: t := by
          have := uptoC_prefix d (f :: l) path inD (i := 1) (j := (f :: l).length) (by simp)
          rw [uptoC_succ, uptoC_zero] at this
          obtain ⟨t, ht⟩ := this
          exact ⟨_, ht.symm⟩
        rw [ht] at h ⊢
        rw [ht']
        cases k with
        | zero => exact ⟨by simp, fun hall => absurd (hall _ (List.mem_cons_self ..)) (by simp; omega)⟩
        | succ k => exact absurd (h _ (by rw [List.take_succ_cons]; exact List.mem_cons_self ..)) (by simp; omega)
end Go.Proofs.YteggcdhibcjneaaGreatDoor.Kit
namespace Go.Proofs.YteggcdhibcjneaaGreatDoor.Kit
open Go.RowKit Go.Deep
/-! ### append onto a row of the call's own, its elements of several cells -/
section
variable {P : Program} (w : World)

theorem run_append_anyN (t tx ty e : TypeId) (i : TypeInfo) (z : Value) (bytes : Nat) (ht : P.underlying t = some (.slice e)) (hi : P.info? e = some i) (hz : i.zero = some z) (size : Nat) (hsize : i.size = size) (hby : i.bytes = bytes) (hzs : z.cells.size = size)
    (v : Value) (n : Nat) (xs : List Value) (hown : w.ownsRow 0 e size v n xs) (x : Value) (m : Nat) (news : List Value) (hs : Src P size tx x m news w)
    (h63 : n + m ≤ 9223372036854775807) (hbytes : (n + m) * bytes ≤ 140737488355328) :
    ∃ v' w', (Builtin.append_ #[t, tx] ty #[v, x]).run P w = .ok v' w' ∧ w'.ownsRow 0 e size v' (n + m) (xs ++ news) ∧ w.grownBy w' v.ownBlock ∧
      (v'.ownBlock = v.ownBlock ∨ ∀ g, v'.ownBlock = some g → w.heap.size ≤ g) := by
  subst hby
  have hlen : (xs ++ news).length = (n + m) * size := by rw [List.length_append, hown.1, hs.newsLen, Nat.add_mul]
  have grown : ∀ (old : Nat), old < n + m → ∀ (row : Option Nat),
      (w.drew.alloc (.cells ((xs ++ news).toArray ++ Builtin.zeroCells z.cells (grownCap w (n + m) old e - (n + m))) e)).ownsRow 0 e size
        (.slice (some ⟨w.heap.size, 0, none⟩) (n + m) (grownCap w (n + m) old e)) (n + m) (xs ++ news) ∧
      w.grownBy (w.drew.alloc (.cells ((xs ++ news).toArray ++ Builtin.zeroCells z.cells (grownCap w (n + m) old e - (n + m))) e)) row := by
    intro old ho row
    have hge := grownCap_ge w (n + m) old e
    have hcm : grownCap w (n + m) old e ≤ maxLen := grownCap_le_maxLen w (n + m) old e h63
    refine ⟨⟨hlen, .inr ⟨w.heap.size, _, _, rfl, Nat.zero_le _, heap_alloc_new w.drew _, hge, hcm, ?_, ?_⟩⟩, ⟨rfl, rfl, rfl, by simp, fun k hk _ => Below.heap_alloc w.drew _ k hk⟩⟩
    · simp only [Array.size_append, List.size_toArray, size_zeroCells, hzs, hlen, ← Nat.add_mul]
      congr 1
      omega
    · simp only [Array.toList_append]
      rw [← hlen]
      exact List.take_left
  rcases hown.2 with ⟨rfl, rfl⟩ | ⟨g, cap, cur, rfl, hbg, hg, hnc, hcm, hcs, htake⟩
  · have hx : xs = [] := List.eq_nil_of_length_eq_zero (by simpa using hown.1)
    subst hx
    by_cases hm : m = 0
    · subst hm
      have hn : news = [] := List.eq_nil_of_length_eq_zero (by have := hs.newsLen; simpa using this)
      subst hn
      refine ⟨.slice none 0 0, w, ?_, World.ownsRow_nil w 0 e size, ⟨rfl, rfl, rfl, Nat.le_refl _, fun _ _ _ => rfl⟩, .inl rfl⟩
      have hc := hs.cells
      have hl := hs.len
      rcases hs.kind with ⟨e', hk⟩ | hk <;> simp [Builtin.append_, run_underlying ht, run_underlying hk, sizeOf, typeInfo, hi, hsize, hl, hc]
    · have hr := run_append_grow_src (P := P) w t tx ty e i z ht hi hz none 0 0 [] (by simpa using run_firstCells_none w.drew i.size 0 0 0) x m news (by rw [hsize]; exact hs) (by omega) (by omega) (growslice_fits (by omega) hbytes)
      have hgr := grown 0 (by omega) (Value.ownBlock (.slice none 0 0))
      exact ⟨_, _, hr, hgr.1, hgr.2, .inr fun g hg => by simp [Value.ownBlock] at hg; omega⟩
  · by_cases hroom : n + m ≤ cap
    · have hl := hs.newsLen
      have hfit : n * i.size + news.length ≤ cur.size := by rw [hl, hcs, hsize, ← Nat.add_mul]; exact Nat.mul_le_mul_right _ hroom
      have hr := run_append_room_row (P := P) w t tx ty e i ht hi g n cap cur hg x m news (by rw [hsize]; exact hs) hroom hfit
      rw [hsize] at hr hfit
      refine ⟨_, _, hr, ⟨hlen, .inr ⟨g, cap, _, rfl, hbg, setRow_heap w g cur _ e _ hg, hroom, hcm, ?_, ?_⟩⟩, ⟨rfl, rfl, rfl, by simp, fun k _ hk => setRow_other w g k _ (fun e => hk (by simp [Value.ownBlock, e]))⟩, .inl rfl⟩
      · simp only [List.size_toArray, List.length_append, List.length_take, List.length_drop, Array.length_toList]
        omega
      · rw [htake, ← hlen]
        exact List.take_left
    · have holds : ∀ j u, xs[j]? = some u → w.cell? ((⟨g, 0, none⟩ : Addr).add j) = some u := hown.cells (g := g) rfl
      have hr := run_append_grow_src (P := P) w t tx ty e i z ht hi hz (some ⟨g, 0, none⟩) n cap xs (run_firstCells_some w.drew i.size n ⟨g, 0, none⟩ n cap xs (by rw [hsize]; exact hown.1) (by simpa using holds)) x m news (by rw [hsize]; exact hs) (by omega) (by omega) (growslice_fits (by omega) hbytes)
      have hgr := grown cap (by omega) (Value.ownBlock (.slice (some ⟨g, 0, none⟩) n cap))
      exact ⟨_, _, hr, hgr.1, hgr.2, .inr fun g' hg' => by simp [Value.ownBlock] at hg'; omega⟩

/-- as a law for the walk -/
theorem wpList_append_anyN {ops : Array Oper} {rest : List Oper} {o : Oper} {a : Act} {Q : Exit → Act → World → Prop} (hgd : o.guard = none) (s x : Operand) (t tx : TypeId)
    (ho : o.op = .call { callee := .builtin .append, args := #[s, x], argTypes := #[t, tx] })
    (e : TypeId) (z : Value) (size bytes : Nat) (ht : P.underlying t = some (.slice e)) (hinfo : (P.info? e).map (fun i => (i.zero, i.size, i.bytes)) = some (some z, size, bytes)) (hzs : z.cells.size = size)
    (v : Value) (n : Nat) (xs : List Value) (hv : a.eval s = v) (hown : w.ownsRow 0 e size v n xs) (y : Value) (m : Nat) (news : List Value) (hx : a.eval x = y) (hs : Src P size tx y m news w)
    (h63 : n + m ≤ 9223372036854775807) (hbytes : (n + m) * bytes ≤ 140737488355328)
    (h : ∀ v' w', w'.ownsRow 0 e size v' (n + m) (xs ++ news) → w.grownBy w' v.ownBlock → (v'.ownBlock = v.ownBlock ∨ ∀ g, v'.ownBlock = some g → w.heap.size ≤ g) → wpList P ops Q rest (a.put o.dst v') w') :
    wpList P ops Q (o :: rest) a w := by
  refine wpList_plain hgd fun K hK' => ?_
  obtain ⟨i, hi, hzz⟩ := Option.map_eq_some_iff.1 hinfo
  simp only [Prod.mk.injEq] at hzz
  obtain ⟨hz, hsz, hb⟩ := hzz
  obtain ⟨v', w', hr, h2, h3, h4⟩ := run_append_anyN (P := P) w t tx o.type e i z bytes ht hi hz size hsz hb hzs v n xs hown y m news hs h63 hbytes
  unfold Oper.wp
  simp [execOp, ho, resolve, invoke, builtin, hv, hx, hr, Result.andThen]
  exact hK' _ _ (h v' w' h2 h3 h4)

/-- as one step of a region that draws its order -/
theorem step_append_anyN {ops : Array Oper} {o : Oper} {a : Act} {K : Act → World → Prop} {Q : Exit → Act → World → Prop} {E : Prop} (hgd : o.guard = none) (s x : Operand) (t tx : TypeId)
    (ho : o.op = .call { callee := .builtin .append, args := #[s, x], argTypes := #[t, tx] })
    (e : TypeId) (z : Value) (size bytes : Nat) (ht : P.underlying t = some (.slice e)) (hinfo : (P.info? e).map (fun i => (i.zero, i.size, i.bytes)) = some (some z, size, bytes)) (hzs : z.cells.size = size)
    (v : Value) (n : Nat) (xs : List Value) (hv : a.eval s = v) (hown : w.ownsRow 0 e size v n xs) (y : Value) (m : Nat) (news : List Value) (hx : a.eval x = y) (hs : Src P size tx y m news w)
    (h63 : n + m ≤ 9223372036854775807) (hbytes : (n + m) * bytes ≤ 140737488355328)
    (h : ∀ v' w', w'.ownsRow 0 e size v' (n + m) (xs ++ news) → w.grownBy w' v.ownBlock → (v'.ownBlock = v.ownBlock ∨ ∀ g, v'.ownBlock = some g → w.heap.size ≤ g) → K (a.put o.dst v') w') :
    if Region.wanted o (yielded ops a.tmps) = true then Oper.wp P o a w K Q else E := by
  have hw : Region.wanted o (yielded ops a.tmps) = true := by simp [Region.wanted, hgd]
  rw [if_pos hw]
  obtain ⟨i, hi, hzz⟩ := Option.map_eq_some_iff.1 hinfo
  simp only [Prod.mk.injEq] at hzz
  obtain ⟨hz, hsz, hb⟩ := hzz
  obtain ⟨v', w', hr, h2, h3, h4⟩ := run_append_anyN (P := P) w t tx o.type e i z bytes ht hi hz size hsz hb hzs v n xs hown y m news hs h63 hbytes
  unfold Oper.wp
  simp [execOp, ho, resolve, invoke, builtin, hv, hx, hr, Result.andThen]
  exact h v' w' h2 h3 h4
end
end Go.Proofs.YteggcdhibcjneaaGreatDoor.Kit
namespace Go.Proofs.YteggcdhibcjneaaGreatDoor.Kit
open Go.RowKit Go.Shelf Go.Deep
/-! ### the document's list of nodes, as it lies in memory -/
/-- the ten cells of a node -/
def nodeCells (x : LS) (wb wc : Nat) (fo : Option Addr) (fc : Nat) (ao : Option Addr) (ca : Nat) : List Value :=
  [.slice (some ⟨wb, 0, none⟩) x.path.length wc, .string x.fld.name, .bool x.fld.nul, .int .i64 x.fld.kind, .int .i64 x.fld.width, .int .i64 x.fld.id, .int .i64 x.fld.index, .slice fo x.fld.kids.length fc, .slice ao x.idx ca, .bool x.inD]
structure NodeIn (S : Nat → Prop) (W : World) (x : LS) (wb wc : Nat) (fo : Option Addr) (fc : Nat) (ao : Option Addr) (ca : Nat) : Prop where
  way : W.ownsRow 0 3 1 (.slice (some ⟨wb, 0, none⟩) x.path.length wc) x.path.length (ints x.path)
  row : ∃ D, RowAt S W (D + 1) ao x.list
  kids : ∃ D, RowAt S W D fo x.fld.kids
  le : x.list.length ≤ ca
  kle : x.fld.kids.length ≤ fc
  ix : x.idx < x.list.length
theorem row_apart {W : World} {t t' s s' n n' g : Nat} {v v' : Value} {xs ys : List Value} (h : W.ownsRow 0 t s v n xs) (h' : W.ownsRow 0 t' s' v' n' ys) (ht : t ≠ t') (e : v.ownBlock = some g) : v'.ownBlock ≠ some g := by
  intro e'
  rcases h.2 with ⟨rfl, _⟩ | ⟨g1, c1, cur1, rfl, _, hg1, _⟩
  · simp [Value.ownBlock] at e
  · rcases h'.2 with ⟨rfl, _⟩ | ⟨g2, c2, cur2, rfl, _, hg2, _⟩
    · simp [Value.ownBlock] at e'
    · simp [Value.ownBlock] at e e'
      subst e; subst e'
      rw [hg1] at hg2
      simp at hg2
      exact ht hg2.2
theorem row_kp {W W' : World} {t s n : Nat} {v : Value} {xs : List Value} (h : W.ownsRow 0 t s v n xs) (e : ∀ g, v.ownBlock = some g → W'.heap[g]? = W.heap[g]?) : W'.ownsRow 0 t s v n xs := by
  refine ⟨h.1, h.2.imp id ?_⟩
  rintro ⟨g, cap, cur, rfl, h0, hg, r⟩
  exact ⟨g, cap, cur, rfl, h0, (e g rfl).trans hg, r⟩
theorem own_formN {W : World} {t s n : Nat} {v : Value} {xs : List Value} (h : W.ownsRow 0 t s v n xs) : ∃ vo vc, v = .slice vo n vc := by
  rcases h.2 with ⟨rfl, rfl⟩ | ⟨g, cap, cur, rfl, _⟩
  · exact ⟨_, _, rfl⟩
  · exact ⟨_, _, rfl⟩
theorem size3 : (Tryz.prog.info? 3).map (·.size) = some 1 := by kernel_rfl
theorem splice_front {α : Type} (L cs : List α) (h : L.length = cs.length + 1) (u : α) : (splice L 0 cs).set cs.length u = cs ++ [u] := by
  obtain ⟨t, ht⟩ : ∃ t, L.drop cs.length = [t] := by
    have : (L.drop cs.length).length = 1 := by simp; omega
    exact List.length_eq_one_iff.1 this
  simp [splice, ht]
end Go.Proofs.YteggcdhibcjneaaGreatDoor.Kit
