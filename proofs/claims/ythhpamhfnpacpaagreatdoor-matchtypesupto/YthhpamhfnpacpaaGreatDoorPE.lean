import Derived.Test.YthhpamhfnpacpaaGreatDoorIkBA
import Derived.Laws.BitsLemmas
import Derived.Test.YthhpamhfnpacpaaGreatDoorProg
import Derived.Test.YthhpamhfnpacpaaGreatDoorBS
set_option linter.unusedVariables false
set_option linter.unusedSimpArgs false
set_option maxRecDepth 100000
set_option maxHeartbeats 8000000
namespace Go.Proofs.YthhpamhfnpacpaaGreatDoor.Ink
open Go.Proofs.YthhpamhfnpacpaaGreatDoor.Kit
open Go.RowKit Go.Deep
theorem size5 : (Tryz.prog.info? 5).map (·.size) = some 1 := by kernel_rfl
def InkAt (w : World) (ty p : Nat) (go : Option Nat) (most : Int) (bs : List Int) : Prop :=
 ∃ v, w.heap[p]? = some (.cells #[v, .int .i64 most] ty (0, 0)) ∧ w.ownsRow 0 5 1 v bs.length (bs.map (Value.int .u8)) ∧ v.ownBlock = go
theorem InkAt.kept {w w' : World} {ty p : Nat} {go : Option Nat} {most : Int} {bs : List Int} {S : Nat → Prop} (h : InkAt w ty p go most bs) (hk : Keeps w w' S) (hp : ¬ S p) (hg : ∀ g, go = some g → ¬ S g) : InkAt w' ty p go most bs := by
 obtain ⟨v, hv, hown, hb⟩ := h
 refine ⟨v, ?_, ?_, hb⟩
 ·rw [hk.block p (Array.getElem?_eq_some_iff.1 hv).1 hp]; exact hv
 refine ⟨hown.1, ?_⟩
 rcases hown.2 with hn | ⟨g, cap, cur, rfl, hb', hgg, rest⟩
 ·exact .inl hn
 refine .inr ⟨g, cap, cur, rfl, hb', ?_, rest⟩
 rw [hk.block g (Array.getElem?_eq_some_iff.1 hgg).1 (hg g (by rw [← hb]; rfl))]
 exact hgg
theorem InkAt.form {w : World} {ty p : Nat} {go : Option Nat} {most : Int} {bs : List Int} (h : InkAt w ty p go most bs) :
  ∃ ao cap, w.heap[p]? = some (.cells #[.slice ao bs.length cap, .int .i64 most] ty (0, 0)) ∧ w.ownsRow 0 5 1 (.slice ao bs.length cap) bs.length (bs.map (Value.int .u8)) ∧ (Value.slice ao bs.length cap).ownBlock = go ∧
   w.cell? ⟨p, 0, none⟩ = some (.slice ao bs.length cap) ∧ w.cell? ⟨p, 1, none⟩ = some (.int .i64 most) ∧ w.frozen? ⟨p, 0, none⟩ = false := by
 obtain ⟨v, hv, hown, hb⟩ := h
 obtain ⟨ao, cap, rfl⟩ : ∃ ao cap, v = .slice ao bs.length cap := by
  rcases hown.2 with ⟨rfl, h0⟩ | ⟨g, cap, cur, rfl, _⟩
  ·exact ⟨none, 0, by rw [h0]⟩
  exact ⟨_, _, rfl⟩
 refine ⟨ao, cap, hv, hown, hb, ?_, ?_, frozen_of_row w p 0 _ _ hv⟩
 ·rw [cell_of_row w p 0 _ _ _ hv]; rfl
 rw [cell_of_row w p 1 _ _ _ hv]; rfl
theorem InkAt.lt {w : World} {ty p : Nat} {go : Option Nat} {most : Int} {bs : List Int} (h : InkAt w ty p go most bs) : p < w.heap.size ∧ ∀ g, go = some g → g < w.heap.size := by
 obtain ⟨v, hv, hown, hb⟩ := h
 exact ⟨(Array.getElem?_eq_some_iff.1 hv).1, fun g hg => (hown.lt g (hb.trans hg)).2⟩
theorem own_ne {w : World} {ty p : Nat} {v : Value} {n : Nat} {xs : List Value} {cs : Array Value} (hty : ty ≠ 5) (hp : w.heap[p]? = some (.cells cs ty (0, 0))) (hown : w.ownsRow 0 5 1 v n xs) : v.ownBlock ≠ some p := by
 intro e
 rcases hown.2 with ⟨rfl, _⟩ | ⟨g, cap, cur, rfl, _, hgg, _⟩
 ·simp [Value.ownBlock] at e
 simp [Value.ownBlock] at e
 subst e
 rw [hp] at hgg
 simp at hgg
 exact hty hgg.2
theorem InkAt.stored {w w1 : World} {ty p : Nat} {most : Int} {bs bs' : List Int} {v v' : Value} (hty : ty ≠ 5) (hv : w.heap[p]? = some (.cells #[v, .int .i64 most] ty (0, 0))) (hown : w.ownsRow 0 5 1 v bs.length (bs.map (Value.int .u8)))
  (hown' : w1.ownsRow 0 5 1 v' bs'.length (bs'.map (Value.int .u8))) (hgrow : w.grownBy w1 v.ownBlock) :
  w1.cell? ⟨p, 0, none⟩ = some v ∧ w1.frozen? ⟨p, 0, none⟩ = false ∧ InkAt (w1.setCell ⟨p, 0, none⟩ v') ty p v'.ownBlock most bs' ∧ Keeps w (w1.setCell ⟨p, 0, none⟩ v') (fun k => k = p ∨ v.ownBlock = some k) := by
 have hne := own_ne hty hv hown
 have hp1 : w1.heap[p]? = some (.cells #[v, .int .i64 most] ty (0, 0)) := by
  rw [hgrow.block p (Array.getElem?_eq_some_iff.1 hv).1 (fun e => hne e.symm)]; exact hv
 have hne' := own_ne hty hp1 hown'
 refine ⟨by rw [cell_of_row w1 p 0 _ _ _ hp1]; rfl, frozen_of_row w1 p 0 _ _ hp1, ⟨v', ?_, ?_, rfl⟩, ?_⟩
 ·rw [heap_setCell_same w1 p 0 _ ty v' hp1]; rfl
 ·refine ⟨hown'.1, ?_⟩
  rcases hown'.2 with hn | ⟨g, cap, cur, rfl, hb', hgg, rest⟩
  ·exact .inl hn
  refine .inr ⟨g, cap, cur, rfl, hb', ?_, rest⟩
  rw [heap_setCell_other w1 ⟨p, 0, none⟩ g _ (fun e => hne' (by simp [Value.ownBlock, e]))]
  exact hgg
 have k := (Keeps.ofGrown hgrow).mono (T := fun k => k = p ∨ v.ownBlock = some k) fun b _ h => Or.inr h
 exact k.setCell (p := ⟨p, 0, none⟩) (fun _ => Or.inl rfl) _
theorem takes_any (p : Nat) (ao : Option Addr) (n cap : Nat) (most k : Int) (w : World) (h0 : w.cell? ⟨p, 0, none⟩ = some (.slice ao n cap)) (h1 : w.cell? ⟨p, 1, none⟩ = some (.int .i64 most))
  (hm : 0 ≤ most) (hm' : most ≤ 16777216) (hn : n ≤ 16777216) :
  Calls Tryz.prog 321 #[.pointer (some ⟨p, 0, none⟩), .int .i64 k] w fun e w' => e = .returned (.bool (decide (k ≤ most - n))) ∧ ∃ q, w' = w.drewN q := by
 go_enter Tryz.func321, Tryz.ntmps321
 go_wp2
 go_quiet (fail)
 go_wp2
 go_ret
 exact ⟨rfl, _, rfl⟩
def InkDone (w w' : World) (ty p : Nat) (go : Option Nat) (most : Int) (bs' : List Int) : Prop :=
 ∃ go', InkAt w' ty p go' most bs' ∧ Keeps w w' (fun k => k = p ∨ go = some k) ∧ (go' = go ∨ ∀ g, go' = some g → w.heap.size ≤ g)
theorem own_form {w : World} {v : Value} {n : Nat} {xs : List Value} (h : w.ownsRow 0 5 1 v n xs) : ∃ ao cap, v = .slice ao n cap := by
 rcases h.2 with ⟨rfl, h0⟩ | ⟨g, cap, cur, rfl, _⟩
 ·exact ⟨none, 0, by rw [h0]⟩
 exact ⟨_, _, rfl⟩
theorem InkDone.same {w : World} {ty p : Nat} {go : Option Nat} {most : Int} {bs : List Int} (h : InkAt w ty p go most bs) (q : Nat) : InkDone w (w.drewN q) ty p go most bs :=
 ⟨go, h, (Keeps.refl _ _).drewN q, .inl rfl⟩
def wideB (n : Int) : Bool := n == 1 || n == 2 || n == 4 || n == 8
theorem ret_bool {a b : Bool} (h : a = b) : Ending.returned (.bool a) = .returned (.bool b) := by rw [h]
theorem isWidth_any (n : Int) (w : World) : Calls Tryz.prog 253 #[.int .i64 n] w fun e w' => e = .returned (.bool (wideB n)) ∧ w = w' := by
 by_cases h1 : n = 1
 ·subst h1; go_enter Tryz.func253, Tryz.ntmps253; go_wp2; go_ret; exact ⟨rfl, rfl⟩
 by_cases h2 : n = 2
 ·subst h2; go_enter Tryz.func253, Tryz.ntmps253; go_wp2; go_ret; exact ⟨rfl, rfl⟩
 by_cases h4 : n = 4
 ·subst h4; go_enter Tryz.func253, Tryz.ntmps253; go_wp2; go_ret; exact ⟨rfl, rfl⟩
 by_cases h8 : n = 8
 ·subst h8; go_enter Tryz.func253, Tryz.ntmps253; go_wp2; go_ret; exact ⟨rfl, rfl⟩
 have g1 : (n == 1) = false := by simpa using h1
 have g2 : (n == 2) = false := by simpa using h2
 have g4 : (n == 4) = false := by simpa using h4
 have g8 : (n == 8) = false := by simpa using h8
 have e : Hid (false = wideB n) := by show _ = _; simp [wideB, g1, g2, g4, g8]
 go_enter Tryz.func253, Tryz.ntmps253; go_wp2; go_ret; exact ⟨ret_bool e.out, rfl⟩
theorem InkDone.trans {a b c : World} {ty p : Nat} {go go1 : Option Nat} {most : Int} {bs2 : List Int} (hk : Keeps a b (fun k => k = p ∨ go = some k)) (hg : go1 = go ∨ ∀ g, go1 = some g → a.heap.size ≤ g)
  (h : InkDone b c ty p go1 most bs2) : InkDone a c ty p go most bs2 := by
 obtain ⟨go2, i2, k2, g2⟩ := h
 refine ⟨go2, i2, hk.trans k2 ?_, ?_⟩
 ·intro j hj h
  rcases h with h | h
  ·exact .inl h
  rcases hg with e | e
  ·exact .inr (e ▸ h)
  have := e j h; omega
 rcases g2 with e | e
 ·subst e; exact hg
 exact .inr fun g h => Nat.le_trans hk.size (e g h)
def leB (x : Int) (k : Nat) : List Int := (List.range k).map fun i => x / 256 ^ i % 256
theorem leB_succ (x : Int) (k : Nat) : leB x (k + 1) = leB x k ++ [x / 256 ^ k % 256] := by simp [leB, List.range_succ]
theorem leB_length (x : Int) (k : Nat) : (leB x k).length = k := by simp [leB]
theorem u8_wrap (y : Int) : IntKind.u8.wrap y = y % 256 := by simp [IntKind.wrap, IntKind.bits, IntKind.signed]
theorem shr8 (x : Int) (k : Nat) (hk : k < 8) : Op.shift BinOp.shr IntKind.u64 x IntKind.i64 (IntKind.i64.wrap (8 * (k : Int))) = pure (.int .u64 (x / 256 ^ k)) := by
 have e : IntKind.i64.wrap (8 * (k : Int)) = 8 * (k : Int) := by rw [IntKind.wrap_i64]; omega
 rw [e, shift_shr_any _ _ _ _ (by omega)]
 have e2 : (2 : Int) ^ min ((8 * (k : Int)).toNat) IntKind.u64.bits = 256 ^ k := by
  have : min ((8 * (k : Int)).toNat) IntKind.u64.bits = 8 * k := by
   have hb : IntKind.u64.bits = 64 := rfl
   rw [hb]; omega
  rw [this, Int.pow_mul]; rfl
 rw [e2]
def InkForm (w : World) (ty p : Nat) (go : Option Nat) (most : Int) (bs : List Int) (ao : Option Addr) (cap : Nat) : Prop :=
 w.heap[p]? = some (.cells #[.slice ao bs.length cap, .int .i64 most] ty (0, 0)) ∧ w.ownsRow 0 5 1 (.slice ao bs.length cap) bs.length (bs.map (Value.int .u8)) ∧ (Value.slice ao bs.length cap).ownBlock = go
theorem InkAt.open {w : World} {ty p : Nat} {go : Option Nat} {most : Int} {bs : List Int} (h : InkAt w ty p go most bs) :
  ∃ ao cap, Hid (InkForm w ty p go most bs ao cap) ∧ w.cell? ⟨p, 0, none⟩ = some (.slice ao bs.length cap) ∧ w.cell? ⟨p, 1, none⟩ = some (.int .i64 most) ∧ w.frozen? ⟨p, 0, none⟩ = false := by
 obtain ⟨ao, cap, a, b, c, d, e, f⟩ := h.form
 exact ⟨ao, cap, ⟨a, b, c⟩, d, e, f⟩
theorem InkForm.grown {w W w1 : World} {ty p : Nat} {go : Option Nat} {most : Int} {bs : List Int} {ao : Option Addr} {cap : Nat} (hf : InkForm w ty p go most bs ao cap) (hty : ty ≠ 5) (hW : Keeps w W (fun _ => False))
  (news : List Int) {v' : Value} {n' : Nat} {xs' : List Value} (hown' : w1.ownsRow 0 5 1 v' n' xs') (hn : n' = (bs ++ news).length) (hx : xs' = (bs ++ news).map (Value.int .u8))
  (hgrow : W.grownBy w1 (Value.slice ao bs.length cap).ownBlock) (hblk : v'.ownBlock = (Value.slice ao bs.length cap).ownBlock ∨ ∀ g, v'.ownBlock = some g → W.heap.size ≤ g) :
  w1.cell? ⟨p, 0, none⟩ = some (.slice ao bs.length cap) ∧ w1.frozen? ⟨p, 0, none⟩ = false ∧ InkDone w (w1.setCell ⟨p, 0, none⟩ v') ty p go most (bs ++ news) := by
 obtain ⟨hh, ho, hg⟩ := hf
 subst hn hx
 have hI : InkAt W ty p go most bs := InkAt.kept ⟨_, hh, ho, hg⟩ hW id (fun _ _ => id)
 have hh' : W.heap[p]? = some (.cells #[.slice ao bs.length cap, .int .i64 most] ty (0, 0)) := by
  rw [hW.block p (Array.getElem?_eq_some_iff.1 hh).1 id]; exact hh
 have ho' : W.ownsRow 0 5 1 (.slice ao bs.length cap) bs.length (bs.map (Value.int .u8)) := by
  obtain ⟨v, hv, hown, _⟩ := hI
  rw [hh'] at hv
  simp at hv
  rw [← hv] at hown
  exact hown
 obtain ⟨c, f, i, k⟩ := InkAt.stored (w := W) (bs := bs) (bs' := bs ++ news) hty hh' ho' hown' hgrow
 subst hg
 refine ⟨c, f, InkDone.trans (b := W) (go1 := (Value.slice ao bs.length cap).ownBlock) (hW.mono fun _ _ h => h.elim) (.inl rfl) ⟨_, i, k, hblk⟩⟩
theorem Keeps.none_alloc_drew (w : World) (o : Obj) : Keeps w (w.alloc o).drew (fun _ => False) := ((Keeps.refl w _).alloc o).drew
theorem own_alloc_drew {w : World} {v : Value} {n : Nat} {xs : List Value} (h : w.ownsRow 0 5 1 v n xs) (o : Obj) : (w.alloc o).drew.ownsRow 0 5 1 v n xs := h.alloc o
theorem src_one_drew (w : World) (u : Value) (hu : u.oneCell' = true) : Src Tryz.prog 1 65 (.slice (some ⟨w.heap.size, 0, none⟩) 1 1) 1 [u] (w.alloc (.cells #[u] 5)).drew := by
 refine Src.ofSlice _ Tryz.underlying65 _ _ _ _ (by simp) ?_ (by simpa using hu)
 intro j v hj
 match j, hj with
 | 0, hj => simp at hj; subst hj; simp [Addr.add]
theorem number_yes (p : Nat) (go : Option Nat) (most : Int) (bs : List Int) (x : Int) (width : Nat) (w : World) (hI : InkAt w 427 p go most bs) (hm : 0 ≤ most) (hm' : most ≤ 16777216) (hfit : (bs.length : Int) + width ≤ most)
  (hw8 : width ≤ 8) (hwide : wideB width = true) :
  Calls Tryz.prog 318 #[.pointer (some ⟨p, 0, none⟩), .int .u64 x, .int .i64 width] w fun e w' => e = .returned (.int .i64 0) ∧ InkDone w w' 427 p go most (bs ++ leB x width) := by
 obtain ⟨ao, cap, HF, h0, h1, hf⟩ := hI.open
 have hd : decide ((width : Int) ≤ most - (bs.length : Int)) = true := by simp; omega
 have HI : Hid (InkAt w 427 p go most bs) := hI
 clear hI
 go_enter Tryz.func318, Tryz.ntmps318
 go_wp2_with (first | (go_at_call 253; refine (isWidth_any _ _).mono ?_; rintro e w' ⟨rfl, rfl⟩) | (go_at_call 321; refine (takes_any p ao bs.length cap most _ _ h0 h1 hm hm' (by omega)).mono ?_; rintro e w' ⟨rfl, q, rfl⟩))
 go_loopw [16] (fun i wr => ∃ k : Nat, k ≤ width ∧ i = .int .i64 k ∧ Hid (InkDone w wr 427 p go most (bs ++ leB x k))) (fun i _ => width - (intOf i).toNat)
 case atStart => exact ⟨0, Nat.zero_le _, rfl, by have := InkDone.same HI.out q; show InkDone _ _ _ _ _ _ _; simpa [leB] using this⟩
 case round =>
  clear h0 h1 hf hd HF HI
  obtain ⟨k, hk, rfl, HD⟩ := hrel
  by_cases hlt : k < width
  ·obtain ⟨go1, i1, k1, g1⟩ := HD.out
   have HK : Hid (Keeps w wr (fun k => k = p ∨ go = some k) ∧ (go1 = go ∨ ∀ g, go1 = some g → w.heap.size ≤ g)) := ⟨k1, g1⟩
   obtain ⟨L, hL⟩ : ∃ L, L = bs ++ leB x k := ⟨_, rfl⟩
   rw [← hL] at i1
   have hNb : (L.length : Int) + (width - k) ≤ most := by rw [hL]; simp [leB_length]; omega
   have HL : Hid (L = bs ++ leB x k) := hL
   obtain ⟨ao, cap, HF, h0, h1, hf⟩ := i1.open
   obtain ⟨y, hy⟩ : ∃ y, y = x / 256 ^ k := ⟨_, rfl⟩
   have hsh : Op.shift BinOp.shr IntKind.u64 x IntKind.i64 (IntKind.i64.wrap (8 * (k : Int))) = pure (.int .u64 y) := by rw [hy]; exact shr8 x k (by omega)
   have HY : Hid (y = x / 256 ^ k) := hy
   have h0a : ∀ o, (wr.alloc o).cell? ⟨p, 0, none⟩ = some (.slice ao L.length cap) := fun o => (((Keeps.refl wr (fun _ => False)).alloc o).cell i1.lt.1 id).trans h0
   clear hy i1 k1 g1 HD hL
   go_wp2
   go_region_law (refine step_append_any _ rfl (.tmp 23) (.tmp 29) 65 65 rfl 5 (.int .u8 0) 1 Tryz.underlying65 info5 rfl _ _ _ rfl (own_alloc_drew HF.out.2.1 _) _ _ _ rfl (src_one_drew wr _ rfl) (by omega) (by omega) ?_; intro v' w1 hown' hgrow hblk; obtain ⟨ao', cap', rfl⟩ := own_form hown'; obtain ⟨c1, f1, D⟩ := InkForm.grown HF.out (by decide) (Keeps.none_alloc_drew wr _) [IntKind.u8.wrap y] hown' (by simp) (by simp) hgrow hblk; have DD : Hid (InkDone wr _ 427 p go1 most (L ++ [IntKind.u8.wrap y])) := D; clear D hown' hgrow hblk)
   all_goals
    go_wp2
    go_roundw
    case rel =>
     refine ⟨k + 1, by omega, by go_num, ?_⟩
     show InkDone _ _ _ _ _ _ _
     have e : bs ++ leB x (k + 1) = L ++ [IntKind.u8.wrap y] := by rw [leB_succ, HL.out, HY.out, u8_wrap]; simp
     rw [e]
     exact InkDone.trans HK.out.1 HK.out.2 DD.out
    case measure => simp [intOf]; omega
  obtain rfl : k = width := by omega
  go_wp2
  go_ret
  exact ⟨rfl, HD.out⟩
def OwnRow (w : World) (g : Nat) (t : TypeId) (L : List Value) : Prop := w.heap[g]? = some (.cells L.toArray t (0, 0))
theorem splice_all {α : Type} (L cs : List α) (h : cs.length = L.length) : splice L 0 cs = cs := by
 simp [splice, ← h]
def clamp (most : Int) : Int := if most < 0 then 0 else if 16777216 < most then 16777216 else most
theorem newInk_any (most : Int) (w : World) :
  Calls Tryz.prog 317 #[.int .i64 most] w fun e w' => e = .returned (.pointer (some ⟨w.heap.size, 0, none⟩)) ∧ w' = w.alloc (.cells #[.slice none 0 0, .int .i64 (clamp most)] 427) := by
 by_cases h1 : most < 0
 ·have e : Hid (clamp most = 0) := by show _ = _; simp [clamp, h1]
  go_enter Tryz.func317, Tryz.ntmps317
  go_wp2
  all_goals (go_ret; first | omega | exact ⟨rfl, by rw [e.out]; try rw [show min (max most 0) 16777216 = (0 : Int) by omega]⟩)
 by_cases h2 : 16777216 < most
 ·have e : Hid (clamp most = 16777216) := by show _ = _; simp [clamp, h1, h2]
  go_enter Tryz.func317, Tryz.ntmps317
  go_wp2
  all_goals (go_ret; first | omega | exact ⟨rfl, by rw [e.out]; try rw [show min (max most 0) 16777216 = (16777216 : Int) by omega]⟩)
 have e : Hid (clamp most = most) := by show _ = _; simp [clamp, h1, h2]
 go_enter Tryz.func317, Tryz.ntmps317
 go_wp2
 all_goals (go_ret; first | omega | exact ⟨rfl, by rw [e.out]; try rw [show min (max most 0) 16777216 = (most : Int) by omega]⟩)
theorem InkAt.new (w : World) (ty : Nat) (most : Int) : InkAt (w.alloc (.cells #[.slice none 0 0, .int .i64 most] ty)) ty w.heap.size none most [] :=
 ⟨.slice none 0 0, heap_alloc_new w _, World.ownsRow_nil _ _ _ _, rfl⟩
theorem bytes_any (p : Nat) (go : Option Nat) (most : Int) (bs : List Int) (w : World) (hI : InkAt w 427 p go most bs) (hbs : bs.length ≤ 16777216) :
  Calls Tryz.prog 319 #[.pointer (some ⟨p, 0, none⟩)] w fun e w' => e = .returned (.slice (some ⟨w.heap.size, 0, none⟩) bs.length bs.length) ∧ OwnRow w' w.heap.size 5 (bs.map (Value.int .u8)) ∧ Below w.heap.size w w' := by
 obtain ⟨ao, cap, HF, h0, h1, hf⟩ := hI.open
 have h0a : ∀ o, (w.alloc o).cell? ⟨p, 0, none⟩ = some (.slice ao bs.length cap) := fun o => (((Keeps.refl w (fun _ => False)).alloc o).cell hI.lt.1 id).trans h0
 clear hI
 have hmk := run_make_row' (P := Tryz.prog) 65 5 (.int .u8 0) 1 Tryz.underlying65 info5 rfl .i64 .i64 bs.length (by omega) (by omega)
 obtain ⟨cs, hcs⟩ : ∃ cs : List Value, cs = bs.map (Value.int .u8) := ⟨_, rfl⟩
 have HC : Hid (cs = bs.map (Value.int .u8)) := hcs
 clear hcs
 obtain ⟨cur, hcur⟩ : ∃ cur : List Value, cur = (madeCells #[.int .u8 0] bs.length).toList := ⟨_, rfl⟩
 have HCur : Hid (cur = (madeCells #[.int .u8 0] bs.length).toList) := hcur
 clear hcur
 go_enter Tryz.func319, Tryz.ntmps319
 go_wp2_with (with_reducible show wpList Tryz.prog _ _ (Oper.mk (some 15) _ _ _ _ _ :: _) _ _; refine wpList_copy_splice rfl (.tmp 10) (.tmp 14) 65 65 rfl 5 Tryz.underlying65 size5 _ _ _ _ _ _ rfl rfl w.heap.size 0 cur 5 ?hg cs ?hn ?hpos ?hfit ?h1 w.heap.size w ?hb (Nat.le_refl _) ?_)
 case hg => rw [HCur.out]; simpa using heap_alloc_new w _
 case hn => rw [HC.out]; simp
 case hpos =>
  intro hp
  have hown := HF.out.2.1
  rw [HC.out]
  rcases hown.2 with ⟨h, h'⟩ | ⟨g, cap', cur', h, _⟩
  ·rw [HC.out] at hp; simp [h'] at hp
  simp only [Value.slice.injEq] at h
  refine ⟨⟨g, 0, none⟩, h.1, fun j v hj => ?_⟩
  have hc := hown.cells (g := g) (by simp [Value.ownBlock, h.1]) j v hj
  exact ((Keeps.refl w (fun _ => False)).alloc _).cell' hc id
 case hfit => rw [HC.out, HCur.out]; simp [size_madeCells]
 case h1 =>
  intro v hv
  rw [HC.out] at hv
  obtain ⟨z, _, rfl⟩ := List.mem_map.1 hv
  rfl
 case hb => exact (Below.refl _ _).alloc (Nat.le_refl _) _
 intro w1 HG1 hB1
 have HO : Hid (OwnRow w1 w.heap.size 5 (bs.map (Value.int .u8))) := by
  have := HG1.out
  rw [splice_all _ _ (by rw [HC.out, HCur.out]; simp [size_madeCells]), HC.out] at this
  exact this
 clear HG1
 go_wp2
 go_ret
 exact ⟨rfl, HO.out, hB1⟩
end Go.Proofs.YthhpamhfnpacpaaGreatDoor.Ink
namespace Go.Proofs.YthhpamhfnpacpaaGreatDoor.Bits
open Go.Proofs.YthhpamhfnpacpaaGreatDoor.Kit
open Go.RowKit
theorem bits_or8 (a b : Nat) (ha : a < 256) (hb : b < 256) : bits .or .u8 (a : Int) (b : Int) = ((a ||| b : Nat) : Int) := (bits_nat .u8 8 (by decide) wraps_u8 a b (by simpa using ha) (by simpa using hb)).2
def cnt (k : Nat) : Nat := [0, 1, 1, 2, 1, 2, 2, 3, 1, 2, 2, 3, 2, 3, 3, 4].getD k 0
def onesOf (c : Nat) : Nat := cnt (c % 16) + cnt (c / 16)
def hold (c : Nat) (on : Bool) : Bool := if on then decide (0 < onesOf c) else decide (onesOf c < 8)
def byteOf (g : Nat → Bool) : Nat := (g 0).toNat + 2 * (g 1).toNat + 4 * (g 2).toNat + 8 * (g 3).toNat + 16 * (g 4).toNat + 32 * (g 5).toNat + 64 * (g 6).toNat + 128 * (g 7).toNat
theorem byteOf_bits : ∀ b0 b1 b2 b3 b4 b5 b6 b7 : Bool, ∀ k, k < 8 → (b0.toNat + 2 * b1.toNat + 4 * b2.toNat + 8 * b3.toNat + 16 * b4.toNat + 32 * b5.toNat + 64 * b6.toNat + 128 * b7.toNat).testBit k = [b0, b1, b2, b3, b4, b5, b6, b7].getD k false := by decide +kernel
theorem byteOf_lt (g : Nat → Bool) : byteOf g < 256 := by
 unfold byteOf
 have h : ∀ b : Bool, b.toNat ≤ 1 := by decide
 have := h (g 0); have := h (g 1); have := h (g 2); have := h (g 3); have := h (g 4); have := h (g 5); have := h (g 6); have := h (g 7)
 omega
theorem testBit_byteOf (g : Nat → Bool) (k : Nat) (hk : k < 8) : (byteOf g).testBit k = g k := by
 unfold byteOf
 rw [byteOf_bits _ _ _ _ _ _ _ _ k hk]
 match k, hk with
 | 0, _ => rfl
 | 1, _ => rfl
 | 2, _ => rfl
 | 3, _ => rfl
 | 4, _ => rfl
 | 5, _ => rfl
 | 6, _ => rfl
 | 7, _ => rfl
theorem byte_ext {x y : Nat} (hx : x < 256) (hy : y < 256) (h : ∀ k, k < 8 → x.testBit k = y.testBit k) : x = y := by
 apply Nat.eq_of_testBit_eq
 intro k
 by_cases hk : k < 8
 ·exact h k hk
 have e : (256 : Nat) ≤ 2 ^ k := Nat.pow_le_pow_right (n := 2) (by decide) (show 8 ≤ k by omega)
 rw [Nat.testBit_lt_two_pow (Nat.lt_of_lt_of_le hx e), Nat.testBit_lt_two_pow (Nat.lt_of_lt_of_le hy e)]
theorem byteOf_ext {x : Nat} {g : Nat → Bool} (hx : x < 256) (h : ∀ k, k < 8 → x.testBit k = g k) : x = byteOf g :=
 byte_ext hx (byteOf_lt g) fun k hk => by rw [h k hk, testBit_byteOf g k hk]
theorem byteOf_congr {g g' : Nat → Bool} (h : ∀ k, k < 8 → g k = g' k) : byteOf g = byteOf g' := by
 unfold byteOf
 rw [h 0 (by decide), h 1 (by decide), h 2 (by decide), h 3 (by decide), h 4 (by decide), h 5 (by decide), h 6 (by decide), h 7 (by decide)]
def pb (f : Nat → Bool) (i j : Nat) : Nat := byteOf fun k => decide (8 * j + k < i) && f (8 * j + k)
theorem pb_lt (f : Nat → Bool) (i j : Nat) : pb f i j < 256 := byteOf_lt _
theorem pb_zero (f : Nat → Bool) (j : Nat) : pb f 0 j = 0 := by simp [pb, byteOf]
theorem pb_bit (f : Nat → Bool) (i j k : Nat) (hk : k < 8) : (pb f i j).testBit k = (decide (8 * j + k < i) && f (8 * j + k)) := testBit_byteOf _ k hk
theorem pb_skip {f : Nat → Bool} {i : Nat} (h : f i = false) (j : Nat) : pb f (i + 1) j = pb f i j := byteOf_congr fun k _ => by
 by_cases e : 8 * j + k = i
 ·rw [e, h]; simp
 congr 1; simp; omega
theorem pb_other {f : Nat → Bool} {i j : Nat} (h : j ≠ i / 8) : pb f (i + 1) j = pb f i j := byteOf_congr fun k hk => by
 congr 1; simp; omega
theorem pb_or {f : Nat → Bool} {i : Nat} (h : f i = true) : pb f i (i / 8) ||| 2 ^ (i % 8) = pb f (i + 1) (i / 8) := by
 have hp : 2 ^ (i % 8) < 2 ^ 8 := Nat.pow_lt_pow_right (by decide) (by omega)
 refine byteOf_ext (Nat.or_lt_two_pow (n := 8) (pb_lt f i _) hp) fun k hk => ?_
 rw [Nat.testBit_or, pb_bit _ _ _ _ hk, Nat.testBit_two_pow]
 by_cases e : i % 8 = k
 ·have : 8 * (i / 8) + k = i := by omega
  rw [this, h]; simp [e]
 have : 8 * (i / 8) + k ≠ i := by omega
 simp only [e, decide_false, Bool.or_false]
 congr 1; simp; omega
def need (n : Nat) : Nat := (n + 7) / 8
def mk (f : Nat → Bool) (n : Nat) : List Nat := (List.range (need n)).map (pb f n)
def cn (f : Nat → Bool) : Nat → Nat
 | 0 => 0
 | n + 1 => cn f n + (f n).toNat
open Go.RowKit Go.Deep
def Tab (w : World) : Prop := ∀ k, k < 16 → w.cell? ⟨3, k, none⟩ = some (.int .u8 (cnt k : Nat))
theorem need_neg (m : Int) (h : m ≤ 0) (w : World) : Calls Tryz.prog 153 #[.int .i64 m] w fun e w' => e = .returned (.int .i64 0) ∧ w = w' := by
 go_enter Tryz.func153, Tryz.ntmps153
 go_wp2
 all_goals first | (go_ret; exact ⟨rfl, rfl⟩) | (exfalso; simp at *; omega)
theorem need_pos (m : Nat) (h : m ≤ 9223372036854775807) (w : World) : Calls Tryz.prog 153 #[.int .i64 m] w fun e w' => e = .returned (.int .i64 (need m : Nat)) ∧ w = w' := by
 by_cases h0 : m = 0
 ·subst h0; exact need_neg 0 (by omega) w
 go_enter Tryz.func153, Tryz.ntmps153
 go_wp2
 all_goals first | (go_ret; exact ⟨by simp [need]; omega, rfl⟩) | (exfalso; simp at *; omega) | trace_state
def New (w w' : World) (t : Nat) (v : Value) (xs : List Value) : Prop :=
 w'.ownsRow 0 t 1 v xs.length xs ∧ (∀ g, v.ownBlock = some g → w.heap.size ≤ g) ∧ Keeps w w' (fun _ => False)
theorem New.ofRow {w w' : World} {G t n : Nat} {F : Nat → Value} {xs : List Value} (h : w'.rowIs G t n F) (hG : w.heap.size ≤ G) (k : Keeps w w' (fun _ => False)) (hn : n ≤ maxLen) (hx : xs.length = n) (hF : ∀ j, j < n → xs[j]? = some (F j)) :
  New w w' t (.slice (some ⟨G, 0, none⟩) n n) xs := by
 obtain ⟨c, hc, hs, hv⟩ := h
 refine ⟨⟨by simp, .inr ⟨G, n, c, by rw [hx], Nat.zero_le _, hc, by rw [hx]; exact Nat.le_refl _, hn, by rw [hs]; simp, ?_⟩⟩, fun g hg => by simp [Value.ownBlock] at hg; omega, k⟩
 apply List.ext_getElem?
 intro j
 by_cases hj : j < n
 ·have := hF j hj
  simp only [Array.getElem?_toList, List.getElem?_take, hx, Nat.mul_one, hj, if_pos, hv j hj, this]
 rw [List.getElem?_eq_none (by simp; omega), List.getElem?_eq_none (by omega)]
def BoolsAt (w : World) (ao : Option Addr) (n : Nat) (f : Nat → Bool) : Prop :=
 0 < n → ∃ b off, ao = some ⟨b, off, none⟩ ∧ ∀ k, k < n → w.cell? ⟨b, off + k, none⟩ = some (.bool (f k))
theorem info5 : (Tryz.prog.info? 5).map (fun i => (i.zero, i.size, i.bytes)) = some (some (.int .u8 0), 1, 1) := by kernel_rfl
theorem info4 : (Tryz.prog.info? 4).map (fun i => (i.zero, i.size, i.bytes)) = some (some (.bool false), 1, 1) := by kernel_rfl
theorem or8 (x k : Nat) (hx : x < 256) (hk : k < 8) : bits .or .u8 (x : Int) (2 ^ k % 256) = ((x ||| 2 ^ k : Nat) : Int) := by
 have hp : 2 ^ k < 2 ^ 8 := Nat.pow_lt_pow_right (by decide) hk
 have e : ((2 : Int) ^ k % 256) = ((2 ^ k : Nat) : Int) := by
  have : (2 ^ k : Nat) % 256 = 2 ^ k := Nat.mod_eq_of_lt hp
  rw [← this]; simp
 rw [e, bits_or8 x (2 ^ k) hx hp]
def Building (w wr : World) (G t n : Nat) (F : Nat → Value) : Prop := wr.rowIs G t n F ∧ w.heap.size ≤ G ∧ Keeps w wr (fun _ => False)
theorem Building.start (w : World) (z : Value) (t n : Nat) (F : Nat → Value) (hF : ∀ j, j < n → F j = z) : Building w (w.alloc (.cells (madeCells #[z] n) t)) w.heap.size t n F :=
 ⟨(World.rowIs_made w z n t).congr fun j hj => (hF j hj).symm, Nat.le_refl _, (Keeps.refl _ _).alloc _⟩
theorem Building.set {w wr : World} {G t n : Nat} {F F' : Nat → Value} (h : Building w wr G t n F) (i : Nat) (v : Value) (e : ∀ j, j < n → F' j = if j = i then v else F j) : Building w (wr.setCell ⟨G, i, none⟩ v) G t n F' :=
 ⟨(h.1.set i v).congr fun j hj => (e j hj).symm, h.2.1, h.2.2.setCell (p := ⟨G, i, none⟩) (fun hh => by have := h.2.1; simp at hh; omega) _⟩
theorem Building.congr {w wr : World} {G t n : Nat} {F F' : Nat → Value} (h : Building w wr G t n F) (e : ∀ j, j < n → F' j = F j) : Building w wr G t n F' := ⟨h.1.congr fun j hj => (e j hj).symm, h.2⟩
theorem Building.drew {w wr : World} {G t n : Nat} {F : Nat → Value} (h : Building w wr G t n F) : Building w wr.drew G t n F := ⟨h.1, h.2.1, h.2.2.drew⟩
theorem make_any (ao : Option Addr) (n ca : Nat) (f : Nat → Bool) (hn : n ≤ 100000000) (w : World) (hb : BoolsAt w ao n f) :
  Calls Tryz.prog 308 #[.slice ao n ca] w fun e w' => ∃ v, e = .returned v ∧ New w w' 5 v ((mk f n).map fun x : Nat => .int .u8 x) := by
 have hnd : need n ≤ 100000000 := by unfold need; omega
 have hmk := run_make_row' (P := Tryz.prog) 65 5 (.int .u8 0) 1 Tryz.underlying65 info5 rfl .i64 .i64 (need n) (by omega) (by omega)
 go_enter Tryz.func308, Tryz.ntmps308
 go_wp2_with (go_at_call 153; refine (need_pos n (by omega) _).mono ?_; rintro e w' ⟨rfl, rfl⟩)
 have HB : Hid (Building w (w.alloc (.cells (madeCells #[.int .u8 0] (need n)) 5)) w.heap.size 5 (need n) fun j => .int .u8 (pb f 0 j : Nat)) := Building.start w _ 5 _ _ fun j _ => by simp [pb_zero]
 obtain ⟨G, hG⟩ : ∃ G, G = w.heap.size := ⟨_, rfl⟩
 rw [← hG] at HB ⊢
 clear hmk hG
 go_loopw [12] (fun i wr => ∃ k : Nat, k ≤ n ∧ i = .int .i64 k ∧ Hid (Building w wr G 5 (need n) fun j => .int .u8 (pb f k j : Nat))) (fun i _ => n - (intOf i).toNat)
 case atStart => exact ⟨0, by omega, rfl, HB⟩
 case round =>
  clear HB
  obtain ⟨k, hk, rfl, HB⟩ := hrel
  by_cases hlt : k < n
  ·obtain ⟨b, off, rfl, hcs⟩ := hb (by omega)
   have hc : wr.cell? ⟨b, off + k, none⟩ = some (.bool (f k)) := HB.out.2.2.cell' (hcs k hlt) id
   have h8 : k / 8 < need n := by unfold need; omega
   have hx := HB.out.1.cell h8
   have hfz := HB.out.1.frozen (k / 8)
   cases hf : f k
   ·rw [hf] at hc
    have HB' : Hid (Building w wr G 5 (need n) fun j => .int .u8 (pb f (k + 1) j : Nat)) := HB.out.congr fun j _ => by rw [pb_skip hf]
    clear HB hx hfz hcs hb
    go_wp2
    go_roundw
    case rel => exact ⟨k + 1, by omega, by go_num, HB'⟩
    case measure => simp [intOf]; omega
   rw [hf] at hc
   have hxl := pb_lt f k (k / 8)
   have HX := pb_or hf
   obtain ⟨x, hx'⟩ : ∃ x, x = pb f k (k / 8) := ⟨_, rfl⟩
   rw [← hx'] at hx hxl HX
   have e := or8 x (k % 8) hxl (by omega)
   rw [HX] at e
   have HB' : Hid (Building w (wr.setCell ⟨G, k / 8, none⟩ (.int .u8 (bits .or .u8 (x : Int) (2 ^ (k % 8) % 256)))).drew G 5 (need n) fun j => .int .u8 (pb f (k + 1) j : Nat)) := by
    refine (HB.out.set (k / 8) _ fun j _ => ?_).drew
    by_cases hj : j = k / 8
    ·rw [if_pos hj, e, hj]
    rw [if_neg hj, pb_other hj]
   clear hcs hb hx' HB HX e
   go_wp2
   go_region
   go_wp2
   go_roundw
   case rel => exact ⟨k + 1, by omega, by go_num, HB'⟩
   case measure => simp [intOf]; omega
  obtain rfl : k = n := by omega
  have HN : Hid (New w wr 5 (.slice (some ⟨G, 0, none⟩) (need k) (need k)) ((mk f k).map fun x : Nat => .int .u8 x)) :=
   New.ofRow HB.out.1 HB.out.2.1 HB.out.2.2 (by simp [maxLen]; omega) (by simp [mk]) (fun j hj => by simp [mk, hj])
  clear HB hb
  go_wp2
  go_ret
  exact ⟨_, rfl, HN.out⟩
def bools (f : Nat → Bool) (fr n : Nat) : List Value := (List.range n).map fun k => .bool (f (fr + k))
end Go.Proofs.YthhpamhfnpacpaaGreatDoor.Bits
namespace Go.Proofs.YthhpamhfnpacpaaGreatDoor.Kit
variable {nx : Bool}
open Go.RowKit Go.Shelf Go.Deep
open Kd (Ans cell5 cell2)
open Go.Proofs.YthhpamhfnpacpaaGreatDoor.Ink (InkAt InkDone newInk_any number_yes bytes_any leB leB_length OwnRow)
attribute [local go_sem] run_store_func
def leAll (xs : List Int) : List Int := xs.flatMap fun x => leB (IntKind.u64.wrap x) 1
theorem leAll_len (xs : List Int) : (leAll xs).length = xs.length := by
 induction xs with
 | nil => rfl
 | cons x xs ih => show (leB _ 1 ++ leAll xs).length = _; rw [List.length_append, leB_length, ih, List.length_cons]; omega
theorem leAll_snoc (xs : List Int) (x : Int) : leAll (xs ++ [x]) = leAll xs ++ leB (IntKind.u64.wrap x) 1 := by simp [leAll]
def iv (x : Int) : Value := .int .i64 x
theorem row_cell {W : World} {e n : Nat} {lo : Option Addr} {lc : Nat} {ys : List Value} (h : W.ownsRow 0 e 1 (.slice lo n lc) n ys) {k : Nat} (hk : k < n) : ∃ g, lo = some ⟨g, 0, none⟩ ∧ W.cell? ⟨g, k, none⟩ = ys[k]? := by
 rcases h.2 with ⟨h1, h2⟩ | ⟨g, cap, cur, h1, _, hg, hn, _, hs, ht⟩
 ·omega
 cases h1
 refine ⟨g, rfl, ?_⟩
 rw [← ht]
 simp [World.cell?, hg, hk]
theorem row_len {W : World} {e n : Nat} {v : Value} {ys : List Value} (h : W.ownsRow 0 e 1 v n ys) : ys.length = n := by
 rcases h.2 with ⟨h1, h2⟩ | ⟨g, cap, cur, h1, _, hg, hn, _, hs, ht⟩
 ·have := h.1; omega
 have := congrArg List.length ht; simp at this; omega
def NkI (W wr : World) (xs : List Int) (k : Nat) : Prop := ∃ go, InkAt wr 427 W.heap.size go 65536 (leAll (xs.take k)) ∧ Gr W wr ∧ ∀ g, go = some g → W.heap.size ≤ g
theorem numbered263 (lo : Option Addr) (lc : Nat) (xs : List Int) (W : World) (ho : W.ownsRow 0 2 1 (.slice lo xs.length lc) xs.length (xs.map iv)) (hL : xs.length ≤ 4096) :
  Calls Tryz.prog 392 #[.slice lo xs.length lc, .int .i64 1] W fun e w' => ∃ g, e = .returned (.slice (some ⟨g, 0, none⟩) (xs.length) (xs.length)) ∧ Gr W w' ∧ W.heap.size ≤ g ∧ OwnRow w' g 5 ((leAll xs).map (Value.int .u8)) := by
 obtain ⟨n, hn⟩ : ∃ n, n = xs.length := ⟨_, rfl⟩
 rw [← hn] at ho hL ⊢
 have HO := hidM ho
 have Hn := hidM hn
 have hcl : Ink.clamp 65536 = 65536 := by decide
 have HI : Hid (NkI W (W.alloc (.cells #[.slice none 0 0, .int .i64 65536] 427)) xs 0) := ⟨none, Ink.InkAt.new W 427 65536, gr_alloc W _, fun g e => by cases e⟩
 clear ho hn
 go_enter Tryz.func392, Tryz.ntmps392
 go_wp2_with (go_at_call 317; refine (newInk_any 65536 _).mono ?_; rintro e w1 ⟨rfl, rfl⟩; rw [hcl])
 go_loopw [11] (fun i wr => ∃ k : Nat, k ≤ n ∧ i = .int .i64 k ∧ Hid (NkI W wr xs k)) (fun i _ => n - (intOf i).toNat)
 case atStart => exact ⟨0, by omega, rfl, HI⟩
 case round =>
  clear HI
  obtain ⟨k, hk, rfl, HI⟩ := hrel
  by_cases hlt : k < n
  ·obtain ⟨g, rfl, hc⟩ := row_cell HO.out hlt
   have hxk : k < xs.length := by have := Hn.out; omega
   obtain ⟨y, hy⟩ : ∃ y, xs[k]? = some y := ⟨_, List.getElem?_eq_getElem hxk⟩
   have hc' : wr.cell? ⟨g, k, none⟩ = some (.int .i64 y) := by
    obtain ⟨go, _, hgr, _⟩ := HI.out
    rw [List.getElem?_map, hy] at hc
    exact hgr.cell' hc id
   have HN : Hid (Calls Tryz.prog 318 #[.pointer (some ⟨W.heap.size, 0, none⟩), .int .u64 (IntKind.u64.wrap y), .int .i64 1] wr fun e w' => e = .returned (.int .i64 0) ∧ NkI W w' xs (k + 1)) := by
    obtain ⟨go, hI, hgr, hgo⟩ := HI.out
    have hlen := leAll_len (xs.take k)
    rw [List.length_take] at hlen
    refine (number_yes W.heap.size go 65536 (leAll (xs.take k)) (IntKind.u64.wrap y) 1 wr hI (by decide) (by decide) (by have := Hn.out; omega) (by decide) (by decide)).mono ?_
    rintro e w' ⟨rfl, go', hI', hk', hb⟩
    refine ⟨rfl, go', ?_, hgr.trans hk' (fun j hj e => ?_), fun q e => ?_⟩
    ·rw [List.take_add_one, hy]
     show InkAt w' 427 W.heap.size go' 65536 (leAll (xs.take k ++ [y]))
     rw [leAll_snoc]
     exact hI'
    ·rcases e with e | e
     ·have e' : j = W.heap.size := e; omega
     have := hgo j e; omega
    rcases hb with e2 | e2
    ·exact hgo q (e2 ▸ e)
    exact Nat.le_trans hgr.size (e2 q e)
   clear hc hy hxk HI
   go_wp2_with (go_at_call 318; refine HN.out.mono ?_; rintro e w2 ⟨rfl, hq⟩; have HQ := hidM hq; clear hq)
   go_roundw
   case rel => exact ⟨k + 1, by omega, by go_num, HQ⟩
   case measure => simp [intOf]; omega
  obtain rfl : k = n := by omega
  have HB : Hid (Calls Tryz.prog 319 #[.pointer (some ⟨W.heap.size, 0, none⟩)] wr fun e w' => ∃ g, e = .returned (.slice (some ⟨g, 0, none⟩) (k) (k)) ∧ Gr W w' ∧ W.heap.size ≤ g ∧ OwnRow w' g 5 ((leAll xs).map (Value.int .u8))) := by
   obtain ⟨go, hI, hgr, hgo⟩ := HI.out
   have hkn := Hn.out
   rw [hkn, List.take_length] at hI
   have hlen := leAll_len xs
   refine (bytes_any W.heap.size go 65536 (leAll xs) wr hI (by omega)).mono ?_
   rintro e w' ⟨rfl, hr, hb⟩
   refine ⟨wr.heap.size, by rw [hlen, hkn], hgr.trans (Keeps.ofBelow hb) (fun j hj e => ?_), hgr.size, hr⟩
   have := hgr.size
   omega
  clear HI HO
  go_wp2_with (go_at_call 319; refine HB.out.mono ?_; rintro e w2 ⟨g, rfl, hq⟩; have HQ := hidM hq; clear hq)
  go_ret
  exact ⟨g, rfl, HQ.out⟩
open Go.Proofs.YthhpamhfnpacpaaGreatDoor.Ink (OwnRow)
def offs (l : List Bool) : Nat := (l.filter (! ·)).length
theorem offs_snoc (l : List Bool) (b : Bool) : offs (l ++ [b]) = offs l + (if b = true then 0 else 1) := by
 unfold offs
 cases b <;> simp
theorem offs_le (l : List Bool) : offs l ≤ l.length := List.length_filter_le _ _
def dC (L nulls : Int) (bv : Value) : Array Value := #[.int .i64 L, .int .i64 0, .int .i64 nulls, bv, .slice none 0 0, .slice none 0 0]
def MkI (A wr : World) (d n : Nat) (bs : List Bool) (k : Nat) : Prop := wr.heap[d]? = some (.cells (dC n (offs (bs.take k)) (.slice none 0 0)) 68) ∧ Keeps A wr (fun z => z = d)
theorem info38 : (Tryz.prog.info? 65).map (fun i => (i.zero, i.size, i.bytes)) = some (some (.slice none 0 0), 1, 24) := by kernel_rfl
def MaskQ (W w' : World) (bs : List Bool) (v : Value) : Prop := if offs bs = 0 then v = .slice none 0 0 else Bits.New W w' 5 v ((Bits.mk (fun j => bs.getD j false) bs.length).map fun x : Nat => .int .u8 x)
def mkU (w4 : World) (r n N : Nat) (bv : Value) : World := setAll w4 r [(0, .int .i64 n), (1, .int .i64 0), (2, .int .i64 N), (3, bv), (4, .slice none 0 0), (5, .slice none 0 0)]
structure MTail (W A w1 : World) (n N q : Nat) (val nb : Value) : Prop where
 own : (w1.alloc (.cells #[val] 65)).ownsRow 0 65 1 (.slice (some ⟨w1.heap.size, 0, none⟩) 1 1) 1 [val]
 src : Src Tryz.prog 1 66 (.slice (some ⟨q, 0, none⟩) 1 1) 1 [nb] (w1.alloc (.cells #[val] 65))
 nxt : ∀ w3 uo uc, w3.ownsRow 0 65 1 (.slice uo 2 uc) 2 [val, nb] → (w1.alloc (.cells #[val] 65)).grownBy w3 (Value.slice (some ⟨w1.heap.size, 0, none⟩) 1 1).ownBlock → ((Value.slice uo 2 uc).ownBlock = (Value.slice (some ⟨w1.heap.size, 0, none⟩) 1 1).ownBlock ∨ ∀ g, (Value.slice uo 2 uc).ownBlock = some g → (w1.alloc (.cells #[val] 65)).heap.size ≤ g) →
  w3.heap[W.heap.size + 1]? = some (.cells (dC n N (.slice none 0 0)) 68) ∧ (w3.setCell ⟨W.heap.size + 1, 3, none⟩ (.slice uo 2 uc)).heap[W.heap.size + 1]? = some (.cells (dC n N (.slice uo 2 uc)) 68) ∧ (w3.setCell ⟨W.heap.size + 1, 3, none⟩ (.slice uo 2 uc)).heap[W.heap.size]? = some (.cells (dC 0 0 (.slice none 0 0)) 68) ∧
  (mkU (w3.setCell ⟨W.heap.size + 1, 3, none⟩ (.slice uo 2 uc)) W.heap.size n N (.slice uo 2 uc)).heap[W.heap.size]? = some (.cells (dC n N (.slice uo 2 uc)) 68) ∧
  Keeps w1 (mkU (w3.setCell ⟨W.heap.size + 1, 3, none⟩ (.slice uo 2 uc)) W.heap.size n N (.slice uo 2 uc)) (fun z => z = W.heap.size ∨ z = W.heap.size + 1) ∧
  (mkU (w3.setCell ⟨W.heap.size + 1, 3, none⟩ (.slice uo 2 uc)) W.heap.size n N (.slice uo 2 uc)).ownsRow 0 65 1 (.slice uo 2 uc) 2 [val, nb] ∧ ∀ g, (Value.slice uo 2 uc).ownBlock = some g → W.heap.size ≤ g
theorem mask_tail {W A w1 : World} {n N q : Nat} {val nb : Value} (gA : Gr W A) (hsz : A.heap.size = W.heap.size + 2) (hr0 : A.heap[W.heap.size]? = some (.cells (dC 0 0 (.slice none 0 0)) 68)) (hk : Keeps A w1 (fun z => z = W.heap.size + 1)) (hd : w1.heap[W.heap.size + 1]? = some (.cells (dC n N (.slice none 0 0)) 68)) (hq : W.heap[q]? = some (.cells #[nb] 65)) (hnb : nb.oneCell' = true) : MTail W A w1 n N q val nb := by
 have hs1 := hk.size
 have hr1 := (hk.block W.heap.size (by omega) (by omega)).trans hr0
 have hq1 : w1.heap[q]? = some (.cells #[nb] 65) := by
  have hl := lt_of_heap hq
  exact (hk.block q (by omega) (by omega)).trans ((gA.block q hl id).trans hq)
 have g2 := gr_alloc w1 (.cells #[val] 65)
 refine ⟨⟨rfl, .inr ⟨w1.heap.size, 1, #[val], rfl, Nat.zero_le _, heap_alloc_new w1 _, Nat.le_refl _, by decide, rfl, rfl⟩⟩, ?_, ?_⟩
 ·refine Src.ofSlice (w := w1.alloc (.cells #[val] 65)) Tryz.underlying66 ⟨q, 0, none⟩ 1 1 [nb] rfl (fun j v hj => ?_) (fun v hv => by simp at hv; subst hv; exact hnb)
  cases j with
  | zero =>
   cases hj
   have hh := (g2.block q (lt_of_heap hq1) id).trans hq1
   show (w1.alloc (.cells #[val] 65)).cell? ⟨q, 0, none⟩ = some nb
   unfold World.cell?
   rw [hh]
   rfl
  | succ j => simp at hj
 intro w3 uo uc ha1 ha2 ha3
 have hk3 : Keeps w1 w3 (fun _ => False) := g2.trans (Keeps.ofGrown ha2) (fun j hj e => by simp [Value.ownBlock] at e; omega)
 have hd3 := (hk3.block _ (lt_of_heap hd) id).trans hd
 have hr3 := (hk3.block _ (lt_of_heap hr1) id).trans hr1
 have hk4 : Keeps w3 (w3.setCell ⟨W.heap.size + 1, 3, none⟩ (.slice uo 2 uc)) (fun z => z = W.heap.size ∨ z = W.heap.size + 1) := Keeps.setCell (p := ⟨W.heap.size + 1, 3, none⟩) (Keeps.refl w3 _) (fun _ => .inr rfl) _
 have hd4 : (w3.setCell ⟨W.heap.size + 1, 3, none⟩ (.slice uo 2 uc)).heap[W.heap.size + 1]? = some (.cells (dC n N (.slice uo 2 uc)) 68) := by rw [heap_setCell_same w3 _ 3 _ _ _ hd3]; rfl
 have hr4 : (w3.setCell ⟨W.heap.size + 1, 3, none⟩ (.slice uo 2 uc)).heap[W.heap.size]? = some (.cells (dC 0 0 (.slice none 0 0)) 68) := (heap_setCell_other _ _ _ _ (show W.heap.size ≠ W.heap.size + 1 by omega)).trans hr3
 have hkU : Keeps (w3.setCell ⟨W.heap.size + 1, 3, none⟩ (.slice uo 2 uc)) (mkU (w3.setCell ⟨W.heap.size + 1, 3, none⟩ (.slice uo 2 uc)) W.heap.size n N (.slice uo 2 uc)) (fun z => z = W.heap.size ∨ z = W.heap.size + 1) := (setAll_kp _ _ _).mono (fun _ _ e => .inl e)
 have hk3U := Keeps.trans hk4 hkU (fun _ _ e => e)
 refine ⟨hd3, hd4, hr4, ?_, Keeps.trans (hk3.mono (fun _ _ e => e.elim)) hk3U (fun _ _ e => e), row_kp ha1 fun g e => hk3U.block g (own_lt ha1 g e) (fun e2 => ?_), fun g e => ?_⟩
 ·rw [show mkU (w3.setCell ⟨W.heap.size + 1, 3, none⟩ (.slice uo 2 uc)) W.heap.size n N (.slice uo 2 uc) = setAll (w3.setCell ⟨W.heap.size + 1, 3, none⟩ (.slice uo 2 uc)) W.heap.size _ from rfl, setAll_blk W.heap.size 68 _ _ _ hr4]
  simp [setsA, dC]
 ·rcases e2 with rfl | rfl
  ·exact own_ne hr3 ha1 (by decide) e
  exact own_ne hd3 ha1 (by decide) e
 rcases ha3 with e2 | e2
 ·rw [e2] at e
  simp [Value.ownBlock] at e
  omega
 have := e2 g e
 have := g2.size
 omega
theorem results_cell31 {fn : Func} {t : Tmp} {tmps : Array Value} {g : Nat} {cs : Array Value} {w : World} (h : fn.results = #[.cell t 68]) (ht : tmps.getD t undef = .pointer (some ⟨g, 0, none⟩)) (hg : w.heap[g]? = some (.cells cs 68 (0, 0))) (hi : (Tryz.prog.info? 68).map (·.size) = some cs.size) :
  (results fn tmps).run Tryz.prog w = .ok (.agg cs) w := by
 have hl := run_loadVar_row (P := Tryz.prog) w g 68 68 cs (0, 0) _ hg Tryz.underlying68 rfl hi
 unfold results
 rw [h]
 simp only [Array.mapM_eq_mapM_toList, List.mapM_cons, List.mapM_nil, ht]
 simp [asAddr, hl]
theorem new_form {w w' : World} {t : Nat} {v : Value} {xs : List Value} (h : Bits.New w w' t v xs) : ∃ o l c, v = .slice o l c := by
 obtain ⟨o, c, e⟩ := own_formN h.1
 exact ⟨o, _, c, e⟩
theorem masked171 (vo : Option Addr) (vc : Nat) (bs : List Bool) (q : Nat) (nb : Value) (W : World) (hv : W.ownsRow 0 4 1 (.slice vo bs.length vc) bs.length (bs.map Value.bool)) (hL : bs.length ≤ 4096) (hq : W.heap[q]? = some (.cells #[nb] 65)) (hnb : nb.oneCell' = true) :
  Calls Tryz.prog 307 #[.slice vo bs.length vc, .slice (some ⟨q, 0, none⟩) 1 1] W fun e w' => ∃ bo bc val, e = .returned (.agg (dC bs.length (offs bs) (.slice bo 2 bc))) ∧ Gr W w' ∧ MaskQ W w' bs val ∧ w'.ownsRow 0 65 1 (.slice bo 2 bc) 2 [val, nb] ∧ ∀ g, (Value.slice bo 2 bc).ownBlock = some g → W.heap.size ≤ g := by
 obtain ⟨n, hn⟩ : ∃ n, n = bs.length := ⟨_, rfl⟩
 rw [← hn] at hv hL ⊢
 have Hn := hidM hn
 have HQ := hidM hq
 obtain ⟨A, hA⟩ := ex ((W.alloc (.cells (dC 0 0 (.slice none 0 0)) 68)).alloc (.cells (dC n 0 (.slice none 0 0)) 68))
 have gA : Gr W A := by rw [← hA]; exact (gr_alloc W _).tr (gr_alloc _ _)
 have hd0 : A.heap[W.heap.size + 1]? = some (.cells (dC n 0 (.slice none 0 0)) 68) := by
  have e2 := heap_alloc_new (W.alloc (.cells (dC 0 0 (.slice none 0 0)) 68)) (.cells (dC n 0 (.slice none 0 0)) 68)
  rw [show (W.alloc (.cells (dC 0 0 (.slice none 0 0)) 68)).heap.size = W.heap.size + 1 by simp, hA] at e2
  exact e2
 have hr0 : A.heap[W.heap.size]? = some (.cells (dC 0 0 (.slice none 0 0)) 68) := by
  have e1 := heap_alloc_new W (.cells (dC 0 0 (.slice none 0 0)) 68)
  rw [← hA]
  exact ((gr_alloc _ _).block _ (lt_of_heap e1) id).trans e1
 have hsz : A.heap.size = W.heap.size + 2 := by rw [← hA]; simp
 have HSZ := hidM hsz
 have HR0 := hidM hr0
 have HGA := hidM gA
 have HI0 : Hid (MkI A A (W.heap.size + 1) n bs 0) := ⟨hd0, Keeps.refl A _⟩
 have HVA : Hid (∀ wr, Keeps A wr (fun z => z = W.heap.size + 1) → wr.ownsRow 0 4 1 (.slice vo n vc) n (bs.map Value.bool)) := fun wr hk => row_kp hv fun g e => by
  have hlt := own_lt hv g e
  exact (hk.block g (by omega) (by omega)).trans (gA.block g hlt id)
 clear hv hn hq gA hd0 hr0 hsz
 unfold dC at hA
 have HA := hidM hA
 clear hA
 go_enter Tryz.func307, Tryz.ntmps307
 go_wp2_with fail
 rw [HA.out]
 go_loopw [14] (fun i wr => ∃ k : Nat, k ≤ n ∧ i = .int .i64 k ∧ Hid (MkI A wr (W.heap.size + 1) n bs k)) (fun i _ => n - (intOf i).toNat)
 case atStart => exact ⟨0, by omega, rfl, HI0⟩
 case round =>
  clear HI0
  obtain ⟨k, hk, rfl, HI⟩ := hrel
  by_cases hlt : k < n
  ·obtain ⟨g, rfl, hc⟩ := row_cell (HVA.out wr HI.out.2) hlt
   have hxk : k < bs.length := by have := Hn.out; omega
   obtain ⟨y, hy⟩ : ∃ y, bs[k]? = some y := ⟨_, List.getElem?_eq_getElem hxk⟩
   rw [List.getElem?_map, hy] at hc
   have hc' : wr.cell? ⟨g, k, none⟩ = some (.bool y) := hc
   have hofk : offs (bs.take (k + 1)) = offs (bs.take k) + (if y = true then 0 else 1) := by
    rw [List.take_add_one, hy]
    exact offs_snoc _ _
   have hole : offs (bs.take k) ≤ 4096 := by
    have h1 := offs_le (bs.take k)
    rw [List.length_take] at h1
    omega
   obtain ⟨N, hN⟩ := ex (offs (bs.take k))
   have hd : wr.heap[W.heap.size + 1]? = some (.cells #[.int .i64 n, .int .i64 0, .int .i64 N, .slice none 0 0, .slice none 0 0, .slice none 0 0] 68) := by rw [← hN]; exact HI.out.1
   obtain ⟨d0, d1, d2, d3, d4, d5⟩ := cell6 hd
   have z2 := frz hd 2
   have hwr : IntKind.i64.wrap (N + 1 : Int) = ((N + 1 : Nat) : Int) := by rw [IntKind.wrap_i64]; omega
   have HI2 : Hid (y = false → MkI A (wr.setCell ⟨W.heap.size + 1, 2, none⟩ (.int .i64 ((N + 1 : Nat) : Int))) (W.heap.size + 1) n bs (k + 1)) := fun hy0 => by
    refine ⟨?_, Keeps.setCell HI.out.2 (fun _ => rfl) _⟩
    rw [heap_setCell_same wr _ 2 _ _ _ hd, hofk, hN, hy0]
    rfl
   have HI1 : Hid (y = true → MkI A wr (W.heap.size + 1) n bs (k + 1)) := fun hy1 => by
    refine ⟨?_, HI.out.2⟩
    rw [hofk, if_pos hy1, Nat.add_zero]
    exact HI.out.1
   clear hc hy hxk hofk hole hN HI hd
   cases y with
   | true =>
    have HQ : Hid (MkI A wr (W.heap.size + 1) n bs (k + 1)) := HI1.out rfl
    clear HI1 HI2
    go_wp2_with fail
    go_roundw
    case rel => exact ⟨k + 1, by omega, by go_num, HQ⟩
    case measure => simp [intOf]; omega
   | false =>
    have HQ : Hid (MkI A (wr.setCell ⟨W.heap.size + 1, 2, none⟩ (.int .i64 ((N + 1 : Nat) : Int))) (W.heap.size + 1) n bs (k + 1)) := HI2.out rfl
    clear HI1 HI2
    go_wp2_with fail
    go_roundw
    case rel => exact ⟨k + 1, by omega, by go_num, HQ⟩
    case measure => simp [intOf]; omega
  obtain rfl : k = n := by omega
  have hod : offs (bs.take k) = offs bs := by rw [Hn.out, List.take_length]
  have hole : offs bs ≤ 4096 := by have h1 := offs_le bs; have h2 := Hn.out; omega
  obtain ⟨N, hN⟩ := ex (offs bs)
  have hd : wr.heap[W.heap.size + 1]? = some (.cells (dC k N (.slice none 0 0)) 68) := by rw [← hN, ← hod]; exact HI.out.1
  have hkr := HI.out.2
  have HD := hidM hd
  have HK := hidM hkr
  have HNN := hidM hN
  obtain ⟨d0, d1, d2, d3, d4, d5⟩ := cell6 hd
  clear hod hd hkr HI
  by_cases hz : N = 0
  ·have hz' : ¬ ((0 : Int) < (N : Int)) := by omega
   have HZ := hidM hz
   clear hz
   have HM := hidM (mask_tail (val := .slice none 0 0) HGA.out HSZ.out HR0.out HK.out HD.out HQ.out hnb)
   go_wp2_with (at_builtin; refine Hid.out ?_)
   unfold Hid
   refine wpList_append_any _ rfl (.tmp 31) (.tmp 32) 66 66 rfl 65 (.slice none 0 0) 24 Tryz.underlying66 info38 rfl (.slice (some ⟨wr.heap.size, 0, none⟩) 1 1) 1 [.slice none 0 0] rfl HM.out.own (.slice (some ⟨q, 0, none⟩) 1 1) 1 [nb] rfl HM.out.src (by omega) (by omega) ?_
   intro v' w3 ha1 ha2 ha3
   obtain ⟨uo, uc, rfl⟩ := own_formN ha1
   obtain ⟨k1, k2, k3, k4, k5, k6, k7⟩ := HM.out.nxt w3 uo uc ha1 ha2 ha3
   have HE := hidM (And.intro k5 (And.intro k6 k7))
   clear d0 d1 d2 d3 d4 d5 ha1 ha2 ha3 k5 k6 k7
   obtain ⟨w4, hw4⟩ := ex (w3.setCell ⟨W.heap.size + 1, 3, none⟩ (.slice uo 2 uc))
   rw [hw4] at k2 k3 k4 HE
   obtain ⟨U, hU⟩ := ex (mkU w4 W.heap.size k N (.slice uo 2 uc))
   rw [hU] at k4 HE
   simp only [mkU, setAll] at hU
   obtain ⟨d0, d1, d2, d3, d4, d5⟩ := cell6 k1
   have z3 := frz k1 3
   obtain ⟨f0, f1, f2, f3, f4, f5⟩ := cell6 k2
   obtain ⟨g0, g1, g2, g3, g4, g5⟩ := cell6 k3
   have y0 := frz k3 0
   have y1 := frz k3 1
   have y2 := frz k3 2
   have y3 := frz k3 3
   have y4 := frz k3 4
   have y5 := frz k3 5
   obtain ⟨h0, h1, h2, h3, h4, h5⟩ := cell6 k4
   clear k1 k2 k3 HM
   have HK4 := hidM k4
   clear k4
   go_wp2_with fail
   (try simp only [Exit.inBlock, Exit.then])
   refine bodyPost_ret (results_cell31 rfl rfl (by with_reducible exact HK4.out) (by kernel_rfl)) rfl ?_
   obtain ⟨k5, k6, k7⟩ := HE.out
   refine ⟨uo, uc, .slice none 0 0, by rw [HNN.out], ?_, ?_, k6, k7⟩
   ·refine (HGA.out.trans HK.out (fun j hj e => ?_)).trans k5 (fun j hj e => ?_)
    ·have e' : j = W.heap.size + 1 := e; omega
    rcases e with e | e <;> omega
   unfold MaskQ; rw [if_pos (HNN.out.trans HZ.out)]
  have hz' : ((0 : Int) < (N : Int)) := by omega
  have HB : Hid (Bits.BoolsAt wr vo k (fun j => bs.getD j false)) := fun hpos => by
   obtain ⟨g, rfl, -⟩ := row_cell (HVA.out wr HK.out) hpos
   refine ⟨g, 0, rfl, fun j hj => ?_⟩
   obtain ⟨g', e, hc⟩ := row_cell (HVA.out wr HK.out) hj
   cases e
   have hxk : j < bs.length := by have := Hn.out; omega
   rw [List.getElem?_map, List.getElem?_eq_getElem hxk] at hc
   rw [Nat.zero_add, hc]
   show _ = some (Value.bool (bs.getD j false))
   rw [List.getD_eq_getElem?_getD, List.getElem?_eq_getElem hxk]
   rfl
  go_wp2_with (first
   | (go_at_call 308; refine (Bits.make_any vo k vc _ (by omega) _ HB.out).mono ?_; rintro e w1 ⟨val, rfl, hnew⟩; obtain ⟨va, vl, vcc, rfl⟩ := new_form hnew; have HNW := hidM hnew; clear d0 d1 d2 d3 d4 d5; obtain ⟨d0, d1, d2, d3, d4, d5⟩ := cell6 ((hnew.2.2.block _ (lt_of_heap HD.out) id).trans HD.out); clear hnew)
   | (at_builtin; refine Hid.out ?_))
  have HM := hidM (mask_tail (val := .slice va vl vcc) HGA.out HSZ.out HR0.out (HK.out.trans HNW.out.2.2 (fun _ _ e => e.elim)) ((HNW.out.2.2.block _ (lt_of_heap HD.out) id).trans HD.out) HQ.out hnb)
  unfold Hid
  refine wpList_append_any _ rfl (.tmp 31) (.tmp 32) 66 66 rfl 65 (.slice none 0 0) 24 Tryz.underlying66 info38 rfl (.slice (some ⟨w1.heap.size, 0, none⟩) 1 1) 1 [.slice va vl vcc] rfl HM.out.own (.slice (some ⟨q, 0, none⟩) 1 1) 1 [nb] rfl HM.out.src (by omega) (by omega) ?_
  intro v' w3 ha1 ha2 ha3
  obtain ⟨uo, uc, rfl⟩ := own_formN ha1
  obtain ⟨k1, k2, k3, k4, k5, k6, k7⟩ := HM.out.nxt w3 uo uc ha1 ha2 ha3
  have HE := hidM (And.intro k5 (And.intro k6 k7))
  clear d0 d1 d2 d3 d4 d5 ha1 ha2 ha3 k5 k6 k7
  obtain ⟨w4, hw4⟩ := ex (w3.setCell ⟨W.heap.size + 1, 3, none⟩ (.slice uo 2 uc))
  rw [hw4] at k2 k3 k4 HE
  obtain ⟨U, hU⟩ := ex (mkU w4 W.heap.size k N (.slice uo 2 uc))
  rw [hU] at k4 HE
  simp only [mkU, setAll] at hU
  obtain ⟨d0, d1, d2, d3, d4, d5⟩ := cell6 k1
  have z3 := frz k1 3
  obtain ⟨f0, f1, f2, f3, f4, f5⟩ := cell6 k2
  obtain ⟨g0, g1, g2, g3, g4, g5⟩ := cell6 k3
  have y0 := frz k3 0
  have y1 := frz k3 1
  have y2 := frz k3 2
  have y3 := frz k3 3
  have y4 := frz k3 4
  have y5 := frz k3 5
  obtain ⟨h0, h1, h2, h3, h4, h5⟩ := cell6 k4
  clear k1 k2 k3 HM
  have HK4 := hidM k4
  clear k4
  go_wp2_with fail
  (try simp only [Exit.inBlock, Exit.then])
  refine bodyPost_ret (results_cell31 rfl rfl (by with_reducible exact HK4.out) (by kernel_rfl)) rfl ?_
  obtain ⟨k5, k6, k7⟩ := HE.out
  have hk1 := HK.out.trans HNW.out.2.2 (fun _ _ e => e.elim)
  have hgU : Gr W U := (HGA.out.trans hk1 (fun j hj (e : j = W.heap.size + 1) => by omega)).trans k5 (fun j hj e => by rcases e with e | e <;> omega)
  refine ⟨uo, uc, .slice va vl vcc, by rw [HNN.out], hgU, ?_, k6, k7⟩
  unfold MaskQ
  rw [if_neg (by rw [HNN.out]; exact hz), ← Hn.out]
  have hsA := HSZ.out
  have hsK := HK.out.size
  have hsN := HNW.out.2.2.size
  refine ⟨row_kp HNW.out.1 fun g e => k5.block g (own_lt HNW.out.1 g e) (fun e2 => ?_), fun g e => ?_, hgU⟩
  ·have := HNW.out.2.1 g e
   rcases e2 with e2 | e2 <;> omega
  have := HNW.out.2.1 g e
  omega
def DatA (W w' : World) (L : Nat) (bs : List Bool) (xs : List Int) (bo : Option Addr) (bc : Nat) : Prop := ∃ val g, MaskQ W w' bs val ∧ w'.ownsRow 0 65 1 (.slice bo 2 bc) 2 [val, .slice (some ⟨g, 0, none⟩) (L) (L)] ∧ (∀ g, (Value.slice bo 2 bc).ownBlock = some g → W.heap.size ≤ g) ∧ OwnRow w' g 5 ((leAll xs).map (Value.int .u8)) ∧ W.heap.size ≤ g
theorem MaskQ.gr {W U w' u : World} {bs : List Bool} {v : Value} (h : MaskQ U w' bs v) (g0 : Gr W U) (g : Keeps w' u (fun z => ∃ c, w'.heap[z]? = some (.cells c 68))) (gu : Gr W u) : MaskQ W u bs v := by
 unfold MaskQ at *
 by_cases hz : offs bs = 0
 ·rw [if_pos hz] at *; exact h
 rw [if_neg hz] at *
 refine ⟨row_kp h.1 fun q e => g.block q (own_lt h.1 q e) (fun ⟨c, hc⟩ => ?_), fun q e => Nat.le_trans g0.size (h.2.1 q e), gu⟩
 exact own_ne hc h.1 (by decide) e
theorem DatA.gr {W U w' u : World} {L : Nat} {bs : List Bool} {xs : List Int} {bo : Option Addr} {bc : Nat} (h : DatA U w' L bs xs bo bc) (g0 : Gr W U) (g : Keeps w' u (fun z => ∃ c, w'.heap[z]? = some (.cells c 68))) (gu : Gr W u) : DatA W u L bs xs bo bc := by
 obtain ⟨val, q, h1, h2, h3, h4, h5⟩ := h
 refine ⟨val, q, h1.gr g0 g gu, row_kp h2 fun q e => g.block q (own_lt h2 q e) (fun ⟨c, hc⟩ => own_ne hc h2 (by decide) e), fun q e => Nat.le_trans g0.size (h3 q e), ?_, Nat.le_trans g0.size h5⟩
 refine (g.block q (lt_of_heap h4) (fun ⟨c, hc⟩ => ?_)).trans h4
 rw [h4] at hc
 simp at hc
theorem data259 (m L : Nat) (lo : Option Addr) (lc : Nat) (xs : List Int) (vo : Option Addr) (vc : Nat) (bs : List Bool) (W : World) (hm : W.heap[m]? = some (.cells #[.int .i64 1, .slice lo L lc] 340)) (hl : W.ownsRow 0 2 1 (.slice lo L lc) L (xs.map iv)) (hv : W.ownsRow 0 4 1 (.slice vo L vc) L (bs.map Value.bool)) (hL : L ≤ 4000) :
  Calls Tryz.prog 388 #[.pointer (some ⟨m, 0, none⟩), .slice vo L vc] W fun e w' => ∃ bo bc, e = .returned (.agg (dC L (offs bs) (.slice bo 2 bc))) ∧ Gr W w' ∧ DatA W w' L bs xs bo bc := by
 have hxL : xs.length = L := by have := row_len hl; simpa using this
 have hbL : bs.length = L := by have := row_len hv; simpa using this
 obtain ⟨A, hA⟩ := ex (W.alloc (.cells (dC 0 0 (.slice none 0 0)) 68))
 have gA := gr_al hA
 have hsz : A.heap.size = W.heap.size + 1 := by rw [← hA]; simp
 have hr0 := al_new hA
 obtain ⟨N, hN⟩ := ex (offs bs)
 have hS : ∀ u, Gr W u → u.cell? ⟨m, 0, none⟩ = some (.int .i64 1) ∧ u.cell? ⟨m, 1, none⟩ = some (.slice lo L lc) := fun u g => cell2 ((g.block _ (lt_of_heap hm) id).trans hm)
 have gD : Gr W A.drew := gA.tr gr_drew
 have HS0 := hidM (hS A.drew gD)
 have HS := hidM hS
 have HC1 : Hid (Calls Tryz.prog 392 #[.slice lo L lc, .int .i64 1] A.drew fun e w' => ∃ g, e = .returned (.slice (some ⟨g, 0, none⟩) (L) (L)) ∧ Gr A.drew w' ∧ A.drew.heap.size ≤ g ∧ OwnRow w' g 5 ((leAll xs).map (Value.int .u8))) := by
  have h := numbered263 lo lc xs A.drew (by rw [hxL]; exact row_kp hl fun q e => gD.block q (own_lt hl q e) id) (by omega)
  rw [hxL] at h
  exact h
 have HC2 : Hid (∀ w1 g, Gr A.drew w1 → A.drew.heap.size ≤ g → OwnRow w1 g 5 ((leAll xs).map (Value.int .u8)) → Gr W w1 ∧ (∀ o, Gr W (w1.alloc o)) ∧ Calls Tryz.prog 307 #[.slice vo L vc, .slice (some ⟨w1.heap.size, 0, none⟩) 1 1] (w1.alloc (.cells #[.slice (some ⟨g, 0, none⟩) (L) (L)] 65)) fun e w2 => ∃ bo bc, e = .returned (.agg (dC L N (.slice bo 2 bc))) ∧ Gr W w2 ∧ w2.heap[W.heap.size]? = some (.cells (dC 0 0 (.slice none 0 0)) 68) ∧ (mkU w2 W.heap.size L N (.slice bo 2 bc)).heap[W.heap.size]? = some (.cells (dC L N (.slice bo 2 bc)) 68) ∧ Gr W (mkU w2 W.heap.size L N (.slice bo 2 bc)) ∧ DatA W (mkU w2 W.heap.size L N (.slice bo 2 bc)) L bs xs bo bc) := by
  intro w1 g g1 hg hrow
  have gW1 : Gr W w1 := gD.tr g1
  have gAl : ∀ o, Gr W (w1.alloc o) := fun o => gW1.alloc o
  refine ⟨gW1, gAl, ?_⟩
  have gA1 : Gr A w1 := Keeps.trans gr_drew g1 (fun _ _ h => h)
  have hd : A.drew.heap.size = A.heap.size := rfl
  obtain ⟨V, hV⟩ := ex (w1.alloc (.cells #[.slice (some ⟨g, 0, none⟩) (L) (L)] 65))
  have gV : Gr W V := by rw [← hV]; exact gAl _
  have g1V := gr_al hV
  have hq := al_new hV
  have hvV : V.ownsRow 0 4 1 (.slice vo L vc) L (bs.map Value.bool) := row_kp hv fun q e => gV.block q (own_lt hv q e) id
  rw [hV]
  have h := masked171 vo vc bs w1.heap.size (.slice (some ⟨g, 0, none⟩) (L) (L)) V (by rw [hbL]; exact hvV) (by omega) hq rfl
  rw [hbL, hN] at h
  refine h.mono ?_
  rintro e w2 ⟨bo, bc, val, rfl, g2, hM, hB, hBb⟩
  have gW2 : Gr W w2 := gV.tr g2
  have hrA := (gA1.block _ (by omega) id).trans hr0
  have hrV := (g1V.block _ (lt_of_heap hrA) id).trans hrA
  have hr2 := (g2.block _ (lt_of_heap hrV) id).trans hrV
  have hkU : Keeps w2 (mkU w2 W.heap.size L N (.slice bo 2 bc)) (fun z => z = W.heap.size) := setAll_kp _ _ _
  have hgU : Gr W (mkU w2 W.heap.size L N (.slice bo 2 bc)) := gW2.trans hkU (fun j hj (e : j = W.heap.size) => by omega)
  have hrow2 : OwnRow w2 g 5 ((leAll xs).map (Value.int .u8)) := ((g1V.tr g2).block g (lt_of_heap hrow) id).trans hrow
  refine ⟨bo, bc, rfl, gW2, hr2, ?_, hgU, ?_⟩
  ·rw [show mkU w2 W.heap.size L N (.slice bo 2 bc) = setAll w2 W.heap.size _ from rfl, setAll_blk W.heap.size 68 _ _ _ hr2]
   simp [setsA, dC]
  have hk31 : Keeps w2 (mkU w2 W.heap.size L N (.slice bo 2 bc)) (fun z => ∃ c, w2.heap[z]? = some (.cells c 68)) := hkU.mono fun j hj e => ⟨dC 0 0 (.slice none 0 0), by have e' : j = W.heap.size := e; subst e'; exact hr2⟩
  have hs1 := gA1.size
  refine ⟨val, g, hM.gr gV hk31 hgU, row_kp hB fun q e => hkU.block q (own_lt hB q e) (fun e2 => own_ne hr2 hB (by decide) (e2 ▸ e)), fun q e => Nat.le_trans gV.size (hBb q e), ?_, by omega⟩
  exact (hkU.block g (lt_of_heap hrow2) (fun e => by have e' : g = W.heap.size := e; omega)).trans hrow2
 have HN := hidM hN
 clear hm hl hv gA gD hS hr0 hsz hxL hbL hN
 unfold dC at hA
 go_enter Tryz.func388, Tryz.ntmps388
 go_wp2_with fail
 go_region_held3 (fun w' => w'.cell? ⟨m, 0, none⟩ = some (.int .i64 1) ∧ w'.cell? ⟨m, 1, none⟩ = some (.slice lo L lc)) (first | with_reducible exact HS0.out | with_reducible exact HS1.out | with_reducible exact HS3.out | with_reducible exact HS4.out | exact HS2.out _) (first
  | (go_at_call 392; refine HC1.out.mono ?_; rintro e w1 ⟨g, rfl, g1, hg, hrow⟩; obtain ⟨a1, a2, a3⟩ := HC2.out w1 g g1 hg hrow; have HS1 := hidM (HS.out w1 a1); have HS2 : Hid (∀ o, (w1.alloc o).cell? ⟨m, 0, none⟩ = some (.int .i64 1) ∧ (w1.alloc o).cell? ⟨m, 1, none⟩ = some (.slice lo L lc)) := fun o => HS.out _ (a2 o); have HC3 := hidM a3; clear g1 hg hrow a1 a2 a3)
  | (go_at_call 307; refine HC3.out.mono ?_; rintro e w2 ⟨bo, bc, rfl, b1, b2, b3, b4, b5⟩; have HS3 := hidM (HS.out w2 b1); obtain ⟨U, hU⟩ := ex (mkU w2 W.heap.size L N (.slice bo 2 bc)); rw [hU] at b3 b4 b5; have HS4 := hidM (HS.out U b4); have HB := hidM (And.intro b3 (And.intro b4 b5)); simp only [mkU, setAll] at hU; have y0 := frz b2 0; have y1 := frz b2 1; have y2 := frz b2 2; have y3 := frz b2 3; have y4 := frz b2 4; have y5 := frz b2 5; obtain ⟨g0, g1, g2, g3, g4, g5⟩ := cell6 b2; clear b1 b2 b3 b4 b5; unfold dC))
 go_wp2_with fail
 (try simp only [Exit.inBlock, Exit.then])
 refine bodyPost_ret (results_cell31 rfl rfl (by with_reducible exact HB.out.1) (by kernel_rfl)) rfl ?_
 rw [HN.out]
 exact ⟨bo, bc, rfl, HB.out.2⟩
theorem method_data (m : Nat) (w : World) : (method 565 319 (.pointer (some ⟨m, 0, none⟩)) "colonnade/build.data").run Tryz.prog w = .ok (388, .pointer (some ⟨m, 0, none⟩)) w := by kernel_rfl
theorem mk_store {W w2 : World} {r L N : Nat} {bs : List Bool} {xs : List Int} {bo : Option Addr} {bc : Nat} (g2 : Gr W w2) (hr : W.heap.size ≤ r) (hr2 : w2.heap[r]? = some (.cells (dC 0 0 (.slice none 0 0)) 68)) (hD : DatA W w2 L bs xs bo bc) :
  (mkU w2 r L N (.slice bo 2 bc)).heap[r]? = some (.cells (dC L N (.slice bo 2 bc)) 68) ∧ Gr W (mkU w2 r L N (.slice bo 2 bc)) ∧ DatA W (mkU w2 r L N (.slice bo 2 bc)) L bs xs bo bc := by
 have hkU : Keeps w2 (mkU w2 r L N (.slice bo 2 bc)) (fun z => z = r) := setAll_kp _ _ _
 have hgU : Gr W (mkU w2 r L N (.slice bo 2 bc)) := g2.trans hkU (fun j hj (e : j = r) => by omega)
 have hk31 : Keeps w2 (mkU w2 r L N (.slice bo 2 bc)) (fun z => ∃ c, w2.heap[z]? = some (.cells c 68)) := hkU.mono fun j hj e => ⟨dC 0 0 (.slice none 0 0), by have e' : j = r := e; subst e'; exact hr2⟩
 refine ⟨?_, hgU, hD.gr (Keeps.refl W _) hk31 hgU⟩
 rw [show mkU w2 r L N (.slice bo 2 bc) = setAll w2 r _ from rfl, setAll_blk r 68 _ _ _ hr2]
 simp [setsA, dC]
theorem data17 (B n m t : Nat) (nu : Bool) (wt : Int) (vo : Option Addr) (L vc : Nat) (bs : List Bool) (lo : Option Addr) (lc : Nat) (xs : List Int) (W : World) (h : Nd B W n m t nu wt vo L vc (bs.map Value.bool) lo lc (xs.map iv)) (hL : L ≤ 4000) :
  Calls Tryz.prog 142 #[.pointer (some ⟨n, 0, none⟩)] W fun e w' => ∃ bo bc, e = .returned (.agg (dC L (offs bs) (.slice bo 2 bc))) ∧ Gr W w' ∧ DatA W w' L bs xs bo bc := by
 obtain ⟨A, hA⟩ := ex (W.alloc (.cells (dC 0 0 (.slice none 0 0)) 68))
 have gA := gr_al hA
 have hsz : A.heap.size = W.heap.size + 1 := by rw [← hA]; simp
 have hr0 := al_new hA
 obtain ⟨N, hN⟩ := ex (offs bs)
 have hS : ∀ u, Gr W u → u.cell? ⟨n, 1, none⟩ = some (.iface 319 (.pointer (some ⟨m, 0, none⟩))) ∧ u.cell? ⟨n, 4, none⟩ = some (.slice vo L vc) := fun u g => by
  obtain ⟨-, c1, -, -, c4, -⟩ := cell6 ((g.block _ (lt_of_heap h.hn) id).trans h.hn)
  exact ⟨c1, c4⟩
 have gD : Gr W A.drew := gA.tr gr_drew
 have HS0 := hidM (hS A.drew gD)
 have HC : Hid (Calls Tryz.prog 388 #[.pointer (some ⟨m, 0, none⟩), .slice vo L vc] A.drew fun e w2 => ∃ bo bc, e = .returned (.agg (dC L N (.slice bo 2 bc))) ∧ Gr W w2 ∧ w2.heap[W.heap.size]? = some (.cells (dC 0 0 (.slice none 0 0)) 68) ∧ (mkU w2 W.heap.size L N (.slice bo 2 bc)).heap[W.heap.size]? = some (.cells (dC L N (.slice bo 2 bc)) 68) ∧ Gr W (mkU w2 W.heap.size L N (.slice bo 2 bc)) ∧ DatA W (mkU w2 W.heap.size L N (.slice bo 2 bc)) L bs xs bo bc) := by
  have hD := h.gr gD
  refine (data259 m L lo lc xs vo vc bs A.drew hD.hm hD.rl hD.rv hL).mono ?_
  rintro e w2 ⟨bo, bc, rfl, g2, hda⟩
  have gW2 : Gr W w2 := gD.tr g2
  have hr2 := (g2.block _ (lt_of_heap (W := A.drew) hr0) id).trans hr0
  rw [hN]
  exact ⟨bo, bc, rfl, gW2, hr2, mk_store gW2 (Nat.le_refl _) hr2 (hda.gr gD (Keeps.refl w2 _) gW2)⟩
 have HS := hidM hS
 have HN := hidM hN
 have hmeth := method_data m
 clear h gA gD hS hr0 hsz hN
 unfold dC at hA
 go_enter Tryz.func142, Tryz.ntmps142
 go_wp2_with fail
 go_region_held3 (fun w' => w'.cell? ⟨n, 1, none⟩ = some (.iface 319 (.pointer (some ⟨m, 0, none⟩))) ∧ w'.cell? ⟨n, 4, none⟩ = some (.slice vo L vc)) (first | with_reducible exact HS0.out | with_reducible exact HS3.out | with_reducible exact HS4.out) ((go_at_call 388; refine HC.out.mono ?_; rintro e w2 ⟨bo, bc, rfl, b1, b2, b3, b4, b5⟩; have HS3 := hidM (HS.out w2 b1); obtain ⟨U, hU⟩ := ex (mkU w2 W.heap.size L N (.slice bo 2 bc)); rw [hU] at b3 b4 b5; have HS4 := hidM (HS.out U b4); have HB := hidM (And.intro b3 (And.intro b4 b5)); simp only [mkU, setAll] at hU; have y0 := frz b2 0; have y1 := frz b2 1; have y2 := frz b2 2; have y3 := frz b2 3; have y4 := frz b2 4; have y5 := frz b2 5; obtain ⟨g0, g1, g2, g3, g4, g5⟩ := cell6 b2; clear b1 b2 b3 b4 b5; unfold dC))
 go_wp2_with fail
 (try simp only [Exit.inBlock, Exit.then])
 refine bodyPost_ret (results_cell31 rfl rfl (by with_reducible exact HB.out.1) (by kernel_rfl)) rfl ?_
 rw [HN.out]
 exact ⟨bo, bc, rfl, HB.out.2⟩
theorem results_cell31t {fn : Func} {t u : Tmp} {tmps : Array Value} {g : Nat} {cs : Array Value} {w : World} (h : fn.results = #[.cell t 68, .tmp u]) (ht : tmps.getD t undef = .pointer (some ⟨g, 0, none⟩)) (hg : w.heap[g]? = some (.cells cs 68 (0, 0))) (hi : (Tryz.prog.info? 68).map (·.size) = some cs.size) :
  (results fn tmps).run Tryz.prog w = .ok (.tuple #[.agg cs, tmps.getD u undef]) w := by
 have hl := run_loadVar_row (P := Tryz.prog) w g 68 68 cs (0, 0) _ hg Tryz.underlying68 rfl hi
 unfold results
 rw [h]
 simp only [Array.mapM_eq_mapM_toList, List.mapM_cons, List.mapM_nil, ht]
 simp [asAddr, hl]
theorem ptr_some (n : Nat) (w : World) : (binOp .eql 228 (.pointer (some ⟨n, 0, none⟩)) (.pointer none)).run Tryz.prog w = .ok (.bool false) w := by kernel_rfl
def dnW (V : World) (p : Nat) : World := setAll V p [(7, .pointer none), (8, .pointer none)]
theorem cell10 {W : World} {p t : Nat} {nu : Bool} {fo : Option Addr} {fc n t' : Nat} {rows : Int} (h : W.heap[p]? = some (.cells (bdC nx nu fo fc n t' rows) t)) : W.cell? ⟨p, 7, none⟩ = some (.pointer (some ⟨n, 0, none⟩)) ∧ W.cell? ⟨p, 8, none⟩ = some (.pointer (some ⟨t', 0, none⟩)) := by
 constructor <;> simp [World.cell?, h, bdC]
theorem set_id {W : World} {b ty j : Nat} {c : Array Value} {v : Value} (h : W.heap[b]? = some (.cells c ty)) (hv : c.setIfInBounds j v = c) : W.setCell ⟨b, j, none⟩ v = W := by
 have hm : (W.setCell ⟨b, j, none⟩ v).heap = W.heap := by
  apply Array.ext_getElem?
  intro i
  by_cases e : i = b
  ·subst e
   rw [heap_setCell_same W i j _ _ v h, h, hv]
  exact heap_setCell_other _ _ _ _ e
 show ({ W with heap := (W.setCell ⟨b, j, none⟩ v).heap } : World) = W
 rw [hm]
structure DoneT (nx : Bool) (W A w1 : World) (p L N : Nat) (nu : Bool) (fo : Option Addr) (fc n t : Nat) (rows : Int) (bs : List Bool) (xs : List Int) (bo : Option Addr) (bc : Nat) (V Z U : World) : Prop where
 dV : V.heap[w1.heap.size]? = some (.cells (dC L N (.slice bo 2 bc)) 68)
 pV : V.heap[p]? = some (.cells (bdC nx nu fo fc n t rows) 231)
 pZ : (V.setCell ⟨p, 7, none⟩ (.pointer none)).frozen? ⟨p, 8, none⟩ = false
 dZ : Z.heap[w1.heap.size]? = some (.cells (dC L N (.slice bo 2 bc)) 68)
 rZ : Z.heap[W.heap.size]? = some (.cells (dC 0 0 (.slice none 0 0)) 68)
 rU : U.heap[W.heap.size]? = some (.cells (dC L N (.slice bo 2 bc)) 68)
 kU : Keeps W U (fun z => z = p)
 fin : ∃ X, Gr W X ∧ Keeps X U (fun z => z = p) ∧ DatA W X L bs xs bo bc
theorem done_tail {W A w1 : World} {p L N : Nat} {nu : Bool} {fo : Option Addr} {fc n t : Nat} {rows : Int} {bs : List Bool} {xs : List Int} {bo : Option Addr} {bc : Nat} (gA : Gr W A) (hsz : A.heap.size = W.heap.size + 1) (hr0 : A.heap[W.heap.size]? = some (.cells (dC 0 0 (.slice none 0 0)) 68)) (hp : W.heap[p]? = some (.cells (bdC nx nu fo fc n t rows) 231)) (g1 : Gr A w1) (hD : DatA A w1 L bs xs bo bc) :
  DoneT nx W A w1 p L N nu fo fc n t rows bs xs bo bc (w1.alloc (.cells (dC L N (.slice bo 2 bc)) 68)) (dnW (w1.alloc (.cells (dC L N (.slice bo 2 bc)) 68)) p) (mkU (dnW (w1.alloc (.cells (dC L N (.slice bo 2 bc)) 68)) p) W.heap.size L N (.slice bo 2 bc)) := by
 have gW1 : Gr W w1 := gA.tr g1
 obtain ⟨V, hV⟩ := ex (w1.alloc (.cells (dC L N (.slice bo 2 bc)) 68))
 have hdV := al_new hV
 have g1V := gr_al hV
 rw [hV]
 have gV : Gr W V := gW1.tr g1V
 have hpl := lt_of_heap hp
 have hs1 := g1.size
 have hpV := (gV.block p hpl id).trans hp
 have hrV := ((g1.tr g1V).block _ (by omega) id).trans hr0
 have kZ : Keeps V (dnW V p) (fun z => z = p) := setAll_kp _ _ _
 have hdZ := (kZ.block _ (lt_of_heap hdV) (by omega)).trans hdV
 have hrZ := (kZ.block _ (lt_of_heap hrV) (by omega)).trans hrV
 have kU : Keeps (dnW V p) (mkU (dnW V p) W.heap.size L N (.slice bo 2 bc)) (fun z => z = W.heap.size) := setAll_kp _ _ _
 have hst := mk_store (r := W.heap.size) (N := N) gV (Nat.le_refl _) hrV ((hD.gr gA (g1V.mono fun _ _ h => h.elim) gV))
 refine ⟨hdV, hpV, ?_, hdZ, hrZ, ?_, ?_, mkU V W.heap.size L N (.slice bo 2 bc), hst.2.1, ?_, hst.2.2⟩
 ·exact frz (heap_setCell_same V p 7 _ _ _ hpV) 8
 ·rw [show mkU (dnW V p) W.heap.size L N (.slice bo 2 bc) = setAll (dnW V p) W.heap.size _ from rfl, setAll_blk W.heap.size 68 _ _ _ hrZ]
  simp [setsA, dC]
 ·exact (Keeps.trans (gV.mono fun _ _ h => h.elim) kZ (fun _ _ h => h)).trans kU (fun j hj (e : j = W.heap.size) => by omega)
 have k0 : Keeps V (mkU V W.heap.size L N (.slice bo 2 bc)) (fun z => z = W.heap.size) := setAll_kp _ _ _
 have e1 : (mkU V W.heap.size L N (.slice bo 2 bc)).heap.size = V.heap.size := by simp [mkU, setAll]
 have e2 : (mkU (dnW V p) W.heap.size L N (.slice bo 2 bc)).heap.size = V.heap.size := by simp [mkU, dnW, setAll]
 refine ⟨by rw [kU.os, kZ.os, k0.os], by rw [kU.tape, kZ.tape, k0.tape], by rw [kU.output, kZ.output, k0.output], by omega, fun j hj hn => ?_⟩
 have hjV : j < V.heap.size := by omega
 have hjZ := Nat.lt_of_lt_of_le hjV kZ.size
 by_cases e : j = W.heap.size
 ·subst e
  rw [hst.1]
  rw [show mkU (dnW V p) W.heap.size L N (.slice bo 2 bc) = setAll (dnW V p) W.heap.size _ from rfl, setAll_blk W.heap.size 68 _ _ _ hrZ]
  simp [setsA, dC]
 rw [kU.block j hjZ e, k0.block j hjV e]
 exact kZ.block j hjV hn
theorem done9 (B p n m t : Nat) (nu : Bool) (fo : Option Addr) (fc : Nat) (rows wt : Int) (vo : Option Addr) (L vc : Nat) (bs : List Bool) (lo : Option Addr) (lc : Nat) (xs : List Int) (W : World) (hp : W.heap[p]? = some (.cells (bdC nx nu fo fc n t rows) 231)) (h : Nd B W n m t nu wt vo L vc (bs.map Value.bool) lo lc (xs.map iv)) (hL : L ≤ 4000) :
  Calls Tryz.prog 121 #[.pointer (some ⟨p, 0, none⟩)] W fun e w' => ∃ bo bc, e = .returned (.tuple #[.agg (dC L (offs bs) (.slice bo 2 bc)), .int .i64 0]) ∧ Keeps W w' (fun z => z = p) ∧ ∃ U, Gr W U ∧ Keeps U w' (fun z => z = p) ∧ DatA W U L bs xs bo bc := by
 obtain ⟨A, hA⟩ := ex (W.alloc (.cells (dC 0 0 (.slice none 0 0)) 68))
 have gA := gr_al hA
 have hsz : A.heap.size = W.heap.size + 1 := by rw [← hA]; simp
 have hr0 := al_new hA
 obtain ⟨N, hN⟩ := ex (offs bs)
 have hpA := (gA.block _ (lt_of_heap hp) id).trans hp
 obtain ⟨c7, c8⟩ := cell10 hpA
 have HC := hidM (data17 B n m t nu wt vo L vc bs lo lc xs A (h.gr gA) hL)
 have hptr := ptr_some n
 rw [hN] at HC
 have HN := hidM hN
 have HP := hidM hp
 have HGA := hidM gA
 have HR0 := hidM hr0
 have HSZ := hidM hsz
 clear h gA hr0 hsz hN hp hpA
 unfold dC at hA
 go_enter Tryz.func121, Tryz.ntmps121
 go_wp2_with (go_at_call 142; refine HC.out.mono ?_; rintro e w1 ⟨bo, bc, rfl, g1, hD⟩; have HT := hidM (done_tail (N := N) HGA.out HSZ.out HR0.out HP.out g1 hD); clear hA c7 c8 g1 hD; obtain ⟨V, hV⟩ := ex (w1.alloc (.cells (dC L N (.slice bo 2 bc)) 68)); rw [hV] at HT; obtain ⟨Z, hZ⟩ := ex (dnW V p); rw [hZ] at HT; obtain ⟨U, hU⟩ := ex (mkU Z W.heap.size L N (.slice bo 2 bc)); rw [hU] at HT; simp only [mkU, setAll] at hU; simp only [dnW, setAll] at hZ; obtain ⟨e0, e1, e2, e3, e4, e5⟩ := cell6 HT.out.dV; obtain ⟨c7, c8⟩ := cell10 HT.out.pV; have z4 := frz HT.out.dV 4; have z5 := frz HT.out.dV 5; have s4 := set_id (j := 4) (v := .slice none 0 0) HT.out.dV rfl; have s5 := set_id (j := 5) (v := .slice none 0 0) HT.out.dV rfl; have z7 := frz HT.out.pV 7; have z8 := HT.out.pZ; obtain ⟨f0, f1, f2, f3, f4, f5⟩ := cell6 HT.out.dZ; obtain ⟨r0, r1, r2, r3, r4, r5⟩ := cell6 HT.out.rZ; have y0 := frz HT.out.rZ 0; have y1 := frz HT.out.rZ 1; have y2 := frz HT.out.rZ 2; have y3 := frz HT.out.rZ 3; have y4 := frz HT.out.rZ 4; have y5 := frz HT.out.rZ 5; unfold dC at hV; unfold dC)
 (try simp only [Exit.inBlock, Exit.then])
 refine bodyPost_ret (results_cell31t rfl rfl (by with_reducible exact HT.out.rU) (by kernel_rfl)) rfl ?_
 rw [HN.out]
 exact ⟨bo, bc, rfl, HT.out.kU, HT.out.fin.imp fun X hX => hX⟩
theorem must63 (c : Value) (at' : Int) (W : World) : Calls Tryz.prog 124 #[c, .int .i64 0, .int .i64 at'] W fun e w' => e = .returned (.tuple #[]) ∧ w' = W := by
 go_enter Tryz.func124, Tryz.ntmps124
 go_wp2_with fail
 go_end0
 exact ⟨rfl, rfl⟩
theorem isSigned90 (W : World) : Calls Tryz.prog 144 #[.int .i64 3] W fun e w' => e = .returned (.bool true) ∧ w' = W := by
 go_enter Tryz.func144, Tryz.ntmps144
 go_wp2_with fail
 go_ret
 exact ⟨rfl, rfl⟩
theorem familyOf62 (ao : Option Addr) (ca : Nat) (W : World) (hT : Tab W) : Calls Tryz.prog 123 #[.agg #[.int .i64 3, .int .i64 0, .int .i64 0, .int .i64 0, .slice ao 0 ca]] W fun e w' => e = .returned (.iface 249 (.agg #[.int .i64 1, .bool true])) ∧ Gr W w' := by
 obtain ⟨A, hA, gA, hb⟩ := nw W (.cells #[.int .i64 3, .int .i64 0, .int .i64 0, .int .i64 0, .slice ao 0 ca] 56)
 have hS : ∀ u, Gr A u → u.cell? ⟨W.heap.size, 0, none⟩ = some (.int .i64 3) ∧ u.cell? ⟨W.heap.size, 1, none⟩ = some (.int .i64 0) ∧ u.cell? ⟨W.heap.size, 2, none⟩ = some (.int .i64 0) ∧ u.cell? ⟨W.heap.size, 3, none⟩ = some (.int .i64 0) ∧ u.cell? ⟨W.heap.size, 4, none⟩ = some (.slice ao 0 ca) := fun u g => cell5 ((g.block _ (lt_of_heap hb) id).trans hb)
 obtain ⟨e0, e1, e2, e3, e4⟩ := cell5 hb
 have HS := hidM hS
 have HG := hidM gA
 have HT := hidM (hT.gr gA)
 have HS0 := hidM (hS A.drew gr_drew)
 clear gA hb hS hT
 go_enter Tryz.func123, Tryz.ntmps123
 go_wp2_with fail
 go_region_held3 (fun u => u.cell? ⟨W.heap.size, 0, none⟩ = some (.int .i64 3) ∧ u.cell? ⟨W.heap.size, 1, none⟩ = some (.int .i64 0) ∧ u.cell? ⟨W.heap.size, 2, none⟩ = some (.int .i64 0) ∧ u.cell? ⟨W.heap.size, 3, none⟩ = some (.int .i64 0) ∧ u.cell? ⟨W.heap.size, 4, none⟩ = some (.slice ao 0 ca)) (first | with_reducible exact HS0.out | with_reducible exact HS1.out) (first
  | (go_at_call 143; refine (width56 ao ca _ (HT.out.gr gr_drew)).mono ?_; rintro e w1 ⟨rfl, g1⟩; have HG1 : Hid (Gr A w1) := Keeps.trans gr_drew g1 (fun _ _ h => h); have HS1 := hidM (HS.out w1 HG1.out); clear g1)
  | (go_at_call 144; refine (isSigned90 _).mono ?_; rintro e w2 ⟨rfl, rfl⟩))
 go_wp2_with fail
 go_ret
 exact ⟨rfl, HG.out.tr HG1.out⟩
theorem results_cell27 {fn : Func} {t : Tmp} {tmps : Array Value} {g : Nat} {cs : Array Value} {w : World} (h : fn.results = #[.cell t 58]) (ht : tmps.getD t undef = .pointer (some ⟨g, 0, none⟩)) (hg : w.heap[g]? = some (.cells cs 58 (0, 0))) (hi : (Tryz.prog.info? 58).map (·.size) = some cs.size) :
  (results fn tmps).run Tryz.prog w = .ok (.agg cs) w := by
 have hl := run_loadVar_row (P := Tryz.prog) w g 58 58 cs (0, 0) _ hg Tryz.underlying58 rfl hi
 unfold results
 rw [h]
 simp only [Array.mapM_eq_mapM_toList, List.mapM_cons, List.mapM_nil, ht]
 simp [asAddr, hl]
theorem copied46 (nu : Bool) (ao : Option Addr) (ca : Nat) (W : World) (hT : Tab W) : Calls Tryz.prog 112 #[.agg #[.string (nmB nx), .bool nu, .int .i64 3, .int .i64 0, .int .i64 0, .int .i64 0, .slice ao 0 ca]] W fun e w' => ∃ fo fc, e = .returned (.agg #[.string (nmB nx), .bool nu, .int .i64 3, .int .i64 0, .int .i64 0, .int .i64 0, .slice fo 0 fc]) ∧ Gr W w' := by
 obtain ⟨A, hA⟩ := ex ((W.alloc (.cells #[.string (nmB nx), .bool nu, .int .i64 3, .int .i64 0, .int .i64 0, .int .i64 0, .slice ao 0 ca] 58)).alloc (.cells #[.string ⟨#[]⟩, .bool false, .int .i64 0, .int .i64 0, .int .i64 0, .int .i64 0, .slice none 0 0] 58))
 have gA : Gr W A := by rw [← hA]; exact (gr_alloc W _).tr (gr_alloc _ _)
 have hsz : A.heap.size = W.heap.size + 2 := by rw [← hA]; simp
 have hb2 : A.heap[W.heap.size + 1]? = some (.cells #[.string ⟨#[]⟩, .bool false, .int .i64 0, .int .i64 0, .int .i64 0, .int .i64 0, .slice none 0 0] 58) := by
  have e2 := heap_alloc_new (W.alloc (.cells #[.string (nmB nx), .bool nu, .int .i64 3, .int .i64 0, .int .i64 0, .int .i64 0, .slice ao 0 ca] 58)) (.cells #[.string ⟨#[]⟩, .bool false, .int .i64 0, .int .i64 0, .int .i64 0, .int .i64 0, .slice none 0 0] 58)
  rw [show (W.alloc (.cells #[.string (nmB nx), .bool nu, .int .i64 3, .int .i64 0, .int .i64 0, .int .i64 0, .slice ao 0 ca] 58)).heap.size = W.heap.size + 1 by simp, hA] at e2
  exact e2
 have hb1 : A.heap[W.heap.size]? = some (.cells #[.string (nmB nx), .bool nu, .int .i64 3, .int .i64 0, .int .i64 0, .int .i64 0, .slice ao 0 ca] 58) := by
  have e1 := heap_alloc_new W (.cells #[.string (nmB nx), .bool nu, .int .i64 3, .int .i64 0, .int .i64 0, .int .i64 0, .slice ao 0 ca] 58)
  rw [← hA]
  exact ((gr_alloc _ _).block _ (lt_of_heap e1) id).trans e1
 obtain ⟨B, hB⟩ := ex ((A.alloc (.cells #[.string (nmB nx), .bool nu, .int .i64 3, .int .i64 0, .int .i64 0, .int .i64 0, .slice ao 0 ca] 58)).alloc (.cells #[.int .i64 0] 3))
 have gB : Gr A B := by rw [← hB]; exact (gr_alloc A _).tr (gr_alloc _ _)
 have hg : B.heap[A.heap.size]? = some (.cells #[.string (nmB nx), .bool nu, .int .i64 3, .int .i64 0, .int .i64 0, .int .i64 0, .slice ao 0 ca] 58) := by
  have e1 := heap_alloc_new A (.cells #[.string (nmB nx), .bool nu, .int .i64 3, .int .i64 0, .int .i64 0, .int .i64 0, .slice ao 0 ca] 58)
  rw [← hB]
  exact ((gr_alloc _ _).block _ (lt_of_heap e1) id).trans e1
 have hz : B.cell? ⟨A.heap.size + 1, 0, none⟩ = some (.int .i64 0) := by
  have e2 := heap_alloc_new (A.alloc (.cells #[.string (nmB nx), .bool nu, .int .i64 3, .int .i64 0, .int .i64 0, .int .i64 0, .slice ao 0 ca] 58)) (.cells #[.int .i64 0] 3)
  rw [show (A.alloc (.cells #[.string (nmB nx), .bool nu, .int .i64 3, .int .i64 0, .int .i64 0, .int .i64 0, .slice ao 0 ca] 58)).heap.size = A.heap.size + 1 by simp, hB] at e2
  simp [World.cell?, e2]
 have HC := hidM (at13 nu ao ca A.heap.size (A.heap.size + 1) B (hT.gr (gA.tr gB)) hg hz)
 have HT : Hid (∀ (w2 : World) (fo : Option Addr) (fc : Nat), Gr B w2 → (w2.alloc (.cells #[.string (nmB nx), .bool nu, .int .i64 3, .int .i64 0, .int .i64 0, .int .i64 0, .slice fo 0 fc] 58)).heap[w2.heap.size]? = some (.cells #[.string (nmB nx), .bool nu, .int .i64 3, .int .i64 0, .int .i64 0, .int .i64 0, .slice fo 0 fc] 58) ∧ (w2.alloc (.cells #[.string (nmB nx), .bool nu, .int .i64 3, .int .i64 0, .int .i64 0, .int .i64 0, .slice fo 0 fc] 58)).heap[W.heap.size + 1]? = some (.cells #[.string ⟨#[]⟩, .bool false, .int .i64 0, .int .i64 0, .int .i64 0, .int .i64 0, .slice none 0 0] 58) ∧ (setAll (w2.alloc (.cells #[.string (nmB nx), .bool nu, .int .i64 3, .int .i64 0, .int .i64 0, .int .i64 0, .slice fo 0 fc] 58)) (W.heap.size + 1) [(0, .string (nmB nx)), (1, .bool nu), (2, .int .i64 3), (3, .int .i64 0), (4, .int .i64 0), (5, .int .i64 0), (6, .slice fo 0 fc)]).heap[W.heap.size + 1]? = some (.cells #[.string (nmB nx), .bool nu, .int .i64 3, .int .i64 0, .int .i64 0, .int .i64 0, .slice fo 0 fc] 58) ∧ Gr W (setAll (w2.alloc (.cells #[.string (nmB nx), .bool nu, .int .i64 3, .int .i64 0, .int .i64 0, .int .i64 0, .slice fo 0 fc] 58)) (W.heap.size + 1) [(0, .string (nmB nx)), (1, .bool nu), (2, .int .i64 3), (3, .int .i64 0), (4, .int .i64 0), (5, .int .i64 0), (6, .slice fo 0 fc)])) := by
  intro w2 fo fc g2
  obtain ⟨V, hV, g2V, hd⟩ := nw w2 (.cells #[.string (nmB nx), .bool nu, .int .i64 3, .int .i64 0, .int .i64 0, .int .i64 0, .slice fo 0 fc] 58)
  have gAV : Gr A V := (gB.tr g2).tr g2V
  have hr := (gAV.block _ (lt_of_heap hb2) id).trans hb2
  rw [hV]
  refine ⟨hd, hr, ?_, (gA.tr gAV).trans (setAll_kp _ _ _) (fun j hj (e : j = W.heap.size + 1) => by omega)⟩
  rw [setAll_blk (W.heap.size + 1) 58 _ _ _ hr]
  simp [setsA]
 obtain ⟨e0, e1, e2, e3, e4, e5, e6⟩ := cell7 hb1
 clear hT gA hsz hb2 hb1 gB hg hz
 go_enter Tryz.func112, Tryz.ntmps112
 go_wp2_with (go_at_call 40; refine HC.out.mono ?_; rintro e w2 ⟨fo, fc, rfl, g2⟩; have HX := hidM (HT.out w2 fo fc g2); clear g2 hA hB e0 e1 e2 e3 e4 e5 e6; obtain ⟨V, hV⟩ := ex (w2.alloc (.cells #[.string (nmB nx), .bool nu, .int .i64 3, .int .i64 0, .int .i64 0, .int .i64 0, .slice fo 0 fc] 58)); rw [hV] at HX; obtain ⟨U, hU⟩ := ex (setAll V (W.heap.size + 1) [(0, .string (nmB nx)), (1, .bool nu), (2, .int .i64 3), (3, .int .i64 0), (4, .int .i64 0), (5, .int .i64 0), (6, .slice fo 0 fc)]); rw [hU] at HX; simp only [setAll] at hU; obtain ⟨e0, e1, e2, e3, e4, e5, e6⟩ := cell7 HX.out.1; obtain ⟨r0, r1, r2, r3, r4, r5, r6⟩ := cell7 HX.out.2.1; have y0 := frz HX.out.2.1 0; have y1 := frz HX.out.2.1 1; have y2 := frz HX.out.2.1 2; have y3 := frz HX.out.2.1 3; have y4 := frz HX.out.2.1 4; have y5 := frz HX.out.2.1 5; have y6 := frz HX.out.2.1 6)
 (try simp only [Exit.inBlock, Exit.then])
 refine bodyPost_ret (results_cell27 rfl rfl (by with_reducible exact HX.out.2.2.1) (by kernel_rfl)) rfl ?_
 exact ⟨fo, fc, rfl, HX.out.2.2.2⟩
open Kd (NewB z37 info37 c37)
theorem put7 {W : World} {g o : Nat} {f : FT} {ao : Option Addr} {ca : Nat} {cur : Array Value} (hb : W.heap[g]? = some (.cells cur 58)) (ho : o + 6 < cur.size) : CellsAt (setAll W g [(o, .string f.name), (o + 1, .bool f.nul), (o + 2, .int .i64 f.kind), (o + 3, .int .i64 f.width), (o + 4, .int .i64 f.id), (o + 5, .int .i64 f.index), (o + 6, .slice ao f.kids.length ca)]) g o f ao ca := by
 have hz := setAll_blk g 58 [(o, .string f.name), (o + 1, .bool f.nul), (o + 2, .int .i64 f.kind), (o + 3, .int .i64 f.width), (o + 4, .int .i64 f.id), (o + 5, .int .i64 f.index), (o + 6, .slice ao f.kids.length ca)] W cur hb
 have l0 : o < cur.size := by omega
 have l1 : o + 1 < cur.size := by omega
 have l2 : o + 2 < cur.size := by omega
 have l3 : o + 3 < cur.size := by omega
 have l4 : o + 4 < cur.size := by omega
 have l5 : o + 5 < cur.size := by omega
 refine ⟨?_, ?_, ?_, ?_, ?_, ?_, ?_⟩
 all_goals simp [World.cell?, hz, setsA, Array.getElem?_setIfInBounds, l0, l1, l2, l3, l4, l5, ho]
theorem oth7 {W : World} {g o o' : Nat} {f : FT} {ao : Option Addr} {ca : Nat} (h : CellsAt W g o f ao ca) (hne : o + 7 ≤ o' ∨ o' + 7 ≤ o) (v0 v1 v2 v3 v4 v5 v6 : Value) :
  CellsAt (setAll W g [(o', v0), (o' + 1, v1), (o' + 2, v2), (o' + 3, v3), (o' + 4, v4), (o' + 5, v5), (o' + 6, v6)]) g o f ao ca := by
 have hk : ∀ t, t < 7 → (setAll W g [(o', v0), (o' + 1, v1), (o' + 2, v2), (o' + 3, v3), (o' + 4, v4), (o' + 5, v5), (o' + 6, v6)]).cell? ⟨g, o + t, none⟩ = W.cell? ⟨g, o + t, none⟩ := fun t ht => by
  simp only [setAll]
  rw [World.cell?_setCell_other _ _ _ _ (by simp <;> omega), World.cell?_setCell_other _ _ _ _ (by simp <;> omega), World.cell?_setCell_other _ _ _ _ (by simp <;> omega), World.cell?_setCell_other _ _ _ _ (by simp <;> omega), World.cell?_setCell_other _ _ _ _ (by simp <;> omega), World.cell?_setCell_other _ _ _ _ (by simp <;> omega), World.cell?_setCell_other _ _ _ _ (by simp <;> omega)]
 exact ⟨(hk 0 (by omega)).trans h.c0, (hk 1 (by omega)).trans h.c1, (hk 2 (by omega)).trans h.c2, (hk 3 (by omega)).trans h.c3, (hk 4 (by omega)).trans h.c4, (hk 5 (by omega)).trans h.c5, (hk 6 (by omega)).trans h.c6⟩
theorem setsA_size : ∀ (l : List (Nat × Value)) (c : Array Value), (setsA c l).size = c.size
 | [], _ => rfl
 | (k, v) :: l, c => by rw [setsA, setsA_size l]; simp
structure BarI (W wr : World) (d : Nat) (l : List FT) (g k : Nat) : Prop where
 gr : Gr W wr
 ge : W.heap.size ≤ g
 box : ∃ cur, wr.heap[g]? = some (.cells cur 58) ∧ cur.size = l.length * 7
 new : ∀ i (h : i < l.length), i < k → ∃ ao' ca', CellsAt wr g (i * 7) (bareF d l[i]) ao' ca' ∧ (bareF d l[i]).kids.length ≤ ca' ∧ RowAt (fun b => NewB W wr b ∧ b ≠ g) wr d ao' (bareF d l[i]).kids
theorem BarI.next {W wr wx w2 : World} {d : Nat} {l : List FT} {g k kc : Nat} {ko : Option Addr} {f : FT} (h : BarI W wr d l g k) (hk : k < l.length) (hf : f = bareF d l[k]) (hx : Gr wr wx) (h2 : Gr wx w2) (hle : f.kids.length ≤ kc) (hr : RowAt (fun b => wx.heap.size ≤ b ∧ b < w2.heap.size) w2 d ko f.kids) :
  BarI W (setAll w2 g [(k * 7, .string f.name), (k * 7 + 1, .bool f.nul), (k * 7 + 2, .int .i64 f.kind), (k * 7 + 3, .int .i64 f.width), (k * 7 + 4, .int .i64 f.id), (k * 7 + 5, .int .i64 f.index), (k * 7 + 6, .slice ko f.kids.length kc)]) d l g (k + 1) := by
 obtain ⟨cur, hb, hsz⟩ := h.box
 have hgl : g < wr.heap.size := lt_of_heap hb
 have hx2 := hx.tr h2
 have hb2 := (hx2.block g hgl id).trans hb
 have kz := setAll_kp g [(k * 7, .string f.name), (k * 7 + 1, .bool f.nul), (k * 7 + 2, .int .i64 f.kind), (k * 7 + 3, .int .i64 f.width), (k * 7 + 4, .int .i64 f.id), (k * 7 + 5, .int .i64 f.index), (k * 7 + 6, .slice ko f.kids.length kc)] w2
 have hbs := setAll_blk g 58 [(k * 7, .string f.name), (k * 7 + 1, .bool f.nul), (k * 7 + 2, .int .i64 f.kind), (k * 7 + 3, .int .i64 f.width), (k * 7 + 4, .int .i64 f.id), (k * 7 + 5, .int .i64 f.index), (k * 7 + 6, .slice ko f.kids.length kc)] w2 cur hb2
 have hs := hx2.size
 have hs' := hx.size
 have hks := kz.size
 refine ⟨(h.gr.tr hx2).trans kz (fun j hj e => by have := h.ge; omega), h.ge, ⟨_, hbs, by rw [setsA_size]; exact hsz⟩, fun i hi hlt => ?_⟩
 by_cases e : i = k
 ·subst e
  rw [← hf]
  refine ⟨ko, kc, put7 hb2 (by omega), hle, ?_⟩
  refine (hr.kept fun b hb => kz.block b hb.2 (by have := hb.1; omega)).mono fun b hb => ⟨⟨by have := h.gr.size; have := hb.1; omega, by have := hb.2; omega⟩, by have := hb.1; omega⟩
 obtain ⟨ao', ca', h1, h3, h4⟩ := h.new i hi (by omega)
 refine ⟨ao', ca', oth7 (h1.kept (hx2.block g hgl id)) (by omega) _ _ _ _ _ _ _, h3, ?_⟩
 refine ((h4.kept fun b hb => hx2.block b hb.1.2 id).kept fun b hb => kz.block b (by have := hb.1.2; omega) hb.2).mono fun b hb => ⟨⟨hb.1.1, by have := hb.1.2; omega⟩, hb.2⟩
theorem BarI.row {W wr : World} {d : Nat} {l : List FT} {g : Nat} (h : BarI W wr d l g l.length) (hl : l.length ≤ big) : RowAt (NewB W wr) wr (d + 1) (some ⟨g, 0, none⟩) (l.map (bareF d)) := by
 refine ⟨by simpa using hl, fun hn => ⟨g, 0, rfl, ⟨h.ge, by obtain ⟨cur, hb, -⟩ := h.box; exact lt_of_heap hb⟩, fun i hi => ?_⟩⟩
 rw [List.length_map] at hi
 obtain ⟨ao', ca', h1, h2, h3⟩ := h.new i hi hi
 rw [List.getElem_map]
 exact ⟨ao', ca', by rw [Nat.zero_add]; exact h1, h2, h3.mono fun b hb => hb.1⟩
theorem BarI.start (W : World) (d : Nat) (l : List FT) : BarI W (W.alloc (.cells (madeCells z37.cells (l.length * 7)) 58)) d l W.heap.size 0 :=
 ⟨gr_alloc W _, Nat.le_refl _, ⟨_, heap_alloc_new W _, size_madeCells _ _⟩, fun i _ h => absurd h (by omega)⟩
theorem results_cell58 {fn : Func} {t : Tmp} {tmps : Array Value} {g : Nat} {cs : Array Value} {w : World} (h : fn.results = #[.cell t 58]) (ht : tmps.getD t undef = .pointer (some ⟨g, 0, none⟩)) (hg : w.heap[g]? = some (.cells cs 58 (0, 0))) (hi : (Tryz.prog.info? 58).map (·.size) = some cs.size) :
  (results fn tmps).run Tryz.prog w = .ok (.agg cs) w := results_cell27 h ht hg hi
theorem fld58 (a0 a1 a2 a3 a4 a5 a6 : Value) (w : World) : (Instr.field 58 (.agg #[a0, a1, a2, a3, a4, a5, a6]) 2).run Tryz.prog w = .ok (.agg #[a2, a3, a4, a5, a6]) w := by kernel_rfl
theorem bare24_in (d : Nat) (T : Nat → Prop) (f : FT) (ao : Option Addr) (ca : Nat) (W : World) (hrow : RowAt T W (d + 1) ao f.kids) (hT : ∀ b, T b → b < W.heap.size) (hle : f.kids.length ≤ ca)
  (h24 : ∀ g ∈ f.kids, ∀ (ko : Option Addr) (kc : Nat) (u : World), RowAt T u d ko g.kids → (∀ b, T b → b < u.heap.size) → g.kids.length ≤ kc → Calls Tryz.prog 24 #[.agg #[.string g.name, .bool g.nul, .int .i64 g.kind, .int .i64 g.width, .int .i64 g.id, .int .i64 g.index, .slice ko g.kids.length kc]] u fun e w' => ∃ v, e = .returned v ∧ Gr u w' ∧ FVx d u w' (bareF d g) v) (c1 : f.kind = 19 ∨ f.kind = 20) (hne : f.kids ≠ []) :
  Calls Tryz.prog 24 #[.agg #[.string f.name, .bool f.nul, .int .i64 f.kind, .int .i64 f.width, .int .i64 f.id, .int .i64 f.index, .slice ao f.kids.length ca]] W fun e w' => ∃ v, e = .returned v ∧ Gr W w' ∧ FVx (d + 1) W w' (bareF (d + 1) f) v := by
 obtain ⟨n, hn⟩ : ∃ n, n = f.kids.length := ⟨_, rfl⟩
 have hlen : n ≤ 1000000000000 := by rw [hn]; exact hrow.1
 obtain ⟨A0, hA0, g0, b0⟩ := nw W (.cells #[.string f.name, .bool f.nul, .int .i64 f.kind, .int .i64 f.width, .int .i64 f.id, .int .i64 f.index, .slice ao n ca] 58)
 obtain ⟨A1, hA1, g1, b1⟩ := nw A0 (.cells #[.string ⟨#[]⟩, .bool false, .int .i64 0, .int .i64 0, .int .i64 0, .int .i64 0, .slice none 0 0] 58)
 have s0 := sz_al hA0
 have s1 := sz_al hA1
 rw [s0] at b1 s1
 have gW : Gr W A1 := g0.tr g1
 have b01 := (g1.block _ (lt_of_heap b0) id).trans b0
 obtain ⟨e0, e1, e2, e3, e4, e5, e6⟩ := cell7 b01
 obtain ⟨b, o, rfl, hb, hi⟩ := hrow.2 hne
 have h0 : 0 < f.kids.length := by cases hk : f.kids with | nil => exact absurd hk hne | cons _ _ => simp
 obtain ⟨ko, kc, hc, hle0, hr⟩ := hi 0 h0
 obtain ⟨g, hg⟩ : ∃ g, g = f.kids[0] := ⟨_, rfl⟩
 rw [← hg] at hc hle0 hr
 rw [Nat.zero_mul, Nat.add_zero] at hc
 have hcw := hc.kept (gW.block b (hT b hb) id)
 obtain ⟨x0, x1, x2, x3, x4, x5, x6⟩ := hcw
 have HQ := hidM (h24 g (by rw [hg]; exact List.getElem_mem h0) ko kc A1 (hr.kept fun z hz => gW.block z (hT z hz) id) (fun z hz => Nat.lt_of_lt_of_le (hT z hz) gW.size) hle0)
 have hbar : bareF (d + 1) f = .mk f.name f.nul (bareF d g).kind (bareF d g).width (bareF d g).id (bareF d g).index (bareF d g).kids := by
  rw [bareF, if_pos c1]
  cases hk : f.kids with
  | nil => exact absurd hk hne
  | cons a t => simp [hg, hk]
 have hnI : (0 : Int) < (n : Int) := by omega
 have HB := hidM (And.intro b01 (And.intro b1 (And.intro gW (And.intro s0 s1))))
 have HF := hidM hbar
 rw [← hn]
 have hbr : (f.kind == 19) = true ∨ ((f.kind == 19) = false ∧ (f.kind == 20) = true) := by
  rcases c1 with e | e
  ·exact .inl (by simp [e])
  exact .inr ⟨by simp [e], by simp [e]⟩
 clear hrow hT h24 hi hc hb hr hle0 hle g0 g1 b0 b1 b01 gW s0 s1 hbar c1 hne
 clear hn hg
 rcases hbr with k1 | ⟨k1, k2⟩
 ·go_enter Tryz.func24, Tryz.ntmps24
  go_wp2_with (go_at_call 24; refine Hid.out ?_)
  unfold Hid
  (try rw [hA0]); (try rw [hA1])
  refine Calls.mono HQ.out ?_
  rintro e V ⟨v, rfl, gV, hv⟩
  obtain ⟨xo, xc, rfl, hxl, hxr⟩ := hv
  obtain ⟨r, hrr⟩ : ∃ r, r = bareF d g := ⟨_, rfl⟩
  rw [← hrr] at hxl hxr ⊢
  have hfd : ∀ w, (Instr.field 58 (.agg #[.string r.name, .bool r.nul, .int .i64 r.kind, .int .i64 r.width, .int .i64 r.id, .int .i64 r.index, .slice xo r.kids.length xc]) 2).run Tryz.prog w = .ok (.agg #[.int .i64 r.kind, .int .i64 r.width, .int .i64 r.id, .int .i64 r.index, .slice xo r.kids.length xc]) w := fun w => fld58 _ _ _ _ _ _ _ w
  obtain ⟨b01, b1, gW, s0, s1⟩ := HB.out
  have p0 := (gV.block _ (lt_of_heap b01) id).trans b01
  have q0 := (gV.block _ (lt_of_heap b1) id).trans b1
  have fp := frz p0
  obtain ⟨u0, u1, u2, u3, u4, u5, u6⟩ := cell7 p0
  obtain ⟨V1, hV1⟩ := ex (setAll V W.heap.size [(2, .int .i64 r.kind), (3, .int .i64 r.width), (4, .int .i64 r.id), (5, .int .i64 r.index), (6, .slice xo r.kids.length xc)])
  have kp : Keeps V V1 (fun z => z = W.heap.size) := by rw [← hV1]; exact setAll_kp _ _ _
  have p1 : V1.heap[W.heap.size]? = some (.cells #[.string f.name, .bool f.nul, .int .i64 r.kind, .int .i64 r.width, .int .i64 r.id, .int .i64 r.index, .slice xo r.kids.length xc] 58) := by rw [← hV1, setAll_blk W.heap.size 58 _ _ _ p0]; simp [setsA]
  have q1 := (kp.block (W.heap.size + 1) (lt_of_heap q0) (by omega)).trans q0
  obtain ⟨y0, y1, y2, y3, y4, y5, y6⟩ := cell7 p1
  obtain ⟨r0, r1, r2, r3, r4, r5, r6⟩ := cell7 q1
  have fq := frz q1
  obtain ⟨U, hU⟩ := ex (setAll V1 (W.heap.size + 1) [(0, .string f.name), (1, .bool f.nul), (2, .int .i64 r.kind), (3, .int .i64 r.width), (4, .int .i64 r.id), (5, .int .i64 r.index), (6, .slice xo r.kids.length xc)])
  have ku : Keeps V1 U (fun z => z = (W.heap.size + 1)) := by rw [← hU]; exact setAll_kp _ _ _
  have hu : U.heap[(W.heap.size + 1)]? = some (.cells #[.string f.name, .bool f.nul, .int .i64 r.kind, .int .i64 r.width, .int .i64 r.id, .int .i64 r.index, .slice xo r.kids.length xc] 58) := by rw [← hU, setAll_blk (W.heap.size + 1) 58 _ _ _ q1]; simp [setsA]
  have HU := hidM hu
  have HE : Hid (Gr W U ∧ FVx (d + 1) W U (bareF (d + 1) f) (.agg #[.string f.name, .bool f.nul, .int .i64 r.kind, .int .i64 r.width, .int .i64 r.id, .int .i64 r.index, .slice xo r.kids.length xc])) := by
   have hs := gV.size
   have hs1 := kp.size
   have hs2 := ku.size
   refine ⟨((gW.tr gV).trans kp (fun j hj (e : j = W.heap.size) => by omega)).trans ku (fun j hj e => by have e' : j = (W.heap.size + 1) := e; omega), xo, xc, ?_, ?_, ?_⟩
   ·rw [HF.out, ← hrr]; rfl
   ·rw [HF.out, ← hrr]; exact hxl
   rw [HF.out, ← hrr]
   exact (((hxr.kept fun z hz => kp.block z hz.2 (by have := hz.1; omega)).kept fun z hz => ku.block z (by have := hz.2; omega) (by have := hz.1; omega)).mono fun z hz => ⟨by have := hz.1; omega, by have := hz.2; omega⟩).up
  simp only [setAll] at hV1 hU
  clear p0 q0 kp p1 q1 ku hu gV hxl hxr hrr
  go_wp2_with fail
  (try simp only [Exit.inBlock, Exit.then])
  refine bodyPost_ret (results_cell58 rfl rfl (by with_reducible exact HU.out) (by kernel_rfl)) rfl ?_
  exact ⟨_, rfl, HE.out⟩
 go_enter Tryz.func24, Tryz.ntmps24
 go_wp2_with (go_at_call 24; refine Hid.out ?_)
 unfold Hid
 (try rw [hA0]); (try rw [hA1])
 refine Calls.mono HQ.out ?_
 rintro e V ⟨v, rfl, gV, hv⟩
 obtain ⟨xo, xc, rfl, hxl, hxr⟩ := hv
 obtain ⟨r, hrr⟩ : ∃ r, r = bareF d g := ⟨_, rfl⟩
 rw [← hrr] at hxl hxr ⊢
 have hfd : ∀ w, (Instr.field 58 (.agg #[.string r.name, .bool r.nul, .int .i64 r.kind, .int .i64 r.width, .int .i64 r.id, .int .i64 r.index, .slice xo r.kids.length xc]) 2).run Tryz.prog w = .ok (.agg #[.int .i64 r.kind, .int .i64 r.width, .int .i64 r.id, .int .i64 r.index, .slice xo r.kids.length xc]) w := fun w => fld58 _ _ _ _ _ _ _ w
 obtain ⟨b01, b1, gW, s0, s1⟩ := HB.out
 have p0 := (gV.block _ (lt_of_heap b01) id).trans b01
 have q0 := (gV.block _ (lt_of_heap b1) id).trans b1
 have fp := frz p0
 obtain ⟨u0, u1, u2, u3, u4, u5, u6⟩ := cell7 p0
 obtain ⟨V1, hV1⟩ := ex (setAll V W.heap.size [(2, .int .i64 r.kind), (3, .int .i64 r.width), (4, .int .i64 r.id), (5, .int .i64 r.index), (6, .slice xo r.kids.length xc)])
 have kp : Keeps V V1 (fun z => z = W.heap.size) := by rw [← hV1]; exact setAll_kp _ _ _
 have p1 : V1.heap[W.heap.size]? = some (.cells #[.string f.name, .bool f.nul, .int .i64 r.kind, .int .i64 r.width, .int .i64 r.id, .int .i64 r.index, .slice xo r.kids.length xc] 58) := by rw [← hV1, setAll_blk W.heap.size 58 _ _ _ p0]; simp [setsA]
 have q1 := (kp.block (W.heap.size + 1) (lt_of_heap q0) (by omega)).trans q0
 obtain ⟨y0, y1, y2, y3, y4, y5, y6⟩ := cell7 p1
 obtain ⟨r0, r1, r2, r3, r4, r5, r6⟩ := cell7 q1
 have fq := frz q1
 obtain ⟨U, hU⟩ := ex (setAll V1 (W.heap.size + 1) [(0, .string f.name), (1, .bool f.nul), (2, .int .i64 r.kind), (3, .int .i64 r.width), (4, .int .i64 r.id), (5, .int .i64 r.index), (6, .slice xo r.kids.length xc)])
 have ku : Keeps V1 U (fun z => z = (W.heap.size + 1)) := by rw [← hU]; exact setAll_kp _ _ _
 have hu : U.heap[(W.heap.size + 1)]? = some (.cells #[.string f.name, .bool f.nul, .int .i64 r.kind, .int .i64 r.width, .int .i64 r.id, .int .i64 r.index, .slice xo r.kids.length xc] 58) := by rw [← hU, setAll_blk (W.heap.size + 1) 58 _ _ _ q1]; simp [setsA]
 have HU := hidM hu
 have HE : Hid (Gr W U ∧ FVx (d + 1) W U (bareF (d + 1) f) (.agg #[.string f.name, .bool f.nul, .int .i64 r.kind, .int .i64 r.width, .int .i64 r.id, .int .i64 r.index, .slice xo r.kids.length xc])) := by
  have hs := gV.size
  have hs1 := kp.size
  have hs2 := ku.size
  refine ⟨((gW.tr gV).trans kp (fun j hj (e : j = W.heap.size) => by omega)).trans ku (fun j hj e => by have e' : j = (W.heap.size + 1) := e; omega), xo, xc, ?_, ?_, ?_⟩
  ·rw [HF.out, ← hrr]; rfl
  ·rw [HF.out, ← hrr]; exact hxl
  rw [HF.out, ← hrr]
  exact (((hxr.kept fun z hz => kp.block z hz.2 (by have := hz.1; omega)).kept fun z hz => ku.block z (by have := hz.2; omega) (by have := hz.1; omega)).mono fun z hz => ⟨by have := hz.1; omega, by have := hz.2; omega⟩).up
 simp only [setAll] at hV1 hU
 clear p0 q0 kp p1 q1 ku hu gV hxl hxr hrr
 go_wp2_with fail
 (try simp only [Exit.inBlock, Exit.then])
 refine bodyPost_ret (results_cell58 rfl rfl (by with_reducible exact HU.out) (by kernel_rfl)) rfl ?_
 exact ⟨_, rfl, HE.out⟩
theorem mkF (n : Nat) (hn : n ≤ 1000000000000) (w : World) : (Instr.makeSlice 22 (.int .i64 (n : Int)) (.int .i64 (n : Int))).run Tryz.prog w = .ok (.slice (some ⟨w.heap.size, 0, none⟩) n n) (w.alloc (.cells (madeCells z37.cells (n * 7)) 58)) := by
 obtain ⟨i, hi, h3⟩ : ∃ i, Tryz.prog.info? 58 = some i ∧ (i.zero, i.size, i.bytes) = (some z37, 7, 80) := by
  have h := info37
  cases hh : Tryz.prog.info? 58 with
  | none => rw [hh] at h; cases h
  | some i => rw [hh] at h; exact ⟨i, rfl, by simpa using h⟩
 simp only [Prod.mk.injEq] at h3
 obtain ⟨hz, hs, hb⟩ := h3
 have h := run_make (P := Tryz.prog) w 22 58 i z37 Tryz.underlying22 hi hz .i64 .i64 (n : Int) (n : Int) (by omega) (by omega) (by rw [hb]; omega) (by omega)
 rw [hs] at h
 simpa using h
theorem bare24_list (d : Nat) (T : Nat → Prop) (f : FT) (ao : Option Addr) (ca : Nat) (W : World) (hrow : RowAt T W (d + 1) ao f.kids) (hT : ∀ b, T b → b < W.heap.size) (hle : f.kids.length ≤ ca)
  (h24 : ∀ g ∈ f.kids, ∀ (ko : Option Addr) (kc : Nat) (u : World), RowAt T u d ko g.kids → (∀ b, T b → b < u.heap.size) → g.kids.length ≤ kc → Calls Tryz.prog 24 #[.agg #[.string g.name, .bool g.nul, .int .i64 g.kind, .int .i64 g.width, .int .i64 g.id, .int .i64 g.index, .slice ko g.kids.length kc]] u fun e w' => ∃ v, e = .returned v ∧ Gr u w' ∧ FVx d u w' (bareF d g) v) (c1 : ¬ (f.kind = 19 ∨ f.kind = 20)) :
  Calls Tryz.prog 24 #[.agg #[.string f.name, .bool f.nul, .int .i64 f.kind, .int .i64 f.width, .int .i64 f.id, .int .i64 f.index, .slice ao f.kids.length ca]] W fun e w' => ∃ v, e = .returned v ∧ Gr W w' ∧ FVx (d + 1) W w' (bareF (d + 1) f) v := by
 obtain ⟨n, hn⟩ : ∃ n, n = f.kids.length := ⟨_, rfl⟩
 have hlen : n ≤ 1000000000000 := by rw [hn]; exact hrow.1
 obtain ⟨A0, hA0, g0, b0⟩ := nw W (.cells #[.string f.name, .bool f.nul, .int .i64 f.kind, .int .i64 f.width, .int .i64 f.id, .int .i64 f.index, .slice ao n ca] 58)
 obtain ⟨A1, hA1, g1, b1⟩ := nw A0 (.cells #[.string ⟨#[]⟩, .bool false, .int .i64 0, .int .i64 0, .int .i64 0, .int .i64 0, .slice none 0 0] 58)
 have s0 := sz_al hA0
 have s1 := sz_al hA1
 have gW : Gr W A1 := g0.tr g1
 have b01 := (g1.block _ (lt_of_heap b0) id).trans b0
 obtain ⟨e0, e1, e2, e3, e4, e5, e6⟩ := cell7 b01
 have hbar : bareF (d + 1) f = .mk f.name f.nul f.kind f.width f.id f.index (f.kids.map (bareF d)) := by rw [bareF, if_neg c1]
 have k1 : (f.kind == 19) = false := by simp; omega
 have k2 : (f.kind == 20) = false := by simp; omega
 have hmk := mkF n hlen A1
 have hst := BarI.start A1 d f.kids
 rw [← hn] at hst
 obtain ⟨zz, hzz⟩ := ex (madeCells z37.cells (n * 7))
 rw [hzz] at hmk hst
 obtain ⟨A2, hA2⟩ := ex (A1.alloc (.cells zz 58))
 rw [hA2] at hst
 have gW2 : Gr W A2 := gW.tr hst.gr
 have v6 : A2.cell? ⟨W.heap.size, 6, none⟩ = some (.slice ao n ca) := hst.gr.cell' e6 id
 have HB := hidM (And.intro b01 (And.intro b1 (And.intro gW (And.intro s0 s1))))
 have HF := hidM hbar
 have HR := hidM hrow
 have HT := hidM hT
 have H24 := hidM h24
 have HST := hidM hst
 rw [← hn]
 have HN := hidM hn
 clear hrow hT h24 hle g0 g1 b0 b1 b01 gW s0 s1 hbar c1 hst gW2 hn hzz e0 e1 e3 e4 e5
 go_enter Tryz.func24, Tryz.ntmps24
 go_wp2_with fail
 go_loopw [34] (fun p wr => ∃ k : Nat, k ≤ n ∧ p = .int .i64 (k : Int) ∧ Hid (BarI A1 wr d f.kids A1.heap.size k)) (fun p _ => n - (intOf p).toNat)
 case atStart => exact ⟨0, by omega, rfl, HST⟩
 case round =>
  obtain ⟨k, hk, rfl, HK⟩ := hrel
  clear hmk v6 e2 e6
  by_cases hlt : k < n
  ·have hkl : k < f.kids.length := by have := HN.out; omega
   obtain ⟨b, o, rfl, hb, hi⟩ := HR.out.2 (fun h => by rw [h] at hkl; simp at hkl)
   obtain ⟨ko, kc, hc, hle0, hr⟩ := hi k hkl
   obtain ⟨x, hx⟩ : ∃ x, x = f.kids[k]'hkl := ⟨_, rfl⟩
   rw [← hx] at hc hle0 hr
   have gWr : Gr W wr := HB.out.2.2.1.tr HK.out.gr
   have hcw := hc.kept (gWr.block b (HT.out b hb) id)
   obtain ⟨x0, x1, x2, x3, x4, x5, x6⟩ := hcw
   obtain ⟨X, hX, gX, bX⟩ := nw wr (.cells #[.string ⟨#[]⟩, .bool false, .int .i64 0, .int .i64 0, .int .i64 0, .int .i64 0, .slice none 0 0] 58)
   have sX := sz_al hX
   obtain ⟨z0, z1, z2, z3, z4, z5, z6⟩ := cell7 bX
   have fX := frz bX
   obtain ⟨Y, hY⟩ := ex (setAll X wr.heap.size [(0, .string x.name), (1, .bool x.nul), (2, .int .i64 x.kind), (3, .int .i64 x.width), (4, .int .i64 x.id), (5, .int .i64 x.index), (6, .slice ko x.kids.length kc)])
   have kY : Keeps X Y (fun z => z = wr.heap.size) := by rw [← hY]; exact setAll_kp _ _ _
   have bY : Y.heap[wr.heap.size]? = some (.cells #[.string x.name, .bool x.nul, .int .i64 x.kind, .int .i64 x.width, .int .i64 x.id, .int .i64 x.index, .slice ko x.kids.length kc] 58) := by rw [← hY, setAll_blk wr.heap.size 58 _ _ _ bX]; simp [setsA]
   obtain ⟨t0, t1, t2, t3, t4, t5, t6⟩ := cell7 bY
   have gY : Gr wr Y := gX.trans kY (fun j hj (e : j = wr.heap.size) => by omega)
   have gWY : Gr W Y := gWr.tr gY
   have HQ := hidM (H24.out x (by rw [hx]; exact List.getElem_mem hkl) ko kc Y (hr.kept fun z hz => gWY.block z (HT.out z hz) id) (fun z hz => Nat.lt_of_lt_of_le (HT.out z hz) gWY.size) hle0)
   have HY := hidM gY
   have HX := hidM hx
   have hltI : (k : Int) < (n : Int) := by omega
   simp only [setAll] at hY
   clear gWr gX bX sX kY bY gY gWY hb hi hc hle0 hr
   clear hx
   go_wp2_with (go_at_call 24; refine Hid.out ?_)
   unfold Hid
   (try rw [hX]); (try rw [hY])
   refine Calls.mono HQ.out ?_
   rintro e V ⟨v, rfl, gV, hv⟩
   obtain ⟨xo, xc, rfl, hxl, hxr⟩ := hv
   obtain ⟨r, hrr⟩ : ∃ r, r = bareF d x := ⟨_, rfl⟩
   rw [← hrr] at hxl hxr ⊢
   have hN := HK.out.next hkl (by rw [hrr, HX.out]) HY.out gV hxl hxr
   obtain ⟨cur, hb, hsz⟩ := HK.out.box
   have hb2 := ((HY.out.tr gV).block _ (lt_of_heap hb) id).trans hb
   have fz := fun j => frz hb2 j
   have hcell : ∀ t, t < 7 → ∃ v, V.cell? ⟨A1.heap.size, k * 7 + t, none⟩ = some v := fun t ht => by
    have hlt : k * 7 + t < cur.size := by rw [hsz]; omega
    exact ⟨cur[k * 7 + t], by simp [World.cell?, hb2, hlt]⟩
   obtain ⟨w0, h0⟩ := hcell 0 (by omega)
   obtain ⟨w1, h1⟩ := hcell 1 (by omega)
   obtain ⟨w2, h2⟩ := hcell 2 (by omega)
   obtain ⟨w3, h3⟩ := hcell 3 (by omega)
   obtain ⟨w4, h4⟩ := hcell 4 (by omega)
   obtain ⟨w5, h5⟩ := hcell 5 (by omega)
   obtain ⟨w6, h6⟩ := hcell 6 (by omega)
   rw [Nat.add_zero] at h0
   obtain ⟨U, hU⟩ := ex (setAll V A1.heap.size [(k * 7, .string r.name), (k * 7 + 1, .bool r.nul), (k * 7 + 2, .int .i64 r.kind), (k * 7 + 3, .int .i64 r.width), (k * 7 + 4, .int .i64 r.id), (k * 7 + 5, .int .i64 r.index), (k * 7 + 6, .slice xo r.kids.length xc)])
   rw [hU] at hN
   have HNx := hidM hN
   simp only [setAll] at hU
   clear hN hb hb2 hsz hcell gV hxl hxr hrr x0 x1 x2 x3 x4 x5 x6 z0 z1 z2 z3 z4 z5 z6 t0 t1 t2 t3 t4 t5 t6 fX hY hX
   go_wp2_with fail
   go_roundw
   case rel => exact ⟨k + 1, by omega, by simp, HNx⟩
   case measure => simp [intOf]; omega
  have hkn : k = n := by omega
  subst hkn
  have hI := HK.out
  have hIr : RowAt (NewB A1 wr) wr (d + 1) (some ⟨A1.heap.size, 0, none⟩) (f.kids.map (bareF d)) := by
   have h := hI
   rw [HN.out] at h
   exact h.row HR.out.1
  obtain ⟨b01, b1, gW, s0, s1⟩ := HB.out
  have p0 := (hI.gr.block _ (lt_of_heap b01) id).trans b01
  have q0 := (hI.gr.block _ (lt_of_heap b1) id).trans b1
  have fp := frz p0
  obtain ⟨u0, u1, u2, u3, u4, u5, u6⟩ := cell7 p0
  obtain ⟨V1, hV1⟩ := ex (wr.setCell ⟨W.heap.size, 6, none⟩ (.slice (some ⟨A1.heap.size, 0, none⟩) k k))
  have kp : Keeps wr V1 (fun z => z = W.heap.size) := by rw [← hV1]; exact Keeps.setCell (S := fun z => z = W.heap.size) (p := ⟨W.heap.size, 6, none⟩) (Keeps.refl wr _) (fun _ => rfl) _
  have p1 : V1.heap[W.heap.size]? = some (.cells #[.string f.name, .bool f.nul, .int .i64 f.kind, .int .i64 f.width, .int .i64 f.id, .int .i64 f.index, .slice (some ⟨A1.heap.size, 0, none⟩) k k] 58) := by rw [← hV1, heap_setCell_same wr W.heap.size 6 _ _ _ p0]; rfl
  have q1 := (kp.block A0.heap.size (lt_of_heap q0) (by omega)).trans q0
  obtain ⟨y0, y1, y2, y3, y4, y5, y6⟩ := cell7 p1
  obtain ⟨r0, r1, r2, r3, r4, r5, r6⟩ := cell7 q1
  have fq := frz q1
  obtain ⟨U, hU⟩ := ex (setAll V1 A0.heap.size [(0, .string f.name), (1, .bool f.nul), (2, .int .i64 f.kind), (3, .int .i64 f.width), (4, .int .i64 f.id), (5, .int .i64 f.index), (6, .slice (some ⟨A1.heap.size, 0, none⟩) k k)])
  have ku : Keeps V1 U (fun z => z = A0.heap.size) := by rw [← hU]; exact setAll_kp _ _ _
  have hu : U.heap[A0.heap.size]? = some (.cells #[.string f.name, .bool f.nul, .int .i64 f.kind, .int .i64 f.width, .int .i64 f.id, .int .i64 f.index, .slice (some ⟨A1.heap.size, 0, none⟩) k k] 58) := by rw [← hU, setAll_blk A0.heap.size 58 _ _ _ q1]; simp [setsA]
  have HU := hidM hu
  have HE : Hid (Gr W U ∧ FVx (d + 1) W U (bareF (d + 1) f) (.agg #[.string f.name, .bool f.nul, .int .i64 f.kind, .int .i64 f.width, .int .i64 f.id, .int .i64 f.index, .slice (some ⟨A1.heap.size, 0, none⟩) k k])) := by
   have hs := hI.gr.size
   have hs1 := kp.size
   have hs2 := ku.size
   have hL : (f.kids.map (bareF d)).length = k := by rw [List.length_map]; exact HN.out.symm
   refine ⟨((gW.tr hI.gr).trans kp (fun j hj (e : j = W.heap.size) => by omega)).trans ku (fun j hj (e : j = A0.heap.size) => by omega), some ⟨A1.heap.size, 0, none⟩, k, ?_, ?_, ?_⟩
   ·rw [HF.out]
    show _ = Value.agg #[.string f.name, .bool f.nul, .int .i64 f.kind, .int .i64 f.width, .int .i64 f.id, .int .i64 f.index, .slice (some ⟨A1.heap.size, 0, none⟩) (f.kids.map (bareF d)).length k]
    rw [hL]
   ·rw [HF.out]; exact Nat.le_of_eq hL
   rw [HF.out]
   exact ((hIr.kept fun z hz => kp.block z hz.2 (by have := hz.1; omega)).kept fun z hz => ku.block z (by have := hz.2; omega) (by have := hz.1; omega)).mono fun z hz => ⟨by have := hz.1; omega, by have := hz.2; omega⟩
  simp only [setAll] at hU
  clear p0 q0 kp p1 q1 ku hu hIr hI gW b01 b1 s0 s1
  go_wp2_with fail
  (try simp only [Exit.inBlock, Exit.then])
  refine bodyPost_ret (results_cell58 rfl rfl (by with_reducible exact HU.out) (by kernel_rfl)) rfl ?_
  exact ⟨_, rfl, HE.out⟩
theorem bare24 : ∀ (d : Nat) (T : Nat → Prop) (f : FT) (ao : Option Addr) (ca : Nat) (W : World), RowAt T W d ao f.kids → (∀ b, T b → b < W.heap.size) → f.kids.length ≤ ca → okB d f →
  Calls Tryz.prog 24 #[.agg #[.string f.name, .bool f.nul, .int .i64 f.kind, .int .i64 f.width, .int .i64 f.id, .int .i64 f.index, .slice ao f.kids.length ca]] W fun e w' => ∃ v, e = .returned v ∧ Gr W w' ∧ FVx d W w' (bareF d f) v
 | 0, T, f, ao, ca, W, hrow, hT, hle, hok => by
  have hk : f.kids = [] := hok.2
  refine Calls.mono (bare24_list 0 T f ao ca W hrow.up hT hle (fun g hg => by rw [hk] at hg; cases hg) hok.1) ?_
  rintro e w' ⟨v, rfl, g, ko, kc, hv, hl, hr⟩
  have hb : bareF (0 + 1) f = f := by
   rw [bareF, if_neg hok.1, hk]
   cases f with | mk a b c d e g l => cases hk; rfl
  rw [hb] at hv hl hr
  exact ⟨v, rfl, g, ko, kc, hv, hl, hk⟩
 | d + 1, T, f, ao, ca, W, hrow, hT, hle, hok => by
  have h24 : ∀ g ∈ f.kids, ∀ (ko : Option Addr) (kc : Nat) (u : World), RowAt T u d ko g.kids → (∀ b, T b → b < u.heap.size) → g.kids.length ≤ kc → Calls Tryz.prog 24 #[.agg #[.string g.name, .bool g.nul, .int .i64 g.kind, .int .i64 g.width, .int .i64 g.id, .int .i64 g.index, .slice ko g.kids.length kc]] u fun e w' => ∃ v, e = .returned v ∧ Gr u w' ∧ FVx d u w' (bareF d g) v :=
   fun g hg ko kc u hr ht hl => bare24 d T g ko kc u hr ht hl (hok.2 g hg)
  by_cases c : f.kind = 19 ∨ f.kind = 20
  ·exact bare24_in d T f ao ca W hrow hT hle h24 c (hok.1 c)
  exact bare24_list d T f ao ca W hrow hT hle h24 c
end Go.Proofs.YthhpamhfnpacpaaGreatDoor.Kit
