import Derived.Test.YtknnoiomdngmfaaGreatDoorDA
import Derived.Maps.AppendAt
import Derived.Deep.RegionHeld3
import Derived.Shelf.Abstract
import Derived.Shelf.RegionOpen
import Derived.Test.YtknnoiomdngmfaaGreatDoorProg
import Derived.WalkKit
import Derived.Laws.BitsLemmas
set_option maxRecDepth 100000
set_option maxHeartbeats 4000000
namespace Go.Proofs.YtknnoiomdngmfaaGreatDoor.Ink
open Go.Proofs.YtknnoiomdngmfaaGreatDoor.Kit
open Go.RowKit Go.Shelf Go.Deep
set_option linter.unusedVariables false
abbrev Gr (w w' : World) : Prop := Keeps w w' (fun _ => False)
theorem own_kp {W W' : World} {t : Nat} {v : Value} {n : Nat} {xs : List Value} (h : W.ownsRow 0 t 1 v n xs) (e : ∀ g, v.ownBlock = some g → W'.heap[g]? = W.heap[g]?) : W'.ownsRow 0 t 1 v n xs := by
  refine ⟨h.1, h.2.imp id ?_⟩
  rintro ⟨g, cap, cur, rfl, h0, hg, r⟩
  exact ⟨g, cap, cur, rfl, h0, (e g rfl).trans hg, r⟩
theorem own_lt {w : World} {t s : Nat} {v : Value} {n : Nat} {xs : List Value} (h : w.ownsRow 0 t s v n xs) (g : Nat) (e : v.ownBlock = some g) : g < w.heap.size := by
  rcases h.2 with ⟨rfl, _⟩ | ⟨g', cap, cur, rfl, _, hgg, _⟩
  · simp [Value.ownBlock] at e
  simp [Value.ownBlock] at e
  subst e
  exact (Array.getElem?_eq_some_iff.1 hgg).1
theorem beqF {a b : Int} (h : ¬ a = b) : (a == b) = false := by simpa using h
theorem gr_alloc (w : World) (o : Obj) : Gr w (w.alloc o) := (Keeps.refl w _).alloc o
theorem gr_al {W A : World} {o : Obj} (h : W.alloc o = A) : Gr W A := h ▸ gr_alloc W o
theorem hidM {p : Prop} (h : p) : Hid p := h
theorem lt_of_heap {W : World} {B : Nat} {o : Obj} (h : W.heap[B]? = some o) : B < W.heap.size := (Array.getElem?_eq_some_iff.1 h).1
theorem frz {W : World} {B t : Nat} {c : Array Value} (h : W.heap[B]? = some (.cells c t)) (j : Nat) : W.frozen? ⟨B, j, none⟩ = false := by simp [World.frozen?, h]
theorem frz5 {W : World} {B t : Nat} {c : Array Value} (h : W.heap[B]? = some (.cells c t)) : W.frozen? ⟨B, 0, none⟩ = false ∧ W.frozen? ⟨B, 1, none⟩ = false ∧ W.frozen? ⟨B, 2, none⟩ = false ∧ W.frozen? ⟨B, 3, none⟩ = false ∧ W.frozen? ⟨B, 4, none⟩ = false := ⟨frz h 0, frz h 1, frz h 2, frz h 3, frz h 4⟩
theorem frz6 {W : World} {B t : Nat} {c : Array Value} (h : W.heap[B]? = some (.cells c t)) : W.frozen? ⟨B, 0, none⟩ = false ∧ W.frozen? ⟨B, 1, none⟩ = false ∧ W.frozen? ⟨B, 2, none⟩ = false ∧ W.frozen? ⟨B, 3, none⟩ = false ∧ W.frozen? ⟨B, 4, none⟩ = false ∧ W.frozen? ⟨B, 5, none⟩ = false := ⟨frz h 0, frz h 1, frz h 2, frz h 3, frz h 4, frz h 5⟩
theorem frz7 {W : World} {B t : Nat} {c : Array Value} (h : W.heap[B]? = some (.cells c t)) : W.frozen? ⟨B, 0, none⟩ = false ∧ W.frozen? ⟨B, 1, none⟩ = false ∧ W.frozen? ⟨B, 2, none⟩ = false ∧ W.frozen? ⟨B, 3, none⟩ = false ∧ W.frozen? ⟨B, 4, none⟩ = false ∧ W.frozen? ⟨B, 5, none⟩ = false ∧ W.frozen? ⟨B, 6, none⟩ = false := ⟨frz h 0, frz h 1, frz h 2, frz h 3, frz h 4, frz h 5, frz h 6⟩
def bv (l : List UInt8) : List Value := l.map fun b => .int .u8 (b.toNat : Int)
theorem info5 : (Tryz.prog.info? 5).map (fun i => (i.zero, i.size, i.bytes)) = some (some (.int .u8 0), 1, 1) := by kernel_rfl
end Go.Proofs.YtknnoiomdngmfaaGreatDoor.Ink
namespace Go.Proofs.YtknnoiomdngmfaaGreatDoor.Ink
open Go.Proofs.YtknnoiomdngmfaaGreatDoor.Kit
open Go.RowKit Go.Deep
theorem size5 : (Tryz.prog.info? 5).map (·.size) = some 1 := by kernel_rfl
def InkAt (w : World) (ty p : Nat) (go : Option Nat) (most : Int) (bs : List Int) : Prop :=
  ∃ v, w.heap[p]? = some (.cells #[v, .int .i64 most] ty (0, 0)) ∧ w.ownsRow 0 5 1 v bs.length (bs.map (Value.int .u8)) ∧ v.ownBlock = go
theorem InkAt.kept {w w' : World} {ty p : Nat} {go : Option Nat} {most : Int} {bs : List Int} {S : Nat → Prop} (h : InkAt w ty p go most bs) (hk : Keeps w w' S) (hp : ¬ S p) (hg : ∀ g, go = some g → ¬ S g) : InkAt w' ty p go most bs := by
  obtain ⟨v, hv, hown, hb⟩ := h
  refine ⟨v, ?_, ?_, hb⟩
  · rw [hk.block p (Array.getElem?_eq_some_iff.1 hv).1 hp]; exact hv
  refine ⟨hown.1, ?_⟩
  rcases hown.2 with hn | ⟨g, cap, cur, rfl, hb', hgg, rest⟩
  · exact .inl hn
  refine .inr ⟨g, cap, cur, rfl, hb', ?_, rest⟩
  rw [hk.block g (Array.getElem?_eq_some_iff.1 hgg).1 (hg g (by rw [← hb]; rfl))]
  exact hgg
theorem InkAt.form {w : World} {ty p : Nat} {go : Option Nat} {most : Int} {bs : List Int} (h : InkAt w ty p go most bs) :
    ∃ ao cap, w.heap[p]? = some (.cells #[.slice ao bs.length cap, .int .i64 most] ty (0, 0)) ∧ w.ownsRow 0 5 1 (.slice ao bs.length cap) bs.length (bs.map (Value.int .u8)) ∧ (Value.slice ao bs.length cap).ownBlock = go ∧
      w.cell? ⟨p, 0, none⟩ = some (.slice ao bs.length cap) ∧ w.cell? ⟨p, 1, none⟩ = some (.int .i64 most) ∧ w.frozen? ⟨p, 0, none⟩ = false := by
  obtain ⟨v, hv, hown, hb⟩ := h
  obtain ⟨ao, cap, rfl⟩ : ∃ ao cap, v = .slice ao bs.length cap := by
    rcases hown.2 with ⟨rfl, h0⟩ | ⟨g, cap, cur, rfl, _⟩
    · exact ⟨none, 0, by rw [h0]⟩
    exact ⟨_, _, rfl⟩
  refine ⟨ao, cap, hv, hown, hb, ?_, ?_, frozen_of_row w p 0 _ _ hv⟩
  · rw [cell_of_row w p 0 _ _ _ hv]; rfl
  rw [cell_of_row w p 1 _ _ _ hv]; rfl
theorem InkAt.lt {w : World} {ty p : Nat} {go : Option Nat} {most : Int} {bs : List Int} (h : InkAt w ty p go most bs) : p < w.heap.size ∧ ∀ g, go = some g → g < w.heap.size := by
  obtain ⟨v, hv, hown, hb⟩ := h
  exact ⟨(Array.getElem?_eq_some_iff.1 hv).1, fun g hg => (hown.lt g (hb.trans hg)).2⟩
theorem own_ne {w : World} {ty p : Nat} {v : Value} {n : Nat} {xs : List Value} {cs : Array Value} (hty : ty ≠ 5) (hp : w.heap[p]? = some (.cells cs ty (0, 0))) (hown : w.ownsRow 0 5 1 v n xs) : v.ownBlock ≠ some p := by
  intro e
  rcases hown.2 with ⟨rfl, _⟩ | ⟨g, cap, cur, rfl, _, hgg, _⟩
  · simp [Value.ownBlock] at e
  simp [Value.ownBlock] at e
  subst e
  rw [hp] at hgg
  simp at hgg
  exact hty hgg.2
theorem InkAt.stored {w w1 : World} {ty p : Nat} {most : Int} {bs bs' : List Int} {v v' : Value} (hty : ty ≠ 5) (hv : w.heap[p]? = some (.cells #[v, .int .i64 most] ty (0, 0))) (hown : w.ownsRow 0 5 1 v bs.length (bs.map (Value.int .u8)))
    (hown' : w1.ownsRow 0 5 1 v' bs'.length (bs'.map (Value.int .u8))) (hgrow : w.grownBy w1 v.ownBlock) :
    w1.cell? ⟨p, 0, none⟩ = some v ∧ w1.frozen? ⟨p, 0, none⟩ = false ∧ InkAt (w1.setCell ⟨p, 0, none⟩ v') ty p v'.ownBlock most bs' ∧ Keeps w (w1.setCell ⟨p, 0, none⟩ v') (fun k => k = p ∨ v.ownBlock = some k) := by
  have hne := own_ne hty hv hown
  have hp1 : w1.heap[p]? = some (.cells #[v, .int .i64 most] ty (0, 0)) := by
    rw [hgrow.block p (Array.getElem?_eq_some_iff.1 hv).1 (fun e => hne e.symm)]; exact hv
  have hne' := own_ne hty hp1 hown'
  refine ⟨by rw [cell_of_row w1 p 0 _ _ _ hp1]; rfl, frozen_of_row w1 p 0 _ _ hp1, ⟨v', ?_, ?_, rfl⟩, ?_⟩
  · rw [heap_setCell_same w1 p 0 _ ty v' hp1]; rfl
  · refine ⟨hown'.1, ?_⟩
    rcases hown'.2 with hn | ⟨g, cap, cur, rfl, hb', hgg, rest⟩
    · exact .inl hn
    refine .inr ⟨g, cap, cur, rfl, hb', ?_, rest⟩
    rw [heap_setCell_other w1 ⟨p, 0, none⟩ g _ (fun e => hne' (by simp [Value.ownBlock, e]))]
    exact hgg
  have k := (Keeps.ofGrown hgrow).mono (T := fun k => k = p ∨ v.ownBlock = some k) fun b _ h => Or.inr h
  exact k.setCell (p := ⟨p, 0, none⟩) (fun _ => Or.inl rfl) _
theorem takes_any (p : Nat) (ao : Option Addr) (n cap : Nat) (most k : Int) (w : World) (h0 : w.cell? ⟨p, 0, none⟩ = some (.slice ao n cap)) (h1 : w.cell? ⟨p, 1, none⟩ = some (.int .i64 most))
    (hm : 0 ≤ most) (hm' : most ≤ 16777216) (hn : n ≤ 16777216) :
    Calls Tryz.prog 368 #[.pointer (some ⟨p, 0, none⟩), .int .i64 k] w fun e w' => e = .returned (.bool (decide (k ≤ most - n))) ∧ ∃ q, w' = w.drewN q := by
  go_enter Tryz.func368, Tryz.ntmps368
  go_wp2
  go_quiet (fail)
  go_wp2
  go_ret
  exact ⟨rfl, _, rfl⟩
def InkDone (w w' : World) (ty p : Nat) (go : Option Nat) (most : Int) (bs' : List Int) : Prop :=
  ∃ go', InkAt w' ty p go' most bs' ∧ Keeps w w' (fun k => k = p ∨ go = some k) ∧ (go' = go ∨ ∀ g, go' = some g → w.heap.size ≤ g)
theorem own_form {w : World} {v : Value} {n : Nat} {xs : List Value} (h : w.ownsRow 0 5 1 v n xs) : ∃ ao cap, v = .slice ao n cap := by
  rcases h.2 with ⟨rfl, h0⟩ | ⟨g, cap, cur, rfl, _⟩
  · exact ⟨none, 0, by rw [h0]⟩
  exact ⟨_, _, rfl⟩
theorem InkDone.same {w : World} {ty p : Nat} {go : Option Nat} {most : Int} {bs : List Int} (h : InkAt w ty p go most bs) (q : Nat) : InkDone w (w.drewN q) ty p go most bs :=
  ⟨go, h, (Keeps.refl _ _).drewN q, .inl rfl⟩
def wideB (n : Int) : Bool := n == 1 || n == 2 || n == 4 || n == 8
theorem ret_bool {a b : Bool} (h : a = b) : Ending.returned (.bool a) = .returned (.bool b) := by rw [h]
theorem isWidth_any (n : Int) (w : World) : Calls Tryz.prog 367 #[.int .i64 n] w fun e w' => e = .returned (.bool (wideB n)) ∧ w = w' := by
  by_cases h1 : n = 1
  · subst h1; go_enter Tryz.func367, Tryz.ntmps367; go_wp2; go_ret; exact ⟨rfl, rfl⟩
  by_cases h2 : n = 2
  · subst h2; go_enter Tryz.func367, Tryz.ntmps367; go_wp2; go_ret; exact ⟨rfl, rfl⟩
  by_cases h4 : n = 4
  · subst h4; go_enter Tryz.func367, Tryz.ntmps367; go_wp2; go_ret; exact ⟨rfl, rfl⟩
  by_cases h8 : n = 8
  · subst h8; go_enter Tryz.func367, Tryz.ntmps367; go_wp2; go_ret; exact ⟨rfl, rfl⟩
  have g1 : (n == 1) = false := by simpa using h1
  have g2 : (n == 2) = false := by simpa using h2
  have g4 : (n == 4) = false := by simpa using h4
  have g8 : (n == 8) = false := by simpa using h8
  have e : Hid (false = wideB n) := by show _ = _; simp [wideB, g1, g2, g4, g8]
  go_enter Tryz.func367, Tryz.ntmps367; go_wp2; go_ret; exact ⟨ret_bool e.out, rfl⟩
theorem InkDone.trans {a b c : World} {ty p : Nat} {go go1 : Option Nat} {most : Int} {bs2 : List Int} (hk : Keeps a b (fun k => k = p ∨ go = some k)) (hg : go1 = go ∨ ∀ g, go1 = some g → a.heap.size ≤ g)
    (h : InkDone b c ty p go1 most bs2) : InkDone a c ty p go most bs2 := by
  obtain ⟨go2, i2, k2, g2⟩ := h
  refine ⟨go2, i2, hk.trans k2 ?_, ?_⟩
  · intro j hj h
    rcases h with h | h
    · exact .inl h
    rcases hg with e | e
    · exact .inr (e ▸ h)
    have := e j h; omega
  rcases g2 with e | e
  · subst e; exact hg
  exact .inr fun g h => Nat.le_trans hk.size (e g h)
def leB (x : Int) (k : Nat) : List Int := (List.range k).map fun i => x / 256 ^ i % 256
theorem leB_succ (x : Int) (k : Nat) : leB x (k + 1) = leB x k ++ [x / 256 ^ k % 256] := by simp [leB, List.range_succ]
theorem leB_length (x : Int) (k : Nat) : (leB x k).length = k := by simp [leB]
theorem u8_wrap (y : Int) : IntKind.u8.wrap y = y % 256 := by simp [IntKind.wrap, IntKind.bits, IntKind.signed]
theorem shr8 (x : Int) (k : Nat) (hk : k < 8) : Op.shift BinOp.shr IntKind.u64 x IntKind.i64 (IntKind.i64.wrap (8 * (k : Int))) = pure (.int .u64 (x / 256 ^ k)) := by
  have e : IntKind.i64.wrap (8 * (k : Int)) = 8 * (k : Int) := by rw [IntKind.wrap_i64]; omega
  rw [e, shift_shr_any _ _ _ _ (by omega)]
  have e2 : (2 : Int) ^ min ((8 * (k : Int)).toNat) IntKind.u64.bits = 256 ^ k := by
    have : min ((8 * (k : Int)).toNat) IntKind.u64.bits = 8 * k := by
      have hb : IntKind.u64.bits = 64 := rfl
      rw [hb]; omega
    rw [this, Int.pow_mul]; rfl
  rw [e2]
def InkForm (w : World) (ty p : Nat) (go : Option Nat) (most : Int) (bs : List Int) (ao : Option Addr) (cap : Nat) : Prop :=
  w.heap[p]? = some (.cells #[.slice ao bs.length cap, .int .i64 most] ty (0, 0)) ∧ w.ownsRow 0 5 1 (.slice ao bs.length cap) bs.length (bs.map (Value.int .u8)) ∧ (Value.slice ao bs.length cap).ownBlock = go
theorem InkAt.open {w : World} {ty p : Nat} {go : Option Nat} {most : Int} {bs : List Int} (h : InkAt w ty p go most bs) :
    ∃ ao cap, Hid (InkForm w ty p go most bs ao cap) ∧ w.cell? ⟨p, 0, none⟩ = some (.slice ao bs.length cap) ∧ w.cell? ⟨p, 1, none⟩ = some (.int .i64 most) ∧ w.frozen? ⟨p, 0, none⟩ = false := by
  obtain ⟨ao, cap, a, b, c, d, e, f⟩ := h.form
  exact ⟨ao, cap, ⟨a, b, c⟩, d, e, f⟩
theorem InkForm.grown {w W w1 : World} {ty p : Nat} {go : Option Nat} {most : Int} {bs : List Int} {ao : Option Addr} {cap : Nat} (hf : InkForm w ty p go most bs ao cap) (hty : ty ≠ 5) (hW : Keeps w W (fun _ => False))
    (news : List Int) {v' : Value} {n' : Nat} {xs' : List Value} (hown' : w1.ownsRow 0 5 1 v' n' xs') (hn : n' = (bs ++ news).length) (hx : xs' = (bs ++ news).map (Value.int .u8))
    (hgrow : W.grownBy w1 (Value.slice ao bs.length cap).ownBlock) (hblk : v'.ownBlock = (Value.slice ao bs.length cap).ownBlock ∨ ∀ g, v'.ownBlock = some g → W.heap.size ≤ g) :
    w1.cell? ⟨p, 0, none⟩ = some (.slice ao bs.length cap) ∧ w1.frozen? ⟨p, 0, none⟩ = false ∧ InkDone w (w1.setCell ⟨p, 0, none⟩ v') ty p go most (bs ++ news) := by
  obtain ⟨hh, ho, hg⟩ := hf
  subst hn hx
  have hI : InkAt W ty p go most bs := InkAt.kept ⟨_, hh, ho, hg⟩ hW id (fun _ _ => id)
  have hh' : W.heap[p]? = some (.cells #[.slice ao bs.length cap, .int .i64 most] ty (0, 0)) := by
    rw [hW.block p (Array.getElem?_eq_some_iff.1 hh).1 id]; exact hh
  have ho' : W.ownsRow 0 5 1 (.slice ao bs.length cap) bs.length (bs.map (Value.int .u8)) := by
    obtain ⟨v, hv, hown, _⟩ := hI
    rw [hh'] at hv
    simp at hv
    rw [← hv] at hown
    exact hown
  obtain ⟨c, f, i, k⟩ := InkAt.stored (w := W) (bs := bs) (bs' := bs ++ news) hty hh' ho' hown' hgrow
  subst hg
  refine ⟨c, f, InkDone.trans (b := W) (go1 := (Value.slice ao bs.length cap).ownBlock) (hW.mono fun _ _ h => h.elim) (.inl rfl) ⟨_, i, k, hblk⟩⟩
theorem Keeps.none_alloc_drew (w : World) (o : Obj) : Keeps w (w.alloc o).drew (fun _ => False) := ((Keeps.refl w _).alloc o).drew
theorem own_alloc_drew {w : World} {v : Value} {n : Nat} {xs : List Value} (h : w.ownsRow 0 5 1 v n xs) (o : Obj) : (w.alloc o).drew.ownsRow 0 5 1 v n xs := h.alloc o
theorem src_one_drew (w : World) (u : Value) (hu : u.oneCell' = true) : Src Tryz.prog 1 50 (.slice (some ⟨w.heap.size, 0, none⟩) 1 1) 1 [u] (w.alloc (.cells #[u] 5)).drew := by
  refine Src.ofSlice _ Tryz.underlying50 _ _ _ _ (by simp) ?_ (by simpa using hu)
  intro j v hj
  match j, hj with
  | 0, hj => simp at hj; subst hj; simp [Addr.add]
theorem number_yes (p : Nat) (go : Option Nat) (most : Int) (bs : List Int) (x : Int) (width : Nat) (w : World) (hI : InkAt w 417 p go most bs) (hm : 0 ≤ most) (hm' : most ≤ 16777216) (hfit : (bs.length : Int) + width ≤ most)
    (hw8 : width ≤ 8) (hwide : wideB width = true) :
    Calls Tryz.prog 364 #[.pointer (some ⟨p, 0, none⟩), .int .u64 x, .int .i64 width] w fun e w' => e = .returned (.int .i64 0) ∧ InkDone w w' 417 p go most (bs ++ leB x width) := by
  obtain ⟨ao, cap, HF, h0, h1, hf⟩ := hI.open
  have hd : decide ((width : Int) ≤ most - (bs.length : Int)) = true := by simp; omega
  have HI : Hid (InkAt w 417 p go most bs) := hI
  clear hI
  go_enter Tryz.func364, Tryz.ntmps364
  go_wp2_with (first | (go_at_call 367; refine (isWidth_any _ _).mono ?_; rintro e w' ⟨rfl, rfl⟩) | (go_at_call 368; refine (takes_any p ao bs.length cap most _ _ h0 h1 hm hm' (by omega)).mono ?_; rintro e w' ⟨rfl, q, rfl⟩))
  go_loopw [16] (fun i wr => ∃ k : Nat, k ≤ width ∧ i = .int .i64 k ∧ Hid (InkDone w wr 417 p go most (bs ++ leB x k))) (fun i _ => width - (intOf i).toNat)
  case atStart => exact ⟨0, Nat.zero_le _, rfl, by have := InkDone.same HI.out q; show InkDone _ _ _ _ _ _ _; simpa [leB] using this⟩
  case round =>
    clear h0 h1 hf hd HF HI
    obtain ⟨k, hk, rfl, HD⟩ := hrel
    by_cases hlt : k < width
    · obtain ⟨go1, i1, k1, g1⟩ := HD.out
      have HK : Hid (Keeps w wr (fun k => k = p ∨ go = some k) ∧ (go1 = go ∨ ∀ g, go1 = some g → w.heap.size ≤ g)) := ⟨k1, g1⟩
      obtain ⟨L, hL⟩ : ∃ L, L = bs ++ leB x k := ⟨_, rfl⟩
      rw [← hL] at i1
      have hNb : (L.length : Int) + (width - k) ≤ most := by rw [hL]; simp [leB_length]; omega
      have HL : Hid (L = bs ++ leB x k) := hL
      obtain ⟨ao, cap, HF, h0, h1, hf⟩ := i1.open
      obtain ⟨y, hy⟩ : ∃ y, y = x / 256 ^ k := ⟨_, rfl⟩
      have hsh : Op.shift BinOp.shr IntKind.u64 x IntKind.i64 (IntKind.i64.wrap (8 * (k : Int))) = pure (.int .u64 y) := by rw [hy]; exact shr8 x k (by omega)
      have HY : Hid (y = x / 256 ^ k) := hy
      have h0a : ∀ o, (wr.alloc o).cell? ⟨p, 0, none⟩ = some (.slice ao L.length cap) := fun o => (((Keeps.refl wr (fun _ => False)).alloc o).cell i1.lt.1 id).trans h0
      clear hy i1 k1 g1 HD hL
      go_wp2
      go_region_law (refine step_append_any _ rfl (.tmp 23) (.tmp 29) 50 50 rfl 5 (.int .u8 0) 1 Tryz.underlying50 info5 rfl _ _ _ rfl (own_alloc_drew HF.out.2.1 _) _ _ _ rfl (src_one_drew wr _ rfl) (by omega) (by omega) ?_; intro v' w1 hown' hgrow hblk; obtain ⟨ao', cap', rfl⟩ := own_form hown'; obtain ⟨c1, f1, D⟩ := InkForm.grown HF.out (by decide) (Keeps.none_alloc_drew wr _) [IntKind.u8.wrap y] hown' (by simp) (by simp) hgrow hblk; have DD : Hid (InkDone wr _ 417 p go1 most (L ++ [IntKind.u8.wrap y])) := D; clear D hown' hgrow hblk)
      all_goals
        go_wp2
        go_roundw
        case rel =>
          refine ⟨k + 1, by omega, by go_num, ?_⟩
          show InkDone _ _ _ _ _ _ _
          have e : bs ++ leB x (k + 1) = L ++ [IntKind.u8.wrap y] := by rw [leB_succ, HL.out, HY.out, u8_wrap]; simp
          rw [e]
          exact InkDone.trans HK.out.1 HK.out.2 DD.out
        case measure => simp [intOf]; omega
    obtain rfl : k = width := by omega
    go_wp2
    go_ret
    exact ⟨rfl, HD.out⟩
def OwnRow (w : World) (g : Nat) (t : TypeId) (L : List Value) : Prop := w.heap[g]? = some (.cells L.toArray t (0, 0))
theorem OwnRow.cell {w : World} {g t j : Nat} {L : List Value} {v : Value} (h : OwnRow w g t L) (hj : L[j]? = some v) : w.cell? ⟨g, j, none⟩ = some v := by
  rw [cell_of_row w g j _ t (0, 0) h]; simpa using hj
theorem splice_all {α : Type} (L cs : List α) (h : cs.length = L.length) : splice L 0 cs = cs := by
  simp [splice, ← h]
def clamp (most : Int) : Int := if most < 0 then 0 else if 16777216 < most then 16777216 else most
theorem newInk_any (most : Int) (w : World) :
    Calls Tryz.prog 363 #[.int .i64 most] w fun e w' => e = .returned (.pointer (some ⟨w.heap.size, 0, none⟩)) ∧ w' = w.alloc (.cells #[.slice none 0 0, .int .i64 (clamp most)] 417) := by
  by_cases h1 : most < 0
  · have e : Hid (clamp most = 0) := by show _ = _; simp [clamp, h1]
    go_enter Tryz.func363, Tryz.ntmps363
    go_wp2
    all_goals (go_ret; first | omega | exact ⟨rfl, by rw [e.out]⟩)
  by_cases h2 : 16777216 < most
  · have e : Hid (clamp most = 16777216) := by show _ = _; simp [clamp, h1, h2]
    go_enter Tryz.func363, Tryz.ntmps363
    go_wp2
    all_goals (go_ret; first | omega | exact ⟨rfl, by rw [e.out]⟩)
  have e : Hid (clamp most = most) := by show _ = _; simp [clamp, h1, h2]
  go_enter Tryz.func363, Tryz.ntmps363
  go_wp2
  all_goals (go_ret; first | omega | exact ⟨rfl, by rw [e.out]⟩)
theorem InkAt.new (w : World) (ty : Nat) (most : Int) : InkAt (w.alloc (.cells #[.slice none 0 0, .int .i64 most] ty)) ty w.heap.size none most [] :=
  ⟨.slice none 0 0, heap_alloc_new w _, World.ownsRow_nil _ _ _ _, rfl⟩
theorem bytes_any (p : Nat) (go : Option Nat) (most : Int) (bs : List Int) (w : World) (hI : InkAt w 417 p go most bs) (hbs : bs.length ≤ 16777216) :
    Calls Tryz.prog 365 #[.pointer (some ⟨p, 0, none⟩)] w fun e w' => e = .returned (.slice (some ⟨w.heap.size, 0, none⟩) bs.length bs.length) ∧ OwnRow w' w.heap.size 5 (bs.map (Value.int .u8)) ∧ Below w.heap.size w w' := by
  obtain ⟨ao, cap, HF, h0, h1, hf⟩ := hI.open
  have HL : Hid (p < w.heap.size) := hI.lt.1
  have h0a : ∀ o, (w.alloc o).cell? ⟨p, 0, none⟩ = some (.slice ao bs.length cap) := fun o => (((Keeps.refl w (fun _ => False)).alloc o).cell hI.lt.1 id).trans h0
  clear hI
  have hmk := run_make_row' (P := Tryz.prog) 50 5 (.int .u8 0) 1 Tryz.underlying50 info5 rfl .i64 .i64 bs.length (by omega) (by omega)
  obtain ⟨cs, hcs⟩ : ∃ cs : List Value, cs = bs.map (Value.int .u8) := ⟨_, rfl⟩
  have HC : Hid (cs = bs.map (Value.int .u8)) := hcs
  clear hcs
  obtain ⟨cur, hcur⟩ : ∃ cur : List Value, cur = (madeCells #[.int .u8 0] bs.length).toList := ⟨_, rfl⟩
  have HCur : Hid (cur = (madeCells #[.int .u8 0] bs.length).toList) := hcur
  clear hcur
  go_enter Tryz.func365, Tryz.ntmps365
  go_wp2_with (with_reducible show wpList Tryz.prog _ _ (Oper.mk (some 15) _ _ _ _ _ :: _) _ _; refine wpList_copy_splice rfl (.tmp 10) (.tmp 14) 50 50 rfl 5 Tryz.underlying50 size5 _ _ _ _ _ _ rfl rfl w.heap.size 0 cur 5 ?hg cs ?hn ?hpos ?hfit ?h1 w.heap.size w ?hb (Nat.le_refl _) ?_)
  case hg => rw [HCur.out]; simpa using heap_alloc_new w _
  case hn => rw [HC.out]; simp
  case hpos =>
    intro hp
    have hown := HF.out.2.1
    rw [HC.out]
    rcases hown.2 with ⟨h, h'⟩ | ⟨g, cap', cur', h, _⟩
    · rw [HC.out] at hp; simp [h'] at hp
    simp only [Value.slice.injEq] at h
    refine ⟨⟨g, 0, none⟩, h.1, fun j v hj => ?_⟩
    have hc := hown.cells (g := g) (by simp [Value.ownBlock, h.1]) j v hj
    exact ((Keeps.refl w (fun _ => False)).alloc _).cell' hc id
  case hfit => rw [HC.out, HCur.out]; simp [size_madeCells]
  case h1 =>
    intro v hv
    rw [HC.out] at hv
    obtain ⟨z, _, rfl⟩ := List.mem_map.1 hv
    rfl
  case hb => exact (Below.refl _ _).alloc (Nat.le_refl _) _
  intro w1 HG1 hB1
  have HO : Hid (OwnRow w1 w.heap.size 5 (bs.map (Value.int .u8))) := by
    have := HG1.out
    rw [splice_all _ _ (by rw [HC.out, HCur.out]; simp [size_madeCells]), HC.out] at this
    exact this
  clear HG1
  go_wp2
  go_ret
  exact ⟨rfl, HO.out, hB1⟩
end Go.Proofs.YtknnoiomdngmfaaGreatDoor.Ink
namespace Go.Proofs.YtknnoiomdngmfaaGreatDoor.Bits
open Go.Proofs.YtknnoiomdngmfaaGreatDoor.Kit
open Go.RowKit
theorem bits_or8 (a b : Nat) (ha : a < 256) (hb : b < 256) : bits .or .u8 (a : Int) (b : Int) = ((a ||| b : Nat) : Int) := (bits_nat .u8 8 (by decide) wraps_u8 a b (by simpa using ha) (by simpa using hb)).2
def cnt (k : Nat) : Nat := [0, 1, 1, 2, 1, 2, 2, 3, 1, 2, 2, 3, 2, 3, 3, 4].getD k 0
def fnd (f : Nat → Bool) (on : Bool) (e at_ : Nat) : Nat := if at_ < e then (if f at_ = on then at_ else fnd f on e (at_ + 1)) else e
termination_by e - at_
def byteOf (g : Nat → Bool) : Nat := (g 0).toNat + 2 * (g 1).toNat + 4 * (g 2).toNat + 8 * (g 3).toNat + 16 * (g 4).toNat + 32 * (g 5).toNat + 64 * (g 6).toNat + 128 * (g 7).toNat
theorem byteOf_bits : ∀ b0 b1 b2 b3 b4 b5 b6 b7 : Bool, ∀ k, k < 8 → (b0.toNat + 2 * b1.toNat + 4 * b2.toNat + 8 * b3.toNat + 16 * b4.toNat + 32 * b5.toNat + 64 * b6.toNat + 128 * b7.toNat).testBit k = [b0, b1, b2, b3, b4, b5, b6, b7].getD k false := by decide +kernel
theorem byteOf_lt (g : Nat → Bool) : byteOf g < 256 := by
  unfold byteOf
  have h : ∀ b : Bool, b.toNat ≤ 1 := by decide
  have := h (g 0); have := h (g 1); have := h (g 2); have := h (g 3); have := h (g 4); have := h (g 5); have := h (g 6); have := h (g 7)
  omega
theorem testBit_byteOf (g : Nat → Bool) (k : Nat) (hk : k < 8) : (byteOf g).testBit k = g k := by
  unfold byteOf
  rw [byteOf_bits _ _ _ _ _ _ _ _ k hk]
  match k, hk with
  | 0, _ => rfl
  | 1, _ => rfl
  | 2, _ => rfl
  | 3, _ => rfl
  | 4, _ => rfl
  | 5, _ => rfl
  | 6, _ => rfl
  | 7, _ => rfl
theorem byte_ext {x y : Nat} (hx : x < 256) (hy : y < 256) (h : ∀ k, k < 8 → x.testBit k = y.testBit k) : x = y := by
  apply Nat.eq_of_testBit_eq
  intro k
  by_cases hk : k < 8
  · exact h k hk
  have e : (256 : Nat) ≤ 2 ^ k := Nat.pow_le_pow_right (n := 2) (by decide) (show 8 ≤ k by omega)
  rw [Nat.testBit_lt_two_pow (Nat.lt_of_lt_of_le hx e), Nat.testBit_lt_two_pow (Nat.lt_of_lt_of_le hy e)]
theorem byteOf_ext {x : Nat} {g : Nat → Bool} (hx : x < 256) (h : ∀ k, k < 8 → x.testBit k = g k) : x = byteOf g :=
  byte_ext hx (byteOf_lt g) fun k hk => by rw [h k hk, testBit_byteOf g k hk]
theorem byteOf_congr {g g' : Nat → Bool} (h : ∀ k, k < 8 → g k = g' k) : byteOf g = byteOf g' := by
  unfold byteOf
  rw [h 0 (by decide), h 1 (by decide), h 2 (by decide), h 3 (by decide), h 4 (by decide), h 5 (by decide), h 6 (by decide), h 7 (by decide)]
def pb (f : Nat → Bool) (i j : Nat) : Nat := byteOf fun k => decide (8 * j + k < i) && f (8 * j + k)
theorem pb_lt (f : Nat → Bool) (i j : Nat) : pb f i j < 256 := byteOf_lt _
theorem pb_zero (f : Nat → Bool) (j : Nat) : pb f 0 j = 0 := by simp [pb, byteOf]
theorem pb_bit (f : Nat → Bool) (i j k : Nat) (hk : k < 8) : (pb f i j).testBit k = (decide (8 * j + k < i) && f (8 * j + k)) := testBit_byteOf _ k hk
theorem pb_skip {f : Nat → Bool} {i : Nat} (h : f i = false) (j : Nat) : pb f (i + 1) j = pb f i j := byteOf_congr fun k _ => by
  by_cases e : 8 * j + k = i
  · rw [e, h]; simp
  congr 1; simp; omega
theorem pb_other {f : Nat → Bool} {i j : Nat} (h : j ≠ i / 8) : pb f (i + 1) j = pb f i j := byteOf_congr fun k hk => by
  congr 1; simp; omega
theorem pb_or {f : Nat → Bool} {i : Nat} (h : f i = true) : pb f i (i / 8) ||| 2 ^ (i % 8) = pb f (i + 1) (i / 8) := by
  have hp : 2 ^ (i % 8) < 2 ^ 8 := Nat.pow_lt_pow_right (by decide) (by omega)
  refine byteOf_ext (Nat.or_lt_two_pow (n := 8) (pb_lt f i _) hp) fun k hk => ?_
  rw [Nat.testBit_or, pb_bit _ _ _ _ hk, Nat.testBit_two_pow]
  by_cases e : i % 8 = k
  · have : 8 * (i / 8) + k = i := by omega
    rw [this, h]; simp [e]
  have : 8 * (i / 8) + k ≠ i := by omega
  simp only [e, decide_false, Bool.or_false]
  congr 1; simp; omega
def need (n : Nat) : Nat := (n + 7) / 8
def mk (f : Nat → Bool) (n : Nat) : List Nat := (List.range (need n)).map (pb f n)
def cn (f : Nat → Bool) : Nat → Nat
  | 0 => 0
  | n + 1 => cn f n + (f n).toNat
def pl (f : Nat → Bool) (k m : Nat) : Nat := fnd (fun r => f r && (cn f r == k)) true m 0
end Go.Proofs.YtknnoiomdngmfaaGreatDoor.Bits
namespace Go.Proofs.YtknnoiomdngmfaaGreatDoor.Bits
open Go.Proofs.YtknnoiomdngmfaaGreatDoor.Kit
open Go.RowKit Go.Deep
def Tab (w : World) : Prop := ∀ k, k < 16 → w.cell? ⟨5, k, none⟩ = some (.int .u8 (cnt k : Nat))
theorem need_neg (m : Int) (h : m ≤ 0) (w : World) : Calls Tryz.prog 259 #[.int .i64 m] w fun e w' => e = .returned (.int .i64 0) ∧ w = w' := by
  go_enter Tryz.func259, Tryz.ntmps259
  go_wp2
  all_goals first | (go_ret; exact ⟨rfl, rfl⟩) | (exfalso; simp at *; omega)
theorem need_pos (m : Nat) (h : m ≤ 9223372036854775807) (w : World) : Calls Tryz.prog 259 #[.int .i64 m] w fun e w' => e = .returned (.int .i64 (need m : Nat)) ∧ w = w' := by
  by_cases h0 : m = 0
  · subst h0; exact need_neg 0 (by omega) w
  go_enter Tryz.func259, Tryz.ntmps259
  go_wp2
  all_goals first | (go_ret; exact ⟨by simp [need]; omega, rfl⟩) | (exfalso; simp at *; omega) | trace_state
def New (w w' : World) (t : Nat) (v : Value) (xs : List Value) : Prop :=
  w'.ownsRow 0 t 1 v xs.length xs ∧ (∀ g, v.ownBlock = some g → w.heap.size ≤ g) ∧ Keeps w w' (fun _ => False)
theorem New.ofRow {w w' : World} {G t n : Nat} {F : Nat → Value} {xs : List Value} (h : w'.rowIs G t n F) (hG : w.heap.size ≤ G) (k : Keeps w w' (fun _ => False)) (hn : n ≤ maxLen) (hx : xs.length = n) (hF : ∀ j, j < n → xs[j]? = some (F j)) :
    New w w' t (.slice (some ⟨G, 0, none⟩) n n) xs := by
  obtain ⟨c, hc, hs, hv⟩ := h
  refine ⟨⟨by simp, .inr ⟨G, n, c, by rw [hx], Nat.zero_le _, hc, by rw [hx]; exact Nat.le_refl _, hn, by rw [hs]; simp, ?_⟩⟩, fun g hg => by simp [Value.ownBlock] at hg; omega, k⟩
  apply List.ext_getElem?
  intro j
  by_cases hj : j < n
  · have := hF j hj
    simp only [Array.getElem?_toList, List.getElem?_take, hx, Nat.mul_one, hj, if_pos, hv j hj, this]
  rw [List.getElem?_eq_none (by simp; omega), List.getElem?_eq_none (by omega)]
def BoolsAt (w : World) (ao : Option Addr) (n : Nat) (f : Nat → Bool) : Prop :=
  0 < n → ∃ b off, ao = some ⟨b, off, none⟩ ∧ ∀ k, k < n → w.cell? ⟨b, off + k, none⟩ = some (.bool (f k))
theorem info5 : (Tryz.prog.info? 5).map (fun i => (i.zero, i.size, i.bytes)) = some (some (.int .u8 0), 1, 1) := by kernel_rfl
theorem info4 : (Tryz.prog.info? 4).map (fun i => (i.zero, i.size, i.bytes)) = some (some (.bool false), 1, 1) := by kernel_rfl
theorem or8 (x k : Nat) (hx : x < 256) (hk : k < 8) : bits .or .u8 (x : Int) (2 ^ k % 256) = ((x ||| 2 ^ k : Nat) : Int) := by
  have hp : 2 ^ k < 2 ^ 8 := Nat.pow_lt_pow_right (by decide) hk
  have e : ((2 : Int) ^ k % 256) = ((2 ^ k : Nat) : Int) := by
    have : (2 ^ k : Nat) % 256 = 2 ^ k := Nat.mod_eq_of_lt hp
    rw [← this]; simp
  rw [e, bits_or8 x (2 ^ k) hx hp]
def Building (w wr : World) (G t n : Nat) (F : Nat → Value) : Prop := wr.rowIs G t n F ∧ w.heap.size ≤ G ∧ Keeps w wr (fun _ => False)
theorem Building.start (w : World) (z : Value) (t n : Nat) (F : Nat → Value) (hF : ∀ j, j < n → F j = z) : Building w (w.alloc (.cells (madeCells #[z] n) t)) w.heap.size t n F :=
  ⟨(World.rowIs_made w z n t).congr fun j hj => (hF j hj).symm, Nat.le_refl _, (Keeps.refl _ _).alloc _⟩
theorem Building.set {w wr : World} {G t n : Nat} {F F' : Nat → Value} (h : Building w wr G t n F) (i : Nat) (v : Value) (e : ∀ j, j < n → F' j = if j = i then v else F j) : Building w (wr.setCell ⟨G, i, none⟩ v) G t n F' :=
  ⟨(h.1.set i v).congr fun j hj => (e j hj).symm, h.2.1, h.2.2.setCell (p := ⟨G, i, none⟩) (fun hh => by have := h.2.1; simp at hh; omega) _⟩
theorem Building.congr {w wr : World} {G t n : Nat} {F F' : Nat → Value} (h : Building w wr G t n F) (e : ∀ j, j < n → F' j = F j) : Building w wr G t n F' := ⟨h.1.congr fun j hj => (e j hj).symm, h.2⟩
theorem Building.drew {w wr : World} {G t n : Nat} {F : Nat → Value} (h : Building w wr G t n F) : Building w wr.drew G t n F := ⟨h.1, h.2.1, h.2.2.drew⟩
theorem make_any (ao : Option Addr) (n ca : Nat) (f : Nat → Bool) (hn : n ≤ 100000000) (w : World) (hb : BoolsAt w ao n f) :
    Calls Tryz.prog 354 #[.slice ao n ca] w fun e w' => ∃ v, e = .returned v ∧ New w w' 5 v ((mk f n).map fun x : Nat => .int .u8 x) := by
  have hnd : need n ≤ 100000000 := by unfold need; omega
  have hmk := run_make_row' (P := Tryz.prog) 50 5 (.int .u8 0) 1 Tryz.underlying50 info5 rfl .i64 .i64 (need n) (by omega) (by omega)
  go_enter Tryz.func354, Tryz.ntmps354
  go_wp2_with (go_at_call 259; refine (need_pos n (by omega) _).mono ?_; rintro e w' ⟨rfl, rfl⟩)
  have HB : Hid (Building w (w.alloc (.cells (madeCells #[.int .u8 0] (need n)) 5)) w.heap.size 5 (need n) fun j => .int .u8 (pb f 0 j : Nat)) := Building.start w _ 5 _ _ fun j _ => by simp [pb_zero]
  obtain ⟨G, hG⟩ : ∃ G, G = w.heap.size := ⟨_, rfl⟩
  rw [← hG] at HB ⊢
  clear hmk hG
  go_loopw [12] (fun i wr => ∃ k : Nat, k ≤ n ∧ i = .int .i64 k ∧ Hid (Building w wr G 5 (need n) fun j => .int .u8 (pb f k j : Nat))) (fun i _ => n - (intOf i).toNat)
  case atStart => exact ⟨0, by omega, rfl, HB⟩
  case round =>
    clear HB
    obtain ⟨k, hk, rfl, HB⟩ := hrel
    by_cases hlt : k < n
    · obtain ⟨b, off, rfl, hcs⟩ := hb (by omega)
      have hc : wr.cell? ⟨b, off + k, none⟩ = some (.bool (f k)) := HB.out.2.2.cell' (hcs k hlt) id
      have h8 : k / 8 < need n := by unfold need; omega
      have hx := HB.out.1.cell h8
      have hfz := HB.out.1.frozen (k / 8)
      cases hf : f k
      · rw [hf] at hc
        have HB' : Hid (Building w wr G 5 (need n) fun j => .int .u8 (pb f (k + 1) j : Nat)) := HB.out.congr fun j _ => by rw [pb_skip hf]
        clear HB hx hfz hcs hb
        go_wp2
        go_roundw
        case rel => exact ⟨k + 1, by omega, by go_num, HB'⟩
        case measure => simp [intOf]; omega
      rw [hf] at hc
      have hxl := pb_lt f k (k / 8)
      have HX := pb_or hf
      obtain ⟨x, hx'⟩ : ∃ x, x = pb f k (k / 8) := ⟨_, rfl⟩
      rw [← hx'] at hx hxl HX
      have e := or8 x (k % 8) hxl (by omega)
      rw [HX] at e
      have HB' : Hid (Building w (wr.setCell ⟨G, k / 8, none⟩ (.int .u8 (bits .or .u8 (x : Int) (2 ^ (k % 8) % 256)))).drew G 5 (need n) fun j => .int .u8 (pb f (k + 1) j : Nat)) := by
        refine (HB.out.set (k / 8) _ fun j _ => ?_).drew
        by_cases hj : j = k / 8
        · rw [if_pos hj, e, hj]
        rw [if_neg hj, pb_other hj]
      clear hcs hb hx' HB HX e
      go_wp2
      go_region
      go_wp2
      go_roundw
      case rel => exact ⟨k + 1, by omega, by go_num, HB'⟩
      case measure => simp [intOf]; omega
    obtain rfl : k = n := by omega
    have HN : Hid (New w wr 5 (.slice (some ⟨G, 0, none⟩) (need k) (need k)) ((mk f k).map fun x : Nat => .int .u8 x)) :=
      New.ofRow HB.out.1 HB.out.2.1 HB.out.2.2 (by simp [maxLen]; omega) (by simp [mk]) (fun j hj => by simp [mk, hj])
    clear HB hb
    go_wp2
    go_ret
    exact ⟨_, rfl, HN.out⟩
def bools (f : Nat → Bool) (fr n : Nat) : List Value := (List.range n).map fun k => .bool (f (fr + k))
end Go.Proofs.YtknnoiomdngmfaaGreatDoor.Bits
