import Derived.Test.YtomlndoffoeaiaaRows
import Derived.Test.YtomlndoffoeaiaaKit
namespace Go.Proofs.Ytomlndoffoeaiaa.Kit
open Go.RowKit Go.Deep

theorem info5 : (Try.prog.info? 5).map (fun i => (i.zero, i.size, i.bytes)) = some (some (.int .u8 0), 1, 1) := by kernel_rfl
theorem size5 : (Try.prog.info? 5).map (·.size) = some 1 := by kernel_rfl

/-- an ink in memory: its list, its bound -/
def InkAt (w : World) (ty p : Nat) (go : Option Nat) (most : Int) (bs : List Int) : Prop :=
  ∃ v, w.heap[p]? = some (.cells #[v, .int .i64 most] ty (0, 0)) ∧ w.ownsRow 0 5 1 v bs.length (bs.map (Value.int .u8)) ∧ v.ownBlock = go

theorem InkAt.kept {w w' : World} {ty p : Nat} {go : Option Nat} {most : Int} {bs : List Int} {S : Nat → Prop} (h : InkAt w ty p go most bs) (hk : Keeps w w' S) (hp : ¬ S p) (hg : ∀ g, go = some g → ¬ S g) : InkAt w' ty p go most bs := by
  obtain ⟨v, hv, hown, hb⟩ := h
  refine ⟨v, ?_, ?_, hb⟩
  · rw [hk.block p (Array.getElem?_eq_some_iff.1 hv).1 hp]; exact hv
  · refine ⟨hown.1, ?_⟩
    rcases hown.2 with hn | ⟨g, cap, cur, rfl, hb', hgg, rest⟩
    · exact .inl hn
    · refine .inr ⟨g, cap, cur, rfl, hb', ?_, rest⟩
      rw [hk.block g (Array.getElem?_eq_some_iff.1 hgg).1 (hg g (by rw [← hb]; rfl))]
      exact hgg

theorem InkAt.form {w : World} {ty p : Nat} {go : Option Nat} {most : Int} {bs : List Int} (h : InkAt w ty p go most bs) :
    ∃ ao cap, w.heap[p]? = some (.cells #[.slice ao bs.length cap, .int .i64 most] ty (0, 0)) ∧ w.ownsRow 0 5 1 (.slice ao bs.length cap) bs.length (bs.map (Value.int .u8)) ∧ (Value.slice ao bs.length cap).ownBlock = go ∧
      w.cell? ⟨p, 0, none⟩ = some (.slice ao bs.length cap) ∧ w.cell? ⟨p, 1, none⟩ = some (.int .i64 most) ∧ w.frozen? ⟨p, 0, none⟩ = false := by
  obtain ⟨v, hv, hown, hb⟩ := h
  obtain ⟨ao, cap, rfl⟩ : ∃ ao cap, v = .slice ao bs.length cap := by
    rcases hown.2 with ⟨rfl, h0⟩ | ⟨g, cap, cur, rfl, _⟩
    · exact ⟨none, 0, by rw [h0]⟩
    · exact ⟨_, _, rfl⟩
  refine ⟨ao, cap, hv, hown, hb, ?_, ?_, frozen_of_row w p 0 _ _ hv⟩
  · rw [cell_of_row w p 0 _ _ _ hv]; rfl
  · rw [cell_of_row w p 1 _ _ _ hv]; rfl

theorem InkAt.lt {w : World} {ty p : Nat} {go : Option Nat} {most : Int} {bs : List Int} (h : InkAt w ty p go most bs) : p < w.heap.size ∧ ∀ g, go = some g → g < w.heap.size := by
  obtain ⟨v, hv, hown, hb⟩ := h
  exact ⟨(Array.getElem?_eq_some_iff.1 hv).1, fun g hg => (hown.lt g (hb.trans hg)).2⟩

/-- a row of bytes is no ink -/
theorem own_ne {w : World} {ty p : Nat} {v : Value} {n : Nat} {xs : List Value} {cs : Array Value} (hty : ty ≠ 5) (hp : w.heap[p]? = some (.cells cs ty (0, 0))) (hown : w.ownsRow 0 5 1 v n xs) : v.ownBlock ≠ some p := by
  intro e
  rcases hown.2 with ⟨rfl, _⟩ | ⟨g, cap, cur, rfl, _, hgg, _⟩
  · simp [Value.ownBlock] at e
  · simp [Value.ownBlock] at e
    subst e
    rw [hp] at hgg
    simp at hgg
    exact hty hgg.2

theorem InkAt.stored {w w1 : World} {ty p : Nat} {most : Int} {bs bs' : List Int} {v v' : Value} (hty : ty ≠ 5) (hv : w.heap[p]? = some (.cells #[v, .int .i64 most] ty (0, 0))) (hown : w.ownsRow 0 5 1 v bs.length (bs.map (Value.int .u8)))
    (hown' : w1.ownsRow 0 5 1 v' bs'.length (bs'.map (Value.int .u8))) (hgrow : w.grownBy w1 v.ownBlock) :
    w1.cell? ⟨p, 0, none⟩ = some v ∧ w1.frozen? ⟨p, 0, none⟩ = false ∧ InkAt (w1.setCell ⟨p, 0, none⟩ v') ty p v'.ownBlock most bs' ∧ Keeps w (w1.setCell ⟨p, 0, none⟩ v') (fun k => k = p ∨ v.ownBlock = some k) := by
  have hne := own_ne hty hv hown
  have hp1 : w1.heap[p]? = some (.cells #[v, .int .i64 most] ty (0, 0)) := by
    rw [hgrow.block p (Array.getElem?_eq_some_iff.1 hv).1 (fun e => hne e.symm)]; exact hv
  have hne' := own_ne hty hp1 hown'
  refine ⟨by rw [cell_of_row w1 p 0 _ _ _ hp1]; rfl, frozen_of_row w1 p 0 _ _ hp1, ⟨v', ?_, ?_, rfl⟩, ?_⟩
  · rw [heap_setCell_same w1 p 0 _ ty v' hp1]; rfl
  · refine ⟨hown'.1, ?_⟩
    rcases hown'.2 with hn | ⟨g, cap, cur, rfl, hb', hgg, rest⟩
    · exact .inl hn
    · refine .inr ⟨g, cap, cur, rfl, hb', ?_, rest⟩
      rw [heap_setCell_other w1 ⟨p, 0, none⟩ g _ (fun e => hne' (by simp [Value.ownBlock, e]))]
      exact hgg
  · have k := (Keeps.ofGrown hgrow).mono (T := fun k => k = p ∨ v.ownBlock = some k) fun b _ h => Or.inr h
    exact k.setCell (p := ⟨p, 0, none⟩) (fun _ => Or.inl rfl) _

def bytesOf (s : ByteArray) : List Int := s.data.toList.map fun b => (b.toNat : Int)
theorem bytesOf_cells (s : ByteArray) : (bytesOf s).map (Value.int .u8) = byteCells s := by simp [bytesOf, byteCells]
theorem bytesOf_length (s : ByteArray) : (bytesOf s).length = s.size := by simp [bytesOf]

theorem takes_any (p : Nat) (ao : Option Addr) (n cap : Nat) (most k : Int) (w : World) (h0 : w.cell? ⟨p, 0, none⟩ = some (.slice ao n cap)) (h1 : w.cell? ⟨p, 1, none⟩ = some (.int .i64 most))
    (hm : 0 ≤ most) (hm' : most ≤ 16777216) (hn : n ≤ 16777216) :
    Calls Try.prog 54 #[.pointer (some ⟨p, 0, none⟩), .int .i64 k] w fun e w' => e = .returned (.bool (decide (k ≤ most - n))) ∧ ∃ q, w' = w.drewN q := by
  go_enter Try.func54, Try.ntmps54
  go_wp2
  go_quiet (fail)
  go_wp2
  go_ret
  exact ⟨rfl, _, rfl⟩

theorem len_any (p : Nat) (ao : Option Addr) (n cap : Nat) (w : World) (h0 : w.cell? ⟨p, 0, none⟩ = some (.slice ao n cap)) :
    Calls Try.prog 57 #[.pointer (some ⟨p, 0, none⟩)] w fun e w' => e = .returned (.int .i64 n) ∧ w = w' := by
  go_enter Try.func57, Try.ntmps57
  go_wp2
  go_ret
  exact ⟨rfl, rfl⟩

/-- what every call on an ink leaves -/
def InkDone (w w' : World) (ty p : Nat) (go : Option Nat) (most : Int) (bs' : List Int) : Prop :=
  ∃ go', InkAt w' ty p go' most bs' ∧ Keeps w w' (fun k => k = p ∨ go = some k) ∧ (go' = go ∨ ∀ g, go' = some g → w.heap.size ≤ g)

theorem own_form {w : World} {v : Value} {n : Nat} {xs : List Value} (h : w.ownsRow 0 5 1 v n xs) : ∃ ao cap, v = .slice ao n cap := by
  rcases h.2 with ⟨rfl, h0⟩ | ⟨g, cap, cur, rfl, _⟩
  · exact ⟨none, 0, by rw [h0]⟩
  · exact ⟨_, _, rfl⟩

/-- behind an append and its store -/
theorem InkDone.mk {w w1 : World} {ty p q : Nat} {go : Option Nat} {most : Int} {bs : List Int} (news : List Int) {v v' : Value} {n' : Nat} {xs' : List Value} (hty : ty ≠ 5) (hv : w.heap[p]? = some (.cells #[v, .int .i64 most] ty (0, 0))) (hgo : v.ownBlock = go)
    (hown : w.ownsRow 0 5 1 v bs.length (bs.map (Value.int .u8))) (hown' : w1.ownsRow 0 5 1 v' n' xs') (hn : n' = (bs ++ news).length) (hx : xs' = (bs ++ news).map (Value.int .u8)) (hgrow : (w.drewN q).grownBy w1 v.ownBlock)
    (hblk : v'.ownBlock = v.ownBlock ∨ ∀ g, v'.ownBlock = some g → w.heap.size ≤ g) :
    w1.cell? ⟨p, 0, none⟩ = some v ∧ w1.frozen? ⟨p, 0, none⟩ = false ∧ InkDone w (w1.setCell ⟨p, 0, none⟩ v') ty p go most (bs ++ news) := by
  subst hn hx hgo
  obtain ⟨c, f, i, k⟩ := InkAt.stored (w := w.drewN q) (bs := bs) (bs' := bs ++ news) hty hv hown hown' hgrow
  exact ⟨c, f, _, i, ⟨k.os, k.tape, k.output, k.size, k.block⟩, hblk⟩

theorem InkDone.same {w : World} {ty p : Nat} {go : Option Nat} {most : Int} {bs : List Int} (h : InkAt w ty p go most bs) (q : Nat) : InkDone w (w.drewN q) ty p go most bs :=
  ⟨go, h, (Keeps.refl _ _).drewN q, .inl rfl⟩

set_option maxRecDepth 100000 in
set_option maxHeartbeats 400000 in
theorem text_yes (p : Nat) (go : Option Nat) (most : Int) (bs : List Int) (s : ByteArray) (w : World) (hI : InkAt w 115 p go most bs) (hm : 0 ≤ most) (hm' : most ≤ 16777216) (hfit : (bs.length : Int) + s.size ≤ most) :
    Calls Try.prog 26 #[.pointer (some ⟨p, 0, none⟩), .string s] w fun e w' => e = .returned (.int .i64 0) ∧ InkDone w w' 115 p go most (bs ++ bytesOf s) := by
  obtain ⟨ao, cap, hh, hown, hgo, h0, h1, hf⟩ := hI.form
  have HH : Hid (w.heap[p]? = some (.cells #[.slice ao bs.length cap, .int .i64 most] 115 (0, 0))) := hh
  have HGO : Hid ((Value.slice ao bs.length cap).ownBlock = go) := hgo
  have HO : Hid (w.ownsRow 0 5 1 (.slice ao bs.length cap) bs.length (bs.map (Value.int .u8))) := hown
  have hd : decide ((s.size : Int) ≤ most - (bs.length : Int)) = true := by simp; omega
  clear hh hgo hown hI
  go_enter Try.func26, Try.ntmps26
  go_wp2_with (first | (go_at_call 54; refine (takes_any p ao bs.length cap most _ _ h0 h1 hm hm' (by omega)).mono ?_; rintro e w' ⟨rfl, q, rfl⟩) | (at_builtin; refine wpList_append_any _ rfl (.tmp 14) (.tmp 15) 22 9 rfl 5 (.int .u8 0) 1 Try.underlying22 info5 rfl _ _ _ rfl HO.out _ _ _ rfl (Src.ofString _ Try.underlying9 s) ?h63 ?hby ?_))
  case h63 => omega
  case hby => omega
  intro v' w1 hown' hgrow hblk
  obtain ⟨ao', cap', rfl⟩ := own_form hown'
  obtain ⟨c1, f1, D⟩ := InkDone.mk (bytesOf s) (by decide) HH.out HGO.out HO.out hown' (by simp [bytesOf_length]) (by simp [bytesOf_cells]) hgrow hblk
  have DD : Hid (InkDone w _ 115 p go most (bs ++ bytesOf s)) := D
  clear D hown' hgrow hblk HH HGO HO
  go_wp2
  go_ret
  exact ⟨rfl, DD.out⟩

theorem text_no (p : Nat) (go : Option Nat) (most : Int) (bs : List Int) (s : ByteArray) (w : World) (hI : InkAt w 115 p go most bs) (hm : 0 ≤ most) (hm' : most ≤ 16777216) (hbs : bs.length ≤ 16777216) (hfit : most < (bs.length : Int) + s.size) :
    Calls Try.prog 26 #[.pointer (some ⟨p, 0, none⟩), .string s] w fun e w' => e = .returned (.int .i64 4) ∧ InkDone w w' 115 p go most bs := by
  obtain ⟨ao, cap, hh, hown, hgo, h0, h1, hf⟩ := hI.form
  have HI : Hid (InkAt w 115 p go most bs) := hI
  have hd : decide ((s.size : Int) ≤ most - (bs.length : Int)) = false := by simp; omega
  clear hh hgo hown hI
  go_enter Try.func26, Try.ntmps26
  go_wp2_with (first | (go_at_call 54; refine (takes_any p ao bs.length cap most _ _ h0 h1 hm hm' hbs).mono ?_; rintro e w' ⟨rfl, q, rfl⟩))
  go_ret
  exact ⟨rfl, InkDone.same HI.out q⟩
end Go.Proofs.Ytomlndoffoeaiaa.Kit
