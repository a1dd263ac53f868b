import Derived.Test.YtdihbfjjddmbiaaGreatDoorRX
import Derived.Test.YtdihbfjjddmbiaaGreatDoorVK
import Derived.Deep.RegionHeld3
set_option maxRecDepth 100000
set_option maxHeartbeats 4000000
namespace Go.Proofs.YtdihbfjjddmbiaaGreatDoor.Kit
open Go.RowKit Go.Shelf Go.Deep
set_option linter.unusedVariables false
attribute [local go_sem] run_store_func
structure InkAt (w W : World) (K : Nat) (bs : List UInt8) : Prop where
  gr : Gr w W
  k0 : w.heap.size ≤ K
  ex : ∃ vo n vc, W.heap[K]? = some (.cells #[.slice vo n vc, .int .i64 65536] 80) ∧ W.ownsRow 0 5 1 (.slice vo n vc) n (bv bs) ∧ ∀ g, (Value.slice vo n vc).ownBlock = some g → w.heap.size ≤ g
def KU (K : Nat) (W w' : World) : Prop := W.heap.size ≤ w'.heap.size ∧ ∀ b c t, W.heap[b]? = some (.cells c t) → t ≠ 5 → b ≠ K → w'.heap[b]? = some (.cells c t)
theorem KU.trans {K : Nat} {A B C : World} (h : KU K A B) (k : KU K B C) : KU K A C := ⟨Nat.le_trans h.1 k.1, fun b c t hb ht hn => k.2 b c t (h.2 b c t hb ht hn) ht hn⟩
theorem KU.keeps {K : Nat} {A B : World} (k : Keeps A B (fun b => b = K)) : KU K A B := ⟨k.size, fun b c t hb _ hn => (k.block b (lt_of_heap hb) hn).trans hb⟩
theorem KU.gr {K : Nat} {A B : World} (k : Gr A B) : KU K A B := KU.keeps (k.mono fun _ _ f => f.elim)
theorem row5_ne {W : World} {t n B : Nat} {v : Value} {xs : List Value} {c : Array Value} (h : W.ownsRow 0 5 1 v n xs) (hB : W.heap[B]? = some (.cells c t)) (ht : t ≠ 5) : v.ownBlock ≠ some B := fun e => by
  rcases h.2 with ⟨rfl, _⟩ | ⟨g, cap, cur, rfl, _, hg, _⟩
  · simp [Value.ownBlock] at e
  simp [Value.ownBlock] at e
  subst e
  rw [hg] at hB
  simp at hB
  exact ht hB.2.symm
theorem KU.row {K : Nat} {A B : World} {v : Value} {n : Nat} {xs : List Value} (hr : A.ownsRow 0 5 1 v n xs) (k : Keeps A B (fun b => v.ownBlock = some b)) : KU K A B :=
  ⟨k.size, fun b c t hb ht hn => (k.block b (lt_of_heap hb) (row5_ne hr hb ht)).trans hb⟩
theorem InkAt.kept {w W W' : World} {K : Nat} {bs : List UInt8} (h : InkAt w W K bs) (g : Gr W W') : InkAt w W' K bs := by
  obtain ⟨vo, n, vc, h1, h2, h3⟩ := h.ex
  exact ⟨h.gr.tr g, h.k0, vo, n, vc, (g.block K (lt_of_heap h1) id).trans h1, own_kp h2 fun b e => g.block b (own_lt h2 b e) id, h3⟩
theorem newInk_any (W : World) : Calls Tryz.prog 20 #[.int .i64 65536] W fun e w' => e = .returned (.pointer (some ⟨W.heap.size, 0, none⟩)) ∧ w' = W.alloc (.cells #[.slice none 0 0, .int .i64 65536] 80) := by
  go_enter Tryz.func20, Tryz.ntmps20
  go_wp2
  go_ret
  exact ⟨rfl, rfl⟩
theorem isWidth_any (wd : Nat) (h : wd = 1 ∨ wd = 2 ∨ wd = 4) (W : World) : Calls Tryz.prog 71 #[.int .i64 (wd : Int)] W fun e w' => e = .returned (.bool true) ∧ W = w' := by
  rcases h with rfl | rfl | rfl
  all_goals
    go_enter Tryz.func71, Tryz.ntmps71
    go_wp2
    go_ret
    exact ⟨rfl, rfl⟩
theorem takes_any {w W : World} {K : Nat} {bs : List UInt8} (h : InkAt w W K bs) (m : Nat) (hm : bs.length + m ≤ 65536) : Calls Tryz.prog 72 #[.pointer (some ⟨K, 0, none⟩), .int .i64 (m : Int)] W fun e w' => e = .returned (.bool true) ∧ Gr W w' := by
  obtain ⟨vo, n, vc, h1, h2, -⟩ := h.ex
  have hl : bs.length = n := by have := h2.1; simpa [bv] using this
  have hle : (m : Int) ≤ 65536 - (n : Int) := by omega
  have hwr : IntKind.i64.wrap (65536 - (n : Int)) = 65536 - (n : Int) := by rw [IntKind.wrap_i64]; omega
  obtain ⟨d0, d1⟩ := ce2 h1
  have HIN : Hid (Hid (Gr W W.drew) ∧ W.drew.cell? ⟨K, 1, none⟩ = some (.int .i64 65536) ∧ W.drew.cell? ⟨K, 0, none⟩ = some (.slice vo n vc)) := ⟨gr_drew, d1, d0⟩
  clear h h1 h2 hl hm d0 d1
  go_enter Tryz.func72, Tryz.ntmps72
  go_wp2_with fail
  refine wp_region_held_drew (S := fun w' => Hid (Gr W w') ∧ w'.cell? ⟨K, 1, none⟩ = some (.int .i64 65536) ∧ w'.cell? ⟨K, 0, none⟩ = some (.slice vo n vc)) (by kernel_rfl) (HIN.out) (fun hHeld => ?_)
  refine tk 0 ?_
  refine tk 1 ?_
  refine tk 2 ?_
  refine tk 3 ?_
  refine tk 4 ?_
  refine tk 5 ?_
  refine tk 6 ?_
  refine tk 7 ?_
  refine tk 8 ?_
  refine tk 9 ?_
  refine tk 10 ?_
  refine tk 11 ?_
  refine tk 12 ?_
  refine wpAnyH_done (by kernel_rfl) ?_ _
  have HG := hidM hHeld.1.out
  clear hHeld HIN
  go_wp2_with fail
  go_ret
  exact ⟨rfl, HG.out⟩
theorem InkAt.next {w W W1 : World} {K : Nat} {bs us : List UInt8} {vo vo' : Option Addr} {n vc m vc' : Nat} (h : InkAt w W K bs) (hK : W.heap[K]? = some (.cells #[.slice vo n vc, .int .i64 65536] 80)) (hp : Ap w W W1 vo vc n vo' vc' m (bs ++ us)) :
    W1.heap[K]? = some (.cells #[.slice vo n vc, .int .i64 65536] 80) ∧ InkAt w (W1.setCell ⟨K, 0, none⟩ (.slice vo' m vc')) K (bs ++ us) ∧ KU K W (W1.setCell ⟨K, 0, none⟩ (.slice vo' m vc')) := by
  obtain ⟨vo2, n2, vc2, h1, h2, h3⟩ := h.ex
  have e : (#[.slice vo n vc, .int .i64 65536] : Array Value) = #[.slice vo2 n2 vc2, .int .i64 65536] := by rw [hK] at h1; simpa using h1
  have e' : Value.slice vo n vc = Value.slice vo2 n2 vc2 := by simpa using e
  have hrow : W.ownsRow 0 5 1 (.slice vo n vc) n (bv bs) := by cases e'; exact h2
  have hne := row5_ne hrow hK (by decide)
  obtain ⟨b1, b2⟩ := hp.box hK hne
  have kk := keep1 (j := 0) (Keeps.refl W1 (fun b => b = K)) (.slice vo' m vc')
  have hKs : (W1.setCell ⟨K, 0, none⟩ (.slice vo' m vc')).heap[K]? = some (.cells #[.slice vo' m vc', .int .i64 65536] 80) := (setc (j := 0) b1 (.slice vo' m vc')).trans (by simp)
  refine ⟨b1, ⟨hp.b.gr.trans kk (fun j hj h' => by have := h.k0; omega), h.k0, vo', m, vc', hKs, own_kp hp.b.own fun b eb => kk.block b (own_lt hp.b.own b eb) (fun hb => b2 (by rw [eb, hb])), hp.b.new⟩, ?_⟩
  exact (KU.row hrow hp.kp).trans (KU.keeps kk)
theorem inkText_any {w W : World} {K : Nat} {bs : List UInt8} (h : InkAt w W K bs) (s : ByteArray) (hm : bs.length + s.size ≤ 65536) : Calls Tryz.prog 74 #[.pointer (some ⟨K, 0, none⟩), .string s] W fun e w' => e = .returned (.int .i64 0) ∧ InkAt w w' K (bs ++ s.data.toList) ∧ KU K W w' := by
  have H41 := hidM (takes_any h s.size hm)
  have HI := hidM h
  clear h
  go_enter Tryz.func74, Tryz.ntmps74
  go_wp2_with (go_at_call 72; refine Hid.out ?_)
  unfold Hid
  refine Calls.mono H41.out ?_
  rintro e W1 ⟨rfl, hg1⟩
  have HI1 := hidM (HI.out.kept hg1)
  have HU1 := hidM (KU.gr (K := K) hg1)
  clear hg1 H41
  obtain ⟨vo, n, vc, h1, h2, h3⟩ := HI1.out.ex
  have hl : bs.length = n := by have := h2.1; simpa [bv] using this
  have HB : Hid (Byts w W1 vo vc n bs) := ⟨h2, HI1.out.gr, h3⟩
  have HK := hidM h1
  obtain ⟨d0, d1⟩ := ce2 h1
  clear h1 h2 h3
  go_wp2_with (at_builtin; refine Hid.out ?_)
  unfold Hid
  refine wpList_append_any _ rfl (.tmp 14) (.tmp 15) 30 9 rfl 5 (.int .u8 0) 1 Tryz.underlying30 info5 rfl _ n (bv bs) rfl HB.out.own _ s.size (byteCells s) rfl (Src.ofString _ Tryz.underlying9 s) (by omega) (by omega) ?_
  intro v' w1 hown hgrow hblk
  obtain ⟨vo2, vc2, rfl⟩ := own_form1 hown
  have hp := HB.out.app (us := s.data.toList) rfl hown hgrow hblk
  obtain ⟨k1, k2, k3⟩ := HI1.out.next HK.out hp
  have HF := hidM (And.intro k2 (HU1.out.trans k3))
  have z0 := (ce2 k1).1
  have z1 := frz k1 0
  clear hown hgrow hblk hp k1 k2 k3 d0 d1
  go_wp2_with fail
  go_ret
  exact ⟨rfl, HF.out⟩
end Go.Proofs.YtdihbfjjddmbiaaGreatDoor.Kit
