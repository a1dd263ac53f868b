import Derived.Test.YtegjpmodleigeaaGreatDoorCJ
import Derived.Test.YtegjpmodleigeaaGreatDoorCK
set_option maxRecDepth 100000
set_option maxHeartbeats 4000000
namespace Go.Proofs.YtegjpmodleigeaaGreatDoor.Kit
open Go.RowKit Go.Shelf Go.Deep
open Go.Proofs.YtegjpmodleigeaaGreatDoor.Kd (Ans AnsV cell5 cell2)
open Go.Proofs.YtegjpmodleigeaaGreatDoor.Ink (OwnRow)
set_option linter.unusedVariables false
set_option linter.unusedSimpArgs false
attribute [local go_sem] run_store_func
theorem cell3V {W : World} {p t : Nat} {a b c : Value} (h : W.heap[p]? = some (.cells #[a, b, c] t)) : W.cell? ⟨p, 0, none⟩ = some a ∧ W.cell? ⟨p, 1, none⟩ = some b ∧ W.cell? ⟨p, 2, none⟩ = some c := by
  refine ⟨?_, ?_, ?_⟩ <;> simp [World.cell?, h]
theorem end139 (vo : Option Addr) (n c f m : Nat) (W : World) (h : f + m ≤ n) (hn : n ≤ 100000) : Calls Tryz.prog 151 #[.agg #[.slice vo n c, .int .i64 0, .pointer none], .int .i64 f, .int .i64 m] W fun e w' => e = .returned (.tuple #[.int .i64 ((f + m : Nat) : Int), .bool true]) ∧ Gr W w' := by
  obtain ⟨A, hA⟩ : ∃ A, W.alloc (.cells #[.slice vo n c, .int .i64 0, .pointer none] 245) = A := ⟨_, rfl⟩
  have gA : Gr W A := by rw [← hA]; exact gr_alloc W _
  have hb : A.heap[W.heap.size]? = some (.cells #[.slice vo n c, .int .i64 0, .pointer none] 245) := by rw [← hA]; exact heap_alloc_new W _
  obtain ⟨B, hB⟩ : ∃ B, A.alloc (.cells #[.int .i64 f, .int .i64 m] 3) = B := ⟨_, rfl⟩
  have gB : Gr A B := by rw [← hB]; exact gr_alloc A _
  have hb2 : B.heap[A.heap.size]? = some (.cells #[.int .i64 f, .int .i64 m] 3) := by rw [← hB]; exact heap_alloc_new A _
  obtain ⟨z0, z1⟩ := cell2 hb2
  have HC := hidM (sum92 A.heap.size 2 f m B z0 z1 (by omega) (by omega))
  have HG := hidM (gA.trans gB (fun _ _ h => h))
  have HS0 : Hid (B.drew.cell? ⟨W.heap.size, 0, none⟩ = some (.slice vo n c)) := by
    have hbB := (gB.block _ (lt_of_heap hb) id).trans hb
    show B.cell? _ = _
    simp [World.cell?, hbB]
  obtain ⟨s, hs⟩ : ∃ s, f + m = s := ⟨_, rfl⟩
  rw [hs] at h HC ⊢
  have b1 : ((s : Int) ≤ (n : Int)) := by omega
  clear gA hb gB hb2 z0 z1 hs h
  go_enter Tryz.func151, Tryz.ntmps151
  go_wp2_with (go_at_call 100; refine HC.out.mono ?_; rintro e w2 ⟨rfl, rfl⟩)
  go_region_held3 (fun u => u.cell? ⟨W.heap.size, 0, none⟩ = some (.slice vo n c)) (with_reducible exact HS0.out) (fail)
  go_wp2_with fail
  go_ret2
  exact ⟨rfl, HG.out.drew⟩
theorem ptr_nn (w : World) : (binOp .neq 109 (.pointer none) (.pointer none)).run Tryz.prog w = .ok (.bool false) w := by kernel_rfl
theorem tell140 (vo : Option Addr) (n c : Nat) (f s : Int) (W : World) : Calls Tryz.prog 152 #[.agg #[.slice vo n c, .int .i64 0, .pointer none], .int .i64 f, .int .i64 s] W fun e w' => e = .returned (.tuple #[]) ∧ Gr W w' := by
  have hp := ptr_nn
  go_enter Tryz.func152, Tryz.ntmps152
  go_wp2_with fail
  go_end0
  exact ⟨rfl, gr_alloc _ _⟩
theorem read136 (g n c f m : Nat) (W : World) (h : f + m ≤ n) (hn : n ≤ 100000) (hc : n ≤ c) (hm : 0 < m) : Calls Tryz.prog 148 #[.agg #[.slice (some ⟨g, 0, none⟩) n c, .int .i64 0, .pointer none], .int .i64 f, .int .i64 m] W fun e w' => e = .returned (.tuple #[.slice (some ⟨g, f, none⟩) m (c - f), .bool true]) ∧ Gr W w' := by
  obtain ⟨A, hA⟩ : ∃ A, W.alloc (.cells #[.slice (some ⟨g, 0, none⟩) n c, .int .i64 0, .pointer none] 245) = A := ⟨_, rfl⟩
  have gA : Gr W A := by rw [← hA]; exact gr_alloc W _
  have hb : A.heap[W.heap.size]? = some (.cells #[.slice (some ⟨g, 0, none⟩) n c, .int .i64 0, .pointer none] 245) := by rw [← hA]; exact heap_alloc_new W _
  obtain ⟨e0, e1, e2⟩ := cell3V hb
  have HB := hidM hb
  have HG := hidM gA
  obtain ⟨s, hs⟩ : ∃ s, f + m = s := ⟨_, rfl⟩
  have HC := hidM (end139 (some ⟨g, 0, none⟩) n c f m A h hn)
  rw [hs] at h HC
  have HE : Hid (s - f = m) := (by omega : s - f = m)
  have b1 : ¬ ((f : Int) < 0) := by omega
  have b2 : (f : Int) ≤ (s : Int) := by omega
  have b3 : (s : Int) ≤ (c : Int) := by omega
  have b4 : (0 : Int) ≤ (f : Int) := by omega
  have b5 : f ≤ s := by omega
  have b6 : s ≤ c := by omega
  have b7 : f < c := by omega
  have b8 : ¬ (c - f = 0) := by omega
  have b9 : ¬ (c ≤ f) := by omega
  have b10 : ¬ ((c : Int) = (f : Int)) := by omega
  have b11 : ¬ ((f : Int) = (c : Int)) := by omega
  clear gA hb hs
  go_enter Tryz.func148, Tryz.ntmps148
  go_wp2_with (first
    | (go_at_call 151; refine HC.out.mono ?_; rintro e w2 ⟨rfl, g2⟩; have HG2 := hidM (HG.out.trans g2 (fun _ _ h => h)); clear hA e0 e1 e2; have HB2 := hidM ((g2.block _ (lt_of_heap HB.out) id).trans HB.out); obtain ⟨e0, e1, e2⟩ := cell3V HB2.out; clear g2)
    | (go_at_call 152; refine (tell140 _ _ _ _ _ w2).mono ?_; rintro e w3 ⟨rfl, g3⟩; have HG3 := hidM (HG2.out.trans g3 (fun _ _ h => h)); clear e0 e1 e2; obtain ⟨e0, e1, e2⟩ := cell3V ((g3.block _ (lt_of_heap HB2.out) id).trans HB2.out); clear g3))
  go_ret2
  refine ⟨?_, HG3.out⟩
  have := HE.out
  simp [this]
/-- a node of array that has been filled, with its row of views -/
structure NdA (W : World) (q r rc : Nat) (nu : Bool) (ao : Option Addr) (ca L N : Nat) (v2 n2 c2 : Nat) : Prop where
  nd : W.heap[q]? = some (.cells (ndC nu ao ca L N (.slice (some ⟨r, 0, none⟩) 2 rc)) 108)
  r0 : ∃ bo bc, W.cell? ⟨r, 0, none⟩ = some (.slice bo 0 bc)
  r1 : W.cell? ⟨r, 1, none⟩ = some (.int .i64 0)
  r2 : W.cell? ⟨r, 2, none⟩ = some (.pointer none)
  r3 : W.cell? ⟨r, 3, none⟩ = some (.slice (some ⟨v2, 0, none⟩) n2 c2)
  r4 : W.cell? ⟨r, 4, none⟩ = some (.int .i64 0)
  r5 : W.cell? ⟨r, 5, none⟩ = some (.pointer none)
theorem NdA.kp {W u : World} {q r rc : Nat} {nu : Bool} {ao : Option Addr} {ca L N : Nat} {v2 n2 c2 : Nat} {S : Nat → Prop} (h : NdA W q r rc nu ao ca L N v2 n2 c2) (g : Keeps W u S) (hq : ¬ S q) (hr : ¬ S r) : NdA u q r rc nu ao ca L N v2 n2 c2 :=
  ⟨(g.block q (lt_of_heap h.nd) hq).trans h.nd, h.r0.imp fun _ e => e.imp fun _ e => g.cell' e hr, g.cell' h.r1 hr, g.cell' h.r2 hr, g.cell' h.r3 hr, g.cell' h.r4 hr, g.cell' h.r5 hr⟩
theorem NdA.gr {W u : World} {q r rc : Nat} {nu : Bool} {ao : Option Addr} {ca L N : Nat} {v2 n2 c2 : Nat} (h : NdA W q r rc nu ao ca L N v2 n2 c2) (g : Gr W u) : NdA u q r rc nu ao ca L N v2 n2 c2 := h.kp g id id
def vwU (w : World) (b : Nat) (v : Value) : World := setAll w b [(0, v), (1, .int .i64 0), (2, .pointer none)]
theorem vw_blk {w : World} {b : Nat} {v : Value} {a0 a1 a2 : Value} (h : w.heap[b]? = some (.cells #[a0, a1, a2] 245)) : (vwU w b v).heap[b]? = some (.cells #[v, .int .i64 0, .pointer none] 245) := by
  unfold vwU
  rw [setAll_blk b 245 _ _ _ h]
  simp [setsA]
theorem vw_gr {W w : World} {b : Nat} {v : Value} (g : Gr W w) (hb : W.heap.size ≤ b) : Gr W (vwU w b v) := g.trans (setAll_kp _ _ _) (fun j hj e => by have e' : j = b := e; omega)
theorem watched135 (vo : Option Addr) (n c : Nat) (W : World) : Calls Tryz.prog 147 #[.agg #[.slice vo n c, .int .i64 0, .pointer none], .pointer none] W fun e w' => e = .returned (.agg #[.slice vo n c, .int .i64 0, .pointer none]) ∧ Gr W w' := by
  obtain ⟨A0, hA0⟩ : ∃ A0, W.alloc (.cells #[.slice vo n c, .int .i64 0, .pointer none] 245) = A0 := ⟨_, rfl⟩
  have g0 : Gr W A0 := by rw [← hA0]; exact gr_alloc W _
  have hs0 : A0.heap.size = W.heap.size + 1 := by rw [← hA0]; simp
  have hb0 : A0.heap[W.heap.size]? = some (.cells #[.slice vo n c, .int .i64 0, .pointer none] 245) := by rw [← hA0]; exact heap_alloc_new W _
  obtain ⟨A, hA⟩ : ∃ A, A0.alloc (.cells #[.slice none 0 0, .int .i64 0, .pointer none] 245) = A := ⟨_, rfl⟩
  have g1 : Gr A0 A := by rw [← hA]; exact gr_alloc A0 _
  have hb1 := (g1.block _ (lt_of_heap hb0) id).trans hb0
  have hb2 : A.heap[A0.heap.size]? = some (.cells #[.slice none 0 0, .int .i64 0, .pointer none] 245) := by rw [← hA]; exact heap_alloc_new A0 _
  obtain ⟨e0, e1, e2⟩ := cell3V hb1
  obtain ⟨y0, y1, y2⟩ := cell3V hb2
  have z2 := frz hb1 2
  have x0 := frz hb2 0
  have x1 := frz hb2 1
  have x2 := frz hb2 2
  have s2 := set_id (j := 2) (v := .pointer none) hb1 rfl
  obtain ⟨U, hU⟩ : ∃ U, vwU A A0.heap.size (.slice vo n c) = U := ⟨_, rfl⟩
  have HUB := hidM (vw_blk (v := .slice vo n c) hb2)
  have HUG := hidM (vw_gr (v := .slice vo n c) (g0.trans g1 (fun _ _ h => h)) (b := A0.heap.size) (by omega))
  rw [hU] at HUB HUG
  simp only [vwU, setAll] at hU
  have HSZ := hidM hs0
  clear g0 hs0 hb0 g1 hb1 hb2
  go_enter Tryz.func147, Tryz.ntmps147
  go_wp2_with fail
  (try simp only [Exit.inBlock, Exit.then])
  refine bodyPost_ret (results_cell236 rfl rfl (by with_reducible exact HUB.out) (by kernel_rfl)) rfl ?_
  exact ⟨rfl, HUG.out⟩
theorem buffer128_1 (l : Nat) (W : World) (q r rc : Nat) (nu : Bool) (ao : Option Addr) (ca L N : Nat) (v2 n2 c2 : Nat) (h : NdA W q r rc nu ao ca L N v2 n2 c2) (hl : W.cell? ⟨l, 0, none⟩ = some (.pointer none)) : Calls Tryz.prog 138 #[.pointer (some ⟨l, 0, none⟩), .pointer (some ⟨q, 0, none⟩), .int .i64 1] W fun e w' => e = .returned (.agg #[.slice (some ⟨v2, 0, none⟩) n2 c2, .int .i64 0, .pointer none]) ∧ Gr W w' := by
  obtain ⟨A, hA⟩ : ∃ A, W.alloc (.cells #[.slice none 0 0, .int .i64 0, .pointer none] 245) = A := ⟨_, rfl⟩
  have gA : Gr W A := by rw [← hA]; exact gr_alloc W _
  have hb : A.heap[W.heap.size]? = some (.cells #[.slice none 0 0, .int .i64 0, .pointer none] 245) := by rw [← hA]; exact heap_alloc_new W _
  have hS : ∀ u, Gr W u → u.cell? ⟨q, 11, none⟩ = some (.slice (some ⟨r, 0, none⟩) 2 rc) ∧ u.cell? ⟨r, 3, none⟩ = some (.slice (some ⟨v2, 0, none⟩) n2 c2) ∧ u.cell? ⟨r, 4, none⟩ = some (.int .i64 0) ∧ u.cell? ⟨r, 5, none⟩ = some (.pointer none) ∧ u.cell? ⟨l, 0, none⟩ = some (.pointer none) := fun u g => ⟨cellB (h.gr g).nd, (h.gr g).r3, (h.gr g).r4, (h.gr g).r5, g.cell' hl id⟩
  have HS0 := hidM (hS A.drew gA.drew)
  have HT : Hid (∀ w1, Gr A.drew w1 → Gr W w1 ∧ w1.heap[W.heap.size]? = some (.cells #[.slice none 0 0, .int .i64 0, .pointer none] 245) ∧ (w1.cell? ⟨q, 11, none⟩ = some (.slice (some ⟨r, 0, none⟩) 2 rc) ∧ w1.cell? ⟨r, 3, none⟩ = some (.slice (some ⟨v2, 0, none⟩) n2 c2) ∧ w1.cell? ⟨r, 4, none⟩ = some (.int .i64 0) ∧ w1.cell? ⟨r, 5, none⟩ = some (.pointer none) ∧ w1.cell? ⟨l, 0, none⟩ = some (.pointer none)) ∧ (vwU w1 W.heap.size (.slice (some ⟨v2, 0, none⟩) n2 c2)).heap[W.heap.size]? = some (.cells #[.slice (some ⟨v2, 0, none⟩) n2 c2, .int .i64 0, .pointer none] 245) ∧ Gr W (vwU w1 W.heap.size (.slice (some ⟨v2, 0, none⟩) n2 c2))) := fun w1 g1 => by
    have gW : Gr W w1 := gA.drew.trans g1 (fun _ _ h => h)
    have hb1 := (g1.block _ (lt_of_heap hb) id).trans hb
    exact ⟨gW, hb1, hS w1 gW, vw_blk hb1, vw_gr gW (Nat.le_refl _)⟩
  have HSA := hidM hS
  clear gA hb hS h hl
  go_enter Tryz.func138, Tryz.ntmps138
  go_wp2_with fail
  go_region_held3 (fun u => u.cell? ⟨q, 11, none⟩ = some (.slice (some ⟨r, 0, none⟩) 2 rc) ∧ u.cell? ⟨r, 3, none⟩ = some (.slice (some ⟨v2, 0, none⟩) n2 c2) ∧ u.cell? ⟨r, 4, none⟩ = some (.int .i64 0) ∧ u.cell? ⟨r, 5, none⟩ = some (.pointer none) ∧ u.cell? ⟨l, 0, none⟩ = some (.pointer none)) (first | with_reducible exact HS0.out | with_reducible exact HS1.out | with_reducible exact HSU.out) ((go_at_call 147; refine (watched135 _ _ _ _).mono ?_; rintro e w1 ⟨rfl, g1⟩; obtain ⟨gW, hb1, hs1, hub, hug⟩ := HT.out w1 g1; have HS1 := hidM hs1; obtain ⟨U, hU⟩ : ∃ U, vwU w1 W.heap.size (.slice (some ⟨v2, 0, none⟩) n2 c2) = U := ⟨_, rfl⟩; rw [hU] at hub hug; have HSU := hidM (HSA.out U hug); have HUB := hidM hub; have HUG := hidM hug; simp only [vwU, setAll] at hU; obtain ⟨y0, y1, y2⟩ := cell3V hb1; have x0 := frz hb1 0; have x1 := frz hb1 1; have x2 := frz hb1 2; clear g1 gW hb1 hs1 hub hug hA))
  go_wp2_with fail
  (try simp only [Exit.inBlock, Exit.then])
  refine bodyPost_ret (results_cell236 rfl rfl (by with_reducible exact HUB.out) (by kernel_rfl)) rfl ?_
  exact ⟨rfl, HUG.out⟩
theorem take104 (l left : Nat) (W : World) (h : W.heap[l]? = some (.cells #[.pointer none, .int .i64 left] 140)) (h1 : 16 ≤ left) (h2 : left ≤ 4194304) : Calls Tryz.prog 117 #[.pointer (some ⟨l, 0, none⟩), .int .i64 16] W fun e w' => e = .returned (.tuple #[]) ∧ Keeps W w' (fun z => z = l) ∧ w'.heap[l]? = some (.cells #[.pointer none, .int .i64 ((left - 16 : Nat) : Int)] 140) := by
  obtain ⟨c0, c1⟩ := cell2 h
  have z1 := frz h 1
  have wr1 : IntKind.i64.wrap ((left : Int) - 16) = ((left - 16 : Nat) : Int) := by rw [IntKind.wrap_i64]; omega
  have b1 : ¬ (((left - 16 : Nat) : Int) < 0) := by omega
  obtain ⟨U, hU⟩ : ∃ U, W.setCell ⟨l, 1, none⟩ (.int .i64 ((left - 16 : Nat) : Int)) = U := ⟨_, rfl⟩
  have hu : U.heap[l]? = some (.cells #[.pointer none, .int .i64 ((left - 16 : Nat) : Int)] 140) := by rw [← hU, heap_setCell_same W l 1 _ _ _ h]; simp
  have HK : Hid (Keeps W U (fun z => z = l)) := by rw [← hU]; exact (Keeps.refl W (fun z => z = l)).setCell (p := ⟨l, 1, none⟩) (fun _ => rfl) _
  have HU := hidM hu
  have u1 : U.cell? ⟨l, 1, none⟩ = some (.int .i64 ((left - 16 : Nat) : Int)) := by simp [World.cell?, hu]
  generalize ((left - 16 : Nat) : Int) = x at *
  clear h hu h1 h2
  go_enter Tryz.func117, Tryz.ntmps117
  go_wp2_with fail
  go_end0
  exact ⟨rfl, HK.out, HU.out⟩
theorem isWidth185 (W : World) : Calls Tryz.prog 197 #[.int .i64 1] W fun e w' => e = .returned (.bool true) ∧ w' = W := by
  go_enter Tryz.func197, Tryz.ntmps197
  go_wp2_with fail
  go_ret
  exact ⟨rfl, rfl⟩
theorem isOff102 (x : Int) (l : Nat) (W : World) (q r rc : Nat) (nu : Bool) (ao : Option Addr) (ca L N : Nat) (v2 n2 c2 : Nat) (h : NdA W q r rc nu ao ca L N v2 n2 c2) : Calls Tryz.prog 110 #[.pointer (some ⟨l, 0, none⟩), .pointer (some ⟨q, 0, none⟩), .int .i64 x] W fun e w' => e = .returned (.bool false) ∧ Gr W w' := by
  have HM := hidM (masked97 q nu ao ca L N (.slice (some ⟨r, 0, none⟩) 2 rc) W h.nd)
  have c11 := cellB h.nd
  obtain ⟨⟨bo, bc, r0⟩, r1, r2⟩ := And.intro h.r0 (And.intro h.r1 h.r2)
  clear h
  go_enter Tryz.func110, Tryz.ntmps110
  go_wp2_with (first
    | (go_at_call 105; refine HM.out.mono ?_; rintro e w1 ⟨rfl, rfl⟩)
    | (go_at_call 108; refine (len100 _ _ _ _).mono ?_; rintro e w2 ⟨rfl, g2⟩; have HG2 := hidM g2; clear g2))
  go_ret
  exact ⟨rfl, HG2.out⟩
theorem lowest285_0 (g c : Nat) (W : World) (h0 : W.cell? ⟨g, 0, none⟩ = some (.int .u8 5)) : Calls Tryz.prog 297 #[.slice (some ⟨g, 0, none⟩) 1 c] W fun e w' => e = .returned (.int .u64 5) ∧ w' = W := by
  have H0 := hidM h0
  clear h0
  go_enter Tryz.func297, Tryz.ntmps297
  go_wp2_with fail
  go_loopw [8, 3] (fun i s wr => ∃ k : Nat, k ≤ 1 ∧ i = .int .i64 k ∧ s = .int .u64 (if k = 0 then 0 else 5) ∧ wr = W) (fun i _ _ => 1 - (intOf i).toNat)
  case atStart => exact ⟨0, by omega, rfl, rfl, rfl⟩
  case round =>
    obtain ⟨k, hk, rfl, rfl, rfl⟩ := hrel
    have hk3 : k = 0 ∨ k = 1 := by omega
    rcases hk3 with rfl | rfl
    · have c0 := H0.out
      simp only [if_pos rfl]
      go_wp2_with fail
      go_roundw
      case rel => exact ⟨1, by omega, by go_num, by simp; kernel_rfl, trivial⟩
      case measure => simp [intOf]
    · go_wp2_with fail
      go_ret
      exact ⟨by simp, rfl⟩
theorem lowest285_1 (g c : Nat) (W : World) (h0 : W.cell? ⟨g, 1, none⟩ = some (.int .u8 6)) : Calls Tryz.prog 297 #[.slice (some ⟨g, 1, none⟩) 1 c] W fun e w' => e = .returned (.int .u64 6) ∧ w' = W := by
  have H0 := hidM h0
  clear h0
  go_enter Tryz.func297, Tryz.ntmps297
  go_wp2_with fail
  go_loopw [8, 3] (fun i s wr => ∃ k : Nat, k ≤ 1 ∧ i = .int .i64 k ∧ s = .int .u64 (if k = 0 then 0 else 6) ∧ wr = W) (fun i _ _ => 1 - (intOf i).toNat)
  case atStart => exact ⟨0, by omega, rfl, rfl, rfl⟩
  case round =>
    obtain ⟨k, hk, rfl, rfl, rfl⟩ := hrel
    have hk3 : k = 0 ∨ k = 1 := by omega
    rcases hk3 with rfl | rfl
    · have c0 := H0.out
      simp only [if_pos rfl]
      go_wp2_with fail
      go_roundw
      case rel => exact ⟨1, by omega, by go_num, by simp; kernel_rfl, trivial⟩
      case measure => simp [intOf]
    · go_wp2_with fail
      go_ret
      exact ⟨by simp, rfl⟩
end Go.Proofs.YtegjpmodleigeaaGreatDoor.Kit
