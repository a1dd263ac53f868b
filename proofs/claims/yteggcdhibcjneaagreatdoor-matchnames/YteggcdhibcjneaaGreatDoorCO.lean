import Derived.Test.YteggcdhibcjneaaGreatDoorCJ
import Derived.Test.YteggcdhibcjneaaGreatDoorCK
set_option maxRecDepth 100000
set_option maxHeartbeats 4000000
namespace Go.Proofs.YteggcdhibcjneaaGreatDoor.Kit
variable {nx : Bool}
open Go.RowKit Go.Shelf Go.Deep
open Go.Proofs.YteggcdhibcjneaaGreatDoor.Kd (Ans AnsV cell5 cell2)
open Go.Proofs.YteggcdhibcjneaaGreatDoor.Ink (OwnRow)
set_option linter.unusedVariables false
set_option linter.unusedSimpArgs false
attribute [local go_sem] run_store_func

theorem cell3V {W : World} {p t : Nat} {a b c : Value} (h : W.heap[p]? = some (.cells #[a, b, c] t)) : W.cell? ⟨p, 0, none⟩ = some a ∧ W.cell? ⟨p, 1, none⟩ = some b ∧ W.cell? ⟨p, 2, none⟩ = some c := by
  refine ⟨?_, ?_, ?_⟩ <;> simp [World.cell?, h]
theorem end139 (vo : Option Addr) (n c f m : Nat) (W : World) (h : f + m ≤ n) (hn : n ≤ 100000) : Calls Tryz.prog 193 #[.agg #[.slice vo n c, .int .i64 0, .pointer none], .int .i64 f, .int .i64 m] W fun e w' => e = .returned (.tuple #[.int .i64 ((f + m : Nat) : Int), .bool true]) ∧ Gr W w' := by
  obtain ⟨A, hA⟩ : ∃ A, W.alloc (.cells #[.slice vo n c, .int .i64 0, .pointer none] 247) = A := ⟨_, rfl⟩
  have gA : Gr W A := by rw [← hA]; exact gr_alloc W _
  have hb : A.heap[W.heap.size]? = some (.cells #[.slice vo n c, .int .i64 0, .pointer none] 247) := by rw [← hA]; exact heap_alloc_new W _
  obtain ⟨B, hB⟩ : ∃ B, A.alloc (.cells #[.int .i64 f, .int .i64 m] 3) = B := ⟨_, rfl⟩
  have gB : Gr A B := by rw [← hB]; exact gr_alloc A _
  have hb2 : B.heap[A.heap.size]? = some (.cells #[.int .i64 f, .int .i64 m] 3) := by rw [← hB]; exact heap_alloc_new A _
  obtain ⟨z0, z1⟩ := cell2 hb2
  have HC := hidM (sum92 A.heap.size 2 f m B z0 z1 (by omega) (by omega))
  have HG := hidM (gA.trans gB (fun _ _ h => h))
  have HS0 : Hid (B.drew.cell? ⟨W.heap.size, 0, none⟩ = some (.slice vo n c)) := by
    have hbB := (gB.block _ (lt_of_heap hb) id).trans hb
    show B.cell? _ = _
    simp [World.cell?, hbB]
  obtain ⟨s, hs⟩ : ∃ s, f + m = s := ⟨_, rfl⟩
  rw [hs] at h HC ⊢
  have b1 : ((s : Int) ≤ (n : Int)) := by omega
  clear gA hb gB hb2 z0 z1 hs h
  go_enter Tryz.func193, Tryz.ntmps193
  go_wp2_with (go_at_call 130; refine HC.out.mono ?_; rintro e w2 ⟨rfl, rfl⟩)
  go_region_held3 (fun u => u.cell? ⟨W.heap.size, 0, none⟩ = some (.slice vo n c)) (with_reducible exact HS0.out) (fail)
  go_wp2_with fail
  go_ret2
  exact ⟨rfl, HG.out.drew⟩
theorem ptr_nn (w : World) : (binOp .neq 144 (.pointer none) (.pointer none)).run Tryz.prog w = .ok (.bool false) w := by kernel_rfl
theorem tell140 (vo : Option Addr) (n c : Nat) (f s : Int) (W : World) : Calls Tryz.prog 194 #[.agg #[.slice vo n c, .int .i64 0, .pointer none], .int .i64 f, .int .i64 s] W fun e w' => e = .returned (.tuple #[]) ∧ Gr W w' := by
  have hp := ptr_nn
  go_enter Tryz.func194, Tryz.ntmps194
  go_wp2_with fail
  go_end0
  exact ⟨rfl, gr_alloc _ _⟩
theorem read136 (g n c f m : Nat) (W : World) (h : f + m ≤ n) (hn : n ≤ 100000) (hc : n ≤ c) (hm : 0 < m) : Calls Tryz.prog 184 #[.agg #[.slice (some ⟨g, 0, none⟩) n c, .int .i64 0, .pointer none], .int .i64 f, .int .i64 m] W fun e w' => e = .returned (.tuple #[.slice (some ⟨g, f, none⟩) m (c - f), .bool true]) ∧ Gr W w' := by
  obtain ⟨A, hA⟩ : ∃ A, W.alloc (.cells #[.slice (some ⟨g, 0, none⟩) n c, .int .i64 0, .pointer none] 247) = A := ⟨_, rfl⟩
  have gA : Gr W A := by rw [← hA]; exact gr_alloc W _
  have hb : A.heap[W.heap.size]? = some (.cells #[.slice (some ⟨g, 0, none⟩) n c, .int .i64 0, .pointer none] 247) := by rw [← hA]; exact heap_alloc_new W _
  obtain ⟨e0, e1, e2⟩ := cell3V hb
  have HB := hidM hb
  have HG := hidM gA
  obtain ⟨s, hs⟩ : ∃ s, f + m = s := ⟨_, rfl⟩
  have HC := hidM (end139 (some ⟨g, 0, none⟩) n c f m A h hn)
  rw [hs] at h HC
  have HE : Hid (s - f = m) := (by omega : s - f = m)
  have b1 : ¬ ((f : Int) < 0) := by omega
  have b2 : (f : Int) ≤ (s : Int) := by omega
  have b3 : (s : Int) ≤ (c : Int) := by omega
  have b4 : (0 : Int) ≤ (f : Int) := by omega
  have b5 : f ≤ s := by omega
  have b6 : s ≤ c := by omega
  have b7 : f < c := by omega
  have b8 : ¬ (c - f = 0) := by omega
  have b9 : ¬ (c ≤ f) := by omega
  have b10 : ¬ ((c : Int) = (f : Int)) := by omega
  have b11 : ¬ ((f : Int) = (c : Int)) := by omega
  clear gA hb hs
  go_enter Tryz.func184, Tryz.ntmps184
  go_wp2_with (first
    | (go_at_call 193; refine HC.out.mono ?_; rintro e w2 ⟨rfl, g2⟩; have HG2 := hidM (HG.out.trans g2 (fun _ _ h => h)); clear hA e0 e1 e2; have HB2 := hidM ((g2.block _ (lt_of_heap HB.out) id).trans HB.out); obtain ⟨e0, e1, e2⟩ := cell3V HB2.out; clear g2)
    | (go_at_call 194; refine (tell140 _ _ _ _ _ w2).mono ?_; rintro e w3 ⟨rfl, g3⟩; have HG3 := hidM (HG2.out.trans g3 (fun _ _ h => h)); clear e0 e1 e2; obtain ⟨e0, e1, e2⟩ := cell3V ((g3.block _ (lt_of_heap HB2.out) id).trans HB2.out); clear g3))
  go_ret2
  refine ⟨?_, HG3.out⟩
  have := HE.out
  simp [this]
end Go.Proofs.YteggcdhibcjneaaGreatDoor.Kit
namespace Go.Proofs.YteggcdhibcjneaaGreatDoor.Kit
variable {nx : Bool}
open Go.RowKit Go.Shelf Go.Deep
open Go.Proofs.YteggcdhibcjneaaGreatDoor.Kd (Ans AnsV cell5 cell2)
open Go.Proofs.YteggcdhibcjneaaGreatDoor.Ink (OwnRow)
set_option linter.unusedVariables false
set_option linter.unusedSimpArgs false
attribute [local go_sem] run_store_func

/-- a node of array that has been filled, with its row of views -/
structure NdA (nx : Bool) (W : World) (q r rc : Nat) (nu : Bool) (ao : Option Addr) (ca L N : Nat) (v2 n2 c2 : Nat) : Prop where
  nd : W.heap[q]? = some (.cells (ndC nx nu ao ca L N (.slice (some ⟨r, 0, none⟩) 2 rc)) 143)
  r0 : ∃ bo bc, W.cell? ⟨r, 0, none⟩ = some (.slice bo 0 bc)
  r1 : W.cell? ⟨r, 1, none⟩ = some (.int .i64 0)
  r2 : W.cell? ⟨r, 2, none⟩ = some (.pointer none)
  r3 : W.cell? ⟨r, 3, none⟩ = some (.slice (some ⟨v2, 0, none⟩) n2 c2)
  r4 : W.cell? ⟨r, 4, none⟩ = some (.int .i64 0)
  r5 : W.cell? ⟨r, 5, none⟩ = some (.pointer none)
theorem NdA.kp {W u : World} {q r rc : Nat} {nu : Bool} {ao : Option Addr} {ca L N : Nat} {v2 n2 c2 : Nat} {S : Nat → Prop} (h : NdA nx W q r rc nu ao ca L N v2 n2 c2) (g : Keeps W u S) (hq : ¬ S q) (hr : ¬ S r) : NdA nx u q r rc nu ao ca L N v2 n2 c2 :=
  ⟨(g.block q (lt_of_heap h.nd) hq).trans h.nd, h.r0.imp fun _ e => e.imp fun _ e => g.cell' e hr, g.cell' h.r1 hr, g.cell' h.r2 hr, g.cell' h.r3 hr, g.cell' h.r4 hr, g.cell' h.r5 hr⟩
theorem NdA.gr {W u : World} {q r rc : Nat} {nu : Bool} {ao : Option Addr} {ca L N : Nat} {v2 n2 c2 : Nat} (h : NdA nx W q r rc nu ao ca L N v2 n2 c2) (g : Gr W u) : NdA nx u q r rc nu ao ca L N v2 n2 c2 := h.kp g id id
def vwU (w : World) (b : Nat) (v : Value) : World := setAll w b [(0, v), (1, .int .i64 0), (2, .pointer none)]
theorem vw_blk {w : World} {b : Nat} {v : Value} {a0 a1 a2 : Value} (h : w.heap[b]? = some (.cells #[a0, a1, a2] 247)) : (vwU w b v).heap[b]? = some (.cells #[v, .int .i64 0, .pointer none] 247) := by
  unfold vwU
  rw [setAll_blk b 247 _ _ _ h]
  simp [setsA]
theorem vw_gr {W w : World} {b : Nat} {v : Value} (g : Gr W w) (hb : W.heap.size ≤ b) : Gr W (vwU w b v) := g.trans (setAll_kp _ _ _) (fun j hj e => by have e' : j = b := e; omega)
theorem watched135 (vo : Option Addr) (n c : Nat) (W : World) : Calls Tryz.prog 183 #[.agg #[.slice vo n c, .int .i64 0, .pointer none], .pointer none] W fun e w' => e = .returned (.agg #[.slice vo n c, .int .i64 0, .pointer none]) ∧ Gr W w' := by
  obtain ⟨A0, hA0⟩ : ∃ A0, W.alloc (.cells #[.slice vo n c, .int .i64 0, .pointer none] 247) = A0 := ⟨_, rfl⟩
  have g0 : Gr W A0 := by rw [← hA0]; exact gr_alloc W _
  have hs0 : A0.heap.size = W.heap.size + 1 := by rw [← hA0]; simp
  have hb0 : A0.heap[W.heap.size]? = some (.cells #[.slice vo n c, .int .i64 0, .pointer none] 247) := by rw [← hA0]; exact heap_alloc_new W _
  obtain ⟨A, hA⟩ : ∃ A, A0.alloc (.cells #[.slice none 0 0, .int .i64 0, .pointer none] 247) = A := ⟨_, rfl⟩
  have g1 : Gr A0 A := by rw [← hA]; exact gr_alloc A0 _
  have hb1 := (g1.block _ (lt_of_heap hb0) id).trans hb0
  have hb2 : A.heap[A0.heap.size]? = some (.cells #[.slice none 0 0, .int .i64 0, .pointer none] 247) := by rw [← hA]; exact heap_alloc_new A0 _
  obtain ⟨e0, e1, e2⟩ := cell3V hb1
  obtain ⟨y0, y1, y2⟩ := cell3V hb2
  have z2 := frz hb1 2
  have x0 := frz hb2 0
  have x1 := frz hb2 1
  have x2 := frz hb2 2
  have s2 := set_id (j := 2) (v := .pointer none) hb1 rfl
  obtain ⟨U, hU⟩ : ∃ U, vwU A A0.heap.size (.slice vo n c) = U := ⟨_, rfl⟩
  have HUB := hidM (vw_blk (v := .slice vo n c) hb2)
  have HUG := hidM (vw_gr (v := .slice vo n c) (g0.trans g1 (fun _ _ h => h)) (b := A0.heap.size) (by omega))
  rw [hU] at HUB HUG
  simp only [vwU, setAll] at hU
  have HSZ := hidM hs0
  clear g0 hs0 hb0 g1 hb1 hb2
  go_enter Tryz.func183, Tryz.ntmps183
  go_wp2_with fail
  (try simp only [Exit.inBlock, Exit.then])
  refine bodyPost_ret (results_cell236 rfl rfl (by with_reducible exact HUB.out) (by kernel_rfl)) rfl ?_
  exact ⟨rfl, HUG.out⟩
theorem buffer128_1 (l : Nat) (W : World) (q r rc : Nat) (nu : Bool) (ao : Option Addr) (ca L N : Nat) (v2 n2 c2 : Nat) (h : NdA nx W q r rc nu ao ca L N v2 n2 c2) (hl : W.cell? ⟨l, 0, none⟩ = some (.pointer none)) : Calls Tryz.prog 171 #[.pointer (some ⟨l, 0, none⟩), .pointer (some ⟨q, 0, none⟩), .int .i64 1] W fun e w' => e = .returned (.agg #[.slice (some ⟨v2, 0, none⟩) n2 c2, .int .i64 0, .pointer none]) ∧ Gr W w' := by
  obtain ⟨A, hA⟩ : ∃ A, W.alloc (.cells #[.slice none 0 0, .int .i64 0, .pointer none] 247) = A := ⟨_, rfl⟩
  have gA : Gr W A := by rw [← hA]; exact gr_alloc W _
  have hb : A.heap[W.heap.size]? = some (.cells #[.slice none 0 0, .int .i64 0, .pointer none] 247) := by rw [← hA]; exact heap_alloc_new W _
  have hS : ∀ u, Gr W u → u.cell? ⟨q, 11, none⟩ = some (.slice (some ⟨r, 0, none⟩) 2 rc) ∧ u.cell? ⟨r, 3, none⟩ = some (.slice (some ⟨v2, 0, none⟩) n2 c2) ∧ u.cell? ⟨r, 4, none⟩ = some (.int .i64 0) ∧ u.cell? ⟨r, 5, none⟩ = some (.pointer none) ∧ u.cell? ⟨l, 0, none⟩ = some (.pointer none) := fun u g => ⟨cellB (h.gr g).nd, (h.gr g).r3, (h.gr g).r4, (h.gr g).r5, g.cell' hl id⟩
  have HS0 := hidM (hS A.drew gA.drew)
  have HT : Hid (∀ w1, Gr A.drew w1 → Gr W w1 ∧ w1.heap[W.heap.size]? = some (.cells #[.slice none 0 0, .int .i64 0, .pointer none] 247) ∧ (w1.cell? ⟨q, 11, none⟩ = some (.slice (some ⟨r, 0, none⟩) 2 rc) ∧ w1.cell? ⟨r, 3, none⟩ = some (.slice (some ⟨v2, 0, none⟩) n2 c2) ∧ w1.cell? ⟨r, 4, none⟩ = some (.int .i64 0) ∧ w1.cell? ⟨r, 5, none⟩ = some (.pointer none) ∧ w1.cell? ⟨l, 0, none⟩ = some (.pointer none)) ∧ (vwU w1 W.heap.size (.slice (some ⟨v2, 0, none⟩) n2 c2)).heap[W.heap.size]? = some (.cells #[.slice (some ⟨v2, 0, none⟩) n2 c2, .int .i64 0, .pointer none] 247) ∧ Gr W (vwU w1 W.heap.size (.slice (some ⟨v2, 0, none⟩) n2 c2))) := fun w1 g1 => by
    have gW : Gr W w1 := gA.drew.trans g1 (fun _ _ h => h)
    have hb1 := (g1.block _ (lt_of_heap hb) id).trans hb
    exact ⟨gW, hb1, hS w1 gW, vw_blk hb1, vw_gr gW (Nat.le_refl _)⟩
  have HSA := hidM hS
  clear gA hb hS h hl
  go_enter Tryz.func171, Tryz.ntmps171
  go_wp2_with fail
  go_region_held3 (fun u => u.cell? ⟨q, 11, none⟩ = some (.slice (some ⟨r, 0, none⟩) 2 rc) ∧ u.cell? ⟨r, 3, none⟩ = some (.slice (some ⟨v2, 0, none⟩) n2 c2) ∧ u.cell? ⟨r, 4, none⟩ = some (.int .i64 0) ∧ u.cell? ⟨r, 5, none⟩ = some (.pointer none) ∧ u.cell? ⟨l, 0, none⟩ = some (.pointer none)) (first | with_reducible exact HS0.out | with_reducible exact HS1.out | with_reducible exact HSU.out) ((go_at_call 183; refine (watched135 _ _ _ _).mono ?_; rintro e w1 ⟨rfl, g1⟩; obtain ⟨gW, hb1, hs1, hub, hug⟩ := HT.out w1 g1; have HS1 := hidM hs1; obtain ⟨U, hU⟩ : ∃ U, vwU w1 W.heap.size (.slice (some ⟨v2, 0, none⟩) n2 c2) = U := ⟨_, rfl⟩; rw [hU] at hub hug; have HSU := hidM (HSA.out U hug); have HUB := hidM hub; have HUG := hidM hug; simp only [vwU, setAll] at hU; obtain ⟨y0, y1, y2⟩ := cell3V hb1; have x0 := frz hb1 0; have x1 := frz hb1 1; have x2 := frz hb1 2; clear g1 gW hb1 hs1 hub hug hA))
  go_wp2_with fail
  (try simp only [Exit.inBlock, Exit.then])
  refine bodyPost_ret (results_cell236 rfl rfl (by with_reducible exact HUB.out) (by kernel_rfl)) rfl ?_
  exact ⟨rfl, HUG.out⟩
end Go.Proofs.YteggcdhibcjneaaGreatDoor.Kit
namespace Go.Proofs.YteggcdhibcjneaaGreatDoor.Kit
variable {nx : Bool}
open Go.RowKit Go.Shelf Go.Deep
open Go.Proofs.YteggcdhibcjneaaGreatDoor.Kd (Ans AnsV cell5 cell2)
open Go.Proofs.YteggcdhibcjneaaGreatDoor.Ink (OwnRow)
set_option linter.unusedVariables false
set_option linter.unusedSimpArgs false
attribute [local go_sem] run_store_func

theorem take104 (l left : Nat) (W : World) (h : W.heap[l]? = some (.cells #[.pointer none, .int .i64 left] 172)) (h1 : 16 ≤ left) (h2 : left ≤ 4194304) : Calls Tryz.prog 142 #[.pointer (some ⟨l, 0, none⟩), .int .i64 16] W fun e w' => e = .returned (.tuple #[]) ∧ Keeps W w' (fun z => z = l) ∧ w'.heap[l]? = some (.cells #[.pointer none, .int .i64 ((left - 16 : Nat) : Int)] 172) := by
  obtain ⟨c0, c1⟩ := cell2 h
  have z1 := frz h 1
  have wr1 : IntKind.i64.wrap ((left : Int) - 16) = ((left - 16 : Nat) : Int) := by rw [IntKind.wrap_i64]; omega
  have b1 : ¬ (((left - 16 : Nat) : Int) < 0) := by omega
  obtain ⟨U, hU⟩ : ∃ U, W.setCell ⟨l, 1, none⟩ (.int .i64 ((left - 16 : Nat) : Int)) = U := ⟨_, rfl⟩
  have hu : U.heap[l]? = some (.cells #[.pointer none, .int .i64 ((left - 16 : Nat) : Int)] 172) := by rw [← hU, heap_setCell_same W l 1 _ _ _ h]; simp
  have HK : Hid (Keeps W U (fun z => z = l)) := by rw [← hU]; exact (Keeps.refl W (fun z => z = l)).setCell (p := ⟨l, 1, none⟩) (fun _ => rfl) _
  have HU := hidM hu
  have u1 : U.cell? ⟨l, 1, none⟩ = some (.int .i64 ((left - 16 : Nat) : Int)) := by simp [World.cell?, hu]
  generalize ((left - 16 : Nat) : Int) = x at *
  clear h hu h1 h2
  go_enter Tryz.func142, Tryz.ntmps142
  go_wp2_with fail
  go_end0
  exact ⟨rfl, HK.out, HU.out⟩
theorem isWidth185 (W : World) : Calls Tryz.prog 237 #[.int .i64 1] W fun e w' => e = .returned (.bool true) ∧ w' = W := by
  go_enter Tryz.func237, Tryz.ntmps237
  go_wp2_with fail
  go_ret
  exact ⟨rfl, rfl⟩
theorem isOff102 (x : Int) (l : Nat) (W : World) (q r rc : Nat) (nu : Bool) (ao : Option Addr) (ca L N : Nat) (v2 n2 c2 : Nat) (h : NdA nx W q r rc nu ao ca L N v2 n2 c2) : Calls Tryz.prog 140 #[.pointer (some ⟨l, 0, none⟩), .pointer (some ⟨q, 0, none⟩), .int .i64 x] W fun e w' => e = .returned (.bool false) ∧ Gr W w' := by
  have HM := hidM (masked97 q nu ao ca L N (.slice (some ⟨r, 0, none⟩) 2 rc) W h.nd)
  have c11 := cellB h.nd
  obtain ⟨⟨bo, bc, r0⟩, r1, r2⟩ := And.intro h.r0 (And.intro h.r1 h.r2)
  clear h
  go_enter Tryz.func140, Tryz.ntmps140
  go_wp2_with (first
    | (go_at_call 135; refine HM.out.mono ?_; rintro e w1 ⟨rfl, rfl⟩)
    | (go_at_call 138; refine (len100 _ _ _ _).mono ?_; rintro e w2 ⟨rfl, g2⟩; have HG2 := hidM g2; clear g2))
  go_ret
  exact ⟨rfl, HG2.out⟩
theorem lowest285_K (j : Nat) (x : Int) (hx : x = 5 ∨ x = 7 ∨ x = 8) (g c : Nat) (W : World) (h0 : W.cell? ⟨g, j, none⟩ = some (.int .u8 x)) : Calls Tryz.prog 238 #[.slice (some ⟨g, j, none⟩) 1 c] W fun e w' => e = .returned (.int .u64 x) ∧ w' = W := by
  have H0 := hidM h0
  clear h0
  go_enter Tryz.func238, Tryz.ntmps238
  go_wp2_with fail
  go_loopw [8, 3] (fun i s wr => ∃ k : Nat, k ≤ 1 ∧ i = .int .i64 k ∧ s = .int .u64 (if k = 0 then 0 else x) ∧ wr = W) (fun i _ _ => 1 - (intOf i).toNat)
  case atStart => exact ⟨0, by omega, rfl, rfl, rfl⟩
  case round =>
    obtain ⟨k, hk, rfl, rfl, rfl⟩ := hrel
    have hk3 : k = 0 ∨ k = 1 := by omega
    rcases hk3 with rfl | rfl
    · have c0 := H0.out
      simp only [if_pos rfl]
      go_wp2_with fail
      go_roundw
      case rel => exact ⟨1, by omega, by go_num, (by rcases hx with rfl | rfl | rfl <;> kernel_rfl), trivial⟩
      case measure => simp [intOf]
    · go_wp2_with fail
      go_ret
      exact ⟨by simp, rfl⟩
end Go.Proofs.YteggcdhibcjneaaGreatDoor.Kit
namespace Go.Proofs.YteggcdhibcjneaaGreatDoor.Kit
variable {nx : Bool}
open Go.RowKit Go.Shelf Go.Deep
open Go.Proofs.YteggcdhibcjneaaGreatDoor.Kd (Ans AnsV cell5 cell2)
open Go.Proofs.YteggcdhibcjneaaGreatDoor.Ink (OwnRow)
set_option linter.unusedVariables false
set_option linter.unusedSimpArgs false
attribute [local go_sem] run_store_func

theorem load284_K (i : Int) (j : Nat) (x : Int) (hij : i = 0 ∧ j = 0 ∨ i = 1 ∧ j = 1 ∨ i = 2 ∧ j = 2) (hx : x = 5 ∨ x = 7 ∨ x = 8) (g n c : Nat) (W : World) (hn0 : j + 1 ≤ n) (hn : n ≤ 100000) (hc : n ≤ c) (h0 : W.cell? ⟨g, j, none⟩ = some (.int .u8 x)) (h1 : W.cell? ⟨g, j, none⟩ = some (.int .u8 x)) : Calls Tryz.prog 236 #[.agg #[.slice (some ⟨g, 0, none⟩) n c, .int .i64 0, .pointer none], .int .i64 i, .int .i64 1] W fun e w' => e = .returned (.tuple #[.int .u64 x, .int .i64 0]) ∧ Gr W w' := by
  obtain ⟨A, hA⟩ : ∃ A, W.alloc (.cells #[.slice (some ⟨g, 0, none⟩) n c, .int .i64 0, .pointer none] 247) = A := ⟨_, rfl⟩
  have gA : Gr W A := by rw [← hA]; exact gr_alloc W _
  have hb : A.heap[W.heap.size]? = some (.cells #[.slice (some ⟨g, 0, none⟩) n c, .int .i64 0, .pointer none] 247) := by rw [← hA]; exact heap_alloc_new W _
  obtain ⟨e0, e1, e2⟩ := cell3V hb
  have HG := hidM gA
  have HC := hidM (read136 g n c j 1 A (by omega) hn hc (by omega))
  have HLo := hidM (fun w2 (g2 : Gr W w2) => lowest285_K j x hx g (c - j) w2 (g2.cell' h0 id))
  clear gA hb h0 h1
  rcases hij with ⟨rfl, rfl⟩ | ⟨rfl, rfl⟩ | ⟨rfl, rfl⟩
  all_goals
    go_enter Tryz.func236, Tryz.ntmps236
    go_wp2_with (first
      | (go_at_call 237; refine (isWidth185 _).mono ?_; rintro e w1 ⟨rfl, rfl⟩)
      | (go_at_call 184; refine HC.out.mono ?_; rintro e w2 ⟨rfl, g2⟩; have HG2 := hidM (HG.out.trans g2 (fun _ _ h => h)); have HL := hidM (HLo.out w2 HG2.out); clear g2)
      | (go_at_call 238; refine HL.out.mono ?_; rintro e w3 ⟨rfl, rfl⟩))
    go_ret2
    exact ⟨rfl, HG2.out⟩
theorem signed283_K (i : Int) (j : Nat) (x : Int) (hij : i = 0 ∧ j = 0 ∨ i = 1 ∧ j = 1 ∨ i = 2 ∧ j = 2) (hx : x = 5 ∨ x = 7 ∨ x = 8) (g n c : Nat) (W : World) (hn0 : j + 1 ≤ n) (hn : n ≤ 100000) (hc : n ≤ c) (h0 : W.cell? ⟨g, j, none⟩ = some (.int .u8 x)) (h1 : W.cell? ⟨g, j, none⟩ = some (.int .u8 x)) : Calls Tryz.prog 235 #[.agg #[.slice (some ⟨g, 0, none⟩) n c, .int .i64 0, .pointer none], .int .i64 i, .int .i64 1] W fun e w' => e = .returned (.tuple #[.int .i64 x, .int .i64 0]) ∧ Gr W w' := by
  obtain ⟨A, hA⟩ : ∃ A, W.alloc (.cells #[.slice (some ⟨g, 0, none⟩) n c, .int .i64 0, .pointer none] 247) = A := ⟨_, rfl⟩
  have gA : Gr W A := by rw [← hA]; exact gr_alloc W _
  have hb : A.heap[W.heap.size]? = some (.cells #[.slice (some ⟨g, 0, none⟩) n c, .int .i64 0, .pointer none] 247) := by rw [← hA]; exact heap_alloc_new W _
  obtain ⟨e0, e1, e2⟩ := cell3V hb
  have HG := hidM gA
  have HC := hidM (load284_K i j x hij hx g n c A hn0 hn hc (gA.cell' h0 id) (gA.cell' h1 id))
  clear gA hb h0 h1
  rcases hij with ⟨rfl, rfl⟩ | ⟨rfl, rfl⟩ | ⟨rfl, rfl⟩ <;> rcases hx with rfl | rfl | rfl
  all_goals
    go_enter Tryz.func235, Tryz.ntmps235
    go_wp2_with (go_at_call 236; refine HC.out.mono ?_; rintro e w2 ⟨rfl, g2⟩; have HG2 := hidM (HG.out.trans g2 (fun _ _ h => h)); clear g2)
    go_ret2
    exact ⟨by kernel_rfl, HG2.out⟩
theorem number311_K (i : Int) (j : Nat) (x : Int) (hij : i = 0 ∧ j = 0 ∨ i = 1 ∧ j = 1 ∨ i = 2 ∧ j = 2) (hx : x = 5 ∨ x = 7 ∨ x = 8) (l : Nat) (W : World) (q r rc : Nat) (nu : Bool) (ao : Option Addr) (ca L N : Nat) (v2 n2 c2 : Nat) (h : NdA nx W q r rc nu ao ca L N v2 n2 c2) (hl : W.cell? ⟨l, 0, none⟩ = some (.pointer none)) (hn0 : j + 1 ≤ n2) (hn : n2 ≤ 100000) (hc : n2 ≤ c2) (h0 : W.cell? ⟨v2, j, none⟩ = some (.int .u8 x)) (h1 : W.cell? ⟨v2, j, none⟩ = some (.int .u8 x)) : Calls Tryz.prog 264 #[.agg #[.int .i64 1, .bool true], .pointer (some ⟨l, 0, none⟩), .pointer (some ⟨q, 0, none⟩), .int .i64 i] W fun e w' => e = .returned (.int .i64 x) ∧ Gr W w' := by
  obtain ⟨A, hA⟩ : ∃ A, W.alloc (.cells #[.int .i64 1, .bool true] 238) = A := ⟨_, rfl⟩
  have gA : Gr W A := by rw [← hA]; exact gr_alloc W _
  have hb : A.heap[W.heap.size]? = some (.cells #[.int .i64 1, .bool true] 238) := by rw [← hA]; exact heap_alloc_new W _
  have HC := hidM (buffer128_1 l A q r rc nu ao ca L N v2 n2 c2 (h.gr gA) (gA.cell' hl id))
  have HT : Hid (∀ w1, Gr A w1 → Calls Tryz.prog 235 #[.agg #[.slice (some ⟨v2, 0, none⟩) n2 c2, .int .i64 0, .pointer none], .int .i64 i, .int .i64 1] (w1.alloc (.cells #[.slice (some ⟨v2, 0, none⟩) n2 c2, .int .i64 0, .pointer none] 247)) (fun e w' => e = .returned (.tuple #[.int .i64 x, .int .i64 0]) ∧ Gr (w1.alloc (.cells #[.slice (some ⟨v2, 0, none⟩) n2 c2, .int .i64 0, .pointer none] 247)) w') ∧ (w1.alloc (.cells #[.slice (some ⟨v2, 0, none⟩) n2 c2, .int .i64 0, .pointer none] 247)).heap[w1.heap.size]? = some (.cells #[.slice (some ⟨v2, 0, none⟩) n2 c2, .int .i64 0, .pointer none] 247) ∧ Gr W (w1.alloc (.cells #[.slice (some ⟨v2, 0, none⟩) n2 c2, .int .i64 0, .pointer none] 247)) ∧ (w1.alloc (.cells #[.slice (some ⟨v2, 0, none⟩) n2 c2, .int .i64 0, .pointer none] 247)).heap[W.heap.size]? = some (.cells #[.int .i64 1, .bool true] 238)) := fun w1 g1 => by
    have g2 : Gr A (w1.alloc (.cells #[.slice (some ⟨v2, 0, none⟩) n2 c2, .int .i64 0, .pointer none] 247)) := g1.alloc _
    have g3 := gA.trans g2 (fun _ _ h => h)
    exact ⟨signed283_K i j x hij hx v2 n2 c2 _ hn0 hn hc (g3.cell' h0 id) (g3.cell' h1 id), heap_alloc_new _ _, g3, (g2.block _ (lt_of_heap hb) id).trans hb⟩
  clear gA hb h hl h0 h1
  rcases hij with ⟨rfl, rfl⟩ | ⟨rfl, rfl⟩ | ⟨rfl, rfl⟩
  all_goals
    go_enter Tryz.func264, Tryz.ntmps264
    go_wp2_with (first
      | (go_at_call 171; refine HC.out.mono ?_; rintro e w1 ⟨rfl, g1⟩; obtain ⟨hc9, hv9, hg9, hf9⟩ := HT.out w1 g1; clear g1 hA; obtain ⟨V, hV⟩ : ∃ V, w1.alloc (.cells #[.slice (some ⟨v2, 0, none⟩) n2 c2, .int .i64 0, .pointer none] 247) = V := ⟨_, rfl⟩; rw [hV] at hc9 hv9 hg9 hf9; obtain ⟨y0, y1, y2⟩ := cell3V hv9; obtain ⟨f0, f1⟩ := cell2 hf9; have z1 := frz hv9 1; have z2 := frz hv9 2; have s1 := set_id (j := 1) (v := .int .i64 0) hv9 rfl; have s2 := set_id (j := 2) (v := .pointer none) hv9 rfl; have HC9 := hidM hc9; have HG9 := hidM hg9; clear hc9 hv9 hg9 hf9)
      | (go_at_call 235; refine HC9.out.mono ?_; rintro e w3 ⟨rfl, g3⟩; have HG3 := hidM (HG9.out.trans g3 (fun _ _ h => h)); clear g3))
    go_ret
    exact ⟨rfl, HG3.out⟩
def vlU (w : World) (b : Nat) (vn : Bool) (x : Int) : World := setAll w b [(0, .bool vn), (1, .int .i64 x), (2, .string ⟨#[]⟩), (3, .slice none 0 0)]
theorem vl_blk {w : World} {b : Nat} {vn : Bool} {x : Int} {a0 a1 a2 a3 : Value} (h : w.heap[b]? = some (.cells #[a0, a1, a2, a3] 86)) : (vlU w b vn x).heap[b]? = some (.cells #[.bool vn, .int .i64 x, .string ⟨#[]⟩, .slice none 0 0] 86) := by
  unfold vlU
  rw [setAll_blk b 86 _ _ _ h]
  simp [setsA]
theorem vl_kp (w : World) (b : Nat) (vn : Bool) (x : Int) : Keeps w (vlU w b vn x) (fun z => z = b) := setAll_kp _ _ _
theorem results_cell37 {fn : Func} {t : Tmp} {tmps : Array Value} {g : Nat} {cs : Array Value} {w : World} (h : fn.results = #[.cell t 86]) (ht : tmps.getD t undef = .pointer (some ⟨g, 0, none⟩)) (hg : w.heap[g]? = some (.cells cs 86 (0, 0))) (hi : (Tryz.prog.info? 86).map (·.size) = some cs.size) :
    (results fn tmps).run Tryz.prog w = .ok (.agg cs) w := by
  have hl := run_loadVar_row (P := Tryz.prog) w g 86 86 cs (0, 0) _ hg Tryz.underlying86 rfl hi
  unfold results
  rw [h]
  simp only [Array.mapM_eq_mapM_toList, List.mapM_cons, List.mapM_nil, ht]
  simp [asAddr, hl]
/-- behind a value that was read: the look's weight alone has changed -/
def Rd1 (W w' : World) (l left : Nat) : Prop := Keeps W w' (fun z => z = l) ∧ w'.heap[l]? = some (.cells #[.pointer none, .int .i64 ((left - 16 : Nat) : Int)] 172)
theorem read309_K (i : Int) (j : Nat) (x : Int) (hij : i = 0 ∧ j = 0 ∨ i = 1 ∧ j = 1 ∨ i = 2 ∧ j = 2) (hx : x = 5 ∨ x = 7 ∨ x = 8) (l left : Nat) (W : World) (q r rc : Nat) (nu : Bool) (ao : Option Addr) (ca L N : Nat) (v2 n2 c2 : Nat) (h : NdA nx W q r rc nu ao ca L N v2 n2 c2) (hl : W.heap[l]? = some (.cells #[.pointer none, .int .i64 left] 172)) (hlq : q ≠ l) (hlr : r ≠ l) (hlv : v2 ≠ l) (h16 : 16 ≤ left) (hle : left ≤ 4194304) (hn0 : j + 1 ≤ n2) (hn : n2 ≤ 100000) (hc : n2 ≤ c2) (h0 : W.cell? ⟨v2, j, none⟩ = some (.int .u8 x)) (h1 : W.cell? ⟨v2, j, none⟩ = some (.int .u8 x)) : Calls Tryz.prog 262 #[.agg #[.int .i64 1, .bool true], .pointer (some ⟨l, 0, none⟩), .pointer (some ⟨q, 0, none⟩), .int .i64 i] W fun e w' => e = .returned (.agg #[.bool false, .int .i64 x, .string ⟨#[]⟩, .slice none 0 0]) ∧ Rd1 W w' l left := by
  obtain ⟨A0, hA0⟩ : ∃ A0, W.alloc (.cells #[.int .i64 1, .bool true] 238) = A0 := ⟨_, rfl⟩
  have g0 : Gr W A0 := by rw [← hA0]; exact gr_alloc W _
  have hb0 : A0.heap[W.heap.size]? = some (.cells #[.int .i64 1, .bool true] 238) := by rw [← hA0]; exact heap_alloc_new W _
  have hs0 : A0.heap.size = W.heap.size + 1 := by rw [← hA0]; simp
  obtain ⟨A, hA⟩ : ∃ A, A0.alloc (.cells #[.bool false, .int .i64 0, .string ⟨#[]⟩, .slice none 0 0] 86) = A := ⟨_, rfl⟩
  have g1 : Gr A0 A := by rw [← hA]; exact gr_alloc A0 _
  have hbr : A.heap[A0.heap.size]? = some (.cells #[.bool false, .int .i64 0, .string ⟨#[]⟩, .slice none 0 0] 86) := by rw [← hA]; exact heap_alloc_new A0 _
  have hbf := (g1.block _ (lt_of_heap hb0) id).trans hb0
  have gA : Gr W A := g0.trans g1 (fun _ _ h => h)
  have hlA := (gA.block _ (lt_of_heap hl) id).trans hl
  have hll := lt_of_heap hl
  have HC := hidM (take104 l left A hlA h16 hle)
  have HT : Hid (∀ w2, Keeps A w2 (fun z => z = l) → w2.heap[l]? = some (.cells #[.pointer none, .int .i64 ((left - 16 : Nat) : Int)] 172) → (w2.cell? ⟨W.heap.size, 0, none⟩ = some (.int .i64 1) ∧ w2.cell? ⟨W.heap.size, 1, none⟩ = some (.bool true)) ∧ Calls Tryz.prog 264 #[.agg #[.int .i64 1, .bool true], .pointer (some ⟨l, 0, none⟩), .pointer (some ⟨q, 0, none⟩), .int .i64 i] w2 (fun e w' => e = .returned (.int .i64 x) ∧ Gr w2 w') ∧ ∀ w3, Gr w2 w3 → w3.heap[A0.heap.size]? = some (.cells #[.bool false, .int .i64 0, .string ⟨#[]⟩, .slice none 0 0] 86) ∧ (vlU w3 A0.heap.size false x).heap[A0.heap.size]? = some (.cells #[.bool false, .int .i64 x, .string ⟨#[]⟩, .slice none 0 0] 86) ∧ Rd1 W (vlU w3 A0.heap.size false x) l left) := fun w2 k2 hl2 => by
    refine ⟨cell2 ((k2.block _ (lt_of_heap hbf) (fun e => by have e' : W.heap.size = l := e; omega)).trans hbf), ?_, fun w3 g3 => ?_⟩
    · exact number311_K i j x hij hx l w2 q r rc nu ao ca L N v2 n2 c2 ((h.gr gA).kp k2 hlq hlr) (cell2 hl2).1 hn0 hn hc (k2.cell' (gA.cell' h0 id) hlv) (k2.cell' (gA.cell' h1 id) hlv)
    · have hr3 : w3.heap[A0.heap.size]? = some (.cells #[.bool false, .int .i64 0, .string ⟨#[]⟩, .slice none 0 0] 86) := (g3.block _ (Nat.lt_of_lt_of_le (lt_of_heap hbr) k2.size) id).trans ((k2.block _ (lt_of_heap hbr) (fun e => by have e' : A0.heap.size = l := e; omega)).trans hbr)
      refine ⟨hr3, vl_blk hr3, ?_, ?_⟩
      · exact (((gA.mono fun _ _ h => h.elim).trans k2 (fun _ _ h => h)).trans (g3.mono fun _ _ h => h.elim) (fun _ _ h => h)).trans (vl_kp _ _ _ _) (fun j hj e => by have e' : j = A0.heap.size := e; omega)
      · exact ((vl_kp _ _ _ _).block l (Nat.lt_of_lt_of_le (lt_of_heap hl2) g3.size) (fun e => by have e' : l = A0.heap.size := e; omega)).trans ((g3.block l (lt_of_heap hl2) id).trans hl2)
  clear g0 hb0 hs0 g1 hbr hbf gA hlA hll h hl h0 h1
  go_enter Tryz.func262, Tryz.ntmps262
  go_wp2_with (first
    | (go_at_call 142; refine HC.out.mono ?_; rintro e w2 ⟨rfl, k2, hl2⟩; obtain ⟨⟨f0, f1⟩, hc9, ht9⟩ := HT.out w2 k2 hl2; have HC9 := hidM hc9; have HT9 := hidM ht9; clear hc9 ht9 k2 hl2 hA hA0)
    | (go_at_call 264; refine HC9.out.mono ?_; rintro e w3 ⟨rfl, g3⟩; obtain ⟨hr3, hu3, hq3⟩ := HT9.out w3 g3; obtain ⟨U, hU⟩ : ∃ U, vlU w3 A0.heap.size false x = U := ⟨_, rfl⟩; rw [hU] at hu3 hq3; simp only [vlU, setAll] at hU; obtain ⟨y0, y1, y2, y3⟩ := cell4 hr3; have x0 := frz hr3 0; have x1 := frz hr3 1; have x2 := frz hr3 2; have x3 := frz hr3 3; have HU3 := hidM hu3; have HQ3 := hidM hq3; clear g3 hr3 hu3 hq3))
  (try simp only [Exit.inBlock, Exit.then])
  refine bodyPost_ret (results_cell37 rfl rfl (by with_reducible exact HU3.out) (by kernel_rfl)) rfl ?_
  exact ⟨rfl, HQ3.out⟩
end Go.Proofs.YteggcdhibcjneaaGreatDoor.Kit
