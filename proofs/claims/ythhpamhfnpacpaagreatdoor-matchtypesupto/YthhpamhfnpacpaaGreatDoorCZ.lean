import Derived.Test.YthhpamhfnpacpaaGreatDoorCL
import Derived.Shelf.Spec.SlicesInsertGrow
import Derived.Test.YthhpamhfnpacpaaGreatDoorProg
set_option linter.unusedVariables false
set_option linter.unusedSimpArgs false
set_option maxRecDepth 100000
set_option maxHeartbeats 8000000
namespace Go.Proofs.YthhpamhfnpacpaaGreatDoor.Kit
variable {nx : Bool}
open Go.RowKit Go.Shelf Go.Deep
open Kd (Ans cell5 cell2)
open Go.Proofs.YthhpamhfnpacpaaGreatDoor.Ink (OwnRow)
attribute [local go_sem] run_store_func
structure NdA (nx : Bool) (W : World) (q r rc : Nat) (nu : Bool) (ao : Option Addr) (ca L N : Nat) (v2 n2 c2 : Nat) : Prop where
 nd : W.heap[q]? = some (.cells (ndC nx nu ao ca L N (.slice (some ⟨r, 0, none⟩) 2 rc)) 165)
 r0 : ∃ bo bc, W.cell? ⟨r, 0, none⟩ = some (.slice bo 0 bc)
 r1 : W.cell? ⟨r, 1, none⟩ = some (.int .i64 0)
 r2 : W.cell? ⟨r, 2, none⟩ = some (.pointer none)
 r3 : W.cell? ⟨r, 3, none⟩ = some (.slice (some ⟨v2, 0, none⟩) n2 c2)
 r4 : W.cell? ⟨r, 4, none⟩ = some (.int .i64 0)
 r5 : W.cell? ⟨r, 5, none⟩ = some (.pointer none)
theorem NdA.kp {W u : World} {q r rc : Nat} {nu : Bool} {ao : Option Addr} {ca L N : Nat} {v2 n2 c2 : Nat} {S : Nat → Prop} (h : NdA nx W q r rc nu ao ca L N v2 n2 c2) (g : Keeps W u S) (hq : ¬ S q) (hr : ¬ S r) : NdA nx u q r rc nu ao ca L N v2 n2 c2 :=
 ⟨(g.block q (lt_of_heap h.nd) hq).trans h.nd, h.r0.imp fun _ e => e.imp fun _ e => g.cell' e hr, g.cell' h.r1 hr, g.cell' h.r2 hr, g.cell' h.r3 hr, g.cell' h.r4 hr, g.cell' h.r5 hr⟩
theorem NdA.gr {W u : World} {q r rc : Nat} {nu : Bool} {ao : Option Addr} {ca L N : Nat} {v2 n2 c2 : Nat} (h : NdA nx W q r rc nu ao ca L N v2 n2 c2) (g : Gr W u) : NdA nx u q r rc nu ao ca L N v2 n2 c2 := h.kp g id id
def vwU (w : World) (b : Nat) (v : Value) : World := setAll w b [(0, v), (1, .int .i64 0), (2, .pointer none)]
theorem vw_blk {w : World} {b : Nat} {v : Value} {a0 a1 a2 : Value} (h : w.heap[b]? = some (.cells #[a0, a1, a2] 258)) : (vwU w b v).heap[b]? = some (.cells #[v, .int .i64 0, .pointer none] 258) := by
 unfold vwU
 rw [setAll_blk b 258 _ _ _ h]
 simp [setsA]
theorem vw_gr {W w : World} {b : Nat} {v : Value} (g : Gr W w) (hb : W.heap.size ≤ b) : Gr W (vwU w b v) := g.trans (setAll_kp _ _ _) (fun j hj (e : j = b) => by omega)
theorem watched135 (vo : Option Addr) (n c : Nat) (W : World) : Calls Tryz.prog 199 #[.agg #[.slice vo n c, .int .i64 0, .pointer none], .pointer none] W fun e w' => e = .returned (.agg #[.slice vo n c, .int .i64 0, .pointer none]) ∧ Gr W w' := by
 obtain ⟨A0, hA0⟩ := ex (W.alloc (.cells #[.slice vo n c, .int .i64 0, .pointer none] 258))
 have g0 := gr_al hA0
 have hs0 : A0.heap.size = W.heap.size + 1 := by rw [← hA0]; simp
 have hb0 := al_new hA0
 obtain ⟨A, hA⟩ := ex (A0.alloc (.cells #[.slice none 0 0, .int .i64 0, .pointer none] 258))
 have g1 := gr_al hA
 have hb1 := (g1.block _ (lt_of_heap hb0) id).trans hb0
 have hb2 : A.heap[A0.heap.size]? = some (.cells #[.slice none 0 0, .int .i64 0, .pointer none] 258) := by rw [← hA]; exact heap_alloc_new A0 _
 obtain ⟨e0, e1, e2⟩ := cell3V hb1
 obtain ⟨y0, y1, y2⟩ := cell3V hb2
 have z2 := frz hb1 2
 have x0 := frz hb2 0
 have x1 := frz hb2 1
 have x2 := frz hb2 2
 have s2 := set_id (j := 2) (v := .pointer none) hb1 rfl
 obtain ⟨U, hU⟩ := ex (vwU A A0.heap.size (.slice vo n c))
 have HUB := hidM (vw_blk (v := .slice vo n c) hb2)
 have HUG := hidM (vw_gr (v := .slice vo n c) (g0.tr g1) (b := A0.heap.size) (by omega))
 rw [hU] at HUB HUG
 simp only [vwU, setAll] at hU
 clear g0 hs0 hb0 g1 hb1 hb2
 go_enter Tryz.func199, Tryz.ntmps199
 go_wp2_with fail
 (try simp only [Exit.inBlock, Exit.then])
 refine bodyPost_ret (results_cell236 rfl rfl (by with_reducible exact HUB.out) (by kernel_rfl)) rfl ?_
 exact ⟨rfl, HUG.out⟩
theorem buffer128_1 (l : Nat) (W : World) (q r rc : Nat) (nu : Bool) (ao : Option Addr) (ca L N : Nat) (v2 n2 c2 : Nat) (h : NdA nx W q r rc nu ao ca L N v2 n2 c2) (hl : W.cell? ⟨l, 0, none⟩ = some (.pointer none)) : Calls Tryz.prog 187 #[.pointer (some ⟨l, 0, none⟩), .pointer (some ⟨q, 0, none⟩), .int .i64 1] W fun e w' => e = .returned (.agg #[.slice (some ⟨v2, 0, none⟩) n2 c2, .int .i64 0, .pointer none]) ∧ Gr W w' := by
 obtain ⟨A, hA⟩ := ex (W.alloc (.cells #[.slice none 0 0, .int .i64 0, .pointer none] 258))
 have gA := gr_al hA
 have hb : A.heap[W.heap.size]? = some (.cells #[.slice none 0 0, .int .i64 0, .pointer none] 258) := by rw [← hA]; exact heap_alloc_new W _
 have hS : ∀ u, Gr W u → u.cell? ⟨q, 11, none⟩ = some (.slice (some ⟨r, 0, none⟩) 2 rc) ∧ u.cell? ⟨r, 3, none⟩ = some (.slice (some ⟨v2, 0, none⟩) n2 c2) ∧ u.cell? ⟨r, 4, none⟩ = some (.int .i64 0) ∧ u.cell? ⟨r, 5, none⟩ = some (.pointer none) ∧ u.cell? ⟨l, 0, none⟩ = some (.pointer none) := fun u g => ⟨cellB (h.gr g).nd, (h.gr g).r3, (h.gr g).r4, (h.gr g).r5, g.cell' hl id⟩
 have HS0 := hidM (hS A.drew gA.drew)
 have HT : Hid (∀ w1, Gr A.drew w1 → Gr W w1 ∧ w1.heap[W.heap.size]? = some (.cells #[.slice none 0 0, .int .i64 0, .pointer none] 258) ∧ (w1.cell? ⟨q, 11, none⟩ = some (.slice (some ⟨r, 0, none⟩) 2 rc) ∧ w1.cell? ⟨r, 3, none⟩ = some (.slice (some ⟨v2, 0, none⟩) n2 c2) ∧ w1.cell? ⟨r, 4, none⟩ = some (.int .i64 0) ∧ w1.cell? ⟨r, 5, none⟩ = some (.pointer none) ∧ w1.cell? ⟨l, 0, none⟩ = some (.pointer none)) ∧ (vwU w1 W.heap.size (.slice (some ⟨v2, 0, none⟩) n2 c2)).heap[W.heap.size]? = some (.cells #[.slice (some ⟨v2, 0, none⟩) n2 c2, .int .i64 0, .pointer none] 258) ∧ Gr W (vwU w1 W.heap.size (.slice (some ⟨v2, 0, none⟩) n2 c2))) := fun w1 g1 => by
  have gW : Gr W w1 := gA.drew.tr g1
  have hb1 := (g1.block _ (lt_of_heap hb) id).trans hb
  exact ⟨gW, hb1, hS w1 gW, vw_blk hb1, vw_gr gW (Nat.le_refl _)⟩
 have HSA := hidM hS
 clear gA hb hS h hl
 go_enter Tryz.func187, Tryz.ntmps187
 go_wp2_with fail
 go_region_held3 (fun u => u.cell? ⟨q, 11, none⟩ = some (.slice (some ⟨r, 0, none⟩) 2 rc) ∧ u.cell? ⟨r, 3, none⟩ = some (.slice (some ⟨v2, 0, none⟩) n2 c2) ∧ u.cell? ⟨r, 4, none⟩ = some (.int .i64 0) ∧ u.cell? ⟨r, 5, none⟩ = some (.pointer none) ∧ u.cell? ⟨l, 0, none⟩ = some (.pointer none)) (first | with_reducible exact HS0.out | with_reducible exact HS1.out | with_reducible exact HSU.out) ((go_at_call 199; refine (watched135 _ _ _ _).mono ?_; rintro e w1 ⟨rfl, g1⟩; obtain ⟨gW, hb1, hs1, hub, hug⟩ := HT.out w1 g1; have HS1 := hidM hs1; obtain ⟨U, hU⟩ := ex (vwU w1 W.heap.size (.slice (some ⟨v2, 0, none⟩) n2 c2)); rw [hU] at hub hug; have HSU := hidM (HSA.out U hug); have HUB := hidM hub; have HUG := hidM hug; simp only [vwU, setAll] at hU; obtain ⟨y0, y1, y2⟩ := cell3V hb1; have x0 := frz hb1 0; have x1 := frz hb1 1; have x2 := frz hb1 2; clear g1 gW hb1 hs1 hub hug hA))
 go_wp2_with fail
 (try simp only [Exit.inBlock, Exit.then])
 refine bodyPost_ret (results_cell236 rfl rfl (by with_reducible exact HUB.out) (by kernel_rfl)) rfl ?_
 exact ⟨rfl, HUG.out⟩
theorem take104 (l left : Nat) (W : World) (h : W.heap[l]? = some (.cells #[.pointer none, .int .i64 left] 188)) (h1 : 16 ≤ left) (h2 : left ≤ 4194304) : Calls Tryz.prog 158 #[.pointer (some ⟨l, 0, none⟩), .int .i64 16] W fun e w' => e = .returned (.tuple #[]) ∧ Keeps W w' (fun z => z = l) ∧ w'.heap[l]? = some (.cells #[.pointer none, .int .i64 ((left - 16 : Nat) : Int)] 188) := by
 obtain ⟨c0, c1⟩ := cell2 h
 have z1 := frz h 1
 have wr1 : IntKind.i64.wrap ((left : Int) - 16) = ((left - 16 : Nat) : Int) := by rw [IntKind.wrap_i64]; omega
 have b1 : ¬ (((left - 16 : Nat) : Int) < 0) := by omega
 obtain ⟨U, hU⟩ := ex (W.setCell ⟨l, 1, none⟩ (.int .i64 ((left - 16 : Nat) : Int)))
 have hu : U.heap[l]? = some (.cells #[.pointer none, .int .i64 ((left - 16 : Nat) : Int)] 188) := by rw [← hU, heap_setCell_same W l 1 _ _ _ h]; simp
 have HK : Hid (Keeps W U (fun z => z = l)) := by rw [← hU]; exact (Keeps.refl W (fun z => z = l)).setCell (p := ⟨l, 1, none⟩) (fun _ => rfl) _
 have HU := hidM hu
 have u1 : U.cell? ⟨l, 1, none⟩ = some (.int .i64 ((left - 16 : Nat) : Int)) := by simp [World.cell?, hu]
 generalize ((left - 16 : Nat) : Int) = x at *
 clear h hu h1 h2
 go_enter Tryz.func158, Tryz.ntmps158
 go_wp2_with fail
 go_end0
 exact ⟨rfl, HK.out, HU.out⟩
theorem isWidth185 (W : World) : Calls Tryz.prog 253 #[.int .i64 1] W fun e w' => e = .returned (.bool true) ∧ w' = W := by
 go_enter Tryz.func253, Tryz.ntmps253
 go_wp2_with fail
 go_ret
 exact ⟨rfl, rfl⟩
theorem isOff102 (x : Int) (l : Nat) (W : World) (q r rc : Nat) (nu : Bool) (ao : Option Addr) (ca L N : Nat) (v2 n2 c2 : Nat) (h : NdA nx W q r rc nu ao ca L N v2 n2 c2) : Calls Tryz.prog 156 #[.pointer (some ⟨l, 0, none⟩), .pointer (some ⟨q, 0, none⟩), .int .i64 x] W fun e w' => e = .returned (.bool false) ∧ Gr W w' := by
 have HM := hidM (masked97 q nu ao ca L N (.slice (some ⟨r, 0, none⟩) 2 rc) W h.nd)
 have c11 := cellB h.nd
 obtain ⟨⟨bo, bc, r0⟩, r1, r2⟩ := And.intro h.r0 (And.intro h.r1 h.r2)
 clear h
 go_enter Tryz.func156, Tryz.ntmps156
 go_wp2_with (first
  | (go_at_call 151; refine HM.out.mono ?_; rintro e w1 ⟨rfl, rfl⟩)
  | (go_at_call 154; refine (len100 _ _ _ _).mono ?_; rintro e w2 ⟨rfl, g2⟩; have HG2 := hidM g2; clear g2))
 go_ret
 exact ⟨rfl, HG2.out⟩
theorem lowest285_K (j : Nat) (x : Int) (hx : x = 5 ∨ x = 7 ∨ x = 8) (g c : Nat) (W : World) (h0 : W.cell? ⟨g, j, none⟩ = some (.int .u8 x)) : Calls Tryz.prog 254 #[.slice (some ⟨g, j, none⟩) 1 c] W fun e w' => e = .returned (.int .u64 x) ∧ w' = W := by
 have H0 := hidM h0
 clear h0
 go_enter Tryz.func254, Tryz.ntmps254
 go_wp2_with fail
 go_loopw [8, 3] (fun i s wr => ∃ k : Nat, k ≤ 1 ∧ i = .int .i64 k ∧ s = .int .u64 (if k = 0 then 0 else x) ∧ wr = W) (fun i _ _ => 1 - (intOf i).toNat)
 case atStart => exact ⟨0, by omega, rfl, rfl, rfl⟩
 case round =>
  obtain ⟨k, hk, rfl, rfl, rfl⟩ := hrel
  have hk3 : k = 0 ∨ k = 1 := by omega
  rcases hk3 with rfl | rfl
  ·have c0 := H0.out
   simp only [if_pos rfl]
   go_wp2_with fail
   go_roundw
   case rel => exact ⟨1, by omega, by go_num, (by rcases hx with rfl | rfl | rfl <;> kernel_rfl), trivial⟩
   case measure => simp [intOf]
  go_wp2_with fail
  go_ret
  exact ⟨by simp, rfl⟩
theorem load284_K (i : Int) (j : Nat) (x : Int) (hij : i = 0 ∧ j = 0 ∨ i = 1 ∧ j = 1 ∨ i = 2 ∧ j = 2) (hx : x = 5 ∨ x = 7 ∨ x = 8) (g n c : Nat) (W : World) (hn0 : j + 1 ≤ n) (hn : n ≤ 100000) (hc : n ≤ c) (h0 : W.cell? ⟨g, j, none⟩ = some (.int .u8 x)) (h1 : W.cell? ⟨g, j, none⟩ = some (.int .u8 x)) : Calls Tryz.prog 252 #[.agg #[.slice (some ⟨g, 0, none⟩) n c, .int .i64 0, .pointer none], .int .i64 i, .int .i64 1] W fun e w' => e = .returned (.tuple #[.int .u64 x, .int .i64 0]) ∧ Gr W w' := by
 obtain ⟨A, hA⟩ := ex (W.alloc (.cells #[.slice (some ⟨g, 0, none⟩) n c, .int .i64 0, .pointer none] 258))
 have gA := gr_al hA
 have hb : A.heap[W.heap.size]? = some (.cells #[.slice (some ⟨g, 0, none⟩) n c, .int .i64 0, .pointer none] 258) := by rw [← hA]; exact heap_alloc_new W _
 obtain ⟨e0, e1, e2⟩ := cell3V hb
 have HG := hidM gA
 have HC := hidM (read136 g n c j 1 A (by omega) hn hc (by omega))
 have HLo := hidM (fun w2 (g2 : Gr W w2) => lowest285_K j x hx g (c - j) w2 (g2.cell' h0 id))
 clear gA hb h0 h1
 rcases hij with ⟨rfl, rfl⟩ | ⟨rfl, rfl⟩ | ⟨rfl, rfl⟩
 all_goals
  go_enter Tryz.func252, Tryz.ntmps252
  go_wp2_with (first
   | (go_at_call 253; refine (isWidth185 _).mono ?_; rintro e w1 ⟨rfl, rfl⟩)
   | (go_at_call 200; refine HC.out.mono ?_; rintro e w2 ⟨rfl, g2⟩; have HG2 := hidM (HG.out.tr g2); have HL := hidM (HLo.out w2 HG2.out); clear g2)
   | (go_at_call 254; refine HL.out.mono ?_; rintro e w3 ⟨rfl, rfl⟩))
  go_ret2
  exact ⟨rfl, HG2.out⟩
theorem signed283_K (i : Int) (j : Nat) (x : Int) (hij : i = 0 ∧ j = 0 ∨ i = 1 ∧ j = 1 ∨ i = 2 ∧ j = 2) (hx : x = 5 ∨ x = 7 ∨ x = 8) (g n c : Nat) (W : World) (hn0 : j + 1 ≤ n) (hn : n ≤ 100000) (hc : n ≤ c) (h0 : W.cell? ⟨g, j, none⟩ = some (.int .u8 x)) (h1 : W.cell? ⟨g, j, none⟩ = some (.int .u8 x)) : Calls Tryz.prog 251 #[.agg #[.slice (some ⟨g, 0, none⟩) n c, .int .i64 0, .pointer none], .int .i64 i, .int .i64 1] W fun e w' => e = .returned (.tuple #[.int .i64 x, .int .i64 0]) ∧ Gr W w' := by
 obtain ⟨A, hA⟩ := ex (W.alloc (.cells #[.slice (some ⟨g, 0, none⟩) n c, .int .i64 0, .pointer none] 258))
 have gA := gr_al hA
 have hb : A.heap[W.heap.size]? = some (.cells #[.slice (some ⟨g, 0, none⟩) n c, .int .i64 0, .pointer none] 258) := by rw [← hA]; exact heap_alloc_new W _
 obtain ⟨e0, e1, e2⟩ := cell3V hb
 have HG := hidM gA
 have HC := hidM (load284_K i j x hij hx g n c A hn0 hn hc (gA.cell' h0 id) (gA.cell' h1 id))
 clear gA hb h0 h1
 rcases hij with ⟨rfl, rfl⟩ | ⟨rfl, rfl⟩ | ⟨rfl, rfl⟩ <;> rcases hx with rfl | rfl | rfl
 all_goals
  go_enter Tryz.func251, Tryz.ntmps251
  go_wp2_with (go_at_call 252; refine HC.out.mono ?_; rintro e w2 ⟨rfl, g2⟩; have HG2 := hidM (HG.out.tr g2); clear g2)
  go_ret2
  exact ⟨by kernel_rfl, HG2.out⟩
theorem number311_K (i : Int) (j : Nat) (x : Int) (hij : i = 0 ∧ j = 0 ∨ i = 1 ∧ j = 1 ∨ i = 2 ∧ j = 2) (hx : x = 5 ∨ x = 7 ∨ x = 8) (l : Nat) (W : World) (q r rc : Nat) (nu : Bool) (ao : Option Addr) (ca L N : Nat) (v2 n2 c2 : Nat) (h : NdA nx W q r rc nu ao ca L N v2 n2 c2) (hl : W.cell? ⟨l, 0, none⟩ = some (.pointer none)) (hn0 : j + 1 ≤ n2) (hn : n2 ≤ 100000) (hc : n2 ≤ c2) (h0 : W.cell? ⟨v2, j, none⟩ = some (.int .u8 x)) (h1 : W.cell? ⟨v2, j, none⟩ = some (.int .u8 x)) : Calls Tryz.prog 280 #[.agg #[.int .i64 1, .bool true], .pointer (some ⟨l, 0, none⟩), .pointer (some ⟨q, 0, none⟩), .int .i64 i] W fun e w' => e = .returned (.int .i64 x) ∧ Gr W w' := by
 obtain ⟨A, hA⟩ := ex (W.alloc (.cells #[.int .i64 1, .bool true] 249))
 have gA := gr_al hA
 have hb : A.heap[W.heap.size]? = some (.cells #[.int .i64 1, .bool true] 249) := by rw [← hA]; exact heap_alloc_new W _
 have HC := hidM (buffer128_1 l A q r rc nu ao ca L N v2 n2 c2 (h.gr gA) (gA.cell' hl id))
 have HT : Hid (∀ w1, Gr A w1 → Calls Tryz.prog 251 #[.agg #[.slice (some ⟨v2, 0, none⟩) n2 c2, .int .i64 0, .pointer none], .int .i64 i, .int .i64 1] (w1.alloc (.cells #[.slice (some ⟨v2, 0, none⟩) n2 c2, .int .i64 0, .pointer none] 258)) (fun e w' => e = .returned (.tuple #[.int .i64 x, .int .i64 0]) ∧ Gr (w1.alloc (.cells #[.slice (some ⟨v2, 0, none⟩) n2 c2, .int .i64 0, .pointer none] 258)) w') ∧ (w1.alloc (.cells #[.slice (some ⟨v2, 0, none⟩) n2 c2, .int .i64 0, .pointer none] 258)).heap[w1.heap.size]? = some (.cells #[.slice (some ⟨v2, 0, none⟩) n2 c2, .int .i64 0, .pointer none] 258) ∧ Gr W (w1.alloc (.cells #[.slice (some ⟨v2, 0, none⟩) n2 c2, .int .i64 0, .pointer none] 258)) ∧ (w1.alloc (.cells #[.slice (some ⟨v2, 0, none⟩) n2 c2, .int .i64 0, .pointer none] 258)).heap[W.heap.size]? = some (.cells #[.int .i64 1, .bool true] 249)) := fun w1 g1 => by
  have g2 : Gr A (w1.alloc (.cells #[.slice (some ⟨v2, 0, none⟩) n2 c2, .int .i64 0, .pointer none] 258)) := g1.alloc _
  have g3 := gA.tr g2
  exact ⟨signed283_K i j x hij hx v2 n2 c2 _ hn0 hn hc (g3.cell' h0 id) (g3.cell' h1 id), heap_alloc_new _ _, g3, (g2.block _ (lt_of_heap hb) id).trans hb⟩
 clear gA hb h hl h0 h1
 rcases hij with ⟨rfl, rfl⟩ | ⟨rfl, rfl⟩ | ⟨rfl, rfl⟩
 all_goals
  go_enter Tryz.func280, Tryz.ntmps280
  go_wp2_with (first
   | (go_at_call 187; refine HC.out.mono ?_; rintro e w1 ⟨rfl, g1⟩; obtain ⟨hc9, hv9, hg9, hf9⟩ := HT.out w1 g1; clear g1 hA; obtain ⟨V, hV⟩ := ex (w1.alloc (.cells #[.slice (some ⟨v2, 0, none⟩) n2 c2, .int .i64 0, .pointer none] 258)); rw [hV] at hc9 hv9 hg9 hf9; obtain ⟨y0, y1, y2⟩ := cell3V hv9; obtain ⟨f0, f1⟩ := cell2 hf9; have z1 := frz hv9 1; have z2 := frz hv9 2; have s1 := set_id (j := 1) (v := .int .i64 0) hv9 rfl; have s2 := set_id (j := 2) (v := .pointer none) hv9 rfl; have HC9 := hidM hc9; have HG9 := hidM hg9; clear hc9 hv9 hg9 hf9)
   | (go_at_call 251; refine HC9.out.mono ?_; rintro e w3 ⟨rfl, g3⟩; have HG3 := hidM (HG9.out.tr g3); clear g3))
  go_ret
  exact ⟨rfl, HG3.out⟩
def vlU (w : World) (b : Nat) (vn : Bool) (x : Int) : World := setAll w b [(0, .bool vn), (1, .int .i64 x), (2, .string ⟨#[]⟩), (3, .slice none 0 0)]
theorem vl_blk {w : World} {b : Nat} {vn : Bool} {x : Int} {a0 a1 a2 a3 : Value} (h : w.heap[b]? = some (.cells #[a0, a1, a2, a3] 108)) : (vlU w b vn x).heap[b]? = some (.cells #[.bool vn, .int .i64 x, .string ⟨#[]⟩, .slice none 0 0] 108) := by
 unfold vlU
 rw [setAll_blk b 108 _ _ _ h]
 simp [setsA]
theorem vl_kp (w : World) (b : Nat) (vn : Bool) (x : Int) : Keeps w (vlU w b vn x) (fun z => z = b) := setAll_kp _ _ _
theorem results_cell37 {fn : Func} {t : Tmp} {tmps : Array Value} {g : Nat} {cs : Array Value} {w : World} (h : fn.results = #[.cell t 108]) (ht : tmps.getD t undef = .pointer (some ⟨g, 0, none⟩)) (hg : w.heap[g]? = some (.cells cs 108 (0, 0))) (hi : (Tryz.prog.info? 108).map (·.size) = some cs.size) :
  (results fn tmps).run Tryz.prog w = .ok (.agg cs) w := by
 have hl := run_loadVar_row (P := Tryz.prog) w g 108 108 cs (0, 0) _ hg Tryz.underlying108 rfl hi
 unfold results
 rw [h]
 simp only [Array.mapM_eq_mapM_toList, List.mapM_cons, List.mapM_nil, ht]
 simp [asAddr, hl]
def Rd1 (W w' : World) (l left : Nat) : Prop := Keeps W w' (fun z => z = l) ∧ w'.heap[l]? = some (.cells #[.pointer none, .int .i64 ((left - 16 : Nat) : Int)] 188)
theorem read309_K (i : Int) (j : Nat) (x : Int) (hij : i = 0 ∧ j = 0 ∨ i = 1 ∧ j = 1 ∨ i = 2 ∧ j = 2) (hx : x = 5 ∨ x = 7 ∨ x = 8) (l left : Nat) (W : World) (q r rc : Nat) (nu : Bool) (ao : Option Addr) (ca L N : Nat) (v2 n2 c2 : Nat) (h : NdA nx W q r rc nu ao ca L N v2 n2 c2) (hl : W.heap[l]? = some (.cells #[.pointer none, .int .i64 left] 188)) (hlq : q ≠ l) (hlr : r ≠ l) (hlv : v2 ≠ l) (h16 : 16 ≤ left) (hle : left ≤ 4194304) (hn0 : j + 1 ≤ n2) (hn : n2 ≤ 100000) (hc : n2 ≤ c2) (h0 : W.cell? ⟨v2, j, none⟩ = some (.int .u8 x)) (h1 : W.cell? ⟨v2, j, none⟩ = some (.int .u8 x)) : Calls Tryz.prog 278 #[.agg #[.int .i64 1, .bool true], .pointer (some ⟨l, 0, none⟩), .pointer (some ⟨q, 0, none⟩), .int .i64 i] W fun e w' => e = .returned (.agg #[.bool false, .int .i64 x, .string ⟨#[]⟩, .slice none 0 0]) ∧ Rd1 W w' l left := by
 obtain ⟨A0, hA0, g0, hb0⟩ := nw W (.cells #[.int .i64 1, .bool true] 249)
 have hs0 : A0.heap.size = W.heap.size + 1 := by rw [← hA0]; simp
 obtain ⟨A, hA⟩ := ex (A0.alloc (.cells #[.bool false, .int .i64 0, .string ⟨#[]⟩, .slice none 0 0] 108))
 have g1 := gr_al hA
 have hbr : A.heap[A0.heap.size]? = some (.cells #[.bool false, .int .i64 0, .string ⟨#[]⟩, .slice none 0 0] 108) := by rw [← hA]; exact heap_alloc_new A0 _
 have hbf := (g1.block _ (lt_of_heap hb0) id).trans hb0
 have gA : Gr W A := g0.tr g1
 have hlA := (gA.block _ (lt_of_heap hl) id).trans hl
 have hll := lt_of_heap hl
 have HC := hidM (take104 l left A hlA h16 hle)
 have HT : Hid (∀ w2, Keeps A w2 (fun z => z = l) → w2.heap[l]? = some (.cells #[.pointer none, .int .i64 ((left - 16 : Nat) : Int)] 188) → (w2.cell? ⟨W.heap.size, 0, none⟩ = some (.int .i64 1) ∧ w2.cell? ⟨W.heap.size, 1, none⟩ = some (.bool true)) ∧ Calls Tryz.prog 280 #[.agg #[.int .i64 1, .bool true], .pointer (some ⟨l, 0, none⟩), .pointer (some ⟨q, 0, none⟩), .int .i64 i] w2 (fun e w' => e = .returned (.int .i64 x) ∧ Gr w2 w') ∧ ∀ w3, Gr w2 w3 → w3.heap[A0.heap.size]? = some (.cells #[.bool false, .int .i64 0, .string ⟨#[]⟩, .slice none 0 0] 108) ∧ (vlU w3 A0.heap.size false x).heap[A0.heap.size]? = some (.cells #[.bool false, .int .i64 x, .string ⟨#[]⟩, .slice none 0 0] 108) ∧ Rd1 W (vlU w3 A0.heap.size false x) l left) := fun w2 k2 hl2 => by
  refine ⟨cell2 ((k2.block _ (lt_of_heap hbf) (fun e => by have e' : W.heap.size = l := e; omega)).trans hbf), ?_, fun w3 g3 => ?_⟩
  ·exact number311_K i j x hij hx l w2 q r rc nu ao ca L N v2 n2 c2 ((h.gr gA).kp k2 hlq hlr) (cell2 hl2).1 hn0 hn hc (k2.cell' (gA.cell' h0 id) hlv) (k2.cell' (gA.cell' h1 id) hlv)
  have hr3 : w3.heap[A0.heap.size]? = some (.cells #[.bool false, .int .i64 0, .string ⟨#[]⟩, .slice none 0 0] 108) := (g3.block _ (Nat.lt_of_lt_of_le (lt_of_heap hbr) k2.size) id).trans ((k2.block _ (lt_of_heap hbr) (fun e => by have e' : A0.heap.size = l := e; omega)).trans hbr)
  refine ⟨hr3, vl_blk hr3, ?_, ?_⟩
  ·exact (((gA.mono fun _ _ h => h.elim).tr k2).tr (g3.mono fun _ _ h => h.elim)).trans (vl_kp _ _ _ _) (fun j hj (e : j = A0.heap.size) => by omega)
  exact ((vl_kp _ _ _ _).block l (Nat.lt_of_lt_of_le (lt_of_heap hl2) g3.size) (fun e => by have e' : l = A0.heap.size := e; omega)).trans ((g3.block l (lt_of_heap hl2) id).trans hl2)
 clear g0 hb0 hs0 g1 hbr hbf gA hlA hll h hl h0 h1
 go_enter Tryz.func278, Tryz.ntmps278
 go_wp2_with (first
  | (go_at_call 158; refine HC.out.mono ?_; rintro e w2 ⟨rfl, k2, hl2⟩; obtain ⟨⟨f0, f1⟩, hc9, ht9⟩ := HT.out w2 k2 hl2; have HC9 := hidM hc9; have HT9 := hidM ht9; clear hc9 ht9 k2 hl2 hA hA0)
  | (go_at_call 280; refine HC9.out.mono ?_; rintro e w3 ⟨rfl, g3⟩; obtain ⟨hr3, hu3, hq3⟩ := HT9.out w3 g3; obtain ⟨U, hU⟩ := ex (vlU w3 A0.heap.size false x); rw [hU] at hu3 hq3; simp only [vlU, setAll] at hU; obtain ⟨y0, y1, y2, y3⟩ := cell4 hr3; have x0 := frz hr3 0; have x1 := frz hr3 1; have x2 := frz hr3 2; have x3 := frz hr3 3; have HU3 := hidM hu3; have HQ3 := hidM hq3; clear g3 hr3 hu3 hq3))
 (try simp only [Exit.inBlock, Exit.then])
 refine bodyPost_ret (results_cell37 rfl rfl (by with_reducible exact HU3.out) (by kernel_rfl)) rfl ?_
 exact ⟨rfl, HQ3.out⟩
theorem method_read (w : World) : (method 565 249 (.agg #[.int .i64 1, .bool true]) "colonnade/array.read").run Tryz.prog w = .ok (278, .agg #[.int .i64 1, .bool true]) w := by kernel_rfl
theorem method_weight (w : World) : (method 565 249 (.agg #[.int .i64 1, .bool true]) "colonnade/array.weight").run Tryz.prog w = .ok (279, .agg #[.int .i64 1, .bool true]) w := by kernel_rfl
theorem method_needs (w : World) : (method 565 249 (.agg #[.int .i64 1, .bool true]) "colonnade/array.needs").run Tryz.prog w = .ok (277, .agg #[.int .i64 1, .bool true]) w := by kernel_rfl
theorem method_wrong (w : World) : (method 565 249 (.agg #[.int .i64 1, .bool true]) "colonnade/array.wrong").run Tryz.prog w = .ok (234, .agg #[]) w := by kernel_rfl
theorem method_wrongBehind (w : World) : (method 565 249 (.agg #[.int .i64 1, .bool true]) "colonnade/array.wrongBehind").run Tryz.prog w = .ok (235, .agg #[]) w := by kernel_rfl
theorem cellF {W : World} {q : Nat} {nu : Bool} {ao : Option Addr} {ca : Nat} {L N : Int} {bv : Value} (h : W.heap[q]? = some (.cells (ndC nx nu ao ca L N bv) 165)) : W.cell? ⟨q, 7, none⟩ = some (.iface 249 (.agg #[.int .i64 1, .bool true])) ∧ W.cell? ⟨q, 9, none⟩ = some (.int .i64 N) ∧ W.cell? ⟨q, 12, none⟩ = some (.slice none 0 0) := by
 refine ⟨?_, ?_, ?_⟩ <;> simp [World.cell?, h, ndC]
theorem rd_store {W A w2 w3 : World} {l left : Nat} (vn : Bool) (x : Int) (hA : A = W.alloc (.cells #[.bool false, .int .i64 0, .string ⟨#[]⟩, .slice none 0 0] 108)) (g2 : Gr A w2) (k3 : Rd1 w2 w3 l left) (hl : l < W.heap.size) : w3.heap[W.heap.size]? = some (.cells #[.bool false, .int .i64 0, .string ⟨#[]⟩, .slice none 0 0] 108) ∧ (vlU w3 W.heap.size vn x).heap[W.heap.size]? = some (.cells #[.bool vn, .int .i64 x, .string ⟨#[]⟩, .slice none 0 0] 108) ∧ Rd1 W (vlU w3 W.heap.size vn x) l left := by
 have gA : Gr W A := by rw [hA]; exact gr_alloc W _
 have hb : A.heap[W.heap.size]? = some (.cells #[.bool false, .int .i64 0, .string ⟨#[]⟩, .slice none 0 0] 108) := by rw [hA]; exact heap_alloc_new W _
 have hb2 := (g2.block _ (lt_of_heap hb) id).trans hb
 have hb3 := (k3.1.block _ (lt_of_heap hb2) (fun e => by have e' : W.heap.size = l := e; omega)).trans hb2
 refine ⟨hb3, vl_blk hb3, ?_, ?_⟩
 ·exact (((gA.tr g2).mono fun _ _ h => h.elim).tr k3.1).trans (vl_kp _ _ _ _) (fun j hj (e : j = W.heap.size) => by omega)
 exact ((vl_kp _ _ _ _).block l (lt_of_heap k3.2) (fun e => by have e' : l = W.heap.size := e; omega)).trans k3.2
theorem value75_K (i : Int) (j : Nat) (x : Int) (hij : i = 0 ∧ j = 0 ∨ i = 1 ∧ j = 1 ∨ i = 2 ∧ j = 2) (hx : x = 5 ∨ x = 7 ∨ x = 8) (l left : Nat) (W : World) (q r rc : Nat) (nu : Bool) (ao : Option Addr) (ca L : Nat) (v2 n2 c2 : Nat) (h : NdA nx W q r rc nu ao ca L 0 v2 n2 c2) (hl : W.heap[l]? = some (.cells #[.pointer none, .int .i64 left] 188)) (hlq : q ≠ l) (hlr : r ≠ l) (hlv : v2 ≠ l) (h16 : 16 ≤ left) (hle : left ≤ 4194304) (hn0 : j + 1 ≤ n2) (hn : n2 ≤ 100000) (hc : n2 ≤ c2) (h0 : W.cell? ⟨v2, j, none⟩ = some (.int .u8 x)) (h1 : W.cell? ⟨v2, j, none⟩ = some (.int .u8 x)) : Calls Tryz.prog 136 #[.pointer (some ⟨l, 0, none⟩), .pointer (some ⟨q, 0, none⟩), .int .i64 i] W fun e w' => e = .returned (.agg #[.bool false, .int .i64 x, .string ⟨#[]⟩, .slice none 0 0]) ∧ Rd1 W w' l left := by
 obtain ⟨A, hA⟩ := ex (W.alloc (.cells #[.bool false, .int .i64 0, .string ⟨#[]⟩, .slice none 0 0] 108))
 have gA := gr_al hA
 have HI := hidM (isOff102 i l A q r rc nu ao ca L 0 v2 n2 c2 (h.gr gA))
 have HR : Hid (∀ w2, Gr A w2 → Calls Tryz.prog 278 #[.agg #[.int .i64 1, .bool true], .pointer (some ⟨l, 0, none⟩), .pointer (some ⟨q, 0, none⟩), .int .i64 i] w2 fun e w' => e = .returned (.agg #[.bool false, .int .i64 x, .string ⟨#[]⟩, .slice none 0 0]) ∧ Rd1 w2 w' l left) := fun w2 g2 => by
  have g := gA.tr g2
  exact read309_K i j x hij hx l left w2 q r rc nu ao ca L 0 v2 n2 c2 (h.gr g) ((g.block _ (lt_of_heap hl) id).trans hl) hlq hlr hlv h16 hle hn0 hn hc (g.cell' h0 id) (g.cell' h1 id)
 have HT : Hid (∀ w2 w3, Gr A w2 → Rd1 w2 w3 l left → w3.heap[W.heap.size]? = some (.cells #[.bool false, .int .i64 0, .string ⟨#[]⟩, .slice none 0 0] 108) ∧ (vlU w3 W.heap.size false x).heap[W.heap.size]? = some (.cells #[.bool false, .int .i64 x, .string ⟨#[]⟩, .slice none 0 0] 108) ∧ Rd1 W (vlU w3 W.heap.size false x) l left) := fun w2 w3 g2 k3 => rd_store _ _ hA.symm g2 k3 (lt_of_heap hl)
 obtain ⟨c7, c9, c12⟩ := cellF (h.gr gA).nd
 have HN := hidM (h.gr gA)
 have hmeth := method_read
 clear gA h hl h0 h1
 rcases hij with ⟨rfl, rfl⟩ | ⟨rfl, rfl⟩ | ⟨rfl, rfl⟩
 all_goals
  go_enter Tryz.func136, Tryz.ntmps136
  go_wp2_with (first
   | (go_at_call 156; refine HI.out.mono ?_; rintro e w2 ⟨rfl, g2⟩; clear hA c7 c9 c12; obtain ⟨c7, c9, c12⟩ := cellF (HN.out.gr g2).nd)
   | (go_at_call 278; refine (HR.out w2 g2).mono ?_; rintro e w3 ⟨rfl, k3⟩; obtain ⟨hr3, hu3, hq3⟩ := HT.out w2 w3 g2 k3; obtain ⟨U, hU⟩ := ex (vlU w3 W.heap.size false x); rw [hU] at hu3 hq3; simp only [vlU, setAll] at hU; obtain ⟨y0, y1, y2, y3⟩ := cell4 hr3; have x0 := frz hr3 0; have x1 := frz hr3 1; have x2 := frz hr3 2; have x3 := frz hr3 3; have HU3 := hidM hu3; have HQ3 := hidM hq3; clear hr3 hu3 hq3 k3))
  (try simp only [Exit.inBlock, Exit.then])
  refine bodyPost_ret (results_cell37 rfl rfl (by with_reducible exact HU3.out) (by kernel_rfl)) rfl ?_
  exact ⟨rfl, HQ3.out⟩
theorem caught103 (r : Addr) (w : World) : CallsD Tryz.prog 157 #[.pointer (some r)] .returning w fun e u' w' => e = .returned (.tuple #[]) ∧ u' = .returning ∧ w' = w := by
 refine callsD_of_wpS Tryz.func157 rfl fun c₀ cs hu => ?_
 apply wpS_seq
 apply wpS_region
 simp [wpOpsS, go_sem, recoverD, hu, Tryz.ntmps157, Exit.thenS]
 have HHU := hidM hu
 clear hu
 have htm : (#[Value.pointer (some r)] ++ (Array.replicate 9 undef).setIfInBounds 3 Value.nilIface : Array Value) = #[Value.pointer (some r), undef, undef, undef, .nilIface, undef, undef, undef, undef, undef] := by kernel_rfl
 rw [htm]
 clear htm
 refine wpS_of_wp ?_
 refine wp_hid ?_
 go_wp2_with fail
 unfold Hid
 have hu := HHU.out
 cases c₀
 simp_all [bodyPostS, results, Tryz.results157]
theorem caught73 (b0 b1 b2 b3 : Nat) (S : Nat → Prop) (R : World → Prop) (W : World) (hS : ¬ S W.heap.size) (hR : ∀ u v, R u → Gr u v → R v) (h : ∀ A, Gr W A → Calls Tryz.prog 135 #[.pointer (some ⟨b0, 0, none⟩), .pointer (some ⟨b1, 0, none⟩), .pointer (some ⟨b2, 0, none⟩), .pointer (some ⟨b3, 0, none⟩)] A fun e w' => e = .returned (.tuple #[]) ∧ Keeps A w' S ∧ R w') :
  Calls Tryz.prog 134 #[.func (.func 135) #[] #[.pointer (some ⟨b0, 0, none⟩), .pointer (some ⟨b1, 0, none⟩), .pointer (some ⟨b2, 0, none⟩), .pointer (some ⟨b3, 0, none⟩)]] W fun e w' => e = .returned (.int .i64 0) ∧ Keeps W w' S ∧ R w' := by
 have hmf := mkf
 obtain ⟨A, hA, gA, hb⟩ := nw W (.cells #[.int .i64 0] 33)
 have HC := hidM (h A gA)
 have HB := hidM hb
 have HG := hidM gA
 clear h gA hb
 go_enter_defers Tryz.func134, Tryz.ntmps134
 go_wp2_with (go_at_call 135; refine HC.out.mono ?_; rintro e w1 ⟨rfl, k1, hr1⟩; have hb1 := (k1.block _ (lt_of_heap HB.out) hS).trans HB.out; have y0 : w1.cell? ⟨W.heap.size, 0, none⟩ = some (.int .i64 0) := (by simp [World.cell?, hb1]); have zz := frz hb1 0; have s0 := set_id (j := 0) (v := .int .i64 0) hb1 rfl; have HF := hidM (And.intro k1 hr1); have HB1 := hidM hb1; clear k1 hr1 hb1)
 refine leaves_cons (f := 157) (args := #[.pointer (some ⟨W.heap.size, 0, none⟩)]) (by simp) (by simp [go_sem]) ?_
 refine (caught103 ⟨W.heap.size, 0, none⟩ w1).mono ?_
 rintro e u' w' ⟨rfl, rfl, rfl⟩
 refine ⟨.int .i64 0, ?_, rfl, (HG.out.mono fun _ _ h => h.elim).tr HF.out.1, HF.out.2⟩
 simp [results, Tryz.f134, go_sem, y0]
theorem blk_ne {W : World} {a b t t' : Nat} {c c' : Array Value} (ha : W.heap[a]? = some (.cells c t)) (hb : W.heap[b]? = some (.cells c' t')) (h : t ≠ t') : a ≠ b := fun e => by
 subst e
 rw [ha] at hb
 simp at hb
 exact h hb.2
structure RdC (W : World) (L b4 b3 b5 b8 l a q : Nat) (i left : Int) : Prop where
 h4 : W.heap[b4]? = some (.cells #[.pointer (some ⟨l, 0, none⟩)] 193)
 h3 : W.heap[b3]? = some (.cells #[.pointer (some ⟨a, 0, none⟩)] 138)
 h5 : W.heap[b5]? = some (.cells #[.int .i64 i] 3)
 h8 : W.heap[b8]? = some (.cells #[.bool false, .int .i64 0, .string ⟨#[]⟩, .slice none 0 0] 108)
 ha : W.heap[a]? = some (.cells #[.pointer (some ⟨q, 0, none⟩), .int .i64 0, .int .i64 L, .pointer none] 168)
 hl : W.heap[l]? = some (.cells #[.pointer none, .int .i64 left] 188)
theorem read74_K (i : Int) (j : Nat) (x : Int) (hij : i = 0 ∧ j = 0 ∨ i = 1 ∧ j = 1 ∨ i = 2 ∧ j = 2) (hx : x = 5 ∨ x = 7 ∨ x = 8) (b4 b3 b5 b8 a l left : Nat) (W : World) (q r rc : Nat) (nu : Bool) (ao : Option Addr) (ca L : Nat) (v2 n2 c2 : Nat) (hR : RdC W L b4 b3 b5 b8 l a q i left) (h : NdA nx W q r rc nu ao ca L 0 v2 n2 c2) (hlq : q ≠ l) (hlr : r ≠ l) (hlv : v2 ≠ l) (h16 : 16 ≤ left) (hle : left ≤ 4194304) (hn0 : j + 1 ≤ n2) (hn : n2 ≤ 100000) (hc : n2 ≤ c2) (h0 : W.cell? ⟨v2, j, none⟩ = some (.int .u8 x)) (h1 : W.cell? ⟨v2, j, none⟩ = some (.int .u8 x)) :
  Calls Tryz.prog 135 #[.pointer (some ⟨b4, 0, none⟩), .pointer (some ⟨b3, 0, none⟩), .pointer (some ⟨b5, 0, none⟩), .pointer (some ⟨b8, 0, none⟩)] W fun e w' => e = .returned (.tuple #[]) ∧ Keeps W w' (fun z => z = l ∨ z = b8) ∧ w'.heap[l]? = some (.cells #[.pointer none, .int .i64 ((left - 16 : Nat) : Int)] 188) ∧ w'.heap[b8]? = some (.cells #[.bool false, .int .i64 x, .string ⟨#[]⟩, .slice none 0 0] 108) := by
 have n4 := blk_ne hR.h4 hR.hl (by decide)
 have n3 := blk_ne hR.h3 hR.hl (by decide)
 have n5 := blk_ne hR.h5 hR.hl (by decide)
 have na := blk_ne hR.ha hR.hl (by decide)
 have n8 := blk_ne hR.h8 hR.hl (by decide)
 have m4 := blk_ne hR.h4 hR.h8 (by decide)
 have m3 := blk_ne hR.h3 hR.h8 (by decide)
 have m5 := blk_ne hR.h5 hR.h8 (by decide)
 have ma := blk_ne hR.ha hR.h8 (by decide)
 have hS : ∀ u, Keeps W u (fun z => z = l ∨ z = b8) → u.cell? ⟨b4, 0, none⟩ = some (.pointer (some ⟨l, 0, none⟩)) ∧ u.cell? ⟨b3, 0, none⟩ = some (.pointer (some ⟨a, 0, none⟩)) ∧ u.cell? ⟨b5, 0, none⟩ = some (.int .i64 i) ∧ u.cell? ⟨a, 0, none⟩ = some (.pointer (some ⟨q, 0, none⟩)) ∧ u.cell? ⟨a, 1, none⟩ = some (.int .i64 0) := fun u g => by
  have c4 : W.cell? ⟨b4, 0, none⟩ = some (.pointer (some ⟨l, 0, none⟩)) := by simp [World.cell?, hR.h4]
  have c3 : W.cell? ⟨b3, 0, none⟩ = some (.pointer (some ⟨a, 0, none⟩)) := by simp [World.cell?, hR.h3]
  have c5 : W.cell? ⟨b5, 0, none⟩ = some (.int .i64 i) := by simp [World.cell?, hR.h5]
  obtain ⟨a0, a1, -, -⟩ := cell4 hR.ha
  exact ⟨g.cell' c4 (fun e => e.elim n4 m4), g.cell' c3 (fun e => e.elim n3 m3), g.cell' c5 (fun e => e.elim n5 m5), g.cell' a0 (fun e => e.elim na ma), g.cell' a1 (fun e => e.elim na ma)⟩
 have HS0 := hidM (hS W.drew (gr_drew.mono fun _ _ h => h.elim))
 have HC := hidM (value75_K i j x hij hx l left W.drew q r rc nu ao ca L v2 n2 c2 (h.gr gr_drew) hR.hl hlq hlr hlv h16 hle hn0 hn hc h0 h1)
 have HT : Hid (∀ w1, Rd1 W.drew w1 l left → (w1.cell? ⟨b4, 0, none⟩ = some (.pointer (some ⟨l, 0, none⟩)) ∧ w1.cell? ⟨b3, 0, none⟩ = some (.pointer (some ⟨a, 0, none⟩)) ∧ w1.cell? ⟨b5, 0, none⟩ = some (.int .i64 i) ∧ w1.cell? ⟨a, 0, none⟩ = some (.pointer (some ⟨q, 0, none⟩)) ∧ w1.cell? ⟨a, 1, none⟩ = some (.int .i64 0)) ∧ w1.heap[b8]? = some (.cells #[.bool false, .int .i64 0, .string ⟨#[]⟩, .slice none 0 0] 108) ∧ (vlU w1 b8 false x).heap[b8]? = some (.cells #[.bool false, .int .i64 x, .string ⟨#[]⟩, .slice none 0 0] 108) ∧ Keeps W (vlU w1 b8 false x) (fun z => z = l ∨ z = b8) ∧ (vlU w1 b8 false x).heap[l]? = some (.cells #[.pointer none, .int .i64 ((left - 16 : Nat) : Int)] 188)) := fun w1 ⟨k1, hl1⟩ => by
  have k0 : Keeps W w1 (fun z => z = l ∨ z = b8) := Keeps.trans (gr_drew.mono fun _ _ h => h.elim) k1 (fun _ _ h => .inl h)
  have hb8 : w1.heap[b8]? = some (.cells #[.bool false, .int .i64 0, .string ⟨#[]⟩, .slice none 0 0] 108) := (k1.block b8 (lt_of_heap (W := W) hR.h8) n8).trans hR.h8
  exact ⟨hS w1 k0, hb8, vl_blk hb8, k0.trans (vl_kp _ _ _ _) (fun _ _ h => .inr h), ((vl_kp _ _ _ _).block l (lt_of_heap hl1) (Ne.symm n8)).trans hl1⟩
 have HSS := hidM hS
 clear hR n4 n3 n5 na n8 m4 m3 m5 ma hS h h0 h1
 rcases hij with ⟨rfl, rfl⟩ | ⟨rfl, rfl⟩ | ⟨rfl, rfl⟩
 ·go_enter Tryz.func135, Tryz.ntmps135
  go_wp2_with fail
  go_region_held3 (fun u => u.cell? ⟨b4, 0, none⟩ = some (.pointer (some ⟨l, 0, none⟩)) ∧ u.cell? ⟨b3, 0, none⟩ = some (.pointer (some ⟨a, 0, none⟩)) ∧ u.cell? ⟨b5, 0, none⟩ = some (.int .i64 0) ∧ u.cell? ⟨a, 0, none⟩ = some (.pointer (some ⟨q, 0, none⟩)) ∧ u.cell? ⟨a, 1, none⟩ = some (.int .i64 0)) (first | with_reducible exact HS0.out | with_reducible exact HS1.out | with_reducible exact HSU.out) ((go_at_call 136; refine HC.out.mono ?_; rintro e w1 ⟨rfl, k1⟩; obtain ⟨hs1, hb8, hu3, hk3, hl3⟩ := HT.out w1 k1; have HS1 := hidM hs1; obtain ⟨U, hU⟩ := ex (vlU w1 b8 false x); rw [hU] at hu3 hk3 hl3; have HSU := hidM (HSS.out U hk3); have HE := hidM (And.intro hk3 (And.intro hl3 hu3)); simp only [vlU, setAll] at hU; obtain ⟨y0, y1, y2, y3⟩ := cell4 hb8; have x0 := frz hb8 0; have x1 := frz hb8 1; have x2 := frz hb8 2; have x3 := frz hb8 3; clear k1 hs1 hb8 hu3 hk3 hl3))
  go_wp2_with fail
  go_end0
  exact ⟨rfl, HE.out⟩
 ·go_enter Tryz.func135, Tryz.ntmps135
  go_wp2_with fail
  go_region_held3 (fun u => u.cell? ⟨b4, 0, none⟩ = some (.pointer (some ⟨l, 0, none⟩)) ∧ u.cell? ⟨b3, 0, none⟩ = some (.pointer (some ⟨a, 0, none⟩)) ∧ u.cell? ⟨b5, 0, none⟩ = some (.int .i64 1) ∧ u.cell? ⟨a, 0, none⟩ = some (.pointer (some ⟨q, 0, none⟩)) ∧ u.cell? ⟨a, 1, none⟩ = some (.int .i64 0)) (first | with_reducible exact HS0.out | with_reducible exact HS1.out | with_reducible exact HSU.out) ((go_at_call 136; refine HC.out.mono ?_; rintro e w1 ⟨rfl, k1⟩; obtain ⟨hs1, hb8, hu3, hk3, hl3⟩ := HT.out w1 k1; have HS1 := hidM hs1; obtain ⟨U, hU⟩ := ex (vlU w1 b8 false x); rw [hU] at hu3 hk3 hl3; have HSU := hidM (HSS.out U hk3); have HE := hidM (And.intro hk3 (And.intro hl3 hu3)); simp only [vlU, setAll] at hU; obtain ⟨y0, y1, y2, y3⟩ := cell4 hb8; have x0 := frz hb8 0; have x1 := frz hb8 1; have x2 := frz hb8 2; have x3 := frz hb8 3; clear k1 hs1 hb8 hu3 hk3 hl3))
  go_wp2_with fail
  go_end0
  exact ⟨rfl, HE.out⟩
 go_enter Tryz.func135, Tryz.ntmps135
 go_wp2_with fail
 go_region_held3 (fun u => u.cell? ⟨b4, 0, none⟩ = some (.pointer (some ⟨l, 0, none⟩)) ∧ u.cell? ⟨b3, 0, none⟩ = some (.pointer (some ⟨a, 0, none⟩)) ∧ u.cell? ⟨b5, 0, none⟩ = some (.int .i64 2) ∧ u.cell? ⟨a, 0, none⟩ = some (.pointer (some ⟨q, 0, none⟩)) ∧ u.cell? ⟨a, 1, none⟩ = some (.int .i64 0)) (first | with_reducible exact HS0.out | with_reducible exact HS1.out | with_reducible exact HSU.out) ((go_at_call 136; refine HC.out.mono ?_; rintro e w1 ⟨rfl, k1⟩; obtain ⟨hs1, hb8, hu3, hk3, hl3⟩ := HT.out w1 k1; have HS1 := hidM hs1; obtain ⟨U, hU⟩ := ex (vlU w1 b8 false x); rw [hU] at hu3 hk3 hl3; have HSU := hidM (HSS.out U hk3); have HE := hidM (And.intro hk3 (And.intro hl3 hu3)); simp only [vlU, setAll] at hU; obtain ⟨y0, y1, y2, y3⟩ := cell4 hb8; have x0 := frz hb8 0; have x1 := frz hb8 1; have x2 := frz hb8 2; have x3 := frz hb8 3; clear k1 hs1 hb8 hu3 hk3 hl3))
 go_wp2_with fail
 go_end0
 exact ⟨rfl, HE.out⟩
theorem results_cell37t {fn : Func} {t u : Tmp} {tmps : Array Value} {g : Nat} {cs : Array Value} {w : World} (h : fn.results = #[.cell t 108, .tmp u]) (ht : tmps.getD t undef = .pointer (some ⟨g, 0, none⟩)) (hg : w.heap[g]? = some (.cells cs 108 (0, 0))) (hi : (Tryz.prog.info? 108).map (·.size) = some cs.size) :
  (results fn tmps).run Tryz.prog w = .ok (.tuple #[.agg cs, tmps.getD u undef]) w := by
 have hl := run_loadVar_row (P := Tryz.prog) w g 108 108 cs (0, 0) _ hg Tryz.underlying108 rfl hi
 unfold results
 rw [h]
 simp only [Array.mapM_eq_mapM_toList, List.mapM_cons, List.mapM_nil, ht]
 simp [asAddr, hl]
theorem look49 (L a q : Nat) (W : World) (ha : W.heap[a]? = some (.cells #[.pointer (some ⟨q, 0, none⟩), .int .i64 0, .int .i64 L, .pointer none] 168)) : Calls Tryz.prog 115 #[.pointer (some ⟨a, 0, none⟩)] W fun e w' => e = .returned (.pointer (some ⟨W.heap.size, 0, none⟩)) ∧ w' = W.alloc (.cells #[.pointer none, .int .i64 4194304] 188) := by
 obtain ⟨a0, a1, a2, a3⟩ := cell4 ha
 clear ha
 go_enter Tryz.func115, Tryz.ntmps115
 go_wp2_with fail
 go_ret
 exact ⟨rfl, rfl⟩
theorem read50_K (i : Int) (j : Nat) (x : Int) (hij : i = 0 ∧ j = 0 ∨ i = 1 ∧ j = 1 ∨ i = 2 ∧ j = 2) (hx : x = 5 ∨ x = 7 ∨ x = 8) (a l left : Nat) (W : World) (q r rc : Nat) (nu : Bool) (ao : Option Addr) (ca L : Nat) (v2 n2 c2 : Nat) (ha : W.heap[a]? = some (.cells #[.pointer (some ⟨q, 0, none⟩), .int .i64 0, .int .i64 L, .pointer none] 168)) (h : NdA nx W q r rc nu ao ca L 0 v2 n2 c2) (hl : W.heap[l]? = some (.cells #[.pointer none, .int .i64 left] 188)) (hlq : q ≠ l) (hlr : r ≠ l) (hlv : v2 ≠ l) (h16 : 16 ≤ left) (hle : left ≤ 4194304) (hn0 : j + 1 ≤ n2) (hn : n2 ≤ 100000) (hc : n2 ≤ c2) (h0 : W.cell? ⟨v2, j, none⟩ = some (.int .u8 x)) (h1 : W.cell? ⟨v2, j, none⟩ = some (.int .u8 x)) :
  Calls Tryz.prog 116 #[.pointer (some ⟨a, 0, none⟩), .pointer (some ⟨l, 0, none⟩), .int .i64 i] W fun e w' => e = .returned (.tuple #[.agg #[.bool false, .int .i64 x, .string ⟨#[]⟩, .slice none 0 0], .int .i64 0]) ∧ Rd1 W w' l left := by
 have hmf := mkf
 obtain ⟨A0, hA0, g0, b0⟩ := nw W (.cells #[.pointer (some ⟨a, 0, none⟩)] 138)
 obtain ⟨A1, hA1, g1, b1⟩ := nw A0 (.cells #[.pointer (some ⟨l, 0, none⟩)] 193)
 obtain ⟨A2, hA2, g2, b2⟩ := nw A1 (.cells #[.int .i64 i] 3)
 obtain ⟨A3, hA3, g3, b3⟩ := nw A2 (.cells #[.bool false, .int .i64 0, .string ⟨#[]⟩, .slice none 0 0] 108)
 have z3 : A3.heap.size = A2.heap.size + 1 := by rw [← hA3]; simp
 obtain ⟨A4, hA4, g4, b4⟩ := nw A3 (.cells #[.bool false, .int .i64 0, .string ⟨#[]⟩, .slice none 0 0] 108)
 have b3' := (g4.block _ (lt_of_heap b3) id).trans b3
 have g34 := g3.tr g4
 have g24 := g2.tr g34
 have g14 := g1.tr g24
 have gW : Gr W A4 := g0.tr g14
 have hRC : RdC A4 L A0.heap.size W.heap.size A1.heap.size A3.heap.size l a q i left := ⟨(g24.block _ (lt_of_heap b1) id).trans b1, (g14.block _ (lt_of_heap b0) id).trans b0, (g34.block _ (lt_of_heap b2) id).trans b2, b4, (gW.block _ (lt_of_heap ha) id).trans ha, (gW.block _ (lt_of_heap hl) id).trans hl⟩
 have hll := lt_of_heap hl
 have s0 := g0.size
 have s1 := g1.size
 have s2 := g2.size
 have HC := hidM (caught73 A0.heap.size W.heap.size A1.heap.size A3.heap.size (fun z => z = l ∨ z = A3.heap.size) (fun w => w.heap[l]? = some (.cells #[.pointer none, .int .i64 ((left - 16 : Nat) : Int)] 188) ∧ w.heap[A3.heap.size]? = some (.cells #[.bool false, .int .i64 x, .string ⟨#[]⟩, .slice none 0 0] 108)) A4 (fun e => by have := lt_of_heap b4; have := gW.size; rcases e with e | e <;> omega)
  (fun u v hu g => ⟨(g.block _ (lt_of_heap hu.1) id).trans hu.1, (g.block _ (lt_of_heap hu.2) id).trans hu.2⟩)
  (fun A gA => by
   have gWA := gW.tr gA
   exact read74_K i j x hij hx A0.heap.size W.heap.size A1.heap.size A3.heap.size a l left A q r rc nu ao ca L v2 n2 c2 ⟨(gA.block _ (lt_of_heap hRC.h4) id).trans hRC.h4, (gA.block _ (lt_of_heap hRC.h3) id).trans hRC.h3, (gA.block _ (lt_of_heap hRC.h5) id).trans hRC.h5, (gA.block _ (lt_of_heap hRC.h8) id).trans hRC.h8, (gA.block _ (lt_of_heap hRC.ha) id).trans hRC.ha, (gA.block _ (lt_of_heap hRC.hl) id).trans hRC.hl⟩ (h.gr gWA) hlq hlr hlv h16 hle hn0 hn hc (gWA.cell' h0 id) (gWA.cell' h1 id)))
 have HT : Hid (∀ w2, Keeps A4 w2 (fun z => z = l ∨ z = A3.heap.size) → (w2.heap[l]? = some (.cells #[.pointer none, .int .i64 ((left - 16 : Nat) : Int)] 188) ∧ w2.heap[A3.heap.size]? = some (.cells #[.bool false, .int .i64 x, .string ⟨#[]⟩, .slice none 0 0] 108)) → w2.heap[A2.heap.size]? = some (.cells #[.bool false, .int .i64 0, .string ⟨#[]⟩, .slice none 0 0] 108) ∧ (vlU w2 A2.heap.size false x).heap[A2.heap.size]? = some (.cells #[.bool false, .int .i64 x, .string ⟨#[]⟩, .slice none 0 0] 108) ∧ Rd1 W (vlU w2 A2.heap.size false x) l left) := fun w2 k2 ⟨e1, e2⟩ => by
  have hb := (k2.block _ (lt_of_heap b3') (fun e => by rcases e with e | e <;> omega)).trans b3'
  refine ⟨hb, vl_blk hb, ?_, ((vl_kp _ _ _ _).block l (lt_of_heap e1) (fun e => by have e' : l = A2.heap.size := e; omega)).trans e1⟩
  exact ((gW.mono fun _ _ h => h.elim).trans k2 (fun j hj e => e.elim id (fun e => by omega))).trans (vl_kp _ _ _ _) (fun j hj (e : j = A2.heap.size) => by omega)
 clear g0 b0 g1 b1 g2 b2 g3 b3 z3 g4 b4 b3' g34 g24 g14 gW hRC hll s0 s1 s2 ha h hl h0 h1
 go_enter Tryz.func116, Tryz.ntmps116
 go_wp2_with (go_at_call 134; refine HC.out.mono ?_; rintro e w2 ⟨rfl, k2, e2⟩; obtain ⟨hr3, hu3, hq3⟩ := HT.out w2 k2 e2; obtain ⟨U, hU⟩ := ex (vlU w2 A2.heap.size false x); rw [hU] at hu3 hq3; simp only [vlU, setAll] at hU; obtain ⟨y0, y1, y2, y3⟩ := cell4 hr3; have x0 := frz hr3 0; have x1 := frz hr3 1; have x2 := frz hr3 2; have x3 := frz hr3 3; obtain ⟨f0, f1, f2, f3⟩ := cell4 e2.2; have HU3 := hidM hu3; have HQ3 := hidM hq3; clear hr3 hu3 hq3 k2 e2 hA0 hA1 hA2 hA3 hA4)
 (try simp only [Exit.inBlock, Exit.then])
 refine bodyPost_ret (results_cell37t rfl rfl (by with_reducible exact HU3.out) (by kernel_rfl)) rfl ?_
 exact ⟨rfl, HQ3.out⟩
end Go.Proofs.YthhpamhfnpacpaaGreatDoor.Kit
namespace Go.Proofs
open Go.Shelf
def Tryz.laysNm221_ren : Go.Shelf.Ren := ⟨fun | 21 => 152 | 27 => 171 | 28 => 172 | 35 => 184 | 39 => 194 | n => n, fun | 22 => 29 | 3 => 3 | 4 => 4 | 0 => 0 | n => n, fun | n => n⟩
theorem Tryz.laysNm221 : Go.Proofs.Lays2.n21 Tryz.prog Tryz.laysNm221_ren := {
 mixed := by kernel_rfl
 f21 := Tryz.func152.trans (congrArg some (by kernel_rfl))
 f27 := Tryz.func171.trans (congrArg some (by kernel_rfl))
 f28 := Tryz.func172.trans (congrArg some (by kernel_rfl))
 f35 := Tryz.func184.trans (congrArg some (by kernel_rfl))
 f39 := Tryz.func194.trans (congrArg some (by kernel_rfl))
 t0 := Tryz.underlying0
 a0 := Tryz.isAgg0
 z0 := Tryz.sizeOf0
 v0 := Tryz.zeroValue0
 t3 := Tryz.underlying3
 a3 := Tryz.isAgg3
 z3 := Tryz.sizeOf3
 v3 := Tryz.zeroValue3
 t4 := Tryz.underlying4
 a4 := Tryz.isAgg4
 z4 := Tryz.sizeOf4
 v4 := Tryz.zeroValue4
 t22 := Tryz.underlying29
 a22 := Tryz.isAgg29
 z22 := Tryz.sizeOf29
 v22 := Tryz.zeroValue29
 i3 := by kernel_rfl }
end Go.Proofs
namespace Go.Proofs.YthhpamhfnpacpaaGreatDoor.Kit
variable {nx : Bool}
open Go.RowKit Go.Shelf Go.Deep
open Kd (Ans cell5 cell2)
open Go.Proofs.YthhpamhfnpacpaaGreatDoor.Ink (OwnRow)
attribute [local go_sem] run_store_func
theorem insert98 (b vb : Nat) (x y : Int) (W : World) (h0 : W.cell? ⟨b, 0, none⟩ = some (.int .i64 x)) (hv : W.cell? ⟨vb, 0, none⟩ = some (.int .i64 y)) :
  Calls Tryz.prog 152 #[.slice (some ⟨b, 0, none⟩) 1 1, .int .i64 0, .slice (some ⟨vb, 0, none⟩) 1 1] W fun e w' => ∃ g c, e = .returned (.slice (some ⟨g, 0, none⟩) 2 c) ∧ Gr W w' ∧ w'.cell? ⟨g, 0, none⟩ = some (.int .i64 y) ∧ w'.cell? ⟨g, 1, none⟩ = some (.int .i64 x) := by
 have h := Any2.slices_Insert_int_grow Tryz.laysNm221 b 0 1 1 0 vb 0 1 1 [.int .i64 x] [.int .i64 y] W (by decide) (by decide) (by decide) (by decide) (by decide) rfl rfl
  (fun j v hj => by
   match j, hj with
   | 0, hj => cases hj; exact h0
   | j + 1, hj => simp at hj)
  (fun j v hj => by
   match j, hj with
   | 0, hj => cases hj; exact hv
   | j + 1, hj => simp at hj)
  (fun v hv => by simp at hv; subst hv; rfl) (fun v hv => by simp at hv; subst hv; rfl)
 refine Calls.mono h ?_
 rintro e w' ⟨rfl, hw⟩
 refine ⟨_, _, rfl, ?_⟩
 generalize hR : ((([Value.int .i64 x].take 0).toArray ++ Builtin.zeroCells (Value.int .i64 0).cells (1 + 1 - 0) ++ Builtin.zeroCells (Value.int .i64 0).cells (grownCap W (1 + 1) 1 (Tryz.laysNm221_ren.t 3) - (1 + 1))) : Array Value) = R at hw
 have hsz : 2 ≤ R.size := by
  rw [← hR]
  simp [Builtin.zeroCells, Value.cells]
 obtain ⟨A, hA⟩ := ex (W.alloc (.cells R (Tryz.laysNm221_ren.t 3)))
 rw [hA] at hw
 have gA := gr_al hA
 have hb := al_new hA
 have hd : (w' : World) = ((A.drew.setCell ⟨W.heap.size, 0, none⟩ (.int .i64 y)).drew).setCell ⟨W.heap.size, 1, none⟩ (.int .i64 x) := hw
 have e1 := heap_setCell_same A.drew W.heap.size 0 _ _ (.int .i64 y) hb
 have e2 := heap_setCell_same (A.drew.setCell ⟨W.heap.size, 0, none⟩ (.int .i64 y)).drew W.heap.size 1 _ _ (.int .i64 x) e1
 rw [← hd] at e2
 refine ⟨?_, ?_, ?_⟩
 ·rw [hd]
  exact Keeps.setCell (p := ⟨W.heap.size, 1, none⟩) ((Keeps.setCell (p := ⟨W.heap.size, 0, none⟩) gA.drew (fun h => by simp at h) _).drew) (fun h => by simp at h) _
 ·have q0 : 0 < R.size := by omega
  simp only [World.cell?, e2]
  simp [Array.getElem?_setIfInBounds, q0]
 have q1 : 1 < R.size := by omega
 simp only [World.cell?, e2]
 simp [Array.getElem?_setIfInBounds, q1]
theorem needs308_2 (W : World) : Calls Tryz.prog 277 #[.agg #[.int .i64 1, .bool true], .int .i64 2] W fun e w' => ∃ g, e = .returned (.tuple #[.slice (some ⟨g, 0, none⟩) 1 1, .int .i64 (-9223372036854775808)]) ∧ Gr W w' ∧ W.heap.size ≤ g ∧ w'.cell? ⟨g, 0, none⟩ = some (.int .i64 2) := by
 obtain ⟨A, hA, gA, hb⟩ := nw W (.cells #[.int .i64 1, .bool true] 249)
 obtain ⟨e0, e1⟩ := cell2 hb
 have HG := hidM gA
 clear gA hb
 go_enter Tryz.func277, Tryz.ntmps277
 go_wp2_with fail
 go_ret2
 exact ⟨_, rfl, HG.out.alloc _, HG.out.size, cell1 (heap_alloc_new A _)⟩
theorem needs308_3 (W : World) : Calls Tryz.prog 277 #[.agg #[.int .i64 1, .bool true], .int .i64 3] W fun e w' => ∃ g, e = .returned (.tuple #[.slice (some ⟨g, 0, none⟩) 1 1, .int .i64 (-9223372036854775808)]) ∧ Gr W w' ∧ W.heap.size ≤ g ∧ w'.cell? ⟨g, 0, none⟩ = some (.int .i64 3) := by
 obtain ⟨A, hA, gA, hb⟩ := nw W (.cells #[.int .i64 1, .bool true] 249)
 obtain ⟨e0, e1⟩ := cell2 hb
 have HG := hidM gA
 clear gA hb
 go_enter Tryz.func277, Tryz.ntmps277
 go_wp2_with fail
 go_ret2
 exact ⟨_, rfl, HG.out.alloc _, HG.out.size, cell1 (heap_alloc_new A _)⟩
theorem wrong266 (l : Value) (q : Value) (W : World) : Calls Tryz.prog 234 #[.agg #[], l, q] W fun e w' => e = .returned (.tuple #[.int .i64 0, .int .i64 0]) ∧ Gr W w' := by
 go_enter Tryz.func234, Tryz.ntmps234
 go_wp2_with fail
 go_ret2
 exact ⟨rfl, gr_alloc _ _⟩
theorem wrong267 (l : Value) (q : Value) (W : World) : Calls Tryz.prog 235 #[.agg #[], l, q] W fun e w' => e = .returned (.tuple #[.int .i64 0, .int .i64 0]) ∧ Gr W w' := by
 go_enter Tryz.func235, Tryz.ntmps235
 go_wp2_with fail
 go_ret2
 exact ⟨rfl, gr_alloc _ _⟩
theorem weight310 (l q v : Value) (r : Int) (W : World) : Calls Tryz.prog 279 #[.agg #[.int .i64 1, .bool true], l, q, .int .i64 r, v] W fun e w' => e = .returned (.int .i64 16) ∧ Gr W w' := by
 go_enter Tryz.func279, Tryz.ntmps279
 go_wp2_with fail
 go_ret
 exact ⟨rfl, gr_alloc _ _⟩
theorem sum72_2 (z : Nat) (c : Nat) (W : World) (h0 : W.cell? ⟨z, 0, none⟩ = some (.int .i64 16)) (h1 : W.cell? ⟨z, 1, none⟩ = some (.int .i64 16)) : Calls Tryz.prog 133 #[.slice (some ⟨z, 0, none⟩) 2 c] W fun e w' => e = .returned (.int .i64 32) ∧ w' = W := by
 have H : Hid (∀ k, k < 2 → W.cell? ⟨z, k, none⟩ = some (.int .i64 16)) := fun k hk => by
  have : k = 0 ∨ k = 1 := by omega
  rcases this with rfl | rfl
  ·exact h0
  exact h1
 clear h0 h1
 go_enter Tryz.func133, Tryz.ntmps133
 go_wp2_with fail
 go_loopw [8, 3] (fun i s wr => ∃ k : Nat, k ≤ 2 ∧ i = .int .i64 k ∧ s = .int .i64 ((16 * k : Nat) : Int) ∧ wr = W) (fun i _ _ => 2 - (intOf i).toNat)
 case atStart => exact ⟨0, by omega, rfl, rfl, rfl⟩
 case round =>
  obtain ⟨k, hk, rfl, rfl, rfl⟩ := hrel
  by_cases hlt : k < 2
  ·have c1 := H.out k hlt
   have w1 : IntKind.i64.wrap (((16 * k : Nat) : Int) + 16) = ((16 * (k + 1) : Nat) : Int) := by rw [IntKind.wrap_i64]; omega
   generalize ((16 * k : Nat) : Int) = y at w1 ⊢
   go_wp2_with fail
   go_roundw
   case rel => exact ⟨k + 1, by omega, by go_num, by first | rfl | rw [w1], trivial⟩
   case measure => simp [intOf]; omega
  obtain rfl : k = 2 := by omega
  go_wp2_with fail
  go_ret
  exact ⟨rfl, rfl⟩
theorem sum72_3 (z : Nat) (c : Nat) (W : World) (h0 : W.cell? ⟨z, 0, none⟩ = some (.int .i64 16)) (h1 : W.cell? ⟨z, 1, none⟩ = some (.int .i64 16)) (h2 : W.cell? ⟨z, 2, none⟩ = some (.int .i64 16)) : Calls Tryz.prog 133 #[.slice (some ⟨z, 0, none⟩) 3 c] W fun e w' => e = .returned (.int .i64 48) ∧ w' = W := by
 have H : Hid (∀ k, k < 3 → W.cell? ⟨z, k, none⟩ = some (.int .i64 16)) := fun k hk => by
  have : k = 0 ∨ k = 1 ∨ k = 2 := by omega
  rcases this with rfl | rfl | rfl
  ·exact h0
  ·exact h1
  exact h2
 clear h0 h1 h2
 go_enter Tryz.func133, Tryz.ntmps133
 go_wp2_with fail
 go_loopw [8, 3] (fun i s wr => ∃ k : Nat, k ≤ 3 ∧ i = .int .i64 k ∧ s = .int .i64 ((16 * k : Nat) : Int) ∧ wr = W) (fun i _ _ => 3 - (intOf i).toNat)
 case atStart => exact ⟨0, by omega, rfl, rfl, rfl⟩
 case round =>
  obtain ⟨k, hk, rfl, rfl, rfl⟩ := hrel
  by_cases hlt : k < 3
  ·have c1 := H.out k hlt
   have w1 : IntKind.i64.wrap (((16 * k : Nat) : Int) + 16) = ((16 * (k + 1) : Nat) : Int) := by rw [IntKind.wrap_i64]; omega
   generalize ((16 * k : Nat) : Int) = y at w1 ⊢
   go_wp2_with fail
   go_roundw
   case rel => exact ⟨k + 1, by omega, by go_num, by first | rfl | rw [w1], trivial⟩
   case measure => simp [intOf]; omega
  obtain rfl : k = 3 := by omega
  go_wp2_with fail
  go_ret
  exact ⟨rfl, rfl⟩
theorem need_2 (w : World) : Calls Tryz.prog 153 #[.int .i64 2] w fun e w' => e = .returned (.int .i64 1) ∧ w' = w := (Bits.need_pos 2 (by decide) w).mono fun e w' h => ⟨h.1, h.2.symm⟩
theorem need_3 (w : World) : Calls Tryz.prog 153 #[.int .i64 3] w fun e w' => e = .returned (.int .i64 1) ∧ w' = w := (Bits.need_pos 3 (by decide) w).mono fun e w' h => ⟨h.1, h.2.symm⟩
theorem end_2_c (q : Nat) (nu : Bool) (ao : Option Addr) (ca : Nat) (bv : Value) (W : World) (h : W.heap[q]? = some (.cells (ndC nx nu ao ca (2 : Nat) (0 : Nat) bv) 165)) : Calls Tryz.prog 150 #[.pointer (some ⟨q, 0, none⟩)] W fun e w' => e = .returned (.int .i64 2) ∧ Gr W w' := (end96 q nu ao ca 2 0 bv W h (by decide) (by decide)).mono fun e w' h => ⟨h.1, by rw [h.2]; exact gr_drew⟩
theorem end_2_d (q : Nat) (nu : Bool) (ao : Option Addr) (ca : Nat) (bv : Value) (W : World) (h : W.heap[q]? = some (.cells (ndC nx nu ao ca (3 : Nat) (0 : Nat) bv) 165)) : Calls Tryz.prog 150 #[.pointer (some ⟨q, 0, none⟩)] W fun e w' => e = .returned (.int .i64 3) ∧ Gr W w' := (end96 q nu ao ca 3 0 bv W h (by decide) (by decide)).mono fun e w' h => ⟨h.1, by rw [h.2]; exact gr_drew⟩
theorem tooSmall68_c (W : World) (q r rc : Nat) (nu : Bool) (ao : Option Addr) (ca : Nat) (v2 c2 : Nat) (h : NdA nx W q r rc nu ao ca 2 0 v2 2 c2) : Calls Tryz.prog 129 #[.pointer (some ⟨q, 0, none⟩)] W fun e w' => e = .returned (.tuple #[.int .i64 0, .int .i64 0]) ∧ Gr W w' := by
 have HN : Hid (∀ u, Gr W u → NdA nx u q r rc nu ao ca 2 0 v2 2 c2) := fun u g => h.gr g
 have hS : ∀ u, Gr W u → u.cell? ⟨q, 7, none⟩ = some (.iface 249 (.agg #[.int .i64 1, .bool true])) := fun u g => (cellF (h.gr g).nd).1
 have HS0 := hidM (hS W.drew gr_drew)
 have HS := hidM hS
 have hmeth := method_needs
 clear h hS
 go_enter Tryz.func129, Tryz.ntmps129
 go_wp2_with fail
 go_region_held3 (fun u => u.cell? ⟨q, 7, none⟩ = some (.iface 249 (.agg #[.int .i64 1, .bool true]))) (first | with_reducible exact HS0.out | with_reducible exact HS1.out | with_reducible exact HS2.out) (first
  | (go_at_call 150; refine (end_2_c q nu ao ca _ _ (HN.out _ gr_drew).nd).mono ?_; rintro e w1 ⟨rfl, g1⟩; have HG1 : Hid (Gr W w1) := Keeps.trans gr_drew g1 (fun _ _ h => h); have HS1 := hidM (HS.out w1 HG1.out); clear g1)
  | (go_at_call 277; refine (needs308_2 _).mono ?_; rintro e w2 ⟨gg, rfl, g2, hgl, hcg⟩; have HG2 := hidM (HG1.out.tr g2); have HS2 := hidM (HS.out w2 HG2.out); have HCG := hidM hcg; clear g2 hgl hcg))
 clear hmeth
 go_wp2_with (first
  | (go_at_call 151; refine (masked97 q nu ao ca (2 : Nat) (0 : Nat) _ w2 (HN.out w2 HG2.out).nd).mono ?_; rintro e w3 ⟨rfl, rfl⟩)
  | (go_at_call 150; refine (end_2_c q nu ao ca _ _ (HN.out _ HG2.out).nd).mono ?_; rintro e w3 ⟨rfl, g3⟩; have HG3 := hidM (HG2.out.tr g3); have HC3 := hidM (g3.cell' HCG.out id); clear g3)
  | (go_at_call 153; refine (need_2 _).mono ?_; rintro e w4 ⟨rfl, rfl⟩; obtain ⟨V4, hV4⟩ := ex (w4.alloc (.cells #[.int .i64 1] 3)); have g4 := gr_al hV4; have HI4 := hidM (insert98 gg w4.heap.size 2 1 V4 (g4.cell' HC3.out id) (by rw [← hV4]; exact cell1 (heap_alloc_new w4 _))); have HG4 := hidM (HG3.out.tr g4); clear g4)
  | (go_at_call 152; refine HI4.out.mono ?_; rintro e w5 ⟨gn, cn, rfl, g5, hn0, hn1⟩; have HG5 := hidM (HG4.out.tr g5); have HCn := hidM (And.intro hn0 hn1); have cr := cellB (HN.out w5 HG5.out).nd; clear g5 hn0 hn1))
 replace HN : Hid (∀ u, Gr w5 u → NdA nx u q r rc nu ao ca 2 0 v2 2 c2) := fun u g => HN.out u (HG5.out.tr g)
 clear HS HS0 HS1 HS2 HG1 HG2 HG3 HG4 HCG HC3 HI4
 go_loopw [36] (fun i wr => ∃ k : Nat, k ≤ 2 ∧ i = .int .i64 k ∧ Hid (Gr w5 wr)) (fun i _ => 2 - (intOf i).toNat)
 case atStart => exact ⟨0, by omega, rfl, Keeps.refl _ _⟩
 case round =>
  obtain ⟨k, hk, rfl, HI⟩ := hrel
  have hk3 : k = 0 ∨ k = 1 ∨ k = 2 := by omega
  rcases hk3 with rfl | rfl | rfl
  ·have cr := cellB (HN.out wr HI.out).nd
   obtain ⟨⟨bo, bc, q0⟩, q1, q2⟩ := And.intro (HN.out wr HI.out).r0 (And.intro (HN.out wr HI.out).r1 (HN.out wr HI.out).r2)
   obtain ⟨V, hV⟩ := ex (wr.alloc (.cells #[.slice bo 0 bc, .int .i64 0, .pointer none] 258))
   have gV := gr_al hV
   have hbv : V.heap[wr.heap.size]? = some (.cells #[.slice bo 0 bc, .int .i64 0, .pointer none] 258) := by rw [← hV]; exact heap_alloc_new wr _
   obtain ⟨y0, y1, y2⟩ := cell3V hbv
   have z1 := frz hbv 1
   have z2 := frz hbv 2
   have i1 := set_id (j := 1) (v := .int .i64 0) hbv rfl
   have i2 := set_id (j := 2) (v := .pointer none) hbv rfl
   have HM := hidM (masked97 q nu ao ca (2 : Nat) (0 : Nat) (.slice (some ⟨r, 0, none⟩) 2 rc) V (HN.out V (HI.out.tr gV)).nd)
   have HBV := hidM hbv
   have HGV := hidM (HI.out.tr gV)
   have HSS : Hid (∀ u, Gr V u → u.cell? ⟨wr.heap.size, 0, none⟩ = some (.slice bo 0 bc) ∧ u.cell? ⟨wr.heap.size, 1, none⟩ = some (.int .i64 0) ∧ u.cell? ⟨wr.heap.size, 2, none⟩ = some (.pointer none) ∧ u.cell? ⟨gn, 0, none⟩ = some (.int .i64 1)) := fun u g => by
    obtain ⟨y0, y1, y2⟩ := cell3V ((g.block _ (lt_of_heap hbv) id).trans hbv)
    have gu := (HI.out.tr gV).tr g
    exact ⟨y0, y1, y2, gu.cell' HCn.out.1 id⟩
   clear gV hbv
   go_wp2_with (first
    | (go_at_call 151; refine HM.out.mono ?_; rintro e w6 ⟨rfl, rfl⟩)
    | (go_at_call 154; refine (len100 _ _ _ _).mono ?_; rintro e w7 ⟨rfl, g7⟩; have HG7 := hidM g7; obtain ⟨y0, y1, y2⟩ := cell3V ((g7.block _ (lt_of_heap HBV.out) id).trans HBV.out); have HS7 := hidM (HSS.out w7.drew (HG7.out.tr gr_drew)); have HN7 := hidM (HG7.out.tr gr_drew); clear g7))
   refine wp_region_held_drew (S := fun w' => w'.cell? ⟨wr.heap.size, 0, none⟩ = some (.slice bo 0 bc) ∧ w'.cell? ⟨wr.heap.size, 1, none⟩ = some (.int .i64 0) ∧ w'.cell? ⟨wr.heap.size, 2, none⟩ = some (.pointer none) ∧ w'.cell? ⟨gn, 0, none⟩ = some (.int .i64 1)) (by kernel_rfl) (HS7.out) fun _ => ?_
   refine tk 0 ?_
   refine tk 2 ?_
   refine tk 3 ?_
   refine tk 4 ?_
   refine tk 5 ?_
   refine rd1 1 fun Kc hK => ?_
   go_simp
   go_at_call 154
   refine Calls.mono (len100 _ _ _ _) ?_
   rintro e' w8 ⟨rfl, g8⟩; have HG8 := hidM (HN7.out.tr g8); have HS8 := hidM (HSS.out w8 HG8.out); clear g8
   go_wp2_with fail
   refine hK.out _ _ (HS8.out) fun _ => ?_
   clear hK Kc
   try simp only [Act.put, lA, lB, lC]
   refine tk 6 ?_
   refine tk 7 ?_
   refine tk 8 ?_
   refine tk 9 ?_
   refine tk 10 ?_
   refine wpAnyH_done (by kernel_rfl) ?_ _
   go_wp2_with fail
   go_roundw
   case rel => exact ⟨1, by omega, by go_num, HGV.out.tr HG8.out⟩
   case measure => simp [intOf]
  ·have cr := cellB (HN.out wr HI.out).nd
   obtain ⟨q0, q1, q2⟩ := And.intro (HN.out wr HI.out).r3 (And.intro (HN.out wr HI.out).r4 (HN.out wr HI.out).r5)
   obtain ⟨V, hV⟩ := ex (wr.alloc (.cells #[.slice (some ⟨v2, 0, none⟩) 2 c2, .int .i64 0, .pointer none] 258))
   have gV := gr_al hV
   have hbv : V.heap[wr.heap.size]? = some (.cells #[.slice (some ⟨v2, 0, none⟩) 2 c2, .int .i64 0, .pointer none] 258) := by rw [← hV]; exact heap_alloc_new wr _
   obtain ⟨y0, y1, y2⟩ := cell3V hbv
   have z1 := frz hbv 1
   have z2 := frz hbv 2
   have i1 := set_id (j := 1) (v := .int .i64 0) hbv rfl
   have i2 := set_id (j := 2) (v := .pointer none) hbv rfl
   have HM := hidM (masked97 q nu ao ca (2 : Nat) (0 : Nat) (.slice (some ⟨r, 0, none⟩) 2 rc) V (HN.out V (HI.out.tr gV)).nd)
   have HBV := hidM hbv
   have HGV := hidM (HI.out.tr gV)
   have HSS : Hid (∀ u, Gr V u → u.cell? ⟨wr.heap.size, 0, none⟩ = some (.slice (some ⟨v2, 0, none⟩) 2 c2) ∧ u.cell? ⟨wr.heap.size, 1, none⟩ = some (.int .i64 0) ∧ u.cell? ⟨wr.heap.size, 2, none⟩ = some (.pointer none) ∧ u.cell? ⟨gn, 1, none⟩ = some (.int .i64 2)) := fun u g => by
    obtain ⟨y0, y1, y2⟩ := cell3V ((g.block _ (lt_of_heap hbv) id).trans hbv)
    have gu := (HI.out.tr gV).tr g
    exact ⟨y0, y1, y2, gu.cell' HCn.out.2 id⟩
   have HS7 := hidM (HSS.out V.drew gr_drew)
   have HN7 := hidM (gr_drew : Gr V V.drew)
   clear gV hbv
   go_wp2_with fail
   refine wp_region_held_drew (S := fun w' => w'.cell? ⟨wr.heap.size, 0, none⟩ = some (.slice (some ⟨v2, 0, none⟩) 2 c2) ∧ w'.cell? ⟨wr.heap.size, 1, none⟩ = some (.int .i64 0) ∧ w'.cell? ⟨wr.heap.size, 2, none⟩ = some (.pointer none) ∧ w'.cell? ⟨gn, 1, none⟩ = some (.int .i64 2)) (by kernel_rfl) (HS7.out) fun _ => ?_
   refine tk 0 ?_
   refine tk 2 ?_
   refine tk 3 ?_
   refine tk 4 ?_
   refine tk 5 ?_
   refine rd1 1 fun Kc hK => ?_
   go_simp
   go_at_call 154
   refine Calls.mono (len100 _ _ _ _) ?_
   rintro e' w8 ⟨rfl, g8⟩; have HG8 := hidM (HN7.out.tr g8); have HS8 := hidM (HSS.out w8 HG8.out); clear g8
   go_wp2_with fail
   refine hK.out _ _ (HS8.out) fun _ => ?_
   clear hK Kc
   try simp only [Act.put, lA, lB, lC]
   refine tk 6 ?_
   refine tk 7 ?_
   refine sk 8 ?_
   refine sk 9 ?_
   refine tk 10 ?_
   refine wpAnyH_done (by kernel_rfl) ?_ _
   go_wp2_with fail
   go_roundw
   case rel => exact ⟨2, by omega, by go_num, HGV.out.tr HG8.out⟩
   case measure => simp [intOf]
  obtain ⟨c7, c9, c12⟩ := cellF (HN.out wr HI.out).nd
  go_wp2_with fail
  go_loopw [70] (fun i u => i = .int .i64 0 ∧ u = wr) (fun i _ => 0)
  case atStart => exact ⟨rfl, rfl⟩
  case round =>
   obtain ⟨rfl, rfl⟩ := hrel
   go_wp2_with fail
   go_ret2
   exact ⟨rfl, HG5.out.tr HI.out⟩
theorem tooSmall68_d (W : World) (q r rc : Nat) (nu : Bool) (ao : Option Addr) (ca : Nat) (v2 c2 : Nat) (h : NdA nx W q r rc nu ao ca 3 0 v2 3 c2) : Calls Tryz.prog 129 #[.pointer (some ⟨q, 0, none⟩)] W fun e w' => e = .returned (.tuple #[.int .i64 0, .int .i64 0]) ∧ Gr W w' := by
 have HN : Hid (∀ u, Gr W u → NdA nx u q r rc nu ao ca 3 0 v2 3 c2) := fun u g => h.gr g
 have hS : ∀ u, Gr W u → u.cell? ⟨q, 7, none⟩ = some (.iface 249 (.agg #[.int .i64 1, .bool true])) := fun u g => (cellF (h.gr g).nd).1
 have HS0 := hidM (hS W.drew gr_drew)
 have HS := hidM hS
 have hmeth := method_needs
 clear h hS
 go_enter Tryz.func129, Tryz.ntmps129
 go_wp2_with fail
 go_region_held3 (fun u => u.cell? ⟨q, 7, none⟩ = some (.iface 249 (.agg #[.int .i64 1, .bool true]))) (first | with_reducible exact HS0.out | with_reducible exact HS1.out | with_reducible exact HS2.out) (first
  | (go_at_call 150; refine (end_2_d q nu ao ca _ _ (HN.out _ gr_drew).nd).mono ?_; rintro e w1 ⟨rfl, g1⟩; have HG1 : Hid (Gr W w1) := Keeps.trans gr_drew g1 (fun _ _ h => h); have HS1 := hidM (HS.out w1 HG1.out); clear g1)
  | (go_at_call 277; refine (needs308_3 _).mono ?_; rintro e w2 ⟨gg, rfl, g2, hgl, hcg⟩; have HG2 := hidM (HG1.out.tr g2); have HS2 := hidM (HS.out w2 HG2.out); have HCG := hidM hcg; clear g2 hgl hcg))
 clear hmeth
 go_wp2_with (first
  | (go_at_call 151; refine (masked97 q nu ao ca (3 : Nat) (0 : Nat) _ w2 (HN.out w2 HG2.out).nd).mono ?_; rintro e w3 ⟨rfl, rfl⟩)
  | (go_at_call 150; refine (end_2_d q nu ao ca _ _ (HN.out _ HG2.out).nd).mono ?_; rintro e w3 ⟨rfl, g3⟩; have HG3 := hidM (HG2.out.tr g3); have HC3 := hidM (g3.cell' HCG.out id); clear g3)
  | (go_at_call 153; refine (need_3 _).mono ?_; rintro e w4 ⟨rfl, rfl⟩; obtain ⟨V4, hV4⟩ := ex (w4.alloc (.cells #[.int .i64 1] 3)); have g4 := gr_al hV4; have HI4 := hidM (insert98 gg w4.heap.size 3 1 V4 (g4.cell' HC3.out id) (by rw [← hV4]; exact cell1 (heap_alloc_new w4 _))); have HG4 := hidM (HG3.out.tr g4); clear g4)
  | (go_at_call 152; refine HI4.out.mono ?_; rintro e w5 ⟨gn, cn, rfl, g5, hn0, hn1⟩; have HG5 := hidM (HG4.out.tr g5); have HCn := hidM (And.intro hn0 hn1); have cr := cellB (HN.out w5 HG5.out).nd; clear g5 hn0 hn1))
 replace HN : Hid (∀ u, Gr w5 u → NdA nx u q r rc nu ao ca 3 0 v2 3 c2) := fun u g => HN.out u (HG5.out.tr g)
 clear HS HS0 HS1 HS2 HG1 HG2 HG3 HG4 HCG HC3 HI4
 go_loopw [36] (fun i wr => ∃ k : Nat, k ≤ 2 ∧ i = .int .i64 k ∧ Hid (Gr w5 wr)) (fun i _ => 2 - (intOf i).toNat)
 case atStart => exact ⟨0, by omega, rfl, Keeps.refl _ _⟩
 case round =>
  obtain ⟨k, hk, rfl, HI⟩ := hrel
  have hk3 : k = 0 ∨ k = 1 ∨ k = 2 := by omega
  rcases hk3 with rfl | rfl | rfl
  ·have cr := cellB (HN.out wr HI.out).nd
   obtain ⟨⟨bo, bc, q0⟩, q1, q2⟩ := And.intro (HN.out wr HI.out).r0 (And.intro (HN.out wr HI.out).r1 (HN.out wr HI.out).r2)
   obtain ⟨V, hV⟩ := ex (wr.alloc (.cells #[.slice bo 0 bc, .int .i64 0, .pointer none] 258))
   have gV := gr_al hV
   have hbv : V.heap[wr.heap.size]? = some (.cells #[.slice bo 0 bc, .int .i64 0, .pointer none] 258) := by rw [← hV]; exact heap_alloc_new wr _
   obtain ⟨y0, y1, y2⟩ := cell3V hbv
   have z1 := frz hbv 1
   have z2 := frz hbv 2
   have i1 := set_id (j := 1) (v := .int .i64 0) hbv rfl
   have i2 := set_id (j := 2) (v := .pointer none) hbv rfl
   have HM := hidM (masked97 q nu ao ca (3 : Nat) (0 : Nat) (.slice (some ⟨r, 0, none⟩) 2 rc) V (HN.out V (HI.out.tr gV)).nd)
   have HBV := hidM hbv
   have HGV := hidM (HI.out.tr gV)
   have HSS : Hid (∀ u, Gr V u → u.cell? ⟨wr.heap.size, 0, none⟩ = some (.slice bo 0 bc) ∧ u.cell? ⟨wr.heap.size, 1, none⟩ = some (.int .i64 0) ∧ u.cell? ⟨wr.heap.size, 2, none⟩ = some (.pointer none) ∧ u.cell? ⟨gn, 0, none⟩ = some (.int .i64 1)) := fun u g => by
    obtain ⟨y0, y1, y2⟩ := cell3V ((g.block _ (lt_of_heap hbv) id).trans hbv)
    have gu := (HI.out.tr gV).tr g
    exact ⟨y0, y1, y2, gu.cell' HCn.out.1 id⟩
   clear gV hbv
   go_wp2_with (first
    | (go_at_call 151; refine HM.out.mono ?_; rintro e w6 ⟨rfl, rfl⟩)
    | (go_at_call 154; refine (len100 _ _ _ _).mono ?_; rintro e w7 ⟨rfl, g7⟩; have HG7 := hidM g7; obtain ⟨y0, y1, y2⟩ := cell3V ((g7.block _ (lt_of_heap HBV.out) id).trans HBV.out); have HS7 := hidM (HSS.out w7.drew (HG7.out.tr gr_drew)); have HN7 := hidM (HG7.out.tr gr_drew); clear g7))
   refine wp_region_held_drew (S := fun w' => w'.cell? ⟨wr.heap.size, 0, none⟩ = some (.slice bo 0 bc) ∧ w'.cell? ⟨wr.heap.size, 1, none⟩ = some (.int .i64 0) ∧ w'.cell? ⟨wr.heap.size, 2, none⟩ = some (.pointer none) ∧ w'.cell? ⟨gn, 0, none⟩ = some (.int .i64 1)) (by kernel_rfl) (HS7.out) fun _ => ?_
   refine tk 0 ?_
   refine tk 2 ?_
   refine tk 3 ?_
   refine tk 4 ?_
   refine tk 5 ?_
   refine rd1 1 fun Kc hK => ?_
   go_simp
   go_at_call 154
   refine Calls.mono (len100 _ _ _ _) ?_
   rintro e' w8 ⟨rfl, g8⟩; have HG8 := hidM (HN7.out.tr g8); have HS8 := hidM (HSS.out w8 HG8.out); clear g8
   go_wp2_with fail
   refine hK.out _ _ (HS8.out) fun _ => ?_
   clear hK Kc
   try simp only [Act.put, lA, lB, lC]
   refine tk 6 ?_
   refine tk 7 ?_
   refine tk 8 ?_
   refine tk 9 ?_
   refine tk 10 ?_
   refine wpAnyH_done (by kernel_rfl) ?_ _
   go_wp2_with fail
   go_roundw
   case rel => exact ⟨1, by omega, by go_num, HGV.out.tr HG8.out⟩
   case measure => simp [intOf]
  ·have cr := cellB (HN.out wr HI.out).nd
   obtain ⟨q0, q1, q2⟩ := And.intro (HN.out wr HI.out).r3 (And.intro (HN.out wr HI.out).r4 (HN.out wr HI.out).r5)
   obtain ⟨V, hV⟩ := ex (wr.alloc (.cells #[.slice (some ⟨v2, 0, none⟩) 3 c2, .int .i64 0, .pointer none] 258))
   have gV := gr_al hV
   have hbv : V.heap[wr.heap.size]? = some (.cells #[.slice (some ⟨v2, 0, none⟩) 3 c2, .int .i64 0, .pointer none] 258) := by rw [← hV]; exact heap_alloc_new wr _
   obtain ⟨y0, y1, y2⟩ := cell3V hbv
   have z1 := frz hbv 1
   have z2 := frz hbv 2
   have i1 := set_id (j := 1) (v := .int .i64 0) hbv rfl
   have i2 := set_id (j := 2) (v := .pointer none) hbv rfl
   have HM := hidM (masked97 q nu ao ca (3 : Nat) (0 : Nat) (.slice (some ⟨r, 0, none⟩) 2 rc) V (HN.out V (HI.out.tr gV)).nd)
   have HBV := hidM hbv
   have HGV := hidM (HI.out.tr gV)
   have HSS : Hid (∀ u, Gr V u → u.cell? ⟨wr.heap.size, 0, none⟩ = some (.slice (some ⟨v2, 0, none⟩) 3 c2) ∧ u.cell? ⟨wr.heap.size, 1, none⟩ = some (.int .i64 0) ∧ u.cell? ⟨wr.heap.size, 2, none⟩ = some (.pointer none) ∧ u.cell? ⟨gn, 1, none⟩ = some (.int .i64 3)) := fun u g => by
    obtain ⟨y0, y1, y2⟩ := cell3V ((g.block _ (lt_of_heap hbv) id).trans hbv)
    have gu := (HI.out.tr gV).tr g
    exact ⟨y0, y1, y2, gu.cell' HCn.out.2 id⟩
   have HS7 := hidM (HSS.out V.drew gr_drew)
   have HN7 := hidM (gr_drew : Gr V V.drew)
   clear gV hbv
   go_wp2_with fail
   refine wp_region_held_drew (S := fun w' => w'.cell? ⟨wr.heap.size, 0, none⟩ = some (.slice (some ⟨v2, 0, none⟩) 3 c2) ∧ w'.cell? ⟨wr.heap.size, 1, none⟩ = some (.int .i64 0) ∧ w'.cell? ⟨wr.heap.size, 2, none⟩ = some (.pointer none) ∧ w'.cell? ⟨gn, 1, none⟩ = some (.int .i64 3)) (by kernel_rfl) (HS7.out) fun _ => ?_
   refine tk 0 ?_
   refine tk 2 ?_
   refine tk 3 ?_
   refine tk 4 ?_
   refine tk 5 ?_
   refine rd1 1 fun Kc hK => ?_
   go_simp
   go_at_call 154
   refine Calls.mono (len100 _ _ _ _) ?_
   rintro e' w8 ⟨rfl, g8⟩; have HG8 := hidM (HN7.out.tr g8); have HS8 := hidM (HSS.out w8 HG8.out); clear g8
   go_wp2_with fail
   refine hK.out _ _ (HS8.out) fun _ => ?_
   clear hK Kc
   try simp only [Act.put, lA, lB, lC]
   refine tk 6 ?_
   refine tk 7 ?_
   refine sk 8 ?_
   refine sk 9 ?_
   refine tk 10 ?_
   refine wpAnyH_done (by kernel_rfl) ?_ _
   go_wp2_with fail
   go_roundw
   case rel => exact ⟨2, by omega, by go_num, HGV.out.tr HG8.out⟩
   case measure => simp [intOf]
  obtain ⟨c7, c9, c12⟩ := cellF (HN.out wr HI.out).nd
  go_wp2_with fail
  go_loopw [70] (fun i u => i = .int .i64 0 ∧ u = wr) (fun i _ => 0)
  case atStart => exact ⟨rfl, rfl⟩
  case round =>
   obtain ⟨rfl, rfl⟩ := hrel
   go_wp2_with fail
   go_ret2
   exact ⟨rfl, HG5.out.tr HI.out⟩
theorem countNulls101_c {bo0 : Option Addr} {bc0 : Nat} (qb bc : Nat) (W : World) (q r rc : Nat) (nu : Bool) (ao : Option Addr) (ca : Nat) (v2 c2 : Nat) (h : NdA nx W q r rc nu ao ca 2 0 v2 2 c2) (hb : W.cell? ⟨qb, 0, none⟩ = some (.slice bo0 0 bc0)) : Calls Tryz.prog 155 #[.pointer (some ⟨q, 0, none⟩), .agg (dCo 2 0 (.slice (some ⟨qb, 0, none⟩) 2 bc))] W fun e w' => e = .returned (.int .i64 0) ∧ Gr W w' := by
 obtain ⟨A, hA⟩ := ex (W.alloc (.cells (dCo 2 0 (.slice (some ⟨qb, 0, none⟩) 2 bc)) 68))
 have gA := gr_al hA
 have hd : A.heap[W.heap.size]? = some (.cells (dCo 2 0 (.slice (some ⟨qb, 0, none⟩) 2 bc)) 68) := by rw [← hA]; exact heap_alloc_new W _
 have hS : ∀ u, Gr A u → u.cell? ⟨W.heap.size, 0, none⟩ = some (.int .i64 2) ∧ u.cell? ⟨W.heap.size, 1, none⟩ = some (.int .i64 0) ∧ u.cell? ⟨W.heap.size, 3, none⟩ = some (.slice (some ⟨qb, 0, none⟩) 2 bc) ∧ u.cell? ⟨qb, 0, none⟩ = some (.slice bo0 0 bc0) := fun u g => by
  obtain ⟨d0, d1, d2, d3, d4, d5⟩ := cell6 ((g.block _ (lt_of_heap hd) id).trans hd)
  exact ⟨d0, d1, d3, g.cell' (gA.cell' hb id) id⟩
 obtain ⟨d0, d1, d3, qb0⟩ := hS A (Keeps.refl _ _)
 have HM := hidM (masked97 q nu ao ca (2 : Nat) (0 : Nat) (.slice (some ⟨r, 0, none⟩) 2 rc) A (h.gr gA).nd)
 have HK := hidM (kind118 q nu ao ca (2 : Nat) (0 : Nat) (.slice (some ⟨r, 0, none⟩) 2 rc) A (h.gr gA).nd)
 have HG := hidM gA
 clear gA hd hS h hb
 unfold dCo at hA ⊢
 go_enter Tryz.func155, Tryz.ntmps155
 go_wp2_with (first
  | (go_at_call 170; refine HK.out.mono ?_; rintro e w1 ⟨rfl, rfl⟩)
  | (go_at_call 151; refine HM.out.mono ?_; rintro e w1 ⟨rfl, rfl⟩))
 go_ret
 exact ⟨rfl, HG.out⟩
theorem countNulls101_d {bo0 : Option Addr} {bc0 : Nat} (qb bc : Nat) (W : World) (q r rc : Nat) (nu : Bool) (ao : Option Addr) (ca : Nat) (v2 c2 : Nat) (h : NdA nx W q r rc nu ao ca 3 0 v2 3 c2) (hb : W.cell? ⟨qb, 0, none⟩ = some (.slice bo0 0 bc0)) : Calls Tryz.prog 155 #[.pointer (some ⟨q, 0, none⟩), .agg (dCo 3 0 (.slice (some ⟨qb, 0, none⟩) 2 bc))] W fun e w' => e = .returned (.int .i64 0) ∧ Gr W w' := by
 obtain ⟨A, hA⟩ := ex (W.alloc (.cells (dCo 3 0 (.slice (some ⟨qb, 0, none⟩) 2 bc)) 68))
 have gA := gr_al hA
 have hd : A.heap[W.heap.size]? = some (.cells (dCo 3 0 (.slice (some ⟨qb, 0, none⟩) 2 bc)) 68) := by rw [← hA]; exact heap_alloc_new W _
 have hS : ∀ u, Gr A u → u.cell? ⟨W.heap.size, 0, none⟩ = some (.int .i64 3) ∧ u.cell? ⟨W.heap.size, 1, none⟩ = some (.int .i64 0) ∧ u.cell? ⟨W.heap.size, 3, none⟩ = some (.slice (some ⟨qb, 0, none⟩) 2 bc) ∧ u.cell? ⟨qb, 0, none⟩ = some (.slice bo0 0 bc0) := fun u g => by
  obtain ⟨d0, d1, d2, d3, d4, d5⟩ := cell6 ((g.block _ (lt_of_heap hd) id).trans hd)
  exact ⟨d0, d1, d3, g.cell' (gA.cell' hb id) id⟩
 obtain ⟨d0, d1, d3, qb0⟩ := hS A (Keeps.refl _ _)
 have HM := hidM (masked97 q nu ao ca (3 : Nat) (0 : Nat) (.slice (some ⟨r, 0, none⟩) 2 rc) A (h.gr gA).nd)
 have HK := hidM (kind118 q nu ao ca (3 : Nat) (0 : Nat) (.slice (some ⟨r, 0, none⟩) 2 rc) A (h.gr gA).nd)
 have HG := hidM gA
 clear gA hd hS h hb
 unfold dCo at hA ⊢
 go_enter Tryz.func155, Tryz.ntmps155
 go_wp2_with (first
  | (go_at_call 170; refine HK.out.mono ?_; rintro e w1 ⟨rfl, rfl⟩)
  | (go_at_call 151; refine HM.out.mono ?_; rintro e w1 ⟨rfl, rfl⟩))
 go_ret
 exact ⟨rfl, HG.out⟩
theorem wrongNulls69_c {bo0 : Option Addr} {bc0 : Nat} (qb bc : Nat) (W : World) (q r rc : Nat) (nu : Bool) (ao : Option Addr) (ca : Nat) (v2 c2 : Nat) (hnu : nu = false) (h : NdA nx W q r rc nu ao ca 2 0 v2 2 c2) (hb : W.cell? ⟨qb, 0, none⟩ = some (.slice bo0 0 bc0)) : Calls Tryz.prog 130 #[.pointer (some ⟨q, 0, none⟩), .agg (dCo 2 0 (.slice (some ⟨qb, 0, none⟩) 2 bc))] W fun e w' => e = .returned (.int .i64 0) ∧ Gr W w' := by
 subst hnu
 obtain ⟨A, hA⟩ := ex (W.alloc (.cells (dCo 2 0 (.slice (some ⟨qb, 0, none⟩) 2 bc)) 68))
 have gA := gr_al hA
 have hd : A.heap[W.heap.size]? = some (.cells (dCo 2 0 (.slice (some ⟨qb, 0, none⟩) 2 bc)) 68) := by rw [← hA]; exact heap_alloc_new W _
 have hS : ∀ u, Gr A u → u.cell? ⟨q, 10, none⟩ = some (.int .i64 0) ∧ u.cell? ⟨q, 1, none⟩ = some (.bool false) ∧ u.cell? ⟨W.heap.size, 0, none⟩ = some (.int .i64 2) ∧ u.cell? ⟨W.heap.size, 1, none⟩ = some (.int .i64 0) ∧ u.cell? ⟨W.heap.size, 2, none⟩ = some (.int .i64 0) ∧ u.cell? ⟨W.heap.size, 3, none⟩ = some (.slice (some ⟨qb, 0, none⟩) 2 bc) ∧ u.cell? ⟨W.heap.size, 4, none⟩ = some (.slice none 0 0) ∧ u.cell? ⟨W.heap.size, 5, none⟩ = some (.slice none 0 0) := fun u g => by
  obtain ⟨d0, d1, d2, d3, d4, d5⟩ := cell6 ((g.block _ (lt_of_heap hd) id).trans hd)
  have hn := (h.gr (gA.tr g)).nd
  exact ⟨(cellN hn).2.2, by simp [World.cell?, hn, ndC], d0, d1, d2, d3, d4, d5⟩
 have HC : Hid (Calls Tryz.prog 155 #[.pointer (some ⟨q, 0, none⟩), .agg #[.int .i64 2, .int .i64 0, .int .i64 0, .slice (some ⟨qb, 0, none⟩) 2 bc, .slice none 0 0, .slice none 0 0]] A.drew fun e w' => e = .returned (.int .i64 0) ∧ Gr A.drew w') := countNulls101_c qb bc A.drew q r rc false ao ca v2 c2 (h.gr gA.drew) (gA.drew.cell' hb id)
 have HS0 := hidM (hS A.drew gr_drew)
 have HGd : Hid (Gr A A.drew) := gr_drew
 have HSS := hidM hS
 have HG := hidM gA
 clear gA hd hS h hb
 unfold dCo at hA ⊢
 go_enter Tryz.func130, Tryz.ntmps130
 go_wp2_with fail
 clear hA
 refine wp_region_held_drew (S := fun w' => w'.cell? ⟨q, 10, none⟩ = some (.int .i64 0) ∧ w'.cell? ⟨q, 1, none⟩ = some (.bool false) ∧ w'.cell? ⟨W.heap.size, 0, none⟩ = some (.int .i64 2) ∧ w'.cell? ⟨W.heap.size, 1, none⟩ = some (.int .i64 0) ∧ w'.cell? ⟨W.heap.size, 2, none⟩ = some (.int .i64 0) ∧ w'.cell? ⟨W.heap.size, 3, none⟩ = some (.slice (some ⟨qb, 0, none⟩) 2 bc) ∧ w'.cell? ⟨W.heap.size, 4, none⟩ = some (.slice none 0 0) ∧ w'.cell? ⟨W.heap.size, 5, none⟩ = some (.slice none 0 0)) (by kernel_rfl) (HS0.out) fun _ => ?_
 refine tk 0 ?_
 refine tk 1 ?_
 refine tk 2 ?_
 refine tk 3 ?_
 refine tk 4 ?_
 refine tk 5 ?_
 refine rd1 6 fun Kc hK => ?_
 go_simp
 go_at_call 155
 refine Calls.mono (HC.out) ?_
 rintro e' w8 ⟨rfl, g8⟩; have HG8 := hidM (HGd.out.tr g8); have HS8 := hidM (HSS.out w8 HG8.out); clear g8
 go_wp2_with fail
 refine hK.out _ _ (HS8.out) fun _ => ?_
 clear hK Kc
 try simp only [Act.put, lA, lB, lC]
 refine tk 7 ?_
 refine tk 8 ?_
 refine tk 9 ?_
 refine tk 10 ?_
 refine tk 11 ?_
 refine tk 12 ?_
 refine tk 13 ?_
 refine tk 14 ?_
 refine sk 15 ?_
 refine sk 16 ?_
 refine sk 17 ?_
 refine sk 18 ?_
 refine sk 19 ?_
 refine sk 20 ?_
 refine tk 21 ?_
 refine tk 22 ?_
 refine wpAnyH_done (by kernel_rfl) ?_ _
 go_wp2_with fail
 go_ret
 exact ⟨rfl, HG.out.tr HG8.out⟩
theorem wrongNulls69_d {bo0 : Option Addr} {bc0 : Nat} (qb bc : Nat) (W : World) (q r rc : Nat) (nu : Bool) (ao : Option Addr) (ca : Nat) (v2 c2 : Nat) (hnu : nu = false) (h : NdA nx W q r rc nu ao ca 3 0 v2 3 c2) (hb : W.cell? ⟨qb, 0, none⟩ = some (.slice bo0 0 bc0)) : Calls Tryz.prog 130 #[.pointer (some ⟨q, 0, none⟩), .agg (dCo 3 0 (.slice (some ⟨qb, 0, none⟩) 2 bc))] W fun e w' => e = .returned (.int .i64 0) ∧ Gr W w' := by
 subst hnu
 obtain ⟨A, hA⟩ := ex (W.alloc (.cells (dCo 3 0 (.slice (some ⟨qb, 0, none⟩) 2 bc)) 68))
 have gA := gr_al hA
 have hd : A.heap[W.heap.size]? = some (.cells (dCo 3 0 (.slice (some ⟨qb, 0, none⟩) 2 bc)) 68) := by rw [← hA]; exact heap_alloc_new W _
 have hS : ∀ u, Gr A u → u.cell? ⟨q, 10, none⟩ = some (.int .i64 0) ∧ u.cell? ⟨q, 1, none⟩ = some (.bool false) ∧ u.cell? ⟨W.heap.size, 0, none⟩ = some (.int .i64 3) ∧ u.cell? ⟨W.heap.size, 1, none⟩ = some (.int .i64 0) ∧ u.cell? ⟨W.heap.size, 2, none⟩ = some (.int .i64 0) ∧ u.cell? ⟨W.heap.size, 3, none⟩ = some (.slice (some ⟨qb, 0, none⟩) 2 bc) ∧ u.cell? ⟨W.heap.size, 4, none⟩ = some (.slice none 0 0) ∧ u.cell? ⟨W.heap.size, 5, none⟩ = some (.slice none 0 0) := fun u g => by
  obtain ⟨d0, d1, d2, d3, d4, d5⟩ := cell6 ((g.block _ (lt_of_heap hd) id).trans hd)
  have hn := (h.gr (gA.tr g)).nd
  exact ⟨(cellN hn).2.2, by simp [World.cell?, hn, ndC], d0, d1, d2, d3, d4, d5⟩
 have HC : Hid (Calls Tryz.prog 155 #[.pointer (some ⟨q, 0, none⟩), .agg #[.int .i64 3, .int .i64 0, .int .i64 0, .slice (some ⟨qb, 0, none⟩) 2 bc, .slice none 0 0, .slice none 0 0]] A.drew fun e w' => e = .returned (.int .i64 0) ∧ Gr A.drew w') := countNulls101_d qb bc A.drew q r rc false ao ca v2 c2 (h.gr gA.drew) (gA.drew.cell' hb id)
 have HS0 := hidM (hS A.drew gr_drew)
 have HGd : Hid (Gr A A.drew) := gr_drew
 have HSS := hidM hS
 have HG := hidM gA
 clear gA hd hS h hb
 unfold dCo at hA ⊢
 go_enter Tryz.func130, Tryz.ntmps130
 go_wp2_with fail
 clear hA
 refine wp_region_held_drew (S := fun w' => w'.cell? ⟨q, 10, none⟩ = some (.int .i64 0) ∧ w'.cell? ⟨q, 1, none⟩ = some (.bool false) ∧ w'.cell? ⟨W.heap.size, 0, none⟩ = some (.int .i64 3) ∧ w'.cell? ⟨W.heap.size, 1, none⟩ = some (.int .i64 0) ∧ w'.cell? ⟨W.heap.size, 2, none⟩ = some (.int .i64 0) ∧ w'.cell? ⟨W.heap.size, 3, none⟩ = some (.slice (some ⟨qb, 0, none⟩) 2 bc) ∧ w'.cell? ⟨W.heap.size, 4, none⟩ = some (.slice none 0 0) ∧ w'.cell? ⟨W.heap.size, 5, none⟩ = some (.slice none 0 0)) (by kernel_rfl) (HS0.out) fun _ => ?_
 refine tk 0 ?_
 refine tk 1 ?_
 refine tk 2 ?_
 refine tk 3 ?_
 refine tk 4 ?_
 refine tk 5 ?_
 refine rd1 6 fun Kc hK => ?_
 go_simp
 go_at_call 155
 refine Calls.mono (HC.out) ?_
 rintro e' w8 ⟨rfl, g8⟩; have HG8 := hidM (HGd.out.tr g8); have HS8 := hidM (HSS.out w8 HG8.out); clear g8
 go_wp2_with fail
 refine hK.out _ _ (HS8.out) fun _ => ?_
 clear hK Kc
 try simp only [Act.put, lA, lB, lC]
 refine tk 7 ?_
 refine tk 8 ?_
 refine tk 9 ?_
 refine tk 10 ?_
 refine tk 11 ?_
 refine tk 12 ?_
 refine tk 13 ?_
 refine tk 14 ?_
 refine sk 15 ?_
 refine sk 16 ?_
 refine sk 17 ?_
 refine sk 18 ?_
 refine sk 19 ?_
 refine sk 20 ?_
 refine tk 21 ?_
 refine tk 22 ?_
 refine wpAnyH_done (by kernel_rfl) ?_ _
 go_wp2_with fail
 go_ret
 exact ⟨rfl, HG.out.tr HG8.out⟩
theorem mk191 (w : World) : (Instr.makeSlice 137 (.int .i64 0) (.int .i64 0)).run Tryz.prog w = .ok (.slice (some ⟨w.heap.size, 0, none⟩) 0 0) (w.alloc (.cells #[] 29)) := by kernel_rfl
theorem mk48 (w : World) : (Instr.makeSlice 29 (.int .i64 2) (.int .i64 2)).run Tryz.prog w = .ok (.slice (some ⟨w.heap.size, 0, none⟩) 2 2) (w.alloc (.cells #[.int .i64 0, .int .i64 0] 3)) := by kernel_rfl
theorem mk48_3 (w : World) : (Instr.makeSlice 29 (.int .i64 3) (.int .i64 3)).run Tryz.prog w = .ok (.slice (some ⟨w.heap.size, 0, none⟩) 3 3) (w.alloc (.cells #[.int .i64 0, .int .i64 0, .int .i64 0] 3)) := by kernel_rfl
theorem parts70_c (c : Value) (qb bc : Nat) (W : World) (q r rc : Nat) (nu : Bool) (ao : Option Addr) (ca : Nat) (v2 c2 : Nat) (h : NdA nx W q r rc nu ao ca 2 0 v2 2 c2) : Calls Tryz.prog 131 #[c, .pointer (some ⟨q, 0, none⟩), .agg (dCo 2 0 (.slice (some ⟨qb, 0, none⟩) 2 bc))] W fun e w' => ∃ g, e = .returned (.slice (some ⟨g, 0, none⟩) 0 0) ∧ Gr W w' := by
 obtain ⟨A, hA⟩ := ex (W.alloc (.cells (dCo 2 0 (.slice (some ⟨qb, 0, none⟩) 2 bc)) 68))
 have gA := gr_al hA
 have hd : A.heap[W.heap.size]? = some (.cells (dCo 2 0 (.slice (some ⟨qb, 0, none⟩) 2 bc)) 68) := by rw [← hA]; exact heap_alloc_new W _
 obtain ⟨c7, c9, c12⟩ := cellF (h.gr gA).nd
 obtain ⟨B, hB⟩ := ex (A.alloc (.cells #[] 29))
 have gB := gr_al hB
 obtain ⟨d0, d1, d2, d3, d4, d5⟩ := cell6 ((gB.block _ (lt_of_heap hd) id).trans hd)
 have HC : Hid (Calls Tryz.prog 149 #[.agg #[.int .i64 2, .int .i64 0, .int .i64 0, .slice (some ⟨qb, 0, none⟩) 2 bc, .slice none 0 0, .slice none 0 0]] B fun e w' => ∃ uo uc, e = .returned (.slice uo 0 uc) ∧ Gr B w') := partData95 2 0 (.slice (some ⟨qb, 0, none⟩) 2 bc) B
 have HG := hidM (gA.tr gB)
 have hmk := mk191
 clear gA hd gB h
 unfold dCo at hA ⊢
 go_enter Tryz.func131, Tryz.ntmps131
 go_wp2_with (go_at_call 149; refine HC.out.mono ?_; rintro e w2 ⟨uo, uc, rfl, g2⟩; have HG2 := hidM (HG.out.tr g2); clear g2)
 go_loopw [19] (fun i u => i = .int .i64 0 ∧ u = w2) (fun i _ => 0)
 case atStart => exact ⟨rfl, rfl⟩
 case round =>
  obtain ⟨rfl, rfl⟩ := hrel
  go_wp2_with fail
  go_ret
  exact ⟨_, rfl, HG2.out⟩
theorem parts70_d (c : Value) (qb bc : Nat) (W : World) (q r rc : Nat) (nu : Bool) (ao : Option Addr) (ca : Nat) (v2 c2 : Nat) (h : NdA nx W q r rc nu ao ca 3 0 v2 3 c2) : Calls Tryz.prog 131 #[c, .pointer (some ⟨q, 0, none⟩), .agg (dCo 3 0 (.slice (some ⟨qb, 0, none⟩) 2 bc))] W fun e w' => ∃ g, e = .returned (.slice (some ⟨g, 0, none⟩) 0 0) ∧ Gr W w' := by
 obtain ⟨A, hA⟩ := ex (W.alloc (.cells (dCo 3 0 (.slice (some ⟨qb, 0, none⟩) 2 bc)) 68))
 have gA := gr_al hA
 have hd : A.heap[W.heap.size]? = some (.cells (dCo 3 0 (.slice (some ⟨qb, 0, none⟩) 2 bc)) 68) := by rw [← hA]; exact heap_alloc_new W _
 obtain ⟨c7, c9, c12⟩ := cellF (h.gr gA).nd
 obtain ⟨B, hB⟩ := ex (A.alloc (.cells #[] 29))
 have gB := gr_al hB
 obtain ⟨d0, d1, d2, d3, d4, d5⟩ := cell6 ((gB.block _ (lt_of_heap hd) id).trans hd)
 have HC : Hid (Calls Tryz.prog 149 #[.agg #[.int .i64 3, .int .i64 0, .int .i64 0, .slice (some ⟨qb, 0, none⟩) 2 bc, .slice none 0 0, .slice none 0 0]] B fun e w' => ∃ uo uc, e = .returned (.slice uo 0 uc) ∧ Gr B w') := partData95 3 0 (.slice (some ⟨qb, 0, none⟩) 2 bc) B
 have HG := hidM (gA.tr gB)
 have hmk := mk191
 clear gA hd gB h
 unfold dCo at hA ⊢
 go_enter Tryz.func131, Tryz.ntmps131
 go_wp2_with (go_at_call 149; refine HC.out.mono ?_; rintro e w2 ⟨uo, uc, rfl, g2⟩; have HG2 := hidM (HG.out.tr g2); clear g2)
 go_loopw [19] (fun i u => i = .int .i64 0 ∧ u = w2) (fun i _ => 0)
 case atStart => exact ⟨rfl, rfl⟩
 case round =>
  obtain ⟨rfl, rfl⟩ := hrel
  go_wp2_with fail
  go_ret
  exact ⟨_, rfl, HG2.out⟩
def wtK (k : Nat) : Array Value := if k = 0 then #[.int .i64 0, .int .i64 0] else if k = 1 then #[.int .i64 16, .int .i64 0] else #[.int .i64 16, .int .i64 16]
def wtK3 (k : Nat) : Array Value := if k = 0 then #[.int .i64 0, .int .i64 0, .int .i64 0] else if k = 1 then #[.int .i64 16, .int .i64 0, .int .i64 0] else if k = 2 then #[.int .i64 16, .int .i64 16, .int .i64 0] else #[.int .i64 16, .int .i64 16, .int .i64 16]
def WtI (W : World) (z k : Nat) (wr : World) : Prop := Keeps W wr (fun b => b = z) ∧ wr.heap[z]? = some (.cells (wtK k) 3)
def WtI3 (W : World) (z k : Nat) (wr : World) : Prop := Keeps W wr (fun b => b = z) ∧ wr.heap[z]? = some (.cells (wtK3 k) 3)
theorem weights71_c (l : Nat) (within : Value) (W : World) (q r rc : Nat) (nu : Bool) (ao : Option Addr) (ca : Nat) (v2 c2 : Nat) (h : NdA nx W q r rc nu ao ca 2 0 v2 2 c2) (hl : W.cell? ⟨l, 0, none⟩ = some (.pointer none)) : Calls Tryz.prog 132 #[.pointer (some ⟨l, 0, none⟩), .pointer (some ⟨q, 0, none⟩), within] W fun e w' => ∃ z, e = .returned (.slice (some ⟨z, 0, none⟩) 2 2) ∧ Gr W w' ∧ w'.cell? ⟨z, 0, none⟩ = some (.int .i64 16) ∧ w'.cell? ⟨z, 1, none⟩ = some (.int .i64 16) := by
 obtain ⟨z, hz⟩ := ex (W.heap.size)
 obtain ⟨A, hA⟩ := ex (W.alloc (.cells #[.int .i64 0, .int .i64 0] 3))
 have gA := gr_al hA
 have hb : A.heap[z]? = some (.cells (wtK 0) 3) := by rw [← hA, ← hz]; exact heap_alloc_new W _
 have nq : q ≠ z := by have := lt_of_heap h.nd; omega
 have nr : r ≠ z := by have := block_lt_of_cell h.r1; simp at this; omega
 have nl : l ≠ z := by have := block_lt_of_cell hl; simp at this; omega
 have HI0 : Hid (WtI W z 0 A) := ⟨gA.mono fun _ _ h => h.elim, hb⟩
 have HN : Hid (∀ u, Keeps W u (fun b => b = z) → NdA nx u q r rc nu ao ca 2 0 v2 2 c2 ∧ u.cell? ⟨l, 0, none⟩ = some (.pointer none)) := fun u g => ⟨h.kp g nq nr, g.cell' hl nl⟩
 have HZ := hidM hz
 obtain ⟨a8, a9, a10⟩ := cellN h.nd
 have hmk := mk48
 clear gA hb nq nr nl h hl
 go_enter Tryz.func132, Tryz.ntmps132
 go_wp2_with fail
 clear a8 a9 a10 hA hz
 go_loopw [17] (fun i wr => ∃ k : Nat, k ≤ 2 ∧ i = .int .i64 k ∧ Hid (WtI W z k wr)) (fun i _ => 2 - (intOf i).toNat)
 case atStart => exact ⟨0, by omega, rfl, HI0⟩
 case round =>
  clear HI0
  obtain ⟨k, hk, rfl, HI⟩ := hrel
  have hk3 : k = 0 ∨ k = 1 ∨ k = 2 := by omega
  rcases hk3 with rfl | rfl | rfl
  ·obtain ⟨c7, c9, c12⟩ := cellF (HN.out wr HI.out.1).1.nd
   obtain ⟨U, hU⟩ := ex (wr.setCell ⟨z, 0, none⟩ (.int .i64 16))
   have hu : U.heap[z]? = some (.cells (wtK 1) 3) := by rw [← hU, heap_setCell_same wr z 0 _ _ _ HI.out.2]; rfl
   have hk1 : Keeps W U (fun b => b = z) := by rw [← hU]; exact HI.out.1.setCell (p := ⟨z, 0, none⟩) (fun _ => rfl) _
   have HO := hidM (isOff102 0 l U q r rc nu ao ca 2 0 v2 2 c2 (HN.out U hk1).1)
   have HT : Hid (∀ u, Gr U u → WtI W z 1 u) := fun u g => ⟨hk1.tr (g.mono fun _ _ h => h.elim), (g.block z (lt_of_heap hu) id).trans hu⟩
   have w0 := cell2 HI.out.2
   have w00 := w0.1
   have f0 := frz HI.out.2 0
   have hmeth := method_weight
   clear w0 hu hk1 HI hmk
   go_wp2_with (first
    | (go_at_call 156; refine HO.out.mono ?_; rintro e w2 ⟨rfl, g2⟩; have HT2 := hidM (HT.out w2 g2); have HG2 := hidM g2; obtain ⟨c7, c9, c12⟩ := cellF (HN.out w2 HT2.out.1).1.nd; clear g2)
    | (go_at_call 279; refine (weight310 _ _ _ _ _).mono ?_; rintro e w3 ⟨rfl, g3⟩; have HT3 := hidM (HT.out w3 (HG2.out.tr g3)); have w30 := (cell2 HT3.out.2).1; have f3 := frz HT3.out.2 0; have i3 := set_id (j := 0) (v := .int .i64 16) HT3.out.2 rfl; clear g3))
   go_roundw
   case rel => exact ⟨1, by omega, by go_num, HT3⟩
   case measure => simp [intOf]
  ·obtain ⟨c7, c9, c12⟩ := cellF (HN.out wr HI.out.1).1.nd
   obtain ⟨U, hU⟩ := ex (wr.setCell ⟨z, 1, none⟩ (.int .i64 16))
   have hu : U.heap[z]? = some (.cells (wtK 2) 3) := by rw [← hU, heap_setCell_same wr z 1 _ _ _ HI.out.2]; rfl
   have hk1 : Keeps W U (fun b => b = z) := by rw [← hU]; exact HI.out.1.setCell (p := ⟨z, 1, none⟩) (fun _ => rfl) _
   have HO := hidM (isOff102 1 l U q r rc nu ao ca 2 0 v2 2 c2 (HN.out U hk1).1)
   have HT : Hid (∀ u, Gr U u → WtI W z 2 u) := fun u g => ⟨hk1.tr (g.mono fun _ _ h => h.elim), (g.block z (lt_of_heap hu) id).trans hu⟩
   have w0 := cell2 HI.out.2
   have w00 := w0.2
   have f0 := frz HI.out.2 1
   have hmeth := method_weight
   clear w0 hu hk1 HI hmk
   go_wp2_with (first
    | (go_at_call 156; refine HO.out.mono ?_; rintro e w2 ⟨rfl, g2⟩; have HT2 := hidM (HT.out w2 g2); have HG2 := hidM g2; obtain ⟨c7, c9, c12⟩ := cellF (HN.out w2 HT2.out.1).1.nd; clear g2)
    | (go_at_call 279; refine (weight310 _ _ _ _ _).mono ?_; rintro e w3 ⟨rfl, g3⟩; have HT3 := hidM (HT.out w3 (HG2.out.tr g3)); have w30 := (cell2 HT3.out.2).2; have f3 := frz HT3.out.2 1; have i3 := set_id (j := 1) (v := .int .i64 16) HT3.out.2 rfl; clear g3))
   go_roundw
   case rel => exact ⟨2, by omega, by go_num, HT3⟩
   case measure => simp [intOf]
  have HE : Hid (Gr W wr ∧ wr.cell? ⟨z, 0, none⟩ = some (.int .i64 16) ∧ wr.cell? ⟨z, 1, none⟩ = some (.int .i64 16)) := ⟨HI.out.1.mono fun j hj (e : j = z) => by have := HZ.out; omega, cell2 HI.out.2⟩
  clear HI hmk
  go_wp2_with fail
  go_ret
  exact ⟨z, rfl, HE.out⟩
theorem weights71_d (l : Nat) (within : Value) (W : World) (q r rc : Nat) (nu : Bool) (ao : Option Addr) (ca : Nat) (v2 c2 : Nat) (h : NdA nx W q r rc nu ao ca 3 0 v2 3 c2) (hl : W.cell? ⟨l, 0, none⟩ = some (.pointer none)) : Calls Tryz.prog 132 #[.pointer (some ⟨l, 0, none⟩), .pointer (some ⟨q, 0, none⟩), within] W fun e w' => ∃ z, e = .returned (.slice (some ⟨z, 0, none⟩) 3 3) ∧ Gr W w' ∧ w'.cell? ⟨z, 0, none⟩ = some (.int .i64 16) ∧ w'.cell? ⟨z, 1, none⟩ = some (.int .i64 16) ∧ w'.cell? ⟨z, 2, none⟩ = some (.int .i64 16) := by
 obtain ⟨z, hz⟩ := ex (W.heap.size)
 obtain ⟨A, hA⟩ := ex (W.alloc (.cells #[.int .i64 0, .int .i64 0, .int .i64 0] 3))
 have gA := gr_al hA
 have hb : A.heap[z]? = some (.cells (wtK3 0) 3) := by rw [← hA, ← hz]; exact heap_alloc_new W _
 have nq : q ≠ z := by have := lt_of_heap h.nd; omega
 have nr : r ≠ z := by have := block_lt_of_cell h.r1; simp at this; omega
 have nl : l ≠ z := by have := block_lt_of_cell hl; simp at this; omega
 have HI0 : Hid (WtI3 W z 0 A) := ⟨gA.mono fun _ _ h => h.elim, hb⟩
 have HN : Hid (∀ u, Keeps W u (fun b => b = z) → NdA nx u q r rc nu ao ca 3 0 v2 3 c2 ∧ u.cell? ⟨l, 0, none⟩ = some (.pointer none)) := fun u g => ⟨h.kp g nq nr, g.cell' hl nl⟩
 have HZ := hidM hz
 obtain ⟨a8, a9, a10⟩ := cellN h.nd
 have hmk := mk48_3
 clear gA hb nq nr nl h hl
 go_enter Tryz.func132, Tryz.ntmps132
 go_wp2_with fail
 clear a8 a9 a10 hA hz
 go_loopw [17] (fun i wr => ∃ k : Nat, k ≤ 3 ∧ i = .int .i64 k ∧ Hid (WtI3 W z k wr)) (fun i _ => 3 - (intOf i).toNat)
 case atStart => exact ⟨0, by omega, rfl, HI0⟩
 case round =>
  clear HI0
  obtain ⟨k, hk, rfl, HI⟩ := hrel
  have hk3 : k = 0 ∨ k = 1 ∨ k = 2 ∨ k = 3 := by omega
  rcases hk3 with rfl | rfl | rfl | rfl
  ·obtain ⟨c7, c9, c12⟩ := cellF (HN.out wr HI.out.1).1.nd
   obtain ⟨U, hU⟩ := ex (wr.setCell ⟨z, 0, none⟩ (.int .i64 16))
   have hu : U.heap[z]? = some (.cells (wtK3 1) 3) := by rw [← hU, heap_setCell_same wr z 0 _ _ _ HI.out.2]; rfl
   have hk1 : Keeps W U (fun b => b = z) := by rw [← hU]; exact HI.out.1.setCell (p := ⟨z, 0, none⟩) (fun _ => rfl) _
   have HO := hidM (isOff102 0 l U q r rc nu ao ca 3 0 v2 3 c2 (HN.out U hk1).1)
   have HT : Hid (∀ u, Gr U u → WtI3 W z 1 u) := fun u g => ⟨hk1.tr (g.mono fun _ _ h => h.elim), (g.block z (lt_of_heap hu) id).trans hu⟩
   have w0 := cell3V HI.out.2
   have w00 := w0.1
   have f0 := frz HI.out.2 0
   have hmeth := method_weight
   clear w0 hu hk1 HI hmk
   go_wp2_with (first
    | (go_at_call 156; refine HO.out.mono ?_; rintro e w2 ⟨rfl, g2⟩; have HT2 := hidM (HT.out w2 g2); have HG2 := hidM g2; obtain ⟨c7, c9, c12⟩ := cellF (HN.out w2 HT2.out.1).1.nd; clear g2)
    | (go_at_call 279; refine (weight310 _ _ _ _ _).mono ?_; rintro e w3 ⟨rfl, g3⟩; have HT3 := hidM (HT.out w3 (HG2.out.tr g3)); have w30 := (cell3V HT3.out.2).1; have f3 := frz HT3.out.2 0; have i3 := set_id (j := 0) (v := .int .i64 16) HT3.out.2 rfl; clear g3))
   go_roundw
   case rel => exact ⟨1, by omega, by go_num, HT3⟩
   case measure => simp [intOf]
  ·obtain ⟨c7, c9, c12⟩ := cellF (HN.out wr HI.out.1).1.nd
   obtain ⟨U, hU⟩ := ex (wr.setCell ⟨z, 1, none⟩ (.int .i64 16))
   have hu : U.heap[z]? = some (.cells (wtK3 2) 3) := by rw [← hU, heap_setCell_same wr z 1 _ _ _ HI.out.2]; rfl
   have hk1 : Keeps W U (fun b => b = z) := by rw [← hU]; exact HI.out.1.setCell (p := ⟨z, 1, none⟩) (fun _ => rfl) _
   have HO := hidM (isOff102 1 l U q r rc nu ao ca 3 0 v2 3 c2 (HN.out U hk1).1)
   have HT : Hid (∀ u, Gr U u → WtI3 W z 2 u) := fun u g => ⟨hk1.tr (g.mono fun _ _ h => h.elim), (g.block z (lt_of_heap hu) id).trans hu⟩
   have w0 := cell3V HI.out.2
   have w00 := w0.2.1
   have f0 := frz HI.out.2 1
   have hmeth := method_weight
   clear w0 hu hk1 HI hmk
   go_wp2_with (first
    | (go_at_call 156; refine HO.out.mono ?_; rintro e w2 ⟨rfl, g2⟩; have HT2 := hidM (HT.out w2 g2); have HG2 := hidM g2; obtain ⟨c7, c9, c12⟩ := cellF (HN.out w2 HT2.out.1).1.nd; clear g2)
    | (go_at_call 279; refine (weight310 _ _ _ _ _).mono ?_; rintro e w3 ⟨rfl, g3⟩; have HT3 := hidM (HT.out w3 (HG2.out.tr g3)); have w30 := (cell3V HT3.out.2).2.1; have f3 := frz HT3.out.2 1; have i3 := set_id (j := 1) (v := .int .i64 16) HT3.out.2 rfl; clear g3))
   go_roundw
   case rel => exact ⟨2, by omega, by go_num, HT3⟩
   case measure => simp [intOf]
  ·obtain ⟨c7, c9, c12⟩ := cellF (HN.out wr HI.out.1).1.nd
   obtain ⟨U, hU⟩ := ex (wr.setCell ⟨z, 2, none⟩ (.int .i64 16))
   have hu : U.heap[z]? = some (.cells (wtK3 3) 3) := by rw [← hU, heap_setCell_same wr z 2 _ _ _ HI.out.2]; rfl
   have hk1 : Keeps W U (fun b => b = z) := by rw [← hU]; exact HI.out.1.setCell (p := ⟨z, 2, none⟩) (fun _ => rfl) _
   have HO := hidM (isOff102 2 l U q r rc nu ao ca 3 0 v2 3 c2 (HN.out U hk1).1)
   have HT : Hid (∀ u, Gr U u → WtI3 W z 3 u) := fun u g => ⟨hk1.tr (g.mono fun _ _ h => h.elim), (g.block z (lt_of_heap hu) id).trans hu⟩
   have w0 := cell3V HI.out.2
   have w00 := w0.2.2
   have f0 := frz HI.out.2 2
   have hmeth := method_weight
   clear w0 hu hk1 HI hmk
   go_wp2_with (first
    | (go_at_call 156; refine HO.out.mono ?_; rintro e w2 ⟨rfl, g2⟩; have HT2 := hidM (HT.out w2 g2); have HG2 := hidM g2; obtain ⟨c7, c9, c12⟩ := cellF (HN.out w2 HT2.out.1).1.nd; clear g2)
    | (go_at_call 279; refine (weight310 _ _ _ _ _).mono ?_; rintro e w3 ⟨rfl, g3⟩; have HT3 := hidM (HT.out w3 (HG2.out.tr g3)); have w30 := (cell3V HT3.out.2).2.2; have f3 := frz HT3.out.2 2; have i3 := set_id (j := 2) (v := .int .i64 16) HT3.out.2 rfl; clear g3))
   go_roundw
   case rel => exact ⟨3, by omega, by go_num, HT3⟩
   case measure => simp [intOf]
  have HE : Hid (Gr W wr ∧ wr.cell? ⟨z, 0, none⟩ = some (.int .i64 16) ∧ wr.cell? ⟨z, 1, none⟩ = some (.int .i64 16) ∧ wr.cell? ⟨z, 2, none⟩ = some (.int .i64 16)) := ⟨HI.out.1.mono fun j hj (e : j = z) => by have := HZ.out; omega, cell3V HI.out.2⟩
  clear HI hmk
  go_wp2_with fail
  go_ret
  exact ⟨z, rfl, HE.out⟩
end Go.Proofs.YthhpamhfnpacpaaGreatDoor.Kit
