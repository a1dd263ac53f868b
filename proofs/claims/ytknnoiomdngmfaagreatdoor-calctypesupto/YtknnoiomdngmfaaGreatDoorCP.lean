import Derived.Test.YtknnoiomdngmfaaGreatDoorCN
set_option maxRecDepth 100000
set_option maxHeartbeats 4000000
namespace Go.Proofs.YtknnoiomdngmfaaGreatDoor.Kit
open Go.RowKit Go.Shelf Go.Deep
open Go.Proofs.YtknnoiomdngmfaaGreatDoor.Ink (OwnRow)
set_option linter.unusedVariables false
set_option linter.unusedSimpArgs false
attribute [local go_sem] run_store_func
theorem load284_0 (g n c : Nat) (W : World) (hn0 : 2 ≤ n) (hn : n ≤ 100000) (hc : n ≤ c) (h0 : W.cell? ⟨g, 0, none⟩ = some (.int .u8 3)) (h1 : W.cell? ⟨g, 1, none⟩ = some (.int .u8 4)) : Calls Tryz.prog 464 #[.agg #[.slice (some ⟨g, 0, none⟩) n c, .int .i64 0, .pointer none], .int .i64 0, .int .i64 1] W fun e w' => e = .returned (.tuple #[.int .u64 3, .int .i64 0]) ∧ Gr W w' := by
  obtain ⟨A, hA⟩ := ex (W.alloc (.cells #[.slice (some ⟨g, 0, none⟩) n c, .int .i64 0, .pointer none] 311))
  have gA := gr_al hA
  have hb : A.heap[W.heap.size]? = some (.cells #[.slice (some ⟨g, 0, none⟩) n c, .int .i64 0, .pointer none] 311) := by rw [← hA]; exact heap_alloc_new W _
  obtain ⟨e0, e1, e2⟩ := cell3V hb
  have HG := hidM gA
  have HC := hidM (read136 g n c 0 1 A (by omega) hn hc (by omega))
  have H0 := hidM h0
  have H1 := hidM h1
  clear gA hb h0 h1
  go_enter Tryz.func464, Tryz.ntmps464
  go_wp2_with (first
    | (go_at_call 367; refine (isWidth185 _).mono ?_; rintro e w1 ⟨rfl, rfl⟩)
    | (go_at_call 318; refine HC.out.mono ?_; rintro e w2 ⟨rfl, g2⟩; have HG2 := hidM (HG.out.tr g2); have HL := hidM (lowest285_0 g (c - 0) w2 (HG2.out.cell' H0.out id)); clear g2)
    | (go_at_call 465; refine HL.out.mono ?_; rintro e w3 ⟨rfl, rfl⟩))
  go_ret2
  exact ⟨rfl, HG2.out⟩
theorem signed283_0 (g n c : Nat) (W : World) (hn0 : 2 ≤ n) (hn : n ≤ 100000) (hc : n ≤ c) (h0 : W.cell? ⟨g, 0, none⟩ = some (.int .u8 3)) (h1 : W.cell? ⟨g, 1, none⟩ = some (.int .u8 4)) : Calls Tryz.prog 463 #[.agg #[.slice (some ⟨g, 0, none⟩) n c, .int .i64 0, .pointer none], .int .i64 0, .int .i64 1] W fun e w' => e = .returned (.tuple #[.int .i64 3, .int .i64 0]) ∧ Gr W w' := by
  obtain ⟨A, hA⟩ := ex (W.alloc (.cells #[.slice (some ⟨g, 0, none⟩) n c, .int .i64 0, .pointer none] 311))
  have gA := gr_al hA
  have hb : A.heap[W.heap.size]? = some (.cells #[.slice (some ⟨g, 0, none⟩) n c, .int .i64 0, .pointer none] 311) := by rw [← hA]; exact heap_alloc_new W _
  obtain ⟨e0, e1, e2⟩ := cell3V hb
  have HG := hidM gA
  have HC := hidM (load284_0 g n c A hn0 hn hc (gA.cell' h0 id) (gA.cell' h1 id))
  clear gA hb h0 h1
  go_enter Tryz.func463, Tryz.ntmps463
  go_wp2_with (go_at_call 464; refine HC.out.mono ?_; rintro e w2 ⟨rfl, g2⟩; have HG2 := hidM (HG.out.tr g2); clear g2)
  go_ret2
  exact ⟨by kernel_rfl, HG2.out⟩
theorem number311_0 (l : Nat) (W : World) (q r rc : Nat) (nu : Bool) (ao : Option Addr) (ca L N : Nat) (v2 n2 c2 : Nat) (h : NdA W q r rc nu ao ca L N v2 n2 c2) (hl : W.cell? ⟨l, 0, none⟩ = some (.pointer none)) (hn0 : 2 ≤ n2) (hn : n2 ≤ 100000) (hc : n2 ≤ c2) (h0 : W.cell? ⟨v2, 0, none⟩ = some (.int .u8 3)) (h1 : W.cell? ⟨v2, 1, none⟩ = some (.int .u8 4)) : Calls Tryz.prog 491 #[.agg #[.int .i64 1, .bool true], .pointer (some ⟨l, 0, none⟩), .pointer (some ⟨q, 0, none⟩), .int .i64 0] W fun e w' => e = .returned (.int .i64 3) ∧ Gr W w' := by
  obtain ⟨A, hA⟩ := ex (W.alloc (.cells #[.int .i64 1, .bool true] 302))
  have gA := gr_al hA
  have hb : A.heap[W.heap.size]? = some (.cells #[.int .i64 1, .bool true] 302) := by rw [← hA]; exact heap_alloc_new W _
  have HC := hidM (buffer128_1 l A q r rc nu ao ca L N v2 n2 c2 (h.gr gA) (gA.cell' hl id))
  have HT : Hid (∀ w1, Gr A w1 → Calls Tryz.prog 463 #[.agg #[.slice (some ⟨v2, 0, none⟩) n2 c2, .int .i64 0, .pointer none], .int .i64 0, .int .i64 1] (w1.alloc (.cells #[.slice (some ⟨v2, 0, none⟩) n2 c2, .int .i64 0, .pointer none] 311)) (fun e w' => e = .returned (.tuple #[.int .i64 3, .int .i64 0]) ∧ Gr (w1.alloc (.cells #[.slice (some ⟨v2, 0, none⟩) n2 c2, .int .i64 0, .pointer none] 311)) w') ∧ (w1.alloc (.cells #[.slice (some ⟨v2, 0, none⟩) n2 c2, .int .i64 0, .pointer none] 311)).heap[w1.heap.size]? = some (.cells #[.slice (some ⟨v2, 0, none⟩) n2 c2, .int .i64 0, .pointer none] 311) ∧ Gr W (w1.alloc (.cells #[.slice (some ⟨v2, 0, none⟩) n2 c2, .int .i64 0, .pointer none] 311)) ∧ (w1.alloc (.cells #[.slice (some ⟨v2, 0, none⟩) n2 c2, .int .i64 0, .pointer none] 311)).heap[W.heap.size]? = some (.cells #[.int .i64 1, .bool true] 302)) := fun w1 g1 => by
    have g2 : Gr A (w1.alloc (.cells #[.slice (some ⟨v2, 0, none⟩) n2 c2, .int .i64 0, .pointer none] 311)) := g1.alloc _
    have g3 := gA.tr g2
    exact ⟨signed283_0 v2 n2 c2 _ hn0 hn hc (g3.cell' h0 id) (g3.cell' h1 id), heap_alloc_new _ _, g3, (g2.block _ (lt_of_heap hb) id).trans hb⟩
  clear gA hb h hl h0 h1
  go_enter Tryz.func491, Tryz.ntmps491
  go_wp2_with (first
    | (go_at_call 308; refine HC.out.mono ?_; rintro e w1 ⟨rfl, g1⟩; obtain ⟨hc9, hv9, hg9, hf9⟩ := HT.out w1 g1; clear g1 hA; obtain ⟨V, hV⟩ := ex (w1.alloc (.cells #[.slice (some ⟨v2, 0, none⟩) n2 c2, .int .i64 0, .pointer none] 311)); rw [hV] at hc9 hv9 hg9 hf9; obtain ⟨y0, y1, y2⟩ := cell3V hv9; obtain ⟨f0, f1⟩ := cell2 hf9; have z1 := frz hv9 1; have z2 := frz hv9 2; have s1 := set_id (j := 1) (v := .int .i64 0) hv9 rfl; have s2 := set_id (j := 2) (v := .pointer none) hv9 rfl; have HC9 := hidM hc9; have HG9 := hidM hg9; clear hc9 hv9 hg9 hf9)
    | (go_at_call 463; refine HC9.out.mono ?_; rintro e w3 ⟨rfl, g3⟩; have HG3 := hidM (HG9.out.tr g3); clear g3))
  go_ret
  exact ⟨rfl, HG3.out⟩
theorem load284_1 (g n c : Nat) (W : World) (hn0 : 2 ≤ n) (hn : n ≤ 100000) (hc : n ≤ c) (h0 : W.cell? ⟨g, 0, none⟩ = some (.int .u8 3)) (h1 : W.cell? ⟨g, 1, none⟩ = some (.int .u8 4)) : Calls Tryz.prog 464 #[.agg #[.slice (some ⟨g, 0, none⟩) n c, .int .i64 0, .pointer none], .int .i64 1, .int .i64 1] W fun e w' => e = .returned (.tuple #[.int .u64 4, .int .i64 0]) ∧ Gr W w' := by
  obtain ⟨A, hA⟩ := ex (W.alloc (.cells #[.slice (some ⟨g, 0, none⟩) n c, .int .i64 0, .pointer none] 311))
  have gA := gr_al hA
  have hb : A.heap[W.heap.size]? = some (.cells #[.slice (some ⟨g, 0, none⟩) n c, .int .i64 0, .pointer none] 311) := by rw [← hA]; exact heap_alloc_new W _
  obtain ⟨e0, e1, e2⟩ := cell3V hb
  have HG := hidM gA
  have HC := hidM (read136 g n c 1 1 A (by omega) hn hc (by omega))
  have H0 := hidM h0
  have H1 := hidM h1
  clear gA hb h0 h1
  go_enter Tryz.func464, Tryz.ntmps464
  go_wp2_with (first
    | (go_at_call 367; refine (isWidth185 _).mono ?_; rintro e w1 ⟨rfl, rfl⟩)
    | (go_at_call 318; refine HC.out.mono ?_; rintro e w2 ⟨rfl, g2⟩; have HG2 := hidM (HG.out.tr g2); have HL := hidM (lowest285_1 g (c - 1) w2 (HG2.out.cell' H1.out id)); clear g2)
    | (go_at_call 465; refine HL.out.mono ?_; rintro e w3 ⟨rfl, rfl⟩))
  go_ret2
  exact ⟨rfl, HG2.out⟩
theorem signed283_1 (g n c : Nat) (W : World) (hn0 : 2 ≤ n) (hn : n ≤ 100000) (hc : n ≤ c) (h0 : W.cell? ⟨g, 0, none⟩ = some (.int .u8 3)) (h1 : W.cell? ⟨g, 1, none⟩ = some (.int .u8 4)) : Calls Tryz.prog 463 #[.agg #[.slice (some ⟨g, 0, none⟩) n c, .int .i64 0, .pointer none], .int .i64 1, .int .i64 1] W fun e w' => e = .returned (.tuple #[.int .i64 4, .int .i64 0]) ∧ Gr W w' := by
  obtain ⟨A, hA⟩ := ex (W.alloc (.cells #[.slice (some ⟨g, 0, none⟩) n c, .int .i64 0, .pointer none] 311))
  have gA := gr_al hA
  have hb : A.heap[W.heap.size]? = some (.cells #[.slice (some ⟨g, 0, none⟩) n c, .int .i64 0, .pointer none] 311) := by rw [← hA]; exact heap_alloc_new W _
  obtain ⟨e0, e1, e2⟩ := cell3V hb
  have HG := hidM gA
  have HC := hidM (load284_1 g n c A hn0 hn hc (gA.cell' h0 id) (gA.cell' h1 id))
  clear gA hb h0 h1
  go_enter Tryz.func463, Tryz.ntmps463
  go_wp2_with (go_at_call 464; refine HC.out.mono ?_; rintro e w2 ⟨rfl, g2⟩; have HG2 := hidM (HG.out.tr g2); clear g2)
  go_ret2
  exact ⟨by kernel_rfl, HG2.out⟩
theorem number311_1 (l : Nat) (W : World) (q r rc : Nat) (nu : Bool) (ao : Option Addr) (ca L N : Nat) (v2 n2 c2 : Nat) (h : NdA W q r rc nu ao ca L N v2 n2 c2) (hl : W.cell? ⟨l, 0, none⟩ = some (.pointer none)) (hn0 : 2 ≤ n2) (hn : n2 ≤ 100000) (hc : n2 ≤ c2) (h0 : W.cell? ⟨v2, 0, none⟩ = some (.int .u8 3)) (h1 : W.cell? ⟨v2, 1, none⟩ = some (.int .u8 4)) : Calls Tryz.prog 491 #[.agg #[.int .i64 1, .bool true], .pointer (some ⟨l, 0, none⟩), .pointer (some ⟨q, 0, none⟩), .int .i64 1] W fun e w' => e = .returned (.int .i64 4) ∧ Gr W w' := by
  obtain ⟨A, hA⟩ := ex (W.alloc (.cells #[.int .i64 1, .bool true] 302))
  have gA := gr_al hA
  have hb : A.heap[W.heap.size]? = some (.cells #[.int .i64 1, .bool true] 302) := by rw [← hA]; exact heap_alloc_new W _
  have HC := hidM (buffer128_1 l A q r rc nu ao ca L N v2 n2 c2 (h.gr gA) (gA.cell' hl id))
  have HT : Hid (∀ w1, Gr A w1 → Calls Tryz.prog 463 #[.agg #[.slice (some ⟨v2, 0, none⟩) n2 c2, .int .i64 0, .pointer none], .int .i64 1, .int .i64 1] (w1.alloc (.cells #[.slice (some ⟨v2, 0, none⟩) n2 c2, .int .i64 0, .pointer none] 311)) (fun e w' => e = .returned (.tuple #[.int .i64 4, .int .i64 0]) ∧ Gr (w1.alloc (.cells #[.slice (some ⟨v2, 0, none⟩) n2 c2, .int .i64 0, .pointer none] 311)) w') ∧ (w1.alloc (.cells #[.slice (some ⟨v2, 0, none⟩) n2 c2, .int .i64 0, .pointer none] 311)).heap[w1.heap.size]? = some (.cells #[.slice (some ⟨v2, 0, none⟩) n2 c2, .int .i64 0, .pointer none] 311) ∧ Gr W (w1.alloc (.cells #[.slice (some ⟨v2, 0, none⟩) n2 c2, .int .i64 0, .pointer none] 311)) ∧ (w1.alloc (.cells #[.slice (some ⟨v2, 0, none⟩) n2 c2, .int .i64 0, .pointer none] 311)).heap[W.heap.size]? = some (.cells #[.int .i64 1, .bool true] 302)) := fun w1 g1 => by
    have g2 : Gr A (w1.alloc (.cells #[.slice (some ⟨v2, 0, none⟩) n2 c2, .int .i64 0, .pointer none] 311)) := g1.alloc _
    have g3 := gA.tr g2
    exact ⟨signed283_1 v2 n2 c2 _ hn0 hn hc (g3.cell' h0 id) (g3.cell' h1 id), heap_alloc_new _ _, g3, (g2.block _ (lt_of_heap hb) id).trans hb⟩
  clear gA hb h hl h0 h1
  go_enter Tryz.func491, Tryz.ntmps491
  go_wp2_with (first
    | (go_at_call 308; refine HC.out.mono ?_; rintro e w1 ⟨rfl, g1⟩; obtain ⟨hc9, hv9, hg9, hf9⟩ := HT.out w1 g1; clear g1 hA; obtain ⟨V, hV⟩ := ex (w1.alloc (.cells #[.slice (some ⟨v2, 0, none⟩) n2 c2, .int .i64 0, .pointer none] 311)); rw [hV] at hc9 hv9 hg9 hf9; obtain ⟨y0, y1, y2⟩ := cell3V hv9; obtain ⟨f0, f1⟩ := cell2 hf9; have z1 := frz hv9 1; have z2 := frz hv9 2; have s1 := set_id (j := 1) (v := .int .i64 0) hv9 rfl; have s2 := set_id (j := 2) (v := .pointer none) hv9 rfl; have HC9 := hidM hc9; have HG9 := hidM hg9; clear hc9 hv9 hg9 hf9)
    | (go_at_call 463; refine HC9.out.mono ?_; rintro e w3 ⟨rfl, g3⟩; have HG3 := hidM (HG9.out.tr g3); clear g3))
  go_ret
  exact ⟨rfl, HG3.out⟩
def vlU (w : World) (b : Nat) (vn : Bool) (x : Int) : World := setAll w b [(0, .bool vn), (1, .int .i64 x), (2, .string ⟨#[]⟩), (3, .slice none 0 0)]
theorem vl_blk {w : World} {b : Nat} {vn : Bool} {x : Int} {a0 a1 a2 a3 : Value} (h : w.heap[b]? = some (.cells #[a0, a1, a2, a3] 98)) : (vlU w b vn x).heap[b]? = some (.cells #[.bool vn, .int .i64 x, .string ⟨#[]⟩, .slice none 0 0] 98) := by
  unfold vlU
  rw [setAll_blk b 98 _ _ _ h]
  simp [setsA]
theorem vl_kp (w : World) (b : Nat) (vn : Bool) (x : Int) : Keeps w (vlU w b vn x) (fun z => z = b) := setAll_kp _ _ _
theorem results_cell37 {fn : Func} {t : Tmp} {tmps : Array Value} {g : Nat} {cs : Array Value} {w : World} (h : fn.results = #[.cell t 98]) (ht : tmps.getD t undef = .pointer (some ⟨g, 0, none⟩)) (hg : w.heap[g]? = some (.cells cs 98 (0, 0))) (hi : (Tryz.prog.info? 98).map (·.size) = some cs.size) :
    (results fn tmps).run Tryz.prog w = .ok (.agg cs) w := by
  have hl := run_loadVar_row (P := Tryz.prog) w g 98 98 cs (0, 0) _ hg Tryz.underlying98 rfl hi
  unfold results
  rw [h]
  simp only [Array.mapM_eq_mapM_toList, List.mapM_cons, List.mapM_nil, ht]
  simp [asAddr, hl]
def Rd1 (W w' : World) (l left : Nat) : Prop := Keeps W w' (fun z => z = l) ∧ w'.heap[l]? = some (.cells #[.pointer none, .int .i64 ((left - 16 : Nat) : Int)] 166)
theorem read309_0 (l left : Nat) (W : World) (q r rc : Nat) (nu : Bool) (ao : Option Addr) (ca L N : Nat) (v2 n2 c2 : Nat) (h : NdA W q r rc nu ao ca L N v2 n2 c2) (hl : W.heap[l]? = some (.cells #[.pointer none, .int .i64 left] 166)) (hlq : q ≠ l) (hlr : r ≠ l) (hlv : v2 ≠ l) (h16 : 16 ≤ left) (hle : left ≤ 4194304) (hn0 : 2 ≤ n2) (hn : n2 ≤ 100000) (hc : n2 ≤ c2) (h0 : W.cell? ⟨v2, 0, none⟩ = some (.int .u8 3)) (h1 : W.cell? ⟨v2, 1, none⟩ = some (.int .u8 4)) : Calls Tryz.prog 489 #[.agg #[.int .i64 1, .bool true], .pointer (some ⟨l, 0, none⟩), .pointer (some ⟨q, 0, none⟩), .int .i64 0] W fun e w' => e = .returned (.agg #[.bool false, .int .i64 3, .string ⟨#[]⟩, .slice none 0 0]) ∧ Rd1 W w' l left := by
  obtain ⟨A0, hA0⟩ := ex (W.alloc (.cells #[.int .i64 1, .bool true] 302))
  have g0 := gr_al hA0
  have hb0 := al_new hA0
  have hs0 : A0.heap.size = W.heap.size + 1 := by rw [← hA0]; simp
  obtain ⟨A, hA⟩ := ex (A0.alloc (.cells #[.bool false, .int .i64 0, .string ⟨#[]⟩, .slice none 0 0] 98))
  have g1 := gr_al hA
  have hbr : A.heap[A0.heap.size]? = some (.cells #[.bool false, .int .i64 0, .string ⟨#[]⟩, .slice none 0 0] 98) := by rw [← hA]; exact heap_alloc_new A0 _
  have hbf := (g1.block _ (lt_of_heap hb0) id).trans hb0
  have gA : Gr W A := g0.tr g1
  have hlA := (gA.block _ (lt_of_heap hl) id).trans hl
  have hll := lt_of_heap hl
  have HC := hidM (take104 l left A hlA h16 hle)
  have HT : Hid (∀ w2, Keeps A w2 (fun z => z = l) → w2.heap[l]? = some (.cells #[.pointer none, .int .i64 ((left - 16 : Nat) : Int)] 166) → (w2.cell? ⟨W.heap.size, 0, none⟩ = some (.int .i64 1) ∧ w2.cell? ⟨W.heap.size, 1, none⟩ = some (.bool true)) ∧ Calls Tryz.prog 491 #[.agg #[.int .i64 1, .bool true], .pointer (some ⟨l, 0, none⟩), .pointer (some ⟨q, 0, none⟩), .int .i64 0] w2 (fun e w' => e = .returned (.int .i64 3) ∧ Gr w2 w') ∧ ∀ w3, Gr w2 w3 → w3.heap[A0.heap.size]? = some (.cells #[.bool false, .int .i64 0, .string ⟨#[]⟩, .slice none 0 0] 98) ∧ (vlU w3 A0.heap.size false 3).heap[A0.heap.size]? = some (.cells #[.bool false, .int .i64 3, .string ⟨#[]⟩, .slice none 0 0] 98) ∧ Rd1 W (vlU w3 A0.heap.size false 3) l left) := fun w2 k2 hl2 => by
    refine ⟨cell2 ((k2.block _ (lt_of_heap hbf) (fun e => by have e' : W.heap.size = l := e; omega)).trans hbf), ?_, fun w3 g3 => ?_⟩
    · exact number311_0 l w2 q r rc nu ao ca L N v2 n2 c2 ((h.gr gA).kp k2 hlq hlr) (cell2 hl2).1 hn0 hn hc (k2.cell' (gA.cell' h0 id) hlv) (k2.cell' (gA.cell' h1 id) hlv)
    have hr3 : w3.heap[A0.heap.size]? = some (.cells #[.bool false, .int .i64 0, .string ⟨#[]⟩, .slice none 0 0] 98) := (g3.block _ (Nat.lt_of_lt_of_le (lt_of_heap hbr) k2.size) id).trans ((k2.block _ (lt_of_heap hbr) (fun e => by have e' : A0.heap.size = l := e; omega)).trans hbr)
    refine ⟨hr3, vl_blk hr3, ?_, ?_⟩
    · exact (((gA.mono fun _ _ h => h.elim).tr k2).tr (g3.mono fun _ _ h => h.elim)).trans (vl_kp _ _ _ _) (fun j hj (e : j = A0.heap.size) => by omega)
    exact ((vl_kp _ _ _ _).block l (Nat.lt_of_lt_of_le (lt_of_heap hl2) g3.size) (fun e => by have e' : l = A0.heap.size := e; omega)).trans ((g3.block l (lt_of_heap hl2) id).trans hl2)
  clear g0 hb0 hs0 g1 hbr hbf gA hlA hll h hl h0 h1
  go_enter Tryz.func489, Tryz.ntmps489
  go_wp2_with (first
    | (go_at_call 264; refine HC.out.mono ?_; rintro e w2 ⟨rfl, k2, hl2⟩; obtain ⟨⟨f0, f1⟩, hc9, ht9⟩ := HT.out w2 k2 hl2; have HC9 := hidM hc9; have HT9 := hidM ht9; clear hc9 ht9 k2 hl2 hA hA0)
    | (go_at_call 491; refine HC9.out.mono ?_; rintro e w3 ⟨rfl, g3⟩; obtain ⟨hr3, hu3, hq3⟩ := HT9.out w3 g3; obtain ⟨U, hU⟩ := ex (vlU w3 A0.heap.size false 3); rw [hU] at hu3 hq3; simp only [vlU, setAll] at hU; obtain ⟨y0, y1, y2, y3⟩ := cell4 hr3; have x0 := frz hr3 0; have x1 := frz hr3 1; have x2 := frz hr3 2; have x3 := frz hr3 3; have HU3 := hidM hu3; have HQ3 := hidM hq3; clear g3 hr3 hu3 hq3))
  (try simp only [Exit.inBlock, Exit.then])
  refine bodyPost_ret (results_cell37 rfl rfl (by with_reducible exact HU3.out) (by kernel_rfl)) rfl ?_
  exact ⟨rfl, HQ3.out⟩
theorem read309_1 (l left : Nat) (W : World) (q r rc : Nat) (nu : Bool) (ao : Option Addr) (ca L N : Nat) (v2 n2 c2 : Nat) (h : NdA W q r rc nu ao ca L N v2 n2 c2) (hl : W.heap[l]? = some (.cells #[.pointer none, .int .i64 left] 166)) (hlq : q ≠ l) (hlr : r ≠ l) (hlv : v2 ≠ l) (h16 : 16 ≤ left) (hle : left ≤ 4194304) (hn0 : 2 ≤ n2) (hn : n2 ≤ 100000) (hc : n2 ≤ c2) (h0 : W.cell? ⟨v2, 0, none⟩ = some (.int .u8 3)) (h1 : W.cell? ⟨v2, 1, none⟩ = some (.int .u8 4)) : Calls Tryz.prog 489 #[.agg #[.int .i64 1, .bool true], .pointer (some ⟨l, 0, none⟩), .pointer (some ⟨q, 0, none⟩), .int .i64 1] W fun e w' => e = .returned (.agg #[.bool false, .int .i64 4, .string ⟨#[]⟩, .slice none 0 0]) ∧ Rd1 W w' l left := by
  obtain ⟨A0, hA0⟩ := ex (W.alloc (.cells #[.int .i64 1, .bool true] 302))
  have g0 := gr_al hA0
  have hb0 := al_new hA0
  have hs0 : A0.heap.size = W.heap.size + 1 := by rw [← hA0]; simp
  obtain ⟨A, hA⟩ := ex (A0.alloc (.cells #[.bool false, .int .i64 0, .string ⟨#[]⟩, .slice none 0 0] 98))
  have g1 := gr_al hA
  have hbr : A.heap[A0.heap.size]? = some (.cells #[.bool false, .int .i64 0, .string ⟨#[]⟩, .slice none 0 0] 98) := by rw [← hA]; exact heap_alloc_new A0 _
  have hbf := (g1.block _ (lt_of_heap hb0) id).trans hb0
  have gA : Gr W A := g0.tr g1
  have hlA := (gA.block _ (lt_of_heap hl) id).trans hl
  have hll := lt_of_heap hl
  have HC := hidM (take104 l left A hlA h16 hle)
  have HT : Hid (∀ w2, Keeps A w2 (fun z => z = l) → w2.heap[l]? = some (.cells #[.pointer none, .int .i64 ((left - 16 : Nat) : Int)] 166) → (w2.cell? ⟨W.heap.size, 0, none⟩ = some (.int .i64 1) ∧ w2.cell? ⟨W.heap.size, 1, none⟩ = some (.bool true)) ∧ Calls Tryz.prog 491 #[.agg #[.int .i64 1, .bool true], .pointer (some ⟨l, 0, none⟩), .pointer (some ⟨q, 0, none⟩), .int .i64 1] w2 (fun e w' => e = .returned (.int .i64 4) ∧ Gr w2 w') ∧ ∀ w3, Gr w2 w3 → w3.heap[A0.heap.size]? = some (.cells #[.bool false, .int .i64 0, .string ⟨#[]⟩, .slice none 0 0] 98) ∧ (vlU w3 A0.heap.size false 4).heap[A0.heap.size]? = some (.cells #[.bool false, .int .i64 4, .string ⟨#[]⟩, .slice none 0 0] 98) ∧ Rd1 W (vlU w3 A0.heap.size false 4) l left) := fun w2 k2 hl2 => by
    refine ⟨cell2 ((k2.block _ (lt_of_heap hbf) (fun e => by have e' : W.heap.size = l := e; omega)).trans hbf), ?_, fun w3 g3 => ?_⟩
    · exact number311_1 l w2 q r rc nu ao ca L N v2 n2 c2 ((h.gr gA).kp k2 hlq hlr) (cell2 hl2).1 hn0 hn hc (k2.cell' (gA.cell' h0 id) hlv) (k2.cell' (gA.cell' h1 id) hlv)
    have hr3 : w3.heap[A0.heap.size]? = some (.cells #[.bool false, .int .i64 0, .string ⟨#[]⟩, .slice none 0 0] 98) := (g3.block _ (Nat.lt_of_lt_of_le (lt_of_heap hbr) k2.size) id).trans ((k2.block _ (lt_of_heap hbr) (fun e => by have e' : A0.heap.size = l := e; omega)).trans hbr)
    refine ⟨hr3, vl_blk hr3, ?_, ?_⟩
    · exact (((gA.mono fun _ _ h => h.elim).tr k2).tr (g3.mono fun _ _ h => h.elim)).trans (vl_kp _ _ _ _) (fun j hj (e : j = A0.heap.size) => by omega)
    exact ((vl_kp _ _ _ _).block l (Nat.lt_of_lt_of_le (lt_of_heap hl2) g3.size) (fun e => by have e' : l = A0.heap.size := e; omega)).trans ((g3.block l (lt_of_heap hl2) id).trans hl2)
  clear g0 hb0 hs0 g1 hbr hbf gA hlA hll h hl h0 h1
  go_enter Tryz.func489, Tryz.ntmps489
  go_wp2_with (first
    | (go_at_call 264; refine HC.out.mono ?_; rintro e w2 ⟨rfl, k2, hl2⟩; obtain ⟨⟨f0, f1⟩, hc9, ht9⟩ := HT.out w2 k2 hl2; have HC9 := hidM hc9; have HT9 := hidM ht9; clear hc9 ht9 k2 hl2 hA hA0)
    | (go_at_call 491; refine HC9.out.mono ?_; rintro e w3 ⟨rfl, g3⟩; obtain ⟨hr3, hu3, hq3⟩ := HT9.out w3 g3; obtain ⟨U, hU⟩ := ex (vlU w3 A0.heap.size false 4); rw [hU] at hu3 hq3; simp only [vlU, setAll] at hU; obtain ⟨y0, y1, y2, y3⟩ := cell4 hr3; have x0 := frz hr3 0; have x1 := frz hr3 1; have x2 := frz hr3 2; have x3 := frz hr3 3; have HU3 := hidM hu3; have HQ3 := hidM hq3; clear g3 hr3 hu3 hq3))
  (try simp only [Exit.inBlock, Exit.then])
  refine bodyPost_ret (results_cell37 rfl rfl (by with_reducible exact HU3.out) (by kernel_rfl)) rfl ?_
  exact ⟨rfl, HQ3.out⟩
theorem method_read (w : World) : (method 578 302 (.agg #[.int .i64 1, .bool true]) "colonnade/array.read").run Tryz.prog w = .ok (489, .agg #[.int .i64 1, .bool true]) w := by kernel_rfl
theorem method_weight (w : World) : (method 578 302 (.agg #[.int .i64 1, .bool true]) "colonnade/array.weight").run Tryz.prog w = .ok (490, .agg #[.int .i64 1, .bool true]) w := by kernel_rfl
theorem method_needs (w : World) : (method 578 302 (.agg #[.int .i64 1, .bool true]) "colonnade/array.needs").run Tryz.prog w = .ok (488, .agg #[.int .i64 1, .bool true]) w := by kernel_rfl
theorem method_wrong (w : World) : (method 578 302 (.agg #[.int .i64 1, .bool true]) "colonnade/array.wrong").run Tryz.prog w = .ok (446, .agg #[]) w := by kernel_rfl
theorem method_wrongBehind (w : World) : (method 578 302 (.agg #[.int .i64 1, .bool true]) "colonnade/array.wrongBehind").run Tryz.prog w = .ok (447, .agg #[]) w := by kernel_rfl
theorem cellF {W : World} {q : Nat} {nu : Bool} {ao : Option Addr} {ca : Nat} {L N : Int} {bv : Value} (h : W.heap[q]? = some (.cells (ndC nu ao ca L N bv) 120)) : W.cell? ⟨q, 7, none⟩ = some (.iface 302 (.agg #[.int .i64 1, .bool true])) ∧ W.cell? ⟨q, 9, none⟩ = some (.int .i64 0) ∧ W.cell? ⟨q, 12, none⟩ = some (.slice none 0 0) := by
  refine ⟨?_, ?_, ?_⟩ <;> simp [World.cell?, h, ndC]
theorem rd_store {W A w2 w3 : World} {l left : Nat} (vn : Bool) (x : Int) (hA : A = W.alloc (.cells #[.bool false, .int .i64 0, .string ⟨#[]⟩, .slice none 0 0] 98)) (g2 : Gr A w2) (k3 : Rd1 w2 w3 l left) (hl : l < W.heap.size) : w3.heap[W.heap.size]? = some (.cells #[.bool false, .int .i64 0, .string ⟨#[]⟩, .slice none 0 0] 98) ∧ (vlU w3 W.heap.size vn x).heap[W.heap.size]? = some (.cells #[.bool vn, .int .i64 x, .string ⟨#[]⟩, .slice none 0 0] 98) ∧ Rd1 W (vlU w3 W.heap.size vn x) l left := by
  have gA : Gr W A := by rw [hA]; exact gr_alloc W _
  have hb : A.heap[W.heap.size]? = some (.cells #[.bool false, .int .i64 0, .string ⟨#[]⟩, .slice none 0 0] 98) := by rw [hA]; exact heap_alloc_new W _
  have hb2 := (g2.block _ (lt_of_heap hb) id).trans hb
  have hb3 := (k3.1.block _ (lt_of_heap hb2) (fun e => by have e' : W.heap.size = l := e; omega)).trans hb2
  refine ⟨hb3, vl_blk hb3, ?_, ?_⟩
  · exact (((gA.tr g2).mono fun _ _ h => h.elim).tr k3.1).trans (vl_kp _ _ _ _) (fun j hj (e : j = W.heap.size) => by omega)
  exact ((vl_kp _ _ _ _).block l (lt_of_heap k3.2) (fun e => by have e' : l = W.heap.size := e; omega)).trans k3.2
theorem value75_0 (l left : Nat) (W : World) (q r rc : Nat) (nu : Bool) (ao : Option Addr) (ca L N : Nat) (v2 n2 c2 : Nat) (h : NdA W q r rc nu ao ca L N v2 n2 c2) (hl : W.heap[l]? = some (.cells #[.pointer none, .int .i64 left] 166)) (hlq : q ≠ l) (hlr : r ≠ l) (hlv : v2 ≠ l) (h16 : 16 ≤ left) (hle : left ≤ 4194304) (hn0 : 2 ≤ n2) (hn : n2 ≤ 100000) (hc : n2 ≤ c2) (h0 : W.cell? ⟨v2, 0, none⟩ = some (.int .u8 3)) (h1 : W.cell? ⟨v2, 1, none⟩ = some (.int .u8 4)) : Calls Tryz.prog 181 #[.pointer (some ⟨l, 0, none⟩), .pointer (some ⟨q, 0, none⟩), .int .i64 0] W fun e w' => e = .returned (.agg #[.bool false, .int .i64 3, .string ⟨#[]⟩, .slice none 0 0]) ∧ Rd1 W w' l left := by
  obtain ⟨A, hA⟩ := ex (W.alloc (.cells #[.bool false, .int .i64 0, .string ⟨#[]⟩, .slice none 0 0] 98))
  have gA := gr_al hA
  have HI := hidM (isOff102 0 l A q r rc nu ao ca L N v2 n2 c2 (h.gr gA))
  have HR : Hid (∀ w2, Gr A w2 → Calls Tryz.prog 489 #[.agg #[.int .i64 1, .bool true], .pointer (some ⟨l, 0, none⟩), .pointer (some ⟨q, 0, none⟩), .int .i64 0] w2 fun e w' => e = .returned (.agg #[.bool false, .int .i64 3, .string ⟨#[]⟩, .slice none 0 0]) ∧ Rd1 w2 w' l left) := fun w2 g2 => by
    have g := gA.tr g2
    exact read309_0 l left w2 q r rc nu ao ca L N v2 n2 c2 (h.gr g) ((g.block _ (lt_of_heap hl) id).trans hl) hlq hlr hlv h16 hle hn0 hn hc (g.cell' h0 id) (g.cell' h1 id)
  have HT : Hid (∀ w2 w3, Gr A w2 → Rd1 w2 w3 l left → w3.heap[W.heap.size]? = some (.cells #[.bool false, .int .i64 0, .string ⟨#[]⟩, .slice none 0 0] 98) ∧ (vlU w3 W.heap.size false 3).heap[W.heap.size]? = some (.cells #[.bool false, .int .i64 3, .string ⟨#[]⟩, .slice none 0 0] 98) ∧ Rd1 W (vlU w3 W.heap.size false 3) l left) := fun w2 w3 g2 k3 => rd_store _ _ hA.symm g2 k3 (lt_of_heap hl)
  obtain ⟨c7, c9, c12⟩ := cellF (h.gr gA).nd
  have HN := hidM (h.gr gA)
  have hmeth := method_read
  clear gA h hl h0 h1
  go_enter Tryz.func181, Tryz.ntmps181
  go_wp2_with (first
    | (go_at_call 262; refine HI.out.mono ?_; rintro e w2 ⟨rfl, g2⟩; clear hA c7 c9 c12; obtain ⟨c7, c9, c12⟩ := cellF (HN.out.gr g2).nd)
    | (go_at_call 489; refine (HR.out w2 g2).mono ?_; rintro e w3 ⟨rfl, k3⟩; obtain ⟨hr3, hu3, hq3⟩ := HT.out w2 w3 g2 k3; obtain ⟨U, hU⟩ := ex (vlU w3 W.heap.size false 3); rw [hU] at hu3 hq3; simp only [vlU, setAll] at hU; obtain ⟨y0, y1, y2, y3⟩ := cell4 hr3; have x0 := frz hr3 0; have x1 := frz hr3 1; have x2 := frz hr3 2; have x3 := frz hr3 3; have HU3 := hidM hu3; have HQ3 := hidM hq3; clear hr3 hu3 hq3 k3))
  (try simp only [Exit.inBlock, Exit.then])
  refine bodyPost_ret (results_cell37 rfl rfl (by with_reducible exact HU3.out) (by kernel_rfl)) rfl ?_
  exact ⟨rfl, HQ3.out⟩
theorem value75_1 (l left : Nat) (W : World) (q r rc : Nat) (nu : Bool) (ao : Option Addr) (ca L N : Nat) (v2 n2 c2 : Nat) (h : NdA W q r rc nu ao ca L N v2 n2 c2) (hl : W.heap[l]? = some (.cells #[.pointer none, .int .i64 left] 166)) (hlq : q ≠ l) (hlr : r ≠ l) (hlv : v2 ≠ l) (h16 : 16 ≤ left) (hle : left ≤ 4194304) (hn0 : 2 ≤ n2) (hn : n2 ≤ 100000) (hc : n2 ≤ c2) (h0 : W.cell? ⟨v2, 0, none⟩ = some (.int .u8 3)) (h1 : W.cell? ⟨v2, 1, none⟩ = some (.int .u8 4)) : Calls Tryz.prog 181 #[.pointer (some ⟨l, 0, none⟩), .pointer (some ⟨q, 0, none⟩), .int .i64 1] W fun e w' => e = .returned (.agg #[.bool false, .int .i64 4, .string ⟨#[]⟩, .slice none 0 0]) ∧ Rd1 W w' l left := by
  obtain ⟨A, hA⟩ := ex (W.alloc (.cells #[.bool false, .int .i64 0, .string ⟨#[]⟩, .slice none 0 0] 98))
  have gA := gr_al hA
  have HI := hidM (isOff102 1 l A q r rc nu ao ca L N v2 n2 c2 (h.gr gA))
  have HR : Hid (∀ w2, Gr A w2 → Calls Tryz.prog 489 #[.agg #[.int .i64 1, .bool true], .pointer (some ⟨l, 0, none⟩), .pointer (some ⟨q, 0, none⟩), .int .i64 1] w2 fun e w' => e = .returned (.agg #[.bool false, .int .i64 4, .string ⟨#[]⟩, .slice none 0 0]) ∧ Rd1 w2 w' l left) := fun w2 g2 => by
    have g := gA.tr g2
    exact read309_1 l left w2 q r rc nu ao ca L N v2 n2 c2 (h.gr g) ((g.block _ (lt_of_heap hl) id).trans hl) hlq hlr hlv h16 hle hn0 hn hc (g.cell' h0 id) (g.cell' h1 id)
  have HT : Hid (∀ w2 w3, Gr A w2 → Rd1 w2 w3 l left → w3.heap[W.heap.size]? = some (.cells #[.bool false, .int .i64 0, .string ⟨#[]⟩, .slice none 0 0] 98) ∧ (vlU w3 W.heap.size false 4).heap[W.heap.size]? = some (.cells #[.bool false, .int .i64 4, .string ⟨#[]⟩, .slice none 0 0] 98) ∧ Rd1 W (vlU w3 W.heap.size false 4) l left) := fun w2 w3 g2 k3 => rd_store _ _ hA.symm g2 k3 (lt_of_heap hl)
  obtain ⟨c7, c9, c12⟩ := cellF (h.gr gA).nd
  have HN := hidM (h.gr gA)
  have hmeth := method_read
  clear gA h hl h0 h1
  go_enter Tryz.func181, Tryz.ntmps181
  go_wp2_with (first
    | (go_at_call 262; refine HI.out.mono ?_; rintro e w2 ⟨rfl, g2⟩; clear hA c7 c9 c12; obtain ⟨c7, c9, c12⟩ := cellF (HN.out.gr g2).nd)
    | (go_at_call 489; refine (HR.out w2 g2).mono ?_; rintro e w3 ⟨rfl, k3⟩; obtain ⟨hr3, hu3, hq3⟩ := HT.out w2 w3 g2 k3; obtain ⟨U, hU⟩ := ex (vlU w3 W.heap.size false 4); rw [hU] at hu3 hq3; simp only [vlU, setAll] at hU; obtain ⟨y0, y1, y2, y3⟩ := cell4 hr3; have x0 := frz hr3 0; have x1 := frz hr3 1; have x2 := frz hr3 2; have x3 := frz hr3 3; have HU3 := hidM hu3; have HQ3 := hidM hq3; clear hr3 hu3 hq3 k3))
  (try simp only [Exit.inBlock, Exit.then])
  refine bodyPost_ret (results_cell37 rfl rfl (by with_reducible exact HU3.out) (by kernel_rfl)) rfl ?_
  exact ⟨rfl, HQ3.out⟩
end Go.Proofs.YtknnoiomdngmfaaGreatDoor.Kit
