import Derived.Test.YteggcdhibcjneaaGreatDoorMW
set_option maxRecDepth 100000
set_option maxHeartbeats 4000000
namespace Go.Proofs.YteggcdhibcjneaaGreatDoor.Kit
variable {nx : Bool}
open Go.RowKit Go.Shelf Go.Deep
open Go.Proofs.YteggcdhibcjneaaGreatDoor.Kd (Ans AnsV cell5 cell2)
set_option linter.unusedVariables false
set_option linter.unusedSimpArgs false
attribute [local go_sem] run_store_func

theorem results_cell36 {fn : Func} {t : Tmp} {tmps : Array Value} {g : Nat} {cs : Array Value} {w : World} (h : fn.results = #[.cell t 36]) (ht : tmps.getD t undef = .pointer (some ⟨g, 0, none⟩)) (hg : w.heap[g]? = some (.cells cs 36 (0, 0))) (hi : (Tryz.prog.info? 36).map (·.size) = some cs.size) :
    (results fn tmps).run Tryz.prog w = .ok (.agg cs) w := by
  have hl := run_loadVar_row (P := Tryz.prog) w g 36 36 cs (0, 0) _ hg Tryz.underlying36 rfl hi
  unfold results
  rw [h]
  simp only [Array.mapM_eq_mapM_toList, List.mapM_cons, List.mapM_nil, ht]
  simp [asAddr, hl]
/-- what eights makes -/
structure SdA (W : World) (nm : ByteArray) (L : Nat) (vo : Option Addr) (vc g db kb qb : Nat) : Prop where
  f : W.heap[g]? = some (.cells #[.string nm, .bool false, .int .i64 3, .int .i64 0, .int .i64 0, .int .i64 0, .slice none 0 0] 47)
  d : W.heap[db]? = some (.cells #[.int .i64 L, .int .i64 0, .int .i64 0, .slice (some ⟨qb, 0, none⟩) 2 2, .slice none 0 0, .slice none 0 0] 50)
  k : W.cell? ⟨kb, 0, none⟩ = some (.int .i64 0)
  q0 : ∃ bo bc, W.cell? ⟨qb, 0, none⟩ = some (.slice bo 0 bc)
  q1 : W.cell? ⟨qb, 1, none⟩ = some (.slice vo L vc)
theorem SdA.gr {W u : World} {nm : ByteArray} {L : Nat} {vo : Option Addr} {vc g db kb qb : Nat} (h : SdA W nm L vo vc g db kb qb) (k : Gr W u) : SdA u nm L vo vc g db kb qb := ⟨(k.block _ (lt_of_heap h.f) id).trans h.f, (k.block _ (lt_of_heap h.d) id).trans h.d, k.cell' h.k id, h.q0.imp fun _ e => e.imp fun _ e => k.cell' e id, k.cell' h.q1 id⟩
theorem eights6 (nm : ByteArray) (L : Nat) (vo : Option Addr) (vc : Nat) (W : World) : Calls Tryz.prog 6 #[.string nm, .slice vo L vc] W fun e w' => ∃ g db kb qb, e = .returned (.agg #[.slice (some ⟨g, 0, none⟩) 1 1, .slice none 0 0, .int .i64 L, .slice (some ⟨db, 0, none⟩) 1 1, .slice (some ⟨kb, 0, none⟩) 1 1]) ∧ Gr W w' ∧ SdA w' nm L vo vc g db kb qb := by
  obtain ⟨AA, hAA⟩ : ∃ A, W.alloc (.cells #[.slice none 0 0, .slice none 0 0, .int .i64 0, .slice none 0 0, .slice none 0 0] 36) = A := ⟨_, rfl⟩
  have gA : Gr W AA := by rw [← hAA]; exact gr_alloc W _
  have bA : AA.heap[W.heap.size]? = some (.cells #[.slice none 0 0, .slice none 0 0, .int .i64 0, .slice none 0 0, .slice none 0 0] 36) := by rw [← hAA]; exact heap_alloc_new W _
  obtain ⟨A0, hA0⟩ : ∃ A, AA.alloc (.cells #[.string nm, .bool false, .int .i64 3, .int .i64 0, .int .i64 0, .int .i64 0, .slice none 0 0] 47) = A := ⟨_, rfl⟩
  have gz : Gr AA A0 := by rw [← hA0]; exact gr_alloc AA _
  have bz : A0.heap[AA.heap.size]? = some (.cells #[.string nm, .bool false, .int .i64 3, .int .i64 0, .int .i64 0, .int .i64 0, .slice none 0 0] 47) := by rw [← hA0]; exact heap_alloc_new AA _
  obtain ⟨A1, hA1⟩ : ∃ A, A0.alloc (.cells #[.slice (some ⟨AA.heap.size, 0, none⟩) 1 1, .slice none 0 0] 30) = A := ⟨_, rfl⟩
  have g1 : Gr A0 A1 := by rw [← hA1]; exact gr_alloc A0 _
  have b1 : A1.heap[A0.heap.size]? = some (.cells #[.slice (some ⟨AA.heap.size, 0, none⟩) 1 1, .slice none 0 0] 30) := by rw [← hA1]; exact heap_alloc_new A0 _
  obtain ⟨A2, hA2⟩ : ∃ A, A1.alloc (.cells #[] 5) = A := ⟨_, rfl⟩
  have g2 : Gr A1 A2 := by rw [← hA2]; exact gr_alloc A1 _
  have b2 : A2.heap[A1.heap.size]? = some (.cells #[] 5) := by rw [← hA2]; exact heap_alloc_new A1 _
  obtain ⟨A3, hA3⟩ : ∃ A, A2.alloc (.cells #[.slice (some ⟨A1.heap.size, 0, none⟩) 0 0, .slice vo L vc] 43) = A := ⟨_, rfl⟩
  have g3 : Gr A2 A3 := by rw [← hA3]; exact gr_alloc A2 _
  have b3 : A3.heap[A2.heap.size]? = some (.cells #[.slice (some ⟨A1.heap.size, 0, none⟩) 0 0, .slice vo L vc] 43) := by rw [← hA3]; exact heap_alloc_new A2 _
  obtain ⟨A4, hA4⟩ : ∃ A, A3.alloc (.cells #[.int .i64 L, .int .i64 0, .int .i64 0, .slice (some ⟨A2.heap.size, 0, none⟩) 2 2, .slice none 0 0, .slice none 0 0] 50) = A := ⟨_, rfl⟩
  have g4 : Gr A3 A4 := by rw [← hA4]; exact gr_alloc A3 _
  have b4 : A4.heap[A3.heap.size]? = some (.cells #[.int .i64 L, .int .i64 0, .int .i64 0, .slice (some ⟨A2.heap.size, 0, none⟩) 2 2, .slice none 0 0, .slice none 0 0] 50) := by rw [← hA4]; exact heap_alloc_new A3 _
  obtain ⟨A5, hA5⟩ : ∃ A, A4.alloc (.cells #[.int .i64 0] 3) = A := ⟨_, rfl⟩
  have g5 : Gr A4 A5 := by rw [← hA5]; exact gr_alloc A4 _
  have b5 : A5.heap[A4.heap.size]? = some (.cells #[.int .i64 0] 3) := by rw [← hA5]; exact heap_alloc_new A4 _
  have g45 := g4.trans g5 (fun _ _ h => h)
  have g35 := g3.trans g45 (fun _ _ h => h)
  have g25 := g2.trans g35 (fun _ _ h => h)
  have g15 := g1.trans g25 (fun _ _ h => h)
  have gz5 := gz.trans g15 (fun _ _ h => h)
  have gW5 := gA.trans gz5 (fun _ _ h => h)
  have z0 : AA.heap.size = W.heap.size + 1 := by rw [← hAA]; simp
  have zs1 := gz.size
  have zs2 := g1.size
  have zs3 := g2.size
  have zs4 := g3.size
  have zs5 := g4.size
  obtain ⟨U, hU⟩ : ∃ U, setAll A5 W.heap.size [(0, .slice (some ⟨AA.heap.size, 0, none⟩) 1 1), (1, .slice none 0 0), (2, .int .i64 L), (3, .slice (some ⟨A3.heap.size, 0, none⟩) 1 1), (4, .slice (some ⟨A4.heap.size, 0, none⟩) 1 1)] = U := ⟨_, rfl⟩
  have c0 := (gz5.block _ (lt_of_heap bA) id).trans bA
  have k1 : Keeps A5 U (fun z => z = W.heap.size) := by rw [← hU]; exact setAll_kp _ _ _
  have HU : Hid (U.heap[W.heap.size]? = some (.cells #[.slice (some ⟨AA.heap.size, 0, none⟩) 1 1, .slice none 0 0, .int .i64 L, .slice (some ⟨A3.heap.size, 0, none⟩) 1 1, .slice (some ⟨A4.heap.size, 0, none⟩) 1 1] 36)) := by
    rw [← hU]
    show (setAll A5 W.heap.size [(0, .slice (some ⟨AA.heap.size, 0, none⟩) 1 1), (1, .slice none 0 0), (2, .int .i64 L), (3, .slice (some ⟨A3.heap.size, 0, none⟩) 1 1), (4, .slice (some ⟨A4.heap.size, 0, none⟩) 1 1)]).heap[W.heap.size]? = _
    rw [setAll_blk W.heap.size 36 _ _ _ c0]
    simp [setsA]
  have HE : Hid (Gr W U ∧ SdA U nm L vo vc AA.heap.size A3.heap.size A4.heap.size A2.heap.size) := by
    have f5 := (g15.block _ (lt_of_heap bz) id).trans bz
    have d5 := (g5.block _ (lt_of_heap b4) id).trans b4
    obtain ⟨q0, q1⟩ := cell2 ((g45.block _ (lt_of_heap b3) id).trans b3)
    refine ⟨gW5.trans k1 (fun j hj e => by have e' : j = W.heap.size := e; omega), (k1.block _ (lt_of_heap f5) (fun e => by have e' : AA.heap.size = W.heap.size := e; omega)).trans f5, (k1.block _ (lt_of_heap d5) (fun e => by have e' : A3.heap.size = W.heap.size := e; omega)).trans d5, k1.cell' (cell1 b5) (fun e => by have e' : A4.heap.size = W.heap.size := e; omega), ⟨_, _, k1.cell' q0 (fun e => by have e' : A2.heap.size = W.heap.size := e; omega)⟩, k1.cell' q1 (fun e => by have e' : A2.heap.size = W.heap.size := e; omega)⟩
  obtain ⟨y0, y1, y2, y3, y4⟩ := cell5 c0
  have yz := frzA c0
  obtain ⟨t0, t1⟩ := cell2 b1
  have tz := frzA b1
  have i0 := set_id (j := 0) (v := .slice (some ⟨AA.heap.size, 0, none⟩) 1 1) b1 rfl
  have i1 := set_id (j := 1) (v := .slice none 0 0) b1 rfl
  simp only [setAll] at hU
  clear gA bA gz bz g1 b1 g2 b2 g3 b3 g4 b4 g5 b5 g45 g35 g25 g15 gz5 gW5 z0 zs1 zs2 zs3 zs4 zs5 c0 k1
  go_enter Tryz.func6, Tryz.ntmps6
  go_wp2_with fail
  (try simp only [Exit.inBlock, Exit.then])
  refine bodyPost_ret (results_cell36 rfl rfl (by with_reducible exact HU.out) (by kernel_rfl)) rfl ?_
  exact ⟨_, _, _, _, rfl, HE.out⟩
end Go.Proofs.YteggcdhibcjneaaGreatDoor.Kit
namespace Go.Proofs.YteggcdhibcjneaaGreatDoor.Kit
variable {nx : Bool}
open Go.RowKit Go.Shelf Go.Deep
open Go.Proofs.YteggcdhibcjneaaGreatDoor.Kd (Ans AnsV cell5 cell2)
set_option linter.unusedVariables false
set_option linter.unusedSimpArgs false
attribute [local go_sem] run_store_func

/-- rows, k of them with their one key -/
def rwK (ls cs : Nat → Nat) (L k : Nat) : Array Value := ((List.range L).flatMap fun i => [.bool false, .int .i64 0, .string ⟨#[]⟩, if i < k then .slice (some ⟨ls i, 0, none⟩) 1 (cs i) else .slice none 0 0]).toArray
/-- k rows are laid -/
def RwsK (xs : Nat → Int) (L gr k : Nat) (u : World) : Prop := ∃ ls cs : Nat → Nat, u.heap[gr]? = some (.cells (rwK ls cs L k) 86) ∧ ∀ i, i < k → gr < ls i ∧ RwV u (ls i) (xs i) ∧ ∃ c, u.heap[ls i]? = some (.cells c 86)
theorem rwK_next (ls cs : Nat → Nat) (g c : Nat) {L k : Nat} (hL : L = 2 ∨ L = 3) (hk : k < L) : (rwK ls cs L k).setIfInBounds (4 * k + 3) (.slice (some ⟨g, 0, none⟩) 1 c) = rwK (fun i => if i = k then g else ls i) (fun i => if i = k then c else cs i) L (k + 1) := by
  rcases LK hL hk with ⟨rfl, rfl⟩ | ⟨rfl, rfl⟩ | ⟨rfl, rfl⟩ | ⟨rfl, rfl⟩ | ⟨rfl, rfl⟩ <;> rfl
theorem rwK_cell {ls cs : Nat → Nat} {L k gr : Nat} {u : World} (hL : L = 2 ∨ L = 3) (hk : k < L) (h : u.heap[gr]? = some (.cells (rwK ls cs L k) 86)) : u.cell? ⟨gr, 4 * k + 3, none⟩ = some (.slice none 0 0) := by
  rcases LK hL hk with ⟨rfl, rfl⟩ | ⟨rfl, rfl⟩ | ⟨rfl, rfl⟩ | ⟨rfl, rfl⟩ | ⟨rfl, rfl⟩ <;> (simp [World.cell?, h]; rfl)
theorem valCells {xs : Nat → Int} {L k gv : Nat} {u : World} (hL : L = 2 ∨ L = 3) (hk : k < L) (h : u.heap[gv]? = some (.cells (rowK xs L L) 86)) : u.cell? ⟨gv, 4 * k, none⟩ = some (.bool false) ∧ u.cell? ⟨gv, 4 * k + 1, none⟩ = some (.int .i64 (xs k)) ∧ u.cell? ⟨gv, 4 * k + 2, none⟩ = some (.string ⟨#[]⟩) ∧ u.cell? ⟨gv, 4 * k + 3, none⟩ = some (.slice none 0 0) := by
  rcases LK hL hk with ⟨rfl, rfl⟩ | ⟨rfl, rfl⟩ | ⟨rfl, rfl⟩ | ⟨rfl, rfl⟩ | ⟨rfl, rfl⟩ <;> (refine ⟨?_, ?_, ?_, ?_⟩ <;> simp [World.cell?, h] <;> rfl)
theorem sets4 {cur : Array Value} (a b c d : Value) (h : 4 ≤ cur.size) : (setsA cur [(0, a), (1, b), (2, c), (3, d)])[0]? = some a ∧ (setsA cur [(0, a), (1, b), (2, c), (3, d)])[1]? = some b ∧ (setsA cur [(0, a), (1, b), (2, c), (3, d)])[2]? = some c ∧ (setsA cur [(0, a), (1, b), (2, c), (3, d)])[3]? = some d := by
  have h0 : 0 < cur.size := by omega
  have h1 : 1 < cur.size := by omega
  have h2 : 2 < cur.size := by omega
  have h3 : 3 < cur.size := by omega
  refine ⟨?_, ?_, ?_, ?_⟩ <;> simp [setsA, Array.getElem?_setIfInBounds, h0, h1, h2, h3]
/-- the two stores of a round, either way round -/
theorem keys_step {xs : Nat → Int} {L k gr g9 cap : Nat} {cur : Array Value} {wr w7 : World} (hL : L = 2 ∨ L = 3) (hk : k < L) (hR : RwsK xs L gr k wr) (gw : Gr wr w7) (hg : w7.heap[g9]? = some (.cells cur 86 (0, 0))) (hsz : 4 ≤ cur.size) (hlt : wr.heap.size ≤ g9) :
    RwsK xs L gr (k + 1) ((setAll w7 g9 [(0, .bool false), (1, .int .i64 (xs k)), (2, .string ⟨#[]⟩), (3, .slice none 0 0)]).setCell ⟨gr, 4 * k + 3, none⟩ (.slice (some ⟨g9, 0, none⟩) 1 cap)) ∧ RwsK xs L gr (k + 1) (setAll (w7.setCell ⟨gr, 4 * k + 3, none⟩ (.slice (some ⟨g9, 0, none⟩) 1 cap)) g9 [(0, .bool false), (1, .int .i64 (xs k)), (2, .string ⟨#[]⟩), (3, .slice none 0 0)]) := by
  obtain ⟨ls, cs, hr, hv⟩ := hR
  have hgr := lt_of_heap hr
  have hne : gr ≠ g9 := by omega
  have r7 := (gw.block _ hgr id).trans hr
  obtain ⟨s0, s1, s2, s3⟩ := sets4 (cur := cur) (.bool false) (.int .i64 (xs k)) (.string ⟨#[]⟩) (.slice none 0 0) hsz
  have ka : Keeps w7 (setAll w7 g9 [(0, .bool false), (1, .int .i64 (xs k)), (2, .string ⟨#[]⟩), (3, .slice none 0 0)]) (fun z => z = g9) := setAll_kp _ _ _
  have kb : Keeps w7 (w7.setCell ⟨gr, 4 * k + 3, none⟩ (.slice (some ⟨g9, 0, none⟩) 1 cap)) (fun z => z = gr) := Keeps.setCell (S := fun z => z = gr) (p := ⟨gr, 4 * k + 3, none⟩) (Keeps.refl w7 _) (fun _ => rfl) _
  have ra := (ka.block _ (lt_of_heap r7) hne).trans r7
  have gb := (kb.block _ (lt_of_heap hg) (Ne.symm hne)).trans hg
  have hnew : ∀ u : World, u.heap[g9]? = some (.cells (setsA cur [(0, .bool false), (1, .int .i64 (xs k)), (2, .string ⟨#[]⟩), (3, .slice none 0 0)]) 86 (0, 0)) → RwV u g9 (xs k) ∧ ∃ c, u.heap[g9]? = some (.cells c 86) := fun u h => by
    refine ⟨⟨?_, ?_, ?_, ?_⟩, _, h⟩ <;> simp [World.cell?, h, s0, s1, s2, s3]
  have hold : ∀ u : World, Keeps w7 u (fun z => z = g9 ∨ z = gr) → ∀ i, i < k → gr < ls i ∧ RwV u (ls i) (xs i) ∧ ∃ c, u.heap[ls i]? = some (.cells c 86) := fun u ku i hi => by
    obtain ⟨h1, ⟨h2, h3, h4, h5⟩, c, hc⟩ := hv i hi
    have hli : ls i < wr.heap.size := block_lt_of_cell h2
    have hn : ¬ (ls i = g9 ∨ ls i = gr) := by omega
    exact ⟨h1, ⟨ku.cell' (gw.cell' h2 id) hn, ku.cell' (gw.cell' h3 id) hn, ku.cell' (gw.cell' h4 id) hn, ku.cell' (gw.cell' h5 id) hn⟩, c, (ku.block _ (lt_of_heap ((gw.block _ hli id).trans hc)) hn).trans ((gw.block _ hli id).trans hc)⟩
  have fin : ∀ u : World, u.heap[gr]? = some (.cells ((rwK ls cs L k).setIfInBounds (4 * k + 3) (.slice (some ⟨g9, 0, none⟩) 1 cap)) 86) → u.heap[g9]? = some (.cells (setsA cur [(0, .bool false), (1, .int .i64 (xs k)), (2, .string ⟨#[]⟩), (3, .slice none 0 0)]) 86 (0, 0)) → Keeps w7 u (fun z => z = g9 ∨ z = gr) → RwsK xs L gr (k + 1) u := fun u h1 h2 h3 => by
    rw [rwK_next ls cs g9 cap hL hk] at h1
    refine ⟨_, _, h1, fun i hi => ?_⟩
    by_cases e : i = k
    · subst e
      simp only [if_pos]
      exact ⟨by omega, hnew u h2⟩
    · simp only [if_neg e]
      exact hold u h3 i (by omega)
  refine ⟨fin _ ?_ ?_ ?_, fin _ ?_ ?_ ?_⟩
  · rw [heap_setCell_same _ gr (4 * k + 3) _ _ _ ra]
  · rw [heap_setCell_other _ _ _ _ (Ne.symm hne), setAll_blk g9 86 _ _ _ hg]
  · exact (ka.mono fun _ _ e => .inl e).setCell (p := ⟨gr, 4 * k + 3, none⟩) (fun _ => .inr rfl) _
  · rw [setAll_oth g9 gr hne, heap_setCell_same _ gr (4 * k + 3) _ _ _ r7]
  · rw [setAll_blk g9 86 _ _ _ gb]
  · exact (kb.mono fun _ _ e => .inr e).trans (setAll_kp _ _ _) (fun _ _ e => .inl e)
end Go.Proofs.YteggcdhibcjneaaGreatDoor.Kit
namespace Go.Proofs.YteggcdhibcjneaaGreatDoor.Kit
variable {nx : Bool}
open Go.RowKit Go.Shelf Go.Deep
open Go.Proofs.YteggcdhibcjneaaGreatDoor.Kd (Ans AnsV cell5 cell2)
set_option linter.unusedVariables false
set_option linter.unusedSimpArgs false
attribute [local go_sem] run_store_func

theorem mk58_2 (w : World) : (Instr.makeSlice 58 (.int .i64 2) (.int .i64 2)).run Tryz.prog w = .ok (.slice (some ⟨w.heap.size, 0, none⟩) 2 2) (w.alloc (.cells (rwK (fun _ => 0) (fun _ => 0) 2 0) 86)) := by kernel_rfl
theorem mk58_3 (w : World) : (Instr.makeSlice 58 (.int .i64 3) (.int .i64 3)).run Tryz.prog w = .ok (.slice (some ⟨w.heap.size, 0, none⟩) 3 3) (w.alloc (.cells (rwK (fun _ => 0) (fun _ => 0) 3 0) 86)) := by kernel_rfl
theorem srcZ {Z : World} {z : Nat} (h : Z.heap[z]? = some (.cells #[.bool false, .int .i64 0, .string ⟨#[]⟩, .slice none 0 0] 86)) : Src Tryz.prog 4 58 (.slice (some ⟨z, 0, none⟩) 1 1) 1 [.bool false, .int .i64 0, .string ⟨#[]⟩, .slice none 0 0] Z := by
  refine Src.ofSlice (w := Z) Tryz.underlying58 ⟨z, 0, none⟩ 1 1 [.bool false, .int .i64 0, .string ⟨#[]⟩, .slice none 0 0] rfl (fun j v hj => ?_) (fun v hv => by simp at hv; rcases hv with rfl | rfl | rfl | rfl <;> rfl)
  rw [Addr.add_lit, Nat.zero_add]
  obtain ⟨c0, c1, c2, c3⟩ := cell4 h
  match j, hj with
  | 0, hj => cases hj; exact c0
  | 1, hj => cases hj; exact c1
  | 2, hj => cases hj; exact c2
  | 3, hj => cases hj; exact c3
  | j + 4, hj => simp at hj
/-- what stands while the rows are made -/
def KsI (xs : Nat → Int) (W : World) (L gr gv k : Nat) (u : World) : Prop := Gr W u ∧ RwsK xs L gr k u ∧ u.heap[gv]? = some (.cells (rowK xs L L) 86) ∧ W.heap.size ≤ gr ∧ gr < gv
theorem keys_end {xs : Nat → Int} {L k gr gv g9 cap : Nat} {cur : Array Value} {W wr A w7 : World} {x : Int} (hL : L = 2 ∨ L = 3) (hk : k < L) (hx : x = xs k) (hI : KsI xs W L gr gv k wr) (gA : Gr wr A) (bA : A.heap[wr.heap.size]? = some (.cells #[.bool false, .int .i64 x, .string ⟨#[]⟩, .slice none 0 0] 86)) (hAs : A.heap.size = wr.heap.size + 1) (g7 : Gr A w7) (hg : w7.heap[g9]? = some (.cells cur 86 (0, 0))) (hsz : cur.size = cap * 4) (hc1 : 1 ≤ cap) (hlt : A.heap.size ≤ g9) :
    ∃ X6, setAll w7 g9 [(0, .bool false), (1, .int .i64 x), (2, .string ⟨#[]⟩), (3, .slice none 0 0)] = X6 ∧ ∃ X7, w7.setCell ⟨gr, 4 * k + 3, none⟩ (.slice (some ⟨g9, 0, none⟩) 1 cap) = X7 ∧ ∃ X67, X6.setCell ⟨gr, 4 * k + 3, none⟩ (.slice (some ⟨g9, 0, none⟩) 1 cap) = X67 ∧ ∃ X76, setAll X7 g9 [(0, .bool false), (1, .int .i64 x), (2, .string ⟨#[]⟩), (3, .slice none 0 0)] = X76 ∧ (w7.cell? ⟨wr.heap.size, 0, none⟩ = some (.bool false) ∧ w7.cell? ⟨wr.heap.size, 1, none⟩ = some (.int .i64 x) ∧ w7.cell? ⟨wr.heap.size, 2, none⟩ = some (.string ⟨#[]⟩) ∧ w7.cell? ⟨wr.heap.size, 3, none⟩ = some (.slice none 0 0)) ∧ (X6.cell? ⟨wr.heap.size, 0, none⟩ = some (.bool false) ∧ X6.cell? ⟨wr.heap.size, 1, none⟩ = some (.int .i64 x) ∧ X6.cell? ⟨wr.heap.size, 2, none⟩ = some (.string ⟨#[]⟩) ∧ X6.cell? ⟨wr.heap.size, 3, none⟩ = some (.slice none 0 0)) ∧ (X7.cell? ⟨wr.heap.size, 0, none⟩ = some (.bool false) ∧ X7.cell? ⟨wr.heap.size, 1, none⟩ = some (.int .i64 x) ∧ X7.cell? ⟨wr.heap.size, 2, none⟩ = some (.string ⟨#[]⟩) ∧ X7.cell? ⟨wr.heap.size, 3, none⟩ = some (.slice none 0 0)) ∧ (X67.cell? ⟨wr.heap.size, 0, none⟩ = some (.bool false) ∧ X67.cell? ⟨wr.heap.size, 1, none⟩ = some (.int .i64 x) ∧ X67.cell? ⟨wr.heap.size, 2, none⟩ = some (.string ⟨#[]⟩) ∧ X67.cell? ⟨wr.heap.size, 3, none⟩ = some (.slice none 0 0)) ∧ (X76.cell? ⟨wr.heap.size, 0, none⟩ = some (.bool false) ∧ X76.cell? ⟨wr.heap.size, 1, none⟩ = some (.int .i64 x) ∧ X76.cell? ⟨wr.heap.size, 2, none⟩ = some (.string ⟨#[]⟩) ∧ X76.cell? ⟨wr.heap.size, 3, none⟩ = some (.slice none 0 0)) ∧ w7.cell? ⟨gr, 4 * k + 3, none⟩ = some (.slice none 0 0) ∧ X6.cell? ⟨gr, 4 * k + 3, none⟩ = some (.slice none 0 0) ∧ (w7.frozen? ⟨gr, 4 * k + 3, none⟩ = false ∧ X6.frozen? ⟨gr, 4 * k + 3, none⟩ = false) ∧ ((∃ a, X7.cell? ⟨g9, 0, none⟩ = some a) ∧ (∃ a, X7.cell? ⟨g9, 1, none⟩ = some a) ∧ (∃ a, X7.cell? ⟨g9, 2, none⟩ = some a) ∧ (∃ a, X7.cell? ⟨g9, 3, none⟩ = some a)) ∧ (∀ j, X7.frozen? ⟨g9, j, none⟩ = false) ∧ KsI xs W L gr gv (k + 1) X67 ∧ KsI xs W L gr gv (k + 1) X76 := by
  subst hx
  have gw : Gr wr w7 := gA.trans g7 (fun _ _ h => h)
  obtain ⟨kW, kR, kv, kle, klt⟩ := hI
  have hR := kR
  obtain ⟨ls, cs, hr, hv⟩ := kR
  have hgr := lt_of_heap hr
  have hgv := lt_of_heap kv
  have hWs := kW.size
  have h4 : 4 ≤ cur.size := by omega
  obtain ⟨q1, q2⟩ := keys_step (cap := cap) hL hk hR gw hg h4 (by omega)
  have hne : gr ≠ g9 := by omega
  have hb9 : wr.heap.size ≠ g9 := by omega
  have hbr : wr.heap.size ≠ gr := by omega
  have ka : Keeps w7 (setAll w7 g9 [(0, .bool false), (1, .int .i64 (xs k)), (2, .string ⟨#[]⟩), (3, .slice none 0 0)]) (fun z => z = g9) := setAll_kp _ _ _
  have kb : Keeps w7 (w7.setCell ⟨gr, 4 * k + 3, none⟩ (.slice (some ⟨g9, 0, none⟩) 1 cap)) (fun z => z = gr) := Keeps.setCell (S := fun z => z = gr) (p := ⟨gr, 4 * k + 3, none⟩) (Keeps.refl w7 _) (fun _ => rfl) _
  have kc := (ka.mono (T := fun z => z = g9 ∨ z = gr) fun _ _ e => .inl e).setCell (p := ⟨gr, 4 * k + 3, none⟩) (fun _ => .inr rfl) (.slice (some ⟨g9, 0, none⟩) 1 cap)
  have kd := (kb.mono (T := fun z => z = g9 ∨ z = gr) fun _ _ e => .inr e).trans (setAll_kp g9 [(0, .bool false), (1, .int .i64 (xs k)), (2, .string ⟨#[]⟩), (3, .slice none 0 0)] _) (fun _ _ e => .inl e)
  have s7 := (g7.block _ (lt_of_heap bA) id).trans bA
  have hb : ¬ (wr.heap.size = g9 ∨ wr.heap.size = gr) := by omega
  have s6 := (ka.block _ (lt_of_heap s7) hb9).trans s7
  have s7b := (kb.block _ (lt_of_heap s7) hbr).trans s7
  have s67 := (kc.block _ (lt_of_heap s7) hb).trans s7
  have s76 := (kd.block _ (lt_of_heap s7) hb).trans s7
  have r7 := (gw.block _ hgr id).trans hr
  have r6 := (ka.block _ (lt_of_heap r7) hne).trans r7
  have gb := (kb.block _ (lt_of_heap hg) (Ne.symm hne)).trans hg
  have v7 := (gw.block _ hgv id).trans kv
  have fin : ∀ u : World, RwsK xs L gr (k + 1) u → Keeps w7 u (fun z => z = g9 ∨ z = gr) → KsI xs W L gr gv (k + 1) u := fun u h1 h2 =>
    ⟨(kW.trans gw (fun _ _ h => h)).trans h2 (fun j hj e => by rcases e with e | e <;> omega), h1, (h2.block _ (lt_of_heap v7) (by omega)).trans v7, kle, klt⟩
  have cg : ∀ j, j < 4 → ∃ a, (w7.setCell ⟨gr, 4 * k + 3, none⟩ (.slice (some ⟨g9, 0, none⟩) 1 cap)).cell? ⟨g9, j, none⟩ = some a := fun j hj => ⟨cur[j]'(by omega), by simp [World.cell?, gb, show j < cur.size by omega]⟩
  exact ⟨_, rfl, _, rfl, _, rfl, _, rfl, cell4 s7, cell4 s6, cell4 s7b, cell4 s67, cell4 s76, rwK_cell hL hk r7, rwK_cell hL hk r6, ⟨frzA r7 _, frzA r6 _⟩, ⟨cg 0 (by omega), cg 1 (by omega), cg 2 (by omega), cg 3 (by omega)⟩, frzA gb, fin _ q1 kc, fin _ q2 kd⟩
end Go.Proofs.YteggcdhibcjneaaGreatDoor.Kit
