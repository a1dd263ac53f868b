import Derived.Test.YteggcdhibcjneaaGreatDoorMS
set_option maxRecDepth 100000
set_option maxHeartbeats 4000000
namespace Go.Proofs.YteggcdhibcjneaaGreatDoor.Kit
variable {nx : Bool}
open Go.RowKit Go.Shelf Go.Deep
open Go.Proofs.YteggcdhibcjneaaGreatDoor.Kd (Ans AnsV cell5 cell2)
set_option linter.unusedVariables false
set_option linter.unusedSimpArgs false
attribute [local go_sem] run_store_func

theorem meeting29_no (rb rc m l2 c2 : Nat) (l : List (Int × Value)) (x : Int) (hx : x = 5 ∨ x = 7 ∨ x = 8) (W : World) (hm : MpAt W m l) (hn : lkO l (hR x) 0 = none) (h2 : RwV W l2 x) : Calls Tryz.prog 29 #[.agg #[.slice (some ⟨rb, 0, none⟩) 2 rc, .map (some m)], .agg #[.bool false, .int .i64 0, .string ⟨#[]⟩, .slice (some ⟨l2, 0, none⟩) 1 c2]] W fun e w' => e = .returned (.slice none 0 0) ∧ Gr W w' := by
  obtain ⟨A0, hA0⟩ : ∃ A, W.alloc (.cells #[.slice (some ⟨rb, 0, none⟩) 2 rc, .map (some m)] 82) = A := ⟨_, rfl⟩
  have g0 : Gr W A0 := by rw [← hA0]; exact gr_alloc W _
  have b0 : A0.heap[W.heap.size]? = some (.cells #[.slice (some ⟨rb, 0, none⟩) 2 rc, .map (some m)] 82) := by rw [← hA0]; exact heap_alloc_new W _
  obtain ⟨A1, hA1⟩ : ∃ A, A0.alloc (.cells #[.bool false, .int .i64 0, .string ⟨#[]⟩, .slice (some ⟨l2, 0, none⟩) 1 c2] 86) = A := ⟨_, rfl⟩
  have g1 : Gr A0 A1 := by rw [← hA1]; exact gr_alloc A0 _
  have b1 : A1.heap[A0.heap.size]? = some (.cells #[.bool false, .int .i64 0, .string ⟨#[]⟩, .slice (some ⟨l2, 0, none⟩) 1 c2] 86) := by rw [← hA1]; exact heap_alloc_new A0 _
  have gW : Gr W A1 := g0.trans g1 (fun _ _ h => h)
  have HG := hidM gW
  obtain ⟨e0, e1⟩ := cell2 ((g1.block _ (lt_of_heap b0) id).trans b0)
  obtain ⟨d0, d1, d2, d3⟩ := cell4 b1
  have HS : Hid (∀ u, Gr A1 u → u.cell? ⟨W.heap.size, 0, none⟩ = some (.slice (some ⟨rb, 0, none⟩) 2 rc) ∧ u.cell? ⟨W.heap.size, 1, none⟩ = some (.map (some m)) ∧ u.cell? ⟨A0.heap.size, 0, none⟩ = some (.bool false) ∧ u.cell? ⟨A0.heap.size, 1, none⟩ = some (.int .i64 0) ∧ u.cell? ⟨A0.heap.size, 2, none⟩ = some (.string ⟨#[]⟩) ∧ u.cell? ⟨A0.heap.size, 3, none⟩ = some (.slice (some ⟨l2, 0, none⟩) 1 c2)) := fun u g => ⟨g.cell' e0 id, g.cell' e1 id, g.cell' d0 id, g.cell' d1 id, g.cell' d2 id, g.cell' d3 id⟩
  have HC1 := hidM (hash47r l2 c2 x A1 (h2.gr gW) hx)
  have HC2 : Hid (∀ u, Gr A1 u → Calls Tryz.prog 48 #[.agg #[.slice (some ⟨rb, 0, none⟩) 2 rc, .map (some m)], .int .u64 (hR x), .agg #[.bool false, .int .i64 0, .string ⟨#[]⟩, .slice (some ⟨l2, 0, none⟩) 1 c2]] u fun e w' => e = .returned (.int .i64 (-1)) ∧ Gr u w') := fun u g => place48_no rb rc m l2 c2 l (hR x) u (((gW.trans g (fun _ _ h => h)).block _ (lt_of_heap hm) id).trans hm) hn
  clear g0 b0 g1 b1 gW hm hn h2
  go_enter Tryz.func29, Tryz.ntmps29
  go_wp2_with (first
    | (go_at_call 47; refine HC1.out.mono ?_; rintro e w1 ⟨rfl, g1⟩; have HG1 := hidM g1; clear e0 e1 d0 d1 d2 d3 hA0 hA1; obtain ⟨e0, e1, d0, d1, d2, d3⟩ := HS.out w1 g1; clear g1)
    | (go_at_call 48; refine (HC2.out w1 HG1.out).mono ?_; rintro e w2 ⟨rfl, g2⟩; have HG2 := hidM (HG1.out.trans g2 (fun _ _ h => h)); clear g2))
  go_ret
  exact ⟨rfl, HG.out.trans HG2.out (fun _ _ h => h)⟩
theorem meeting29_1 (rb rc m l2 c2 lb lc ib ic l1 c1 : Nat) (l : List (Int × Value)) (x : Int) (hx : x = 5 ∨ x = 7 ∨ x = 8) (W : World) (hm : MpAt W m l) (hn : lkV l (hR x) = .slice (some ⟨lb, 0, none⟩) 1 lc) (hl : W.cell? ⟨lb, 0, none⟩ = some (.slice (some ⟨ib, 0, none⟩) 1 ic)) (hi : W.cell? ⟨ib, 0, none⟩ = some (.int .i64 1)) (hr : W.cell? ⟨rb, 4, none⟩ = some (.bool false) ∧ W.cell? ⟨rb, 5, none⟩ = some (.int .i64 0) ∧ W.cell? ⟨rb, 6, none⟩ = some (.string ⟨#[]⟩) ∧ W.cell? ⟨rb, 7, none⟩ = some (.slice (some ⟨l1, 0, none⟩) 1 c1)) (h1 : RwV W l1 x) (h2 : RwV W l2 x) : Calls Tryz.prog 29 #[.agg #[.slice (some ⟨rb, 0, none⟩) 2 rc, .map (some m)], .agg #[.bool false, .int .i64 0, .string ⟨#[]⟩, .slice (some ⟨l2, 0, none⟩) 1 c2]] W fun e w' => e = .returned (.slice (some ⟨ib, 0, none⟩) 1 ic) ∧ Gr W w' := by
  obtain ⟨A0, hA0⟩ : ∃ A, W.alloc (.cells #[.slice (some ⟨rb, 0, none⟩) 2 rc, .map (some m)] 82) = A := ⟨_, rfl⟩
  have g0 : Gr W A0 := by rw [← hA0]; exact gr_alloc W _
  have b0 : A0.heap[W.heap.size]? = some (.cells #[.slice (some ⟨rb, 0, none⟩) 2 rc, .map (some m)] 82) := by rw [← hA0]; exact heap_alloc_new W _
  obtain ⟨A1, hA1⟩ : ∃ A, A0.alloc (.cells #[.bool false, .int .i64 0, .string ⟨#[]⟩, .slice (some ⟨l2, 0, none⟩) 1 c2] 86) = A := ⟨_, rfl⟩
  have g1 : Gr A0 A1 := by rw [← hA1]; exact gr_alloc A0 _
  have b1 : A1.heap[A0.heap.size]? = some (.cells #[.bool false, .int .i64 0, .string ⟨#[]⟩, .slice (some ⟨l2, 0, none⟩) 1 c2] 86) := by rw [← hA1]; exact heap_alloc_new A0 _
  have gW : Gr W A1 := g0.trans g1 (fun _ _ h => h)
  have HG := hidM gW
  obtain ⟨e0, e1⟩ := cell2 ((g1.block _ (lt_of_heap b0) id).trans b0)
  obtain ⟨d0, d1, d2, d3⟩ := cell4 b1
  have HS : Hid (∀ u, Gr A1 u → u.cell? ⟨W.heap.size, 0, none⟩ = some (.slice (some ⟨rb, 0, none⟩) 2 rc) ∧ u.cell? ⟨W.heap.size, 1, none⟩ = some (.map (some m)) ∧ u.cell? ⟨A0.heap.size, 0, none⟩ = some (.bool false) ∧ u.cell? ⟨A0.heap.size, 1, none⟩ = some (.int .i64 0) ∧ u.cell? ⟨A0.heap.size, 2, none⟩ = some (.string ⟨#[]⟩) ∧ u.cell? ⟨A0.heap.size, 3, none⟩ = some (.slice (some ⟨l2, 0, none⟩) 1 c2)) := fun u g => ⟨g.cell' e0 id, g.cell' e1 id, g.cell' d0 id, g.cell' d1 id, g.cell' d2 id, g.cell' d3 id⟩
  have HC1 := hidM (hash47r l2 c2 x A1 (h2.gr gW) hx)
  have HC2 : Hid (∀ u, Gr A1 u → Calls Tryz.prog 48 #[.agg #[.slice (some ⟨rb, 0, none⟩) 2 rc, .map (some m)], .int .u64 (hR x), .agg #[.bool false, .int .i64 0, .string ⟨#[]⟩, .slice (some ⟨l2, 0, none⟩) 1 c2]] u (fun e w' => e = .returned (.int .i64 0) ∧ Gr u w') ∧ (Instr.lookup 80 (.map (some m)) (.int .u64 (hR x)) false).run Tryz.prog u = .ok (.slice (some ⟨lb, 0, none⟩) 1 lc) u ∧ u.cell? ⟨lb, 0, none⟩ = some (.slice (some ⟨ib, 0, none⟩) 1 ic)) := fun u g => by
    have k := gW.trans g (fun _ _ h => h)
    obtain ⟨r0, r1, r2, r3⟩ := hr
    have hmu := (k.block _ (lt_of_heap hm) id).trans hm
    refine ⟨place48_1 rb rc m l2 c2 lb lc ib ic l1 c1 l (hR x) x hx u hmu hn (k.cell' hl id) (k.cell' hi id) ⟨k.cell' r0 id, k.cell' r1 id, k.cell' r2 id, k.cell' r3 id⟩ (h1.gr k) (h2.gr k), ?_, k.cell' hl id⟩
    have := run_lk u m l (hR x) hmu
    rw [hn] at this
    exact this
  clear g0 b0 g1 b1 gW hm hn hl hi hr h1 h2
  go_enter Tryz.func29, Tryz.ntmps29
  go_wp2_with (first
    | (go_at_call 47; refine HC1.out.mono ?_; rintro e w1 ⟨rfl, g1⟩; have HG1 := hidM g1; clear e0 e1 d0 d1 d2 d3 hA0 hA1; obtain ⟨e0, e1, d0, d1, d2, d3⟩ := HS.out w1 g1; clear g1)
    | (go_at_call 48; refine (HC2.out w1 HG1.out).1.mono ?_; rintro e w2 ⟨rfl, g2⟩; have HG2 := hidM (HG1.out.trans g2 (fun _ _ h => h)); clear e0 e1 d0 d1 d2 d3; obtain ⟨e0, e1, d0, d1, d2, d3⟩ := HS.out w2 HG2.out; obtain ⟨-, hlk, hlb⟩ := HC2.out w2 HG2.out; clear g2))
  go_ret
  exact ⟨rfl, HG.out.trans HG2.out (fun _ _ h => h)⟩
end Go.Proofs.YteggcdhibcjneaaGreatDoor.Kit
namespace Go.Proofs.YteggcdhibcjneaaGreatDoor.Kit
variable {nx : Bool}
open Go.RowKit Go.Shelf Go.Deep
open Go.Proofs.YteggcdhibcjneaaGreatDoor.Kd (Ans AnsV cell5 cell2)
set_option linter.unusedVariables false
set_option linter.unusedSimpArgs false
attribute [local go_sem] run_store_func

theorem info41 : (Tryz.prog.info? 41).map (fun i => (i.zero, i.size, i.bytes)) = some (some (.agg #[.int .i64 0, .int .i64 0]), 2, 16) := by kernel_rfl
theorem src41 {Z : World} {z : Nat} {x y : Int} (h : Z.heap[z]? = some (.cells #[.int .i64 x, .int .i64 y] 41)) : Src Tryz.prog 2 23 (.slice (some ⟨z, 0, none⟩) 1 1) 1 [.int .i64 x, .int .i64 y] Z := by
  refine Src.ofSlice (w := Z) Tryz.underlying23 ⟨z, 0, none⟩ 1 1 [.int .i64 x, .int .i64 y] rfl (fun j v hj => ?_) (fun v hv => by simp at hv; rcases hv with rfl | rfl <;> rfl)
  rw [Addr.add_lit, Nat.zero_add]
  obtain ⟨c0, c1⟩ := cell2 h
  match j, hj with
  | 0, hj => cases hj; exact c0
  | 1, hj => cases hj; exact c1
  | j + 2, hj => simp at hj
def flat2 : List (Int × Int) → List Value
  | [] => []
  | p :: l => .int .i64 p.1 :: .int .i64 p.2 :: flat2 l
theorem flat2_snoc (a b : Int) : ∀ l : List (Int × Int), flat2 (l ++ [(a, b)]) = flat2 l ++ [.int .i64 a, .int .i64 b]
  | [] => rfl
  | p :: l => by simp [flat2, flat2_snoc a b l]
/-- only the variable at P and rows of pairs have changed -/
def FrP (P : Nat) (W u : World) : Prop := Keeps W u (fun z => z = P ∨ P ≤ z ∧ ∃ c f, W.heap[z]? = some (.cells c 41 f))
theorem FrP.ofGr {P : Nat} {W u : World} (g : Gr W u) : FrP P W u := g.mono fun _ _ h => h.elim
theorem FrP.trans {P : Nat} {W u v : World} (h1 : FrP P W u) (h2 : FrP P u v) : FrP P W v := by
  refine Keeps.trans h1 h2 fun j hj e => ?_
  by_cases hp : j = P
  · exact .inl hp
  · by_cases hc : P ≤ j ∧ ∃ c f, W.heap[j]? = some (.cells c 41 f)
    · exact .inr hc
    · rcases e with e | ⟨hl, c, f, e⟩
      · exact absurd e hp
      · have := Keeps.block h1 j hj (fun e' => by rcases e' with e' | e'; exact hp e'; exact hc e')
        exact absurd ⟨hl, c, f, this ▸ e⟩ hc
theorem FrP.cells {P z t : Nat} {c : Array Value} {W u : World} (h : FrP P W u) (hz : W.heap[z]? = some (.cells c t)) (hp : z ≠ P) (ht : t ≠ 41) : u.heap[z]? = some (.cells c t) := by
  refine (Keeps.block h z (lt_of_heap hz) fun e => ?_).trans hz
  rcases e with e | ⟨-, c', f, e⟩
  · exact hp e
  · rw [hz] at e
    simp at e
    exact ht e.2.1
theorem FrP.low {P z : Nat} {W u : World} (h : FrP P W u) (hz : z < W.heap.size) (hp : z < P) : u.heap[z]? = W.heap[z]? :=
  Keeps.block h z hz fun e => by rcases e with e | ⟨e, -⟩ <;> omega
/-- the pairs laid so far -/
def PAt (W : World) (P : Nat) (ps : List (Int × Int)) : Prop := ∃ v, W.heap[P]? = some (.cells #[v] 23) ∧ W.ownsRow 0 41 2 v ps.length (flat2 ps) ∧ ∀ g, v.ownBlock = some g → P ≤ g
theorem lay27 (P : Nat) (ps : List (Int × Int)) (a b : Int) (W : World) (hP : PAt W P ps) (hn : ps.length ≤ 100) : Calls Tryz.prog 27 #[.int .i64 a, .int .i64 b, .pointer (some ⟨P, 0, none⟩)] W fun e w' => e = .returned (.tuple #[]) ∧ FrP P W w' ∧ PAt w' P (ps ++ [(a, b)]) := by
  obtain ⟨v, hb, ho, hge⟩ := hP
  have hlP := lt_of_heap hb
  obtain ⟨A0, hA0⟩ : ∃ A, W.alloc (.cells #[.int .i64 a, .int .i64 b] 41) = A := ⟨_, rfl⟩
  have g0 : Gr W A0 := by rw [← hA0]; exact gr_alloc W _
  have b0 : A0.heap[W.heap.size]? = some (.cells #[.int .i64 a, .int .i64 b] 41) := by rw [← hA0]; exact heap_alloc_new W _
  have c0 := cell1 hb
  have HO : Hid (A0.ownsRow 0 41 2 v ps.length (flat2 ps)) := row_kp ho fun g e => g0.block g (own_lt ho g e) id
  have HS := hidM (src41 b0)
  have HB := hidM ((g0.block _ (lt_of_heap hb) id).trans hb)
  have HG := hidM g0
  have HW := hidM (And.intro hb ho)
  have HGE := hidM hge
  have HLE := hidM (Nat.le_trans (Nat.le_of_lt hlP) g0.size)
  obtain ⟨vo, vc, rfl⟩ := own_formN ho
  clear g0 b0 ho hb hge hlP
  go_enter Tryz.func27, Tryz.ntmps27
  go_wp2_with (at_builtin; refine Hid.out ?_)
  unfold Hid
  refine wpList_append_anyN (P := Tryz.prog) _ rfl (.tmp 5) (.tmp 9) 23 23 rfl 41 (.agg #[.int .i64 0, .int .i64 0]) 2 16 Tryz.underlying23 info41 rfl (.slice vo ps.length vc) ps.length (flat2 ps) rfl HO.out (.slice (some ⟨W.heap.size, 0, none⟩) 1 1) 1 [.int .i64 a, .int .i64 b] rfl HS.out (by omega) (by omega) ?_
  intro v' w3 ha1 ha2 ha3
  have hk := Keeps.ofGrown ha2
  have hPn : ∀ g, (Value.slice vo ps.length vc).ownBlock = some g → P ≠ g := fun g e h => own_ne HB.out HO.out (by decide) (h ▸ e)
  have h3 : w3.heap[P]? = some (.cells #[.slice vo ps.length vc] 23) := (hk.block P (lt_of_heap HB.out) (fun e => hPn _ e rfl)).trans HB.out
  obtain ⟨uo, uc, rfl⟩ := own_formN ha1
  obtain ⟨U, hU⟩ : ∃ U, w3.setCell ⟨P, 0, none⟩ (.slice uo (ps.length + 1) uc) = U := ⟨_, rfl⟩
  have HE : Hid (FrP P W U ∧ PAt U P (ps ++ [(a, b)])) := by
    have f1 : FrP P A0 w3 := hk.mono fun j hj e => by
      have hl := HGE.out j e
      obtain ⟨-, ⟨h0, -⟩ | ⟨g, cap, cur, hv, -, hg, -⟩⟩ := HO.out
      · rw [h0] at e
        simp [Value.ownBlock] at e
      · rw [hv] at e
        simp [Value.ownBlock] at e
        exact .inr ⟨hl, cur, (0, 0), e ▸ hg⟩
    have f2 : FrP P w3 U := by
      rw [← hU]
      exact (Keeps.setCell (S := fun z => z = P) (p := ⟨P, 0, none⟩) (Keeps.refl w3 _) (fun _ => rfl) _).mono fun j hj e => .inl e
    refine ⟨((FrP.ofGr HG.out).trans f1).trans f2, .slice uo (ps.length + 1) uc, by rw [← hU, heap_setCell_same w3 P 0 _ _ _ h3]; rfl, ?_, fun g e => ha3.elim (fun h => HGE.out g (h ▸ e)) (fun h => Nat.le_trans HLE.out (h g e))⟩
    rw [flat2_snoc, List.length_append]
    refine row_kp ha1 fun g e => ?_
    rw [← hU]
    exact heap_setCell_other _ _ _ _ (fun h => own_ne h3 ha1 (by decide) (by rw [e, h]))
  have c3 := cell1 h3
  have z3 := frz h3 0
  clear ha1 ha2 ha3 hk hPn h3
  go_wp2_with fail
  go_end0
  exact ⟨rfl, HE.out⟩
end Go.Proofs.YteggcdhibcjneaaGreatDoor.Kit
namespace Go.Proofs.YteggcdhibcjneaaGreatDoor.Kit
variable {nx : Bool}
open Go.RowKit Go.Shelf Go.Deep
open Go.Proofs.YteggcdhibcjneaaGreatDoor.Kd (Ans AnsV cell5 cell2)
set_option linter.unusedVariables false
set_option linter.unusedSimpArgs false
attribute [local go_sem] run_store_func

theorem results_cell77 {fn : Func} {t : Tmp} {tmps : Array Value} {g : Nat} {cs : Array Value} {w : World} (h : fn.results = #[.cell t 77]) (ht : tmps.getD t undef = .pointer (some ⟨g, 0, none⟩)) (hg : w.heap[g]? = some (.cells cs 77 (0, 0))) (hi : (Tryz.prog.info? 77).map (·.size) = some cs.size) :
    (results fn tmps).run Tryz.prog w = .ok (.agg cs) w := by
  have hl := run_loadVar_row (P := Tryz.prog) w g 77 77 cs (0, 0) _ hg Tryz.underlying77 rfl hi
  unfold results
  rw [h]
  simp only [Array.mapM_eq_mapM_toList, List.mapM_cons, List.mapM_nil, ht]
  simp [asAddr, hl]
theorem manner26 (P : Nat) (W : World) : Calls Tryz.prog 26 #[.int .i64 3, .func (.func 27) #[] #[.pointer (some ⟨P, 0, none⟩)]] W fun e w' => ∃ p, e = .returned (.agg #[.func (.func 40) #[] #[.pointer (some ⟨p, 0, none⟩)], .func (.func 43) #[] #[.pointer (some ⟨p, 0, none⟩)], .func (.func 44) #[] #[.pointer (some ⟨p, 0, none⟩)]]) ∧ Gr W w' ∧ w'.heap[p]? = some (.cells #[.func (.func 27) #[] #[.pointer (some ⟨P, 0, none⟩)]] 79) := by
  have hmf : ∀ (fn : Fn) (first cap : Array Value) (w : World), (Instr.makeFunc fn first cap).run Tryz.prog w = .ok (.func fn first cap) w := fun _ _ _ _ => rfl
  obtain ⟨A0, hA0⟩ : ∃ A, W.alloc (.cells #[.func (.func 27) #[] #[.pointer (some ⟨P, 0, none⟩)]] 79) = A := ⟨_, rfl⟩
  have g0 : Gr W A0 := by rw [← hA0]; exact gr_alloc W _
  have b0 : A0.heap[W.heap.size]? = some (.cells #[.func (.func 27) #[] #[.pointer (some ⟨P, 0, none⟩)]] 79) := by rw [← hA0]; exact heap_alloc_new W _
  obtain ⟨A1, hA1⟩ : ∃ A, A0.alloc (.cells #[.nilFunc, .nilFunc, .nilFunc] 77) = A := ⟨_, rfl⟩
  have g1 : Gr A0 A1 := by rw [← hA1]; exact gr_alloc A0 _
  have b1 : A1.heap[A0.heap.size]? = some (.cells #[.nilFunc, .nilFunc, .nilFunc] 77) := by rw [← hA1]; exact heap_alloc_new A0 _
  have gW : Gr W A1 := g0.trans g1 (fun _ _ h => h)
  have s0 : A0.heap.size = W.heap.size + 1 := by rw [← hA0]; simp
  obtain ⟨U, hU⟩ : ∃ U, setAll A1 A0.heap.size [(0, .func (.func 40) #[] #[.pointer (some ⟨W.heap.size, 0, none⟩)]), (1, .func (.func 43) #[] #[.pointer (some ⟨W.heap.size, 0, none⟩)]), (2, .func (.func 44) #[] #[.pointer (some ⟨W.heap.size, 0, none⟩)])] = U := ⟨_, rfl⟩
  have k1 : Keeps A1 U (fun z => z = A0.heap.size) := by rw [← hU]; exact setAll_kp _ _ _
  have HU : Hid (U.heap[A0.heap.size]? = some (.cells #[.func (.func 40) #[] #[.pointer (some ⟨W.heap.size, 0, none⟩)], .func (.func 43) #[] #[.pointer (some ⟨W.heap.size, 0, none⟩)], .func (.func 44) #[] #[.pointer (some ⟨W.heap.size, 0, none⟩)]] 77)) := by
    rw [← hU]
    show (setAll A1 A0.heap.size [(0, .func (.func 40) #[] #[.pointer (some ⟨W.heap.size, 0, none⟩)]), (1, .func (.func 43) #[] #[.pointer (some ⟨W.heap.size, 0, none⟩)]), (2, .func (.func 44) #[] #[.pointer (some ⟨W.heap.size, 0, none⟩)])]).heap[A0.heap.size]? = _
    rw [setAll_blk A0.heap.size 77 _ _ _ b1]
    simp [setsA]
  have c0 := (g1.block _ (lt_of_heap b0) id).trans b0
  have HE : Hid (Gr W U ∧ U.heap[W.heap.size]? = some (.cells #[.func (.func 27) #[] #[.pointer (some ⟨P, 0, none⟩)]] 79)) := ⟨gW.trans k1 (fun j hj e => by have e' : j = A0.heap.size := e; omega), (k1.block _ (lt_of_heap c0) (fun e => by have e' : W.heap.size = A0.heap.size := e; omega)).trans c0⟩
  obtain ⟨y0, y1, y2⟩ := cell3V b1
  have yz := frzA b1
  simp only [setAll] at hU
  have hix : ∀ (a0 a1 a2 a3 a4 a5 a6 a7 a8 a9 a10 a11 a12 a13 a14 a15 a16 a17 : Value) (w : World), (Instr.index 104 (.agg #[a0, a1, a2, a3, a4, a5, a6, a7, a8, a9, a10, a11, a12, a13, a14, a15, a16, a17]) (.int .i64 3)).run Tryz.prog w = .ok (.agg #[a9, a10, a11]) w := fun _ _ _ _ _ _ _ _ _ _ _ _ _ _ _ _ _ _ w => by kernel_rfl
  clear g0 b0 g1 b1 gW s0 k1 c0
  go_enter Tryz.func26, Tryz.ntmps26
  go_wp2_with fail
  (try simp only [Exit.inBlock, Exit.then])
  refine bodyPost_ret (results_cell77 rfl rfl (by with_reducible exact HU.out) (by kernel_rfl)) rfl ?_
  exact ⟨_, rfl, HE.out⟩
theorem all40 (p P ib ic : Nat) (ps : List (Int × Int)) (a : Int) (W : World) (hp : W.heap[p]? = some (.cells #[.func (.func 27) #[] #[.pointer (some ⟨P, 0, none⟩)]] 79)) (hi : W.cell? ⟨ib, 0, none⟩ = some (.int .i64 1)) (hP : PAt W P ps) (hn : ps.length ≤ 100) : Calls Tryz.prog 40 #[.int .i64 a, .slice (some ⟨ib, 0, none⟩) 1 ic, .pointer (some ⟨p, 0, none⟩)] W fun e w' => e = .returned (.tuple #[]) ∧ FrP P W w' ∧ PAt w' P (ps ++ [(a, 1)]) := by
  have HC := hidM (lay27 P ps a 1 W hP hn)
  have c0 := cell1 hp
  clear hp hP
  go_enter Tryz.func40, Tryz.ntmps40
  go_wp2_with fail
  go_loopw [9] (fun i wr => ∃ k : Nat, k ≤ 1 ∧ i = .int .i64 k ∧ Hid ((k = 0 ∧ wr = W) ∨ (k = 1 ∧ FrP P W wr ∧ PAt wr P (ps ++ [(a, 1)])))) (fun i _ => 1 - (intOf i).toNat)
  case atStart => exact ⟨0, by omega, rfl, .inl ⟨rfl, rfl⟩⟩
  case round =>
    obtain ⟨k, hk, rfl, HR⟩ := hrel
    rcases HR.out with ⟨rfl, rfl⟩ | ⟨rfl, h1, h2⟩
    · clear HR
      go_wp2_with (go_at_call 27; refine HC.out.mono ?_; rintro e w1 ⟨rfl, g1, g2⟩; have HE := hidM (And.intro g1 g2); clear g1 g2)
      go_roundw
      case rel => exact ⟨1, by omega, by go_num, .inr ⟨rfl, HE.out⟩⟩
      case measure => simp [intOf]
    · have HE := hidM (And.intro h1 h2)
      clear h1 h2 HR
      go_wp2_with fail
      go_end0
      exact ⟨rfl, HE.out⟩
theorem alone43 (p P : Nat) (ps : List (Int × Int)) (a : Int) (W : World) (hp : W.heap[p]? = some (.cells #[.func (.func 27) #[] #[.pointer (some ⟨P, 0, none⟩)]] 79)) (hP : PAt W P ps) (hn : ps.length ≤ 100) : Calls Tryz.prog 43 #[.int .i64 a, .pointer (some ⟨p, 0, none⟩)] W fun e w' => e = .returned (.tuple #[]) ∧ FrP P W w' ∧ PAt w' P (ps ++ [(a, (-1))]) := by
  have HC := hidM (lay27 P ps a (-1) W hP hn)
  have c0 := cell1 hp
  clear hp hP
  go_enter Tryz.func43, Tryz.ntmps43
  go_wp2_with (go_at_call 27; refine HC.out.mono ?_; rintro e w1 ⟨rfl, g1, g2⟩; have HE := hidM (And.intro g1 g2); clear g1 g2)
  go_end0
  exact ⟨rfl, HE.out⟩
theorem alone44 (p P : Nat) (ps : List (Int × Int)) (a : Int) (W : World) (hp : W.heap[p]? = some (.cells #[.func (.func 27) #[] #[.pointer (some ⟨P, 0, none⟩)]] 79)) (hP : PAt W P ps) (hn : ps.length ≤ 100) : Calls Tryz.prog 44 #[.int .i64 a, .pointer (some ⟨p, 0, none⟩)] W fun e w' => e = .returned (.tuple #[]) ∧ FrP P W w' ∧ PAt w' P (ps ++ [((-1), a)]) := by
  have HC := hidM (lay27 P ps (-1) a W hP hn)
  have c0 := cell1 hp
  clear hp hP
  go_enter Tryz.func44, Tryz.ntmps44
  go_wp2_with (go_at_call 27; refine HC.out.mono ?_; rintro e w1 ⟨rfl, g1, g2⟩; have HE := hidM (And.intro g1 g2); clear g1 g2)
  go_end0
  exact ⟨rfl, HE.out⟩
end Go.Proofs.YteggcdhibcjneaaGreatDoor.Kit
namespace Go.Proofs.YteggcdhibcjneaaGreatDoor.Kit
variable {nx : Bool}
open Go.RowKit Go.Shelf Go.Deep
open Go.Proofs.YteggcdhibcjneaaGreatDoor.Kd (Ans AnsV cell5 cell2)
set_option linter.unusedVariables false
set_option linter.unusedSimpArgs false
attribute [local go_sem] run_store_func

theorem eqPairs8 (g c h d : Nat) (W : World) (hh : W.cell? ⟨g, 0, none⟩ = some (.int .i64 0) ∧ W.cell? ⟨g, 1, none⟩ = some (.int .i64 1) ∧ W.cell? ⟨g, 2, none⟩ = some (.int .i64 1) ∧ W.cell? ⟨g, 3, none⟩ = some (.int .i64 (-1)) ∧ W.cell? ⟨g, 4, none⟩ = some (.int .i64 2) ∧ W.cell? ⟨g, 5, none⟩ = some (.int .i64 1) ∧ W.cell? ⟨g, 6, none⟩ = some (.int .i64 (-1)) ∧ W.cell? ⟨g, 7, none⟩ = some (.int .i64 0) ∧ W.cell? ⟨h, 0, none⟩ = some (.int .i64 0) ∧ W.cell? ⟨h, 1, none⟩ = some (.int .i64 1) ∧ W.cell? ⟨h, 2, none⟩ = some (.int .i64 1) ∧ W.cell? ⟨h, 3, none⟩ = some (.int .i64 (-1)) ∧ W.cell? ⟨h, 4, none⟩ = some (.int .i64 2) ∧ W.cell? ⟨h, 5, none⟩ = some (.int .i64 1) ∧ W.cell? ⟨h, 6, none⟩ = some (.int .i64 (-1)) ∧ W.cell? ⟨h, 7, none⟩ = some (.int .i64 0)) : Calls Tryz.prog 8 #[.slice (some ⟨g, 0, none⟩) 4 c, .slice (some ⟨h, 0, none⟩) 4 d] W fun e w' => e = .returned (.bool true) ∧ Gr W w' := by
  obtain ⟨a0, a1, a2, a3, a4, a5, a6, a7, b0, b1, b2, b3, b4, b5, b6, b7⟩ := hh
  have HSS : Hid (∀ u, Gr W u → u.cell? ⟨g, 0, none⟩ = some (.int .i64 0) ∧ u.cell? ⟨g, 1, none⟩ = some (.int .i64 1) ∧ u.cell? ⟨g, 2, none⟩ = some (.int .i64 1) ∧ u.cell? ⟨g, 3, none⟩ = some (.int .i64 (-1)) ∧ u.cell? ⟨g, 4, none⟩ = some (.int .i64 2) ∧ u.cell? ⟨g, 5, none⟩ = some (.int .i64 1) ∧ u.cell? ⟨g, 6, none⟩ = some (.int .i64 (-1)) ∧ u.cell? ⟨g, 7, none⟩ = some (.int .i64 0) ∧ u.cell? ⟨h, 0, none⟩ = some (.int .i64 0) ∧ u.cell? ⟨h, 1, none⟩ = some (.int .i64 1) ∧ u.cell? ⟨h, 2, none⟩ = some (.int .i64 1) ∧ u.cell? ⟨h, 3, none⟩ = some (.int .i64 (-1)) ∧ u.cell? ⟨h, 4, none⟩ = some (.int .i64 2) ∧ u.cell? ⟨h, 5, none⟩ = some (.int .i64 1) ∧ u.cell? ⟨h, 6, none⟩ = some (.int .i64 (-1)) ∧ u.cell? ⟨h, 7, none⟩ = some (.int .i64 0)) := fun u g => ⟨g.cell' a0 id, g.cell' a1 id, g.cell' a2 id, g.cell' a3 id, g.cell' a4 id, g.cell' a5 id, g.cell' a6 id, g.cell' a7 id, g.cell' b0 id, g.cell' b1 id, g.cell' b2 id, g.cell' b3 id, g.cell' b4 id, g.cell' b5 id, g.cell' b6 id, g.cell' b7 id⟩
  clear a0 a1 a2 a3 a4 a5 a6 a7 b0 b1 b2 b3 b4 b5 b6 b7
  have hq0 : ∀ w, (Op.equalIn 10000 41 (.agg #[.int .i64 0, .int .i64 1]) (.agg #[.int .i64 0, .int .i64 1])).run Tryz.prog w = .ok true w := fun w => by kernel_rfl
  have hq1 : ∀ w, (Op.equalIn 10000 41 (.agg #[.int .i64 1, .int .i64 (-1)]) (.agg #[.int .i64 1, .int .i64 (-1)])).run Tryz.prog w = .ok true w := fun w => by kernel_rfl
  have hq2 : ∀ w, (Op.equalIn 10000 41 (.agg #[.int .i64 2, .int .i64 1]) (.agg #[.int .i64 2, .int .i64 1])).run Tryz.prog w = .ok true w := fun w => by kernel_rfl
  have hq3 : ∀ w, (Op.equalIn 10000 41 (.agg #[.int .i64 (-1), .int .i64 0]) (.agg #[.int .i64 (-1), .int .i64 0])).run Tryz.prog w = .ok true w := fun w => by kernel_rfl
  go_enter Tryz.func8, Tryz.ntmps8
  go_wp2_with fail
  go_loopw [13] (fun i wr => ∃ k : Nat, k ≤ 4 ∧ i = .int .i64 k ∧ Hid (Gr W wr)) (fun i _ => 4 - (intOf i).toNat)
  case atStart => exact ⟨0, by omega, rfl, Keeps.refl _ _⟩
  case round =>
    obtain ⟨k, hk, rfl, HG⟩ := hrel
    have hk3 : k = 0 ∨ k = 1 ∨ k = 2 ∨ k = 3 ∨ k = 4 := by omega
    have HD := hidM (HG.out.trans (gr_drew (w := wr)) (fun _ _ h => h))
    have HA := hidM (HSS.out wr.drew HD.out)
    rcases hk3 with rfl | rfl | rfl | rfl | rfl
    · have HS : Hid (wr.drew.cell? ⟨g, 0, none⟩ = some (.int .i64 0) ∧ wr.drew.cell? ⟨g, 1, none⟩ = some (.int .i64 1) ∧ wr.drew.cell? ⟨h, 0, none⟩ = some (.int .i64 0) ∧ wr.drew.cell? ⟨h, 1, none⟩ = some (.int .i64 1)) := by
        obtain ⟨a0, a1, -, -, -, -, -, -, b0, b1, -, -, -, -, -, -⟩ := HA.out
        exact ⟨a0, a1, b0, b1⟩
      go_wp2_with fail
      go_region_held3 (fun u => u.cell? ⟨g, 0, none⟩ = some (.int .i64 0) ∧ u.cell? ⟨g, 1, none⟩ = some (.int .i64 1) ∧ u.cell? ⟨h, 0, none⟩ = some (.int .i64 0) ∧ u.cell? ⟨h, 1, none⟩ = some (.int .i64 1)) (first | with_reducible exact HS.out) (fail)
      go_wp2_with fail
      go_roundw
      case rel => exact ⟨1, by omega, by go_num, HD⟩
      case measure => simp [intOf]
    · have HS : Hid (wr.drew.cell? ⟨g, 2, none⟩ = some (.int .i64 1) ∧ wr.drew.cell? ⟨g, 3, none⟩ = some (.int .i64 (-1)) ∧ wr.drew.cell? ⟨h, 2, none⟩ = some (.int .i64 1) ∧ wr.drew.cell? ⟨h, 3, none⟩ = some (.int .i64 (-1))) := by
        obtain ⟨-, -, a2, a3, -, -, -, -, -, -, b2, b3, -, -, -, -⟩ := HA.out
        exact ⟨a2, a3, b2, b3⟩
      go_wp2_with fail
      go_region_held3 (fun u => u.cell? ⟨g, 2, none⟩ = some (.int .i64 1) ∧ u.cell? ⟨g, 3, none⟩ = some (.int .i64 (-1)) ∧ u.cell? ⟨h, 2, none⟩ = some (.int .i64 1) ∧ u.cell? ⟨h, 3, none⟩ = some (.int .i64 (-1))) (first | with_reducible exact HS.out) (fail)
      go_wp2_with fail
      go_roundw
      case rel => exact ⟨2, by omega, by go_num, HD⟩
      case measure => simp [intOf]
    · have HS : Hid (wr.drew.cell? ⟨g, 4, none⟩ = some (.int .i64 2) ∧ wr.drew.cell? ⟨g, 5, none⟩ = some (.int .i64 1) ∧ wr.drew.cell? ⟨h, 4, none⟩ = some (.int .i64 2) ∧ wr.drew.cell? ⟨h, 5, none⟩ = some (.int .i64 1)) := by
        obtain ⟨-, -, -, -, a4, a5, -, -, -, -, -, -, b4, b5, -, -⟩ := HA.out
        exact ⟨a4, a5, b4, b5⟩
      go_wp2_with fail
      go_region_held3 (fun u => u.cell? ⟨g, 4, none⟩ = some (.int .i64 2) ∧ u.cell? ⟨g, 5, none⟩ = some (.int .i64 1) ∧ u.cell? ⟨h, 4, none⟩ = some (.int .i64 2) ∧ u.cell? ⟨h, 5, none⟩ = some (.int .i64 1)) (first | with_reducible exact HS.out) (fail)
      go_wp2_with fail
      go_roundw
      case rel => exact ⟨3, by omega, by go_num, HD⟩
      case measure => simp [intOf]
    · have HS : Hid (wr.drew.cell? ⟨g, 6, none⟩ = some (.int .i64 (-1)) ∧ wr.drew.cell? ⟨g, 7, none⟩ = some (.int .i64 0) ∧ wr.drew.cell? ⟨h, 6, none⟩ = some (.int .i64 (-1)) ∧ wr.drew.cell? ⟨h, 7, none⟩ = some (.int .i64 0)) := by
        obtain ⟨-, -, -, -, -, -, a6, a7, -, -, -, -, -, -, b6, b7⟩ := HA.out
        exact ⟨a6, a7, b6, b7⟩
      go_wp2_with fail
      go_region_held3 (fun u => u.cell? ⟨g, 6, none⟩ = some (.int .i64 (-1)) ∧ u.cell? ⟨g, 7, none⟩ = some (.int .i64 0) ∧ u.cell? ⟨h, 6, none⟩ = some (.int .i64 (-1)) ∧ u.cell? ⟨h, 7, none⟩ = some (.int .i64 0)) (first | with_reducible exact HS.out) (fail)
      go_wp2_with fail
      go_roundw
      case rel => exact ⟨4, by omega, by go_num, HD⟩
      case measure => simp [intOf]
    · go_wp2_with fail
      go_ret
      exact ⟨rfl, HG.out⟩
end Go.Proofs.YteggcdhibcjneaaGreatDoor.Kit
