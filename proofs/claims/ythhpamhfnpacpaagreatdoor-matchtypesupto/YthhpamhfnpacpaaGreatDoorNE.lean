import Derived.Test.YthhpamhfnpacpaaGreatDoorMS
set_option linter.unusedVariables false
set_option linter.unusedSimpArgs false
set_option maxRecDepth 100000
set_option maxHeartbeats 8000000
namespace Go.Proofs.YthhpamhfnpacpaaGreatDoor.Kit
variable {nx : Bool}
open Go.RowKit Go.Shelf Go.Deep
open Kd (Ans cell5 cell2)
attribute [local go_sem] run_store_func
theorem meeting29_no (rb rc m l2 c2 : Nat) (l : List (Int × Value)) (x : Int) (hx : x = 5 ∨ x = 7 ∨ x = 8) (W : World) (hm : MpAt W m l) (hn : lkO l (hR x) 0 = none) (h2 : RwV W l2 x) : Calls Tryz.prog 48 #[.agg #[.slice (some ⟨rb, 0, none⟩) 2 rc, .map (some m)], .agg #[.bool false, .int .i64 0, .string ⟨#[]⟩, .slice (some ⟨l2, 0, none⟩) 1 c2]] W fun e w' => e = .returned (.slice none 0 0) ∧ Gr W w' := by
 obtain ⟨A0, hA0, g0, b0⟩ := nw W (.cells #[.slice (some ⟨rb, 0, none⟩) 2 rc, .map (some m)] 104)
 obtain ⟨A1, hA1, g1, b1⟩ := nw A0 (.cells #[.bool false, .int .i64 0, .string ⟨#[]⟩, .slice (some ⟨l2, 0, none⟩) 1 c2] 108)
 have gW : Gr W A1 := g0.tr g1
 have HG := hidM gW
 obtain ⟨e0, e1⟩ := cell2 ((g1.block _ (lt_of_heap b0) id).trans b0)
 obtain ⟨d0, d1, d2, d3⟩ := cell4 b1
 have HS : Hid (∀ u, Gr A1 u → u.cell? ⟨W.heap.size, 0, none⟩ = some (.slice (some ⟨rb, 0, none⟩) 2 rc) ∧ u.cell? ⟨W.heap.size, 1, none⟩ = some (.map (some m)) ∧ u.cell? ⟨A0.heap.size, 0, none⟩ = some (.bool false) ∧ u.cell? ⟨A0.heap.size, 1, none⟩ = some (.int .i64 0) ∧ u.cell? ⟨A0.heap.size, 2, none⟩ = some (.string ⟨#[]⟩) ∧ u.cell? ⟨A0.heap.size, 3, none⟩ = some (.slice (some ⟨l2, 0, none⟩) 1 c2)) := fun u g => ⟨g.cell' e0 id, g.cell' e1 id, g.cell' d0 id, g.cell' d1 id, g.cell' d2 id, g.cell' d3 id⟩
 have HC1 := hidM (hash47r l2 c2 x A1 (h2.gr gW) hx)
 have HC2 : Hid (∀ u, Gr A1 u → Calls Tryz.prog 71 #[.agg #[.slice (some ⟨rb, 0, none⟩) 2 rc, .map (some m)], .int .u64 (hR x), .agg #[.bool false, .int .i64 0, .string ⟨#[]⟩, .slice (some ⟨l2, 0, none⟩) 1 c2]] u fun e w' => e = .returned (.int .i64 (-1)) ∧ Gr u w') := fun u g => place48_no rb rc m l2 c2 l (hR x) u (((gW.tr g).block _ (lt_of_heap hm) id).trans hm) hn
 clear g0 b0 g1 b1 gW hm hn h2
 go_enter Tryz.func48, Tryz.ntmps48
 go_wp2_with (first
  | (go_at_call 70; refine HC1.out.mono ?_; rintro e w1 ⟨rfl, g1⟩; have HG1 := hidM g1; clear e0 e1 d0 d1 d2 d3 hA0 hA1; obtain ⟨e0, e1, d0, d1, d2, d3⟩ := HS.out w1 g1; clear g1)
  | (go_at_call 71; refine (HC2.out w1 HG1.out).mono ?_; rintro e w2 ⟨rfl, g2⟩; have HG2 := hidM (HG1.out.tr g2); clear g2))
 go_ret
 exact ⟨rfl, HG.out.tr HG2.out⟩
theorem meeting29_1 (rb rc m l2 c2 lb lc ib ic l1 c1 : Nat) (l : List (Int × Value)) (x : Int) (hx : x = 5 ∨ x = 7 ∨ x = 8) (W : World) (hm : MpAt W m l) (hn : lkV l (hR x) = .slice (some ⟨lb, 0, none⟩) 1 lc) (hl : W.cell? ⟨lb, 0, none⟩ = some (.slice (some ⟨ib, 0, none⟩) 1 ic)) (hi : W.cell? ⟨ib, 0, none⟩ = some (.int .i64 1)) (hr : W.cell? ⟨rb, 4, none⟩ = some (.bool false) ∧ W.cell? ⟨rb, 5, none⟩ = some (.int .i64 0) ∧ W.cell? ⟨rb, 6, none⟩ = some (.string ⟨#[]⟩) ∧ W.cell? ⟨rb, 7, none⟩ = some (.slice (some ⟨l1, 0, none⟩) 1 c1)) (h1 : RwV W l1 x) (h2 : RwV W l2 x) : Calls Tryz.prog 48 #[.agg #[.slice (some ⟨rb, 0, none⟩) 2 rc, .map (some m)], .agg #[.bool false, .int .i64 0, .string ⟨#[]⟩, .slice (some ⟨l2, 0, none⟩) 1 c2]] W fun e w' => e = .returned (.slice (some ⟨ib, 0, none⟩) 1 ic) ∧ Gr W w' := by
 obtain ⟨A0, hA0, g0, b0⟩ := nw W (.cells #[.slice (some ⟨rb, 0, none⟩) 2 rc, .map (some m)] 104)
 obtain ⟨A1, hA1, g1, b1⟩ := nw A0 (.cells #[.bool false, .int .i64 0, .string ⟨#[]⟩, .slice (some ⟨l2, 0, none⟩) 1 c2] 108)
 have gW : Gr W A1 := g0.tr g1
 have HG := hidM gW
 obtain ⟨e0, e1⟩ := cell2 ((g1.block _ (lt_of_heap b0) id).trans b0)
 obtain ⟨d0, d1, d2, d3⟩ := cell4 b1
 have HS : Hid (∀ u, Gr A1 u → u.cell? ⟨W.heap.size, 0, none⟩ = some (.slice (some ⟨rb, 0, none⟩) 2 rc) ∧ u.cell? ⟨W.heap.size, 1, none⟩ = some (.map (some m)) ∧ u.cell? ⟨A0.heap.size, 0, none⟩ = some (.bool false) ∧ u.cell? ⟨A0.heap.size, 1, none⟩ = some (.int .i64 0) ∧ u.cell? ⟨A0.heap.size, 2, none⟩ = some (.string ⟨#[]⟩) ∧ u.cell? ⟨A0.heap.size, 3, none⟩ = some (.slice (some ⟨l2, 0, none⟩) 1 c2)) := fun u g => ⟨g.cell' e0 id, g.cell' e1 id, g.cell' d0 id, g.cell' d1 id, g.cell' d2 id, g.cell' d3 id⟩
 have HC1 := hidM (hash47r l2 c2 x A1 (h2.gr gW) hx)
 have HC2 : Hid (∀ u, Gr A1 u → Calls Tryz.prog 71 #[.agg #[.slice (some ⟨rb, 0, none⟩) 2 rc, .map (some m)], .int .u64 (hR x), .agg #[.bool false, .int .i64 0, .string ⟨#[]⟩, .slice (some ⟨l2, 0, none⟩) 1 c2]] u (fun e w' => e = .returned (.int .i64 0) ∧ Gr u w') ∧ (Instr.lookup 102 (.map (some m)) (.int .u64 (hR x)) false).run Tryz.prog u = .ok (.slice (some ⟨lb, 0, none⟩) 1 lc) u ∧ u.cell? ⟨lb, 0, none⟩ = some (.slice (some ⟨ib, 0, none⟩) 1 ic)) := fun u g => by
  have k := gW.tr g
  obtain ⟨r0, r1, r2, r3⟩ := hr
  have hmu := (k.block _ (lt_of_heap hm) id).trans hm
  refine ⟨place48_1 rb rc m l2 c2 lb lc ib ic l1 c1 l (hR x) x hx u hmu hn (k.cell' hl id) (k.cell' hi id) ⟨k.cell' r0 id, k.cell' r1 id, k.cell' r2 id, k.cell' r3 id⟩ (h1.gr k) (h2.gr k), ?_, k.cell' hl id⟩
  have := run_lk u m l (hR x) hmu
  rw [hn] at this
  exact this
 clear g0 b0 g1 b1 gW hm hn hl hi hr h1 h2
 go_enter Tryz.func48, Tryz.ntmps48
 go_wp2_with (first
  | (go_at_call 70; refine HC1.out.mono ?_; rintro e w1 ⟨rfl, g1⟩; have HG1 := hidM g1; clear e0 e1 d0 d1 d2 d3 hA0 hA1; obtain ⟨e0, e1, d0, d1, d2, d3⟩ := HS.out w1 g1; clear g1)
  | (go_at_call 71; refine (HC2.out w1 HG1.out).1.mono ?_; rintro e w2 ⟨rfl, g2⟩; have HG2 := hidM (HG1.out.tr g2); clear e0 e1 d0 d1 d2 d3; obtain ⟨e0, e1, d0, d1, d2, d3⟩ := HS.out w2 HG2.out; obtain ⟨-, hlk, hlb⟩ := HC2.out w2 HG2.out; clear g2))
 go_ret
 exact ⟨rfl, HG.out.tr HG2.out⟩
theorem info41 : (Tryz.prog.info? 45).map (fun i => (i.zero, i.size, i.bytes)) = some (some (.agg #[.int .i64 0, .int .i64 0]), 2, 16) := by kernel_rfl
theorem src41 {Z : World} {z : Nat} {x y : Int} (h : Z.heap[z]? = some (.cells #[.int .i64 x, .int .i64 y] 45)) : Src Tryz.prog 2 40 (.slice (some ⟨z, 0, none⟩) 1 1) 1 [.int .i64 x, .int .i64 y] Z := by
 refine Src.ofSlice (w := Z) Tryz.underlying40 ⟨z, 0, none⟩ 1 1 [.int .i64 x, .int .i64 y] rfl (fun j v hj => ?_) (fun v hv => by simp at hv; rcases hv with rfl | rfl <;> rfl)
 rw [Addr.add_lit, Nat.zero_add]
 obtain ⟨c0, c1⟩ := cell2 h
 match j, hj with
 | 0, hj => cases hj; exact c0
 | 1, hj => cases hj; exact c1
 | j + 2, hj => simp at hj
def flat2 : List (Int × Int) → List Value
 | [] => []
 | p :: l => .int .i64 p.1 :: .int .i64 p.2 :: flat2 l
theorem flat2_snoc (a b : Int) : ∀ l : List (Int × Int), flat2 (l ++ [(a, b)]) = flat2 l ++ [.int .i64 a, .int .i64 b]
 | [] => rfl
 | p :: l => by simp [flat2, flat2_snoc a b l]
def FrP (P : Nat) (W u : World) : Prop := Keeps W u (fun z => z = P ∨ P ≤ z ∧ ∃ c f, W.heap[z]? = some (.cells c 45 f))
theorem FrP.ofGr {P : Nat} {W u : World} (g : Gr W u) : FrP P W u := g.mono fun _ _ h => h.elim
theorem FrP.trans {P : Nat} {W u v : World} (h1 : FrP P W u) (h2 : FrP P u v) : FrP P W v := by
 refine Keeps.trans h1 h2 fun j hj e => ?_
 by_cases hp : j = P
 ·exact .inl hp
 by_cases hc : P ≤ j ∧ ∃ c f, W.heap[j]? = some (.cells c 45 f)
 ·exact .inr hc
 rcases e with e | ⟨hl, c, f, e⟩
 ·exact absurd e hp
 have := Keeps.block h1 j hj (fun e' => by rcases e' with e' | e'; exact hp e'; exact hc e')
 exact absurd ⟨hl, c, f, this ▸ e⟩ hc
theorem FrP.cells {P z t : Nat} {c : Array Value} {W u : World} (h : FrP P W u) (hz : W.heap[z]? = some (.cells c t)) (hp : z ≠ P) (ht : t ≠ 45) : u.heap[z]? = some (.cells c t) := by
 refine (Keeps.block h z (lt_of_heap hz) fun e => ?_).trans hz
 rcases e with e | ⟨-, c', f, e⟩
 ·exact hp e
 rw [hz] at e
 simp at e
 exact ht e.2.1
theorem FrP.low {P z : Nat} {W u : World} (h : FrP P W u) (hz : z < W.heap.size) (hp : z < P) : u.heap[z]? = W.heap[z]? :=
 Keeps.block h z hz fun e => by rcases e with e | ⟨e, -⟩ <;> omega
def PAt (W : World) (P : Nat) (ps : List (Int × Int)) : Prop := ∃ v, W.heap[P]? = some (.cells #[v] 40) ∧ W.ownsRow 0 45 2 v ps.length (flat2 ps) ∧ ∀ g, v.ownBlock = some g → P ≤ g
theorem lay27 (P : Nat) (ps : List (Int × Int)) (a b : Int) (W : World) (hP : PAt W P ps) (hn : ps.length ≤ 100) : Calls Tryz.prog 46 #[.int .i64 a, .int .i64 b, .pointer (some ⟨P, 0, none⟩)] W fun e w' => e = .returned (.tuple #[]) ∧ FrP P W w' ∧ PAt w' P (ps ++ [(a, b)]) := by
 obtain ⟨v, hb, ho, hge⟩ := hP
 have hlP := lt_of_heap hb
 obtain ⟨A0, hA0, g0, b0⟩ := nw W (.cells #[.int .i64 a, .int .i64 b] 45)
 have c0 := cell1 hb
 have HO : Hid (A0.ownsRow 0 45 2 v ps.length (flat2 ps)) := row_kp ho fun g e => g0.block g (own_lt ho g e) id
 have HS := hidM (src41 b0)
 have HB := hidM ((g0.block _ (lt_of_heap hb) id).trans hb)
 have HG := hidM g0
 have HGE := hidM hge
 have HLE := hidM (Nat.le_trans (Nat.le_of_lt hlP) g0.size)
 obtain ⟨vo, vc, rfl⟩ := own_formN ho
 clear g0 b0 ho hb hge hlP
 go_enter Tryz.func46, Tryz.ntmps46
 go_wp2_with (at_builtin; refine Hid.out ?_)
 unfold Hid
 refine wpList_append_anyN (P := Tryz.prog) _ rfl (.tmp 5) (.tmp 9) 40 40 rfl 45 (.agg #[.int .i64 0, .int .i64 0]) 2 16 Tryz.underlying40 info41 rfl (.slice vo ps.length vc) ps.length (flat2 ps) rfl HO.out (.slice (some ⟨W.heap.size, 0, none⟩) 1 1) 1 [.int .i64 a, .int .i64 b] rfl HS.out (by omega) (by omega) ?_
 intro v' w3 ha1 ha2 ha3
 have hk := Keeps.ofGrown ha2
 have hPn : ∀ g, (Value.slice vo ps.length vc).ownBlock = some g → P ≠ g := fun g e h => own_ne HB.out HO.out (by decide) (h ▸ e)
 have h3 : w3.heap[P]? = some (.cells #[.slice vo ps.length vc] 40) := (hk.block P (lt_of_heap HB.out) (fun e => hPn _ e rfl)).trans HB.out
 obtain ⟨uo, uc, rfl⟩ := own_formN ha1
 obtain ⟨U, hU⟩ := ex (w3.setCell ⟨P, 0, none⟩ (.slice uo (ps.length + 1) uc))
 have HE : Hid (FrP P W U ∧ PAt U P (ps ++ [(a, b)])) := by
  have f1 : FrP P A0 w3 := hk.mono fun j hj e => by
   have hl := HGE.out j e
   obtain ⟨-, ⟨h0, -⟩ | ⟨g, cap, cur, hv, -, hg, -⟩⟩ := HO.out
   ·rw [h0] at e
    simp [Value.ownBlock] at e
   rw [hv] at e
   simp [Value.ownBlock] at e
   exact .inr ⟨hl, cur, (0, 0), e ▸ hg⟩
  have f2 : FrP P w3 U := by
   rw [← hU]
   exact (Keeps.setCell (S := fun z => z = P) (p := ⟨P, 0, none⟩) (Keeps.refl w3 _) (fun _ => rfl) _).mono fun j hj e => .inl e
  refine ⟨((FrP.ofGr HG.out).trans f1).trans f2, .slice uo (ps.length + 1) uc, by rw [← hU, heap_setCell_same w3 P 0 _ _ _ h3]; rfl, ?_, fun g e => ha3.elim (fun h => HGE.out g (h ▸ e)) (fun h => Nat.le_trans HLE.out (h g e))⟩
  rw [flat2_snoc, List.length_append]
  refine row_kp ha1 fun g e => ?_
  rw [← hU]
  exact heap_setCell_other _ _ _ _ (fun h => own_ne h3 ha1 (by decide) (by rw [e, h]))
 have c3 := cell1 h3
 have z3 := frz h3 0
 clear ha1 ha2 ha3 hk hPn h3
 go_wp2_with fail
 go_end0
 exact ⟨rfl, HE.out⟩
theorem results_cell77 {fn : Func} {t : Tmp} {tmps : Array Value} {g : Nat} {cs : Array Value} {w : World} (h : fn.results = #[.cell t 99]) (ht : tmps.getD t undef = .pointer (some ⟨g, 0, none⟩)) (hg : w.heap[g]? = some (.cells cs 99 (0, 0))) (hi : (Tryz.prog.info? 99).map (·.size) = some cs.size) :
  (results fn tmps).run Tryz.prog w = .ok (.agg cs) w := by
 have hl := run_loadVar_row (P := Tryz.prog) w g 99 99 cs (0, 0) _ hg Tryz.underlying99 rfl hi
 unfold results
 rw [h]
 simp only [Array.mapM_eq_mapM_toList, List.mapM_cons, List.mapM_nil, ht]
 simp [asAddr, hl]
theorem manner26 (P : Nat) (W : World) : Calls Tryz.prog 45 #[.int .i64 3, .func (.func 46) #[] #[.pointer (some ⟨P, 0, none⟩)]] W fun e w' => ∃ p, e = .returned (.agg #[.func (.func 63) #[] #[.pointer (some ⟨p, 0, none⟩)], .func (.func 66) #[] #[.pointer (some ⟨p, 0, none⟩)], .func (.func 67) #[] #[.pointer (some ⟨p, 0, none⟩)]]) ∧ Gr W w' ∧ w'.heap[p]? = some (.cells #[.func (.func 46) #[] #[.pointer (some ⟨P, 0, none⟩)]] 101) := by
 have hmf := mkf
 obtain ⟨A0, hA0, g0, b0⟩ := nw W (.cells #[.func (.func 46) #[] #[.pointer (some ⟨P, 0, none⟩)]] 101)
 obtain ⟨A1, hA1, g1, b1⟩ := nw A0 (.cells #[.nilFunc, .nilFunc, .nilFunc] 99)
 have gW : Gr W A1 := g0.tr g1
 have s0 := sz_al hA0
 obtain ⟨U, hU⟩ := ex (setAll A1 A0.heap.size [(0, .func (.func 63) #[] #[.pointer (some ⟨W.heap.size, 0, none⟩)]), (1, .func (.func 66) #[] #[.pointer (some ⟨W.heap.size, 0, none⟩)]), (2, .func (.func 67) #[] #[.pointer (some ⟨W.heap.size, 0, none⟩)])])
 have k1 : Keeps A1 U (fun z => z = A0.heap.size) := by rw [← hU]; exact setAll_kp _ _ _
 have HU : Hid (U.heap[A0.heap.size]? = some (.cells #[.func (.func 63) #[] #[.pointer (some ⟨W.heap.size, 0, none⟩)], .func (.func 66) #[] #[.pointer (some ⟨W.heap.size, 0, none⟩)], .func (.func 67) #[] #[.pointer (some ⟨W.heap.size, 0, none⟩)]] 99)) := by
  rw [← hU]
  show (setAll A1 A0.heap.size [(0, .func (.func 63) #[] #[.pointer (some ⟨W.heap.size, 0, none⟩)]), (1, .func (.func 66) #[] #[.pointer (some ⟨W.heap.size, 0, none⟩)]), (2, .func (.func 67) #[] #[.pointer (some ⟨W.heap.size, 0, none⟩)])]).heap[A0.heap.size]? = _
  rw [setAll_blk A0.heap.size 99 _ _ _ b1]
  simp [setsA]
 have c0 := (g1.block _ (lt_of_heap b0) id).trans b0
 have HE : Hid (Gr W U ∧ U.heap[W.heap.size]? = some (.cells #[.func (.func 46) #[] #[.pointer (some ⟨P, 0, none⟩)]] 101)) := ⟨gW.trans k1 (fun j hj (e : j = A0.heap.size) => by omega), (k1.block _ (lt_of_heap c0) (fun e => by have e' : W.heap.size = A0.heap.size := e; omega)).trans c0⟩
 obtain ⟨y0, y1, y2⟩ := cell3V b1
 have yz := frzA b1
 simp only [setAll] at hU
 have hix : ∀ (a0 a1 a2 a3 a4 a5 a6 a7 a8 a9 a10 a11 a12 a13 a14 a15 a16 a17 : Value) (w : World), (Instr.index 132 (.agg #[a0, a1, a2, a3, a4, a5, a6, a7, a8, a9, a10, a11, a12, a13, a14, a15, a16, a17]) (.int .i64 3)).run Tryz.prog w = .ok (.agg #[a9, a10, a11]) w := fun _ _ _ _ _ _ _ _ _ _ _ _ _ _ _ _ _ _ w => by kernel_rfl
 clear g0 b0 g1 b1 gW s0 k1 c0
 go_enter Tryz.func45, Tryz.ntmps45
 go_wp2_with fail
 (try simp only [Exit.inBlock, Exit.then])
 refine bodyPost_ret (results_cell77 rfl rfl (by with_reducible exact HU.out) (by kernel_rfl)) rfl ?_
 exact ⟨_, rfl, HE.out⟩
theorem all40 (p P ib ic : Nat) (ps : List (Int × Int)) (a : Int) (W : World) (hp : W.heap[p]? = some (.cells #[.func (.func 46) #[] #[.pointer (some ⟨P, 0, none⟩)]] 101)) (hi : W.cell? ⟨ib, 0, none⟩ = some (.int .i64 1)) (hP : PAt W P ps) (hn : ps.length ≤ 100) : Calls Tryz.prog 63 #[.int .i64 a, .slice (some ⟨ib, 0, none⟩) 1 ic, .pointer (some ⟨p, 0, none⟩)] W fun e w' => e = .returned (.tuple #[]) ∧ FrP P W w' ∧ PAt w' P (ps ++ [(a, 1)]) := by
 have HC := hidM (lay27 P ps a 1 W hP hn)
 have c0 := cell1 hp
 clear hp hP
 go_enter Tryz.func63, Tryz.ntmps63
 go_wp2_with fail
 go_loopw [9] (fun i wr => ∃ k : Nat, k ≤ 1 ∧ i = .int .i64 k ∧ Hid ((k = 0 ∧ wr = W) ∨ (k = 1 ∧ FrP P W wr ∧ PAt wr P (ps ++ [(a, 1)])))) (fun i _ => 1 - (intOf i).toNat)
 case atStart => exact ⟨0, by omega, rfl, .inl ⟨rfl, rfl⟩⟩
 case round =>
  obtain ⟨k, hk, rfl, HR⟩ := hrel
  rcases HR.out with ⟨rfl, rfl⟩ | ⟨rfl, h1, h2⟩
  ·clear HR
   go_wp2_with (go_at_call 46; refine HC.out.mono ?_; rintro e w1 ⟨rfl, g1, g2⟩; have HE := hidM (And.intro g1 g2); clear g1 g2)
   go_roundw
   case rel => exact ⟨1, by omega, by go_num, .inr ⟨rfl, HE.out⟩⟩
   case measure => simp [intOf]
  have HE := hidM (And.intro h1 h2)
  clear h1 h2 HR
  go_wp2_with fail
  go_end0
  exact ⟨rfl, HE.out⟩
theorem alone43 (p P : Nat) (ps : List (Int × Int)) (a : Int) (W : World) (hp : W.heap[p]? = some (.cells #[.func (.func 46) #[] #[.pointer (some ⟨P, 0, none⟩)]] 101)) (hP : PAt W P ps) (hn : ps.length ≤ 100) : Calls Tryz.prog 66 #[.int .i64 a, .pointer (some ⟨p, 0, none⟩)] W fun e w' => e = .returned (.tuple #[]) ∧ FrP P W w' ∧ PAt w' P (ps ++ [(a, (-1))]) := by
 have HC := hidM (lay27 P ps a (-1) W hP hn)
 have c0 := cell1 hp
 clear hp hP
 go_enter Tryz.func66, Tryz.ntmps66
 go_wp2_with (go_at_call 46; refine HC.out.mono ?_; rintro e w1 ⟨rfl, g1, g2⟩; have HE := hidM (And.intro g1 g2); clear g1 g2)
 go_end0
 exact ⟨rfl, HE.out⟩
theorem alone44 (p P : Nat) (ps : List (Int × Int)) (a : Int) (W : World) (hp : W.heap[p]? = some (.cells #[.func (.func 46) #[] #[.pointer (some ⟨P, 0, none⟩)]] 101)) (hP : PAt W P ps) (hn : ps.length ≤ 100) : Calls Tryz.prog 67 #[.int .i64 a, .pointer (some ⟨p, 0, none⟩)] W fun e w' => e = .returned (.tuple #[]) ∧ FrP P W w' ∧ PAt w' P (ps ++ [((-1), a)]) := by
 have HC := hidM (lay27 P ps (-1) a W hP hn)
 have c0 := cell1 hp
 clear hp hP
 go_enter Tryz.func67, Tryz.ntmps67
 go_wp2_with (go_at_call 46; refine HC.out.mono ?_; rintro e w1 ⟨rfl, g1, g2⟩; have HE := hidM (And.intro g1 g2); clear g1 g2)
 go_end0
 exact ⟨rfl, HE.out⟩
theorem eqPairs8 (g c h d : Nat) (W : World) (hh : W.cell? ⟨g, 0, none⟩ = some (.int .i64 0) ∧ W.cell? ⟨g, 1, none⟩ = some (.int .i64 1) ∧ W.cell? ⟨g, 2, none⟩ = some (.int .i64 1) ∧ W.cell? ⟨g, 3, none⟩ = some (.int .i64 (-1)) ∧ W.cell? ⟨g, 4, none⟩ = some (.int .i64 2) ∧ W.cell? ⟨g, 5, none⟩ = some (.int .i64 1) ∧ W.cell? ⟨g, 6, none⟩ = some (.int .i64 (-1)) ∧ W.cell? ⟨g, 7, none⟩ = some (.int .i64 0) ∧ W.cell? ⟨h, 0, none⟩ = some (.int .i64 0) ∧ W.cell? ⟨h, 1, none⟩ = some (.int .i64 1) ∧ W.cell? ⟨h, 2, none⟩ = some (.int .i64 1) ∧ W.cell? ⟨h, 3, none⟩ = some (.int .i64 (-1)) ∧ W.cell? ⟨h, 4, none⟩ = some (.int .i64 2) ∧ W.cell? ⟨h, 5, none⟩ = some (.int .i64 1) ∧ W.cell? ⟨h, 6, none⟩ = some (.int .i64 (-1)) ∧ W.cell? ⟨h, 7, none⟩ = some (.int .i64 0)) : Calls Tryz.prog 10 #[.slice (some ⟨g, 0, none⟩) 4 c, .slice (some ⟨h, 0, none⟩) 4 d] W fun e w' => e = .returned (.bool true) ∧ Gr W w' := by
 obtain ⟨a0, a1, a2, a3, a4, a5, a6, a7, b0, b1, b2, b3, b4, b5, b6, b7⟩ := hh
 have HSS : Hid (∀ u, Gr W u → u.cell? ⟨g, 0, none⟩ = some (.int .i64 0) ∧ u.cell? ⟨g, 1, none⟩ = some (.int .i64 1) ∧ u.cell? ⟨g, 2, none⟩ = some (.int .i64 1) ∧ u.cell? ⟨g, 3, none⟩ = some (.int .i64 (-1)) ∧ u.cell? ⟨g, 4, none⟩ = some (.int .i64 2) ∧ u.cell? ⟨g, 5, none⟩ = some (.int .i64 1) ∧ u.cell? ⟨g, 6, none⟩ = some (.int .i64 (-1)) ∧ u.cell? ⟨g, 7, none⟩ = some (.int .i64 0) ∧ u.cell? ⟨h, 0, none⟩ = some (.int .i64 0) ∧ u.cell? ⟨h, 1, none⟩ = some (.int .i64 1) ∧ u.cell? ⟨h, 2, none⟩ = some (.int .i64 1) ∧ u.cell? ⟨h, 3, none⟩ = some (.int .i64 (-1)) ∧ u.cell? ⟨h, 4, none⟩ = some (.int .i64 2) ∧ u.cell? ⟨h, 5, none⟩ = some (.int .i64 1) ∧ u.cell? ⟨h, 6, none⟩ = some (.int .i64 (-1)) ∧ u.cell? ⟨h, 7, none⟩ = some (.int .i64 0)) := fun u g => ⟨g.cell' a0 id, g.cell' a1 id, g.cell' a2 id, g.cell' a3 id, g.cell' a4 id, g.cell' a5 id, g.cell' a6 id, g.cell' a7 id, g.cell' b0 id, g.cell' b1 id, g.cell' b2 id, g.cell' b3 id, g.cell' b4 id, g.cell' b5 id, g.cell' b6 id, g.cell' b7 id⟩
 clear a0 a1 a2 a3 a4 a5 a6 a7 b0 b1 b2 b3 b4 b5 b6 b7
 have hq0 : ∀ w, (Op.equalIn 10000 45 (.agg #[.int .i64 0, .int .i64 1]) (.agg #[.int .i64 0, .int .i64 1])).run Tryz.prog w = .ok true w := fun w => by kernel_rfl
 have hq1 : ∀ w, (Op.equalIn 10000 45 (.agg #[.int .i64 1, .int .i64 (-1)]) (.agg #[.int .i64 1, .int .i64 (-1)])).run Tryz.prog w = .ok true w := fun w => by kernel_rfl
 have hq2 : ∀ w, (Op.equalIn 10000 45 (.agg #[.int .i64 2, .int .i64 1]) (.agg #[.int .i64 2, .int .i64 1])).run Tryz.prog w = .ok true w := fun w => by kernel_rfl
 have hq3 : ∀ w, (Op.equalIn 10000 45 (.agg #[.int .i64 (-1), .int .i64 0]) (.agg #[.int .i64 (-1), .int .i64 0])).run Tryz.prog w = .ok true w := fun w => by kernel_rfl
 go_enter Tryz.func10, Tryz.ntmps10
 go_wp2_with fail
 go_loopw [13] (fun i wr => ∃ k : Nat, k ≤ 4 ∧ i = .int .i64 k ∧ Hid (Gr W wr)) (fun i _ => 4 - (intOf i).toNat)
 case atStart => exact ⟨0, by omega, rfl, Keeps.refl _ _⟩
 case round =>
  obtain ⟨k, hk, rfl, HG⟩ := hrel
  have hk3 : k = 0 ∨ k = 1 ∨ k = 2 ∨ k = 3 ∨ k = 4 := by omega
  have HD := hidM (HG.out.tr (gr_drew (w := wr)))
  have HA := hidM (HSS.out wr.drew HD.out)
  rcases hk3 with rfl | rfl | rfl | rfl | rfl
  ·have HS : Hid (wr.drew.cell? ⟨g, 0, none⟩ = some (.int .i64 0) ∧ wr.drew.cell? ⟨g, 1, none⟩ = some (.int .i64 1) ∧ wr.drew.cell? ⟨h, 0, none⟩ = some (.int .i64 0) ∧ wr.drew.cell? ⟨h, 1, none⟩ = some (.int .i64 1)) := by
    obtain ⟨a0, a1, -, -, -, -, -, -, b0, b1, -, -, -, -, -, -⟩ := HA.out
    exact ⟨a0, a1, b0, b1⟩
   go_wp2_with fail
   go_region_held3 (fun u => u.cell? ⟨g, 0, none⟩ = some (.int .i64 0) ∧ u.cell? ⟨g, 1, none⟩ = some (.int .i64 1) ∧ u.cell? ⟨h, 0, none⟩ = some (.int .i64 0) ∧ u.cell? ⟨h, 1, none⟩ = some (.int .i64 1)) (first | with_reducible exact HS.out) (fail)
   go_wp2_with fail
   go_roundw
   case rel => exact ⟨1, by omega, by go_num, HD⟩
   case measure => simp [intOf]
  ·have HS : Hid (wr.drew.cell? ⟨g, 2, none⟩ = some (.int .i64 1) ∧ wr.drew.cell? ⟨g, 3, none⟩ = some (.int .i64 (-1)) ∧ wr.drew.cell? ⟨h, 2, none⟩ = some (.int .i64 1) ∧ wr.drew.cell? ⟨h, 3, none⟩ = some (.int .i64 (-1))) := by
    obtain ⟨-, -, a2, a3, -, -, -, -, -, -, b2, b3, -, -, -, -⟩ := HA.out
    exact ⟨a2, a3, b2, b3⟩
   go_wp2_with fail
   go_region_held3 (fun u => u.cell? ⟨g, 2, none⟩ = some (.int .i64 1) ∧ u.cell? ⟨g, 3, none⟩ = some (.int .i64 (-1)) ∧ u.cell? ⟨h, 2, none⟩ = some (.int .i64 1) ∧ u.cell? ⟨h, 3, none⟩ = some (.int .i64 (-1))) (first | with_reducible exact HS.out) (fail)
   go_wp2_with fail
   go_roundw
   case rel => exact ⟨2, by omega, by go_num, HD⟩
   case measure => simp [intOf]
  ·have HS : Hid (wr.drew.cell? ⟨g, 4, none⟩ = some (.int .i64 2) ∧ wr.drew.cell? ⟨g, 5, none⟩ = some (.int .i64 1) ∧ wr.drew.cell? ⟨h, 4, none⟩ = some (.int .i64 2) ∧ wr.drew.cell? ⟨h, 5, none⟩ = some (.int .i64 1)) := by
    obtain ⟨-, -, -, -, a4, a5, -, -, -, -, -, -, b4, b5, -, -⟩ := HA.out
    exact ⟨a4, a5, b4, b5⟩
   go_wp2_with fail
   go_region_held3 (fun u => u.cell? ⟨g, 4, none⟩ = some (.int .i64 2) ∧ u.cell? ⟨g, 5, none⟩ = some (.int .i64 1) ∧ u.cell? ⟨h, 4, none⟩ = some (.int .i64 2) ∧ u.cell? ⟨h, 5, none⟩ = some (.int .i64 1)) (first | with_reducible exact HS.out) (fail)
   go_wp2_with fail
   go_roundw
   case rel => exact ⟨3, by omega, by go_num, HD⟩
   case measure => simp [intOf]
  ·have HS : Hid (wr.drew.cell? ⟨g, 6, none⟩ = some (.int .i64 (-1)) ∧ wr.drew.cell? ⟨g, 7, none⟩ = some (.int .i64 0) ∧ wr.drew.cell? ⟨h, 6, none⟩ = some (.int .i64 (-1)) ∧ wr.drew.cell? ⟨h, 7, none⟩ = some (.int .i64 0)) := by
    obtain ⟨-, -, -, -, -, -, a6, a7, -, -, -, -, -, -, b6, b7⟩ := HA.out
    exact ⟨a6, a7, b6, b7⟩
   go_wp2_with fail
   go_region_held3 (fun u => u.cell? ⟨g, 6, none⟩ = some (.int .i64 (-1)) ∧ u.cell? ⟨g, 7, none⟩ = some (.int .i64 0) ∧ u.cell? ⟨h, 6, none⟩ = some (.int .i64 (-1)) ∧ u.cell? ⟨h, 7, none⟩ = some (.int .i64 0)) (first | with_reducible exact HS.out) (fail)
   go_wp2_with fail
   go_roundw
   case rel => exact ⟨4, by omega, by go_num, HD⟩
   case measure => simp [intOf]
  go_wp2_with fail
  go_ret
  exact ⟨rfl, HG.out⟩
theorem results_cell36 {fn : Func} {t : Tmp} {tmps : Array Value} {g : Nat} {cs : Array Value} {w : World} (h : fn.results = #[.cell t 31]) (ht : tmps.getD t undef = .pointer (some ⟨g, 0, none⟩)) (hg : w.heap[g]? = some (.cells cs 31 (0, 0))) (hi : (Tryz.prog.info? 31).map (·.size) = some cs.size) :
  (results fn tmps).run Tryz.prog w = .ok (.agg cs) w := by
 have hl := run_loadVar_row (P := Tryz.prog) w g 31 31 cs (0, 0) _ hg Tryz.underlying31 rfl hi
 unfold results
 rw [h]
 simp only [Array.mapM_eq_mapM_toList, List.mapM_cons, List.mapM_nil, ht]
 simp [asAddr, hl]
structure SdA (W : World) (nm : ByteArray) (L : Nat) (vo : Option Addr) (vc g db kb qb : Nat) : Prop where
 f : W.heap[g]? = some (.cells #[.string nm, .bool false, .int .i64 3, .int .i64 0, .int .i64 0, .int .i64 0, .slice none 0 0] 58)
 d : W.heap[db]? = some (.cells #[.int .i64 L, .int .i64 0, .int .i64 0, .slice (some ⟨qb, 0, none⟩) 2 2, .slice none 0 0, .slice none 0 0] 68)
 k : W.cell? ⟨kb, 0, none⟩ = some (.int .i64 0)
 q0 : ∃ bo bc, W.cell? ⟨qb, 0, none⟩ = some (.slice bo 0 bc)
 q1 : W.cell? ⟨qb, 1, none⟩ = some (.slice vo L vc)
theorem SdA.gr {W u : World} {nm : ByteArray} {L : Nat} {vo : Option Addr} {vc g db kb qb : Nat} (h : SdA W nm L vo vc g db kb qb) (k : Gr W u) : SdA u nm L vo vc g db kb qb := ⟨(k.block _ (lt_of_heap h.f) id).trans h.f, (k.block _ (lt_of_heap h.d) id).trans h.d, k.cell' h.k id, h.q0.imp fun _ e => e.imp fun _ e => k.cell' e id, k.cell' h.q1 id⟩
theorem eights6 (nm : ByteArray) (L : Nat) (vo : Option Addr) (vc : Nat) (W : World) : Calls Tryz.prog 9 #[.string nm, .slice vo L vc] W fun e w' => ∃ g db kb qb, e = .returned (.agg #[.slice (some ⟨g, 0, none⟩) 1 1, .slice none 0 0, .int .i64 L, .slice (some ⟨db, 0, none⟩) 1 1, .slice (some ⟨kb, 0, none⟩) 1 1]) ∧ Gr W w' ∧ SdA w' nm L vo vc g db kb qb := by
 obtain ⟨AA, hAA, gA, bA⟩ := nw W (.cells #[.slice none 0 0, .slice none 0 0, .int .i64 0, .slice none 0 0, .slice none 0 0] 31)
 obtain ⟨A0, hA0, gz, bz⟩ := nw AA (.cells #[.string nm, .bool false, .int .i64 3, .int .i64 0, .int .i64 0, .int .i64 0, .slice none 0 0] 58)
 obtain ⟨A1, hA1, g1, b1⟩ := nw A0 (.cells #[.slice (some ⟨AA.heap.size, 0, none⟩) 1 1, .slice none 0 0] 25)
 obtain ⟨A2, hA2, g2, b2⟩ := nw A1 (.cells #[] 5)
 obtain ⟨A3, hA3, g3, b3⟩ := nw A2 (.cells #[.slice (some ⟨A1.heap.size, 0, none⟩) 0 0, .slice vo L vc] 65)
 obtain ⟨A4, hA4, g4, b4⟩ := nw A3 (.cells #[.int .i64 L, .int .i64 0, .int .i64 0, .slice (some ⟨A2.heap.size, 0, none⟩) 2 2, .slice none 0 0, .slice none 0 0] 68)
 obtain ⟨A5, hA5, g5, b5⟩ := nw A4 (.cells #[.int .i64 0] 3)
 have g45 := g4.tr g5
 have g35 := g3.tr g45
 have g25 := g2.tr g35
 have g15 := g1.tr g25
 have gz5 := gz.tr g15
 have gW5 := gA.tr gz5
 have z0 : AA.heap.size = W.heap.size + 1 := by rw [← hAA]; simp
 have zs1 := gz.size
 have zs2 := g1.size
 have zs3 := g2.size
 have zs4 := g3.size
 have zs5 := g4.size
 obtain ⟨U, hU⟩ := ex (setAll A5 W.heap.size [(0, .slice (some ⟨AA.heap.size, 0, none⟩) 1 1), (1, .slice none 0 0), (2, .int .i64 L), (3, .slice (some ⟨A3.heap.size, 0, none⟩) 1 1), (4, .slice (some ⟨A4.heap.size, 0, none⟩) 1 1)])
 have c0 := (gz5.block _ (lt_of_heap bA) id).trans bA
 have k1 : Keeps A5 U (fun z => z = W.heap.size) := by rw [← hU]; exact setAll_kp _ _ _
 have HU : Hid (U.heap[W.heap.size]? = some (.cells #[.slice (some ⟨AA.heap.size, 0, none⟩) 1 1, .slice none 0 0, .int .i64 L, .slice (some ⟨A3.heap.size, 0, none⟩) 1 1, .slice (some ⟨A4.heap.size, 0, none⟩) 1 1] 31)) := by
  rw [← hU]
  show (setAll A5 W.heap.size [(0, .slice (some ⟨AA.heap.size, 0, none⟩) 1 1), (1, .slice none 0 0), (2, .int .i64 L), (3, .slice (some ⟨A3.heap.size, 0, none⟩) 1 1), (4, .slice (some ⟨A4.heap.size, 0, none⟩) 1 1)]).heap[W.heap.size]? = _
  rw [setAll_blk W.heap.size 31 _ _ _ c0]
  simp [setsA]
 have HE : Hid (Gr W U ∧ SdA U nm L vo vc AA.heap.size A3.heap.size A4.heap.size A2.heap.size) := by
  have f5 := (g15.block _ (lt_of_heap bz) id).trans bz
  have d5 := (g5.block _ (lt_of_heap b4) id).trans b4
  obtain ⟨q0, q1⟩ := cell2 ((g45.block _ (lt_of_heap b3) id).trans b3)
  refine ⟨gW5.trans k1 (fun j hj (e : j = W.heap.size) => by omega), (k1.block _ (lt_of_heap f5) (fun e => by have e' : AA.heap.size = W.heap.size := e; omega)).trans f5, (k1.block _ (lt_of_heap d5) (fun e => by have e' : A3.heap.size = W.heap.size := e; omega)).trans d5, k1.cell' (cell1 b5) (fun e => by have e' : A4.heap.size = W.heap.size := e; omega), ⟨_, _, k1.cell' q0 (fun e => by have e' : A2.heap.size = W.heap.size := e; omega)⟩, k1.cell' q1 (fun e => by have e' : A2.heap.size = W.heap.size := e; omega)⟩
 obtain ⟨y0, y1, y2, y3, y4⟩ := cell5 c0
 have yz := frzA c0
 obtain ⟨t0, t1⟩ := cell2 b1
 have tz := frzA b1
 have i0 := set_id (j := 0) (v := .slice (some ⟨AA.heap.size, 0, none⟩) 1 1) b1 rfl
 have i1 := set_id (j := 1) (v := .slice none 0 0) b1 rfl
 simp only [setAll] at hU
 clear gA bA gz bz g1 b1 g2 b2 g3 b3 g4 b4 g5 b5 g45 g35 g25 g15 gz5 gW5 z0 zs1 zs2 zs3 zs4 zs5 c0 k1
 go_enter Tryz.func9, Tryz.ntmps9
 go_wp2_with fail
 (try simp only [Exit.inBlock, Exit.then])
 refine bodyPost_ret (results_cell36 rfl rfl (by with_reducible exact HU.out) (by kernel_rfl)) rfl ?_
 exact ⟨_, _, _, _, rfl, HE.out⟩
def rwK (ls cs : Nat → Nat) (L k : Nat) : Array Value := ((List.range L).flatMap fun i => [.bool false, .int .i64 0, .string ⟨#[]⟩, if i < k then .slice (some ⟨ls i, 0, none⟩) 1 (cs i) else .slice none 0 0]).toArray
def RwsK (xs : Nat → Int) (L gr k : Nat) (u : World) : Prop := ∃ ls cs : Nat → Nat, u.heap[gr]? = some (.cells (rwK ls cs L k) 108) ∧ ∀ i, i < k → gr < ls i ∧ RwV u (ls i) (xs i) ∧ ∃ c, u.heap[ls i]? = some (.cells c 108)
theorem rwK_next (ls cs : Nat → Nat) (g c : Nat) {L k : Nat} (hL : L = 2 ∨ L = 3) (hk : k < L) : (rwK ls cs L k).setIfInBounds (4 * k + 3) (.slice (some ⟨g, 0, none⟩) 1 c) = rwK (fun i => if i = k then g else ls i) (fun i => if i = k then c else cs i) L (k + 1) := by
 rcases LK hL hk with ⟨rfl, rfl⟩ | ⟨rfl, rfl⟩ | ⟨rfl, rfl⟩ | ⟨rfl, rfl⟩ | ⟨rfl, rfl⟩ <;> rfl
theorem rwK_cell {ls cs : Nat → Nat} {L k gr : Nat} {u : World} (hL : L = 2 ∨ L = 3) (hk : k < L) (h : u.heap[gr]? = some (.cells (rwK ls cs L k) 108)) : u.cell? ⟨gr, 4 * k + 3, none⟩ = some (.slice none 0 0) := by
 rcases LK hL hk with ⟨rfl, rfl⟩ | ⟨rfl, rfl⟩ | ⟨rfl, rfl⟩ | ⟨rfl, rfl⟩ | ⟨rfl, rfl⟩ <;> (simp [World.cell?, h]; rfl)
theorem valCells {xs : Nat → Int} {L k gv : Nat} {u : World} (hL : L = 2 ∨ L = 3) (hk : k < L) (h : u.heap[gv]? = some (.cells (rowK xs L L) 108)) : u.cell? ⟨gv, 4 * k, none⟩ = some (.bool false) ∧ u.cell? ⟨gv, 4 * k + 1, none⟩ = some (.int .i64 (xs k)) ∧ u.cell? ⟨gv, 4 * k + 2, none⟩ = some (.string ⟨#[]⟩) ∧ u.cell? ⟨gv, 4 * k + 3, none⟩ = some (.slice none 0 0) := by
 rcases LK hL hk with ⟨rfl, rfl⟩ | ⟨rfl, rfl⟩ | ⟨rfl, rfl⟩ | ⟨rfl, rfl⟩ | ⟨rfl, rfl⟩ <;> (refine ⟨?_, ?_, ?_, ?_⟩ <;> simp [World.cell?, h] <;> rfl)
theorem sets4 {cur : Array Value} (a b c d : Value) (h : 4 ≤ cur.size) : (setsA cur [(0, a), (1, b), (2, c), (3, d)])[0]? = some a ∧ (setsA cur [(0, a), (1, b), (2, c), (3, d)])[1]? = some b ∧ (setsA cur [(0, a), (1, b), (2, c), (3, d)])[2]? = some c ∧ (setsA cur [(0, a), (1, b), (2, c), (3, d)])[3]? = some d := by
 have h0 : 0 < cur.size := by omega
 have h1 : 1 < cur.size := by omega
 have h2 : 2 < cur.size := by omega
 have h3 : 3 < cur.size := by omega
 refine ⟨?_, ?_, ?_, ?_⟩ <;> simp [setsA, Array.getElem?_setIfInBounds, h0, h1, h2, h3]
theorem keys_step {xs : Nat → Int} {L k gr g9 cap : Nat} {cur : Array Value} {wr w7 : World} (hL : L = 2 ∨ L = 3) (hk : k < L) (hR : RwsK xs L gr k wr) (gw : Gr wr w7) (hg : w7.heap[g9]? = some (.cells cur 108 (0, 0))) (hsz : 4 ≤ cur.size) (hlt : wr.heap.size ≤ g9) :
  RwsK xs L gr (k + 1) ((setAll w7 g9 [(0, .bool false), (1, .int .i64 (xs k)), (2, .string ⟨#[]⟩), (3, .slice none 0 0)]).setCell ⟨gr, 4 * k + 3, none⟩ (.slice (some ⟨g9, 0, none⟩) 1 cap)) ∧ RwsK xs L gr (k + 1) (setAll (w7.setCell ⟨gr, 4 * k + 3, none⟩ (.slice (some ⟨g9, 0, none⟩) 1 cap)) g9 [(0, .bool false), (1, .int .i64 (xs k)), (2, .string ⟨#[]⟩), (3, .slice none 0 0)]) := by
 obtain ⟨ls, cs, hr, hv⟩ := hR
 have hgr := lt_of_heap hr
 have hne : gr ≠ g9 := by omega
 have r7 := (gw.block _ hgr id).trans hr
 obtain ⟨s0, s1, s2, s3⟩ := sets4 (cur := cur) (.bool false) (.int .i64 (xs k)) (.string ⟨#[]⟩) (.slice none 0 0) hsz
 have ka : Keeps w7 (setAll w7 g9 [(0, .bool false), (1, .int .i64 (xs k)), (2, .string ⟨#[]⟩), (3, .slice none 0 0)]) (fun z => z = g9) := setAll_kp _ _ _
 have kb : Keeps w7 (w7.setCell ⟨gr, 4 * k + 3, none⟩ (.slice (some ⟨g9, 0, none⟩) 1 cap)) (fun z => z = gr) := Keeps.setCell (S := fun z => z = gr) (p := ⟨gr, 4 * k + 3, none⟩) (Keeps.refl w7 _) (fun _ => rfl) _
 have ra := (ka.block _ (lt_of_heap r7) hne).trans r7
 have gb := (kb.block _ (lt_of_heap hg) (Ne.symm hne)).trans hg
 have hnew : ∀ u : World, u.heap[g9]? = some (.cells (setsA cur [(0, .bool false), (1, .int .i64 (xs k)), (2, .string ⟨#[]⟩), (3, .slice none 0 0)]) 108 (0, 0)) → RwV u g9 (xs k) ∧ ∃ c, u.heap[g9]? = some (.cells c 108) := fun u h => by
  refine ⟨⟨?_, ?_, ?_, ?_⟩, _, h⟩ <;> simp [World.cell?, h, s0, s1, s2, s3]
 have hold : ∀ u : World, Keeps w7 u (fun z => z = g9 ∨ z = gr) → ∀ i, i < k → gr < ls i ∧ RwV u (ls i) (xs i) ∧ ∃ c, u.heap[ls i]? = some (.cells c 108) := fun u ku i hi => by
  obtain ⟨h1, ⟨h2, h3, h4, h5⟩, c, hc⟩ := hv i hi
  have hli : ls i < wr.heap.size := block_lt_of_cell h2
  have hn : ¬ (ls i = g9 ∨ ls i = gr) := by omega
  exact ⟨h1, ⟨ku.cell' (gw.cell' h2 id) hn, ku.cell' (gw.cell' h3 id) hn, ku.cell' (gw.cell' h4 id) hn, ku.cell' (gw.cell' h5 id) hn⟩, c, (ku.block _ (lt_of_heap ((gw.block _ hli id).trans hc)) hn).trans ((gw.block _ hli id).trans hc)⟩
 have fin : ∀ u : World, u.heap[gr]? = some (.cells ((rwK ls cs L k).setIfInBounds (4 * k + 3) (.slice (some ⟨g9, 0, none⟩) 1 cap)) 108) → u.heap[g9]? = some (.cells (setsA cur [(0, .bool false), (1, .int .i64 (xs k)), (2, .string ⟨#[]⟩), (3, .slice none 0 0)]) 108 (0, 0)) → Keeps w7 u (fun z => z = g9 ∨ z = gr) → RwsK xs L gr (k + 1) u := fun u h1 h2 h3 => by
  rw [rwK_next ls cs g9 cap hL hk] at h1
  refine ⟨_, _, h1, fun i hi => ?_⟩
  by_cases e : i = k
  ·subst e
   simp only [if_pos]
   exact ⟨by omega, hnew u h2⟩
  simp only [if_neg e]
  exact hold u h3 i (by omega)
 refine ⟨fin _ ?_ ?_ ?_, fin _ ?_ ?_ ?_⟩
 ·rw [heap_setCell_same _ gr (4 * k + 3) _ _ _ ra]
 ·rw [heap_setCell_other _ _ _ _ (Ne.symm hne), setAll_blk g9 108 _ _ _ hg]
 ·exact (ka.mono fun _ _ e => .inl e).setCell (p := ⟨gr, 4 * k + 3, none⟩) (fun _ => .inr rfl) _
 ·rw [setAll_oth g9 gr hne, heap_setCell_same _ gr (4 * k + 3) _ _ _ r7]
 ·rw [setAll_blk g9 108 _ _ _ gb]
 exact (kb.mono fun _ _ e => .inr e).trans (setAll_kp _ _ _) (fun _ _ e => .inl e)
theorem mk58_2 (w : World) : (Instr.makeSlice 84 (.int .i64 2) (.int .i64 2)).run Tryz.prog w = .ok (.slice (some ⟨w.heap.size, 0, none⟩) 2 2) (w.alloc (.cells (rwK (fun _ => 0) (fun _ => 0) 2 0) 108)) := by kernel_rfl
theorem mk58_3 (w : World) : (Instr.makeSlice 84 (.int .i64 3) (.int .i64 3)).run Tryz.prog w = .ok (.slice (some ⟨w.heap.size, 0, none⟩) 3 3) (w.alloc (.cells (rwK (fun _ => 0) (fun _ => 0) 3 0) 108)) := by kernel_rfl
theorem srcZ {Z : World} {z : Nat} (h : Z.heap[z]? = some (.cells #[.bool false, .int .i64 0, .string ⟨#[]⟩, .slice none 0 0] 108)) : Src Tryz.prog 4 84 (.slice (some ⟨z, 0, none⟩) 1 1) 1 [.bool false, .int .i64 0, .string ⟨#[]⟩, .slice none 0 0] Z := by
 refine Src.ofSlice (w := Z) Tryz.underlying84 ⟨z, 0, none⟩ 1 1 [.bool false, .int .i64 0, .string ⟨#[]⟩, .slice none 0 0] rfl (fun j v hj => ?_) (fun v hv => by simp at hv; rcases hv with rfl | rfl | rfl | rfl <;> rfl)
 rw [Addr.add_lit, Nat.zero_add]
 obtain ⟨c0, c1, c2, c3⟩ := cell4 h
 match j, hj with
 | 0, hj => cases hj; exact c0
 | 1, hj => cases hj; exact c1
 | 2, hj => cases hj; exact c2
 | 3, hj => cases hj; exact c3
 | j + 4, hj => simp at hj
def KsI (xs : Nat → Int) (W : World) (L gr gv k : Nat) (u : World) : Prop := Gr W u ∧ RwsK xs L gr k u ∧ u.heap[gv]? = some (.cells (rowK xs L L) 108) ∧ W.heap.size ≤ gr ∧ gr < gv
theorem keys_end {xs : Nat → Int} {L k gr gv g9 cap : Nat} {cur : Array Value} {W wr A w7 : World} {x : Int} (hL : L = 2 ∨ L = 3) (hk : k < L) (hx : x = xs k) (hI : KsI xs W L gr gv k wr) (gA : Gr wr A) (bA : A.heap[wr.heap.size]? = some (.cells #[.bool false, .int .i64 x, .string ⟨#[]⟩, .slice none 0 0] 108)) (hAs : A.heap.size = wr.heap.size + 1) (g7 : Gr A w7) (hg : w7.heap[g9]? = some (.cells cur 108 (0, 0))) (hsz : cur.size = cap * 4) (hc1 : 1 ≤ cap) (hlt : A.heap.size ≤ g9) :
  ∃ X6, setAll w7 g9 [(0, .bool false), (1, .int .i64 x), (2, .string ⟨#[]⟩), (3, .slice none 0 0)] = X6 ∧ ∃ X7, w7.setCell ⟨gr, 4 * k + 3, none⟩ (.slice (some ⟨g9, 0, none⟩) 1 cap) = X7 ∧ ∃ X67, X6.setCell ⟨gr, 4 * k + 3, none⟩ (.slice (some ⟨g9, 0, none⟩) 1 cap) = X67 ∧ ∃ X76, setAll X7 g9 [(0, .bool false), (1, .int .i64 x), (2, .string ⟨#[]⟩), (3, .slice none 0 0)] = X76 ∧ (w7.cell? ⟨wr.heap.size, 0, none⟩ = some (.bool false) ∧ w7.cell? ⟨wr.heap.size, 1, none⟩ = some (.int .i64 x) ∧ w7.cell? ⟨wr.heap.size, 2, none⟩ = some (.string ⟨#[]⟩) ∧ w7.cell? ⟨wr.heap.size, 3, none⟩ = some (.slice none 0 0)) ∧ (X6.cell? ⟨wr.heap.size, 0, none⟩ = some (.bool false) ∧ X6.cell? ⟨wr.heap.size, 1, none⟩ = some (.int .i64 x) ∧ X6.cell? ⟨wr.heap.size, 2, none⟩ = some (.string ⟨#[]⟩) ∧ X6.cell? ⟨wr.heap.size, 3, none⟩ = some (.slice none 0 0)) ∧ (X7.cell? ⟨wr.heap.size, 0, none⟩ = some (.bool false) ∧ X7.cell? ⟨wr.heap.size, 1, none⟩ = some (.int .i64 x) ∧ X7.cell? ⟨wr.heap.size, 2, none⟩ = some (.string ⟨#[]⟩) ∧ X7.cell? ⟨wr.heap.size, 3, none⟩ = some (.slice none 0 0)) ∧ (X67.cell? ⟨wr.heap.size, 0, none⟩ = some (.bool false) ∧ X67.cell? ⟨wr.heap.size, 1, none⟩ = some (.int .i64 x) ∧ X67.cell? ⟨wr.heap.size, 2, none⟩ = some (.string ⟨#[]⟩) ∧ X67.cell? ⟨wr.heap.size, 3, none⟩ = some (.slice none 0 0)) ∧ (X76.cell? ⟨wr.heap.size, 0, none⟩ = some (.bool false) ∧ X76.cell? ⟨wr.heap.size, 1, none⟩ = some (.int .i64 x) ∧ X76.cell? ⟨wr.heap.size, 2, none⟩ = some (.string ⟨#[]⟩) ∧ X76.cell? ⟨wr.heap.size, 3, none⟩ = some (.slice none 0 0)) ∧ w7.cell? ⟨gr, 4 * k + 3, none⟩ = some (.slice none 0 0) ∧ X6.cell? ⟨gr, 4 * k + 3, none⟩ = some (.slice none 0 0) ∧ (w7.frozen? ⟨gr, 4 * k + 3, none⟩ = false ∧ X6.frozen? ⟨gr, 4 * k + 3, none⟩ = false) ∧ ((∃ a, X7.cell? ⟨g9, 0, none⟩ = some a) ∧ (∃ a, X7.cell? ⟨g9, 1, none⟩ = some a) ∧ (∃ a, X7.cell? ⟨g9, 2, none⟩ = some a) ∧ (∃ a, X7.cell? ⟨g9, 3, none⟩ = some a)) ∧ (∀ j, X7.frozen? ⟨g9, j, none⟩ = false) ∧ KsI xs W L gr gv (k + 1) X67 ∧ KsI xs W L gr gv (k + 1) X76 := by
 subst hx
 have gw : Gr wr w7 := gA.tr g7
 obtain ⟨kW, kR, kv, kle, klt⟩ := hI
 have hR := kR
 obtain ⟨ls, cs, hr, hv⟩ := kR
 have hgr := lt_of_heap hr
 have hgv := lt_of_heap kv
 have hWs := kW.size
 have h4 : 4 ≤ cur.size := by omega
 obtain ⟨q1, q2⟩ := keys_step (cap := cap) hL hk hR gw hg h4 (by omega)
 have hne : gr ≠ g9 := by omega
 have hb9 : wr.heap.size ≠ g9 := by omega
 have hbr : wr.heap.size ≠ gr := by omega
 have ka : Keeps w7 (setAll w7 g9 [(0, .bool false), (1, .int .i64 (xs k)), (2, .string ⟨#[]⟩), (3, .slice none 0 0)]) (fun z => z = g9) := setAll_kp _ _ _
 have kb : Keeps w7 (w7.setCell ⟨gr, 4 * k + 3, none⟩ (.slice (some ⟨g9, 0, none⟩) 1 cap)) (fun z => z = gr) := Keeps.setCell (S := fun z => z = gr) (p := ⟨gr, 4 * k + 3, none⟩) (Keeps.refl w7 _) (fun _ => rfl) _
 have kc := (ka.mono (T := fun z => z = g9 ∨ z = gr) fun _ _ e => .inl e).setCell (p := ⟨gr, 4 * k + 3, none⟩) (fun _ => .inr rfl) (.slice (some ⟨g9, 0, none⟩) 1 cap)
 have kd := (kb.mono (T := fun z => z = g9 ∨ z = gr) fun _ _ e => .inr e).trans (setAll_kp g9 [(0, .bool false), (1, .int .i64 (xs k)), (2, .string ⟨#[]⟩), (3, .slice none 0 0)] _) (fun _ _ e => .inl e)
 have s7 := (g7.block _ (lt_of_heap bA) id).trans bA
 have hb : ¬ (wr.heap.size = g9 ∨ wr.heap.size = gr) := by omega
 have s6 := (ka.block _ (lt_of_heap s7) hb9).trans s7
 have s7b := (kb.block _ (lt_of_heap s7) hbr).trans s7
 have s67 := (kc.block _ (lt_of_heap s7) hb).trans s7
 have s76 := (kd.block _ (lt_of_heap s7) hb).trans s7
 have r7 := (gw.block _ hgr id).trans hr
 have r6 := (ka.block _ (lt_of_heap r7) hne).trans r7
 have gb := (kb.block _ (lt_of_heap hg) (Ne.symm hne)).trans hg
 have v7 := (gw.block _ hgv id).trans kv
 have fin : ∀ u : World, RwsK xs L gr (k + 1) u → Keeps w7 u (fun z => z = g9 ∨ z = gr) → KsI xs W L gr gv (k + 1) u := fun u h1 h2 =>
  ⟨(kW.tr gw).trans h2 (fun j hj e => by rcases e with e | e <;> omega), h1, (h2.block _ (lt_of_heap v7) (by omega)).trans v7, kle, klt⟩
 have cg : ∀ j, j < 4 → ∃ a, (w7.setCell ⟨gr, 4 * k + 3, none⟩ (.slice (some ⟨g9, 0, none⟩) 1 cap)).cell? ⟨g9, j, none⟩ = some a := fun j hj => ⟨cur[j]'(by omega), by simp [World.cell?, gb, show j < cur.size by omega]⟩
 exact ⟨_, rfl, _, rfl, _, rfl, _, rfl, cell4 s7, cell4 s6, cell4 s7b, cell4 s67, cell4 s76, rwK_cell hL hk r7, rwK_cell hL hk r6, ⟨frzA r7 _, frzA r6 _⟩, ⟨cg 0 (by omega), cg 1 (by omega), cg 2 (by omega), cg 3 (by omega)⟩, frzA gb, fin _ q1 kc, fin _ q2 kd⟩
theorem keysOf16 (L g ac db dbc qb bc v2 c2 z zc : Nat) (ao : Option Addr) (ca : Nat) (xs : Nat → Int) (W : World) (hB : Bt nx W L g ac db dbc qb bc v2 c2 ao ca) (hx : ∀ k, k < L → W.cell? ⟨v2, k, none⟩ = some (.int .u8 (xs k)) ∧ (xs k = 5 ∨ xs k = 7 ∨ xs k = 8)) (hz : W.cell? ⟨z, 0, none⟩ = some (.int .i64 0)) :
  Calls Tryz.prog 36 #[.agg #[.slice (some ⟨g, 0, none⟩) 1 ac, .slice none 0 0], .agg #[.int .i64 L, .slice (some ⟨db, 0, none⟩) 1 dbc], .slice (some ⟨z, 0, none⟩) 1 zc] W fun e w' => ∃ gr, e = .returned (.slice (some ⟨gr, 0, none⟩) L L) ∧ Gr W w' ∧ RwsK xs L gr L w' ∧ W.heap.size ≤ gr := by
 have hL := hB.n.hL
 obtain ⟨A0, hA0, g0, b0⟩ := nw W (.cells #[.slice (some ⟨g, 0, none⟩) 1 ac, .slice none 0 0] 25)
 obtain ⟨A1, hA1, g1, b1⟩ := nw A0 (.cells #[.int .i64 L, .slice (some ⟨db, 0, none⟩) 1 dbc] 28)
 obtain ⟨A2, hA2, g2, b2⟩ := nw A1 (.cells (rwK (fun _ => 0) (fun _ => 0) L 0) 108)
 have g12 := g1.tr g2
 have gW : Gr W A2 := g0.tr g12
 obtain ⟨e0, e1⟩ := cell2 ((g12.block _ (lt_of_heap b0) id).trans b0)
 obtain ⟨f0, f1⟩ := cell2 ((g2.block _ (lt_of_heap b1) id).trans b1)
 have a0 := (cell2 b1).1
 have h0 := gW.cell' hz id
 have HC := hidM (valuesOf30 L g ac db dbc qb bc v2 c2 ao ca xs A2 (hB.gr gW) (fun k hk => ⟨gW.cell' (hx k hk).1 id, (hx k hk).2⟩))
 have hlt2 := lt_of_heap b2
 have hs0 := g0.size
 have hs1 := g1.size
 have HN : Hid (∀ (w3 : World) (gv : Nat), Gr A2 w3 → A2.heap.size ≤ gv → w3.heap[gv]? = some (.cells (rowK xs L L) 108) → KsI xs W L A1.heap.size gv 0 w3) := fun w3 gv k3 hge hgv => ⟨gW.tr k3, ⟨_, _, (k3.block _ hlt2 id).trans b2, fun i hi => absurd hi (Nat.not_lt_zero i)⟩, hgv, by omega, by omega⟩
 have hmk : (Instr.makeSlice 84 (.int .i64 L) (.int .i64 L)).run Tryz.prog A1 = .ok (.slice (some ⟨A1.heap.size, 0, none⟩) L L) A2 := by
  rw [← hA2]
  rcases hL with rfl | rfl
  ·exact mk58_2 A1
  exact mk58_3 A1
 have ⟨c0, c1⟩ := cell2 ((g1.block _ (lt_of_heap b0) id).trans b0)
 clear g0 b0 g1 b1 g2 b2 g12 gW hB hx hz hlt2 hs0 hs1 hA2
 go_enter Tryz.func36, Tryz.ntmps36
 go_wp2_with fail
 clear a0 c0 c1 hmk
 go_loopw [17] (fun i wr => ∃ k : Nat, k ≤ 1 ∧ i = .int .i64 k ∧ Hid ((k = 0 ∧ wr = A2) ∨ (k = 1 ∧ ∃ gv, KsI xs W L A1.heap.size gv L wr))) (fun i _ => 1 - (intOf i).toNat)
 case atStart => exact ⟨0, by omega, rfl, .inl ⟨rfl, rfl⟩⟩
 case round =>
  obtain ⟨k, hk, rfl, HR⟩ := hrel
  rcases HR.out with ⟨rfl, rfl⟩ | ⟨rfl, gv, hE⟩
  ·clear HR
   rw [show ((0 : Nat) : Int) = 0 from rfl]
   go_wp2_with (go_at_call 49; refine HC.out.mono ?_; rintro e w3 ⟨gv, rfl, hg3, hge, hgv⟩; have HI := hidM (HN.out w3 gv hg3 hge hgv); clear hg3 hge hgv)
   clear e0 e1 f0 f1 h0
   go_loopw [26] (fun i wr => ∃ k : Nat, k ≤ L ∧ i = .int .i64 k ∧ Hid (KsI xs W L A1.heap.size gv k wr)) (fun i _ => L - (intOf i).toNat)
   case atStart => exact ⟨0, by omega, rfl, HI⟩
   case round =>
    clear HI
    obtain ⟨k, hk, rfl, HI⟩ := hrel
    by_cases hlt : k < L
    ·obtain ⟨x, hx⟩ : ∃ x, x = xs k := ⟨_, rfl⟩
     obtain ⟨v0, v1, v2', v3⟩ := valCells hL hlt HI.out.2.2.1
     rw [← hx] at v1
     obtain ⟨A, hA, gA, bA⟩ := nw wr (.cells #[.bool false, .int .i64 x, .string ⟨#[]⟩, .slice none 0 0] 108)
     have hAs : A.heap.size = wr.heap.size + 1 := by rw [← hA]; simp
     have bD : A.drew.heap[A1.heap.size]? = wr.heap[A1.heap.size]? := (gA.tr (gr_drew (w := A))).block _ (by obtain ⟨ls, cs, hr, -⟩ := HI.out.2.1; exact lt_of_heap hr) id
     obtain ⟨Zd, hZd⟩ := ex (A.drew.alloc (.cells #[.bool false, .int .i64 0, .string ⟨#[]⟩, .slice none 0 0] 108))
     have gZ : Gr A.drew Zd := by rw [← hZd]; exact gr_alloc _ _
     have HZ : Hid (Gr A Zd ∧ Src Tryz.prog 4 84 (.slice (some ⟨A.heap.size, 0, none⟩) 1 1) 1 [.bool false, .int .i64 0, .string ⟨#[]⟩, .slice none 0 0] Zd) := ⟨(gr_drew (w := A)).tr gZ, srcZ (by rw [← hZd]; exact heap_alloc_new _ _)⟩
     have HSD := hidM (cell4 ((gr_drew (w := A)).block _ (lt_of_heap bA) id |>.trans bA))
     have HSZ := hidM (cell4 (HZ.out.1.block _ (lt_of_heap bA) id |>.trans bA))
     have c3D : A.drew.cell? ⟨A1.heap.size, 4 * k + 3, none⟩ = some (.slice none 0 0) := by
      obtain ⟨ls, cs, hr, -⟩ := HI.out.2.1
      exact rwK_cell hL hlt (bD.trans hr)
     have c3Z := gZ.cell' c3D id
     have HEnd := hidM (fun (w7 : World) (g9 cap : Nat) (cur : Array Value) (h1 : Gr A w7) (h2 : w7.heap[g9]? = some (.cells cur 108 (0, 0))) (h3 : cur.size = cap * 4) (h4 : 1 ≤ cap) (h5 : A.heap.size ≤ g9) => keys_end hL hlt hx HI.out gA bA hAs h1 h2 h3 h4 h5)
     obtain ⟨y0, y1, y2, y3⟩ := cell4 bA
     have yz := frzA bA
     have i0 := set_id (j := 0) (v := .bool false) bA rfl
     have i1 := set_id (j := 1) (v := .int .i64 x) bA rfl
     have i2 := set_id (j := 2) (v := .string ⟨#[]⟩) bA rfl
     have i3 := set_id (j := 3) (v := .slice none 0 0) bA rfl
     clear gA bA hAs bD gZ hx
     have l0 : (0 : Int) ≤ (L : Int) := by omega
     have lk : (k : Int) < (L : Int) := by omega
     rcases (show k = 0 ∨ k = 1 ∨ k = 2 by omega) with rfl | rfl | rfl
     all_goals
      simp only [Nat.reduceMul, Nat.reduceAdd] at v0 v1 v2' v3 c3D c3Z
      go_wp2_with fail
      clear y0 y1 y2 y3 yz i0 i1 i2 i3
      refine wp_region_held_drew (S := fun w' => w'.cell? ⟨wr.heap.size, 0, none⟩ = some (.bool false) ∧ w'.cell? ⟨wr.heap.size, 1, none⟩ = some (.int .i64 x) ∧ w'.cell? ⟨wr.heap.size, 2, none⟩ = some (.string ⟨#[]⟩) ∧ w'.cell? ⟨wr.heap.size, 3, none⟩ = some (.slice none 0 0)) (by kernel_rfl) (HSD.out) fun _ => ?_
      refine tk 0 ?_
      refine tk 1 ?_
      refine tk 2 ?_
      refine tk 3 ?_
      refine tk 5 ?_
      refine rd2 4 7 (fun Kc hK => ?_) fun Kc hK => ?_
      ·go_simp
       refine hK.out _ _ HSD.out fun _ => ?_
       clear hK Kc
       try simp only [Act.put, lA, lB, lC]
       refine tk 6 ?_
       refine rd1 7 fun Kc hK => ?_
       go_simp
       refine hK.out _ _ HSZ.out fun _ => ?_
       clear hK Kc
       try simp only [Act.put, lA, lB, lC]
       refine rd1 8 fun Kc hK => ?_
       refine step_append_anyN (P := Tryz.prog) _ rfl (.tmp 35) (.tmp 38) 84 84 rfl 108 (.agg #[.bool false, .int .i64 0, .string ⟨#[]⟩, .slice none 0 0]) 4 56 Tryz.underlying84 info37 rfl (.slice none 0 0) 0 [] rfl (World.ownsRow_nil _ 0 108 4) _ 1 [.bool false, .int .i64 0, .string ⟨#[]⟩, .slice none 0 0] rfl HZ.out.2 (by omega) (by omega) ?_
       intro v' w7 ha1 ha2 ha3
       obtain ⟨g9, cap, cur, rfl, h1c, hgc, hsz, -, hcc⟩ := own_get ha1 (by omega)
       have g7 : Gr A w7 := HZ.out.1.trans (Keeps.ofGrown ha2) (fun j hj e => by simp [Value.ownBlock] at e)
       obtain ⟨X6, hX6, X7, hX7, X67, hX67, X76, hX76, hSt⟩ := HEnd.out w7 g9 cap cur g7 hgc hsz h1c (ha3.elim (fun e => by simp [Value.ownBlock] at e) (fun e => Nat.le_trans HZ.out.1.size (e g9 rfl)))
       simp only [Nat.reduceMul, Nat.reduceAdd] at hX6 hX7 hX67 hX76
       obtain ⟨hs7, hs6, hs7b, hs67, hs76, hc7, hc6, hz6, hc7g, hz7g, hE67, hE76⟩ := hSt
       simp only [Nat.reduceMul, Nat.reduceAdd] at hc7 hc6 hz6
       have HS7 := hidM hs7
       have HS6 := hidM hs6
       have HS7b := hidM hs7b
       have HS67 := hidM hs67
       have HS76 := hidM hs76
       have HE67 := hidM hE67
       have HE76 := hidM hE76
       have n0 := hcc 0 _ rfl
       have n1 := hcc 1 _ rfl
       have n2 := hcc 2 _ rfl
       have n3 := hcc 3 _ rfl
       have nz := frzA hgc
       obtain ⟨⟨_, m0⟩, ⟨_, m1⟩, ⟨_, m2⟩, ⟨_, m3⟩⟩ := hc7g
       obtain ⟨hz6a, hz6b⟩ := hz6
       simp only [setAll] at hX6 hX76
       clear ha1 ha2 ha3 hcc hgc hsz g7 hs7 hs6 hs7b hs67 hs76 hE67 hE76
       refine hK.out _ _ HS7.out fun _ => ?_
       clear hK Kc
       try simp only [Act.put, lA, lB, lC]
       refine tk 9 ?_
       refine tk 11 ?_
       refine tk 12 ?_
       refine rd2 10 13 (fun Kc hK => ?_) fun Kc hK => ?_
       ·go_simp
        refine hK.out _ _ HS6.out fun _ => ?_
        clear hK Kc
        try simp only [Act.put, lA, lB, lC]
        refine rd1 13 fun Kc hK => ?_
        go_simp
        refine hK.out _ _ HS67.out fun _ => ?_
        clear hK Kc
        try simp only [Act.put, lA, lB, lC]
        refine wpAnyH_done (by kernel_rfl) ?_ _
        go_wp2_with fail
        go_roundw
        case rel => refine ⟨_, ?_, ?_, HE67⟩; omega; go_num
        case measure => simp [intOf]; omega
       go_simp
       refine hK.out _ _ HS7b.out fun _ => ?_
       clear hK Kc
       try simp only [Act.put, lA, lB, lC]
       refine rd1 10 fun Kc hK => ?_
       go_simp
       refine hK.out _ _ HS76.out fun _ => ?_
       clear hK Kc
       try simp only [Act.put, lA, lB, lC]
       refine wpAnyH_done (by kernel_rfl) ?_ _
       go_wp2_with fail
       go_roundw
       case rel => refine ⟨_, ?_, ?_, HE76⟩; omega; go_num
       case measure => simp [intOf]; omega
      go_simp
      refine hK.out _ _ HSZ.out fun _ => ?_
      clear hK Kc
      try simp only [Act.put, lA, lB, lC]
      refine rd1 4 fun Kc hK => ?_
      go_simp
      refine hK.out _ _ HSZ.out fun _ => ?_
      clear hK Kc
      try simp only [Act.put, lA, lB, lC]
      refine tk 6 ?_
      refine rd1 8 fun Kc hK => ?_
      refine step_append_anyN (P := Tryz.prog) _ rfl (.tmp 35) (.tmp 38) 84 84 rfl 108 (.agg #[.bool false, .int .i64 0, .string ⟨#[]⟩, .slice none 0 0]) 4 56 Tryz.underlying84 info37 rfl (.slice none 0 0) 0 [] rfl (World.ownsRow_nil _ 0 108 4) _ 1 [.bool false, .int .i64 0, .string ⟨#[]⟩, .slice none 0 0] rfl HZ.out.2 (by omega) (by omega) ?_
      intro v' w7 ha1 ha2 ha3
      obtain ⟨g9, cap, cur, rfl, h1c, hgc, hsz, -, hcc⟩ := own_get ha1 (by omega)
      have g7 : Gr A w7 := HZ.out.1.trans (Keeps.ofGrown ha2) (fun j hj e => by simp [Value.ownBlock] at e)
      obtain ⟨X6, hX6, X7, hX7, X67, hX67, X76, hX76, hSt⟩ := HEnd.out w7 g9 cap cur g7 hgc hsz h1c (ha3.elim (fun e => by simp [Value.ownBlock] at e) (fun e => Nat.le_trans HZ.out.1.size (e g9 rfl)))
      simp only [Nat.reduceMul, Nat.reduceAdd] at hX6 hX7 hX67 hX76
      obtain ⟨hs7, hs6, hs7b, hs67, hs76, hc7, hc6, hz6, hc7g, hz7g, hE67, hE76⟩ := hSt
      simp only [Nat.reduceMul, Nat.reduceAdd] at hc7 hc6 hz6
      have HS7 := hidM hs7
      have HS6 := hidM hs6
      have HS7b := hidM hs7b
      have HS67 := hidM hs67
      have HS76 := hidM hs76
      have HE67 := hidM hE67
      have HE76 := hidM hE76
      have n0 := hcc 0 _ rfl
      have n1 := hcc 1 _ rfl
      have n2 := hcc 2 _ rfl
      have n3 := hcc 3 _ rfl
      have nz := frzA hgc
      obtain ⟨⟨_, m0⟩, ⟨_, m1⟩, ⟨_, m2⟩, ⟨_, m3⟩⟩ := hc7g
      obtain ⟨hz6a, hz6b⟩ := hz6
      simp only [setAll] at hX6 hX76
      clear ha1 ha2 ha3 hcc hgc hsz g7 hs7 hs6 hs7b hs67 hs76 hE67 hE76
      refine hK.out _ _ HS7.out fun _ => ?_
      clear hK Kc
      try simp only [Act.put, lA, lB, lC]
      refine tk 9 ?_
      refine tk 11 ?_
      refine tk 12 ?_
      refine rd2 10 13 (fun Kc hK => ?_) fun Kc hK => ?_
      ·go_simp
       refine hK.out _ _ HS6.out fun _ => ?_
       clear hK Kc
       try simp only [Act.put, lA, lB, lC]
       refine rd1 13 fun Kc hK => ?_
       go_simp
       refine hK.out _ _ HS67.out fun _ => ?_
       clear hK Kc
       try simp only [Act.put, lA, lB, lC]
       refine wpAnyH_done (by kernel_rfl) ?_ _
       go_wp2_with fail
       go_roundw
       case rel => refine ⟨_, ?_, ?_, HE67⟩; omega; go_num
       case measure => simp [intOf]; omega
      go_simp
      refine hK.out _ _ HS7b.out fun _ => ?_
      clear hK Kc
      try simp only [Act.put, lA, lB, lC]
      refine rd1 10 fun Kc hK => ?_
      go_simp
      refine hK.out _ _ HS76.out fun _ => ?_
      clear hK Kc
      try simp only [Act.put, lA, lB, lC]
      refine wpAnyH_done (by kernel_rfl) ?_ _
      go_wp2_with fail
      go_roundw
      case rel => refine ⟨_, ?_, ?_, HE76⟩; omega; go_num
      case measure => simp [intOf]; omega
    obtain rfl : k = L := by omega
    go_wp2_with fail
    go_roundw
    case rel => exact ⟨1, by omega, by go_num, .inr ⟨rfl, gv, HI.out⟩⟩
    case measure => simp [intOf]
  have HE := hidM hE
  clear HR hE
  rw [show ((1 : Nat) : Int) = 1 from rfl]
  go_wp2_with fail
  go_ret
  obtain ⟨h1, h2, h3, h4, h5⟩ := HE.out
  exact ⟨_, rfl, h1, h2, h4⟩
theorem info34 : (Tryz.prog.info? 29).map (fun i => (i.zero, i.size, i.bytes)) = some (some (.slice none 0 0), 1, 24) := by kernel_rfl
theorem mkM80 (w : World) : (Instr.makeMap 102 none).run Tryz.prog w = .ok (.map (some w.heap.size)) (w.alloc (.map #[] 0)) := by kernel_rfl
theorem results_cell82 {fn : Func} {t : Tmp} {tmps : Array Value} {g : Nat} {cs : Array Value} {w : World} (h : fn.results = #[.cell t 104]) (ht : tmps.getD t undef = .pointer (some ⟨g, 0, none⟩)) (hg : w.heap[g]? = some (.cells cs 104 (0, 0))) (hi : (Tryz.prog.info? 104).map (·.size) = some cs.size) :
  (results fn tmps).run Tryz.prog w = .ok (.agg cs) w := by
 have hl := run_loadVar_row (P := Tryz.prog) w g 104 104 cs (0, 0) _ hg Tryz.underlying104 rfl hi
 unfold results
 rw [h]
 simp only [Array.mapM_eq_mapM_toList, List.mapM_cons, List.mapM_nil, ht]
 simp [asAddr, hl]
def Ent (u : World) (i : Int) (v : Value) : Prop := ∃ lb lc ib ic cur, v = .slice (some ⟨lb, 0, none⟩) 1 lc ∧ u.heap[lb]? = some (.cells cur 29) ∧ cur[0]? = some (.slice (some ⟨ib, 0, none⟩) 1 ic) ∧ u.heap[ib]? = some (.cells #[.int .i64 i] 3)
theorem Ent.gr {u w : World} {i : Int} {v : Value} (h : Ent u i v) (g : Gr u w) : Ent w i v := by
 obtain ⟨lb, lc, ib, ic, cur, h1, h2, h3, h4⟩ := h
 exact ⟨lb, lc, ib, ic, cur, h1, (g.block _ (lt_of_heap h2) id).trans h2, h3, (g.block _ (lt_of_heap h4) id).trans h4⟩
theorem Ent.put {u : World} {m : Nat} {l : List (Int × Value)} {o : Obj} {i : Int} {v : Value} (h : Ent u i v) (hm : MpAt u m l) : Ent (u.putObj m o) i v := by
 obtain ⟨lb, lc, ib, ic, cur, h1, h2, h3, h4⟩ := h
 have hn : ∀ b c t, u.heap[b]? = some (.cells c t) → b ≠ m := fun b c t hb e => by
  subst e
  unfold MpAt at hm
  rw [hm] at hb
  cases hb
 exact ⟨lb, lc, ib, ic, cur, h1, ((keeps_put u m o).block _ (lt_of_heap h2) (hn _ _ _ h2)).trans h2, h3, ((keeps_put u m o).block _ (lt_of_heap h4) (hn _ _ _ h4)).trans h4⟩
def IxL (u : World) (k : Nat) (l : List (Int × Value)) : Prop := k = 0 ∧ l = [] ∨ k = 1 ∧ (∃ v, l = [(hR 8, v)] ∧ Ent u 0 v) ∨ k = 2 ∧ ∃ v v', l = [(hR 8, v), (hR 5, v')] ∧ Ent u 0 v ∧ Ent u 1 v'
def IxI (W : World) (gr xb m rb k : Nat) (l : List (Int × Value)) (u : World) : Prop := Gr W u ∧ u.heap[xb]? = some (.cells #[.slice (some ⟨gr, 0, none⟩) 2 2, .map (some m)] 104) ∧ u.heap[rb]? = some (.cells #[.slice none 0 0, .map none] 104) ∧ MpAt u m l ∧ IxL u k l ∧ W.heap.size ≤ rb ∧ rb < m ∧ m < xb
theorem ix_lk {u : World} {k : Nat} {l : List (Int × Value)} {x : Int} (h : IxL u k l) (hx : k = 0 ∧ x = 8 ∨ k = 1 ∧ x = 5) : lkO l (hR x) 0 = none := by
 rcases hx with ⟨rfl, rfl⟩ | ⟨rfl, rfl⟩
 ·rcases h with ⟨-, rfl⟩ | ⟨h, -⟩ | ⟨h, -⟩
  ·rfl
  ·omega
  omega
 rcases h with ⟨h, -⟩ | ⟨-, v, rfl, -⟩ | ⟨h, -⟩
 ·omega
 ·simp [lkO, hR58]
 omega
theorem ix_end {W u w7 : World} {gr xb m rb k ib ic g9 cap : Nat} {cur : Array Value} {l : List (Int × Value)} {x : Int} (h : IxI W gr xb m rb k l u) (hx : k = 0 ∧ x = 8 ∨ k = 1 ∧ x = 5) (g : Gr u w7) (h1 : w7.heap[g9]? = some (.cells cur 29)) (h0 : cur[0]? = some (.slice (some ⟨ib, 0, none⟩) 1 ic)) (h2 : w7.heap[ib]? = some (.cells #[.int .i64 k] 3)) :
  ∃ X, (Instr.mapUpdate 102 (.map (some m)) (.int .u64 (hR x)) (.slice (some ⟨g9, 0, none⟩) 1 cap)).run Tryz.prog w7 = .ok () X ∧ X.cell? ⟨xb, 1, none⟩ = some (.map (some m)) ∧ ∃ l', IxI W gr xb m rb (k + 1) l' X := by
 obtain ⟨hW, hxb, hrb, hm, hl, n1, n2, n3⟩ := h
 have hm7 : MpAt w7 m l := (g.block _ (lt_of_heap hm) id).trans hm
 have hWs := hW.size
 have e : Ent w7 k (.slice (some ⟨g9, 0, none⟩) 1 cap) := ⟨_, _, _, _, _, rfl, h1, h0, h2⟩
 have hkp := keeps_put w7 m (.map (mkE (l ++ [(hR x, .slice (some ⟨g9, 0, none⟩) 1 cap)]) 0).toArray (l.length + 1))
 have hxb7 := (g.block _ (lt_of_heap hxb) id).trans hxb
 have hrb7 := (g.block _ (lt_of_heap hrb) id).trans hrb
 have hxX := (hkp.block _ (lt_of_heap hxb7) (fun e => by have e' : xb = m := e; omega)).trans hxb7
 refine ⟨_, run_up w7 m l (hR x) _ hm7 (ix_lk hl hx), (cell2 hxX).2, l ++ [(hR x, .slice (some ⟨g9, 0, none⟩) 1 cap)], ?_⟩
 refine ⟨(hW.tr g).trans hkp (fun j hj (e : j = m) => by omega), hxX, (hkp.block _ (lt_of_heap hrb7) (fun e => by have e' : rb = m := e; omega)).trans hrb7, ?_, ?_, n1, n2, n3⟩
 ·unfold MpAt
  rw [World.putObj_heap_same (lt_of_heap hm7)]
  simp
 rcases hx with ⟨rfl, rfl⟩ | ⟨rfl, rfl⟩
 ·rcases hl with ⟨-, rfl⟩ | ⟨h, -⟩ | ⟨h, -⟩
  ·exact .inr (.inl ⟨rfl, _, rfl, e.put hm7⟩)
  ·omega
  omega
 rcases hl with ⟨h, -⟩ | ⟨-, v, rfl, hv⟩ | ⟨h, -⟩
 ·omega
 ·exact .inr (.inr ⟨rfl, _, _, rfl, (hv.gr g).put hm7, e.put hm7⟩)
 omega
theorem rwCells {ls cs : Nat → Nat} {k gr : Nat} {u : World} (hk : k < 2) (h : u.heap[gr]? = some (.cells (rwK ls cs 2 2) 108)) : u.cell? ⟨gr, 4 * k, none⟩ = some (.bool false) ∧ u.cell? ⟨gr, 4 * k + 1, none⟩ = some (.int .i64 0) ∧ u.cell? ⟨gr, 4 * k + 2, none⟩ = some (.string ⟨#[]⟩) ∧ u.cell? ⟨gr, 4 * k + 3, none⟩ = some (.slice (some ⟨ls k, 0, none⟩) 1 (cs k)) := by
 rcases (show k = 0 ∨ k = 1 by omega) with rfl | rfl <;> (refine ⟨?_, ?_, ?_, ?_⟩ <;> simp [World.cell?, h] <;> rfl)
theorem srcI {Z : World} {z : Nat} {v : Value} (h : Z.heap[z]? = some (.cells #[v] 29)) (hv : v.oneCell' = true) : Src Tryz.prog 1 137 (.slice (some ⟨z, 0, none⟩) 1 1) 1 [v] Z := by
 refine Src.ofSlice (w := Z) Tryz.underlying137 ⟨z, 0, none⟩ 1 1 [v] rfl (fun j u hj => ?_) (fun u hu => by simp at hu; subst hu; exact hv)
 rw [Addr.add_lit, Nat.zero_add]
 match j, hj with
 | 0, hj => cases hj; exact cell1 h
 | j + 1, hj => simp at hj
theorem indexed28 (gr : Nat) (xs : Nat → Int) (W : World) (hR2 : RwsK xs 2 gr 2 W) (hx0 : xs 0 = 8) (hx1 : xs 1 = 5) :
  Calls Tryz.prog 47 #[.slice (some ⟨gr, 0, none⟩) 2 2] W fun e w' => ∃ m v v', e = .returned (.agg #[.slice (some ⟨gr, 0, none⟩) 2 2, .map (some m)]) ∧ Gr W w' ∧ MpAt w' m [(hR 8, v), (hR 5, v')] ∧ Ent w' 0 v ∧ Ent w' 1 v' := by
 obtain ⟨A0, hA0, g0, b0⟩ := nw W (.cells #[.slice none 0 0, .map none] 104)
 obtain ⟨A1, hA1⟩ := ex (A0.alloc (.map #[] 0))
 have g1 := gr_al hA1
 have b1 : A1.heap[A0.heap.size]? = some (.map #[] 0) := by rw [← hA1]; exact heap_alloc_new A0 _
 obtain ⟨A2, hA2, g2, b2⟩ := nw A1 (.cells #[.slice (some ⟨gr, 0, none⟩) 2 2, .map (some A0.heap.size)] 104)
 have z0 : A0.heap.size = W.heap.size + 1 := by rw [← hA0]; simp
 have z1 : A1.heap.size = A0.heap.size + 1 := by rw [← hA1]; simp
 have g12 := g1.tr g2
 have gW : Gr W A2 := g0.tr g12
 have hmk : (Instr.makeMap 102 none).run Tryz.prog A0 = .ok (.map (some A0.heap.size)) A1 := by rw [← hA1]; exact mkM80 A0
 have HI0 : Hid (∃ l, IxI W gr A1.heap.size A0.heap.size W.heap.size 0 l A2) := ⟨[], gW, b2, (g12.block _ (lt_of_heap b0) id).trans b0, (g2.block _ (lt_of_heap b1) id).trans b1, .inl ⟨rfl, rfl⟩, by omega, by omega, by omega⟩
 obtain ⟨ls, cs, hr, hv⟩ := hR2
 have i0 := set_id (j := 0) (v := .slice (some ⟨gr, 0, none⟩) 2 2) b2 rfl
 have i1 := set_id (j := 1) (v := .map (some A0.heap.size)) b2 rfl
 obtain ⟨t0, t1⟩ := cell2 b2
 have tz := frzA b2
 clear g0 b0 g1 b1 g2 b2 g12 gW z0 z1
 go_enter Tryz.func47, Tryz.ntmps47
 go_wp2_with fail
 clear hmk i0 i1 t0 t1 tz hA0 hA1 hA2
 go_loopw [13] (fun i wr => ∃ k : Nat, k ≤ 2 ∧ i = .int .i64 k ∧ Hid (∃ l, IxI W gr A1.heap.size A0.heap.size W.heap.size k l wr)) (fun i _ => 2 - (intOf i).toNat)
 case atStart => exact ⟨0, by omega, rfl, HI0⟩
 case round =>
  obtain ⟨k, hk, rfl, HR⟩ := hrel
  clear HI0
  obtain ⟨l, hI⟩ := HR.out
  clear HR
  rcases (show k = 0 ∨ k = 1 ∨ k = 2 by omega) with rfl | rfl | rfl
  ·rw [show ((0 : Nat) : Int) = 0 from rfl]
   have hx : 0 = 0 ∧ (8 : Int) = 8 ∨ 0 = 1 ∧ (8 : Int) = 5 := by omega
   obtain ⟨l1, hl1⟩ : ∃ l1, l1 = ls 0 := ⟨_, rfl⟩
   obtain ⟨c1, hc1⟩ : ∃ c1, c1 = cs 0 := ⟨_, rfl⟩
   have rv : RwV wr l1 8 := by
    have := (hv 0 (by omega)).2.1
    rw [← hl1, hx0] at this
    exact this.gr (hI.1)
   obtain ⟨r0, r1, r2, r3⟩ := rwCells (k := 0) (by omega) ((hI.1.block _ (lt_of_heap hr) id).trans hr)
   rw [← hl1, ← hc1] at r3
   simp only [Nat.reduceMul, Nat.reduceAdd] at r0 r1 r2 r3
   obtain ⟨A, hA, gA, bA⟩ := nw wr (.cells #[.bool false, .int .i64 0, .string ⟨#[]⟩, .slice (some ⟨l1, 0, none⟩) 1 c1] 108)
   have HG := hidM gA
   obtain ⟨y0, y1, y2, y3⟩ := cell4 bA
   have yz := frzA bA
   obtain ⟨e0, e1⟩ := cell2 ((gA.block _ (lt_of_heap hI.2.1) id).trans hI.2.1)
   have HS : Hid (∀ u, Gr A u → u.cell? ⟨wr.heap.size, 0, none⟩ = some (.bool false) ∧ u.cell? ⟨wr.heap.size, 1, none⟩ = some (.int .i64 0) ∧ u.cell? ⟨wr.heap.size, 2, none⟩ = some (.string ⟨#[]⟩) ∧ u.cell? ⟨wr.heap.size, 3, none⟩ = some (.slice (some ⟨l1, 0, none⟩) 1 c1) ∧ u.cell? ⟨A1.heap.size, 0, none⟩ = some (.slice (some ⟨gr, 0, none⟩) 2 2) ∧ u.cell? ⟨A1.heap.size, 1, none⟩ = some (.map (some A0.heap.size))) := fun u g => ⟨g.cell' y0 id, g.cell' y1 id, g.cell' y2 id, g.cell' y3 id, g.cell' e0 id, g.cell' e1 id⟩
   have HM : Hid (∀ u, Gr A u → MpAt u A0.heap.size l) := fun u g => ((gA.tr g).block _ (lt_of_heap hI.2.2.2.1) id).trans hI.2.2.2.1
   have HN := hidM (ix_lk hI.2.2.2.2.1 hx)
   have HC1 := hidM (holdsNull46 l1 c1 8 A (rv.gr gA))
   have HC2 : Hid (∀ u, Gr A u → Calls Tryz.prog 70 #[.agg #[.bool false, .int .i64 0, .string ⟨#[]⟩, .slice (some ⟨l1, 0, none⟩) 1 c1]] u fun e w' => e = .returned (.int .u64 (hR 8)) ∧ Gr u w') := fun u g => hash47r l1 c1 8 u (rv.gr (gA.tr g)) (by omega)
   have HC3 : Hid (∀ u, Gr A u → Calls Tryz.prog 71 #[.agg #[.slice (some ⟨gr, 0, none⟩) 2 2, .map (some A0.heap.size)], .int .u64 (hR 8), .agg #[.bool false, .int .i64 0, .string ⟨#[]⟩, .slice (some ⟨l1, 0, none⟩) 1 c1]] u fun e w' => e = .returned (.int .i64 (-1)) ∧ Gr u w') := fun u g => place48_no gr 2 A0.heap.size l1 c1 l (hR 8) u (HM.out u g) HN.out
   have HX : Hid (∀ (w7 : World) (g9 cap ib ic : Nat) (cur : Array Value), Gr A w7 → w7.heap[g9]? = some (.cells cur 29) → cur[0]? = some (.slice (some ⟨ib, 0, none⟩) 1 ic) → w7.heap[ib]? = some (.cells #[.int .i64 0] 3) → ∃ X, (Instr.mapUpdate 102 (.map (some A0.heap.size)) (.int .u64 (hR 8)) (.slice (some ⟨g9, 0, none⟩) 1 cap)).run Tryz.prog w7 = .ok () X ∧ X.cell? ⟨A1.heap.size, 1, none⟩ = some (.map (some A0.heap.size)) ∧ ∃ l', IxI W gr A1.heap.size A0.heap.size W.heap.size (0 + 1) l' X) := fun w7 g9 cap ib ic cur g h1 h0 h2 => ix_end hI hx (gA.tr g) h1 h0 h2
   clear rv gA bA hl1 hc1 hI hx
   go_wp2_with (first
    | (go_at_call 69; refine HC1.out.mono ?_; rintro e w1 ⟨rfl, g1⟩; have HG1 := hidM g1; clear y0 y1 y2 y3 e0 e1 r0 r1 r2 r3 yz hA; obtain ⟨y0, y1, y2, y3, e0, e1⟩ := HS.out w1 g1; clear g1)
    | (go_at_call 70; refine (HC2.out w1 HG1.out).mono ?_; rintro e w2 ⟨rfl, g2⟩; have HG2 := hidM (HG1.out.tr g2); clear y0 y1 y2 y3 e0 e1; obtain ⟨y0, y1, y2, y3, e0, e1⟩ := HS.out w2 HG2.out; clear g2)
    | (go_at_call 71; refine (HC3.out w2 HG2.out).mono ?_; rintro e w3 ⟨rfl, g3⟩; have HG3 := hidM (HG2.out.tr g3); clear y0 y1 y2 y3 e0 e1; obtain ⟨y0, y1, y2, y3, e0, e1⟩ := HS.out w3 HG3.out; clear g3))
   obtain ⟨D1, hD1⟩ := ex (w3.drew.alloc (.cells #[.int .i64 0] 3))
   have gd := gr_drew (w := w3)
   have gD1 : Gr w3.drew D1 := by rw [← hD1]; exact gr_alloc _ _
   have bD1 : D1.heap[w3.heap.size]? = some (.cells #[.int .i64 0] 3) := by rw [← hD1]; exact heap_alloc_new w3.drew _
   obtain ⟨D2, hD2⟩ := ex (D1.alloc (.cells #[.slice (some ⟨w3.heap.size, 0, none⟩) 1 1] 29))
   have gD2 : Gr D1 D2 := by rw [← hD2]; exact gr_alloc _ _
   have bD2 : D2.heap[D1.heap.size]? = some (.cells #[.slice (some ⟨w3.heap.size, 0, none⟩) 1 1] 29) := by rw [← hD2]; exact heap_alloc_new _ _
   have k0 : Gr A w3.drew := HG3.out.tr gd
   have k1 : Gr A D1 := k0.tr gD1
   have k2 : Gr A D2 := k1.tr gD2
   have q0 := run_lk w3.drew A0.heap.size l (hR 8) (HM.out _ k0)
   have q1 := run_lk D1 A0.heap.size l (hR 8) (HM.out _ k1)
   have q2 := run_lk D2 A0.heap.size l (hR 8) (HM.out _ k2)
   have hlv : lkV l (hR 8) = .slice none 0 0 := by unfold lkV; rw [HN.out]; rfl
   rw [hlv] at q0 q1 q2
   have HSD := hidM (gd.cell' e1 id)
   have HSD1 := hidM (gD1.cell' HSD.out id)
   have HSD2 := hidM (gD2.cell' HSD1.out id)
   have HZ : Hid (True ∧ Src Tryz.prog 1 137 (.slice (some ⟨D1.heap.size, 0, none⟩) 1 1) 1 [.slice (some ⟨w3.heap.size, 0, none⟩) 1 1] D2 ∧ True) := ⟨trivial, srcI bD2 rfl, trivial⟩
   have cD2 := (gD2.block _ (lt_of_heap bD1) id).trans bD1
   have HEnd : Hid (∀ (w7 : World) (g9 cap : Nat) (cur : Array Value), Gr D2 w7 → w7.heap[g9]? = some (.cells cur 29) → cur[0]? = some (.slice (some ⟨w3.heap.size, 0, none⟩) 1 1) → ∃ X, (Instr.mapUpdate 102 (.map (some A0.heap.size)) (.int .u64 (hR 8)) (.slice (some ⟨g9, 0, none⟩) 1 cap)).run Tryz.prog w7 = .ok () X ∧ X.cell? ⟨A1.heap.size, 1, none⟩ = some (.map (some A0.heap.size)) ∧ ∃ l', IxI W gr A1.heap.size A0.heap.size W.heap.size (0 + 1) l' X) := fun w7 g9 cap cur g h1 h0 => HX.out w7 g9 cap _ _ cur (k2.tr g) h1 h0 ((g.block _ (lt_of_heap cD2) id).trans cD2)
   clear gd gD1 bD1 gD2 bD2 k0 k1 k2 hlv cD2 y0 y1 y2 y3 e0 e1
   refine wp_region_held_drew (S := fun w' => w'.cell? ⟨A1.heap.size, 1, none⟩ = some (.map (some A0.heap.size))) (by kernel_rfl) (HSD.out) fun _ => ?_
   refine' wpAnyH_take (i := 0) (oi := { dst := some 44, op := Op.fieldAddr 104 (Operand.tmp 3) 1, type := 0, pos := "find.go:50", after := #[], guard := none }) rfl (by kernel_rfl) (by kernel_rfl) (by kernel_rfl) (fun _ _ _ h => h) (Or.inl ⟨by rfl, _⟩) (by assumption) _
   rotate_left 1
   ·(intro w hSw; obtain hS1 := hSw; go_simp; (try with_reducible rfl))
   try simp only [Act.put, lA, lB, lC]
   refine' wpAnyH_take (i := 1) (oi := { dst := some 45, op := Op.load 102 (Operand.tmp 44), type := 102, pos := "find.go:50", after := #[{ on := 0, ground := Ground.data }], guard := none }) rfl (by kernel_rfl) (by kernel_rfl) (by kernel_rfl) (fun _ _ _ h => h) (Or.inl ⟨by rfl, _⟩) (by assumption) _
   rotate_left 1
   ·(intro w hSw; obtain hS1 := hSw; go_simp; (try with_reducible rfl))
   try simp only [Act.put, lA, lB, lC]
   refine' wpAnyH_take (i := 2) (oi := { dst := some 46, op := Op.move (Operand.tmp 6), type := 134, pos := "find.go:50", after := #[], guard := none }) rfl (by kernel_rfl) (by kernel_rfl) (by kernel_rfl) (fun _ _ _ h => h) (Or.inl ⟨by rfl, _⟩) (by assumption) _
   rotate_left 1
   ·(intro w hSw; obtain hS1 := hSw; go_simp; (try with_reducible rfl))
   try simp only [Act.put, lA, lB, lC]
   refine' wpAnyH_take (i := 3) (oi := { dst := some 47, op := Op.fieldAddr 104 (Operand.tmp 3) 1, type := 0, pos := "find.go:50", after := #[], guard := none }) rfl (by kernel_rfl) (by kernel_rfl) (by kernel_rfl) (fun _ _ _ h => h) (Or.inl ⟨by rfl, _⟩) (by assumption) _
   rotate_left 1
   ·(intro w hSw; obtain hS1 := hSw; go_simp; (try with_reducible rfl))
   try simp only [Act.put, lA, lB, lC]
   refine' wpAnyH_take (i := 4) (oi := { dst := some 48, op := Op.load 102 (Operand.tmp 47), type := 102, pos := "find.go:50", after := #[{ on := 3, ground := Ground.data }], guard := none }) rfl (by kernel_rfl) (by kernel_rfl) (by kernel_rfl) (fun _ _ _ h => h) (Or.inl ⟨by rfl, _⟩) (by assumption) _
   rotate_left 1
   ·(intro w hSw; obtain hS1 := hSw; go_simp; (try with_reducible rfl))
   try simp only [Act.put, lA, lB, lC]
   refine' wpAnyH_take (i := 5) (oi := { dst := some 49, op := Op.move (Operand.tmp 6), type := 134, pos := "find.go:50", after := #[], guard := none }) rfl (by kernel_rfl) (by kernel_rfl) (by kernel_rfl) (fun _ _ _ h => h) (Or.inl ⟨by rfl, _⟩) (by assumption) _
   rotate_left 1
   ·(intro w hSw; obtain hS1 := hSw; go_simp; (try with_reducible rfl))
   try simp only [Act.put, lA, lB, lC]
   refine' wpAnyH_take (i := 7) (oi := { dst := some 51, op := Op.move (Operand.tmp 4), type := 3, pos := "find.go:50", after := #[], guard := none }) rfl (by kernel_rfl) (by kernel_rfl) (by kernel_rfl) (fun _ _ _ h => h) (Or.inl ⟨by rfl, _⟩) (by assumption) _
   rotate_left 1
   ·(intro w hSw; obtain hS1 := hSw; go_simp; (try with_reducible rfl))
   try simp only [Act.put, lA, lB, lC]
   refine rd2 6 8 (fun Kc hK => ?_) fun Kc hK => ?_
   ·go_simp
    refine hK.out _ _ HSD.out fun _ => ?_
    clear hK Kc
    try simp only [Act.put, lA, lB, lC]
    refine rd1 8 fun Kc hK => ?_
    go_simp
    refine hK.out _ _ HSD1.out fun _ => ?_
    clear hK Kc
    try simp only [Act.put, lA, lB, lC]
    refine rd1 9 fun Kc hK => ?_
    go_simp
    refine hK.out _ _ HSD2.out fun _ => ?_
    clear hK Kc
    try simp only [Act.put, lA, lB, lC]
    refine rd1 10 fun Kc hK => ?_
    refine step_append_anyN (P := Tryz.prog) _ rfl (.tmp 50) (.tmp 53) 137 137 rfl 29 (.slice none 0 0) 1 24 Tryz.underlying137 info34 rfl (.slice none 0 0) 0 [] rfl (World.ownsRow_nil _ 0 29 1) _ 1 [.slice (some ⟨w3.heap.size, 0, none⟩) 1 1] rfl HZ.out.2.1 (by omega) (by omega) ?_
    intro v' w7 ha1 ha2 ha3
    obtain ⟨g9, cap, cur, rfl, h1c, hgc, hsz, -, hcc⟩ := own_get ha1 (by omega)
    have g7 : Gr D2 w7 := (Keeps.ofGrown ha2).mono (fun j _ e => by simp [Value.ownBlock] at e)
    obtain ⟨X, hX, hSX, hEX⟩ := HEnd.out w7 g9 cap cur g7 hgc (by have := hcc 0 _ rfl; simpa [World.cell?, hgc] using this)
    have HSX := hidM hSX
    have HEX := hidM hEX
    have HS7 := hidM (g7.cell' HSD2.out id)
    clear ha1 ha2 ha3 hcc hgc hsz g7 hSX hEX h1c
    refine hK.out _ _ HS7.out fun _ => ?_
    clear hK Kc
    try simp only [Act.put, lA, lB, lC]
    refine rd1 11 fun Kc hK => ?_
    go_simp
    refine hK.out _ _ HSX.out fun _ => ?_
    clear hK Kc
    try simp only [Act.put, lA, lB, lC]
    refine wpAnyH_done (by kernel_rfl) ?_ _
    go_wp2_with fail
    go_roundw
    case rel => refine ⟨_, ?_, ?_, HEX⟩; omega; go_num
    case measure => simp [intOf]
   go_simp
   refine hK.out _ _ HSD1.out fun _ => ?_
   clear hK Kc
   try simp only [Act.put, lA, lB, lC]
   refine rd2 6 9 (fun Kc hK => ?_) fun Kc hK => ?_
   ·go_simp
    refine hK.out _ _ HSD1.out fun _ => ?_
    clear hK Kc
    try simp only [Act.put, lA, lB, lC]
    refine rd1 9 fun Kc hK => ?_
    go_simp
    refine hK.out _ _ HSD2.out fun _ => ?_
    clear hK Kc
    try simp only [Act.put, lA, lB, lC]
    refine rd1 10 fun Kc hK => ?_
    refine step_append_anyN (P := Tryz.prog) _ rfl (.tmp 50) (.tmp 53) 137 137 rfl 29 (.slice none 0 0) 1 24 Tryz.underlying137 info34 rfl (.slice none 0 0) 0 [] rfl (World.ownsRow_nil _ 0 29 1) _ 1 [.slice (some ⟨w3.heap.size, 0, none⟩) 1 1] rfl HZ.out.2.1 (by omega) (by omega) ?_
    intro v' w7 ha1 ha2 ha3
    obtain ⟨g9, cap, cur, rfl, h1c, hgc, hsz, -, hcc⟩ := own_get ha1 (by omega)
    have g7 : Gr D2 w7 := (Keeps.ofGrown ha2).mono (fun j _ e => by simp [Value.ownBlock] at e)
    obtain ⟨X, hX, hSX, hEX⟩ := HEnd.out w7 g9 cap cur g7 hgc (by have := hcc 0 _ rfl; simpa [World.cell?, hgc] using this)
    have HSX := hidM hSX
    have HEX := hidM hEX
    have HS7 := hidM (g7.cell' HSD2.out id)
    clear ha1 ha2 ha3 hcc hgc hsz g7 hSX hEX h1c
    refine hK.out _ _ HS7.out fun _ => ?_
    clear hK Kc
    try simp only [Act.put, lA, lB, lC]
    refine rd1 11 fun Kc hK => ?_
    go_simp
    refine hK.out _ _ HSX.out fun _ => ?_
    clear hK Kc
    try simp only [Act.put, lA, lB, lC]
    refine wpAnyH_done (by kernel_rfl) ?_ _
    go_wp2_with fail
    go_roundw
    case rel => refine ⟨_, ?_, ?_, HEX⟩; omega; go_num
    case measure => simp [intOf]
   go_simp
   refine hK.out _ _ HSD2.out fun _ => ?_
   clear hK Kc
   try simp only [Act.put, lA, lB, lC]
   refine rd1 6 fun Kc hK => ?_
   go_simp
   refine hK.out _ _ HSD2.out fun _ => ?_
   clear hK Kc
   try simp only [Act.put, lA, lB, lC]
   refine rd1 10 fun Kc hK => ?_
   refine step_append_anyN (P := Tryz.prog) _ rfl (.tmp 50) (.tmp 53) 137 137 rfl 29 (.slice none 0 0) 1 24 Tryz.underlying137 info34 rfl (.slice none 0 0) 0 [] rfl (World.ownsRow_nil _ 0 29 1) _ 1 [.slice (some ⟨w3.heap.size, 0, none⟩) 1 1] rfl HZ.out.2.1 (by omega) (by omega) ?_
   intro v' w7 ha1 ha2 ha3
   obtain ⟨g9, cap, cur, rfl, h1c, hgc, hsz, -, hcc⟩ := own_get ha1 (by omega)
   have g7 : Gr D2 w7 := (Keeps.ofGrown ha2).mono (fun j _ e => by simp [Value.ownBlock] at e)
   obtain ⟨X, hX, hSX, hEX⟩ := HEnd.out w7 g9 cap cur g7 hgc (by have := hcc 0 _ rfl; simpa [World.cell?, hgc] using this)
   have HSX := hidM hSX
   have HEX := hidM hEX
   have HS7 := hidM (g7.cell' HSD2.out id)
   clear ha1 ha2 ha3 hcc hgc hsz g7 hSX hEX h1c
   refine hK.out _ _ HS7.out fun _ => ?_
   clear hK Kc
   try simp only [Act.put, lA, lB, lC]
   refine rd1 11 fun Kc hK => ?_
   go_simp
   refine hK.out _ _ HSX.out fun _ => ?_
   clear hK Kc
   try simp only [Act.put, lA, lB, lC]
   refine wpAnyH_done (by kernel_rfl) ?_ _
   go_wp2_with fail
   go_roundw
   case rel => refine ⟨_, ?_, ?_, HEX⟩; omega; go_num
   case measure => simp [intOf]
  ·rw [show ((1 : Nat) : Int) = 1 from rfl]
   have hx : 1 = 0 ∧ (5 : Int) = 8 ∨ 1 = 1 ∧ (5 : Int) = 5 := by omega
   obtain ⟨l1, hl1⟩ : ∃ l1, l1 = ls 1 := ⟨_, rfl⟩
   obtain ⟨c1, hc1⟩ : ∃ c1, c1 = cs 1 := ⟨_, rfl⟩
   have rv : RwV wr l1 5 := by
    have := (hv 1 (by omega)).2.1
    rw [← hl1, hx1] at this
    exact this.gr (hI.1)
   obtain ⟨r0, r1, r2, r3⟩ := rwCells (k := 1) (by omega) ((hI.1.block _ (lt_of_heap hr) id).trans hr)
   rw [← hl1, ← hc1] at r3
   simp only [Nat.reduceMul, Nat.reduceAdd] at r0 r1 r2 r3
   obtain ⟨A, hA, gA, bA⟩ := nw wr (.cells #[.bool false, .int .i64 0, .string ⟨#[]⟩, .slice (some ⟨l1, 0, none⟩) 1 c1] 108)
   have HG := hidM gA
   obtain ⟨y0, y1, y2, y3⟩ := cell4 bA
   have yz := frzA bA
   obtain ⟨e0, e1⟩ := cell2 ((gA.block _ (lt_of_heap hI.2.1) id).trans hI.2.1)
   have HS : Hid (∀ u, Gr A u → u.cell? ⟨wr.heap.size, 0, none⟩ = some (.bool false) ∧ u.cell? ⟨wr.heap.size, 1, none⟩ = some (.int .i64 0) ∧ u.cell? ⟨wr.heap.size, 2, none⟩ = some (.string ⟨#[]⟩) ∧ u.cell? ⟨wr.heap.size, 3, none⟩ = some (.slice (some ⟨l1, 0, none⟩) 1 c1) ∧ u.cell? ⟨A1.heap.size, 0, none⟩ = some (.slice (some ⟨gr, 0, none⟩) 2 2) ∧ u.cell? ⟨A1.heap.size, 1, none⟩ = some (.map (some A0.heap.size))) := fun u g => ⟨g.cell' y0 id, g.cell' y1 id, g.cell' y2 id, g.cell' y3 id, g.cell' e0 id, g.cell' e1 id⟩
   have HM : Hid (∀ u, Gr A u → MpAt u A0.heap.size l) := fun u g => ((gA.tr g).block _ (lt_of_heap hI.2.2.2.1) id).trans hI.2.2.2.1
   have HN := hidM (ix_lk hI.2.2.2.2.1 hx)
   have HC1 := hidM (holdsNull46 l1 c1 5 A (rv.gr gA))
   have HC2 : Hid (∀ u, Gr A u → Calls Tryz.prog 70 #[.agg #[.bool false, .int .i64 0, .string ⟨#[]⟩, .slice (some ⟨l1, 0, none⟩) 1 c1]] u fun e w' => e = .returned (.int .u64 (hR 5)) ∧ Gr u w') := fun u g => hash47r l1 c1 5 u (rv.gr (gA.tr g)) (by omega)
   have HC3 : Hid (∀ u, Gr A u → Calls Tryz.prog 71 #[.agg #[.slice (some ⟨gr, 0, none⟩) 2 2, .map (some A0.heap.size)], .int .u64 (hR 5), .agg #[.bool false, .int .i64 0, .string ⟨#[]⟩, .slice (some ⟨l1, 0, none⟩) 1 c1]] u fun e w' => e = .returned (.int .i64 (-1)) ∧ Gr u w') := fun u g => place48_no gr 2 A0.heap.size l1 c1 l (hR 5) u (HM.out u g) HN.out
   have HX : Hid (∀ (w7 : World) (g9 cap ib ic : Nat) (cur : Array Value), Gr A w7 → w7.heap[g9]? = some (.cells cur 29) → cur[0]? = some (.slice (some ⟨ib, 0, none⟩) 1 ic) → w7.heap[ib]? = some (.cells #[.int .i64 1] 3) → ∃ X, (Instr.mapUpdate 102 (.map (some A0.heap.size)) (.int .u64 (hR 5)) (.slice (some ⟨g9, 0, none⟩) 1 cap)).run Tryz.prog w7 = .ok () X ∧ X.cell? ⟨A1.heap.size, 1, none⟩ = some (.map (some A0.heap.size)) ∧ ∃ l', IxI W gr A1.heap.size A0.heap.size W.heap.size (1 + 1) l' X) := fun w7 g9 cap ib ic cur g h1 h0 h2 => ix_end hI hx (gA.tr g) h1 h0 h2
   clear rv gA bA hl1 hc1 hI hx
   go_wp2_with (first
    | (go_at_call 69; refine HC1.out.mono ?_; rintro e w1 ⟨rfl, g1⟩; have HG1 := hidM g1; clear y0 y1 y2 y3 e0 e1 r0 r1 r2 r3 yz hA; obtain ⟨y0, y1, y2, y3, e0, e1⟩ := HS.out w1 g1; clear g1)
    | (go_at_call 70; refine (HC2.out w1 HG1.out).mono ?_; rintro e w2 ⟨rfl, g2⟩; have HG2 := hidM (HG1.out.tr g2); clear y0 y1 y2 y3 e0 e1; obtain ⟨y0, y1, y2, y3, e0, e1⟩ := HS.out w2 HG2.out; clear g2)
    | (go_at_call 71; refine (HC3.out w2 HG2.out).mono ?_; rintro e w3 ⟨rfl, g3⟩; have HG3 := hidM (HG2.out.tr g3); clear y0 y1 y2 y3 e0 e1; obtain ⟨y0, y1, y2, y3, e0, e1⟩ := HS.out w3 HG3.out; clear g3))
   obtain ⟨D1, hD1⟩ := ex (w3.drew.alloc (.cells #[.int .i64 1] 3))
   have gd := gr_drew (w := w3)
   have gD1 : Gr w3.drew D1 := by rw [← hD1]; exact gr_alloc _ _
   have bD1 : D1.heap[w3.heap.size]? = some (.cells #[.int .i64 1] 3) := by rw [← hD1]; exact heap_alloc_new w3.drew _
   obtain ⟨D2, hD2⟩ := ex (D1.alloc (.cells #[.slice (some ⟨w3.heap.size, 0, none⟩) 1 1] 29))
   have gD2 : Gr D1 D2 := by rw [← hD2]; exact gr_alloc _ _
   have bD2 : D2.heap[D1.heap.size]? = some (.cells #[.slice (some ⟨w3.heap.size, 0, none⟩) 1 1] 29) := by rw [← hD2]; exact heap_alloc_new _ _
   have k0 : Gr A w3.drew := HG3.out.tr gd
   have k1 : Gr A D1 := k0.tr gD1
   have k2 : Gr A D2 := k1.tr gD2
   have q0 := run_lk w3.drew A0.heap.size l (hR 5) (HM.out _ k0)
   have q1 := run_lk D1 A0.heap.size l (hR 5) (HM.out _ k1)
   have q2 := run_lk D2 A0.heap.size l (hR 5) (HM.out _ k2)
   have hlv : lkV l (hR 5) = .slice none 0 0 := by unfold lkV; rw [HN.out]; rfl
   rw [hlv] at q0 q1 q2
   have HSD := hidM (gd.cell' e1 id)
   have HSD1 := hidM (gD1.cell' HSD.out id)
   have HSD2 := hidM (gD2.cell' HSD1.out id)
   have HZ : Hid (True ∧ Src Tryz.prog 1 137 (.slice (some ⟨D1.heap.size, 0, none⟩) 1 1) 1 [.slice (some ⟨w3.heap.size, 0, none⟩) 1 1] D2 ∧ True) := ⟨trivial, srcI bD2 rfl, trivial⟩
   have cD2 := (gD2.block _ (lt_of_heap bD1) id).trans bD1
   have HEnd : Hid (∀ (w7 : World) (g9 cap : Nat) (cur : Array Value), Gr D2 w7 → w7.heap[g9]? = some (.cells cur 29) → cur[0]? = some (.slice (some ⟨w3.heap.size, 0, none⟩) 1 1) → ∃ X, (Instr.mapUpdate 102 (.map (some A0.heap.size)) (.int .u64 (hR 5)) (.slice (some ⟨g9, 0, none⟩) 1 cap)).run Tryz.prog w7 = .ok () X ∧ X.cell? ⟨A1.heap.size, 1, none⟩ = some (.map (some A0.heap.size)) ∧ ∃ l', IxI W gr A1.heap.size A0.heap.size W.heap.size (1 + 1) l' X) := fun w7 g9 cap cur g h1 h0 => HX.out w7 g9 cap _ _ cur (k2.tr g) h1 h0 ((g.block _ (lt_of_heap cD2) id).trans cD2)
   clear gd gD1 bD1 gD2 bD2 k0 k1 k2 hlv cD2 y0 y1 y2 y3 e0 e1
   refine wp_region_held_drew (S := fun w' => w'.cell? ⟨A1.heap.size, 1, none⟩ = some (.map (some A0.heap.size))) (by kernel_rfl) (HSD.out) fun _ => ?_
   refine' wpAnyH_take (i := 0) (oi := { dst := some 44, op := Op.fieldAddr 104 (Operand.tmp 3) 1, type := 0, pos := "find.go:50", after := #[], guard := none }) rfl (by kernel_rfl) (by kernel_rfl) (by kernel_rfl) (fun _ _ _ h => h) (Or.inl ⟨by rfl, _⟩) (by assumption) _
   rotate_left 1
   ·(intro w hSw; obtain hS1 := hSw; go_simp; (try with_reducible rfl))
   try simp only [Act.put, lA, lB, lC]
   refine' wpAnyH_take (i := 1) (oi := { dst := some 45, op := Op.load 102 (Operand.tmp 44), type := 102, pos := "find.go:50", after := #[{ on := 0, ground := Ground.data }], guard := none }) rfl (by kernel_rfl) (by kernel_rfl) (by kernel_rfl) (fun _ _ _ h => h) (Or.inl ⟨by rfl, _⟩) (by assumption) _
   rotate_left 1
   ·(intro w hSw; obtain hS1 := hSw; go_simp; (try with_reducible rfl))
   try simp only [Act.put, lA, lB, lC]
   refine' wpAnyH_take (i := 2) (oi := { dst := some 46, op := Op.move (Operand.tmp 6), type := 134, pos := "find.go:50", after := #[], guard := none }) rfl (by kernel_rfl) (by kernel_rfl) (by kernel_rfl) (fun _ _ _ h => h) (Or.inl ⟨by rfl, _⟩) (by assumption) _
   rotate_left 1
   ·(intro w hSw; obtain hS1 := hSw; go_simp; (try with_reducible rfl))
   try simp only [Act.put, lA, lB, lC]
   refine' wpAnyH_take (i := 3) (oi := { dst := some 47, op := Op.fieldAddr 104 (Operand.tmp 3) 1, type := 0, pos := "find.go:50", after := #[], guard := none }) rfl (by kernel_rfl) (by kernel_rfl) (by kernel_rfl) (fun _ _ _ h => h) (Or.inl ⟨by rfl, _⟩) (by assumption) _
   rotate_left 1
   ·(intro w hSw; obtain hS1 := hSw; go_simp; (try with_reducible rfl))
   try simp only [Act.put, lA, lB, lC]
   refine' wpAnyH_take (i := 4) (oi := { dst := some 48, op := Op.load 102 (Operand.tmp 47), type := 102, pos := "find.go:50", after := #[{ on := 3, ground := Ground.data }], guard := none }) rfl (by kernel_rfl) (by kernel_rfl) (by kernel_rfl) (fun _ _ _ h => h) (Or.inl ⟨by rfl, _⟩) (by assumption) _
   rotate_left 1
   ·(intro w hSw; obtain hS1 := hSw; go_simp; (try with_reducible rfl))
   try simp only [Act.put, lA, lB, lC]
   refine' wpAnyH_take (i := 5) (oi := { dst := some 49, op := Op.move (Operand.tmp 6), type := 134, pos := "find.go:50", after := #[], guard := none }) rfl (by kernel_rfl) (by kernel_rfl) (by kernel_rfl) (fun _ _ _ h => h) (Or.inl ⟨by rfl, _⟩) (by assumption) _
   rotate_left 1
   ·(intro w hSw; obtain hS1 := hSw; go_simp; (try with_reducible rfl))
   try simp only [Act.put, lA, lB, lC]
   refine' wpAnyH_take (i := 7) (oi := { dst := some 51, op := Op.move (Operand.tmp 4), type := 3, pos := "find.go:50", after := #[], guard := none }) rfl (by kernel_rfl) (by kernel_rfl) (by kernel_rfl) (fun _ _ _ h => h) (Or.inl ⟨by rfl, _⟩) (by assumption) _
   rotate_left 1
   ·(intro w hSw; obtain hS1 := hSw; go_simp; (try with_reducible rfl))
   try simp only [Act.put, lA, lB, lC]
   refine rd2 6 8 (fun Kc hK => ?_) fun Kc hK => ?_
   ·go_simp
    refine hK.out _ _ HSD.out fun _ => ?_
    clear hK Kc
    try simp only [Act.put, lA, lB, lC]
    refine rd1 8 fun Kc hK => ?_
    go_simp
    refine hK.out _ _ HSD1.out fun _ => ?_
    clear hK Kc
    try simp only [Act.put, lA, lB, lC]
    refine rd1 9 fun Kc hK => ?_
    go_simp
    refine hK.out _ _ HSD2.out fun _ => ?_
    clear hK Kc
    try simp only [Act.put, lA, lB, lC]
    refine rd1 10 fun Kc hK => ?_
    refine step_append_anyN (P := Tryz.prog) _ rfl (.tmp 50) (.tmp 53) 137 137 rfl 29 (.slice none 0 0) 1 24 Tryz.underlying137 info34 rfl (.slice none 0 0) 0 [] rfl (World.ownsRow_nil _ 0 29 1) _ 1 [.slice (some ⟨w3.heap.size, 0, none⟩) 1 1] rfl HZ.out.2.1 (by omega) (by omega) ?_
    intro v' w7 ha1 ha2 ha3
    obtain ⟨g9, cap, cur, rfl, h1c, hgc, hsz, -, hcc⟩ := own_get ha1 (by omega)
    have g7 : Gr D2 w7 := (Keeps.ofGrown ha2).mono (fun j _ e => by simp [Value.ownBlock] at e)
    obtain ⟨X, hX, hSX, hEX⟩ := HEnd.out w7 g9 cap cur g7 hgc (by have := hcc 0 _ rfl; simpa [World.cell?, hgc] using this)
    have HSX := hidM hSX
    have HEX := hidM hEX
    have HS7 := hidM (g7.cell' HSD2.out id)
    clear ha1 ha2 ha3 hcc hgc hsz g7 hSX hEX h1c
    refine hK.out _ _ HS7.out fun _ => ?_
    clear hK Kc
    try simp only [Act.put, lA, lB, lC]
    refine rd1 11 fun Kc hK => ?_
    go_simp
    refine hK.out _ _ HSX.out fun _ => ?_
    clear hK Kc
    try simp only [Act.put, lA, lB, lC]
    refine wpAnyH_done (by kernel_rfl) ?_ _
    go_wp2_with fail
    go_roundw
    case rel => refine ⟨_, ?_, ?_, HEX⟩; omega; go_num
    case measure => simp [intOf]
   go_simp
   refine hK.out _ _ HSD1.out fun _ => ?_
   clear hK Kc
   try simp only [Act.put, lA, lB, lC]
   refine rd2 6 9 (fun Kc hK => ?_) fun Kc hK => ?_
   ·go_simp
    refine hK.out _ _ HSD1.out fun _ => ?_
    clear hK Kc
    try simp only [Act.put, lA, lB, lC]
    refine rd1 9 fun Kc hK => ?_
    go_simp
    refine hK.out _ _ HSD2.out fun _ => ?_
    clear hK Kc
    try simp only [Act.put, lA, lB, lC]
    refine rd1 10 fun Kc hK => ?_
    refine step_append_anyN (P := Tryz.prog) _ rfl (.tmp 50) (.tmp 53) 137 137 rfl 29 (.slice none 0 0) 1 24 Tryz.underlying137 info34 rfl (.slice none 0 0) 0 [] rfl (World.ownsRow_nil _ 0 29 1) _ 1 [.slice (some ⟨w3.heap.size, 0, none⟩) 1 1] rfl HZ.out.2.1 (by omega) (by omega) ?_
    intro v' w7 ha1 ha2 ha3
    obtain ⟨g9, cap, cur, rfl, h1c, hgc, hsz, -, hcc⟩ := own_get ha1 (by omega)
    have g7 : Gr D2 w7 := (Keeps.ofGrown ha2).mono (fun j _ e => by simp [Value.ownBlock] at e)
    obtain ⟨X, hX, hSX, hEX⟩ := HEnd.out w7 g9 cap cur g7 hgc (by have := hcc 0 _ rfl; simpa [World.cell?, hgc] using this)
    have HSX := hidM hSX
    have HEX := hidM hEX
    have HS7 := hidM (g7.cell' HSD2.out id)
    clear ha1 ha2 ha3 hcc hgc hsz g7 hSX hEX h1c
    refine hK.out _ _ HS7.out fun _ => ?_
    clear hK Kc
    try simp only [Act.put, lA, lB, lC]
    refine rd1 11 fun Kc hK => ?_
    go_simp
    refine hK.out _ _ HSX.out fun _ => ?_
    clear hK Kc
    try simp only [Act.put, lA, lB, lC]
    refine wpAnyH_done (by kernel_rfl) ?_ _
    go_wp2_with fail
    go_roundw
    case rel => refine ⟨_, ?_, ?_, HEX⟩; omega; go_num
    case measure => simp [intOf]
   go_simp
   refine hK.out _ _ HSD2.out fun _ => ?_
   clear hK Kc
   try simp only [Act.put, lA, lB, lC]
   refine rd1 6 fun Kc hK => ?_
   go_simp
   refine hK.out _ _ HSD2.out fun _ => ?_
   clear hK Kc
   try simp only [Act.put, lA, lB, lC]
   refine rd1 10 fun Kc hK => ?_
   refine step_append_anyN (P := Tryz.prog) _ rfl (.tmp 50) (.tmp 53) 137 137 rfl 29 (.slice none 0 0) 1 24 Tryz.underlying137 info34 rfl (.slice none 0 0) 0 [] rfl (World.ownsRow_nil _ 0 29 1) _ 1 [.slice (some ⟨w3.heap.size, 0, none⟩) 1 1] rfl HZ.out.2.1 (by omega) (by omega) ?_
   intro v' w7 ha1 ha2 ha3
   obtain ⟨g9, cap, cur, rfl, h1c, hgc, hsz, -, hcc⟩ := own_get ha1 (by omega)
   have g7 : Gr D2 w7 := (Keeps.ofGrown ha2).mono (fun j _ e => by simp [Value.ownBlock] at e)
   obtain ⟨X, hX, hSX, hEX⟩ := HEnd.out w7 g9 cap cur g7 hgc (by have := hcc 0 _ rfl; simpa [World.cell?, hgc] using this)
   have HSX := hidM hSX
   have HEX := hidM hEX
   have HS7 := hidM (g7.cell' HSD2.out id)
   clear ha1 ha2 ha3 hcc hgc hsz g7 hSX hEX h1c
   refine hK.out _ _ HS7.out fun _ => ?_
   clear hK Kc
   try simp only [Act.put, lA, lB, lC]
   refine rd1 11 fun Kc hK => ?_
   go_simp
   refine hK.out _ _ HSX.out fun _ => ?_
   clear hK Kc
   try simp only [Act.put, lA, lB, lC]
   refine wpAnyH_done (by kernel_rfl) ?_ _
   go_wp2_with fail
   go_roundw
   case rel => refine ⟨_, ?_, ?_, HEX⟩; omega; go_num
   case measure => simp [intOf]
  rw [show ((2 : Nat) : Int) = 2 from rfl]
  obtain ⟨hW, hxb, hrb, hm, hl, n1, n2, n3⟩ := hI
  obtain ⟨v, v', rfl, en0, en1⟩ : ∃ v v', l = [(hR 8, v), (hR 5, v')] ∧ Ent wr 0 v ∧ Ent wr 1 v' := by
   rcases hl with ⟨h, -⟩ | ⟨h, -⟩ | ⟨-, h⟩
   ·omega
   ·omega
   exact h
  obtain ⟨U, hU⟩ := ex (setAll wr W.heap.size [(0, .slice (some ⟨gr, 0, none⟩) 2 2), (1, .map (some A0.heap.size))])
  have k1 : Keeps wr U (fun z => z = W.heap.size) := by rw [← hU]; exact setAll_kp _ _ _
  have HU : Hid (U.heap[W.heap.size]? = some (.cells #[.slice (some ⟨gr, 0, none⟩) 2 2, .map (some A0.heap.size)] 104)) := by
   rw [← hU]
   show (setAll wr W.heap.size [(0, .slice (some ⟨gr, 0, none⟩) 2 2), (1, .map (some A0.heap.size))]).heap[W.heap.size]? = _
   rw [setAll_blk W.heap.size 104 _ _ _ hrb]
   simp [setsA]
  have entU : ∀ {i : Int} {v : Value}, Ent wr i v → Ent U i v := fun h => by
   obtain ⟨lb, lc, ib, ic, cur, h1, h2, h3, h4⟩ := h
   refine ⟨lb, lc, ib, ic, cur, h1, (k1.block _ (lt_of_heap h2) (fun e => ?_)).trans h2, h3, (k1.block _ (lt_of_heap h4) (fun e => ?_)).trans h4⟩
   ·have e' : lb = W.heap.size := e
    rw [e', hrb] at h2
    cases h2
   have e' : ib = W.heap.size := e
   rw [e', hrb] at h4
   cases h4
  have HE : Hid (Gr W U ∧ MpAt U A0.heap.size [(hR 8, v), (hR 5, v')] ∧ Ent U 0 v ∧ Ent U 1 v') := ⟨hW.trans k1 (fun j hj (e : j = W.heap.size) => by omega), (k1.block _ (lt_of_heap hm) (fun e => by have e' : A0.heap.size = W.heap.size := e; omega)).trans hm, entU en0, entU en1⟩
  obtain ⟨e0, e1⟩ := cell2 hxb
  obtain ⟨y0, y1⟩ := cell2 hrb
  have yz := frzA hrb
  simp only [setAll] at hU
  clear hW hxb hrb hm hl n1 n2 n3 en0 en1 k1 entU
  go_wp2_with fail
  (try simp only [Exit.inBlock, Exit.then])
  refine bodyPost_ret (results_cell82 rfl rfl (by with_reducible exact HU.out) (by kernel_rfl)) rfl ?_
  exact ⟨_, _, _, rfl, HE.out⟩
def St (W u : World) : Prop := (∀ (z : Nat) (c : Array Value) (t : TypeId), W.heap[z]? = some (Obj.cells c t) → t ≠ 45 → t ≠ 40 → t ≠ 4 → u.heap[z]? = some (Obj.cells c t)) ∧ ∀ (z : Nat) (es : Array MapEntry) (n : Nat), W.heap[z]? = some (Obj.map es n) → u.heap[z]? = some (Obj.map es n)
theorem St.ofGr {W u : World} (g : Gr W u) : St W u := ⟨fun z c t h _ _ _ => (g.block _ (lt_of_heap h) id).trans h, fun z es n h => (g.block _ (lt_of_heap h) id).trans h⟩
theorem St.ofFr {P : Nat} {W u : World} {ps : List (Int × Int)} (h : FrP P W u) (hP : PAt W P ps) : St W u := by
 obtain ⟨v, hv, -⟩ := hP
 refine ⟨fun z c t hz a b _ => h.cells hz (fun e => ?_) a, fun z es n hz => (Keeps.block h z (lt_of_heap hz) fun e => ?_).trans hz⟩
 ·rw [e, hv] at hz
  simp at hz
  exact b hz.2.symm
 rcases e with e | ⟨-, c, f, e⟩
 ·rw [e, hv] at hz
  cases hz
 rw [hz] at e
 cases e
theorem St.met {W : World} {mb j : Nat} {c : Array Value} {v : Value} (h : W.heap[mb]? = some (.cells c 4)) : St W (W.setCell ⟨mb, j, none⟩ v) := by
 refine ⟨fun z c' t hz _ _ d => (heap_setCell_other _ _ _ _ (fun e => ?_)).trans hz, fun z es n hz => (heap_setCell_other _ _ _ _ (fun e => ?_)).trans hz⟩
 ·rw [e, h] at hz
  simp at hz
  exact d hz.2.symm
 rw [e, h] at hz
 cases hz
theorem RwV.cells {W u : World} {l : Nat} {x : Int} (h : RwV W l x) (hc : ∃ c, W.heap[l]? = some (.cells c 108)) (s : St W u) : RwV u l x ∧ ∃ c, u.heap[l]? = some (.cells c 108) := by
 obtain ⟨c, hc⟩ := hc
 have hu := s.1 l c 108 hc (by decide) (by decide) (by decide)
 have e : ∀ j, u.cell? ⟨l, j, none⟩ = W.cell? ⟨l, j, none⟩ := fun j => by simp [World.cell?, hu, hc]
 exact ⟨⟨(e 0).trans h.1, (e 1).trans h.2.1, (e 2).trans h.2.2.1, (e 3).trans h.2.2.2⟩, c, hu⟩
theorem RwsK.st {xs : Nat → Int} {L gr k : Nat} {W u : World} (h : RwsK xs L gr k W) (s : St W u) : RwsK xs L gr k u := by
 obtain ⟨ls, cs, hr, hv⟩ := h
 exact ⟨ls, cs, s.1 _ _ _ hr (by decide) (by decide) (by decide), fun i hi => ⟨(hv i hi).1, (hv i hi).2.1.cells (hv i hi).2.2 s⟩⟩
theorem Ent.st {W u : World} {i : Int} {v : Value} (h : Ent W i v) (s : St W u) : Ent u i v := by
 obtain ⟨lb, lc, ib, ic, cur, h1, h2, h3, h4⟩ := h
 exact ⟨lb, lc, ib, ic, cur, h1, s.1 _ _ _ h2 (by decide) (by decide) (by decide), h3, s.1 _ _ _ h4 (by decide) (by decide) (by decide)⟩
theorem MpAt.st {W u : World} {m : Nat} {l : List (Int × Value)} (h : MpAt W m l) (s : St W u) : MpAt u m l := s.2 _ _ _ h
structure Pf (xl xr : Nat → Int) (gl gr P p db xb m : Nat) (v v' : Value) (u : World) : Prop where
 fp : u.heap[p]? = some (.cells #[.func (.func 46) #[] #[.pointer (some ⟨P, 0, none⟩)]] 101)
 fd : u.heap[db]? = some (.cells #[.func (.func 63) #[] #[.pointer (some ⟨p, 0, none⟩)], .func (.func 66) #[] #[.pointer (some ⟨p, 0, none⟩)], .func (.func 67) #[] #[.pointer (some ⟨p, 0, none⟩)]] 99)
 fx : u.heap[xb]? = some (.cells #[.slice (some ⟨gr, 0, none⟩) 2 2, .map (some m)] 104)
 fm : MpAt u m [(hR 8, v), (hR 5, v')]
 fe : Ent u 1 v'
 fl : RwsK xl 3 gl 3 u
 fr : RwsK xr 2 gr 2 u
theorem Pf.st {xl xr : Nat → Int} {gl gr P p db xb m : Nat} {v v' : Value} {u w : World} (h : Pf xl xr gl gr P p db xb m v v' u) (s : St u w) : Pf xl xr gl gr P p db xb m v v' w :=
 ⟨s.1 _ _ _ h.fp (by decide) (by decide) (by decide), s.1 _ _ _ h.fd (by decide) (by decide) (by decide), s.1 _ _ _ h.fx (by decide) (by decide) (by decide), h.fm.st s, h.fe.st s, h.fl.st s, h.fr.st s⟩
theorem rwCells3 {ls cs : Nat → Nat} {k gr : Nat} {u : World} (hk : k < 3) (h : u.heap[gr]? = some (.cells (rwK ls cs 3 3) 108)) : u.cell? ⟨gr, 4 * k, none⟩ = some (.bool false) ∧ u.cell? ⟨gr, 4 * k + 1, none⟩ = some (.int .i64 0) ∧ u.cell? ⟨gr, 4 * k + 2, none⟩ = some (.string ⟨#[]⟩) ∧ u.cell? ⟨gr, 4 * k + 3, none⟩ = some (.slice (some ⟨ls k, 0, none⟩) 1 (cs k)) := by
 rcases (show k = 0 ∨ k = 1 ∨ k = 2 by omega) with rfl | rfl | rfl <;> (refine ⟨?_, ?_, ?_, ?_⟩ <;> simp [World.cell?, h] <;> rfl)
theorem met_no {xl xr : Nat → Int} {gl gr P p db xb m l2 c2 : Nat} {v v' : Value} {u : World} (h : Pf xl xr gl gr P p db xb m v v' u) (h2 : RwV u l2 7) : Calls Tryz.prog 48 #[.agg #[.slice (some ⟨gr, 0, none⟩) 2 2, .map (some m)], .agg #[.bool false, .int .i64 0, .string ⟨#[]⟩, .slice (some ⟨l2, 0, none⟩) 1 c2]] u fun e w' => e = .returned (.slice none 0 0) ∧ Gr u w' :=
 meeting29_no gr 2 m l2 c2 _ 7 (by omega) u h.fm (by
  have a : (hR 7 == hR 5) = false := by kernel_rfl
  simp [lkO, a, hR78]) h2
theorem met_one {xl xr : Nat → Int} {gl gr P p db xb m l2 c2 lb lc ib ic : Nat} {cur : Array Value} {v v' : Value} {u : World} (h : Pf xl xr gl gr P p db xb m v v' u) (hx : xr 1 = 5) (h1 : v' = .slice (some ⟨lb, 0, none⟩) 1 lc) (h3 : u.heap[lb]? = some (.cells cur 29)) (h4 : cur[0]? = some (.slice (some ⟨ib, 0, none⟩) 1 ic)) (h5 : u.heap[ib]? = some (.cells #[.int .i64 1] 3)) (h2 : RwV u l2 5) : Calls Tryz.prog 48 #[.agg #[.slice (some ⟨gr, 0, none⟩) 2 2, .map (some m)], .agg #[.bool false, .int .i64 0, .string ⟨#[]⟩, .slice (some ⟨l2, 0, none⟩) 1 c2]] u fun e w' => e = .returned (.slice (some ⟨ib, 0, none⟩) 1 ic) ∧ Gr u w' := by
 obtain ⟨ls, cs, hr, hv⟩ := h.fr
 have hv1 := (hv 1 (by omega)).2.1
 rw [hx] at hv1
 have hc := rwCells (k := 1) (by omega) hr
 exact meeting29_1 gr 2 m l2 c2 lb lc ib ic (ls 1) (cs 1) _ 5 (by omega) u h.fm (by
  subst h1
  simp [lkV, lkO, hR58]) (by simp [World.cell?, h3, h4]) (cell1 h5) hc hv1 h2
theorem own_st {W W' : World} {t sz : Nat} {v : Value} {n : Nat} {xs : List Value} (h : W.ownsRow 0 t sz v n xs) (e : ∀ g, v.ownBlock = some g → W'.heap[g]? = W.heap[g]?) : W'.ownsRow 0 t sz v n xs := by
 obtain ⟨hl, h0 | ⟨g, cap, cur, rfl, h1, hg, h2, h3, h4⟩⟩ := h
 ·exact ⟨hl, .inl h0⟩
 exact ⟨hl, .inr ⟨g, cap, cur, rfl, h1, (e g rfl).trans hg, h2, h3, h4⟩⟩
theorem PAt.gr {W u : World} {P : Nat} {ps : List (Int × Int)} (h : PAt W P ps) (g : Gr W u) : PAt u P ps := by
 obtain ⟨v, hv, ho, hge⟩ := h
 refine ⟨v, (g.block _ (lt_of_heap hv) id).trans hv, own_st ho fun b hb => ?_, hge⟩
 obtain ⟨hl, ⟨h0, -⟩ | ⟨b', cap, cur, rfl, h1, hg, h2, h3, h4⟩⟩ := ho
 ·subst h0
  simp [Value.ownBlock] at hb
 have hb' : b' = b := by simpa [Value.ownBlock] using hb
 subst hb'
 exact g.block _ (lt_of_heap hg) id
theorem PAt.met {W : World} {P mb j : Nat} {ps : List (Int × Int)} {c : Array Value} {x : Value} (h : PAt W P ps) (hm : W.heap[mb]? = some (.cells c 4)) : PAt (W.setCell ⟨mb, j, none⟩ x) P ps := by
 obtain ⟨v, hv, ho, hge⟩ := h
 refine ⟨v, (heap_setCell_other _ _ _ _ (fun e => ?_)).trans hv, own_st ho fun b hb => heap_setCell_other _ _ _ _ (fun e => ?_), hge⟩
 ·rw [e, hm] at hv
  simp at hv
 obtain ⟨hl, ⟨h0, -⟩ | ⟨b', cap, cur, rfl, h1, hg, h2, h3, h4⟩⟩ := ho
 ·subst h0
  simp [Value.ownBlock] at hb
 have hb' : b' = b := by simpa [Value.ownBlock] using hb
 subst hb'
 rw [e, hm] at hg
 simp at hg
theorem PAt.get {W : World} {P n : Nat} {ps : List (Int × Int)} (h : PAt W P ps) (hn : ps.length = n) (h0 : 0 < n) : ∃ g cap, W.cell? ⟨P, 0, none⟩ = some (.slice (some ⟨g, 0, none⟩) n cap) ∧ W.ownsRow 0 45 2 (.slice (some ⟨g, 0, none⟩) n cap) n (flat2 ps) := by
 obtain ⟨v, hv, ho, -⟩ := h
 rw [hn] at ho
 obtain ⟨g, cap, cur, rfl, -, -, -, -, -⟩ := own_get ho h0
 exact ⟨g, cap, cell1 hv, ho⟩
def PrI (W : World) (xl xr : Nat → Int) (gl gr P p db xb m mb : Nat) (v v' : Value) (ps : List (Int × Int)) (ms : Array Value) (u : World) : Prop := FrP P W u ∧ PAt u P ps ∧ Pf xl xr gl gr P p db xb m v v' u ∧ u.heap[mb]? = some (.cells ms 4) ∧ W.heap.size ≤ mb ∧ mb ≠ P
theorem PrI.gr {W u w : World} {xl xr : Nat → Int} {gl gr P p db xb m mb : Nat} {v v' : Value} {ps : List (Int × Int)} {ms : Array Value} (h : PrI W xl xr gl gr P p db xb m mb v v' ps ms u) (g : Gr u w) : PrI W xl xr gl gr P p db xb m mb v v' ps ms w :=
 ⟨h.1.trans (FrP.ofGr g), h.2.1.gr g, h.2.2.1.st (St.ofGr g), (g.block _ (lt_of_heap h.2.2.2.1) id).trans h.2.2.2.1, h.2.2.2.2⟩
theorem PrI.fr {W u w : World} {xl xr : Nat → Int} {gl gr P p db xb m mb : Nat} {v v' : Value} {ps qs : List (Int × Int)} {ms : Array Value} (h : PrI W xl xr gl gr P p db xb m mb v v' ps ms u) (f : FrP P u w) (hq : PAt w P qs) : PrI W xl xr gl gr P p db xb m mb v v' qs ms w :=
 ⟨h.1.trans f, hq, h.2.2.1.st (St.ofFr f h.2.1), f.cells h.2.2.2.1 h.2.2.2.2.2 (by decide), h.2.2.2.2⟩
theorem PrI.met {W u : World} {xl xr : Nat → Int} {gl gr P p db xb m mb : Nat} {v v' : Value} {ps : List (Int × Int)} {b : Value} (h : PrI W xl xr gl gr P p db xb m mb v v' ps #[.bool false, b] u) : PrI W xl xr gl gr P p db xb m mb v v' ps #[.bool false, .bool true] (u.setCell ⟨mb, 1, none⟩ (.bool true)) := by
 obtain ⟨h1, h2, h3, h4, h5, h6⟩ := h
 have kp : Keeps u (u.setCell ⟨mb, 1, none⟩ (.bool true)) (fun z => z = mb) := Keeps.setCell (S := fun z => z = mb) (p := ⟨mb, 1, none⟩) (Keeps.refl u _) (fun _ => rfl) _
 refine ⟨Keeps.trans h1 kp (fun j hj e => ?_), h2.met h4, h3.st (St.met h4), heap_setCell_same _ mb 1 _ _ _ h4, h5, h6⟩
 have e' : j = mb := e
 omega
end Go.Proofs.YthhpamhfnpacpaaGreatDoor.Kit
