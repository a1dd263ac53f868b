import Derived.Test.YtknnoiomdngmfaaGreatDoorKA
import Derived.Test.YtknnoiomdngmfaaGreatDoorCU
import Derived.Test.YtknnoiomdngmfaaGreatDoorKH
import Derived.Test.YtknnoiomdngmfaaGreatDoorZF
set_option maxRecDepth 100000
set_option maxHeartbeats 4000000
namespace Go.Proofs.YtknnoiomdngmfaaGreatDoor.Kit
open Go.RowKit Go.Shelf Go.Deep
open Go.Proofs.YtknnoiomdngmfaaGreatDoor.Ink (OwnRow)
set_option linter.unusedVariables false
set_option linter.unusedSimpArgs false
attribute [local go_sem] run_store_func
theorem own_cellsK {w : World} {e n : Nat} {v : Value} {xs : List Value} (h : w.ownsRow 0 e 1 v n xs) (hn : 0 < n) : ∃ g cap, v = .slice (some ⟨g, 0, none⟩) n cap ∧ n ≤ cap ∧ cap ≤ 9223372036854775807 ∧ g < w.heap.size ∧ ∀ j x, xs[j]? = some x → w.cell? ⟨g, j, none⟩ = some x := by
  rcases h.2 with ⟨_, h0⟩ | ⟨g, cap, cur, hv, _, hg, h1, h2, h3, h4⟩
  · omega
  refine ⟨g, cap, hv, h1, h2, lt_of_heap hg, fun j x hj => ?_⟩
  rw [← h4, List.getElem?_take] at hj
  split at hj
  · simp only [World.cell?, hg]
    simpa using hj
  cases hj
structure DatE (W : World) (qb v2 : Nat) : Prop where
  b0 : W.cell? ⟨qb, 0, none⟩ = some (.slice none 0 0)
  b1 : W.cell? ⟨qb, 1, none⟩ = some (.slice (some ⟨v2, 0, none⟩) 2 2)
  x0 : W.cell? ⟨v2, 0, none⟩ = some (.int .u8 9)
  x1 : W.cell? ⟨v2, 1, none⟩ = some (.int .u8 16)
theorem DatE.gr {W u : World} {qb v2 : Nat} (h : DatE W qb v2) (g : Gr W u) : DatE u qb v2 := ⟨g.cell' h.b0 id, g.cell' h.b1 id, g.cell' h.x0 id, g.cell' h.x1 id⟩
theorem dat_e {W w : World} {bo : Option Addr} {bc : Nat} (h : DatA W w 2 (bsOf [(false, 9), (false, 16)]) (xsOf [(false, 9), (false, 16)]) bo bc) : ∃ qb v2, bo = some ⟨qb, 0, none⟩ ∧ DatE w qb v2 := by
  obtain ⟨val, v2, hm, ho, hlo, hr, hl⟩ := h
  have e0 : offs (bsOf [(false, 9), (false, 16)]) = 0 := by decide
  unfold MaskQ at hm
  rw [if_pos e0] at hm
  subst hm
  obtain ⟨qb, cap, hq, -, -, -, hqc⟩ := own_cellsK ho (by decide)
  cases hq
  have hx : ∀ j x, ([.int .u8 9, .int .u8 16] : List Value)[j]? = some x → w.cell? ⟨v2, j, none⟩ = some x := fun j x hj => by
    have e : (leAll (xsOf [(false, 9), (false, 16)])).map (Value.int .u8) = [.int .u8 9, .int .u8 16] := by rfl
    rw [e] at hr
    exact hr.cell hj
  exact ⟨qb, v2, rfl, hqc 0 _ rfl, hqc 1 _ rfl, hx 0 _ rfl, hx 1 _ rfl⟩
theorem of12 (ao : Option Addr) (ca g : Nat) (u : World) (hT : Tab u) (hg : u.heap[g]? = some (.cells #[.bool false, .int .i64 9, .string ⟨#[]⟩, .slice none 0 0, .bool false, .int .i64 16, .string ⟨#[]⟩, .slice none 0 0] 98)) :
    Calls Tryz.prog 42 #[.agg #[.string nmA, .bool false, .int .i64 3, .int .i64 0, .int .i64 0, .int .i64 0, .slice ao 0 ca], .slice (some ⟨g, 0, none⟩) 2 2] u fun e w' => ∃ pb pc v2, e = .returned (.tuple #[.agg #[.int .i64 2, .int .i64 0, .int .i64 0, .slice (some ⟨pb, 0, none⟩) 2 pc, .slice none 0 0, .slice none 0 0], .int .i64 0, .int .i64 0]) ∧ Gr u w' ∧ DatE w' pb v2 := by
  have hV : VAt u (some ⟨g, 0, none⟩) [(false, 9), (false, 16)] := fun k vn x e => by
    obtain ⟨i0, i1, i2, i3, i4, i5, i6, i7⟩ := cell8 hg
    match k, e with
    | 0, e => cases e; exact ⟨g, none, 0, rfl, i0, i1, i2, i3⟩
    | 1, e => cases e; exact ⟨g, none, 0, rfl, i4, i5, i6, i7⟩
    | k + 2, e => simp at e
  refine (of5 false ao ca (some ⟨g, 0, none⟩) 2 [(false, 9), (false, 16)] u hT hV (by decide)).mono ?_
  rintro e w' ⟨hgr, h | h⟩
  · obtain ⟨bo, bc, -, rfl, hd⟩ := h
    obtain ⟨pb, v2, rfl, hb⟩ := dat_e hd
    exact ⟨pb, bc, v2, rfl, hgr, hb⟩
  obtain ⟨k, y, hy, hf, -⟩ := h
  exfalso
  match k, hy with
  | 0, hy => cases hy; revert hf; decide
  | 1, hy => cases hy; revert hf; decide
  | k + 2, hy => simp at hy
theorem cv_nil (w : World) : (convert 50 9 (.slice none 0 0)).run Tryz.prog w = .ok (.string ⟨#[]⟩) w := by kernel_rfl
theorem cv_two {w : World} {v : Nat} (h0 : w.cell? ⟨v, 0, none⟩ = some (.int .u8 9)) (h1 : w.cell? ⟨v, 1, none⟩ = some (.int .u8 16)) : (convert 50 9 (.slice (some ⟨v, 0, none⟩) 2 2)).run Tryz.prog w = .ok (.string ⟨#[9, 16]⟩) w :=
  run_convert_bytes_back w 50 9 5 ⟨v, 0, none⟩ 2 [9, 16] Tryz.underlying50 Tryz.underlying5 Tryz.underlying9 fun j hj => by
    have : j = 0 ∨ j = 1 := by simp at hj; omega
    rcases this with rfl | rfl
    · exact h0
    exact h1
theorem eq6 (pb pc v qb qc y : Nat) (W : World) (h1 : DatE W pb v) (h2 : DatE W qb y) : Calls Tryz.prog 24 #[.agg #[.int .i64 2, .int .i64 0, .int .i64 0, .slice (some ⟨pb, 0, none⟩) 2 pc, .slice none 0 0, .slice none 0 0], .agg #[.int .i64 2, .int .i64 0, .int .i64 0, .slice (some ⟨qb, 0, none⟩) 2 qc, .slice none 0 0, .slice none 0 0]] W fun e w' => e = .returned (.bool true) ∧ Gr W w' := by
  obtain ⟨A0, hA0⟩ := ex (W.alloc (.cells #[.int .i64 2, .int .i64 0, .int .i64 0, .slice (some ⟨pb, 0, none⟩) 2 pc, .slice none 0 0, .slice none 0 0] 54))
  have g0 := gr_al hA0
  have b0 := al_new hA0
  obtain ⟨A, hA⟩ := ex (A0.alloc (.cells #[.int .i64 2, .int .i64 0, .int .i64 0, .slice (some ⟨qb, 0, none⟩) 2 qc, .slice none 0 0, .slice none 0 0] 54))
  have g1 := gr_al hA
  have b1 := al_new hA
  have b0' := (g1.block _ (lt_of_heap b0) id).trans b0
  have gA : Gr W A := g0.tr g1
  have HBx : Hid (∀ u, Gr A u → u.heap[W.heap.size]? = some (.cells #[.int .i64 2, .int .i64 0, .int .i64 0, .slice (some ⟨pb, 0, none⟩) 2 pc, .slice none 0 0, .slice none 0 0] 54) ∧ u.heap[A0.heap.size]? = some (.cells #[.int .i64 2, .int .i64 0, .int .i64 0, .slice (some ⟨qb, 0, none⟩) 2 qc, .slice none 0 0, .slice none 0 0] 54)) := fun u g => ⟨(g.block _ (lt_of_heap b0') id).trans b0', (g.block _ (lt_of_heap b1) id).trans b1⟩
  have HS0 : Hid (∀ u, Gr A u → u.cell? ⟨W.heap.size, 3, none⟩ = some (.slice (some ⟨pb, 0, none⟩) 2 pc) ∧ u.cell? ⟨A0.heap.size, 3, none⟩ = some (.slice (some ⟨qb, 0, none⟩) 2 qc) ∧ u.cell? ⟨pb, 0, none⟩ = some (.slice none 0 0) ∧ u.cell? ⟨qb, 0, none⟩ = some (.slice none 0 0) ∧ (convert 50 9 (.slice none 0 0)).run Tryz.prog u = .ok (.string ⟨#[]⟩) u) := fun u g => by
    obtain ⟨-, -, -, d3, -, -⟩ := cell6 ((g.block _ (lt_of_heap b0') id).trans b0')
    obtain ⟨-, -, -, e3, -, -⟩ := cell6 ((g.block _ (lt_of_heap b1) id).trans b1)
    have g' := gA.tr g
    exact ⟨d3, e3, (h1.gr g').b0, (h2.gr g').b0, cv_nil u⟩
  have HS1 : Hid (∀ u, Gr A u → u.cell? ⟨W.heap.size, 3, none⟩ = some (.slice (some ⟨pb, 0, none⟩) 2 pc) ∧ u.cell? ⟨A0.heap.size, 3, none⟩ = some (.slice (some ⟨qb, 0, none⟩) 2 qc) ∧ u.cell? ⟨pb, 1, none⟩ = some (.slice (some ⟨v, 0, none⟩) 2 2) ∧ u.cell? ⟨qb, 1, none⟩ = some (.slice (some ⟨y, 0, none⟩) 2 2) ∧ (convert 50 9 (.slice (some ⟨v, 0, none⟩) 2 2)).run Tryz.prog u = .ok (.string ⟨#[9, 16]⟩) u ∧ (convert 50 9 (.slice (some ⟨y, 0, none⟩) 2 2)).run Tryz.prog u = .ok (.string ⟨#[9, 16]⟩) u) := fun u g => by
    obtain ⟨-, -, -, d3, -, -⟩ := cell6 ((g.block _ (lt_of_heap b0') id).trans b0')
    obtain ⟨-, -, -, e3, -, -⟩ := cell6 ((g.block _ (lt_of_heap b1) id).trans b1)
    have g' := gA.tr g
    exact ⟨d3, e3, (h1.gr g').b1, (h2.gr g').b1, cv_two (h1.gr g').x0 (h1.gr g').x1, cv_two (h2.gr g').x0 (h2.gr g').x1⟩
  obtain ⟨d0, d1, d2, d3, d4, d5⟩ := cell6 b0'
  obtain ⟨e0, e1, e2, e3, e4, e5⟩ := cell6 b1
  have HG := hidM gA
  clear g0 b0 g1 b1 b0' gA h1 h2
  go_enter Tryz.func24, Tryz.ntmps24
  go_wp2_with fail
  clear hA hA0 d0 d1 d2 d3 d4 d5 e0 e1 e2 e3 e4 e5
  go_loopw [5] (fun i wr => ∃ k : Nat, k ≤ 2 ∧ i = .int .i64 k ∧ Hid (Gr A wr)) (fun i _ => 2 - (intOf i).toNat)
  case atStart => exact ⟨0, by omega, rfl, Keeps.refl _ _⟩
  case round =>
    obtain ⟨k, hk, rfl, HI⟩ := hrel
    have hk3 : k = 0 ∨ k = 1 ∨ k = 2 := by omega
    rcases hk3 with rfl | rfl | rfl
    · have HSd := hidM (HS0.out wr.drew (HI.out.drew))
      have HI2 := hidM (HI.out.drew)
      obtain ⟨p0, p1, -⟩ := HS0.out wr HI.out
      go_wp2_with fail
      go_region_held3 (fun u => u.cell? ⟨W.heap.size, 3, none⟩ = some (.slice (some ⟨pb, 0, none⟩) 2 pc) ∧ u.cell? ⟨A0.heap.size, 3, none⟩ = some (.slice (some ⟨qb, 0, none⟩) 2 qc) ∧ u.cell? ⟨pb, 0, none⟩ = some (.slice none 0 0) ∧ u.cell? ⟨qb, 0, none⟩ = some (.slice none 0 0) ∧ (convert 50 9 (.slice none 0 0)).run Tryz.prog u = .ok (.string ⟨#[]⟩) u) (first | with_reducible exact HSd.out) (fail)
      go_wp2_with fail
      go_roundw
      case rel => exact ⟨1, by omega, by go_num, HI2⟩
      case measure => simp [intOf]
    · have HSd := hidM (HS1.out wr.drew (HI.out.drew))
      have HI2 := hidM (HI.out.drew)
      obtain ⟨p0, p1, -⟩ := HS1.out wr HI.out
      go_wp2_with fail
      go_region_held3 (fun u => u.cell? ⟨W.heap.size, 3, none⟩ = some (.slice (some ⟨pb, 0, none⟩) 2 pc) ∧ u.cell? ⟨A0.heap.size, 3, none⟩ = some (.slice (some ⟨qb, 0, none⟩) 2 qc) ∧ u.cell? ⟨pb, 1, none⟩ = some (.slice (some ⟨v, 0, none⟩) 2 2) ∧ u.cell? ⟨qb, 1, none⟩ = some (.slice (some ⟨y, 0, none⟩) 2 2) ∧ (convert 50 9 (.slice (some ⟨v, 0, none⟩) 2 2)).run Tryz.prog u = .ok (.string ⟨#[9, 16]⟩) u ∧ (convert 50 9 (.slice (some ⟨y, 0, none⟩) 2 2)).run Tryz.prog u = .ok (.string ⟨#[9, 16]⟩) u) (first | with_reducible exact HSd.out) (fail)
      go_wp2_with fail
      go_roundw
      case rel => exact ⟨2, by omega, by go_num, HI2⟩
      case measure => simp [intOf]
    obtain ⟨f0, f1⟩ := HBx.out wr HI.out
    obtain ⟨d0, d1, d2, d3, d4, d5⟩ := cell6 f0
    obtain ⟨e0, e1, e2, e3, e4, e5⟩ := cell6 f1
    have HE := hidM (HG.out.tr HI.out)
    clear f0 f1
    go_wp2_with (go_at_call 43; refine (eqList13 _).mono ?_; rintro e w9 ⟨rfl, hw⟩; replace hw := hw.symm; subst hw)
    go_ret
    exact ⟨rfl, HE.out⟩
def dt0 : Array Value := #[.int .i64 0, .int .i64 0, .int .i64 0, .slice none 0 0, .slice none 0 0, .slice none 0 0]
def dtU (w : World) (b pb pc : Nat) : World := setAll w b [(0, .int .i64 2), (1, .int .i64 0), (2, .int .i64 0), (3, .slice (some ⟨pb, 0, none⟩) 2 pc), (4, .slice none 0 0), (5, .slice none 0 0)]
theorem dt_blk {w : World} {b pb pc : Nat} (h : w.heap[b]? = some (.cells dt0 54)) : (dtU w b pb pc).heap[b]? = some (.cells #[.int .i64 2, .int .i64 0, .int .i64 0, .slice (some ⟨pb, 0, none⟩) 2 pc, .slice none 0 0, .slice none 0 0] 54) := by
  unfold dtU
  rw [setAll_blk b 54 _ _ _ h]
  simp [setsA, dt0]
theorem DatE.kp {w u : World} {pb y b : Nat} (h : DatE w pb y) (hz : w.heap[b]? = some (.cells dt0 54)) (k : Keeps w u (fun z => z = b)) : DatE u pb y := by
  have n1 : pb ≠ b := fun e => by
    have h0 := h.b0
    rw [e] at h0
    simp [World.cell?, hz, dt0] at h0
  have n2 : y ≠ b := fun e => by
    have h0 := h.x0
    rw [e] at h0
    simp [World.cell?, hz, dt0] at h0
  exact ⟨k.cell' h.b0 n1, k.cell' h.b1 n1, k.cell' h.x0 n2, k.cell' h.x1 n2⟩
theorem do5 (fb db qb v2 : Nat) (W : World) (hT : Tab W) (hb : W.heap[fb]? = some (.cells fd2 26)) (hd : W.heap[db]? = some (.cells (da2 qb) 54)) (hD : DatC W qb v2 2) : Calls Tryz.prog 23 #[.int .i64 3, .slice (some ⟨fb, 0, none⟩) 2 2, .slice (some ⟨db, 0, none⟩) 2 2] W fun e w' => ∃ pb pc y, e = .returned (.tuple #[.agg #[.int .i64 2, .int .i64 0, .int .i64 0, .slice (some ⟨pb, 0, none⟩) 2 pc, .slice none 0 0, .slice none 0 0], .int .i64 0, .int .i64 0]) ∧ Gr W w' ∧ DatE w' pb y := by
  obtain ⟨A0, hA0⟩ := ex (W.alloc (.cells #[.int .i64 0, .int .i64 0, .int .i64 0, .slice none 0 0, .slice none 0 0, .slice none 0 0] 54))
  have g0 := gr_al hA0
  have b0 : A0.heap[W.heap.size]? = some (.cells dt0 54) := by rw [← hA0]; exact heap_alloc_new W _
  have HW : Hid (∀ u, Gr A0 u → Tab u ∧ u.heap[fb]? = some (.cells fd2 26) ∧ u.heap[db]? = some (.cells (da2 qb) 54) ∧ DatC u qb v2 2 ∧ u.heap[W.heap.size]? = some (.cells dt0 54) ∧ Gr W u) := fun u g => by
    have g' := g0.tr g
    exact ⟨hT.gr g', (g'.block _ (lt_of_heap hb) id).trans hb, (g'.block _ (lt_of_heap hd) id).trans hd, hD.gr g', (g.block _ (lt_of_heap b0) id).trans b0, g'⟩
  have H7 := hidM (type7 fb 2 A0 (HW.out A0 (Keeps.refl _ _)).1 (HW.out A0 (Keeps.refl _ _)).2.1)
  have H10 : Hid (∀ u, Calls Tryz.prog 30 #[.agg #[.string nmA, .bool false, .int .i64 3, .int .i64 0, .int .i64 0, .int .i64 0, .slice none 0 0]] u fun e w' => e = .returned (.agg #[.int .i64 3, .int .i64 0, .int .i64 0, .int .i64 0, .slice none 0 0]) ∧ Gr u w') := plain10
  have H9 : Hid (∀ u, Calls Tryz.prog 40 #[.int .i64 3, .agg #[.int .i64 3, .int .i64 0, .int .i64 0, .int .i64 0, .slice none 0 0]] u fun e w' => ∃ v, e = .returned (.agg #[.bool false, v]) ∧ WkA u w' v) := work9
  clear g0 b0 hT hb hd hD
  go_enter Tryz.func23, Tryz.ntmps23
  go_wp2_with (first
    | (go_at_call 4; refine H7.out.mono ?_; rintro e w1 ⟨fo, fc, rfl, g1⟩; have HG1 := hidM g1; clear g1 hA0; obtain ⟨A1, hA1⟩ := ex (w1.alloc (.cells #[.string ⟨#[]⟩, .bool false, .int .i64 0, .int .i64 0, .int .i64 0, .int .i64 0, .slice none 0 0] 26)); have g2 := gr_al hA1; have hb2 : A1.heap[w1.heap.size]? = some (.cells fdZ 26) := (by rw [← hA1]; exact heap_alloc_new w1 _); obtain ⟨c0, c1, c2, c3, c4, c5, c6⟩ := cell7 hb2; obtain ⟨x0, x1, x2, x3, x4, x5, x6⟩ := frz7 hb2; have hv := f9_blk (fo := fo) (fc := fc) hb2; have gv : Gr w1 (f9U A1 w1.heap.size fo fc) := g2.trans (setAll_kp _ _ _) (fun j hj e => (by have e' : j = w1.heap.size := e; omega)); obtain ⟨V, hV⟩ := ex (f9U A1 w1.heap.size fo fc); rw [hV] at hv gv; simp only [f9U, setAll] at hV; have HV := hidM hv; have HGV := hidM (HG1.out.tr gv); obtain ⟨t7, f7, d7, D7, -, -⟩ := HW.out V HGV.out; have H8 := hidM (columns8 fb 2 db 2 qb v2 V f7 d7 D7); clear g2 hb2 hv gv t7 f7 d7 D7)
    | (go_at_call 39; refine H8.out.mono ?_; rintro e w2 ⟨cb, ga, gb, rfl, g2, hC⟩; have HG2 := hidM (HGV.out.tr g2); have HV2 := hidM ((g2.block _ (lt_of_heap HV.out) id).trans HV.out); have HC := hidM hC; clear g2 hC c0 c1 c2 c3 c4 c5 c6 x0 x1 x2 x3 x4 x5 x6 hV hA1; obtain ⟨⟨a0, a1, a2, a3, a4, a5, a6⟩, -⟩ := cell14 (HW.out w2 HG2.out).2.1)
    | (go_at_call 30; refine (H10.out _).mono ?_; rintro e w3 ⟨rfl, g3⟩; have HG3 := hidM g3; clear g3 a0 a1 a2 a3 a4 a5 a6)
    | (go_at_call 40; refine (H9.out _).mono ?_; rintro e w4 ⟨v, rfl, p, d, hv, g4, hp, hd⟩; subst hv; have HG4 := hidM (HG3.out.tr g4); have H11 := hidM (each11 cb ga gb p d w4 (HC.out.kp (S := fun _ => False) HG4.out id id id) hp hd); clear g4 hp hd)
    | (go_at_call 41; refine H11.out.mono ?_; rintro e w5 ⟨z, rfl, g5, -, hz⟩; have HG5 := hidM (HG4.out.tr g5); have HGA := hidM (HG2.out.tr HG5.out); have hb9 := (HG5.out.block _ (lt_of_heap HV2.out) id).trans HV2.out; obtain ⟨c0, c1, c2, c3, c4, c5, c6⟩ := cell7 hb9; have H12 := hidM (of12 fo fc z w5 (HW.out w5 HGA.out).1 hz); clear g5 hz hb9)
    | (go_at_call 42; refine H12.out.mono ?_; rintro e w6 ⟨pb, pc, y, rfl, g6, hE⟩; have HG6 := hidM (HGA.out.tr g6); obtain ⟨-, -, -, -, h6, gW6⟩ := HW.out w6 HG6.out; have kU : Keeps w6 (dtU w6 W.heap.size pb pc) (fun z => z = W.heap.size) := setAll_kp _ _ _; have hu := dt_blk (pb := pb) (pc := pc) h6; have hEU := hE.kp h6 kU; have gU : Gr W (dtU w6 W.heap.size pb pc) := gW6.trans kU (fun j hj e => (by have e' : j = W.heap.size := e; omega)); obtain ⟨U, hU⟩ := ex (dtU w6 W.heap.size pb pc); rw [hU] at hu hEU gU; simp only [dtU, setAll] at hU; clear c0 c1 c2 c3 c4 c5 c6; obtain ⟨c0, c1, c2, c3, c4, c5⟩ := cell6 h6; obtain ⟨x0, x1, x2, x3, x4, x5⟩ := frz6 h6; have HU := hidM hu; have HR := hidM (And.intro gU hEU); clear g6 hE h6 gW6 kU hu hEU gU))
  (try simp only [Exit.inBlock, Exit.then])
  refine bodyPost_ret (results_cell31tt rfl rfl (by with_reducible exact HU.out) (by kernel_rfl)) rfl ?_
  exact ⟨pb, pc, y, rfl, HR.out⟩
theorem fixed4 (W : World) (hT : Tab W) : Calls Tryz.prog 7 #[] W fun e w' => e = .returned (.bool true) ∧ Gr W w' := by
  obtain ⟨B1, hB1⟩ := ex (W.alloc (.cells #[.string ⟨#[]⟩, .bool false, .int .i64 0, .int .i64 0, .int .i64 0, .int .i64 0, .slice none 0 0] 26))
  have g1 := gr_al hB1
  have b1 : B1.heap[W.heap.size]? = some (.cells fdZ 26) := by rw [← hB1]; exact heap_alloc_new W _
  obtain ⟨c0, c1, c2, c3, c4, c5, c6⟩ := cell7 b1
  obtain ⟨x0, x1, x2, x3, x4, x5, x6⟩ := frz7 b1
  have hF := fd_blk b1
  have gF : Gr W (fdU B1 W.heap.size) := g1.trans (setAll_kp _ _ _) (fun j hj (e : j = W.heap.size) => by omega)
  obtain ⟨F, hFe⟩ := ex (fdU B1 W.heap.size)
  rw [hFe] at hF gF
  simp only [fdU, setAll] at hFe
  obtain ⟨B2, hB2⟩ := ex (F.alloc (.cells #[.int .u8 3, .int .u8 4] 5))
  have g2 := gr_al hB2
  have b2 := al_new hB2
  obtain ⟨B3, hB3⟩ := ex (B2.alloc (.cells #[.slice none 0 0, .slice (some ⟨F.heap.size, 0, none⟩) 2 2] 50))
  have g3 := gr_al hB3
  have b3 := al_new hB3
  obtain ⟨B4, hB4⟩ := ex (B3.alloc (.cells #[.int .i64 0, .int .i64 0, .int .i64 0, .slice none 0 0, .slice none 0 0, .slice none 0 0] 54))
  have g4 := gr_al hB4
  have b4 : B4.heap[B3.heap.size]? = some (.cells dt0 54) := by rw [← hB4]; exact heap_alloc_new B3 _
  obtain ⟨e0, e1, e2, e3, e4, e5⟩ := cell6 b4
  obtain ⟨y0, y1, y2, y3, y4, y5⟩ := frz6 b4
  have hE := dt_blk (pb := B2.heap.size) (pc := 2) b4
  have gE : Gr B3 (dtU B4 B3.heap.size B2.heap.size 2) := g4.trans (setAll_kp _ _ _) (fun j hj (e : j = B3.heap.size) => by omega)
  obtain ⟨G, hGe⟩ := ex (dtU B4 B3.heap.size B2.heap.size 2)
  rw [hGe] at hE gE
  simp only [dtU, setAll] at hGe
  have g23 := g2.tr g3
  have gFG := g23.tr gE
  obtain ⟨m0, m1, m2, m3, m4, m5, m6⟩ := cell7 ((gFG.block _ (lt_of_heap hF) id).trans hF)
  obtain ⟨B5, hB5⟩ := ex (G.alloc (.cells fd2 26))
  have g5 := gr_al hB5
  have b5 := al_new hB5
  obtain ⟨n0, n1, n2, n3, n4, n5⟩ := cell6 ((g5.block _ (lt_of_heap hE) id).trans hE)
  obtain ⟨B6, hB6⟩ := ex (B5.alloc (.cells (da2 B2.heap.size) 54))
  have g6 := gr_al hB6
  have b6 := al_new hB6
  have g56 := g5.tr g6
  have gE6 := gE.tr g56
  have gW6 : Gr W B6 := gF.tr (g23.tr gE6)
  have q2 := cell2 (((g3.tr gE6).block _ (lt_of_heap b2) id).trans b2)
  have q3 := cell2 ((gE6.block _ (lt_of_heap b3) id).trans b3)
  have H5 := hidM (do5 G.heap.size B5.heap.size B2.heap.size F.heap.size B6 (hT.gr gW6) ((g6.block _ (lt_of_heap b5) id).trans b5) b6 ⟨q3.1, q3.2, q2.1, q2.2, Nat.le_refl _, hT.gr gW6⟩)
  have HG6 := hidM gW6
  unfold fd2 at hB5
  unfold da2 at hB6
  unfold nmA at hFe m0 hB5
  clear g1 b1 hF gF g2 b2 g3 b3 g4 b4 hE gE g23 gFG g5 b5 g6 b6 g56 gE6 gW6 q2 q3 hT
  go_enter Tryz.func7, Tryz.ntmps7
  go_wp2_with (first
    | (go_at_call 23; refine H5.out.mono ?_; rintro e w1 ⟨pb, pc, y, rfl, g1, hE⟩; have HG1 := hidM (HG6.out.tr g1); clear c0 c1 c2 c3 c4 c5 c6 x0 x1 x2 x3 x4 x5 x6 hFe hB1 hB2 hB3 hB4 e0 e1 e2 e3 e4 e5 y0 y1 y2 y3 y4 y5 hGe m0 m1 m2 m3 m4 m5 m6 n0 n1 n2 n3 n4 n5 hB5 hB6; obtain ⟨C1, hC1⟩ := ex (w1.alloc (.cells #[.int .i64 0, .int .i64 0, .int .i64 0, .slice none 0 0, .slice none 0 0, .slice none 0 0] 54)); have k1 := gr_al hC1; have r1 : C1.heap[w1.heap.size]? = some (.cells dt0 54) := (by rw [← hC1]; exact heap_alloc_new w1 _); obtain ⟨c0, c1, c2, c3, c4, c5⟩ := cell6 r1; obtain ⟨x0, x1, x2, x3, x4, x5⟩ := frz6 r1; have hQ := dt_blk (pb := pb) (pc := pc) r1; have gQ : Gr w1 (dtU C1 w1.heap.size pb pc) := k1.trans (setAll_kp _ _ _) (fun j hj e => (by have e' : j = w1.heap.size := e; omega)); obtain ⟨Q, hQe⟩ := ex (dtU C1 w1.heap.size pb pc); rw [hQe] at hQ gQ; simp only [dtU, setAll] at hQe; obtain ⟨e0, e1, e2, e3, e4, e5⟩ := cell6 hQ; obtain ⟨C2, hC2⟩ := ex (Q.alloc (.cells #[.int .u8 9, .int .u8 16] 5)); have k2 := gr_al hC2; have r2 := al_new hC2; obtain ⟨C3, hC3⟩ := ex (C2.alloc (.cells #[.slice none 0 0, .slice (some ⟨Q.heap.size, 0, none⟩) 2 2] 50)); have k3 := gr_al hC3; have r3 := al_new hC3; have k23 := k2.tr k3; have kQ := gQ.tr k23; have u2 := cell2 ((k3.block _ (lt_of_heap r2) id).trans r2); have u3 := cell2 r3; have H6 := hidM (eq6 pb pc y C2.heap.size 2 Q.heap.size C3 (hE.gr kQ) ⟨u3.1, u3.2, u2.1, u2.2⟩); have HG3 := hidM (HG1.out.tr kQ); clear g1 hE k1 r1 hQ gQ k2 r2 k3 r3 k23 kQ u2 u3)
    | (go_at_call 24; refine H6.out.mono ?_; rintro e w9 ⟨rfl, g9⟩; have HE := hidM (HG3.out.tr g9); clear g9))
  go_ret
  exact ⟨rfl, HE.out⟩
end Go.Proofs.YtknnoiomdngmfaaGreatDoor.Kit
namespace Go.Proofs.YtknnoiomdngmfaaGreatDoor.Kit
open Go.RowKit Go.Shelf Go.Deep
set_option linter.unusedVariables false
set_option linter.unusedSimpArgs false
attribute [local go_sem] run_store_func
theorem types3 (S : Nat → Prop) (w : World) (d lc : Nat) (op : Int) (fs : List FT) (lo : Option Addr) (hT : Tab w) (hr : RowAt S w (d + 1) lo fs) (hlc : fs.length ≤ lc) (hd : d + 3 ≤ big) (hS : ∀ b, S b → b < w.heap.size) :
    Calls Tryz.prog 3 #[.int .i64 op, .slice lo fs.length lc] w fun e w' => e = .returned (.bool true) ∧ Gr w w' := by
  obtain ⟨D, r, h4, h5⟩ := both_types S w d lc op fs lo hT hr hlc hd hS
  have H4 := hidM (h4 w (Keeps.refl _ _))
  have H5 := hidM h5
  have HT := hidM hT
  clear h4 h5 hr hT hlc hd hS
  go_enter Tryz.func3, Tryz.ntmps3
  go_wp2_with (first
    | (go_at_call 4; refine H4.out.mono ?_; rintro e w1 ⟨vo, vc, rfl, g1, hl1, hr1⟩; obtain ⟨B1, hB1⟩ := ex (w1.alloc (.cells #[.string ⟨#[]⟩, .bool false, .int .i64 0, .int .i64 0, .int .i64 0, .int .i64 0, .slice none 0 0] 26)); obtain ⟨z1, hz1⟩ := ex (w1.heap.size); obtain ⟨X1, hX1⟩ := ex (stA B1 z1 [(0, .string r.2.name), (1, .bool r.2.nul), (2, .int .i64 r.2.kind), (3, .int .i64 r.2.width), (4, .int .i64 r.2.id), (5, .int .i64 r.2.index), (6, .slice vo r.2.kids.length vc)]); obtain ⟨gX1, cX1, cB1⟩ := box7 hB1 hz1 hX1; obtain ⟨q10, q11, q12, q13, q14, q15, q16⟩ := cell7p cB1; obtain ⟨f10, f11, f12, f13, f14, f15, f16⟩ := frz7 cB1; simp only [stA] at hX1; have HG1 := hidM (And.intro (g1.tr gX1) cX1); have HR1 : Hid (RowAt (fun b => b < X1.heap.size) X1 D vo r.2.kids) := ((hr1.kept fun b hb => gX1.block b hb.2 id).mono fun b hb => Nat.lt_of_lt_of_le hb.2 gX1.size); have HL1 := hidM hl1; have HC5 := hidM (H5.out X1 HG1.out.1); clear g1 gX1 cX1 cB1 hl1 hr1)
    | (go_at_call 5; refine HC5.out.mono ?_; rintro e w2 ⟨uo, uc, rfl, g2, hl2, hr2⟩; clear q10 q11 q12 q13 q14 q15 q16 f10 f11 f12 f13 f14 f15 f16 hX1 hB1 hz1; obtain ⟨B2, hB2⟩ := ex (w2.alloc (.cells #[.string ⟨#[]⟩, .bool false, .int .i64 0, .int .i64 0, .int .i64 0, .int .i64 0, .slice none 0 0] 26)); obtain ⟨z2, hz2⟩ := ex (w2.heap.size); obtain ⟨X2, hX2⟩ := ex (stA B2 z2 [(0, .string r.2.name), (1, .bool r.2.nul), (2, .int .i64 r.2.kind), (3, .int .i64 r.2.width), (4, .int .i64 r.2.id), (5, .int .i64 r.2.index), (6, .slice uo r.2.kids.length uc)]); obtain ⟨gX2, cX2, cB2⟩ := box7 hB2 hz2 hX2; obtain ⟨q20, q21, q22, q23, q24, q25, q26⟩ := cell7p cB2; obtain ⟨f20, f21, f22, f23, f24, f25, f26⟩ := frz7 cB2; simp only [stA] at hX2; have g12 := g2.tr gX2; have c1 := (g12.block _ (lt_of_heap HG1.out.2) id).trans HG1.out.2; obtain ⟨s0, s1, s2, s3, s4, s5, s6⟩ := cell7p c1; obtain ⟨t0, t1, t2, t3, t4, t5, t6⟩ := cell7p cX2; have HC6 := hidM (eqField_any (fun b => b < X2.heap.size) D X2 r.2 r.2 vo uo vc uc ((HR1.out.kept fun b hb => g12.block b hb id).mono fun b hb => Nat.lt_of_lt_of_le hb g12.size) ((hr2.kept fun b hb => gX2.block b hb.2 id).mono fun b hb => Nat.lt_of_lt_of_le hb.2 gX2.size) HL1.out hl2 (fun _ h => h) X2 (Keeps.refl _ _)); have HG2 := hidM (HG1.out.1.tr g12); rw [sameFd_refl] at HC6; clear g2 gX2 cX2 cB2 hl2 hr2 g12 c1)
    | (go_at_call 6; refine HC6.out.mono ?_; rintro e w3 ⟨rfl, g3⟩; have HG3 := hidM (HG2.out.tr g3); clear g3)
    | (go_at_call 7; refine (fixed4 _ (HT.out.gr HG3.out)).mono ?_; rintro e w4 ⟨rfl, g4⟩; have HG4 := hidM (HG3.out.tr g4); clear g4))
  go_ret
  exact ⟨rfl, HG4.out⟩
end Go.Proofs.YtknnoiomdngmfaaGreatDoor.Kit
