import Derived.Test.YtcedjdkldiffdaaGreatDoorKA
import Derived.Test.YtcedjdkldiffdaaGreatDoorCU
import Derived.Test.YtcedjdkldiffdaaGreatDoorKH
import Derived.Test.YtcedjdkldiffdaaGreatDoorRows
import Derived.ProofKit
import Derived.OpenShut
import Derived.ChangeOld
import Derived.Below
import Derived.Deep.Slices
import Derived.Lib.LaidTab
import Derived.Lib.LaidU8
import Derived.Deep.DeepHandedRow
set_option maxRecDepth 100000
set_option maxHeartbeats 4000000
namespace Go.Proofs.YtcedjdkldiffdaaGreatDoor.Kit
open Go.RowKit Go.Shelf Go.Deep
open Go.Proofs.YtcedjdkldiffdaaGreatDoor.Kd (Ans AnsV cell5 cell2)
open Go.Proofs.YtcedjdkldiffdaaGreatDoor.Ink (OwnRow)
set_option linter.unusedVariables false
set_option linter.unusedSimpArgs false
attribute [local go_sem] run_store_func
theorem own_cells {w : World} {e n : Nat} {v : Value} {xs : List Value} (h : w.ownsRow 0 e 1 v n xs) (hn : 0 < n) : ∃ g cap, v = .slice (some ⟨g, 0, none⟩) n cap ∧ n ≤ cap ∧ cap ≤ 9223372036854775807 ∧ g < w.heap.size ∧ ∀ j x, xs[j]? = some x → w.cell? ⟨g, j, none⟩ = some x := by
  rcases h.2 with ⟨_, h0⟩ | ⟨g, cap, cur, hv, _, hg, h1, h2, h3, h4⟩
  · omega
  · refine ⟨g, cap, hv, h1, h2, lt_of_heap hg, fun j x hj => ?_⟩
    rw [← h4, List.getElem?_take] at hj
    split at hj
    · simp only [World.cell?, hg]
      simpa using hj
    · cases hj
/-- an array of the bytes 9 and 16 -/
structure DatE (W : World) (qb v2 : Nat) : Prop where
  b0 : W.cell? ⟨qb, 0, none⟩ = some (.slice none 0 0)
  b1 : W.cell? ⟨qb, 1, none⟩ = some (.slice (some ⟨v2, 0, none⟩) 2 2)
  x0 : W.cell? ⟨v2, 0, none⟩ = some (.int .u8 9)
  x1 : W.cell? ⟨v2, 1, none⟩ = some (.int .u8 16)
theorem DatE.gr {W u : World} {qb v2 : Nat} (h : DatE W qb v2) (g : Gr W u) : DatE u qb v2 := ⟨g.cell' h.b0 id, g.cell' h.b1 id, g.cell' h.x0 id, g.cell' h.x1 id⟩
theorem dat_e {W w : World} {bo : Option Addr} {bc : Nat} (h : DatA W w 2 (bsOf [(false, 9), (false, 16)]) (xsOf [(false, 9), (false, 16)]) bo bc) : ∃ qb v2, bo = some ⟨qb, 0, none⟩ ∧ DatE w qb v2 := by
  obtain ⟨val, v2, hm, ho, hlo, hr, hl⟩ := h
  have e0 : offs (bsOf [(false, 9), (false, 16)]) = 0 := by decide
  unfold MaskQ at hm
  rw [if_pos e0] at hm
  subst hm
  obtain ⟨qb, cap, hq, -, -, -, hqc⟩ := own_cells ho (by decide)
  cases hq
  have hx : ∀ j x, ([.int .u8 9, .int .u8 16] : List Value)[j]? = some x → w.cell? ⟨v2, j, none⟩ = some x := fun j x hj => by
    have e : (leAll (xsOf [(false, 9), (false, 16)])).map (Value.int .u8) = [.int .u8 9, .int .u8 16] := by rfl
    rw [e] at hr
    exact hr.cell hj
  exact ⟨qb, v2, rfl, hqc 0 _ rfl, hqc 1 _ rfl, hx 0 _ rfl, hx 1 _ rfl⟩
theorem of12 (ao : Option Addr) (ca g : Nat) (u : World) (hT : Tab u) (hg : u.heap[g]? = some (.cells #[.bool false, .int .i64 9, .string ⟨#[]⟩, .slice none 0 0, .bool false, .int .i64 16, .string ⟨#[]⟩, .slice none 0 0] 77)) :
    Calls Tryz.prog 12 #[.agg #[.string nmA, .bool false, .int .i64 3, .int .i64 0, .int .i64 0, .int .i64 0, .slice ao 0 ca], .slice (some ⟨g, 0, none⟩) 2 2] u fun e w' => ∃ pb pc v2, e = .returned (.tuple #[.agg #[.int .i64 2, .int .i64 0, .int .i64 0, .slice (some ⟨pb, 0, none⟩) 2 pc, .slice none 0 0, .slice none 0 0], .int .i64 0, .int .i64 0]) ∧ Gr u w' ∧ DatE w' pb v2 := by
  have hV : VAt u (some ⟨g, 0, none⟩) [(false, 9), (false, 16)] := fun k vn x e => by
    obtain ⟨i0, i1, i2, i3, i4, i5, i6, i7⟩ := cell8 hg
    match k, e with
    | 0, e => cases e; exact ⟨g, none, 0, rfl, i0, i1, i2, i3⟩
    | 1, e => cases e; exact ⟨g, none, 0, rfl, i4, i5, i6, i7⟩
    | k + 2, e => simp at e
  refine (of5 false ao ca (some ⟨g, 0, none⟩) 2 [(false, 9), (false, 16)] u hT hV (by decide)).mono ?_
  rintro e w' ⟨hgr, h | h⟩
  · obtain ⟨bo, bc, -, rfl, hd⟩ := h
    obtain ⟨pb, v2, rfl, hb⟩ := dat_e hd
    exact ⟨pb, bc, v2, rfl, hgr, hb⟩
  · obtain ⟨k, y, hy, hf, -⟩ := h
    exfalso
    match k, hy with
    | 0, hy => cases hy; revert hf; decide
    | 1, hy => cases hy; revert hf; decide
    | k + 2, hy => simp at hy
theorem cv_nil (w : World) : (convert 28 9 (.slice none 0 0)).run Tryz.prog w = .ok (.string ⟨#[]⟩) w := by kernel_rfl
theorem cv_two {w : World} {v : Nat} (h0 : w.cell? ⟨v, 0, none⟩ = some (.int .u8 9)) (h1 : w.cell? ⟨v, 1, none⟩ = some (.int .u8 16)) : (convert 28 9 (.slice (some ⟨v, 0, none⟩) 2 2)).run Tryz.prog w = .ok (.string ⟨#[9, 16]⟩) w :=
  run_convert_bytes_back w 28 9 5 ⟨v, 0, none⟩ 2 [9, 16] Tryz.underlying28 Tryz.underlying5 Tryz.underlying9 fun j hj => by
    have : j = 0 ∨ j = 1 := by simp at hj; omega
    rcases this with rfl | rfl
    · exact h0
    · exact h1
theorem eq6 (pb pc v qb qc y : Nat) (W : World) (h1 : DatE W pb v) (h2 : DatE W qb y) : Calls Tryz.prog 6 #[.agg #[.int .i64 2, .int .i64 0, .int .i64 0, .slice (some ⟨pb, 0, none⟩) 2 pc, .slice none 0 0, .slice none 0 0], .agg #[.int .i64 2, .int .i64 0, .int .i64 0, .slice (some ⟨qb, 0, none⟩) 2 qc, .slice none 0 0, .slice none 0 0]] W fun e w' => e = .returned (.bool true) ∧ Gr W w' := by
  obtain ⟨A0, hA0⟩ : ∃ A0, W.alloc (.cells #[.int .i64 2, .int .i64 0, .int .i64 0, .slice (some ⟨pb, 0, none⟩) 2 pc, .slice none 0 0, .slice none 0 0] 32) = A0 := ⟨_, rfl⟩
  have g0 : Gr W A0 := by rw [← hA0]; exact gr_alloc W _
  have b0 : A0.heap[W.heap.size]? = some (.cells #[.int .i64 2, .int .i64 0, .int .i64 0, .slice (some ⟨pb, 0, none⟩) 2 pc, .slice none 0 0, .slice none 0 0] 32) := by rw [← hA0]; exact heap_alloc_new W _
  obtain ⟨A, hA⟩ : ∃ A, A0.alloc (.cells #[.int .i64 2, .int .i64 0, .int .i64 0, .slice (some ⟨qb, 0, none⟩) 2 qc, .slice none 0 0, .slice none 0 0] 32) = A := ⟨_, rfl⟩
  have g1 : Gr A0 A := by rw [← hA]; exact gr_alloc A0 _
  have b1 : A.heap[A0.heap.size]? = some (.cells #[.int .i64 2, .int .i64 0, .int .i64 0, .slice (some ⟨qb, 0, none⟩) 2 qc, .slice none 0 0, .slice none 0 0] 32) := by rw [← hA]; exact heap_alloc_new A0 _
  have b0' := (g1.block _ (lt_of_heap b0) id).trans b0
  have gA : Gr W A := g0.trans g1 (fun _ _ h => h)
  have HBx : Hid (∀ u, Gr A u → u.heap[W.heap.size]? = some (.cells #[.int .i64 2, .int .i64 0, .int .i64 0, .slice (some ⟨pb, 0, none⟩) 2 pc, .slice none 0 0, .slice none 0 0] 32) ∧ u.heap[A0.heap.size]? = some (.cells #[.int .i64 2, .int .i64 0, .int .i64 0, .slice (some ⟨qb, 0, none⟩) 2 qc, .slice none 0 0, .slice none 0 0] 32)) := fun u g => ⟨(g.block _ (lt_of_heap b0') id).trans b0', (g.block _ (lt_of_heap b1) id).trans b1⟩
  have HS0 : Hid (∀ u, Gr A u → u.cell? ⟨W.heap.size, 3, none⟩ = some (.slice (some ⟨pb, 0, none⟩) 2 pc) ∧ u.cell? ⟨A0.heap.size, 3, none⟩ = some (.slice (some ⟨qb, 0, none⟩) 2 qc) ∧ u.cell? ⟨pb, 0, none⟩ = some (.slice none 0 0) ∧ u.cell? ⟨qb, 0, none⟩ = some (.slice none 0 0) ∧ (convert 28 9 (.slice none 0 0)).run Tryz.prog u = .ok (.string ⟨#[]⟩) u) := fun u g => by
    obtain ⟨-, -, -, d3, -, -⟩ := cell6 ((g.block _ (lt_of_heap b0') id).trans b0')
    obtain ⟨-, -, -, e3, -, -⟩ := cell6 ((g.block _ (lt_of_heap b1) id).trans b1)
    have g' := gA.trans g (fun _ _ h => h)
    exact ⟨d3, e3, (h1.gr g').b0, (h2.gr g').b0, cv_nil u⟩
  have HS1 : Hid (∀ u, Gr A u → u.cell? ⟨W.heap.size, 3, none⟩ = some (.slice (some ⟨pb, 0, none⟩) 2 pc) ∧ u.cell? ⟨A0.heap.size, 3, none⟩ = some (.slice (some ⟨qb, 0, none⟩) 2 qc) ∧ u.cell? ⟨pb, 1, none⟩ = some (.slice (some ⟨v, 0, none⟩) 2 2) ∧ u.cell? ⟨qb, 1, none⟩ = some (.slice (some ⟨y, 0, none⟩) 2 2) ∧ (convert 28 9 (.slice (some ⟨v, 0, none⟩) 2 2)).run Tryz.prog u = .ok (.string ⟨#[9, 16]⟩) u ∧ (convert 28 9 (.slice (some ⟨y, 0, none⟩) 2 2)).run Tryz.prog u = .ok (.string ⟨#[9, 16]⟩) u) := fun u g => by
    obtain ⟨-, -, -, d3, -, -⟩ := cell6 ((g.block _ (lt_of_heap b0') id).trans b0')
    obtain ⟨-, -, -, e3, -, -⟩ := cell6 ((g.block _ (lt_of_heap b1) id).trans b1)
    have g' := gA.trans g (fun _ _ h => h)
    exact ⟨d3, e3, (h1.gr g').b1, (h2.gr g').b1, cv_two (h1.gr g').x0 (h1.gr g').x1, cv_two (h2.gr g').x0 (h2.gr g').x1⟩
  obtain ⟨d0, d1, d2, d3, d4, d5⟩ := cell6 b0'
  obtain ⟨e0, e1, e2, e3, e4, e5⟩ := cell6 b1
  have HG := hidM gA
  clear g0 b0 g1 b1 b0' gA h1 h2
  go_enter Tryz.func6, Tryz.ntmps6
  go_wp2_with fail
  clear hA hA0 d0 d1 d2 d3 d4 d5 e0 e1 e2 e3 e4 e5
  go_loopw [5] (fun i wr => ∃ k : Nat, k ≤ 2 ∧ i = .int .i64 k ∧ Hid (Gr A wr)) (fun i _ => 2 - (intOf i).toNat)
  case atStart => exact ⟨0, by omega, rfl, Keeps.refl _ _⟩
  case round =>
    obtain ⟨k, hk, rfl, HI⟩ := hrel
    have hk3 : k = 0 ∨ k = 1 ∨ k = 2 := by omega
    rcases hk3 with rfl | rfl | rfl
    · have HSd := hidM (HS0.out wr.drew (HI.out.drew))
      have HI2 := hidM (HI.out.drew)
      obtain ⟨p0, p1, -⟩ := HS0.out wr HI.out
      go_wp2_with fail
      go_region_held3 (fun u => u.cell? ⟨W.heap.size, 3, none⟩ = some (.slice (some ⟨pb, 0, none⟩) 2 pc) ∧ u.cell? ⟨A0.heap.size, 3, none⟩ = some (.slice (some ⟨qb, 0, none⟩) 2 qc) ∧ u.cell? ⟨pb, 0, none⟩ = some (.slice none 0 0) ∧ u.cell? ⟨qb, 0, none⟩ = some (.slice none 0 0) ∧ (convert 28 9 (.slice none 0 0)).run Tryz.prog u = .ok (.string ⟨#[]⟩) u) (first | with_reducible exact HSd.out) (fail)
      go_wp2_with fail
      go_roundw
      case rel => exact ⟨1, by omega, by go_num, HI2⟩
      case measure => simp [intOf]
    · have HSd := hidM (HS1.out wr.drew (HI.out.drew))
      have HI2 := hidM (HI.out.drew)
      obtain ⟨p0, p1, -⟩ := HS1.out wr HI.out
      go_wp2_with fail
      go_region_held3 (fun u => u.cell? ⟨W.heap.size, 3, none⟩ = some (.slice (some ⟨pb, 0, none⟩) 2 pc) ∧ u.cell? ⟨A0.heap.size, 3, none⟩ = some (.slice (some ⟨qb, 0, none⟩) 2 qc) ∧ u.cell? ⟨pb, 1, none⟩ = some (.slice (some ⟨v, 0, none⟩) 2 2) ∧ u.cell? ⟨qb, 1, none⟩ = some (.slice (some ⟨y, 0, none⟩) 2 2) ∧ (convert 28 9 (.slice (some ⟨v, 0, none⟩) 2 2)).run Tryz.prog u = .ok (.string ⟨#[9, 16]⟩) u ∧ (convert 28 9 (.slice (some ⟨y, 0, none⟩) 2 2)).run Tryz.prog u = .ok (.string ⟨#[9, 16]⟩) u) (first | with_reducible exact HSd.out) (fail)
      go_wp2_with fail
      go_roundw
      case rel => exact ⟨2, by omega, by go_num, HI2⟩
      case measure => simp [intOf]
    · obtain ⟨f0, f1⟩ := HBx.out wr HI.out
      obtain ⟨d0, d1, d2, d3, d4, d5⟩ := cell6 f0
      obtain ⟨e0, e1, e2, e3, e4, e5⟩ := cell6 f1
      have HE := hidM (HG.out.trans HI.out (fun _ _ h => h))
      clear f0 f1
      go_wp2_with (go_at_call 13; refine (eqList13 _).mono ?_; rintro e w9 ⟨rfl, hw⟩; replace hw := hw.symm; subst hw)
      go_ret
      exact ⟨rfl, HE.out⟩
def dt0 : Array Value := #[.int .i64 0, .int .i64 0, .int .i64 0, .slice none 0 0, .slice none 0 0, .slice none 0 0]
def dtU (w : World) (b pb pc : Nat) : World := setAll w b [(0, .int .i64 2), (1, .int .i64 0), (2, .int .i64 0), (3, .slice (some ⟨pb, 0, none⟩) 2 pc), (4, .slice none 0 0), (5, .slice none 0 0)]
theorem dt_blk {w : World} {b pb pc : Nat} (h : w.heap[b]? = some (.cells dt0 32)) : (dtU w b pb pc).heap[b]? = some (.cells #[.int .i64 2, .int .i64 0, .int .i64 0, .slice (some ⟨pb, 0, none⟩) 2 pc, .slice none 0 0, .slice none 0 0] 32) := by
  unfold dtU
  rw [setAll_blk b 32 _ _ _ h]
  simp [setsA, dt0]
theorem DatE.kp {w u : World} {pb y b : Nat} (h : DatE w pb y) (hz : w.heap[b]? = some (.cells dt0 32)) (k : Keeps w u (fun z => z = b)) : DatE u pb y := by
  have n1 : pb ≠ b := fun e => by
    have h0 := h.b0
    rw [e] at h0
    simp [World.cell?, hz, dt0] at h0
  have n2 : y ≠ b := fun e => by
    have h0 := h.x0
    rw [e] at h0
    simp [World.cell?, hz, dt0] at h0
  exact ⟨k.cell' h.b0 n1, k.cell' h.b1 n1, k.cell' h.x0 n2, k.cell' h.x1 n2⟩
theorem do5 (fb db qb v2 : Nat) (W : World) (hT : Tab W) (hb : W.heap[fb]? = some (.cells fd2 27)) (hd : W.heap[db]? = some (.cells (da2 qb) 32)) (hD : DatC W qb v2 2) : Calls Tryz.prog 5 #[.int .i64 3, .slice (some ⟨fb, 0, none⟩) 2 2, .slice (some ⟨db, 0, none⟩) 2 2] W fun e w' => ∃ pb pc y, e = .returned (.tuple #[.agg #[.int .i64 2, .int .i64 0, .int .i64 0, .slice (some ⟨pb, 0, none⟩) 2 pc, .slice none 0 0, .slice none 0 0], .int .i64 0, .int .i64 0]) ∧ Gr W w' ∧ DatE w' pb y := by
  obtain ⟨A0, hA0⟩ : ∃ A0, W.alloc (.cells #[.int .i64 0, .int .i64 0, .int .i64 0, .slice none 0 0, .slice none 0 0, .slice none 0 0] 32) = A0 := ⟨_, rfl⟩
  have g0 : Gr W A0 := by rw [← hA0]; exact gr_alloc W _
  have b0 : A0.heap[W.heap.size]? = some (.cells dt0 32) := by rw [← hA0]; exact heap_alloc_new W _
  have HW : Hid (∀ u, Gr A0 u → Tab u ∧ u.heap[fb]? = some (.cells fd2 27) ∧ u.heap[db]? = some (.cells (da2 qb) 32) ∧ DatC u qb v2 2 ∧ u.heap[W.heap.size]? = some (.cells dt0 32) ∧ Gr W u) := fun u g => by
    have g' := g0.trans g (fun _ _ h => h)
    exact ⟨hT.gr g', (g'.block _ (lt_of_heap hb) id).trans hb, (g'.block _ (lt_of_heap hd) id).trans hd, hD.gr g', (g.block _ (lt_of_heap b0) id).trans b0, g'⟩
  have H7 := hidM (type7 fb 2 A0 (HW.out A0 (Keeps.refl _ _)).1 (HW.out A0 (Keeps.refl _ _)).2.1)
  have H10 : Hid (∀ u, Calls Tryz.prog 10 #[.agg #[.string nmA, .bool false, .int .i64 3, .int .i64 0, .int .i64 0, .int .i64 0, .slice none 0 0]] u fun e w' => e = .returned (.agg #[.int .i64 3, .int .i64 0, .int .i64 0, .int .i64 0, .slice none 0 0]) ∧ Gr u w') := plain10
  have H9 : Hid (∀ u, Calls Tryz.prog 9 #[.int .i64 3, .agg #[.int .i64 3, .int .i64 0, .int .i64 0, .int .i64 0, .slice none 0 0]] u fun e w' => ∃ v, e = .returned (.agg #[.bool false, v]) ∧ WkA u w' v) := work9
  clear g0 b0 hT hb hd hD
  go_enter Tryz.func5, Tryz.ntmps5
  go_wp2_with (first
    | (go_at_call 7; refine H7.out.mono ?_; rintro e w1 ⟨fo, fc, rfl, g1⟩; have HG1 := hidM g1; clear g1 hA0; obtain ⟨A1, hA1⟩ : ∃ A1, w1.alloc (.cells #[.string ⟨#[]⟩, .bool false, .int .i64 0, .int .i64 0, .int .i64 0, .int .i64 0, .slice none 0 0] 27) = A1 := ⟨_, rfl⟩; have g2 : Gr w1 A1 := (by rw [← hA1]; exact gr_alloc w1 _); have hb2 : A1.heap[w1.heap.size]? = some (.cells fdZ 27) := (by rw [← hA1]; exact heap_alloc_new w1 _); obtain ⟨c0, c1, c2, c3, c4, c5, c6⟩ := cell7 hb2; have x0 := frz hb2 0; have x1 := frz hb2 1; have x2 := frz hb2 2; have x3 := frz hb2 3; have x4 := frz hb2 4; have x5 := frz hb2 5; have x6 := frz hb2 6; have hv := f9_blk (fo := fo) (fc := fc) hb2; have gv : Gr w1 (f9U A1 w1.heap.size fo fc) := g2.trans (setAll_kp _ _ _) (fun j hj e => (by have e' : j = w1.heap.size := e; omega)); obtain ⟨V, hV⟩ : ∃ V, f9U A1 w1.heap.size fo fc = V := ⟨_, rfl⟩; rw [hV] at hv gv; simp only [f9U, setAll] at hV; have HV := hidM hv; have HGV := hidM (HG1.out.trans gv (fun _ _ h => h)); obtain ⟨t7, f7, d7, D7, -, -⟩ := HW.out V HGV.out; have H8 := hidM (columns8 fb 2 db 2 qb v2 V f7 d7 D7); clear g2 hb2 hv gv t7 f7 d7 D7)
    | (go_at_call 8; refine H8.out.mono ?_; rintro e w2 ⟨cb, ga, gb, rfl, g2, hC⟩; have HG2 := hidM (HGV.out.trans g2 (fun _ _ h => h)); have HV2 := hidM ((g2.block _ (lt_of_heap HV.out) id).trans HV.out); have HC := hidM hC; clear g2 hC c0 c1 c2 c3 c4 c5 c6 x0 x1 x2 x3 x4 x5 x6 hV hA1; obtain ⟨⟨a0, a1, a2, a3, a4, a5, a6⟩, -⟩ := cell14 (HW.out w2 HG2.out).2.1)
    | (go_at_call 10; refine (H10.out _).mono ?_; rintro e w3 ⟨rfl, g3⟩; have HG3 := hidM g3; clear g3 a0 a1 a2 a3 a4 a5 a6)
    | (go_at_call 9; refine (H9.out _).mono ?_; rintro e w4 ⟨v, rfl, p, d, hv, g4, hp, hd⟩; subst hv; have HG4 := hidM (HG3.out.trans g4 (fun _ _ h => h)); have H11 := hidM (each11 cb ga gb p d w4 (HC.out.kp (S := fun _ => False) HG4.out id id id) hp hd); clear g4 hp hd)
    | (go_at_call 11; refine H11.out.mono ?_; rintro e w5 ⟨z, rfl, g5, -, hz⟩; have HG5 := hidM (HG4.out.trans g5 (fun _ _ h => h)); have HGA := hidM (HG2.out.trans HG5.out (fun _ _ h => h)); have hb9 := (HG5.out.block _ (lt_of_heap HV2.out) id).trans HV2.out; obtain ⟨c0, c1, c2, c3, c4, c5, c6⟩ := cell7 hb9; have H12 := hidM (of12 fo fc z w5 (HW.out w5 HGA.out).1 hz); clear g5 hz hb9)
    | (go_at_call 12; refine H12.out.mono ?_; rintro e w6 ⟨pb, pc, y, rfl, g6, hE⟩; have HG6 := hidM (HGA.out.trans g6 (fun _ _ h => h)); obtain ⟨-, -, -, -, h6, gW6⟩ := HW.out w6 HG6.out; have kU : Keeps w6 (dtU w6 W.heap.size pb pc) (fun z => z = W.heap.size) := setAll_kp _ _ _; have hu := dt_blk (pb := pb) (pc := pc) h6; have hEU := hE.kp h6 kU; have gU : Gr W (dtU w6 W.heap.size pb pc) := gW6.trans kU (fun j hj e => (by have e' : j = W.heap.size := e; omega)); obtain ⟨U, hU⟩ : ∃ U, dtU w6 W.heap.size pb pc = U := ⟨_, rfl⟩; rw [hU] at hu hEU gU; simp only [dtU, setAll] at hU; clear c0 c1 c2 c3 c4 c5 c6; obtain ⟨c0, c1, c2, c3, c4, c5⟩ := cell6 h6; have x0 := frz h6 0; have x1 := frz h6 1; have x2 := frz h6 2; have x3 := frz h6 3; have x4 := frz h6 4; have x5 := frz h6 5; have HU := hidM hu; have HR := hidM (And.intro gU hEU); clear g6 hE h6 gW6 kU hu hEU gU))
  (try simp only [Exit.inBlock, Exit.then])
  refine bodyPost_ret (results_cell31tt rfl rfl (by with_reducible exact HU.out) (by kernel_rfl)) rfl ?_
  exact ⟨pb, pc, y, rfl, HR.out⟩
theorem fixed4 (W : World) (hT : Tab W) : Calls Tryz.prog 4 #[] W fun e w' => e = .returned (.bool true) ∧ Gr W w' := by
  obtain ⟨B1, hB1⟩ : ∃ B1, W.alloc (.cells #[.string ⟨#[]⟩, .bool false, .int .i64 0, .int .i64 0, .int .i64 0, .int .i64 0, .slice none 0 0] 27) = B1 := ⟨_, rfl⟩
  have g1 : Gr W B1 := by rw [← hB1]; exact gr_alloc W _
  have b1 : B1.heap[W.heap.size]? = some (.cells fdZ 27) := by rw [← hB1]; exact heap_alloc_new W _
  obtain ⟨c0, c1, c2, c3, c4, c5, c6⟩ := cell7 b1
  have x0 := frz b1 0
  have x1 := frz b1 1
  have x2 := frz b1 2
  have x3 := frz b1 3
  have x4 := frz b1 4
  have x5 := frz b1 5
  have x6 := frz b1 6
  have hF := fd_blk b1
  have gF : Gr W (fdU B1 W.heap.size) := g1.trans (setAll_kp _ _ _) (fun j hj e => by have e' : j = W.heap.size := e; omega)
  obtain ⟨F, hFe⟩ : ∃ F, fdU B1 W.heap.size = F := ⟨_, rfl⟩
  rw [hFe] at hF gF
  simp only [fdU, setAll] at hFe
  obtain ⟨B2, hB2⟩ : ∃ B2, F.alloc (.cells #[.int .u8 3, .int .u8 4] 5) = B2 := ⟨_, rfl⟩
  have g2 : Gr F B2 := by rw [← hB2]; exact gr_alloc F _
  have b2 : B2.heap[F.heap.size]? = some (.cells #[.int .u8 3, .int .u8 4] 5) := by rw [← hB2]; exact heap_alloc_new F _
  obtain ⟨B3, hB3⟩ : ∃ B3, B2.alloc (.cells #[.slice none 0 0, .slice (some ⟨F.heap.size, 0, none⟩) 2 2] 28) = B3 := ⟨_, rfl⟩
  have g3 : Gr B2 B3 := by rw [← hB3]; exact gr_alloc B2 _
  have b3 : B3.heap[B2.heap.size]? = some (.cells #[.slice none 0 0, .slice (some ⟨F.heap.size, 0, none⟩) 2 2] 28) := by rw [← hB3]; exact heap_alloc_new B2 _
  obtain ⟨B4, hB4⟩ : ∃ B4, B3.alloc (.cells #[.int .i64 0, .int .i64 0, .int .i64 0, .slice none 0 0, .slice none 0 0, .slice none 0 0] 32) = B4 := ⟨_, rfl⟩
  have g4 : Gr B3 B4 := by rw [← hB4]; exact gr_alloc B3 _
  have b4 : B4.heap[B3.heap.size]? = some (.cells dt0 32) := by rw [← hB4]; exact heap_alloc_new B3 _
  obtain ⟨e0, e1, e2, e3, e4, e5⟩ := cell6 b4
  have y0 := frz b4 0
  have y1 := frz b4 1
  have y2 := frz b4 2
  have y3 := frz b4 3
  have y4 := frz b4 4
  have y5 := frz b4 5
  have hE := dt_blk (pb := B2.heap.size) (pc := 2) b4
  have gE : Gr B3 (dtU B4 B3.heap.size B2.heap.size 2) := g4.trans (setAll_kp _ _ _) (fun j hj e => by have e' : j = B3.heap.size := e; omega)
  obtain ⟨G, hGe⟩ : ∃ G, dtU B4 B3.heap.size B2.heap.size 2 = G := ⟨_, rfl⟩
  rw [hGe] at hE gE
  simp only [dtU, setAll] at hGe
  have g23 := g2.trans g3 (fun _ _ h => h)
  have gFG := g23.trans gE (fun _ _ h => h)
  obtain ⟨m0, m1, m2, m3, m4, m5, m6⟩ := cell7 ((gFG.block _ (lt_of_heap hF) id).trans hF)
  obtain ⟨B5, hB5⟩ : ∃ B5, G.alloc (.cells fd2 27) = B5 := ⟨_, rfl⟩
  have g5 : Gr G B5 := by rw [← hB5]; exact gr_alloc G _
  have b5 : B5.heap[G.heap.size]? = some (.cells fd2 27) := by rw [← hB5]; exact heap_alloc_new G _
  obtain ⟨n0, n1, n2, n3, n4, n5⟩ := cell6 ((g5.block _ (lt_of_heap hE) id).trans hE)
  obtain ⟨B6, hB6⟩ : ∃ B6, B5.alloc (.cells (da2 B2.heap.size) 32) = B6 := ⟨_, rfl⟩
  have g6 : Gr B5 B6 := by rw [← hB6]; exact gr_alloc B5 _
  have b6 : B6.heap[B5.heap.size]? = some (.cells (da2 B2.heap.size) 32) := by rw [← hB6]; exact heap_alloc_new B5 _
  have g56 := g5.trans g6 (fun _ _ h => h)
  have gE6 := gE.trans g56 (fun _ _ h => h)
  have gW6 : Gr W B6 := gF.trans (g23.trans gE6 (fun _ _ h => h)) (fun _ _ h => h)
  have q2 := cell2 (((g3.trans gE6 (fun _ _ h => h)).block _ (lt_of_heap b2) id).trans b2)
  have q3 := cell2 ((gE6.block _ (lt_of_heap b3) id).trans b3)
  have H5 := hidM (do5 G.heap.size B5.heap.size B2.heap.size F.heap.size B6 (hT.gr gW6) ((g6.block _ (lt_of_heap b5) id).trans b5) b6 ⟨q3.1, q3.2, q2.1, q2.2, Nat.le_refl _, hT.gr gW6⟩)
  have HG6 := hidM gW6
  unfold fd2 at hB5
  unfold da2 at hB6
  unfold nmA at hFe m0 hB5
  clear g1 b1 hF gF g2 b2 g3 b3 g4 b4 hE gE g23 gFG g5 b5 g6 b6 g56 gE6 gW6 q2 q3 hT
  go_enter Tryz.func4, Tryz.ntmps4
  go_wp2_with (first
    | (go_at_call 5; refine H5.out.mono ?_; rintro e w1 ⟨pb, pc, y, rfl, g1, hE⟩; have HG1 := hidM (HG6.out.trans g1 (fun _ _ h => h)); clear c0 c1 c2 c3 c4 c5 c6 x0 x1 x2 x3 x4 x5 x6 hFe hB1 hB2 hB3 hB4 e0 e1 e2 e3 e4 e5 y0 y1 y2 y3 y4 y5 hGe m0 m1 m2 m3 m4 m5 m6 n0 n1 n2 n3 n4 n5 hB5 hB6; obtain ⟨C1, hC1⟩ : ∃ C1, w1.alloc (.cells #[.int .i64 0, .int .i64 0, .int .i64 0, .slice none 0 0, .slice none 0 0, .slice none 0 0] 32) = C1 := ⟨_, rfl⟩; have k1 : Gr w1 C1 := (by rw [← hC1]; exact gr_alloc w1 _); have r1 : C1.heap[w1.heap.size]? = some (.cells dt0 32) := (by rw [← hC1]; exact heap_alloc_new w1 _); obtain ⟨c0, c1, c2, c3, c4, c5⟩ := cell6 r1; have x0 := frz r1 0; have x1 := frz r1 1; have x2 := frz r1 2; have x3 := frz r1 3; have x4 := frz r1 4; have x5 := frz r1 5; have hQ := dt_blk (pb := pb) (pc := pc) r1; have gQ : Gr w1 (dtU C1 w1.heap.size pb pc) := k1.trans (setAll_kp _ _ _) (fun j hj e => (by have e' : j = w1.heap.size := e; omega)); obtain ⟨Q, hQe⟩ : ∃ Q, dtU C1 w1.heap.size pb pc = Q := ⟨_, rfl⟩; rw [hQe] at hQ gQ; simp only [dtU, setAll] at hQe; obtain ⟨e0, e1, e2, e3, e4, e5⟩ := cell6 hQ; obtain ⟨C2, hC2⟩ : ∃ C2, Q.alloc (.cells #[.int .u8 9, .int .u8 16] 5) = C2 := ⟨_, rfl⟩; have k2 : Gr Q C2 := (by rw [← hC2]; exact gr_alloc Q _); have r2 : C2.heap[Q.heap.size]? = some (.cells #[.int .u8 9, .int .u8 16] 5) := (by rw [← hC2]; exact heap_alloc_new Q _); obtain ⟨C3, hC3⟩ : ∃ C3, C2.alloc (.cells #[.slice none 0 0, .slice (some ⟨Q.heap.size, 0, none⟩) 2 2] 28) = C3 := ⟨_, rfl⟩; have k3 : Gr C2 C3 := (by rw [← hC3]; exact gr_alloc C2 _); have r3 : C3.heap[C2.heap.size]? = some (.cells #[.slice none 0 0, .slice (some ⟨Q.heap.size, 0, none⟩) 2 2] 28) := (by rw [← hC3]; exact heap_alloc_new C2 _); have k23 := k2.trans k3 (fun _ _ h => h); have kQ := gQ.trans k23 (fun _ _ h => h); have u2 := cell2 ((k3.block _ (lt_of_heap r2) id).trans r2); have u3 := cell2 r3; have H6 := hidM (eq6 pb pc y C2.heap.size 2 Q.heap.size C3 (hE.gr kQ) ⟨u3.1, u3.2, u2.1, u2.2⟩); have HG3 := hidM (HG1.out.trans kQ (fun _ _ h => h)); clear g1 hE k1 r1 hQ gQ k2 r2 k3 r3 k23 kQ u2 u3)
    | (go_at_call 6; refine H6.out.mono ?_; rintro e w9 ⟨rfl, g9⟩; have HE := hidM (HG3.out.trans g9 (fun _ _ h => h)); clear g9))
  go_ret
  exact ⟨rfl, HE.out⟩
theorem names3 (W : World) (hT : Tab W) : Calls Tryz.prog 3 #[] W fun e w' => e = .returned (.bool true) ∧ Gr W w' := by
  have H := hidM (fixed4 W hT)
  clear hT
  go_enter Tryz.func3, Tryz.ntmps3
  go_wp2_with (go_at_call 4; refine H.out.mono ?_; rintro e w9 ⟨rfl, g9⟩; have HE := hidM g9; clear g9)
  go_ret
  exact ⟨rfl, HE.out⟩
end Go.Proofs.YtcedjdkldiffdaaGreatDoor.Kit
namespace Go.Proofs.YtcedjdkldiffdaaGreatDoor.kindR
open Go.ChangeShapes Go.WideShapes Go.ChangeAt Go.RowKit Go.Deep
open Go.Proofs.YtcedjdkldiffdaaGreatDoor
set_option linter.unusedVariables false
def rowD (k : Nat) : DataW Unit := .agg [.lit (.string (Kit.wordK k)), .lit (.int .i64 (Kit.bytesK k)), .lit (.int .i64 (Kit.bufsK k)), .lit (.int .i64 (Kit.leastK k)), .lit (.int .i64 (Kit.mostK k))]
theorem laid_rows : (Rows.laid_colonnade_kind_kinds : DataW Unit) = .agg ((List.range 21).map rowD) := rfl
theorem cells85 : Tryz.prog.cellsOf 337 = 5 := by kernel_rfl
theorem cells86 : Tryz.prog.cellsOf 338 = 105 := by kernel_rfl
theorem cells3 : Tryz.prog.cellsOf 3 = 1 := by kernel_rfl
theorem cells9 : Tryz.prog.cellsOf 9 = 1 := by kernel_rfl
theorem gKinds : Tryz.prog.globalNamed "colonnade/kind.kinds" = some 2 := by kernel_rfl
theorem gKindsT : (Tryz.prog.globals[2]?).map (·.type) = some 338 := by kernel_rfl
/-- one row, read -/
theorem row_at {W : World} {fuel : Nat} {cs : List Value} {k : Nat} {p : List MemPlace} (h : DataW.trod (fun _ => ()) Tryz.prog W 0 (fun _ => true) false fuel 337 cs = some (rowD k, p)) :
    cs = [.string ⟨(Kit.wordK k).toArray⟩, .int .i64 (Kit.bytesK k), .int .i64 (Kit.bufsK k), .int .i64 (Kit.leastK k), .int .i64 (Kit.mostK k)] := by
  obtain ⟨xs, m, _, hd, hl, hxs, hf⟩ := DataW.trod_struct Tryz.underlying337 h
  rw [cells85] at hl
  obtain ⟨c0, c1, c2, c3, c4, rfl⟩ : ∃ c0 c1 c2 c3 c4, cs = [c0, c1, c2, c3, c4] := by
    match cs, hl with
    | [a, b, c, d, e], _ => exact ⟨a, b, c, d, e, rfl⟩
  obtain ⟨y0, y1, y2, y3, y4, rfl⟩ : ∃ y0 y1 y2 y3 y4, xs = [y0, y1, y2, y3, y4] := by
    match xs, (hxs.trans rfl : xs.length = 5) with
    | [a, b, c, d, e], _ => exact ⟨a, b, c, d, e, rfl⟩
  have f0 : DataW.trod (fun _ => ()) Tryz.prog W 0 (fun _ => true) false m 9 ((([c0, c1, c2, c3, c4] : List Value).drop 0).take (Tryz.prog.cellsOf 9)) = some y0 := hf 0 _ rfl
  have f1 : DataW.trod (fun _ => ()) Tryz.prog W 0 (fun _ => true) false m 3 ((([c0, c1, c2, c3, c4] : List Value).drop 1).take (Tryz.prog.cellsOf 3)) = some y1 := hf 1 _ rfl
  have f2 : DataW.trod (fun _ => ()) Tryz.prog W 0 (fun _ => true) false m 3 ((([c0, c1, c2, c3, c4] : List Value).drop 2).take (Tryz.prog.cellsOf 3)) = some y2 := hf 2 _ rfl
  have f3 : DataW.trod (fun _ => ()) Tryz.prog W 0 (fun _ => true) false m 3 ((([c0, c1, c2, c3, c4] : List Value).drop 3).take (Tryz.prog.cellsOf 3)) = some y3 := hf 3 _ rfl
  have f4 : DataW.trod (fun _ => ()) Tryz.prog W 0 (fun _ => true) false m 3 ((([c0, c1, c2, c3, c4] : List Value).drop 4).take (Tryz.prog.cellsOf 3)) = some y4 := hf 4 _ rfl
  rw [cells9] at f0
  rw [cells3] at f1 f2 f3 f4
  simp only [List.drop_zero, List.drop_succ_cons, List.take_succ_cons, List.take_zero] at f0 f1 f2 f3 f4
  obtain ⟨s, e0, g0, _⟩ := DataW.trod_string Tryz.underlying9 f0
  obtain ⟨k1, e1, g1, _⟩ := DataW.trod_int Tryz.underlying3 f1
  obtain ⟨k2, e2, g2, _⟩ := DataW.trod_int Tryz.underlying3 f2
  obtain ⟨k3, e3, g3, _⟩ := DataW.trod_int Tryz.underlying3 f3
  obtain ⟨k4, e4, g4, _⟩ := DataW.trod_int Tryz.underlying3 f4
  subst g0 g1 g2 g3 g4
  simp only [rowD, Prod.mk.injEq, DataW.agg.injEq, List.map_cons, List.map_nil, List.cons.injEq, DataW.lit.injEq, Lit.string.injEq, Lit.int.injEq, true_and, and_true] at hd
  obtain ⟨⟨h0, h1, h2, h3, h4⟩, _⟩ := hd
  simp only [List.cons.injEq, and_true] at e0 e1 e2 e3 e4
  rw [e0, e1, e2, e3, e4, h0, h1, h2, h3, h4]
/-- the table, as the rows list it -/
theorem table {W : World} {L : List (String × DataW Unit)} (h : laidMet Tryz.prog L W) (hm : ("colonnade/kind.kinds", Rows.laid_colonnade_kind_kinds) ∈ L) : Kit.Tab W := by
  obtain ⟨g', t', cs, fuel, p, hg', ht', hvar, hd⟩ := Lib.laidMet.reads h hm
  obtain rfl := Option.some.inj (gKinds.symm.trans hg')
  obtain rfl := Option.some.inj (gKindsT.symm.trans ht')
  rw [laid_rows] at hd
  obtain ⟨xs, m, _, he, hl, hx, hf⟩ := DataW.trod_array Tryz.underlying338 hd
  rw [cells86] at hl
  rw [cells85] at hf
  simp only [Prod.mk.injEq, DataW.agg.injEq] at he
  have hcell := fun i => World.var?_cell gKinds hvar i
  have hsz : cs.size = 105 := by simpa using hl
  refine ⟨?_, fun k hk => ?_⟩
  · have := hcell 0
    rw [Array.getElem?_eq_getElem (by omega)] at this
    have := block_lt_of_cell this
    exact this
  · have h1 := hf k hk
    rw [List.getElem?_eq_getElem (by omega)] at h1
    have h2 : (xs[k]'(by omega)).1 = rowD k := by
      have := congrArg (·[k]?) he.1
      simp only [List.getElem?_map, List.getElem?_range hk, Option.map_some] at this
      rw [List.getElem?_eq_getElem (by omega)] at this
      simpa using this.symm
    have h3 := row_at (k := k) (p := (xs[k]'(by omega)).2) (by rw [h1, ← h2])
    have h4 : ∀ j, j < 5 → cs[k * 5 + j]? = ([.string ⟨(Kit.wordK k).toArray⟩, .int .i64 (Kit.bytesK k), .int .i64 (Kit.bufsK k), .int .i64 (Kit.leastK k), .int .i64 (Kit.mostK k)] : List Value)[j]? := fun j hj => by
      rw [← h3, List.getElem?_take_of_lt hj, List.getElem?_drop, Array.getElem?_toList]
    exact ⟨(hcell _).trans (h4 0 (by decide)), (hcell _).trans (h4 1 (by decide)), (hcell _).trans (h4 2 (by decide)), (hcell _).trans (h4 3 (by decide)), (hcell _).trans (h4 4 (by decide))⟩
end Go.Proofs.YtcedjdkldiffdaaGreatDoor.kindR
