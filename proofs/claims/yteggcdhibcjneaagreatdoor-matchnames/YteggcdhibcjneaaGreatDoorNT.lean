import Derived.Test.YteggcdhibcjneaaGreatDoorNH
import Derived.Test.YteggcdhibcjneaaGreatDoorRows
import Derived.ProofKit
import Derived.OpenShut
import Derived.ChangeOld
import Derived.Below
import Derived.Deep.Slices
import Derived.Lib.LaidTab
import Derived.Lib.LaidU8
import Derived.Deep.DeepHandedRow
set_option maxRecDepth 100000
set_option maxHeartbeats 4000000
namespace Go.Proofs.YteggcdhibcjneaaGreatDoor.Kit
variable {nx : Bool}
open Go.RowKit Go.Shelf Go.Deep
open Go.Proofs.YteggcdhibcjneaaGreatDoor.Kd (Ans AnsV cell5 cell2)
set_option linter.unusedVariables false
set_option linter.unusedSimpArgs false
attribute [local go_sem] run_store_func

theorem bt_of {W : World} {L vc g db kb qb v2 : Nat} (h : SdA W (nmB nx) L (some ⟨v2, 0, none⟩) vc g db kb qb) (hT : Tab W) (hL : L = 2 ∨ L = 3) (hc : L ≤ vc) : Bt nx W L g 1 db 1 qb 2 v2 vc none 0 :=
  ⟨⟨h.f, Nat.le_refl _, hT⟩, h.d, ⟨h.q0, h.q1, hc, hT, hL⟩⟩
theorem tab_fr {P : Nat} {W u : World} (h : Tab W) (f : FrP P W u) (hp : 0 < P) : Tab u :=
  h.kp (f.low h.1 hp)
theorem awake4 (W : World) (hT : Tab W) : Calls Tryz.prog 4 #[] W fun e w' => e = .returned (.bool true) ∧ ∃ P, W.heap.size ≤ P ∧ FrP P W w' := by
  obtain ⟨A0, hA0⟩ : ∃ A, W.alloc (.cells #[.int .u8 5, .int .u8 7, .int .u8 5] 5) = A := ⟨_, rfl⟩
  have g0 : Gr W A0 := by rw [← hA0]; exact gr_alloc W _
  have b0 : A0.heap[W.heap.size]? = some (.cells #[.int .u8 5, .int .u8 7, .int .u8 5] 5) := by rw [← hA0]; exact heap_alloc_new W _
  have HB0 := hidM b0
  have HG0 := hidM g0
  have HT := hidM hT
  have HC1 : Hid (Calls Tryz.prog 6 #[.string ⟨#[97]⟩, .slice (some ⟨W.heap.size, 0, none⟩) 3 3] A0 fun e w' => ∃ g db kb qb, e = .returned (.agg #[.slice (some ⟨g, 0, none⟩) 1 1, .slice none 0 0, .int .i64 3, .slice (some ⟨db, 0, none⟩) 1 1, .slice (some ⟨kb, 0, none⟩) 1 1]) ∧ Gr A0 w' ∧ SdA w' (nmB false) 3 (some ⟨W.heap.size, 0, none⟩) 3 g db kb qb) := eights6 (nmB false) 3 (some ⟨W.heap.size, 0, none⟩) 3 A0
  have HC2 : Hid (∀ u w, Gr A0 u → u.alloc (.cells #[.int .u8 8, .int .u8 5] 5) = w → Gr A0 w ∧ Calls Tryz.prog 6 #[.string ⟨#[98]⟩, .slice (some ⟨u.heap.size, 0, none⟩) 2 2] w fun e w' => ∃ g db kb qb, e = .returned (.agg #[.slice (some ⟨g, 0, none⟩) 1 1, .slice none 0 0, .int .i64 2, .slice (some ⟨db, 0, none⟩) 1 1, .slice (some ⟨kb, 0, none⟩) 1 1]) ∧ Gr A0 w' ∧ Gr u w' ∧ SdA w' (nmB true) 2 (some ⟨u.heap.size, 0, none⟩) 2 g db kb qb ∧ w'.heap[u.heap.size]? = some (.cells #[.int .u8 8, .int .u8 5] 5)) := fun u w g e => by
    have gw : Gr u w := by rw [← e]; exact gr_alloc _ _
    have bw : w.heap[u.heap.size]? = some (.cells #[.int .u8 8, .int .u8 5] 5) := by rw [← e]; exact heap_alloc_new _ _
    refine ⟨g.trans gw (fun _ _ h => h), (eights6 (nmB true) 2 (some ⟨u.heap.size, 0, none⟩) 2 w).mono ?_⟩
    rintro e w' ⟨g1, db, kb, qb, rfl, k, hs⟩
    exact ⟨g1, db, kb, qb, rfl, (g.trans gw (fun _ _ h => h)).trans k (fun _ _ h => h), gw.trans k (fun _ _ h => h), hs, (k.block _ (lt_of_heap bw) id).trans bw⟩
  have HC3 : Hid (∀ u w g1 d1 k1 q1 v2 g2 d2 k2 q2, Gr A0 u → Gr u w → SdA u (nmB false) 3 (some ⟨W.heap.size, 0, none⟩) 3 g1 d1 k1 q1 → SdA w (nmB true) 2 (some ⟨v2, 0, none⟩) 2 g2 d2 k2 q2 → w.heap[v2]? = some (.cells #[.int .u8 8, .int .u8 5] 5) → Calls Tryz.prog 5 #[.int .i64 3, .agg #[.slice (some ⟨g1, 0, none⟩) 1 1, .slice none 0 0, .int .i64 3, .slice (some ⟨d1, 0, none⟩) 1 1, .slice (some ⟨k1, 0, none⟩) 1 1], .agg #[.slice (some ⟨g2, 0, none⟩) 1 1, .slice none 0 0, .int .i64 2, .slice (some ⟨d2, 0, none⟩) 1 1, .slice (some ⟨k2, 0, none⟩) 1 1]] w fun e w' => ∃ g cap, e = .returned (.tuple #[.slice (some ⟨g, 0, none⟩) 4 cap, .int .i64 0]) ∧ (Gr W w' ∨ True) ∧ Tab w' ∧ (∃ P, W.heap.size ≤ P ∧ FrP P W w') ∧ w'.ownsRow 0 41 2 (.slice (some ⟨g, 0, none⟩) 4 cap) 4 (flat2 [((0 : Int), (1 : Int)), (1, -1), (2, 1), (-1, 0)])) := fun u w g1 d1 k1 q1 v2 g2 d2 k2 q2 hu hw s1 s2 hv => by
    have k0 : Gr W u := HG0.out.trans hu (fun _ _ h => h)
    have kw : Gr W w := k0.trans hw (fun _ _ h => h)
    have Tw := HT.out.gr kw
    have bA := ((hu.trans hw (fun _ _ h => h)).block _ (lt_of_heap HB0.out) id).trans HB0.out
    obtain ⟨a0, a1, a2⟩ := cell3 bA
    obtain ⟨e0, e1⟩ := cell2 hv
    refine (pairs5 g1 1 g2 1 d1 1 d2 1 q1 2 q2 2 W.heap.size 3 v2 2 k1 1 k2 1 none none 0 0 (fun k => if k = 1 then 7 else 5) (fun k => if k = 0 then 8 else 5) w (bt_of (s1.gr hw) Tw (.inr rfl) (by omega)) (bt_of s2 Tw (.inl rfl) (by omega)) (fun k hk => ?_) (fun k hk => ?_) (hw.cell' s1.k id) s2.k rfl rfl rfl rfl rfl).mono ?_
    · rcases (show k = 0 ∨ k = 1 ∨ k = 2 by omega) with rfl | rfl | rfl
      · exact ⟨a0, .inl rfl⟩
      · exact ⟨a1, .inr (.inl rfl)⟩
      · exact ⟨a2, .inl rfl⟩
    · rcases (show k = 0 ∨ k = 1 by omega) with rfl | rfl
      · exact ⟨e0, .inr (.inr rfl)⟩
      · exact ⟨e1, .inl rfl⟩
    · rintro e w' ⟨g, cap, P, rfl, hp, hf, ho⟩
      have hPW : W.heap.size ≤ P := Nat.le_trans kw.size hp
      have hfW := (FrP.ofGr (P := P) kw).trans hf
      exact ⟨g, cap, rfl, .inr trivial, tab_fr HT.out hfW (Nat.lt_of_lt_of_le HT.out.1 hPW), ⟨P, hPW, hfW⟩, ho⟩
  have HC4 : Hid (∀ u, Calls Tryz.prog 6 #[.string ⟨#[97]⟩, .slice none 0 0] u fun e w' => ∃ g db kb qb, e = .returned (.agg #[.slice (some ⟨g, 0, none⟩) 1 1, .slice none 0 0, .int .i64 0, .slice (some ⟨db, 0, none⟩) 1 1, .slice (some ⟨kb, 0, none⟩) 1 1]) ∧ Gr u w' ∧ SdA w' (nmB false) 0 none 0 g db kb qb) := fun u => eights6 (nmB false) 0 none 0 u
  have HC5 : Hid (∀ u, Calls Tryz.prog 6 #[.string ⟨#[98]⟩, .slice none 0 0] u fun e w' => ∃ g db kb qb, e = .returned (.agg #[.slice (some ⟨g, 0, none⟩) 1 1, .slice none 0 0, .int .i64 0, .slice (some ⟨db, 0, none⟩) 1 1, .slice (some ⟨kb, 0, none⟩) 1 1]) ∧ Gr u w' ∧ SdA w' (nmB true) 0 none 0 g db kb qb) := fun u => eights6 (nmB true) 0 none 0 u
  have HC7 : Hid (∀ w3 w4 A4 w5 A5 g4 d4 k4 q4 g5 d5 k5 q5, Tab w3 → Gr w3 w4 → SdA w4 (nmB false) 0 none 0 g4 d4 k4 q4 → w4.alloc (.cells #[.int .i64 0] 3) = A4 → Gr A4 w5 → SdA w5 (nmB true) 0 none 0 g5 d5 k5 q5 → w5.alloc (.cells #[.int .i64 0] 3) = A5 → Gr w3 A5 ∧ Calls Tryz.prog 7 #[.int .i64 2, .agg #[.slice (some ⟨g4, 0, none⟩) 1 1, .slice none 0 0], .slice (some ⟨w4.heap.size, 0, none⟩) 1 1, .agg #[.slice (some ⟨g5, 0, none⟩) 1 1, .slice none 0 0], .slice (some ⟨w5.heap.size, 0, none⟩) 1 1] A5 fun e w' => ∃ g c, e = .returned (.tuple #[.agg #[.slice (some ⟨g, 0, none⟩) 1 c, .slice none 0 0], .int .i64 0]) ∧ Gr A5 w') := fun w3 w4 A4 w5 A5 g4 d4 k4 q4 g5 d5 k5 q5 t3 x4 s4 e4 x5 s5 e5 => by
    have ga4 : Gr w4 A4 := by rw [← e4]; exact gr_alloc _ _
    have ba4 : A4.heap[w4.heap.size]? = some (.cells #[.int .i64 0] 3) := by rw [← e4]; exact heap_alloc_new _ _
    have ga5 : Gr w5 A5 := by rw [← e5]; exact gr_alloc _ _
    have ba5 : A5.heap[w5.heap.size]? = some (.cells #[.int .i64 0] 3) := by rw [← e5]; exact heap_alloc_new _ _
    have y45 : Gr A4 A5 := x5.trans ga5 (fun _ _ h => h)
    have y4 : Gr w4 A5 := ga4.trans y45 (fun _ _ h => h)
    have y3 : Gr w3 A5 := x4.trans y4 (fun _ _ h => h)
    have z4 := s4.gr y4
    have z5 := s5.gr ga5
    exact ⟨y3, type7 (nx := false) (ny := true) g4 1 g5 1 w4.heap.size 1 w5.heap.size 1 none none 0 0 A5 ⟨z4.f, Nat.le_refl _, t3.gr y3⟩ ⟨z5.f, Nat.le_refl _, t3.gr y3⟩ (cell1 ((y45.block _ (lt_of_heap ba4) id).trans ba4)) (cell1 ba5)⟩
  have HC8 : Hid (∀ w3 A6 A7 gp cap, w3.ownsRow 0 41 2 (.slice (some ⟨gp, 0, none⟩) 4 cap) 4 (flat2 [((0 : Int), (1 : Int)), (1, -1), (2, 1), (-1, 0)]) → Gr w3 A6 → A6.alloc (.cells #[.int .i64 0, .int .i64 1, .int .i64 1, .int .i64 (-1), .int .i64 2, .int .i64 1, .int .i64 (-1), .int .i64 0] 41) = A7 → Calls Tryz.prog 8 #[.slice (some ⟨gp, 0, none⟩) 4 cap, .slice (some ⟨A6.heap.size, 0, none⟩) 4 4] A7 fun e w' => e = .returned (.bool true) ∧ Gr A7 w' ∧ Gr w3 w') := fun w3 A6 A7 gp cap o3 x e7 => by
    have g7 : Gr A6 A7 := by rw [← e7]; exact gr_alloc _ _
    have b7 : A7.heap[A6.heap.size]? = some (.cells #[.int .i64 0, .int .i64 1, .int .i64 1, .int .i64 (-1), .int .i64 2, .int .i64 1, .int .i64 (-1), .int .i64 0] 41) := by rw [← e7]; exact heap_alloc_new _ _
    have k7 : Gr w3 A7 := x.trans g7 (fun _ _ h => h)
    obtain ⟨g', cap', cur, he, -, hg, -, -, hc⟩ := own_get o3 (by omega)
    cases he
    have c := fun j v (h : (flat2 [((0 : Int), (1 : Int)), (1, -1), (2, 1), (-1, 0)])[j]? = some v) => k7.cell' (hc j v h) id
    refine (eqPairs8 gp cap A6.heap.size 4 A7 ⟨c 0 _ rfl, c 1 _ rfl, c 2 _ rfl, c 3 _ rfl, c 4 _ rfl, c 5 _ rfl, c 6 _ rfl, c 7 _ rfl, by simp [World.cell?, b7], by simp [World.cell?, b7], by simp [World.cell?, b7], by simp [World.cell?, b7], by simp [World.cell?, b7], by simp [World.cell?, b7], by simp [World.cell?, b7], by simp [World.cell?, b7]⟩).mono fun e w' ⟨h, g⟩ => ⟨h, g, k7.trans g (fun _ _ h => h)⟩
  have hfl : ∀ (g d k : Nat) (w : World), (Instr.field 36 (.agg #[.slice (some ⟨g, 0, none⟩) 1 1, .slice none 0 0, .int .i64 0, .slice (some ⟨d, 0, none⟩) 1 1, .slice (some ⟨k, 0, none⟩) 1 1]) 0).run Tryz.prog w = .ok (.agg #[.slice (some ⟨g, 0, none⟩) 1 1, .slice none 0 0]) w := fun g d k w => by kernel_rfl
  clear g0 b0 hT
  go_enter Tryz.func4, Tryz.ntmps4
  go_wp2_with (first
    | (go_at_call 6; refine HC1.out.mono ?_; rintro e w1 ⟨g1, d1, k1, q1, rfl, x1, s1⟩; have HX1 := hidM x1; have HS1 := hidM s1; obtain ⟨A1, hA1⟩ : ∃ A, w1.alloc (.cells #[.int .u8 8, .int .u8 5] 5) = A := ⟨_, rfl⟩; clear x1 s1 HC1)
    | (go_at_call 6; refine (HC2.out w1 A1 HX1.out hA1).2.mono ?_; rintro e w2 ⟨g2, d2, k2, q2, rfl, x2, y2, s2, b2⟩; have HY2 := hidM y2; have HS2 := hidM s2; have HB2 := hidM b2; clear x2 y2 s2 b2 HC2)
    | (go_at_call 5; refine (HC3.out w1 w2 g1 d1 k1 q1 _ g2 d2 k2 q2 HX1.out HY2.out HS1.out HS2.out HB2.out).mono ?_; rintro e w3 ⟨gp, cap, rfl, -, t3, f3, o3⟩; have HF3 := hidM f3; clear f3; have HT3 := hidM t3; have HO3 := hidM o3; clear t3 o3 HC3)
    | (go_at_call 6; refine (HC4.out w3).mono ?_; rintro e w4 ⟨g4, d4, k4, q4, rfl, x4, s4⟩; have HX4 := hidM x4; have HS4 := hidM s4; obtain ⟨A4, hA4⟩ : ∃ A, w4.alloc (.cells #[.int .i64 0] 3) = A := ⟨_, rfl⟩; clear x4 s4 HC4)
    | (go_at_call 6; refine (HC5.out A4).mono ?_; rintro e w5 ⟨g5, d5, k5, q5, rfl, x5, s5⟩; have HX5 := hidM x5; have HS5 := hidM s5; obtain ⟨A5, hA5⟩ : ∃ A, w5.alloc (.cells #[.int .i64 0] 3) = A := ⟨_, rfl⟩; clear x5 s5 HC5)
    | (go_at_call 7; refine (HC7.out w3 w4 A4 w5 A5 g4 d4 k4 q4 g5 d5 k5 q5 HT3.out HX4.out HS4.out hA4 HX5.out HS5.out hA5).2.mono ?_; rintro e w6 ⟨g6, c6, rfl, x6⟩; have HX6 := hidM ((HC7.out w3 w4 A4 w5 A5 g4 d4 k4 q4 g5 d5 k5 q5 HT3.out HX4.out HS4.out hA4 HX5.out HS5.out hA5).1.trans x6 (fun _ _ h => h)); obtain ⟨A6, hA6⟩ : ∃ A, w6.alloc (.cells #[.slice (some ⟨g6, 0, none⟩) 1 c6, .slice none 0 0] 30) = A := ⟨_, rfl⟩; have gA6 : Gr w6 A6 := by { rw [← hA6]; exact gr_alloc _ _ }; have bA6 : A6.heap[w6.heap.size]? = some (.cells #[.slice (some ⟨g6, 0, none⟩) 1 c6, .slice none 0 0] 30) := by { rw [← hA6]; exact heap_alloc_new _ _ }; obtain ⟨A7, hA7⟩ : ∃ A, A6.alloc (.cells #[.int .i64 0, .int .i64 1, .int .i64 1, .int .i64 (-1), .int .i64 2, .int .i64 1, .int .i64 (-1), .int .i64 0] 41) = A := ⟨_, rfl⟩; have gA7 : Gr A6 A7 := by { rw [← hA7]; exact gr_alloc _ _ }; have HX := hidM (HX6.out.trans gA6 (fun _ _ h => h)); have HCE := hidM (HC8.out w3 A6 A7 gp cap HO3.out HX.out hA7); obtain ⟨y0, y1⟩ := cell2 bA6; have yz := frzA bA6; have i0 := set_id (j := 0) (v := .slice (some ⟨g6, 0, none⟩) 1 c6) bA6 rfl; have i1 := set_id (j := 1) (v := .slice none 0 0) bA6 rfl; have u0 := gA7.cell' y0 id; have HU0 := hidM u0; clear x6 gA6 bA6 gA7 u0 HC7 HC8)
    | (go_at_call 8; refine HCE.out.mono ?_; rintro e w7 ⟨rfl, x7, z7⟩; have HZ7 := hidM z7; have u0 := x7.cell' HU0.out id; clear x7 z7 HCE y0 y1 yz i0 i1))
  go_ret
  obtain ⟨P, h1, h2⟩ := HF3.out
  exact ⟨rfl, P, h1, h2.trans (FrP.ofGr HZ7.out)⟩
end Go.Proofs.YteggcdhibcjneaaGreatDoor.Kit
namespace Go.Proofs.YteggcdhibcjneaaGreatDoor.Kit
variable {nx : Bool}
open Go.RowKit Go.Shelf Go.Deep
open Go.Proofs.YteggcdhibcjneaaGreatDoor.Kd (Ans AnsV cell5 cell2)
set_option linter.unusedVariables false
set_option linter.unusedSimpArgs false
attribute [local go_sem] run_store_func

theorem names3 (W : World) (hT : Tab W) : Calls Tryz.prog 3 #[] W fun e w' => e = .returned (.bool true) ∧ ∃ P, W.heap.size ≤ P ∧ FrP P W w' := by
  have H := hidM (awake4 W hT)
  clear hT
  go_enter Tryz.func3, Tryz.ntmps3
  go_wp2_with (go_at_call 4; refine H.out.mono ?_; rintro e w9 ⟨rfl, g9⟩; have HE := hidM g9; clear g9)
  go_ret
  exact ⟨rfl, HE.out⟩
end Go.Proofs.YteggcdhibcjneaaGreatDoor.Kit
namespace Go.Proofs.YteggcdhibcjneaaGreatDoor.kindR
open Go.ChangeShapes Go.WideShapes Go.ChangeAt Go.RowKit Go.Deep
open Go.Proofs.YteggcdhibcjneaaGreatDoor
set_option linter.unusedVariables false
def rowD (k : Nat) : DataW Unit := .agg [.lit (.string (Kit.wordK k)), .lit (.int .i64 (Kit.bytesK k)), .lit (.int .i64 (Kit.bufsK k)), .lit (.int .i64 (Kit.leastK k)), .lit (.int .i64 (Kit.mostK k))]
theorem laid_rows : (Rows.laid_colonnade_kind_kinds : DataW Unit) = .agg ((List.range 21).map rowD) := rfl
theorem cells85 : Tryz.prog.cellsOf 184 = 5 := by kernel_rfl
theorem cells86 : Tryz.prog.cellsOf 185 = 105 := by kernel_rfl
theorem cells3 : Tryz.prog.cellsOf 3 = 1 := by kernel_rfl
theorem cells9 : Tryz.prog.cellsOf 9 = 1 := by kernel_rfl
theorem gKinds : Tryz.prog.globalNamed "colonnade/kind.kinds" = some 0 := by kernel_rfl
theorem gKindsT : (Tryz.prog.globals[0]?).map (·.type) = some 185 := by kernel_rfl
/-- one row, read -/
theorem row_at {W : World} {fuel : Nat} {cs : List Value} {k : Nat} {p : List MemPlace} (h : DataW.trod (fun _ => ()) Tryz.prog W 0 (fun _ => true) false fuel 184 cs = some (rowD k, p)) :
    cs = [.string ⟨(Kit.wordK k).toArray⟩, .int .i64 (Kit.bytesK k), .int .i64 (Kit.bufsK k), .int .i64 (Kit.leastK k), .int .i64 (Kit.mostK k)] := by
  obtain ⟨xs, m, _, hd, hl, hxs, hf⟩ := DataW.trod_struct Tryz.underlying184 h
  rw [cells85] at hl
  obtain ⟨c0, c1, c2, c3, c4, rfl⟩ : ∃ c0 c1 c2 c3 c4, cs = [c0, c1, c2, c3, c4] := by
    match cs, hl with
    | [a, b, c, d, e], _ => exact ⟨a, b, c, d, e, rfl⟩
  obtain ⟨y0, y1, y2, y3, y4, rfl⟩ : ∃ y0 y1 y2 y3 y4, xs = [y0, y1, y2, y3, y4] := by
    match xs, (hxs.trans rfl : xs.length = 5) with
    | [a, b, c, d, e], _ => exact ⟨a, b, c, d, e, rfl⟩
  have f0 : DataW.trod (fun _ => ()) Tryz.prog W 0 (fun _ => true) false m 9 ((([c0, c1, c2, c3, c4] : List Value).drop 0).take (Tryz.prog.cellsOf 9)) = some y0 := hf 0 _ rfl
  have f1 : DataW.trod (fun _ => ()) Tryz.prog W 0 (fun _ => true) false m 3 ((([c0, c1, c2, c3, c4] : List Value).drop 1).take (Tryz.prog.cellsOf 3)) = some y1 := hf 1 _ rfl
  have f2 : DataW.trod (fun _ => ()) Tryz.prog W 0 (fun _ => true) false m 3 ((([c0, c1, c2, c3, c4] : List Value).drop 2).take (Tryz.prog.cellsOf 3)) = some y2 := hf 2 _ rfl
  have f3 : DataW.trod (fun _ => ()) Tryz.prog W 0 (fun _ => true) false m 3 ((([c0, c1, c2, c3, c4] : List Value).drop 3).take (Tryz.prog.cellsOf 3)) = some y3 := hf 3 _ rfl
  have f4 : DataW.trod (fun _ => ()) Tryz.prog W 0 (fun _ => true) false m 3 ((([c0, c1, c2, c3, c4] : List Value).drop 4).take (Tryz.prog.cellsOf 3)) = some y4 := hf 4 _ rfl
  rw [cells9] at f0
  rw [cells3] at f1 f2 f3 f4
  simp only [List.drop_zero, List.drop_succ_cons, List.take_succ_cons, List.take_zero] at f0 f1 f2 f3 f4
  obtain ⟨s, e0, g0, _⟩ := DataW.trod_string Tryz.underlying9 f0
  obtain ⟨k1, e1, g1, _⟩ := DataW.trod_int Tryz.underlying3 f1
  obtain ⟨k2, e2, g2, _⟩ := DataW.trod_int Tryz.underlying3 f2
  obtain ⟨k3, e3, g3, _⟩ := DataW.trod_int Tryz.underlying3 f3
  obtain ⟨k4, e4, g4, _⟩ := DataW.trod_int Tryz.underlying3 f4
  subst g0 g1 g2 g3 g4
  simp only [rowD, Prod.mk.injEq, DataW.agg.injEq, List.map_cons, List.map_nil, List.cons.injEq, DataW.lit.injEq, Lit.string.injEq, Lit.int.injEq, true_and, and_true] at hd
  obtain ⟨⟨h0, h1, h2, h3, h4⟩, _⟩ := hd
  simp only [List.cons.injEq, and_true] at e0 e1 e2 e3 e4
  rw [e0, e1, e2, e3, e4, h0, h1, h2, h3, h4]
/-- the table, as the rows list it -/
theorem table {W : World} {L : List (String × DataW Unit)} (h : laidMet Tryz.prog L W) (hm : ("colonnade/kind.kinds", Rows.laid_colonnade_kind_kinds) ∈ L) : Kit.Tab W := by
  obtain ⟨g', t', cs, fuel, p, hg', ht', hvar, hd⟩ := Lib.laidMet.reads h hm
  obtain rfl := Option.some.inj (gKinds.symm.trans hg')
  obtain rfl := Option.some.inj (gKindsT.symm.trans ht')
  rw [laid_rows] at hd
  obtain ⟨xs, m, _, he, hl, hx, hf⟩ := DataW.trod_array Tryz.underlying185 hd
  rw [cells86] at hl
  rw [cells85] at hf
  simp only [Prod.mk.injEq, DataW.agg.injEq] at he
  have hcell := fun i => World.var?_cell gKinds hvar i
  have hsz : cs.size = 105 := by simpa using hl
  refine ⟨?_, fun k hk => ?_⟩
  · have := hcell 0
    rw [Array.getElem?_eq_getElem (by omega)] at this
    have := block_lt_of_cell this
    exact this
  · have h1 := hf k hk
    rw [List.getElem?_eq_getElem (by omega)] at h1
    have h2 : (xs[k]'(by omega)).1 = rowD k := by
      have := congrArg (·[k]?) he.1
      simp only [List.getElem?_map, List.getElem?_range hk, Option.map_some] at this
      rw [List.getElem?_eq_getElem (by omega)] at this
      simpa using this.symm
    have h3 := row_at (k := k) (p := (xs[k]'(by omega)).2) (by rw [h1, ← h2])
    have h4 : ∀ j, j < 5 → cs[k * 5 + j]? = ([.string ⟨(Kit.wordK k).toArray⟩, .int .i64 (Kit.bytesK k), .int .i64 (Kit.bufsK k), .int .i64 (Kit.leastK k), .int .i64 (Kit.mostK k)] : List Value)[j]? := fun j hj => by
      rw [← h3, List.getElem?_take_of_lt hj, List.getElem?_drop, Array.getElem?_toList]
    exact ⟨(hcell _).trans (h4 0 (by decide)), (hcell _).trans (h4 1 (by decide)), (hcell _).trans (h4 2 (by decide)), (hcell _).trans (h4 3 (by decide)), (hcell _).trans (h4 4 (by decide))⟩
end Go.Proofs.YteggcdhibcjneaaGreatDoor.kindR
