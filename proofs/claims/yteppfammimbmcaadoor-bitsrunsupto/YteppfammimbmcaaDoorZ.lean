import Derived.Test.YteppfammimbmcaaDoorY
namespace Go.Proofs.YteppfammimbmcaaDoor.Kit
open Go.RowKit Go.Shelf Go.Deep
set_option linter.unusedVariables false

attribute [local go_sem] Oper.semAt_some

set_option maxRecDepth 100000 in
set_option maxHeartbeats 4000000 in
theorem ask10_bad (ao bo lo : Option Addr) (na ca nb cb nl cl : Nat) (a : List Nat) (fr n k : Int) (on : Bool) (hfr : i64 fr) (hn : i64 n) (w : World) (hT : Tab w) (hA : MapAt w (.slice ao na ca) a) (he : ¬ errOf a.length fr n = 0) :
    Calls Tryd.prog 7 #[opV 10 ao bo lo na ca nb cb nl cl fr n k on] w fun e w' => ∃ rv, e = .returned rv ∧ RepAt w.heap.size w' rv { rep0 with nums := numsOf (runsV a fr n) } ∧ Keeps w w' (fun _ => False) := by
  have HC : Hid (∀ R, R = (room3 w 10 ao bo lo na ca nb cb nl cl fr n k on) → Calls Tryd.prog 17 #[.slice ao na ca, .int .i64 fr, .int .i64 n] R fun e w' => e = .returned (.func (.func 45) #[] #[]) ∧ R = w') := fun R hR => by subst hR; exact runs_bad _ a fr n hfr hn _ (hA.kept (room3_keeps w _ _ _ _ _ _ _ _ _ _ _ _ _ _)) he
  have HRV : Hid (runsV a fr n = []) := if_neg he
  have HT : Hid (Tab w) := hT
  clear hA hT he
  unfold opV
  refine (callsIn_wide (n := 6)).1 ?_
  refine callsIn_of_wp_marks Tryd.func7 rfl trivial ?_ rfl
  simp only [Tryd.ntmps7, List.size_toArray, List.length_cons, List.length_nil, Nat.reduceAdd, Nat.reduceSub, Array.replicate_succ, Array.replicate_zero, List.push_toArray, List.append_toArray, List.nil_append, List.cons_append]
  gi_wp2_with fail
  refine ⟨trivial, ?_⟩
  gi_at_call 17
  refine (callsIn_wide.2 (HC.out _ rfl)).mono ?_
  rintro e w1 ⟨rfl, hk⟩
  have HA : After w w1 := After.mk' (kind := 10) (ao := ao) (bo := bo) (lo := lo) (na := na) (ca := ca) (nb := nb) (cb := cb) (nl := nl) (cl := cl) (fr := fr) (n := n) (k := k) (on := on) (by rw [← hk]; exact Keeps.refl _ _)
  have hsz : w.heap.size + 3 ≤ w1.heap.size := by rw [← hk]; exact Nat.le_of_eq (room3_size w _ _ _ _ _ _ _ _ _ _ _ _ _ _).symm
  have hst := empty_stops (6 - 1) (by decide) (KpOf (fun _ => False)) w1
  clear hk HC
  have hnf : ∀ w, (binOp .eql 47 (.func (.func 45) #[] #[]) .nilFunc).run Tryd.prog w = .ok (.bool false) w := fun w => by kernel_rfl
  have HAA : Hid (After w w1) := HA
  clear HA
  gi_wp2
  refine wpIn_rangeFunc_ownF rfl (by decide) (gf := 45) (lb := #[]) rfl trivial (enters_of Tryd.func45 (by kernel_rfl) rfl)
    hst kp_t (kp_b (S := fun _ => False) (fun _ h => h.elim)) (Below.refl _ _) (fun _ => rfl)
    (fun pre W => (NumsAt W (w.heap.size + 1 + 1) w1.heap.size (numsM pre) ∧ Zero6 W (w.heap.size + 1)) ∧ Below w.heap.size w W ∧ w1.heap.size ≤ W.heap.size)
    (fun _ _ _ => False)
    (fun s A B' row hs hg hr => ⟨⟨hs.1.1.turn hg hr, cells_turn hs.1.2 hg hr⟩, (ownFrom_below (β := Unit) (Nat.le_refl _) (by omega)) () A B' row hs.2.1 hg hr, Nat.le_trans hs.2.2 hg.size⟩)
    (fun _ _ _ _ _ hs _ _ => hs)
    ⟨⟨NumsAt.start HAA.out.r2 _, HAA.out.r1⟩, HAA.out.keeps.below' (Nat.le_refl _), Nat.le_refl _⟩
    (fun x => { tmps := #[Value.agg #[Value.int IntKind.i64 10, Value.slice ao na ca, Value.slice bo nb cb, Value.slice lo nl cl, Value.int IntKind.i64 fr, Value.int IntKind.i64 n, Value.int IntKind.i64 k, Value.bool on], Value.pointer (some { block := w.heap.size, off := 0 }), Value.pointer (some { block := w.heap.size + 1, off := 0 }), Value.pointer (some { block := w.heap.size + 1 + 1, off := 0 }), Value.func (Fn.func 45) #[] #[], .int .i64 (min x.1 1000000000 : Nat), .int .i64 (min x.2 1000000000 : Nat), Value.pointer (some { block := w.heap.size, off := 0 }), Value.int IntKind.i64 10, undef, undef, undef, undef, Value.bool false, Value.bool false, undef, undef, undef, undef, undef, undef, undef, undef, undef, undef, Value.bool false, Value.bool false, undef, undef, undef, undef, undef, undef, undef, undef, undef, undef, undef, undef, Value.bool false, Value.bool false, undef, undef, undef, undef, Value.bool false, Value.bool false, undef, undef, undef, undef, undef, undef, undef, undef, undef, undef, undef, undef, Value.bool false, Value.bool false, undef, undef, undef, undef, undef, undef, undef, undef, undef, undef, undef, undef, Value.bool false, Value.bool false, undef, undef, undef, undef, undef, undef, undef, undef, undef, undef, undef, undef, Value.bool false, Value.bool false, undef, undef, undef, undef, undef, undef, undef, undef, undef, undef, undef, undef, Value.bool false, Value.bool false, undef, undef, undef, undef, undef, undef, undef, undef, undef, undef, undef, undef, Value.bool false, Value.bool false, undef, undef, undef, undef, undef, undef, undef, undef, undef, undef, Value.bool true, Value.bool true, Value.pointer (some { block := w.heap.size, off := 1 }), Value.slice ao na ca, Value.pointer (some { block := w.heap.size, off := 4 }), Value.int IntKind.i64 fr, Value.pointer (some { block := w.heap.size, off := 5 }), Value.int IntKind.i64 n, Value.func (Fn.func 45) #[] #[], Value.func (Fn.func 45) #[] #[], Value.bool false, undef, undef, Value.func (Fn.func 45) #[] #[], .int .i64 (min x.1 1000000000 : Nat), .int .i64 (min x.2 1000000000 : Nat), undef, undef, undef, undef, undef, undef, undef, undef, undef, undef, undef, undef, undef, undef, undef, undef, undef, undef, undef, undef, undef, undef, undef, undef, undef, undef, undef, undef, undef, undef, undef, undef, undef, undef, undef, undef], defers := [] }) ?assign ?body ?done ?stop
  case assign =>
    intro l x W K hK
    simp only [encR]
    gi_wp2
    exact hK
  case body =>
    rintro l pre x W _ hlt
    exact absurd hlt (Nat.not_lt_zero _)
  case done =>
    rintro D ys W hD rfl ⟨⟨hN, hZ⟩, hB, hsW⟩ hK
    have hnum : numsM [] = numsOf (runsV a fr n) := by rw [HRV.out]; rfl
    rw [hnum] at hN
    obtain ⟨ao3, cap3, hv, hown, hb3, hc5, hf5⟩ := hN.open
    obtain ⟨z10, z11, z12, z13, z14, z15⟩ := hZ.cells
    have f1 := hZ.frozen
    have y0 : W.cell? ⟨w.heap.size + 1 + 1, 0, none⟩ = some (.int .i64 0) := by rw [cell_of_row W _ 0 _ _ _ hv]; rfl
    have y1 : W.cell? ⟨w.heap.size + 1 + 1, 1, none⟩ = some (.int .i64 0) := by rw [cell_of_row W _ 1 _ _ _ hv]; rfl
    have y2 : W.cell? ⟨w.heap.size + 1 + 1, 2, none⟩ = some (.bool false) := by rw [cell_of_row W _ 2 _ _ _ hv]; rfl
    have y3 : W.cell? ⟨w.heap.size + 1 + 1, 3, none⟩ = some (.slice none 0 0) := by rw [cell_of_row W _ 3 _ _ _ hv]; rfl
    have y4 : W.cell? ⟨w.heap.size + 1 + 1, 4, none⟩ = some (.slice none 0 0) := by rw [cell_of_row W _ 4 _ _ _ hv]; rfl
    have HO : Hid (W.ownsRow 0 3 1 (.slice ao3 (numsOf (runsV a fr n)).length cap3) (numsOf (runsV a fr n)).length (cellsI (numsOf (runsV a fr n)))) := hown
    have HB3 : Hid (∀ g, (Value.slice ao3 (numsOf (runsV a fr n)).length cap3).ownBlock = some g → w1.heap.size ≤ g) := hb3
    have HZ : Hid (Zero6 W (w.heap.size + 1)) := hZ
    have HBB : Hid (Below w.heap.size w W) := hB
    have HK0 : Hid (W.heap[D]? = some (.deferred (some []))) := hK
    have HR : Hid (∃ L, L = numsOf (runsV a fr n)) := ⟨_, rfl⟩
    obtain ⟨nms, HNM⟩ : ∃ nms, nms = numsOf (runsV a fr n) := ⟨_, rfl⟩
    have HNM' : Hid (numsOf (runsV a fr n) = nms) := HNM.symm
    rw [← HNM] at HO HB3 hc5
    clear hnum hN hv hown hb3 hZ hB hK HNM HR
    gi_wp2
    have HX6 := six HZ.out (.int .i64 0) (.int .i64 0) (.bool false) (.slice none 0 0) (.slice none 0 0) (.slice ao3 nms.length cap3)
    obtain ⟨W2, hW2⟩ : ∃ W2, W2 = ((((((W.setCell ⟨w.heap.size + 1, 0, none⟩ (.int .i64 0)).setCell ⟨w.heap.size + 1, 1, none⟩ (.int .i64 0)).setCell ⟨w.heap.size + 1, 2, none⟩ (.bool false)).setCell ⟨w.heap.size + 1, 3, none⟩ (.slice none 0 0)).setCell ⟨w.heap.size + 1, 4, none⟩ (.slice none 0 0)).setCell ⟨w.heap.size + 1, 5, none⟩ (.slice ao3 nms.length cap3)) := ⟨_, rfl⟩
    rw [← hW2] at HX6 ⊢
    have kW : Keeps W W2 (S12 w.heap.size) := by rw [hW2]; repeat (first | with_reducible exact Keeps.refl _ _ | with_reducible refine Keeps.setCell ?_ (fun _ => by simp [S12]) _)
    have oW : KeepsOthers W W2 := by rw [hW2]; exact (((((KeepsOthers.setCell _ _ _).trans (KeepsOthers.setCell _ _ _)).trans (KeepsOthers.setCell _ _ _)).trans (KeepsOthers.setCell _ _ _)).trans (KeepsOthers.setCell _ _ _)).trans (KeepsOthers.setCell _ _ _)
    have hK2 : W2.heap[D]? = some (.deferred (some [])) := oW.same D _ HK0.out rfl
    have hRK := rep_mk (r := { rep0 with nums := nms }) (Keeps.below_none HBB.out) kW (own_nil _ _) (own_nil _ _) HO.out (fun g hg => by have := HB3.out g (by simpa [Value.ownBlock] using hg); omega)
    have hB2 : Below w.heap.size w W2 := hRK.2.below' (Nat.le_refl _)
    have hr2 : ∀ r, some D = some r → 0 ≤ r ∧ ∃ o : Obj, W2.heap[r]? = some o ∧ o.isCells = false := fun r e => by cases e; exact ⟨Nat.zero_le _, _, hK2, rfl⟩
    refine ⟨by simp, .inl ⟨_, _, rfl, run_takeDeferred hK2, ?_⟩⟩
    refine ⟨_, res6 resf7 (B := w.heap.size + 1) (by simp) (cells_turn HX6 (grownBy_putObj' _ D (.deferred none)) hr2), ?_⟩
    rw [HNM'.out]
    exact ⟨_, rfl, hRK.1.turn (grownBy_putObj' _ D (.deferred none)) hr2, Keeps.below_none (hB2.trans (belowK_b (w := w) (Nat.le_refl _) W2 D _ _ (by omega) hK2 rfl rfl))⟩
  case stop =>
    rintro D c pre W _ _ h _
    exact h.elim

set_option maxRecDepth 100000 in
set_option maxHeartbeats 4000000 in
theorem ask10_good (ao bo lo : Option Addr) (na ca nb cb nl cl : Nat) (a : List Nat) (fr n k : Int) (on : Bool) (hfr : i64 fr) (hn : i64 n) (w : World) (hT : Tab w) (hA : MapAt w (.slice ao na ca) a) (he : errOf a.length fr n = 0) :
    Calls Tryd.prog 7 #[opV 10 ao bo lo na ca nb cb nl cl fr n k on] w fun e w' => ∃ rv, e = .returned rv ∧ RepAt w.heap.size w' rv { rep0 with nums := numsOf (runsV a fr n) } ∧ Keeps w w' (fun _ => False) := by
  have HC : Hid (∀ R, R = (room3 w 10 ao bo lo na ca nb cb nl cl fr n k on) → Calls Tryd.prog 17 #[.slice ao na ca, .int .i64 fr, .int .i64 n] R fun e w' => ∃ u, e = .returned u ∧ Iter R w' u (fromL a fr) n.toNat) := fun R hR => by subst hR; exact runs_good _ a fr n hfr hn _ (hT.kept (room3_keeps w _ _ _ _ _ _ _ _ _ _ _ _ _ _) id) (hA.kept (room3_keeps w _ _ _ _ _ _ _ _ _ _ _ _ _ _)) he
  have HRV : Hid (runsV a fr n = rf (fromL a fr) n.toNat) := if_pos he
  have hm8 : n.toNat ≤ 100000000 := by
    have h1 := hA.len
    unfold errOf at he
    split at he
    · omega
    · split at he
      · omega
      · have := hn.2; omega
  have HT : Hid (Tab w) := hT
  clear hA hT he
  unfold opV
  refine (callsIn_wide (n := 6)).1 ?_
  refine callsIn_of_wp_marks Tryd.func7 rfl trivial ?_ rfl
  simp only [Tryd.ntmps7, List.size_toArray, List.length_cons, List.length_nil, Nat.reduceAdd, Nat.reduceSub, Array.replicate_succ, Array.replicate_zero, List.push_toArray, List.append_toArray, List.nil_append, List.cons_append]
  gi_wp2_with fail
  refine ⟨trivial, ?_⟩
  gi_at_call 17
  refine (callsIn_wide.2 (HC.out _ rfl)).mono ?_
  rintro e w1 ⟨v, rfl, b1, b2, b3, ao1, ca1, kl, first, rfl, hkl, hkn, hke, hH, hf, hK, hS⟩
  have h0w : 0 < w.heap.size := block_lt_of_cell (HT.out 0 (by decide))
  have HA := After.mk' hK
  have hsz : w.heap.size + 3 ≤ w1.heap.size := by have := hK.size; rw [room3_size] at this; exact this
  have hS1 : ∀ b, HeldS b1 b2 b3 ao1 b → b < w1.heap.size := fun b hb => by rcases hS b hb with e | e <;> omega
  have hS2 : ¬ HeldS b1 b2 b3 ao1 (w.heap.size + 1 + 1) := fun hb => by
    rcases hS _ hb with e | e
    · omega
    · have := e.1; rw [room3_size] at this; omega
  have hrf : rf (fun k => bitAt kl (first + k)) n.toNat = rf (fromL a fr) n.toNat := rf_congr hf
  have hst := runs_stops (6 - 1) (by decide) b1 b2 b3 ao1 ca1 kl hkl hkn first n.toNat hke w1 hH
  rw [hrf] at hst
  have hlm := rf_len_le (fromL a fr) n.toNat
  clear hkl hkn hke hH hf hK hS hrf HC
  have hnf : ∀ w, (binOp .eql 47 (.func (.func 47) #[] #[.pointer (some ⟨b1, 0, none⟩), .pointer (some ⟨b2, 0, none⟩), .pointer (some ⟨b3, 0, none⟩)]) .nilFunc).run Tryd.prog w = .ok (.bool false) w := fun w => by kernel_rfl
  have HAA : Hid (After w w1) := HA
  clear HA
  gi_wp2
  refine wpIn_rangeFunc_ownF rfl (by decide) (gf := 47) (lb := #[.pointer (some ⟨b1, 0, none⟩), .pointer (some ⟨b2, 0, none⟩), .pointer (some ⟨b3, 0, none⟩)]) rfl trivial (enters_of Tryd.func47 (by kernel_rfl) rfl)
    hst kp_t (kp_b hS1) (Below.refl _ _) (fun _ => rfl)
    (fun pre W => (NumsAt W (w.heap.size + 1 + 1) w1.heap.size (numsM pre) ∧ Zero6 W (w.heap.size + 1)) ∧ Below w.heap.size w W ∧ w1.heap.size ≤ W.heap.size)
    (fun _ _ _ => False)
    (fun s A B' row hs hg hr => ⟨⟨hs.1.1.turn hg hr, cells_turn hs.1.2 hg hr⟩, (ownFrom_below (β := Unit) (Nat.le_refl _) (by omega)) () A B' row hs.2.1 hg hr, Nat.le_trans hs.2.2 hg.size⟩)
    (fun _ _ _ _ _ hs _ _ => hs)
    ⟨⟨NumsAt.start HAA.out.r2 _, HAA.out.r1⟩, HAA.out.keeps.below' (Nat.le_refl _), Nat.le_refl _⟩
    (fun x => { tmps := #[Value.agg #[Value.int IntKind.i64 10, Value.slice ao na ca, Value.slice bo nb cb, Value.slice lo nl cl, Value.int IntKind.i64 fr, Value.int IntKind.i64 n, Value.int IntKind.i64 k, Value.bool on], Value.pointer (some { block := w.heap.size, off := 0 }), Value.pointer (some { block := w.heap.size + 1, off := 0 }), Value.pointer (some { block := w.heap.size + 1 + 1, off := 0 }), Value.func (Fn.func 47) #[] #[.pointer (some ⟨b1, 0, none⟩), .pointer (some ⟨b2, 0, none⟩), .pointer (some ⟨b3, 0, none⟩)], .int .i64 (min x.1 1000000000 : Nat), .int .i64 (min x.2 1000000000 : Nat), Value.pointer (some { block := w.heap.size, off := 0 }), Value.int IntKind.i64 10, undef, undef, undef, undef, Value.bool false, Value.bool false, undef, undef, undef, undef, undef, undef, undef, undef, undef, undef, Value.bool false, Value.bool false, undef, undef, undef, undef, undef, undef, undef, undef, undef, undef, undef, undef, Value.bool false, Value.bool false, undef, undef, undef, undef, Value.bool false, Value.bool false, undef, undef, undef, undef, undef, undef, undef, undef, undef, undef, undef, undef, Value.bool false, Value.bool false, undef, undef, undef, undef, undef, undef, undef, undef, undef, undef, undef, undef, Value.bool false, Value.bool false, undef, undef, undef, undef, undef, undef, undef, undef, undef, undef, undef, undef, Value.bool false, Value.bool false, undef, undef, undef, undef, undef, undef, undef, undef, undef, undef, undef, undef, Value.bool false, Value.bool false, undef, undef, undef, undef, undef, undef, undef, undef, undef, undef, undef, undef, Value.bool false, Value.bool false, undef, undef, undef, undef, undef, undef, undef, undef, undef, undef, Value.bool true, Value.bool true, Value.pointer (some { block := w.heap.size, off := 1 }), Value.slice ao na ca, Value.pointer (some { block := w.heap.size, off := 4 }), Value.int IntKind.i64 fr, Value.pointer (some { block := w.heap.size, off := 5 }), Value.int IntKind.i64 n, Value.func (Fn.func 47) #[] #[.pointer (some ⟨b1, 0, none⟩), .pointer (some ⟨b2, 0, none⟩), .pointer (some ⟨b3, 0, none⟩)], Value.func (Fn.func 47) #[] #[.pointer (some ⟨b1, 0, none⟩), .pointer (some ⟨b2, 0, none⟩), .pointer (some ⟨b3, 0, none⟩)], Value.bool false, undef, undef, Value.func (Fn.func 47) #[] #[.pointer (some ⟨b1, 0, none⟩), .pointer (some ⟨b2, 0, none⟩), .pointer (some ⟨b3, 0, none⟩)], .int .i64 (min x.1 1000000000 : Nat), .int .i64 (min x.2 1000000000 : Nat), undef, undef, undef, undef, undef, undef, undef, undef, undef, undef, undef, undef, undef, undef, undef, undef, undef, undef, undef, undef, undef, undef, undef, undef, undef, undef, undef, undef, undef, undef, undef, undef, undef, undef, undef, undef], defers := [] }) ?assign ?body ?done ?stop
  case assign =>
    intro l x W K hK
    simp only [encR]
    gi_wp2
    exact hK
  case body =>
    rintro l pre x W ⟨⟨hN, hZ⟩, hB, hsW⟩ hlt
    have hlen : (numsM pre).length ≤ 1000000000 := by rw [numsM_length]; omega
    have hsn := numsM_snoc pre x
    obtain ⟨ao3, cap3, hv, hown, hb3, hc5, hf5⟩ := hN.open
    obtain ⟨y, hy⟩ : ∃ y, y = min x.2 1000000000 := ⟨_, rfl⟩
    obtain ⟨z, hz⟩ : ∃ z, z = min x.1 1000000000 := ⟨_, rfl⟩
    rw [← hy, ← hz] at hsn
    rw [← hy, ← hz]
    have HSN : Hid (numsM (pre ++ [x]) = numsM pre ++ [(z : Int), (y : Int)]) := hsn
    have HO : Hid (W.ownsRow 0 3 1 (.slice ao3 (numsM pre).length cap3) (numsM pre).length (cellsI (numsM pre))) := hown
    have HV : Hid (W.heap[w.heap.size + 1 + 1]? = some (.cells #[.int .i64 0, .int .i64 0, .bool false, .slice none 0 0, .slice none 0 0, .slice ao3 (numsM pre).length cap3] 28 (0, 0))) := hv
    have HB3 : Hid (∀ g, (Value.slice ao3 (numsM pre).length cap3).ownBlock = some g → w1.heap.size ≤ g) := hb3
    have HZ : Hid (Zero6 W (w.heap.size + 1)) := hZ
    have HBB : Hid (Below w.heap.size w W) := hB
    have HSZ : Hid (w1.heap.size ≤ W.heap.size) := hsW
    clear hsn hy hz hown hv hb3 hN hZ hB hsW
    generalize hnm : numsM pre = M at *
    gi_wp2_with (first | (gi_at_builtin; refine wpListIn_append_any _ rfl (.tmp 144) (.tmp 147) 26 26 rfl 3 (.int .i64 0) 8 Tryd.underlying26 info3 rfl _ _ _ rfl (HO.out.alloc _) _ _ _ rfl (src_two W _ _) ?h63 ?hby ?_))
    case h63 => omega
    case hby => omega
    intro v' w2 hown' hgrow hblk
    obtain ⟨ao4, cap4, rfl⟩ := own_form hown'
    obtain ⟨c1, f1, hN2, hK2, hO2⟩ := NumsAt.appended (news := [(z : Int), (y : Int)]) (o := .cells #[] 3) HV.out HO.out HB3.out HSZ.out _ (Keeps.none_alloc W _) (KeepsOthers.alloc W _) hown' (by simp) (by simp) hgrow (by simpa using hblk)
    have HP : Hid (Keeps W (w2.setCell ⟨w.heap.size + 1 + 1, 5, none⟩ (.slice ao4 (M.length + 2) cap4)) (fun k => k = w.heap.size + 1 + 1 ∨ w1.heap.size ≤ k) ∧ NumsAt (w2.setCell ⟨w.heap.size + 1 + 1, 5, none⟩ (.slice ao4 (M.length + 2) cap4)) (w.heap.size + 1 + 1) w1.heap.size (M ++ [(z : Int), (y : Int)]) ∧ KeepsOthers W (w2.setCell ⟨w.heap.size + 1 + 1, 5, none⟩ (.slice ao4 (M.length + 2) cap4))) := ⟨hK2, hN2, hO2⟩
    clear hown' hgrow hblk hN2 hK2 hO2 hlen
    gi_wp2
    refine ⟨HP.out.2.2, fun b hb => HP.out.1.block b (by have := hS1 b hb; have := HSZ.out; omega) (fun e => e.elim (fun e => hS2 (e ▸ hb)) (fun e => by have := hS1 b hb; omega)), ⟨by rw [HSN.out]; exact HP.out.2.1, (HP.out.1.block _ (Array.getElem?_eq_some_iff.1 HZ.out).1 (by simp; omega)).trans HZ.out⟩, HBB.out.trans (HP.out.1.below (fun k _ e => by rcases e with e | e <;> omega) (by have := HSZ.out; omega)), Nat.le_trans HSZ.out HP.out.1.size⟩
  case done =>
    rintro D ys W hD rfl ⟨⟨hN, hZ⟩, hB, hsW⟩ hK
    have hnum : numsM (rf (fromL a fr) n.toNat) = numsOf (runsV a fr n) := by rw [HRV.out]; exact numsM_eq fun r hr => by have := rf_bound (f := fromL a fr) (n := n.toNat) r hr; omega
    rw [hnum] at hN
    obtain ⟨ao3, cap3, hv, hown, hb3, hc5, hf5⟩ := hN.open
    obtain ⟨z10, z11, z12, z13, z14, z15⟩ := hZ.cells
    have f1 := hZ.frozen
    have y0 : W.cell? ⟨w.heap.size + 1 + 1, 0, none⟩ = some (.int .i64 0) := by rw [cell_of_row W _ 0 _ _ _ hv]; rfl
    have y1 : W.cell? ⟨w.heap.size + 1 + 1, 1, none⟩ = some (.int .i64 0) := by rw [cell_of_row W _ 1 _ _ _ hv]; rfl
    have y2 : W.cell? ⟨w.heap.size + 1 + 1, 2, none⟩ = some (.bool false) := by rw [cell_of_row W _ 2 _ _ _ hv]; rfl
    have y3 : W.cell? ⟨w.heap.size + 1 + 1, 3, none⟩ = some (.slice none 0 0) := by rw [cell_of_row W _ 3 _ _ _ hv]; rfl
    have y4 : W.cell? ⟨w.heap.size + 1 + 1, 4, none⟩ = some (.slice none 0 0) := by rw [cell_of_row W _ 4 _ _ _ hv]; rfl
    have HO : Hid (W.ownsRow 0 3 1 (.slice ao3 (numsOf (runsV a fr n)).length cap3) (numsOf (runsV a fr n)).length (cellsI (numsOf (runsV a fr n)))) := hown
    have HB3 : Hid (∀ g, (Value.slice ao3 (numsOf (runsV a fr n)).length cap3).ownBlock = some g → w1.heap.size ≤ g) := hb3
    have HZ : Hid (Zero6 W (w.heap.size + 1)) := hZ
    have HBB : Hid (Below w.heap.size w W) := hB
    have HK0 : Hid (W.heap[D]? = some (.deferred (some []))) := hK
    have HR : Hid (∃ L, L = numsOf (runsV a fr n)) := ⟨_, rfl⟩
    obtain ⟨nms, HNM⟩ : ∃ nms, nms = numsOf (runsV a fr n) := ⟨_, rfl⟩
    have HNM' : Hid (numsOf (runsV a fr n) = nms) := HNM.symm
    rw [← HNM] at HO HB3 hc5
    clear hnum hN hv hown hb3 hZ hB hK HNM HR
    gi_wp2
    have HX6 := six HZ.out (.int .i64 0) (.int .i64 0) (.bool false) (.slice none 0 0) (.slice none 0 0) (.slice ao3 nms.length cap3)
    obtain ⟨W2, hW2⟩ : ∃ W2, W2 = ((((((W.setCell ⟨w.heap.size + 1, 0, none⟩ (.int .i64 0)).setCell ⟨w.heap.size + 1, 1, none⟩ (.int .i64 0)).setCell ⟨w.heap.size + 1, 2, none⟩ (.bool false)).setCell ⟨w.heap.size + 1, 3, none⟩ (.slice none 0 0)).setCell ⟨w.heap.size + 1, 4, none⟩ (.slice none 0 0)).setCell ⟨w.heap.size + 1, 5, none⟩ (.slice ao3 nms.length cap3)) := ⟨_, rfl⟩
    rw [← hW2] at HX6 ⊢
    have kW : Keeps W W2 (S12 w.heap.size) := by rw [hW2]; repeat (first | with_reducible exact Keeps.refl _ _ | with_reducible refine Keeps.setCell ?_ (fun _ => by simp [S12]) _)
    have oW : KeepsOthers W W2 := by rw [hW2]; exact (((((KeepsOthers.setCell _ _ _).trans (KeepsOthers.setCell _ _ _)).trans (KeepsOthers.setCell _ _ _)).trans (KeepsOthers.setCell _ _ _)).trans (KeepsOthers.setCell _ _ _)).trans (KeepsOthers.setCell _ _ _)
    have hK2 : W2.heap[D]? = some (.deferred (some [])) := oW.same D _ HK0.out rfl
    have hRK := rep_mk (r := { rep0 with nums := nms }) (Keeps.below_none HBB.out) kW (own_nil _ _) (own_nil _ _) HO.out (fun g hg => by have := HB3.out g (by simpa [Value.ownBlock] using hg); omega)
    have hB2 : Below w.heap.size w W2 := hRK.2.below' (Nat.le_refl _)
    have hr2 : ∀ r, some D = some r → 0 ≤ r ∧ ∃ o : Obj, W2.heap[r]? = some o ∧ o.isCells = false := fun r e => by cases e; exact ⟨Nat.zero_le _, _, hK2, rfl⟩
    refine ⟨by simp, .inl ⟨_, _, rfl, run_takeDeferred hK2, ?_⟩⟩
    refine ⟨_, res6 resf7 (B := w.heap.size + 1) (by simp) (cells_turn HX6 (grownBy_putObj' _ D (.deferred none)) hr2), ?_⟩
    rw [HNM'.out]
    exact ⟨_, rfl, hRK.1.turn (grownBy_putObj' _ D (.deferred none)) hr2, Keeps.below_none (hB2.trans (belowK_b (w := w) (Nat.le_refl _) W2 D _ _ (by omega) hK2 rfl rfl))⟩
  case stop =>
    rintro D c pre W _ _ h _
    exact h.elim
theorem ask10 (ao bo lo : Option Addr) (na ca nb cb nl cl : Nat) (a : List Nat) (fr n k : Int) (on : Bool) (hfr : i64 fr) (hn : i64 n) (w : World) (hT : Tab w) (hA : MapAt w (.slice ao na ca) a) :
    Calls Tryd.prog 7 #[opV 10 ao bo lo na ca nb cb nl cl fr n k on] w fun e w' => ∃ rv, e = .returned rv ∧ RepAt w.heap.size w' rv { rep0 with nums := numsOf (runsV a fr n) } ∧ Keeps w w' (fun _ => False) := by
  by_cases he : errOf a.length fr n = 0
  · exact ask10_good ao bo lo na ca nb cb nl cl a fr n k on hfr hn w hT hA he
  · exact ask10_bad ao bo lo na ca nb cb nl cl a fr n k on hfr hn w hT hA he
end Go.Proofs.YteppfammimbmcaaDoor.Kit
