import Derived.Test.YtnmfnmofcgcnbaaGreatDoorBtP
import Derived.Test.YtnmfnmofcgcnbaaGreatDoorBtI
set_option linter.unusedVariables false
set_option linter.unusedSimpArgs false
set_option maxRecDepth 100000
set_option maxHeartbeats 4000000
namespace Go.Proofs.YtnmfnmofcgcnbaaGreatDoor.Bits
open Go.Proofs.YtnmfnmofcgcnbaaGreatDoor.Kit
open Go.RowKit Go.Shelf Go.Deep
attribute [local go_sem] Oper.semAt_some

theorem count_neg (ao : Option Addr) (n ca : Nat) (fr m : Int) (h : fr < 0 ∨ m < 0) (w : World) :
    Calls Tryz.prog 121 #[.slice ao n ca, .int .i64 fr, .int .i64 m] w fun e w' => e = .returned (.tuple #[.int .i64 0, .int .i64 1]) ∧ w = w' := by
  go_enter Tryz.func121, Tryz.ntmps121
  go_wp2_with (go_at_call 126; refine (refused_neg ao n ca fr m _ h).mono ?_; rintro e w' ⟨rfl, rfl⟩)
  go_ret2
  exact ⟨rfl, rfl⟩
theorem count_range (ao : Option Addr) (n ca : Nat) (hn : n ≤ 1152921504606846975) (fr m : Nat) (hfr : fr ≤ 9223372036854775807) (hm : m ≤ 9223372036854775807) (h : 8 * n < fr + m) (w : World) :
    Calls Tryz.prog 121 #[.slice ao n ca, .int .i64 fr, .int .i64 m] w fun e w' => e = .returned (.tuple #[.int .i64 0, .int .i64 2]) ∧ w = w' := by
  go_enter Tryz.func121, Tryz.ntmps121
  go_wp2_with (go_at_call 126; refine (refused_range ao n ca hn fr m hfr hm h _).mono ?_; rintro e w' ⟨rfl, rfl⟩)
  go_ret2
  exact ⟨rfl, rfl⟩

/-- the sum of lengths, as the loop reckons it -/
def sumM (l : List (Nat × Nat)) : Nat := (l.map fun x => min x.2 1000000000).sum
theorem sumM_snoc (l : List (Nat × Nat)) (x : Nat × Nat) : sumM (l ++ [x]) = sumM l + min x.2 1000000000 := by simp [sumM]
theorem sumM_le (l : List (Nat × Nat)) : sumM l ≤ l.length * 1000000000 := by
  induction l with
  | nil => simp [sumM]
  | cons a l ih => simp only [sumM, List.map_cons, List.sum_cons, List.length_cons] at ih ⊢; omega
theorem sumM_eq {l : List (Nat × Nat)} (h : ∀ r ∈ l, r.2 ≤ 1000000000) : sumM l = runSum l := by
  unfold sumM runSum
  congr 1
  apply List.map_congr_left
  intro r hr
  have := h r hr
  omega
theorem kp_t {S : Nat → Prop} {A B C : World} (h : KpOf S A B) (k : KpOf S B C) : KpOf S A C := fun b hb => (k b hb).trans (h b hb)
theorem kp_b {S : Nat → Prop} {B : Nat} (hS : ∀ b, S b → b < B) (W : World) (l : Nat) (o o' : Obj) (hl : B ≤ l) (_ : W.heap[l]? = some o) (_ : o.isCells = false) (_ : o.isWalk = false) : KpOf S W (W.putObj l o') :=
  fun b hb => World.putObj_heap_other (fun e => by have := hS b hb; omega)
theorem kp_set {S : Nat → Prop} (W : World) (p : Addr) (u : Value) (hp : ¬ S p.block) : KpOf S W (W.setCell p u) := fun b hb => heap_setCell_other W p b u (fun e => hp (e ▸ hb))
theorem Keeps.below_none {w w' : World} (h : Below w.heap.size w w') : Keeps w w' (fun _ => False) := ⟨h.os, h.tape, h.output, h.size, fun k hk _ => h.block k hk⟩
theorem _root_.Go.Proofs.YtnmfnmofcgcnbaaGreatDoor.Kit.Keeps.below' {w w' : World} (h : Keeps w w' (fun _ => False)) {B : Nat} (hB : B ≤ w.heap.size) : Below B w w' := h.below (fun _ _ h => h.elim) hB

theorem count_ok (ao : Option Addr) (ca : Nat) (l : List Nat) (hl : Bytes l) (hn : l.length ≤ 10000000) (hca : l.length ≤ ca) (hcb : ca ≤ 9223372036854775807) (fr m : Nat) (h : fr + m ≤ 8 * l.length) (w : World) (hT : Tab w) (hb : BytesAt w ao l) :
    Calls Tryz.prog 121 #[.slice ao l.length ca, .int .i64 fr, .int .i64 m] w fun e w' => e = .returned (.tuple #[.int .i64 (cn (fun k => bitAt l (fr + k)) m : Nat), .int .i64 0]) ∧ Keeps w w' (fun _ => False) := by
  have hRun : Hid (∀ W, Keeps w W (fun _ => False) → Calls Tryz.prog 127 #[.slice ao l.length ca, .int .i64 fr, .int .i64 m] W fun e w' => ∃ v, e = .returned v ∧ Iter W w' v (fun k => bitAt l (fr + k)) m) :=
    fun W k => runs_ok ao ca l hl hn hca hcb fr m h W (hT.kept k id) (hb.kept0 k)
  have HT : Hid (Tab w) := hT
  obtain ⟨f, HF⟩ : ∃ f : Nat → Bool, f = fun k => bitAt l (fr + k) := ⟨_, rfl⟩
  rw [← HF] at hRun ⊢
  clear HF hT hb
  refine (callsIn_wide (n := 6)).1 ?_
  refine callsIn_of_wp_marks Tryz.func121 rfl trivial ?_ rfl
  simp only [Tryz.ntmps121, List.size_toArray, List.length_cons, List.length_nil, Nat.reduceAdd, Nat.reduceSub, Array.replicate_succ, Array.replicate_zero, List.push_toArray, List.append_toArray, List.nil_append, List.cons_append]
  gi_wp2_with (refine ⟨trivial, ?_⟩; gi_at_call 126; refine (callsIn_wide.2 (refused_ok ao l.length ca (by omega) fr m h _)).mono ?_; rintro e w' ⟨rfl, rfl⟩)
  refine ⟨trivial, ?_⟩
  gi_at_call 127
  refine (callsIn_wide.2 (hRun.out _ (Keeps.none_alloc w _))).mono ?_
  rintro e w1 ⟨v, rfl, b1, b2, b3, ao1, ca1, kl, first, rfl, hkl, hkn, hke, hH, hf, hK, hS⟩
  have h0w : 3 < w.heap.size := block_lt_of_cell (HT.out 0 (by decide))
  have hsz : w.heap.size + 1 ≤ w1.heap.size := by have := hK.size; simpa using this
  have hS1 : ∀ b, HeldS b1 b2 b3 ao1 b → b < w1.heap.size := fun b hb => by rcases hS b hb with e | e <;> omega
  have hS2 : ¬ HeldS b1 b2 b3 ao1 w.heap.size := fun hb => by
    rcases hS _ hb with e | e
    · omega
    · have := e.1; simp at this; omega
  have hc0 := hK.cell' (cellNew w (.int .i64 0) 3).1 id
  have hfz0 : w1.frozen? ⟨w.heap.size, 0, none⟩ = false := by
    have := World.frozen?_of_block (a := ⟨w.heap.size, 0, none⟩) (hK.block w.heap.size (by simp) id)
    rw [this]; exact (cellNew w (.int .i64 0) 3).2
  have hB1 : Below w.heap.size w w1 := ((Below.refl _ w).alloc (Nat.le_refl _) _).trans (hK.below' (by simp))
  have hrf : rf (fun k => bitAt kl (first + k)) m = rf f m := rf_congr hf
  have hst := runs_stops (6 - 1) (by decide) b1 b2 b3 ao1 ca1 kl hkl hkn first m hke w1 hH
  rw [hrf] at hst
  have hlm := rf_len_le f m
  clear hRun hkl hkn hke hH hf hK hS hrf
  gi_wp2
  refine wpIn_rangeFunc_ownF rfl (by decide) (gf := 133) (lb := #[.pointer (some ⟨b1, 0, none⟩), .pointer (some ⟨b2, 0, none⟩), .pointer (some ⟨b3, 0, none⟩)]) rfl trivial (enters_of Tryz.func133 (by kernel_rfl) rfl)
    hst kp_t (kp_b hS1) (Below.refl _ _) (fun _ => rfl)
    (fun pre W => (W.cell? ⟨w.heap.size, 0, none⟩ = some (.int .i64 (sumM pre : Nat)) ∧ W.frozen? ⟨w.heap.size, 0, none⟩ = false) ∧ Below w.heap.size w W)
    (fun _ _ _ => False)
    (OwnFrom.and (Own.from (fun s A B row hs hg hr => ⟨cell_kept hs.1 hg hr, (frozen_kept hs.1 hg hr).trans hs.2⟩) _) (ownFrom_below (Nat.le_refl _) (by omega)))
    (fun _ _ _ _ _ hs _ _ => hs)
    ⟨⟨hc0, hfz0⟩, hB1⟩
    (fun x => { tmps := #[.slice ao l.length ca, .int .i64 fr, .int .i64 m, undef, undef, undef, .int .i64 0, .int .i64 0, .int .i64 0, .pointer (some ⟨w.heap.size, 0, none⟩), undef, .int .i64 (min x.2 1000000000 : Nat), .slice ao l.length ca,
                .int .i64 fr, .int .i64 m, .int .i64 0, .int .i64 0, .bool false, undef, .slice ao l.length ca, .int .i64 fr, .int .i64 m, .func (.func 133) #[] #[.pointer (some ⟨b1, 0, none⟩), .pointer (some ⟨b2, 0, none⟩), .pointer (some ⟨b3, 0, none⟩)], .int .i64 (min x.1 1000000000 : Nat), .int .i64 (min x.2 1000000000 : Nat), undef, undef, undef, undef], defers := [] }) ?assign ?body ?done ?stop
  case assign =>
    intro l x W K hK
    simp only [encR]
    gi_wp2
    exact hK
  case body =>
    rintro l pre x W ⟨⟨hc, hf⟩, hB⟩ hlt
    have hsm := sumM_le pre
    have hsn := sumM_snoc pre x
    have hmin : min x.2 1000000000 ≤ 1000000000 := Nat.min_le_right _ _
    obtain ⟨y, hy⟩ : ∃ y, y = min x.2 1000000000 := ⟨_, rfl⟩
    obtain ⟨z, hz⟩ : ∃ z, z = min x.1 1000000000 := ⟨_, rfl⟩
    obtain ⟨t, ht⟩ : ∃ t, t = sumM pre := ⟨_, rfl⟩
    rw [← hy] at hsn hmin
    rw [← ht] at hsn hsm hc
    rw [← hy, ← hz]
    have HS : Hid (sumM (pre ++ [x]) = t + y) := hsn
    clear hsn hy hz ht
    gi_wp2
    exact ⟨KeepsOthers.setCell _ _ _, kp_set W ⟨w.heap.size, 0, none⟩ _ hS2, ⟨by rw [HS.out]; exact World.cell?_setCell_same' _ _ _ (by rw [hc]; rfl), by rw [World.frozen?_setCell]; exact hf⟩, hB.setCell (p := ⟨w.heap.size, 0, none⟩) (Nat.le_refl _) _⟩
  case done =>
    rintro D ys W hD rfl ⟨⟨hc, _⟩, hB⟩ hK
    have hsum : sumM (rf f m) = cn f m := (sumM_eq fun r hr => by have := rf_bound (f := f) (n := m) r hr; omega).trans (rf_sum f m)
    rw [hsum] at hc
    have HB : Hid (Keeps w (W.putObj D (.deferred none)) (fun _ => False)) := Keeps.below_none (hB.trans (belowK_b (w := w) (Nat.le_refl _) W D _ _ (by omega) hK rfl rfl))
    clear hsum hB
    gi_wp2
    refine ⟨by simp, .inl ⟨_, _, rfl, run_takeDeferred hK, ?_⟩⟩
    refine ⟨.tuple #[.int .i64 (cn f m : Nat), .int .i64 0], ?_, rfl, HB.out⟩
    simp [results, Tryz.f121, go_sem]
  case stop =>
    rintro D c pre W _ _ h _
    exact h.elim
end Go.Proofs.YtnmfnmofcgcnbaaGreatDoor.Bits
namespace Go.Proofs.YtnmfnmofcgcnbaaGreatDoor.Kit
open Go.RowKit Go.Shelf Go.Deep
open Go.Proofs.YtnmfnmofcgcnbaaGreatDoor.Kd (Ans AnsV cell5 cell2)
open Go.Proofs.YtnmfnmofcgcnbaaGreatDoor.Ink (OwnRow)
set_option linter.unusedVariables false
set_option linter.unusedSimpArgs false
attribute [local go_sem] run_store_func
theorem bt_gr {W u : World} (h : Bits.Tab W) (g : Gr W u) : Bits.Tab u := h.kept g id
theorem count_2 (v1 c1 : Nat) (W : World) (hT : Bits.Tab W) (hc0 : 1 ≤ c1) (hc1 : c1 ≤ 9223372036854775807) (hv : W.cell? ⟨v1, 0, none⟩ = some (.int .u8 1)) :
    Calls Tryz.prog 121 #[.slice (some ⟨v1, 0, none⟩) 1 c1, .int .i64 0, .int .i64 2] W fun e w' => e = .returned (.tuple #[.int .i64 1, .int .i64 0]) ∧ Gr W w' :=
  Bits.count_ok (some ⟨v1, 0, none⟩) c1 [1] (fun x hx => by simp at hx; omega) (by decide) hc0 hc1 0 2 (by decide) W hT (fun _ => ⟨v1, 0, rfl, fun k hk => by
    obtain rfl : k = 0 := by simp at hk; omega
    exact hv⟩)
theorem countNulls101 (qb bc : Nat) (W : World) (q r rc : Nat) (nu : Bool) (ao : Option Addr) (ca : Nat) (v1 c1 v2 c2 : Nat) (h : NdA W q r rc nu ao ca 2 1 v1 1 c1 v2 4 c2) (hT : Bits.Tab W) (hc0 : 1 ≤ c1) (hc1 : c1 ≤ 9223372036854775807) (hb : W.cell? ⟨qb, 0, none⟩ = some (.slice (some ⟨v1, 0, none⟩) 1 c1)) (hv : W.cell? ⟨v1, 0, none⟩ = some (.int .u8 1)) : Calls Tryz.prog 101 #[.pointer (some ⟨q, 0, none⟩), .agg (dC 2 1 (.slice (some ⟨qb, 0, none⟩) 2 bc))] W fun e w' => e = .returned (.int .i64 1) ∧ Gr W w' := by
  obtain ⟨A, hA⟩ : ∃ A, W.alloc (.cells (dC 2 1 (.slice (some ⟨qb, 0, none⟩) 2 bc)) 31) = A := ⟨_, rfl⟩
  have gA : Gr W A := by rw [← hA]; exact gr_alloc W _
  have hd : A.heap[W.heap.size]? = some (.cells (dC 2 1 (.slice (some ⟨qb, 0, none⟩) 2 bc)) 31) := by rw [← hA]; exact heap_alloc_new W _
  have hS : ∀ u, Gr A u → u.cell? ⟨W.heap.size, 0, none⟩ = some (.int .i64 2) ∧ u.cell? ⟨W.heap.size, 1, none⟩ = some (.int .i64 0) ∧ u.cell? ⟨W.heap.size, 3, none⟩ = some (.slice (some ⟨qb, 0, none⟩) 2 bc) ∧ u.cell? ⟨qb, 0, none⟩ = some (.slice (some ⟨v1, 0, none⟩) 1 c1) := fun u g => by
    obtain ⟨d0, d1, d2, d3, d4, d5⟩ := cell6 ((g.block _ (lt_of_heap hd) id).trans hd)
    exact ⟨d0, d1, d3, g.cell' (gA.cell' hb id) id⟩
  obtain ⟨d0, d1, d3, qb0⟩ := hS A (Keeps.refl _ _)
  have HM := hidM (masked97 q nu ao ca (2 : Nat) (1 : Nat) (.slice (some ⟨r, 0, none⟩) 2 rc) A (h.gr gA).nd)
  have HK := hidM (kind118 q nu ao ca (2 : Nat) (1 : Nat) (.slice (some ⟨r, 0, none⟩) 2 rc) A (h.gr gA).nd)
  have HC := hidM (count_2 v1 c1 A.drew (bt_gr hT gA.drew) hc0 hc1 (gA.drew.cell' hv id))
  have HS0 := hidM (hS A.drew gr_drew)
  have HSS := hidM hS
  have HG := hidM gA
  clear gA hd hS h hT hb hv
  unfold dC at hA ⊢
  go_enter Tryz.func101, Tryz.ntmps101
  go_wp2_with (first
    | (go_at_call 118; refine HK.out.mono ?_; rintro e w1 ⟨rfl, rfl⟩)
    | (go_at_call 97; refine HM.out.mono ?_; rintro e w1 ⟨rfl, rfl⟩))
  clear d0 d1 d3 qb0 hA
  go_region_held3 (fun u => u.cell? ⟨W.heap.size, 0, none⟩ = some (.int .i64 2) ∧ u.cell? ⟨W.heap.size, 1, none⟩ = some (.int .i64 0) ∧ u.cell? ⟨W.heap.size, 3, none⟩ = some (.slice (some ⟨qb, 0, none⟩) 2 bc) ∧ u.cell? ⟨qb, 0, none⟩ = some (.slice (some ⟨v1, 0, none⟩) 1 c1)) (first | with_reducible exact HS0.out | with_reducible exact HS1.out) ((go_at_call 121; refine HC.out.mono ?_; rintro e w2 ⟨rfl, g2⟩; have HG2 : Hid (Gr _ w2) := Keeps.trans gr_drew g2 (fun _ _ h => h); have HS1 := hidM (HSS.out w2 HG2.out); clear g2))
  obtain ⟨d0, d1, d3, qb0⟩ := HS1.out
  go_wp2_with fail
  go_ret
  exact ⟨rfl, HG.out.trans HG2.out (fun _ _ h => h)⟩
theorem wrongNulls69 (qb bc : Nat) (W : World) (q r rc : Nat) (nu : Bool) (ao : Option Addr) (ca : Nat) (v1 c1 v2 c2 : Nat) (hnu : nu = true) (h : NdA W q r rc nu ao ca 2 1 v1 1 c1 v2 4 c2) (hT : Bits.Tab W) (hc0 : 1 ≤ c1) (hc1 : c1 ≤ 9223372036854775807) (hb : W.cell? ⟨qb, 0, none⟩ = some (.slice (some ⟨v1, 0, none⟩) 1 c1)) (hv : W.cell? ⟨v1, 0, none⟩ = some (.int .u8 1)) : Calls Tryz.prog 69 #[.pointer (some ⟨q, 0, none⟩), .agg (dC 2 1 (.slice (some ⟨qb, 0, none⟩) 2 bc))] W fun e w' => e = .returned (.int .i64 0) ∧ Gr W w' := by
  subst hnu
  obtain ⟨A, hA⟩ : ∃ A, W.alloc (.cells (dC 2 1 (.slice (some ⟨qb, 0, none⟩) 2 bc)) 31) = A := ⟨_, rfl⟩
  have gA : Gr W A := by rw [← hA]; exact gr_alloc W _
  have hd : A.heap[W.heap.size]? = some (.cells (dC 2 1 (.slice (some ⟨qb, 0, none⟩) 2 bc)) 31) := by rw [← hA]; exact heap_alloc_new W _
  have hS : ∀ u, Gr A u → u.cell? ⟨q, 10, none⟩ = some (.int .i64 1) ∧ u.cell? ⟨q, 1, none⟩ = some (.bool true) ∧ u.cell? ⟨W.heap.size, 0, none⟩ = some (.int .i64 2) ∧ u.cell? ⟨W.heap.size, 1, none⟩ = some (.int .i64 0) ∧ u.cell? ⟨W.heap.size, 2, none⟩ = some (.int .i64 1) ∧ u.cell? ⟨W.heap.size, 3, none⟩ = some (.slice (some ⟨qb, 0, none⟩) 2 bc) ∧ u.cell? ⟨W.heap.size, 4, none⟩ = some (.slice none 0 0) ∧ u.cell? ⟨W.heap.size, 5, none⟩ = some (.slice none 0 0) := fun u g => by
    obtain ⟨d0, d1, d2, d3, d4, d5⟩ := cell6 ((g.block _ (lt_of_heap hd) id).trans hd)
    have hn := (h.gr (gA.trans g (fun _ _ h => h))).nd
    exact ⟨(cellN hn).2.2, by simp [World.cell?, hn, ndC], d0, d1, d2, d3, d4, d5⟩
  have HC : Hid (Calls Tryz.prog 101 #[.pointer (some ⟨q, 0, none⟩), .agg #[.int .i64 2, .int .i64 0, .int .i64 1, .slice (some ⟨qb, 0, none⟩) 2 bc, .slice none 0 0, .slice none 0 0]] A.drew fun e w' => e = .returned (.int .i64 1) ∧ Gr A.drew w') := countNulls101 qb bc A.drew q r rc true ao ca v1 c1 v2 c2 (h.gr gA.drew) (bt_gr hT gA.drew) hc0 hc1 (gA.drew.cell' hb id) (gA.drew.cell' hv id)
  have HS0 := hidM (hS A.drew gr_drew)
  have HGd : Hid (Gr A A.drew) := gr_drew
  have HSS := hidM hS
  have HG := hidM gA
  clear gA hd hS h hT hb hv
  unfold dC at hA ⊢
  go_enter Tryz.func69, Tryz.ntmps69
  go_wp2_with fail
  clear hA
  refine wp_region_held_drew (S := fun w' => w'.cell? ⟨q, 10, none⟩ = some (.int .i64 1) ∧ w'.cell? ⟨q, 1, none⟩ = some (.bool true) ∧ w'.cell? ⟨W.heap.size, 0, none⟩ = some (.int .i64 2) ∧ w'.cell? ⟨W.heap.size, 1, none⟩ = some (.int .i64 0) ∧ w'.cell? ⟨W.heap.size, 2, none⟩ = some (.int .i64 1) ∧ w'.cell? ⟨W.heap.size, 3, none⟩ = some (.slice (some ⟨qb, 0, none⟩) 2 bc) ∧ w'.cell? ⟨W.heap.size, 4, none⟩ = some (.slice none 0 0) ∧ w'.cell? ⟨W.heap.size, 5, none⟩ = some (.slice none 0 0)) (by kernel_rfl) (HS0.out) (fun hHeld => ?_)
  refine wpAnyH_take (i := 0) (oi := { dst := some 5, op := Op.move (Operand.tmp 0), type := 90, pos := "check.go:136", after := #[], guard := none }) (v := ?v0g1) rfl (by kernel_rfl) (by kernel_rfl) (by kernel_rfl) (fun _ _ _ h => h) (Or.inl ⟨by rfl, ?y0g1⟩) (by assumption) ?r0g1
  case y0g1 => (intro w hSw; obtain ⟨s0, s1, s2, s3, s4, s5, s6, s7⟩ := hSw; go_simp; (try with_reducible rfl))
  (try simp only [Act.put]); (try simp only [List.setIfInBounds_toArray]); (try simp only [List.set_cons_succ]); (try simp only [List.set_cons_zero])
  refine wpAnyH_take (i := 1) (oi := { dst := some 6, op := Op.nilCheck (Operand.tmp 5), type := 0, pos := "check.go:136", after := #[{ on := 0, ground := Ground.data }], guard := none }) (v := ?v1g2) rfl (by kernel_rfl) (by kernel_rfl) (by kernel_rfl) (fun _ _ _ h => h) (Or.inl ⟨by rfl, ?y1g2⟩) (by assumption) ?r1g2
  case y1g2 => (intro w hSw; obtain ⟨s0, s1, s2, s3, s4, s5, s6, s7⟩ := hSw; go_simp; (try with_reducible rfl))
  (try simp only [Act.put]); (try simp only [List.setIfInBounds_toArray]); (try simp only [List.set_cons_succ]); (try simp only [List.set_cons_zero])
  refine wpAnyH_take (i := 2) (oi := { dst := some 7, op := Op.fieldAddr 98 (Operand.tmp 6) 4, type := 0, pos := "check.go:136", after := #[{ on := 1, ground := Ground.data }], guard := none }) (v := ?v2g3) rfl (by kernel_rfl) (by kernel_rfl) (by kernel_rfl) (fun _ _ _ h => h) (Or.inl ⟨by rfl, ?y2g3⟩) (by assumption) ?r2g3
  case y2g3 => (intro w hSw; obtain ⟨s0, s1, s2, s3, s4, s5, s6, s7⟩ := hSw; go_simp; (try with_reducible rfl))
  (try simp only [Act.put]); (try simp only [List.setIfInBounds_toArray]); (try simp only [List.set_cons_succ]); (try simp only [List.set_cons_zero])
  refine wpAnyH_take (i := 3) (oi := { dst := some 8, op := Op.load 3 (Operand.tmp 7), type := 3, pos := "check.go:136", after := #[{ on := 2, ground := Ground.data }], guard := none }) (v := ?v3g4) rfl (by kernel_rfl) (by kernel_rfl) (by kernel_rfl) (fun _ _ _ h => h) (Or.inl ⟨by rfl, ?y3g4⟩) (by assumption) ?r3g4
  case y3g4 => (intro w hSw; obtain ⟨s0, s1, s2, s3, s4, s5, s6, s7⟩ := hSw; go_simp; (try with_reducible rfl))
  (try simp only [Act.put]); (try simp only [List.setIfInBounds_toArray]); (try simp only [List.set_cons_succ]); (try simp only [List.set_cons_zero])
  refine wpAnyH_take (i := 4) (oi := { dst := some 9, op := Op.move (Operand.tmp 0), type := 90, pos := "check.go:136", after := #[], guard := none }) (v := ?v4g5) rfl (by kernel_rfl) (by kernel_rfl) (by kernel_rfl) (fun _ _ _ h => h) (Or.inl ⟨by rfl, ?y4g5⟩) (by assumption) ?r4g5
  case y4g5 => (intro w hSw; obtain ⟨s0, s1, s2, s3, s4, s5, s6, s7⟩ := hSw; go_simp; (try with_reducible rfl))
  (try simp only [Act.put]); (try simp only [List.setIfInBounds_toArray]); (try simp only [List.set_cons_succ]); (try simp only [List.set_cons_zero])
  refine wpAnyH_take (i := 5) (oi := { dst := some 10, op := Op.load 31 (Operand.tmp 3), type := 31, pos := "check.go:136", after := #[], guard := none }) (v := ?v5g6) rfl (by kernel_rfl) (by kernel_rfl) (by kernel_rfl) (fun _ _ _ h => h) (Or.inl ⟨by rfl, ?y5g6⟩) (by assumption) ?r5g6
  case y5g6 => (intro w hSw; obtain ⟨s0, s1, s2, s3, s4, s5, s6, s7⟩ := hSw; go_simp; (try with_reducible rfl))
  (try simp only [Act.put]); (try simp only [List.setIfInBounds_toArray]); (try simp only [List.set_cons_succ]); (try simp only [List.set_cons_zero])
  refine wpAnyH_ready (rs := [6]) (by kernel_rfl) (by simp) ?_
  refine AllReadyH.cons (o := { dst := some 11, op := Op.call { callee := Callee.value (Operand.func 101), args := #[Operand.tmp 9, Operand.tmp 10], argTypes := #[90, 31] }, type := 3, pos := "check.go:136", after := #[{ on := 4, ground := Ground.data }, { on := 5, ground := Ground.data }], guard := none }) rfl (fun Kc hK => ?_) AllReadyH.nil
  go_simp
  go_at_call 101
  refine Calls.mono (HC.out) ?_
  rintro e' w8 ⟨rfl, g8⟩; have HG8 := hidM (HGd.out.trans g8 (fun _ _ h => h)); have HS8 := hidM (HSS.out w8 HG8.out); clear g8
  go_wp2_with fail
  refine hK.out _ _ (HS8.out) (fun hHeld => ?_)
  clear hK Kc
  (try simp only [Act.put]); (try simp only [List.setIfInBounds_toArray]); (try simp only [List.set_cons_succ]); (try simp only [List.set_cons_zero])
  refine wpAnyH_take (i := 7) (oi := { dst := some 12, op := Op.binOp BinOp.neq 3 (Operand.tmp 8) (Operand.tmp 11) 3, type := 4, pos := "check.go:136", after := #[{ on := 3, ground := Ground.data }, { on := 6, ground := Ground.data }], guard := none }) (v := ?v7g7) rfl (by kernel_rfl) (by kernel_rfl) (by kernel_rfl) (fun _ _ _ h => h) (Or.inl ⟨by rfl, ?y7g7⟩) (by assumption) ?r7g7
  case y7g7 => (intro w hSw; obtain ⟨s0, s1, s2, s3, s4, s5, s6, s7⟩ := hSw; go_simp; (try with_reducible rfl))
  (try simp only [Act.put]); (try simp only [List.setIfInBounds_toArray]); (try simp only [List.set_cons_succ]); (try simp only [List.set_cons_zero])
  refine wpAnyH_take (i := 8) (oi := { dst := some 13, op := Op.move (Operand.tmp 12), type := 4, pos := "check.go:136", after := #[{ on := 7, ground := Ground.data }, { on := 6, ground := Ground.chain }], guard := none }) (v := ?v8g8) rfl (by kernel_rfl) (by kernel_rfl) (by kernel_rfl) (fun _ _ _ h => h) (Or.inl ⟨by rfl, ?y8g8⟩) (by assumption) ?r8g8
  case y8g8 => (intro w hSw; obtain ⟨s0, s1, s2, s3, s4, s5, s6, s7⟩ := hSw; go_simp; (try with_reducible rfl))
  (try simp only [Act.put]); (try simp only [List.setIfInBounds_toArray]); (try simp only [List.set_cons_succ]); (try simp only [List.set_cons_zero])
  refine wpAnyH_take (i := 9) (oi := { dst := some 14, op := Op.move (Operand.tmp 0), type := 90, pos := "check.go:136", after := #[{ on := 8, ground := Ground.guard }], guard := some (8, false) }) (v := ?v9g9) rfl (by kernel_rfl) (by kernel_rfl) (by kernel_rfl) (fun _ _ _ h => h) (Or.inl ⟨by rfl, ?y9g9⟩) (by assumption) ?r9g9
  case y9g9 => (intro w hSw; obtain ⟨s0, s1, s2, s3, s4, s5, s6, s7⟩ := hSw; go_simp; (try with_reducible rfl))
  (try simp only [Act.put]); (try simp only [List.setIfInBounds_toArray]); (try simp only [List.set_cons_succ]); (try simp only [List.set_cons_zero])
  refine wpAnyH_take (i := 10) (oi := { dst := some 15, op := Op.nilCheck (Operand.tmp 14), type := 0, pos := "check.go:136", after := #[{ on := 9, ground := Ground.data }, { on := 8, ground := Ground.guard }], guard := some (8, false) }) (v := ?v10g10) rfl (by kernel_rfl) (by kernel_rfl) (by kernel_rfl) (fun _ _ _ h => h) (Or.inl ⟨by rfl, ?y10g10⟩) (by assumption) ?r10g10
  case y10g10 => (intro w hSw; obtain ⟨s0, s1, s2, s3, s4, s5, s6, s7⟩ := hSw; go_simp; (try with_reducible rfl))
  (try simp only [Act.put]); (try simp only [List.setIfInBounds_toArray]); (try simp only [List.set_cons_succ]); (try simp only [List.set_cons_zero])
  refine wpAnyH_take (i := 11) (oi := { dst := some 16, op := Op.fieldAddr 98 (Operand.tmp 15) 4, type := 0, pos := "check.go:136", after := #[{ on := 10, ground := Ground.data }, { on := 8, ground := Ground.guard }], guard := some (8, false) }) (v := ?v11g11) rfl (by kernel_rfl) (by kernel_rfl) (by kernel_rfl) (fun _ _ _ h => h) (Or.inl ⟨by rfl, ?y11g11⟩) (by assumption) ?r11g11
  case y11g11 => (intro w hSw; obtain ⟨s0, s1, s2, s3, s4, s5, s6, s7⟩ := hSw; go_simp; (try with_reducible rfl))
  (try simp only [Act.put]); (try simp only [List.setIfInBounds_toArray]); (try simp only [List.set_cons_succ]); (try simp only [List.set_cons_zero])
  refine wpAnyH_take (i := 12) (oi := { dst := some 17, op := Op.load 3 (Operand.tmp 16), type := 3, pos := "check.go:136", after := #[{ on := 11, ground := Ground.data }, { on := 8, ground := Ground.guard }], guard := some (8, false) }) (v := ?v12g12) rfl (by kernel_rfl) (by kernel_rfl) (by kernel_rfl) (fun _ _ _ h => h) (Or.inl ⟨by rfl, ?y12g12⟩) (by assumption) ?r12g12
  case y12g12 => (intro w hSw; obtain ⟨s0, s1, s2, s3, s4, s5, s6, s7⟩ := hSw; go_simp; (try with_reducible rfl))
  (try simp only [Act.put]); (try simp only [List.setIfInBounds_toArray]); (try simp only [List.set_cons_succ]); (try simp only [List.set_cons_zero])
  refine wpAnyH_take (i := 13) (oi := { dst := some 18, op := Op.binOp BinOp.gtr 3 (Operand.tmp 17) (Operand.const (Value.int IntKind.i64 0)) 3, type := 4, pos := "check.go:136", after := #[{ on := 12, ground := Ground.data }, { on := 8, ground := Ground.guard }], guard := some (8, false) }) (v := ?v13g13) rfl (by kernel_rfl) (by kernel_rfl) (by kernel_rfl) (fun _ _ _ h => h) (Or.inl ⟨by rfl, ?y13g13⟩) (by assumption) ?r13g13
  case y13g13 => (intro w hSw; obtain ⟨s0, s1, s2, s3, s4, s5, s6, s7⟩ := hSw; go_simp; (try with_reducible rfl))
  (try simp only [Act.put]); (try simp only [List.setIfInBounds_toArray]); (try simp only [List.set_cons_succ]); (try simp only [List.set_cons_zero])
  refine wpAnyH_take (i := 14) (oi := { dst := some 19, op := Op.move (Operand.tmp 18), type := 4, pos := "check.go:136", after := #[{ on := 13, ground := Ground.data }, { on := 8, ground := Ground.chain }, { on := 8, ground := Ground.guard }], guard := some (8, false) }) (v := ?v14g14) rfl (by kernel_rfl) (by kernel_rfl) (by kernel_rfl) (fun _ _ _ h => h) (Or.inl ⟨by rfl, ?y14g14⟩) (by assumption) ?r14g14
  case y14g14 => (intro w hSw; obtain ⟨s0, s1, s2, s3, s4, s5, s6, s7⟩ := hSw; go_simp; (try with_reducible rfl))
  (try simp only [Act.put]); (try simp only [List.setIfInBounds_toArray]); (try simp only [List.set_cons_succ]); (try simp only [List.set_cons_zero])
  refine wpAnyH_take (i := 15) (oi := { dst := some 20, op := Op.move (Operand.tmp 0), type := 90, pos := "check.go:136", after := #[{ on := 14, ground := Ground.guard }], guard := some (14, true) }) (v := ?v15g15) rfl (by kernel_rfl) (by kernel_rfl) (by kernel_rfl) (fun _ _ _ h => h) (Or.inl ⟨by rfl, ?y15g15⟩) (by assumption) ?r15g15
  case y15g15 => (intro w hSw; obtain ⟨s0, s1, s2, s3, s4, s5, s6, s7⟩ := hSw; go_simp; (try with_reducible rfl))
  (try simp only [Act.put]); (try simp only [List.setIfInBounds_toArray]); (try simp only [List.set_cons_succ]); (try simp only [List.set_cons_zero])
  refine wpAnyH_take (i := 16) (oi := { dst := some 21, op := Op.nilCheck (Operand.tmp 20), type := 0, pos := "check.go:136", after := #[{ on := 15, ground := Ground.data }, { on := 14, ground := Ground.guard }], guard := some (14, true) }) (v := ?v16g16) rfl (by kernel_rfl) (by kernel_rfl) (by kernel_rfl) (fun _ _ _ h => h) (Or.inl ⟨by rfl, ?y16g16⟩) (by assumption) ?r16g16
  case y16g16 => (intro w hSw; obtain ⟨s0, s1, s2, s3, s4, s5, s6, s7⟩ := hSw; go_simp; (try with_reducible rfl))
  (try simp only [Act.put]); (try simp only [List.setIfInBounds_toArray]); (try simp only [List.set_cons_succ]); (try simp only [List.set_cons_zero])
  refine wpAnyH_take (i := 17) (oi := { dst := some 22, op := Op.fieldAddr 98 (Operand.tmp 21) 0, type := 0, pos := "check.go:136", after := #[{ on := 16, ground := Ground.data }, { on := 14, ground := Ground.guard }], guard := some (14, true) }) (v := ?v17g17) rfl (by kernel_rfl) (by kernel_rfl) (by kernel_rfl) (fun _ _ _ h => h) (Or.inl ⟨by rfl, ?y17g17⟩) (by assumption) ?r17g17
  case y17g17 => (intro w hSw; obtain ⟨s0, s1, s2, s3, s4, s5, s6, s7⟩ := hSw; go_simp; (try with_reducible rfl))
  (try simp only [Act.put]); (try simp only [List.setIfInBounds_toArray]); (try simp only [List.set_cons_succ]); (try simp only [List.set_cons_zero])
  refine wpAnyH_take (i := 18) (oi := { dst := some 23, op := Op.fieldAddr 27 (Operand.tmp 22) 1, type := 0, pos := "check.go:136", after := #[{ on := 17, ground := Ground.data }, { on := 14, ground := Ground.guard }], guard := some (14, true) }) (v := ?v18g18) rfl (by kernel_rfl) (by kernel_rfl) (by kernel_rfl) (fun _ _ _ h => h) (Or.inl ⟨by rfl, ?y18g18⟩) (by assumption) ?r18g18
  case y18g18 => (intro w hSw; obtain ⟨s0, s1, s2, s3, s4, s5, s6, s7⟩ := hSw; go_simp; (try with_reducible rfl))
  (try simp only [Act.put]); (try simp only [List.setIfInBounds_toArray]); (try simp only [List.set_cons_succ]); (try simp only [List.set_cons_zero])
  refine wpAnyH_take (i := 19) (oi := { dst := some 24, op := Op.load 4 (Operand.tmp 23), type := 4, pos := "check.go:136", after := #[{ on := 18, ground := Ground.data }, { on := 14, ground := Ground.guard }], guard := some (14, true) }) (v := ?v19g19) rfl (by kernel_rfl) (by kernel_rfl) (by kernel_rfl) (fun _ _ _ h => h) (Or.inl ⟨by rfl, ?y19g19⟩) (by assumption) ?r19g19
  case y19g19 => (intro w hSw; obtain ⟨s0, s1, s2, s3, s4, s5, s6, s7⟩ := hSw; go_simp; (try with_reducible rfl))
  (try simp only [Act.put]); (try simp only [List.setIfInBounds_toArray]); (try simp only [List.set_cons_succ]); (try simp only [List.set_cons_zero])
  refine wpAnyH_take (i := 20) (oi := { dst := some 25, op := Op.unOp UnOp.not 4 (Operand.tmp 24), type := 4, pos := "check.go:136", after := #[{ on := 19, ground := Ground.data }, { on := 14, ground := Ground.guard }], guard := some (14, true) }) (v := ?v20g20) rfl (by kernel_rfl) (by kernel_rfl) (by kernel_rfl) (fun _ _ _ h => h) (Or.inl ⟨by rfl, ?y20g20⟩) (by assumption) ?r20g20
  case y20g20 => (intro w hSw; obtain ⟨s0, s1, s2, s3, s4, s5, s6, s7⟩ := hSw; go_simp; (try with_reducible rfl))
  (try simp only [Act.put]); (try simp only [List.setIfInBounds_toArray]); (try simp only [List.set_cons_succ]); (try simp only [List.set_cons_zero])
  refine wpAnyH_take (i := 21) (oi := { dst := some 26, op := Op.pick (Operand.tmp 19) (Operand.tmp 25) (Operand.const (Value.bool false)), type := 4, pos := "check.go:136", after := #[{ on := 14, ground := Ground.data }, { on := 20, ground := Ground.data }, { on := 8, ground := Ground.guard }], guard := some (8, false) }) (v := ?v21g21) rfl (by kernel_rfl) (by kernel_rfl) (by kernel_rfl) (fun _ _ _ h => h) (Or.inl ⟨by rfl, ?y21g21⟩) (by assumption) ?r21g21
  case y21g21 => (intro w hSw; obtain ⟨s0, s1, s2, s3, s4, s5, s6, s7⟩ := hSw; go_simp; (try with_reducible rfl))
  (try simp only [Act.put]); (try simp only [List.setIfInBounds_toArray]); (try simp only [List.set_cons_succ]); (try simp only [List.set_cons_zero])
  refine wpAnyH_take (i := 22) (oi := { dst := some 27, op := Op.pick (Operand.tmp 13) (Operand.const (Value.bool true)) (Operand.tmp 26), type := 4, pos := "check.go:136", after := #[{ on := 8, ground := Ground.data }, { on := 21, ground := Ground.data }], guard := none }) (v := ?v22g22) rfl (by kernel_rfl) (by kernel_rfl) (by kernel_rfl) (fun _ _ _ h => h) (Or.inl ⟨by rfl, ?y22g22⟩) (by assumption) ?r22g22
  case y22g22 => (intro w hSw; obtain ⟨s0, s1, s2, s3, s4, s5, s6, s7⟩ := hSw; go_simp; (try with_reducible rfl))
  (try simp only [Act.put]); (try simp only [List.setIfInBounds_toArray]); (try simp only [List.set_cons_succ]); (try simp only [List.set_cons_zero])
  refine wpAnyH_done (by kernel_rfl) ?_ _
  go_wp2_with fail
  go_ret
  exact ⟨rfl, HG.out.trans HG8.out (fun _ _ h => h)⟩
theorem mk191 (w : World) : (Instr.makeSlice 191 (.int .i64 0) (.int .i64 0)).run Tryz.prog w = .ok (.slice (some ⟨w.heap.size, 0, none⟩) 0 0) (w.alloc (.cells #[] 48)) := by kernel_rfl
theorem mk48 (w : World) : (Instr.makeSlice 48 (.int .i64 2) (.int .i64 2)).run Tryz.prog w = .ok (.slice (some ⟨w.heap.size, 0, none⟩) 2 2) (w.alloc (.cells #[.int .i64 0, .int .i64 0] 3)) := by kernel_rfl
theorem parts70 (c : Value) (qb bc : Nat) (W : World) (q r rc : Nat) (nu : Bool) (ao : Option Addr) (ca : Nat) (v1 c1 v2 c2 : Nat) (h : NdA W q r rc nu ao ca 2 1 v1 1 c1 v2 4 c2) : Calls Tryz.prog 70 #[c, .pointer (some ⟨q, 0, none⟩), .agg (dC 2 1 (.slice (some ⟨qb, 0, none⟩) 2 bc))] W fun e w' => ∃ g, e = .returned (.slice (some ⟨g, 0, none⟩) 0 0) ∧ Gr W w' := by
  obtain ⟨A, hA⟩ : ∃ A, W.alloc (.cells (dC 2 1 (.slice (some ⟨qb, 0, none⟩) 2 bc)) 31) = A := ⟨_, rfl⟩
  have gA : Gr W A := by rw [← hA]; exact gr_alloc W _
  have hd : A.heap[W.heap.size]? = some (.cells (dC 2 1 (.slice (some ⟨qb, 0, none⟩) 2 bc)) 31) := by rw [← hA]; exact heap_alloc_new W _
  obtain ⟨c7, c9, c12⟩ := cellF (h.gr gA).nd
  obtain ⟨B, hB⟩ : ∃ B, A.alloc (.cells #[] 48) = B := ⟨_, rfl⟩
  have gB : Gr A B := by rw [← hB]; exact gr_alloc A _
  obtain ⟨d0, d1, d2, d3, d4, d5⟩ := cell6 ((gB.block _ (lt_of_heap hd) id).trans hd)
  have HC : Hid (Calls Tryz.prog 95 #[.agg #[.int .i64 2, .int .i64 0, .int .i64 1, .slice (some ⟨qb, 0, none⟩) 2 bc, .slice none 0 0, .slice none 0 0]] B fun e w' => ∃ uo uc, e = .returned (.slice uo 0 uc) ∧ Gr B w') := partData95 2 1 (.slice (some ⟨qb, 0, none⟩) 2 bc) B
  have HG := hidM (gA.trans gB (fun _ _ h => h))
  have hmk := mk191
  clear gA hd gB h
  unfold dC at hA ⊢
  go_enter Tryz.func70, Tryz.ntmps70
  go_wp2_with (go_at_call 95; refine HC.out.mono ?_; rintro e w2 ⟨uo, uc, rfl, g2⟩; have HG2 := hidM (HG.out.trans g2 (fun _ _ h => h)); clear g2)
  go_loopw [19] (fun i u => i = .int .i64 0 ∧ u = w2) (fun i _ => 0)
  case atStart => exact ⟨rfl, rfl⟩
  case round =>
    obtain ⟨rfl, rfl⟩ := hrel
    go_wp2_with fail
    go_ret
    exact ⟨_, rfl, HG2.out⟩
def wtK (k : Nat) : Array Value := if k = 0 then #[.int .i64 0, .int .i64 0] else if k = 1 then #[.int .i64 16, .int .i64 0] else #[.int .i64 16, .int .i64 16]
/-- what isOff and weight find while the weights are written -/
def WtI (W : World) (z k : Nat) (wr : World) : Prop := Keeps W wr (fun b => b = z) ∧ wr.heap[z]? = some (.cells (wtK k) 3)
theorem weights71 (l : Nat) (within : Value) (W : World) (q r rc : Nat) (nu : Bool) (ao : Option Addr) (ca : Nat) (v1 c1 v2 c2 : Nat) (h : NdA W q r rc nu ao ca 2 1 v1 1 c1 v2 4 c2) (hl : W.cell? ⟨l, 0, none⟩ = some (.pointer none)) (hc0 : 1 ≤ c1) (hv : W.cell? ⟨v1, 0, none⟩ = some (.int .u8 1)) : Calls Tryz.prog 71 #[.pointer (some ⟨l, 0, none⟩), .pointer (some ⟨q, 0, none⟩), within] W fun e w' => ∃ z, e = .returned (.slice (some ⟨z, 0, none⟩) 2 2) ∧ Gr W w' ∧ w'.cell? ⟨z, 0, none⟩ = some (.int .i64 16) ∧ w'.cell? ⟨z, 1, none⟩ = some (.int .i64 16) := by
  obtain ⟨z, hz⟩ : ∃ z, W.heap.size = z := ⟨_, rfl⟩
  obtain ⟨A, hA⟩ : ∃ A, W.alloc (.cells #[.int .i64 0, .int .i64 0] 3) = A := ⟨_, rfl⟩
  have gA : Gr W A := by rw [← hA]; exact gr_alloc W _
  have hb : A.heap[z]? = some (.cells (wtK 0) 3) := by rw [← hA, ← hz]; exact heap_alloc_new W _
  have nq : q ≠ z := by have := lt_of_heap h.nd; omega
  have nr : r ≠ z := by have := block_lt_of_cell h.r0; simp at this; omega
  have nl : l ≠ z := by have := block_lt_of_cell hl; simp at this; omega
  have nv : v1 ≠ z := by have := block_lt_of_cell hv; simp at this; omega
  have HI0 : Hid (WtI W z 0 A) := ⟨gA.mono fun _ _ h => h.elim, hb⟩
  have HN : Hid (∀ u, Keeps W u (fun b => b = z) → NdA u q r rc nu ao ca 2 1 v1 1 c1 v2 4 c2 ∧ u.cell? ⟨l, 0, none⟩ = some (.pointer none) ∧ u.cell? ⟨v1, 0, none⟩ = some (.int .u8 1)) := fun u g => ⟨h.kp g nq nr, g.cell' hl nl, g.cell' hv nv⟩
  have HZ := hidM hz
  obtain ⟨a8, a9, a10⟩ := cellN h.nd
  have hmk := mk48
  clear gA hb nq nr nl nv h hl hv
  go_enter Tryz.func71, Tryz.ntmps71
  go_wp2_with fail
  clear a8 a9 a10 hA hz
  go_loopw [17] (fun i wr => ∃ k : Nat, k ≤ 2 ∧ i = .int .i64 k ∧ Hid (WtI W z k wr)) (fun i _ => 2 - (intOf i).toNat)
  case atStart => exact ⟨0, by omega, rfl, HI0⟩
  case round =>
    clear HI0
    obtain ⟨k, hk, rfl, HI⟩ := hrel
    have hk3 : k = 0 ∨ k = 1 ∨ k = 2 := by omega
    rcases hk3 with rfl | rfl | rfl
    · obtain ⟨c7, c9, c12⟩ := cellF (HN.out wr HI.out.1).1.nd
      obtain ⟨U, hU⟩ : ∃ U, wr.setCell ⟨z, 0, none⟩ (.int .i64 16) = U := ⟨_, rfl⟩
      have hu : U.heap[z]? = some (.cells (wtK 1) 3) := by rw [← hU, heap_setCell_same wr z 0 _ _ _ HI.out.2]; rfl
      have hk1 : Keeps W U (fun b => b = z) := by rw [← hU]; exact HI.out.1.setCell (p := ⟨z, 0, none⟩) (fun _ => rfl) _
      have HO := hidM (isOff102_0 l U q r rc nu ao ca 2 1 v1 1 c1 v2 4 c2 (HN.out U hk1).1 (HN.out U hk1).2.1 (by decide) (by decide) hc0 (HN.out U hk1).2.2)
      have HT : Hid (∀ u, Gr U u → WtI W z 1 u) := fun u g => ⟨hk1.trans (g.mono fun _ _ h => h.elim) (fun _ _ h => h), (g.block z (lt_of_heap hu) id).trans hu⟩
      have w0 := cell2 HI.out.2
      have w00 := w0.1
      have f0 := frz HI.out.2 0
      have hmeth := method_weight
      clear w0 hu hk1 HI hmk
      go_wp2_with (first
        | (go_at_call 102; refine HO.out.mono ?_; rintro e w2 ⟨rfl, g2⟩; have HT2 := hidM (HT.out w2 g2); have HG2 := hidM g2; obtain ⟨c7, c9, c12⟩ := cellF (HN.out w2 HT2.out.1).1.nd; clear g2)
        | (go_at_call 310; refine (weight310 _ _ _ _ _).mono ?_; rintro e w3 ⟨rfl, g3⟩; have HT3 := hidM (HT.out w3 (HG2.out.trans g3 (fun _ _ h => h))); have w30 := (cell2 HT3.out.2).1; have f3 := frz HT3.out.2 0; have i3 := set_id (j := 0) (v := .int .i64 16) HT3.out.2 rfl; clear g3))
      go_roundw
      case rel => exact ⟨1, by omega, by go_num, HT3⟩
      case measure => simp [intOf]
    · obtain ⟨c7, c9, c12⟩ := cellF (HN.out wr HI.out.1).1.nd
      obtain ⟨U, hU⟩ : ∃ U, wr.setCell ⟨z, 1, none⟩ (.int .i64 16) = U := ⟨_, rfl⟩
      have hu : U.heap[z]? = some (.cells (wtK 2) 3) := by rw [← hU, heap_setCell_same wr z 1 _ _ _ HI.out.2]; rfl
      have hk1 : Keeps W U (fun b => b = z) := by rw [← hU]; exact HI.out.1.setCell (p := ⟨z, 1, none⟩) (fun _ => rfl) _
      have HO := hidM (isOff102_1 l U q r rc nu ao ca 2 1 v1 1 c1 v2 4 c2 (HN.out U hk1).1 (HN.out U hk1).2.1 (by decide) (by decide) hc0 (HN.out U hk1).2.2)
      have HT : Hid (∀ u, Gr U u → WtI W z 2 u) := fun u g => ⟨hk1.trans (g.mono fun _ _ h => h.elim) (fun _ _ h => h), (g.block z (lt_of_heap hu) id).trans hu⟩
      have w0 := cell2 HI.out.2
      have w01 := w0.2
      have f0 := frz HI.out.2 1
      clear w0 hu hk1 HI hmk
      go_wp2_with (go_at_call 102; refine HO.out.mono ?_; rintro e w2 ⟨rfl, g2⟩; have HT2 := hidM (HT.out w2 g2); clear g2)
      go_roundw
      case rel => exact ⟨2, by omega, by go_num, HT2⟩
      case measure => simp [intOf]
    · have HE : Hid (Gr W wr ∧ wr.cell? ⟨z, 0, none⟩ = some (.int .i64 16) ∧ wr.cell? ⟨z, 1, none⟩ = some (.int .i64 16)) := ⟨HI.out.1.mono fun j hj e => by have e' : j = z := e; have := HZ.out; omega, cell2 HI.out.2⟩
      clear HI hmk
      go_wp2_with fail
      go_ret
      exact ⟨z, rfl, HE.out⟩
end Go.Proofs.YtnmfnmofcgcnbaaGreatDoor.Kit
