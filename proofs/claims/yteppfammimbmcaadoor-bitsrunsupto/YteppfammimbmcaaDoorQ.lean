import Derived.Test.YteppfammimbmcaaDoorP
namespace Go.Proofs.YteppfammimbmcaaDoor.Kit
open Go.RowKit Go.Shelf Go.Deep

attribute [local go_sem] Oper.semAt_some

theorem count_neg (ao : Option Addr) (n ca : Nat) (fr m : Int) (h : fr < 0 ∨ m < 0) (w : World) :
    Calls Tryd.prog 19 #[.slice ao n ca, .int .i64 fr, .int .i64 m] w fun e w' => e = .returned (.tuple #[.int .i64 0, .int .i64 1]) ∧ w = w' := by
  go_enter Tryd.func19, Tryd.ntmps19
  go_wp2_with (go_at_call 44; refine (refused_neg ao n ca fr m _ h).mono ?_; rintro e w' ⟨rfl, rfl⟩)
  go_ret2
  exact ⟨rfl, rfl⟩
theorem count_range (ao : Option Addr) (n ca : Nat) (hn : n ≤ 1152921504606846975) (fr m : Nat) (hfr : fr ≤ 9223372036854775807) (hm : m ≤ 9223372036854775807) (h : 8 * n < fr + m) (w : World) :
    Calls Tryd.prog 19 #[.slice ao n ca, .int .i64 fr, .int .i64 m] w fun e w' => e = .returned (.tuple #[.int .i64 0, .int .i64 2]) ∧ w = w' := by
  go_enter Tryd.func19, Tryd.ntmps19
  go_wp2_with (go_at_call 44; refine (refused_range ao n ca hn fr m hfr hm h _).mono ?_; rintro e w' ⟨rfl, rfl⟩)
  go_ret2
  exact ⟨rfl, rfl⟩

/-- the sum of lengths, as the loop reckons it -/
def sumM (l : List (Nat × Nat)) : Nat := (l.map fun x => min x.2 1000000000).sum
theorem sumM_snoc (l : List (Nat × Nat)) (x : Nat × Nat) : sumM (l ++ [x]) = sumM l + min x.2 1000000000 := by simp [sumM]
theorem sumM_le (l : List (Nat × Nat)) : sumM l ≤ l.length * 1000000000 := by
  induction l with
  | nil => simp [sumM]
  | cons a l ih => simp only [sumM, List.map_cons, List.sum_cons, List.length_cons] at ih ⊢; omega
theorem sumM_eq {l : List (Nat × Nat)} (h : ∀ r ∈ l, r.2 ≤ 1000000000) : sumM l = runSum l := by
  unfold sumM runSum
  congr 1
  apply List.map_congr_left
  intro r hr
  have := h r hr
  omega
theorem kp_t {S : Nat → Prop} {A B C : World} (h : KpOf S A B) (k : KpOf S B C) : KpOf S A C := fun b hb => (k b hb).trans (h b hb)
theorem kp_b {S : Nat → Prop} {B : Nat} (hS : ∀ b, S b → b < B) (W : World) (l : Nat) (o o' : Obj) (hl : B ≤ l) (_ : W.heap[l]? = some o) (_ : o.isCells = false) (_ : o.isWalk = false) : KpOf S W (W.putObj l o') :=
  fun b hb => World.putObj_heap_other (fun e => by have := hS b hb; omega)
theorem kp_set {S : Nat → Prop} (W : World) (p : Addr) (u : Value) (hp : ¬ S p.block) : KpOf S W (W.setCell p u) := fun b hb => heap_setCell_other W p b u (fun e => hp (e ▸ hb))
theorem Keeps.below_none {w w' : World} (h : Below w.heap.size w w') : Keeps w w' (fun _ => False) := ⟨h.os, h.tape, h.output, h.size, fun k hk _ => h.block k hk⟩
theorem Keeps.below' {w w' : World} (h : Keeps w w' (fun _ => False)) {B : Nat} (hB : B ≤ w.heap.size) : Below B w w' := h.below (fun _ _ h => h.elim) hB

set_option maxRecDepth 100000 in
set_option maxHeartbeats 2000000 in
theorem count_ok (ao : Option Addr) (ca : Nat) (l : List Nat) (hl : Bytes l) (hn : l.length ≤ 10000000) (hca : l.length ≤ ca) (hcb : ca ≤ 9223372036854775807) (fr m : Nat) (h : fr + m ≤ 8 * l.length) (w : World) (hT : Tab w) (hb : BytesAt w ao l) :
    Calls Tryd.prog 19 #[.slice ao l.length ca, .int .i64 fr, .int .i64 m] w fun e w' => e = .returned (.tuple #[.int .i64 (cn (fun k => bitAt l (fr + k)) m : Nat), .int .i64 0]) ∧ Keeps w w' (fun _ => False) := by
  have hRun : Hid (∀ W, Keeps w W (fun _ => False) → Calls Tryd.prog 17 #[.slice ao l.length ca, .int .i64 fr, .int .i64 m] W fun e w' => ∃ v, e = .returned v ∧ Iter W w' v (fun k => bitAt l (fr + k)) m) :=
    fun W k => runs_ok ao ca l hl hn hca hcb fr m h W (hT.kept k id) (hb.kept0 k)
  have HT : Hid (Tab w) := hT
  obtain ⟨f, HF⟩ : ∃ f : Nat → Bool, f = fun k => bitAt l (fr + k) := ⟨_, rfl⟩
  rw [← HF] at hRun ⊢
  clear HF hT hb
  refine (callsIn_wide (n := 6)).1 ?_
  refine callsIn_of_wp_marks Tryd.func19 rfl trivial ?_ rfl
  simp only [Tryd.ntmps19, List.size_toArray, List.length_cons, List.length_nil, Nat.reduceAdd, Nat.reduceSub, Array.replicate_succ, Array.replicate_zero, List.push_toArray, List.append_toArray, List.nil_append, List.cons_append]
  gi_wp2_with (refine ⟨trivial, ?_⟩; gi_at_call 44; refine (callsIn_wide.2 (refused_ok ao l.length ca (by omega) fr m h _)).mono ?_; rintro e w' ⟨rfl, rfl⟩)
  refine ⟨trivial, ?_⟩
  gi_at_call 17
  refine (callsIn_wide.2 (hRun.out _ (Keeps.none_alloc w _))).mono ?_
  rintro e w1 ⟨v, rfl, b1, b2, b3, ao1, ca1, kl, first, rfl, hkl, hkn, hke, hH, hf, hK, hS⟩
  have h0w : 0 < w.heap.size := block_lt_of_cell (HT.out 0 (by decide))
  have hsz : w.heap.size + 1 ≤ w1.heap.size := by have := hK.size; simpa using this
  have hS1 : ∀ b, HeldS b1 b2 b3 ao1 b → b < w1.heap.size := fun b hb => by rcases hS b hb with e | e <;> omega
  have hS2 : ¬ HeldS b1 b2 b3 ao1 w.heap.size := fun hb => by
    rcases hS _ hb with e | e
    · omega
    · have := e.1; simp at this; omega
  have hc0 := hK.cell' (cellNew w (.int .i64 0) 3).1 id
  have hfz0 : w1.frozen? ⟨w.heap.size, 0, none⟩ = false := by
    have := World.frozen?_of_block (a := ⟨w.heap.size, 0, none⟩) (hK.block w.heap.size (by simp) id)
    rw [this]; exact (cellNew w (.int .i64 0) 3).2
  have hB1 : Below w.heap.size w w1 := ((Below.refl _ w).alloc (Nat.le_refl _) _).trans (hK.below' (by simp))
  have hrf : rf (fun k => bitAt kl (first + k)) m = rf f m := rf_congr hf
  have hst := runs_stops (6 - 1) (by decide) b1 b2 b3 ao1 ca1 kl hkl hkn first m hke w1 hH
  rw [hrf] at hst
  have hlm := rf_len_le f m
  clear hRun hkl hkn hke hH hf hK hS hrf
  gi_wp2
  refine wpIn_rangeFunc_ownF rfl (by decide) (gf := 47) (lb := #[.pointer (some ⟨b1, 0, none⟩), .pointer (some ⟨b2, 0, none⟩), .pointer (some ⟨b3, 0, none⟩)]) rfl trivial (enters_of Tryd.func47 (by kernel_rfl) rfl)
    hst kp_t (kp_b hS1) (Below.refl _ _) (fun _ => rfl)
    (fun pre W => (W.cell? ⟨w.heap.size, 0, none⟩ = some (.int .i64 (sumM pre : Nat)) ∧ W.frozen? ⟨w.heap.size, 0, none⟩ = false) ∧ Below w.heap.size w W)
    (fun _ _ _ => False)
    (OwnFrom.and (Own.from (fun s A B row hs hg hr => ⟨cell_kept hs.1 hg hr, (frozen_kept hs.1 hg hr).trans hs.2⟩) _) (ownFrom_below (Nat.le_refl _) (by omega)))
    (fun _ _ _ _ _ hs _ _ => hs)
    ⟨⟨hc0, hfz0⟩, hB1⟩
    (fun x => { tmps := #[.slice ao l.length ca, .int .i64 fr, .int .i64 m, undef, undef, undef, .int .i64 0, .int .i64 0, .int .i64 0, .pointer (some ⟨w.heap.size, 0, none⟩), undef, .int .i64 (min x.2 1000000000 : Nat), .slice ao l.length ca,
                .int .i64 fr, .int .i64 m, .int .i64 0, .int .i64 0, .bool false, undef, .slice ao l.length ca, .int .i64 fr, .int .i64 m, .func (.func 47) #[] #[.pointer (some ⟨b1, 0, none⟩), .pointer (some ⟨b2, 0, none⟩), .pointer (some ⟨b3, 0, none⟩)], .int .i64 (min x.1 1000000000 : Nat), .int .i64 (min x.2 1000000000 : Nat), undef, undef, undef, undef], defers := [] }) ?assign ?body ?done ?stop
  case assign =>
    intro l x W K hK
    simp only [encR]
    gi_wp2
    exact hK
  case body =>
    rintro l pre x W ⟨⟨hc, hf⟩, hB⟩ hlt
    have hsm := sumM_le pre
    have hsn := sumM_snoc pre x
    have hmin : min x.2 1000000000 ≤ 1000000000 := Nat.min_le_right _ _
    obtain ⟨y, hy⟩ : ∃ y, y = min x.2 1000000000 := ⟨_, rfl⟩
    obtain ⟨z, hz⟩ : ∃ z, z = min x.1 1000000000 := ⟨_, rfl⟩
    obtain ⟨t, ht⟩ : ∃ t, t = sumM pre := ⟨_, rfl⟩
    rw [← hy] at hsn hmin
    rw [← ht] at hsn hsm hc
    rw [← hy, ← hz]
    have HS : Hid (sumM (pre ++ [x]) = t + y) := hsn
    clear hsn hy hz ht
    gi_wp2
    exact ⟨KeepsOthers.setCell _ _ _, kp_set W ⟨w.heap.size, 0, none⟩ _ hS2, ⟨by rw [HS.out]; exact World.cell?_setCell_same' _ _ _ (by rw [hc]; rfl), by rw [World.frozen?_setCell]; exact hf⟩, hB.setCell (p := ⟨w.heap.size, 0, none⟩) (Nat.le_refl _) _⟩
  case done =>
    rintro D ys W hD rfl ⟨⟨hc, _⟩, hB⟩ hK
    have hsum : sumM (rf f m) = cn f m := (sumM_eq fun r hr => by have := rf_bound (f := f) (n := m) r hr; omega).trans (rf_sum f m)
    rw [hsum] at hc
    have HB : Hid (Keeps w (W.putObj D (.deferred none)) (fun _ => False)) := Keeps.below_none (hB.trans (belowK_b (w := w) (Nat.le_refl _) W D _ _ (by omega) hK rfl rfl))
    clear hsum hB
    gi_wp2
    refine ⟨by simp, .inl ⟨_, _, rfl, run_takeDeferred hK, ?_⟩⟩
    refine ⟨.tuple #[.int .i64 (cn f m : Nat), .int .i64 0], ?_, rfl, HB.out⟩
    simp [results, Tryd.f19, go_sem]
  case stop =>
    rintro D c pre W _ _ h _
    exact h.elim
end Go.Proofs.YteppfammimbmcaaDoor.Kit
