import Derived.Test.YteppfammimbmcaaDoorQ
import Derived.Test.YteppfammimbmcaaDoorJ
namespace Go.Proofs.YteppfammimbmcaaDoor.Kit
open Go.RowKit Go.Shelf Go.Deep

attribute [local go_sem] Oper.semAt_some

theorem box_kept {W W' : World} {row : Option Nat} {B Bd : Nat} {t : TypeId} {v : Value} (h : Boxed W B t v) (hg : W.grownBy W' row) (hr : ∀ r, row = some r → Bd ≤ r ∧ ∃ o : Obj, W.heap[r]? = some o ∧ o.isCells = false) : Boxed W' B t v := by
  refine h.kept hg fun e => ?_
  obtain ⟨_, o, ho, hc⟩ := hr B e.symm
  rw [show W.heap[B]? = _ from h] at ho
  cases ho
  simp [Obj.isCells] at hc
theorem Keeps.three (w : World) (o1 o2 o3 : Obj) : Keeps w (((w.alloc o1).alloc o2).alloc o3) (fun _ => False) := (((Keeps.refl _ _).alloc _).alloc _).alloc _
set_option maxHeartbeats 1000000 in
theorem place_negk (ao : Option Addr) (n ca : Nat) (fr m k : Int) (h : k < 0) (w : World) :
    Calls Tryd.prog 31 #[.slice ao n ca, .int .i64 fr, .int .i64 m, .int .i64 k] w fun e w' => e = .returned (.tuple #[.int .i64 0, .int .i64 1]) ∧ Keeps w w' (fun _ => False) := by
  go_enter Tryd.func31, Tryd.ntmps31
  go_wp2
  refine bodyPost_ret (v := .tuple #[.int .i64 0, .int .i64 1]) ?_ rfl ?_
  · simp [results, Tryd.f31, go_sem]
  · exact ⟨rfl, Keeps.three w _ _ _⟩
set_option maxHeartbeats 1000000 in
theorem place_neg (ao : Option Addr) (n ca : Nat) (fr m k : Int) (hk : 0 ≤ k) (h : fr < 0 ∨ m < 0) (w : World) :
    Calls Tryd.prog 31 #[.slice ao n ca, .int .i64 fr, .int .i64 m, .int .i64 k] w fun e w' => e = .returned (.tuple #[.int .i64 0, .int .i64 1]) ∧ Keeps w w' (fun _ => False) := by
  go_enter Tryd.func31, Tryd.ntmps31
  go_wp2_with (go_at_call 44; refine (refused_neg ao n ca fr m _ h).mono ?_; rintro e w' ⟨rfl, rfl⟩)
  refine bodyPost_ret (v := .tuple #[.int .i64 0, .int .i64 1]) ?_ rfl ?_
  · simp [results, Tryd.f31, go_sem]
  · exact ⟨rfl, Keeps.three w _ _ _⟩
set_option maxHeartbeats 1000000 in
theorem place_range (ao : Option Addr) (n ca : Nat) (hn : n ≤ 1152921504606846975) (fr m : Nat) (k : Int) (hk : 0 ≤ k) (hfr : fr ≤ 9223372036854775807) (hm : m ≤ 9223372036854775807) (h : 8 * n < fr + m) (w : World) :
    Calls Tryd.prog 31 #[.slice ao n ca, .int .i64 fr, .int .i64 m, .int .i64 k] w fun e w' => e = .returned (.tuple #[.int .i64 0, .int .i64 2]) ∧ Keeps w w' (fun _ => False) := by
  go_enter Tryd.func31, Tryd.ntmps31
  go_wp2_with (go_at_call 44; refine (refused_range ao n ca hn fr m hfr hm h _).mono ?_; rintro e w' ⟨rfl, rfl⟩)
  refine bodyPost_ret (v := .tuple #[.int .i64 0, .int .i64 2]) ?_ rfl ?_
  · simp [results, Tryd.f31, go_sem]
  · exact ⟨rfl, Keeps.three w _ _ _⟩

theorem place_none {f : Nat → Bool} {k m : Nat} (hm : m ≤ 100000000) (h : sumM (rf f m) ≤ k) : placeOf f k m = .tuple #[.int .i64 0, .int .i64 2] := by
  have hsum : sumM (rf f m) = cn f m := (sumM_eq fun r hr => by have := rf_bound (f := f) (n := m) r hr; omega).trans (rf_sum f m)
  unfold placeOf
  rw [if_pos (pl_none (by omega))]
theorem place_found {f : Nat → Bool} {k m : Nat} {pre : List (Nat × Nat)} {x : Nat × Nat} (hm : m ≤ 100000000) (hp : pre ++ [x] <+: rf f m) (h1 : sumM pre ≤ k) (h2 : k < sumM pre + min x.2 1000000000) :
    placeOf f k m = .tuple #[.int .i64 ((min x.1 1000000000 + (k - sumM pre) : Nat) : Int), .int .i64 0] := by
  obtain ⟨a, b⟩ := x
  have hb : ∀ r ∈ pre ++ [(a, b)], r.1 + r.2 ≤ m := fun r hr => rf_bound r (hp.subset hr)
  have hs : sumM pre = runSum pre := sumM_eq fun r hr => by have := hb r (List.mem_append.2 (.inl hr)); omega
  have hab := hb (a, b) (by simp)
  simp only at hab h2
  rw [show min b 1000000000 = b by omega] at h2
  obtain ⟨g1, g2, g3⟩ := rf_place hp (k - sumM pre) (by omega)
  have e := pl_eq (k := k) g1 g2 (by rw [g3, hs]; omega)
  unfold placeOf
  rw [e, if_neg (by omega)]
  simp only
  rw [show min a 1000000000 = a by omega]

set_option maxRecDepth 100000 in
set_option maxHeartbeats 4000000 in
theorem place_ok (ao : Option Addr) (ca : Nat) (l : List Nat) (hl : Bytes l) (hn : l.length ≤ 10000000) (hca : l.length ≤ ca) (hcb : ca ≤ 9223372036854775807) (fr m k : Nat) (hk : k ≤ 9223372036854775807) (h : fr + m ≤ 8 * l.length) (w : World) (hT : Tab w) (hb : BytesAt w ao l) :
    Calls Tryd.prog 31 #[.slice ao l.length ca, .int .i64 fr, .int .i64 m, .int .i64 k] w fun e w' => e = .returned (placeOf (fun k => bitAt l (fr + k)) k m) ∧ Keeps w w' (fun _ => False) := by
  have hRun : Hid (∀ W, Keeps w W (fun _ => False) → Calls Tryd.prog 17 #[.slice ao l.length ca, .int .i64 fr, .int .i64 m] W fun e w' => ∃ v, e = .returned v ∧ Iter W w' v (fun k => bitAt l (fr + k)) m) :=
    fun W k => runs_ok ao ca l hl hn hca hcb fr m h W (hT.kept k id) (hb.kept0 k)
  have HT : Hid (Tab w) := hT
  obtain ⟨f, HF⟩ : ∃ f : Nat → Bool, f = fun k => bitAt l (fr + k) := ⟨_, rfl⟩
  rw [← HF] at hRun ⊢
  clear HF hT hb
  refine (callsIn_wide (n := 6)).1 ?_
  refine callsIn_of_wp_marks Tryd.func31 rfl trivial ?_ rfl
  simp only [Tryd.ntmps31, List.size_toArray, List.length_cons, List.length_nil, Nat.reduceAdd, Nat.reduceSub, Array.replicate_succ, Array.replicate_zero, List.push_toArray, List.append_toArray, List.nil_append, List.cons_append]
  gi_wp2_with (refine ⟨trivial, ?_⟩; gi_at_call 44; refine (callsIn_wide.2 (refused_ok ao l.length ca (by omega) fr m h _)).mono ?_; rintro e w' ⟨rfl, rfl⟩)
  refine ⟨trivial, ?_⟩
  gi_at_call 17
  refine (callsIn_wide.2 (hRun.out _ (Keeps.three w _ _ _))).mono ?_
  rintro e w1 ⟨v, rfl, b1, b2, b3, ao1, ca1, kl, first, rfl, hkl, hkn, hke, hH, hf, hK, hS⟩
  have h0w : 0 < w.heap.size := block_lt_of_cell (HT.out 0 (by decide))
  have hsz : w.heap.size + 1 + 1 + 1 ≤ w1.heap.size := by have := hK.size; simpa using this
  have hS1 : ∀ b, HeldS b1 b2 b3 ao1 b → b < w1.heap.size := fun b hb => by rcases hS b hb with e | e <;> omega
  have hS2 : ∀ j, j < 3 → ¬ HeldS b1 b2 b3 ao1 (w.heap.size + j) := fun j hj hb => by
    rcases hS _ hb with e | e
    · omega
    · have := e.1; simp at this; omega
  have hS20 := hS2 0 (by decide)
  have hS21 := hS2 1 (by decide)
  have hS22 := hS2 2 (by decide)
  have hx0 : Boxed w1 w.heap.size 3 (.int .i64 k) := (hK.block _ (by simp; omega) id).trans (((Boxed.new w 3 (.int .i64 k)).alloc _).alloc _)
  have hx1 : Boxed w1 (w.heap.size + 1) 3 (.int .i64 0) := (hK.block _ (by simp) id).trans (by have := (Boxed.new (w.alloc (.cells #[.int .i64 k] 3)) 3 (.int .i64 0)).alloc (.cells #[.int .i64 0] 23); rw [World.size_alloc] at this; exact this)
  have hx2 : Boxed w1 (w.heap.size + 1 + 1) 23 (.int .i64 0) := (hK.block _ (by simp) id).trans (by have := Boxed.new ((w.alloc (.cells #[.int .i64 k] 3)).alloc (.cells #[.int .i64 0] 3)) 23 (.int .i64 0); rw [World.size_alloc, World.size_alloc] at this; exact this)
  have hB1 : Below w.heap.size w w1 := ((Keeps.three w _ _ _).below' (Nat.le_refl _)).trans (hK.below' (by simp; omega))
  have hrf : rf (fun k => bitAt kl (first + k)) m = rf f m := rf_congr hf
  have hst := runs_stops (6 - 1) (by decide) b1 b2 b3 ao1 ca1 kl hkl hkn first m hke w1 hH
  rw [hrf] at hst
  have hlm := rf_len_le f m
  have hm8 : m ≤ 100000000 := by omega
  clear hRun hkl hkn hke hH hf hK hS hrf hS2
  gi_wp2
  refine wpIn_rangeFunc_ownF rfl (by decide) (gf := 47) (lb := #[.pointer (some ⟨b1, 0, none⟩), .pointer (some ⟨b2, 0, none⟩), .pointer (some ⟨b3, 0, none⟩)]) rfl trivial (enters_of Tryd.func47 (by kernel_rfl) rfl)
    hst kp_t (kp_b hS1) (Below.refl _ _) (fun _ => rfl)
    (fun pre W => (sumM pre ≤ k ∧ Boxed W w.heap.size 3 (.int .i64 (k - sumM pre : Nat)) ∧ Boxed W (w.heap.size + 1) 3 (.int .i64 0) ∧ Boxed W (w.heap.size + 1 + 1) 23 (.int .i64 0)) ∧ Below w.heap.size w W)
    (fun c pre W => (c = .ret ∧ ∃ pre' x, pre = pre' ++ [x] ∧ sumM pre' ≤ k ∧ k < sumM pre' + min x.2 1000000000 ∧ Boxed W (w.heap.size + 1) 3 (.int .i64 ((min x.1 1000000000 + (k - sumM pre') : Nat) : Int)) ∧ Boxed W (w.heap.size + 1 + 1) 23 (.int .i64 0)) ∧ Below w.heap.size w W)
    (OwnFrom.and (fun s A B row hs hg hr => ⟨hs.1, box_kept hs.2.1 hg hr, box_kept hs.2.2.1 hg hr, box_kept hs.2.2.2 hg hr⟩) (ownFrom_below (Nat.le_refl _) (by omega)))
    (fun c => OwnFrom.and (fun s A B row hs hg hr => ⟨hs.1, by obtain ⟨_, p', x, h1, h2, h3, h4, h5⟩ := hs; exact ⟨p', x, h1, h2, h3, box_kept h4 hg hr, box_kept h5 hg hr⟩⟩) (ownFrom_below (Nat.le_refl _) (by omega)))
    ⟨⟨Nat.zero_le _, hx0, hx1, hx2⟩, hB1⟩
    (fun x => { tmps := #[.slice ao l.length ca, .int .i64 fr, .int .i64 m, .int .i64 k, undef, undef, undef, .pointer (some ⟨w.heap.size, 0, none⟩), .pointer (some ⟨w.heap.size + 1, 0, none⟩), .pointer (some ⟨w.heap.size + 1 + 1, 0, none⟩), .int .i64 0, .int .i64 (min x.1 1000000000 : Nat), .int .i64 (min x.2 1000000000 : Nat), .int .i64 k, .bool (decide ((k : Int) < 0)),
                .slice ao l.length ca, .int .i64 fr, .int .i64 m, .int .i64 0, .int .i64 0, .bool false, undef, .slice ao l.length ca, .int .i64 fr, .int .i64 m, .func (.func 47) #[] #[.pointer (some ⟨b1, 0, none⟩), .pointer (some ⟨b2, 0, none⟩), .pointer (some ⟨b3, 0, none⟩)], .int .i64 (min x.1 1000000000 : Nat), .int .i64 (min x.2 1000000000 : Nat), undef, undef, undef, undef, undef, undef, undef, undef, undef], defers := [] }) ?assign ?body ?done ?stop
  case assign =>
    intro l x W K hK
    simp only [encR]
    gi_wp2
    exact hK
  case body =>
    rintro l pre x W ⟨⟨hle, hx0, hx1, hx2⟩, hB⟩ hlt
    have hsn := sumM_snoc pre x
    have hmin : min x.2 1000000000 ≤ 1000000000 := Nat.min_le_right _ _
    have hmin1 : min x.1 1000000000 ≤ 1000000000 := Nat.min_le_right _ _
    obtain ⟨y, hy⟩ : ∃ y, y = min x.2 1000000000 := ⟨_, rfl⟩
    obtain ⟨z, hz⟩ : ∃ z, z = min x.1 1000000000 := ⟨_, rfl⟩
    obtain ⟨t, ht⟩ : ∃ t, t = sumM pre := ⟨_, rfl⟩
    rw [← hy] at hsn hmin
    rw [← hz] at hmin1
    rw [← ht] at hsn hle hx0
    rw [← hy, ← hz]
    have HS : Hid (sumM (pre ++ [x]) = t + y ∧ y = min x.2 1000000000 ∧ z = min x.1 1000000000 ∧ t = sumM pre) := ⟨hsn, hy, hz, ht⟩
    obtain ⟨r, hr⟩ : ∃ r, r = k - t := ⟨_, rfl⟩
    rw [← hr] at hx0
    have hrk : r ≤ 9223372036854775807 := by omega
    have hc0 := hx0.cell
    have hf0 := hx0.frozen
    have hc1 := hx1.cell
    have hf1 := hx1.frozen
    have hc2 := hx2.cell
    have hf2 := hx2.frozen
    by_cases hry : r < y
    · have HX : Hid (Boxed ((W.setCell ⟨w.heap.size + 1, 0, none⟩ (.int .i64 ((z : Int) + r))).setCell ⟨w.heap.size + 1 + 1, 0, none⟩ (.int .i64 0)) (w.heap.size + 1) 3 (.int .i64 ((z : Int) + r)) ∧ Boxed ((W.setCell ⟨w.heap.size + 1, 0, none⟩ (.int .i64 ((z : Int) + r))).setCell ⟨w.heap.size + 1 + 1, 0, none⟩ (.int .i64 0)) (w.heap.size + 1 + 1) 23 (.int .i64 0)) :=
        ⟨(Boxed.set _ hx1).other (by omega) _, Boxed.set _ (hx2.other (by omega) _)⟩
      have HB : Hid (Below w.heap.size w ((W.setCell ⟨w.heap.size + 1, 0, none⟩ (.int .i64 ((z : Int) + r))).setCell ⟨w.heap.size + 1 + 1, 0, none⟩ (.int .i64 0))) := (hB.setCell (p := ⟨w.heap.size + 1, 0, none⟩) (by simp) _).setCell (p := ⟨w.heap.size + 1 + 1, 0, none⟩) (by simp; omega) _
      have HR : Hid (r = k - t ∧ t ≤ k) := ⟨hr, hle⟩
      clear hsn hy hz ht hr hle hx0 hx1 hx2 hB
      gi_wp2
      exact ⟨(KeepsOthers.setCell _ _ _).trans (KeepsOthers.setCell _ _ _), ⟨rfl, pre, x, rfl, by rw [← HS.out.2.2.2]; exact HR.out.2, by rw [← HS.out.2.2.2, ← HS.out.2.1]; have := HR.out; omega, by rw [← HS.out.2.2.2, ← HS.out.2.2.1, ← HR.out.1]; exact HX.out.1, HX.out.2⟩, HB.out⟩
    · have HX : Hid (Boxed (W.setCell ⟨w.heap.size, 0, none⟩ (.int .i64 ((r : Int) - y))) w.heap.size 3 (.int .i64 ((r : Int) - y)) ∧ Boxed (W.setCell ⟨w.heap.size, 0, none⟩ (.int .i64 ((r : Int) - y))) (w.heap.size + 1) 3 (.int .i64 0) ∧ Boxed (W.setCell ⟨w.heap.size, 0, none⟩ (.int .i64 ((r : Int) - y))) (w.heap.size + 1 + 1) 23 (.int .i64 0)) :=
        ⟨Boxed.set _ hx0, hx1.other (by omega) _, hx2.other (by omega) _⟩
      have HB : Hid (Below w.heap.size w (W.setCell ⟨w.heap.size, 0, none⟩ (.int .i64 ((r : Int) - y)))) := hB.setCell (p := ⟨w.heap.size, 0, none⟩) (Nat.le_refl _) _
      have HR : Hid (((k - (t + y) : Nat) : Int) = (r : Int) - y ∧ t + y ≤ k) := ⟨by omega, by omega⟩
      clear hsn hy hz ht hr hle hx0 hx1 hx2 hB
      gi_wp2
      exact ⟨KeepsOthers.setCell _ _ _, kp_set W ⟨w.heap.size, 0, none⟩ _ hS20, ⟨by rw [HS.out.1]; exact HR.out.2, by rw [HS.out.1, HR.out.1]; exact HX.out.1, HX.out.2.1, HX.out.2.2⟩, HB.out⟩
  case done =>
    rintro D ys W hD rfl ⟨⟨hle, hx0, hx1, hx2⟩, hB⟩ hK
    have hpo := place_none hm8 hle
    have hDne1 : w.heap.size + 1 ≠ D := by omega
    have hDne2 : w.heap.size + 1 + 1 ≠ D := by omega
    have hc1 := hx1.cell
    have hf1 := hx1.frozen
    have hc2 := hx2.cell
    have hf2 := hx2.frozen
    obtain ⟨W2, hW2⟩ : ∃ W2, W2 = (W.setCell ⟨w.heap.size + 1, 0, none⟩ (.int .i64 0)).setCell ⟨w.heap.size + 1 + 1, 0, none⟩ (.int .i64 2) := ⟨_, rfl⟩
    have hK2 : W2.heap[D]? = some (.deferred (some [])) := by rw [hW2]; exact ((KeepsOthers.setCell _ _ _).trans (KeepsOthers.setCell _ _ _)).same D _ hK rfl
    have hB2 : Below w.heap.size w W2 := by rw [hW2]; exact (hB.setCell (p := ⟨w.heap.size + 1, 0, none⟩) (by simp) _).setCell (p := ⟨w.heap.size + 1 + 1, 0, none⟩) (by simp; omega) _
    have hy1 : Boxed W2 (w.heap.size + 1) 3 (.int .i64 0) := by rw [hW2]; exact (Boxed.set _ hx1).other (by omega) _
    have hy2 : Boxed W2 (w.heap.size + 1 + 1) 23 (.int .i64 2) := by rw [hW2]; exact Boxed.set _ (hx2.other (by omega) _)
    have HB : Hid (Keeps w (W2.putObj D (.deferred none)) (fun _ => False)) := Keeps.below_none (hB2.trans (belowK_b (w := w) (Nat.le_refl _) W2 D _ _ (by omega) hK2 rfl rfl))
    have hz1 := (hy1.kept (grownBy_putObj' _ D (.deferred none)) (fun e => hDne1 (by cases e; rfl))).cell
    have hz2 := (hy2.kept (grownBy_putObj' _ D (.deferred none)) (fun e => hDne2 (by cases e; rfl))).cell
    have HK2 : Hid (W2.heap[D]? = some (.deferred (some []))) := hK2
    have HW2 : Hid ((W.setCell ⟨w.heap.size + 1, 0, none⟩ (.int .i64 0)).setCell ⟨w.heap.size + 1 + 1, 0, none⟩ (.int .i64 2) = W2) := hW2.symm
    clear hB hx0 hx1 hx2 hK hW2 hy1 hy2 hB2 hle hK2
    gi_wp2
    rw [HW2.out]
    refine ⟨by simp, .inl ⟨_, _, rfl, run_takeDeferred HK2.out, ?_⟩⟩
    refine ⟨.tuple #[.int .i64 0, .int .i64 2], ?_, by rw [hpo], HB.out⟩
    simp [results, Tryd.f31, go_sem, hz1, hz2]
  case stop =>
    rintro D c pre W hD hpre ⟨⟨rfl, pre', x, rfl, h1, h2, hx1, hx2⟩, hB⟩ hK
    have hpo := place_found hm8 hpre h1 h2
    have hDne1 : w.heap.size + 1 ≠ D := by omega
    have hDne2 : w.heap.size + 1 + 1 ≠ D := by omega
    have hz1 := (hx1.kept (grownBy_putObj' _ D (.deferred none)) (fun e => hDne1 (by cases e; rfl))).cell
    have hz2 := (hx2.kept (grownBy_putObj' _ D (.deferred none)) (fun e => hDne2 (by cases e; rfl))).cell
    have HB : Hid (Keeps w (W.putObj D (.deferred none)) (fun _ => False)) := Keeps.below_none (hB.trans (belowK_b (w := w) (Nat.le_refl _) W D _ _ (by omega) hK rfl rfl))
    gi_wp2
    refine ⟨by simp, .inl ⟨_, _, rfl, run_takeDeferred hK, ?_⟩⟩
    refine ⟨_, ?_, by rw [hpo], HB.out⟩
    simp [results, Tryd.f31, go_sem, hz1, hz2]
end Go.Proofs.YteppfammimbmcaaDoor.Kit
