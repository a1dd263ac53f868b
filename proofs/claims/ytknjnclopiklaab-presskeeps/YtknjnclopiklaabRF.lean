import Derived.Test.YtknjnclopiklaabQF
namespace Go.Proofs.Ytknjnclopiklaab.Kit
open Go.RowKit Go.Shelf Go.Deep
set_option linter.unusedVariables false
attribute [local go_sem] run_store_func

/-! ### the document's unpacking -/
theorem getD_drop (bs : List UInt8) (j k : Nat) : (bs.drop j).getD k 0 = bs.getD (j + k) 0 := by
  rw [List.getD_eq_getElem?_getD, List.getElem?_drop, List.getD_eq_getElem?_getD]
theorem drop_ne {bs : List UInt8} {j : Nat} (h : j < bs.length) : bs.drop j ≠ [] := fun e => by
  have : (bs.drop j).length = 0 := by rw [e]; rfl
  rw [List.length_drop] at this
  omega
theorem fl_size {how : Int} {bs : List UInt8} {j c : Nat} (hc : c = (bs.getD j 0).toNat) : (firstI how (bs.drop j)).size = sizeI how c (bs.length - j) := by
  rw [firstI_size, getD_drop, Nat.add_zero, ← hc, List.length_drop]
theorem fl_lit {how : Int} {bs : List UInt8} {j c : Nat} (hc : c = (bs.getD j 0).toNat) (hh : how = 1 ∨ how = 2) (h : c < 128) (hl : j + c + 2 ≤ bs.length) : firstI how (bs.drop j) = ⟨(bs.drop (j + 1)).take (c + 1), 0, 0, c + 2⟩ := by
  have hs : sizeI how c (bs.length - j) = c + 2 := by unfold sizeI; rw [if_neg (by omega), if_pos h]
  unfold firstI
  simp only [getD_drop, Nat.add_zero, ← hc, List.length_drop, hs, List.drop_drop]
  rw [if_neg (by omega), if_neg (by omega), if_pos h]
  simp
theorem fl_run {bs : List UInt8} {j c : Nat} (hc : c = (bs.getD j 0).toNat) (h : ¬ c < 128) (hl : j + 2 ≤ bs.length) : firstI 1 (bs.drop j) = ⟨[bs.getD (j + 1) 0], c - 126, 1, 2⟩ := by
  have hs : sizeI 1 c (bs.length - j) = 2 := by unfold sizeI; rw [if_neg (by omega), if_neg h, if_pos rfl]
  unfold firstI
  simp only [getD_drop, Nat.add_zero, ← hc, List.length_drop, hs, List.drop_drop]
  rw [if_neg (by omega), if_neg (by omega), if_neg h, if_pos trivial]
  have e : (bs.drop (j + 1)).take (2 - 1) = [bs.getD (j + 1) 0] := by
    rw [List.drop_eq_getElem_cons (show j + 1 < bs.length by omega), List.getD_eq_getElem?_getD, List.getElem?_eq_getElem (show j + 1 < bs.length by omega)]
    rfl
  rw [e]
theorem fl_ref {bs : List UInt8} {j c : Nat} (hc : c = (bs.getD j 0).toNat) (h : ¬ c < 128) (hl : j + 3 ≤ bs.length) : firstI 2 (bs.drop j) = ⟨[], c - 124, (bs.getD (j + 1) 0).toNat + (bs.getD (j + 2) 0).toNat * 256 + 1, 3⟩ := by
  have hs : sizeI 2 c (bs.length - j) = 3 := by unfold sizeI; rw [if_neg (by omega), if_neg h, if_neg (by omega)]
  unfold firstI
  simp only [getD_drop, Nat.add_zero, ← hc, List.length_drop, hs, List.drop_drop]
  rw [if_neg (by omega), if_neg (by omega), if_neg h, if_neg (by omega)]
theorem layBack_rep (x : UInt8) : ∀ (k : Nat) (out : List UInt8), layBack 1 k (out ++ [x]) = out ++ List.replicate (k + 1) x
  | 0, out => rfl
  | k + 1, out => by
    rw [layBack]
    have e : (out ++ [x]).getD ((out ++ [x]).length - 1) 0 = x := by
      rw [List.getD_eq_getElem?_getD]
      simp
    rw [e, layBack_rep x k (out ++ [x])]
    simp [List.replicate_succ]
theorem Byts.empty (w : World) : Byts w (w.alloc (.cells #[] 5)) (some ⟨w.heap.size, 0, none⟩) 0 0 [] := by
  refine ⟨⟨rfl, .inr ⟨w.heap.size, 0, #[], rfl, Nat.zero_le _, heap_alloc_new w _, by omega, by decide, rfl, ?_⟩⟩, gr_alloc _ _, fun g e => ?_⟩
  · rfl
  · have : w.heap.size = g := by simpa [Value.ownBlock] using e
    omega
/-- the error that is told -/
def layC (more : Int) (r : Int × List UInt8) : Int := if r.1 = 61 then more else r.1
set_option maxRecDepth 100000 in
set_option maxHeartbeats 2000000 in
theorem layR0 {w : World} {ao : Option Addr} {ca : Nat} {bs : List UInt8} (most : Nat) (more : Int) (h : BytesAt w ao bs) (hca : bs.length ≤ ca) (hl : bs.length ≤ 140737488355328) (hmost : most ≤ 65536) :
    Calls Try.prog 20 #[.int .i64 0, .slice ao bs.length ca, .int .i64 (most : Int), .int .i64 more] w fun e w' => ∃ vo vc n, e = .returned (.tuple #[.slice vo n vc, .int .i64 (layC more (unp 0 most bs.length [] bs))]) ∧ Byts w w' vo vc n (unp 0 most bs.length [] bs).2 := by
  obtain ⟨L, hL⟩ : ∃ L, L = bs.length := ⟨_, rfl⟩
  have HL := hidM hL
  have hsrc := src_all (ca := ca) (h.gr (gr_alloc w (.cells #[] 5)))
  rw [← hL] at hsrc hl ⊢
  have HSrc := hidM hsrc
  have hs : sizeI 0 (bs.getD 0 0).toNat bs.length = bs.length := by unfold sizeI; rw [if_pos rfl]
  have hf : bs ≠ [] → firstI 0 bs = ⟨bs, 0, 0, bs.length⟩ := fun _ => by
    unfold firstI
    simp only [hs]
    rw [if_neg (by omega), if_pos trivial]
  by_cases c : most < L
  · have cI : (most : Int) < (L : Int) := by omega
    have HU : Hid (unp 0 most L [] bs = (61, [])) := by
      have hne : bs ≠ [] := fun e => by rw [e] at hL; simp at hL; omega
      show _ = _
      exact unp_more hne (by omega) (by rw [hf hne]; simp) (by rw [hf hne]; simp) (by rw [hf hne]; simp; omega)
    clear h hca hL hsrc hs hf
    go_enter Try.func20, Try.ntmps20
    go_wp2_with fail
    refine bodyPost_ret (v := .tuple #[.slice none 0 0, .int .i64 more]) ?_ rfl ⟨none, 0, 0, by rw [HU.out]; rfl, by rw [HU.out]; exact Byts.nil _ _ (gr_alloc _ _)⟩
    simp [results, Try.f20, go_sem]
  · have cI : ¬ (most : Int) < (L : Int) := by omega
    have HU : Hid (unp 0 most L [] bs = (0, bs)) := by
      show _ = _
      by_cases hne : bs = []
      · rw [hne]; exact unp_done _ _ _ _
      · obtain ⟨f', e1, e2⟩ := unp_next (how := 0) (most := most) (f := L) (out := []) hne (by omega) (by rw [hf hne]; simp) (by rw [hf hne]; simp) (by rw [hf hne]; simp; omega)
        rw [e1, hf hne]
        simp only [List.drop_length]
        rw [unp_done]
        rfl
    clear h hca hL hsrc hs hf
    go_enter Try.func20, Try.ntmps20
    go_wp2_with (at_builtin; refine Hid.out ?_)
    unfold Hid
    have hB0 : Byts w (w.alloc (.cells #[] 5)) (some ⟨w.heap.size, 0, none⟩) 0 0 [] := Byts.empty w
    refine wpList_append_any _ rfl (.tmp 25) (.tmp 26) 22 22 rfl 5 (.int .u8 0) 1 Try.underlying22 info5 rfl _ 0 (bv []) rfl hB0.own _ L (bv bs) rfl HSrc.out (by omega) (by omega) ?_
    intro v' w1 hown hgrow hblk
    obtain ⟨vo2, vc2, rfl⟩ := own_form1 hown
    have HN := hidM (hB0.app (us := bs) rfl hown hgrow hblk).b
    clear hown hgrow hblk hB0
    go_wp2_with fail
    refine bodyPost_ret (v := .tuple #[.slice vo2 (0 + L) vc2, .int .i64 0]) ?_ rfl ⟨vo2, vc2, 0 + L, by rw [HU.out]; rfl, by rw [HU.out]; exact HN.out⟩
    simp [results, Try.f20, go_sem]

set_option maxRecDepth 100000 in
set_option maxHeartbeats 8000000 in
theorem layR1 {w : World} {ao : Option Addr} {ca : Nat} {bs : List UInt8} (most : Nat) (more : Int) (h : BytesAt w ao bs) (hca : bs.length ≤ ca) (hl : bs.length ≤ 140737488355328) (hmost : most ≤ 65536) :
    Calls Try.prog 20 #[.int .i64 1, .slice ao bs.length ca, .int .i64 (most : Int), .int .i64 more] w fun e w' => ∃ vo vc n, e = .returned (.tuple #[.slice vo n vc, .int .i64 (layC more (unp 1 most bs.length [] bs))]) ∧ Byts w w' vo vc n (unp 1 most bs.length [] bs).2 := by
  obtain ⟨N, hN⟩ : ∃ N, N = bs.length := ⟨_, rfl⟩
  have HN := hidM hN
  have HA := hidM h
  rw [← hN] at hca hl ⊢
  clear h hN
  go_enter Try.func20, Try.ntmps20
  go_wp2_with fail
  go_loopw [10, 11] (fun v p wr => ∃ (j n : Nat) (vo : Option Addr) (vc : Nat), j ≤ N ∧ n ≤ most ∧ p = .int .i64 (j : Int) ∧ v = .slice vo n vc ∧ Hid (∃ out f, Byts w wr vo vc n out ∧ unp 1 most f out (bs.drop j) = unp 1 most N [] bs ∧ N - j ≤ f)) (fun _ p _ => N - (intOf p).toNat)
  case atStart => exact ⟨0, 0, _, _, by omega, by omega, rfl, rfl, [], N, Byts.empty w, rfl, by omega⟩
  case round =>
    obtain ⟨j, n, vo, vc, hj, hn, rfl, rfl, HR⟩ := hrel
    obtain ⟨out, f, hb, hT, hf⟩ := HR.out
    have HB := hidM hb
    have hol := hb.len
    have HT := hidM hT
    have HF : Hid ((bs.drop j).length ≤ f) := by show _ ≤ _; rw [List.length_drop, ← HN.out]; exact hf
    clear hb hT HR hf
    by_cases c : j < N
    rotate_left
    · have cI : ¬ (j : Int) < (N : Int) := by omega
      have HU : Hid (unp 1 most N [] bs = (0, out)) := by
        show _ = _
        rw [← HT.out, List.drop_of_length_le (by rw [← HN.out]; omega)]
        exact unp_done _ _ _ _
      go_wp2_with fail
      refine bodyPost_ret (v := .tuple #[.slice vo n vc, .int .i64 0]) ?_ rfl ⟨vo, vc, n, by rw [HU.out]; rfl, by rw [HU.out]; exact HB.out⟩
      simp [results, Try.f20, go_sem]
    have cI : (j : Int) < (N : Int) := by omega
    have hj0 : (0 : Int) ≤ (j : Int) := by omega
    have HNe := hidM (drop_ne (bs := bs) (j := j) (by rw [← HN.out]; exact c))
    obtain ⟨b, o, hao, hcs⟩ := (HA.out.gr HB.out.gr).at (ne_nil (i := j) (by rw [← HN.out]; exact c))
    subst hao
    have HCs := hidM hcs
    have t0 := hcs j (by rw [← HN.out]; exact c)
    obtain ⟨cc, hcc⟩ : ∃ x, x = (bs.getD j 0).toNat := ⟨_, rfl⟩
    rw [← hcc] at t0
    have hcb : cc < 256 := by rw [hcc]; exact UInt8.toNat_lt _
    have HC := hidM hcc
    clear hcs hcc
    by_cases c1 : cc < 128
    · have c1I : (cc : Int) < 128 := by omega
      have hsz : sizeI 1 cc (bs.length - j) = cc + 2 := by unfold sizeI; rw [if_neg (by omega), if_pos c1]
      have HSz := hidM ((fl_size (how := 1) HC.out).trans hsz)
      clear hsz
      by_cases c2 : N < j + cc + 2
      · have c2I : (N : Int) < (j : Int) + 1 + (cc : Int) + 1 := by omega
        have HU : Hid (unp 1 most N [] bs = (60, [])) := by show _ = _; rw [← HT.out]; exact unp_cut HNe.out HF.out (by rw [HSz.out, List.length_drop, ← HN.out]; omega)
        go_wp2_with fail
        refine bodyPost_ret (v := .tuple #[.slice none 0 0, .int .i64 60]) ?_ rfl ⟨none, 0, 0, by rw [HU.out]; rfl, by rw [HU.out]; exact Byts.nil _ _ HB.out.gr⟩
        simp [results, Try.f20, go_sem]
      have c2I : ¬ (N : Int) < (j : Int) + 1 + (cc : Int) + 1 := by omega
      have HFi := hidM (fl_lit (how := 1) HC.out (by omega) c1 (by rw [← HN.out]; omega))
      have hbl : ((bs.drop (j + 1)).take (cc + 1)).length = cc + 1 := by have := HN.out; simp; omega
      have HBl := hidM hbl
      clear hbl
      by_cases c3 : most < n + cc + 1
      · have c3I : (most : Int) < (n : Int) + (cc : Int) + 1 := by omega
        have HU : Hid (unp 1 most N [] bs = (61, [])) := by show _ = _; rw [← HT.out]; exact unp_more HNe.out HF.out (by rw [HSz.out, List.length_drop, ← HN.out]; omega) (by rw [HFi.out]; simp) (by rw [HFi.out]; simp only [HBl.out, hol]; omega)
        go_wp2_with fail
        refine bodyPost_ret (v := .tuple #[.slice none 0 0, .int .i64 more]) ?_ rfl ⟨none, 0, 0, by rw [HU.out]; rfl, by rw [HU.out]; exact Byts.nil _ _ HB.out.gr⟩
        simp [results, Try.f20, go_sem]
      have c3I : ¬ (most : Int) < (n : Int) + (cc : Int) + 1 := by omega
      obtain ⟨f', hn1, hn2⟩ := unp_next (how := 1) (most := most) (f := f) (out := out) HNe.out HF.out (by rw [HSz.out, List.length_drop, ← HN.out]; omega) (by rw [HFi.out]; simp) (by rw [HFi.out]; simp only [HBl.out, hol]; omega)
      rw [HFi.out] at hn1 hn2
      have HN1 := hidM hn1
      have HN2 := hidM hn2
      clear hn1 hn2
      have hp1 : (0 : Int) ≤ (j : Int) + 1 := by omega
      have hp2 : (j : Int) + 1 ≤ (j : Int) + 1 + (cc : Int) + 1 := by omega
      have hp3 : (j : Int) + 1 + (cc : Int) + 1 ≤ (ca : Int) := by omega
      go_wp2_with (at_builtin; refine Hid.out ?_)
      unfold Hid
      rw [show j + 1 + cc - j = cc + 1 by omega]
      refine wpList_append_any _ rfl (.tmp 56) (.tmp 63) 22 22 rfl 5 (.int .u8 0) 1 Try.underlying22 info5 rfl _ n (bv out) rfl HB.out.own _ (cc + 1) (bv ((bs.drop (j + 1)).take (cc + 1))) rfl (src_part Try.underlying22 (by rw [← HN.out]; omega) HCs.out) (by omega) (by omega) ?_
      intro v' w2 hown hgrow hblk
      obtain ⟨vo3, vc3, rfl⟩ := own_form1 hown
      have HO3 := hidM (HB.out.app rfl hown hgrow hblk).b
      have HNx : Hid (∃ out f, Byts w w2 vo3 vc3 (n + (cc + 1)) out ∧ unp 1 most f out (bs.drop (j + cc + 2)) = unp 1 most N [] bs ∧ N - (j + cc + 2) ≤ f) := by
        refine ⟨_, f', HO3.out, ?_, ?_⟩
        · rw [← HT.out, HN1.out, List.drop_drop]; rfl
        · have := HN2.out; rw [List.drop_drop, List.length_drop, ← HN.out] at this; exact this
      clear hown hgrow hblk
      go_wp2_with fail
      go_roundw
      case rel => exact ⟨j + cc + 2, n + (cc + 1), vo3, vc3, by omega, by omega, by simp; omega, rfl, HNx.out⟩
      case measure => simp [intOf]; omega
    have c1I : ¬ (cc : Int) < 128 := by omega
    have hsz : sizeI 1 cc (bs.length - j) = 2 := by unfold sizeI; rw [if_neg (by omega), if_neg c1, if_pos rfl]
    have HSz := hidM ((fl_size (how := 1) HC.out).trans hsz)
    clear hsz
    by_cases c2 : N < j + 2
    · have c2I : (N : Int) < (j : Int) + 1 + 1 := by omega
      have HU : Hid (unp 1 most N [] bs = (60, [])) := by show _ = _; rw [← HT.out]; exact unp_cut HNe.out HF.out (by rw [HSz.out, List.length_drop, ← HN.out]; omega)
      go_wp2_with fail
      refine bodyPost_ret (v := .tuple #[.slice none 0 0, .int .i64 60]) ?_ rfl ⟨none, 0, 0, by rw [HU.out]; rfl, by rw [HU.out]; exact Byts.nil _ _ HB.out.gr⟩
      simp [results, Try.f20, go_sem]
    have c2I : ¬ (N : Int) < (j : Int) + 1 + 1 := by omega
    have HFi := hidM (fl_run HC.out c1 (by rw [← HN.out]; omega))
    obtain ⟨m, hm⟩ : ∃ m, m = cc - 125 := ⟨_, rfl⟩
    have hmI : (cc : Int) - 125 = (m : Int) := by omega
    by_cases c3 : most < n + m
    · have c3I : (most : Int) < (n : Int) + (m : Int) := by omega
      have HU : Hid (unp 1 most N [] bs = (61, [])) := by show _ = _; rw [← HT.out]; exact unp_more HNe.out HF.out (by rw [HSz.out, List.length_drop, ← HN.out]; omega) (by rw [HFi.out]; simp) (by rw [HFi.out]; simp only [hol, List.length_singleton]; omega)
      go_wp2_with fail
      refine bodyPost_ret (v := .tuple #[.slice none 0 0, .int .i64 more]) ?_ rfl ⟨none, 0, 0, by rw [HU.out]; rfl, by rw [HU.out]; exact Byts.nil _ _ HB.out.gr⟩
      simp [results, Try.f20, go_sem]
    have c3I : ¬ (most : Int) < (n : Int) + (m : Int) := by omega
    obtain ⟨f', hn1, hn2⟩ := unp_next (how := 1) (most := most) (f := f) (out := out) HNe.out HF.out (by rw [HSz.out, List.length_drop, ← HN.out]; omega) (by rw [HFi.out]; simp) (by rw [HFi.out]; simp only [hol, List.length_singleton]; omega)
    rw [HFi.out] at hn1 hn2
    have hly : layI ⟨[bs.getD (j + 1) 0], cc - 126, 1, 2⟩ out = out ++ List.replicate m (bs.getD (j + 1) 0) := by
      unfold layI
      show layBack 1 (cc - 126) (out ++ [bs.getD (j + 1) 0]) = _
      rw [layBack_rep, show cc - 126 + 1 = m by omega]
    rw [hly] at hn1
    have HN1 := hidM hn1
    have HN2 := hidM hn2
    have hx : ∃ x : Int, x = ((bs.getD (j + 1) 0).toNat : Int) := ⟨_, rfl⟩
    obtain ⟨x, hx⟩ := hx
    have HX := hidM hx
    have t1 : w.cell? ⟨b, o + (j + 1), none⟩ = some (.int .u8 x) := by
      obtain ⟨b', o', e', hc'⟩ := HA.out.at (ne_nil (i := j) (by rw [← HN.out]; exact c))
      cases e'
      rw [hx]
      exact hc' (j + 1) (by rw [← HN.out]; omega)
    clear hn1 hn2 hly hx t0
    have hp1 : (0 : Int) ≤ (j : Int) + 1 := by omega
    have hp2 : (j : Int) + 1 < (N : Int) := by omega
    have t0 := HCs.out j (by rw [← HN.out]; exact c)
    rw [← HC.out] at t0
    go_wp2_with fail
    clear t0
    go_loopw [10, 16] (fun v p wi => ∃ (i : Nat) (vo' : Option Addr) (vc' : Nat), i ≤ m ∧ p = .int .i64 (i : Int) ∧ v = .slice vo' (n + i) vc' ∧ Hid (Byts w wi vo' vc' (n + i) (out ++ List.replicate i (bs.getD (j + 1) 0)))) (fun _ p _ => m - (intOf p).toNat)
    case atStart => exact ⟨0, vo, vc, by omega, rfl, rfl, by show Byts _ _ _ _ _ _; simpa using HB.out⟩
    case round =>
      obtain ⟨i, vo', vc', hi, rfl, rfl, HI⟩ := hrel
      by_cases d : i < m
      · have dI : (i : Int) < (m : Int) := by omega
        have t2 := HI.out.gr.cell' t1 id
        have HV : Hid ([Value.int .u8 x] = bv [bs.getD (j + 1) 0]) := by
          show _ = _
          unfold bv
          simp only [List.map_cons, List.map_nil]
          rw [HX.out]
        go_wp2_with (at_builtin; refine Hid.out ?_)
        unfold Hid
        have hB1 := HI.out.gr' (gr_alloc wr (.cells #[.int .u8 x] 5))
        refine wpList_append_any _ rfl (.tmp 115) (.tmp 120) 22 22 rfl 5 (.int .u8 0) 1 Try.underlying22 info5 rfl _ (n + i) (bv (out ++ List.replicate i (bs.getD (j + 1) 0))) rfl hB1.own _ 1 [.int .u8 x] rfl (src_u8 wr [.int .u8 x] 1 rfl (by simp)) (by omega) (by omega) ?_
        intro v' w2 hown hgrow hblk
        obtain ⟨vo3, vc3, rfl⟩ := own_form1 hown
        have HO3 : Hid (Byts w w2 vo3 vc3 (n + (i + 1)) (out ++ List.replicate (i + 1) (bs.getD (j + 1) 0))) := by
          have := (hB1.app HV.out hown hgrow hblk).b
          rw [List.append_assoc, ← List.replicate_succ'] at this
          exact this
        rw [show n + i + 1 = n + (i + 1) by omega]
        clear hown hgrow hblk hB1 t2
        go_wp2_with fail
        go_roundw
        case rel => exact ⟨i + 1, vo3, vc3, by omega, by simp, rfl, HO3.out⟩
        case measure => simp [intOf]; omega
      · have dI : ¬ (i : Int) < (m : Int) := by omega
        obtain rfl : i = m := by omega
        have HNx : Hid (∃ out f, Byts w wr vo' vc' (n + i) out ∧ unp 1 most f out (bs.drop (j + 2)) = unp 1 most N [] bs ∧ N - (j + 2) ≤ f) := by
          refine ⟨_, f', HI.out, ?_, ?_⟩
          · rw [← HT.out, HN1.out, List.drop_drop]
          · have := HN2.out; rw [List.drop_drop, List.length_drop, ← HN.out] at this; exact this
        go_wp2_with fail
        go_roundw
        case rel => exact ⟨j + 2, n + i, vo', vc', by omega, by omega, by simp; omega, rfl, HNx.out⟩
        case measure => simp [intOf]; omega

set_option maxRecDepth 100000 in
set_option maxHeartbeats 8000000 in
theorem layR2 {w : World} {ao : Option Addr} {ca : Nat} {bs : List UInt8} (most : Nat) (more : Int) (h : BytesAt w ao bs) (hca : bs.length ≤ ca) (hl : bs.length ≤ 140737488355328) (hmost : most ≤ 65536) :
    Calls Try.prog 20 #[.int .i64 2, .slice ao bs.length ca, .int .i64 (most : Int), .int .i64 more] w fun e w' => ∃ vo vc n, e = .returned (.tuple #[.slice vo n vc, .int .i64 (layC more (unp 2 most bs.length [] bs))]) ∧ Byts w w' vo vc n (unp 2 most bs.length [] bs).2 := by
  obtain ⟨N, hN⟩ : ∃ N, N = bs.length := ⟨_, rfl⟩
  have HN := hidM hN
  have HA := hidM h
  rw [← hN] at hca hl ⊢
  clear h hN
  go_enter Try.func20, Try.ntmps20
  go_wp2_with fail
  go_loopw [10, 11] (fun v p wr => ∃ (j n : Nat) (vo : Option Addr) (vc : Nat), j ≤ N ∧ n ≤ most ∧ p = .int .i64 (j : Int) ∧ v = .slice vo n vc ∧ Hid (∃ out f, Byts w wr vo vc n out ∧ unp 2 most f out (bs.drop j) = unp 2 most N [] bs ∧ N - j ≤ f)) (fun _ p _ => N - (intOf p).toNat)
  case atStart => exact ⟨0, 0, _, _, by omega, by omega, rfl, rfl, [], N, Byts.empty w, rfl, by omega⟩
  case round =>
    obtain ⟨j, n, vo, vc, hj, hn, rfl, rfl, HR⟩ := hrel
    obtain ⟨out, f, hb, hT, hf⟩ := HR.out
    have HB := hidM hb
    have hol := hb.len
    have HT := hidM hT
    have HF : Hid ((bs.drop j).length ≤ f) := by show _ ≤ _; rw [List.length_drop, ← HN.out]; exact hf
    clear hb hT HR hf
    by_cases c : j < N
    rotate_left
    · have cI : ¬ (j : Int) < (N : Int) := by omega
      have HU : Hid (unp 2 most N [] bs = (0, out)) := by
        show _ = _
        rw [← HT.out, List.drop_of_length_le (by rw [← HN.out]; omega)]
        exact unp_done _ _ _ _
      go_wp2_with fail
      refine bodyPost_ret (v := .tuple #[.slice vo n vc, .int .i64 0]) ?_ rfl ⟨vo, vc, n, by rw [HU.out]; rfl, by rw [HU.out]; exact HB.out⟩
      simp [results, Try.f20, go_sem]
    have cI : (j : Int) < (N : Int) := by omega
    have hj0 : (0 : Int) ≤ (j : Int) := by omega
    have HNe := hidM (drop_ne (bs := bs) (j := j) (by rw [← HN.out]; exact c))
    obtain ⟨b, o, hao, hcs⟩ := (HA.out.gr HB.out.gr).at (ne_nil (i := j) (by rw [← HN.out]; exact c))
    subst hao
    have HCs := hidM hcs
    have t0 := hcs j (by rw [← HN.out]; exact c)
    obtain ⟨cc, hcc⟩ : ∃ x, x = (bs.getD j 0).toNat := ⟨_, rfl⟩
    rw [← hcc] at t0
    have hcb : cc < 256 := by rw [hcc]; exact UInt8.toNat_lt _
    have HC := hidM hcc
    clear hcs hcc
    by_cases c1 : cc < 128
    · have c1I : (cc : Int) < 128 := by omega
      have hsz : sizeI 2 cc (bs.length - j) = cc + 2 := by unfold sizeI; rw [if_neg (by omega), if_pos c1]
      have HSz := hidM ((fl_size (how := 2) HC.out).trans hsz)
      clear hsz
      by_cases c2 : N < j + cc + 2
      · have c2I : (N : Int) < (j : Int) + 1 + (cc : Int) + 1 := by omega
        have HU : Hid (unp 2 most N [] bs = (60, [])) := by show _ = _; rw [← HT.out]; exact unp_cut HNe.out HF.out (by rw [HSz.out, List.length_drop, ← HN.out]; omega)
        go_wp2_with fail
        refine bodyPost_ret (v := .tuple #[.slice none 0 0, .int .i64 60]) ?_ rfl ⟨none, 0, 0, by rw [HU.out]; rfl, by rw [HU.out]; exact Byts.nil _ _ HB.out.gr⟩
        simp [results, Try.f20, go_sem]
      have c2I : ¬ (N : Int) < (j : Int) + 1 + (cc : Int) + 1 := by omega
      have HFi := hidM (fl_lit (how := 2) HC.out (by omega) c1 (by rw [← HN.out]; omega))
      have hbl : ((bs.drop (j + 1)).take (cc + 1)).length = cc + 1 := by have := HN.out; simp; omega
      have HBl := hidM hbl
      clear hbl
      by_cases c3 : most < n + cc + 1
      · have c3I : (most : Int) < (n : Int) + (cc : Int) + 1 := by omega
        have HU : Hid (unp 2 most N [] bs = (61, [])) := by show _ = _; rw [← HT.out]; exact unp_more HNe.out HF.out (by rw [HSz.out, List.length_drop, ← HN.out]; omega) (by rw [HFi.out]; simp) (by rw [HFi.out]; simp only [HBl.out, hol]; omega)
        go_wp2_with fail
        refine bodyPost_ret (v := .tuple #[.slice none 0 0, .int .i64 more]) ?_ rfl ⟨none, 0, 0, by rw [HU.out]; rfl, by rw [HU.out]; exact Byts.nil _ _ HB.out.gr⟩
        simp [results, Try.f20, go_sem]
      have c3I : ¬ (most : Int) < (n : Int) + (cc : Int) + 1 := by omega
      obtain ⟨f', hn1, hn2⟩ := unp_next (how := 2) (most := most) (f := f) (out := out) HNe.out HF.out (by rw [HSz.out, List.length_drop, ← HN.out]; omega) (by rw [HFi.out]; simp) (by rw [HFi.out]; simp only [HBl.out, hol]; omega)
      rw [HFi.out] at hn1 hn2
      have HN1 := hidM hn1
      have HN2 := hidM hn2
      clear hn1 hn2
      have hp1 : (0 : Int) ≤ (j : Int) + 1 := by omega
      have hp2 : (j : Int) + 1 ≤ (j : Int) + 1 + (cc : Int) + 1 := by omega
      have hp3 : (j : Int) + 1 + (cc : Int) + 1 ≤ (ca : Int) := by omega
      go_wp2_with (at_builtin; refine Hid.out ?_)
      unfold Hid
      rw [show j + 1 + cc - j = cc + 1 by omega]
      refine wpList_append_any _ rfl (.tmp 56) (.tmp 63) 22 22 rfl 5 (.int .u8 0) 1 Try.underlying22 info5 rfl _ n (bv out) rfl HB.out.own _ (cc + 1) (bv ((bs.drop (j + 1)).take (cc + 1))) rfl (src_part Try.underlying22 (by rw [← HN.out]; omega) HCs.out) (by omega) (by omega) ?_
      intro v' w2 hown hgrow hblk
      obtain ⟨vo3, vc3, rfl⟩ := own_form1 hown
      have HO3 := hidM (HB.out.app rfl hown hgrow hblk).b
      have HNx : Hid (∃ out f, Byts w w2 vo3 vc3 (n + (cc + 1)) out ∧ unp 2 most f out (bs.drop (j + cc + 2)) = unp 2 most N [] bs ∧ N - (j + cc + 2) ≤ f) := by
        refine ⟨_, f', HO3.out, ?_, ?_⟩
        · rw [← HT.out, HN1.out, List.drop_drop]; rfl
        · have := HN2.out; rw [List.drop_drop, List.length_drop, ← HN.out] at this; exact this
      clear hown hgrow hblk
      go_wp2_with fail
      go_roundw
      case rel => exact ⟨j + cc + 2, n + (cc + 1), vo3, vc3, by omega, by omega, by simp; omega, rfl, HNx.out⟩
      case measure => simp [intOf]; omega
    have c1I : ¬ (cc : Int) < 128 := by omega
    have hsz : sizeI 2 cc (bs.length - j) = 3 := by unfold sizeI; rw [if_neg (by omega), if_neg c1, if_neg (by omega)]
    have HSz := hidM ((fl_size (how := 2) HC.out).trans hsz)
    clear hsz
    by_cases c2 : N < j + 3
    · have c2I : (N : Int) < (j : Int) + 1 + 2 := by omega
      have HU : Hid (unp 2 most N [] bs = (60, [])) := by show _ = _; rw [← HT.out]; exact unp_cut HNe.out HF.out (by rw [HSz.out, List.length_drop, ← HN.out]; omega)
      go_wp2_with fail
      refine bodyPost_ret (v := .tuple #[.slice none 0 0, .int .i64 60]) ?_ rfl ⟨none, 0, 0, by rw [HU.out]; rfl, by rw [HU.out]; exact Byts.nil _ _ HB.out.gr⟩
      simp [results, Try.f20, go_sem]
    have c2I : ¬ (N : Int) < (j : Int) + 1 + 2 := by omega
    have HFi := hidM (fl_ref HC.out c1 (by rw [← HN.out]; omega))
    have t1 := HCs.out (j + 1) (by rw [← HN.out]; omega)
    have t2 := HCs.out (j + 2) (by rw [← HN.out]; omega)
    obtain ⟨x1, hx1⟩ : ∃ x, x = (bs.getD (j + 1) 0).toNat := ⟨_, rfl⟩
    obtain ⟨x2, hx2⟩ : ∃ x, x = (bs.getD (j + 2) 0).toNat := ⟨_, rfl⟩
    have hb1 : x1 < 256 := by rw [hx1]; exact UInt8.toNat_lt _
    have hb2 : x2 < 256 := by rw [hx2]; exact UInt8.toNat_lt _
    rw [← hx1] at t1 HFi
    rw [← hx2] at t2 HFi
    obtain ⟨far, hfar⟩ : ∃ far, far = x1 + x2 * 256 + 1 := ⟨_, rfl⟩
    rw [← hfar] at HFi
    have hfI : (x1 : Int) + (x2 : Int) * 256 + 1 = (far : Int) := by omega
    have hfb : far ≤ 65536 := by omega
    obtain ⟨m, hm⟩ : ∃ m, m = cc - 124 := ⟨_, rfl⟩
    have hmI : (cc : Int) - 124 = (m : Int) := by omega
    rw [← hm] at HFi
    have hp1 : (0 : Int) ≤ (j : Int) + 1 := by omega
    have hp2 : (j : Int) + 1 < (N : Int) := by omega
    have hp3 : (0 : Int) ≤ (j : Int) + 1 + 1 := by omega
    have hp4 : (j : Int) + 1 + 1 < (N : Int) := by omega
    have hn11 : ((j : Int) + 1 + 1).toNat = j + 2 := by omega
    have hn10 : ((j : Int) + 1).toNat = j + 1 := by omega
    clear hx1 hx2 hfar hm
    by_cases c4 : n < far
    · have c4I : (n : Int) < (far : Int) := by omega
      have HU : Hid (unp 2 most N [] bs = (63, [])) := by show _ = _; rw [← HT.out]; exact unp_back HNe.out HF.out (by rw [HSz.out, List.length_drop, ← HN.out]; omega) (by rw [HFi.out]; simp only [hol, List.length_nil]; omega)
      go_wp2_with fail
      go_quiet (fail)
      go_wp2_with fail
      refine bodyPost_ret (v := .tuple #[.slice none 0 0, .int .i64 63]) ?_ rfl ⟨none, 0, 0, by rw [HU.out]; rfl, by rw [HU.out]; exact Byts.nil _ _ (HB.out.gr.drewN _)⟩
      simp [results, Try.f20, go_sem]
    have c4I : ¬ (n : Int) < (far : Int) := by omega
    by_cases c3 : most < n + m
    · have c3I : (most : Int) < (n : Int) + (m : Int) := by omega
      have HU : Hid (unp 2 most N [] bs = (61, [])) := by show _ = _; rw [← HT.out]; exact unp_more HNe.out HF.out (by rw [HSz.out, List.length_drop, ← HN.out]; omega) (by rw [HFi.out]; simp only [hol, List.length_nil]; omega) (by rw [HFi.out]; simp only [hol, List.length_nil]; omega)
      go_wp2_with fail
      go_quiet (fail)
      go_wp2_with fail
      refine bodyPost_ret (v := .tuple #[.slice none 0 0, .int .i64 more]) ?_ rfl ⟨none, 0, 0, by rw [HU.out]; rfl, by rw [HU.out]; exact Byts.nil _ _ (HB.out.gr.drewN _)⟩
      simp [results, Try.f20, go_sem]
    have c3I : ¬ (most : Int) < (n : Int) + (m : Int) := by omega
    obtain ⟨f', hn1, hn2⟩ := unp_next (how := 2) (most := most) (f := f) (out := out) HNe.out HF.out (by rw [HSz.out, List.length_drop, ← HN.out]; omega) (by rw [HFi.out]; simp only [hol, List.length_nil]; omega) (by rw [HFi.out]; simp only [hol, List.length_nil]; omega)
    rw [HFi.out] at hn1 hn2
    have hly : layI ⟨[], m, far, 3⟩ out = layBack far m out := by unfold layI; rw [List.append_nil]
    rw [hly] at hn1
    have HN1 := hidM hn1
    have HN2 := hidM hn2
    have hfp : 0 < far := by omega
    clear hn1 hn2 hly
    go_wp2_with fail
    go_quiet (fail)
    go_wp2_with fail
    clear t0 t1 t2
    have HBd := hidM (HB.out.gr' ((Keeps.refl wr _).drewN nq))
    go_loopw [10, 16] (fun v p wi => ∃ (i : Nat) (vo' : Option Addr) (vc' : Nat), i ≤ m ∧ p = .int .i64 (i : Int) ∧ v = .slice vo' (n + i) vc' ∧ Hid (Byts w wi vo' vc' (n + i) (layBack far i out))) (fun _ p _ => m - (intOf p).toNat)
    case atStart => exact ⟨0, vo, vc, by omega, rfl, rfl, HBd.out⟩
    case round =>
      obtain ⟨i, vo', vc', hi, rfl, rfl, HI⟩ := hrel
      by_cases d : i < m
      · have dI : (i : Int) < (m : Int) := by omega
        obtain ⟨K, hK⟩ : ∃ K, K = n + i := ⟨_, rfl⟩
        have hlen := HI.out.len
        obtain ⟨idx, hidx⟩ : ∃ idx, idx = K - far := ⟨_, rfl⟩
        have hidI : (K : Int) - (far : Int) = (idx : Int) := by omega
        obtain ⟨b2, ob2, hvo, hc2⟩ := HI.out.bytes.at (ne_nil (i := idx) (by omega))
        subst hvo
        have t3 := hc2 idx (by omega)
        obtain ⟨x, hx⟩ : ∃ x : Int, x = (((layBack far i out).getD idx 0).toNat : Int) := ⟨_, rfl⟩
        rw [← hx] at t3
        have HV : Hid ([Value.int .u8 x] = bv [(layBack far i out).getD ((layBack far i out).length - far) 0]) := by
          show _ = _
          rw [hlen, ← hK, ← hidx]
          unfold bv
          simp only [List.map_cons, List.map_nil]
          rw [← hx]
        have hidb : (idx : Int) < (K : Int) := by omega
        have hid0 : (0 : Int) ≤ (idx : Int) := by omega
        have HK := hidM hK
        have hKb : K ≤ 1000000 := by omega
        rw [← hK] at HI ⊢
        clear hc2 hx hlen hidx hK
        go_wp2_with (at_builtin; refine Hid.out ?_)
        unfold Hid
        have hB1 := HI.out.gr' (gr_alloc wr (.cells #[.int .u8 x] 5))
        refine wpList_append_any _ rfl (.tmp 122) (.tmp 130) 22 22 rfl 5 (.int .u8 0) 1 Try.underlying22 info5 rfl _ K (bv (layBack far i out)) rfl hB1.own _ 1 [.int .u8 x] rfl (src_u8 wr [.int .u8 x] 1 rfl (by simp)) (by omega) (by omega) ?_
        intro v' w2 hown hgrow hblk
        obtain ⟨vo3, vc3, rfl⟩ := own_form1 hown
        have HO3 : Hid (Byts w w2 vo3 vc3 (n + (i + 1)) (layBack far (i + 1) out)) := by
          have := (hB1.app HV.out hown hgrow hblk).b
          rw [layBack_succ, show n + (i + 1) = K + 1 by have := HK.out; omega]
          exact this
        have hK1 : K + 1 = n + (i + 1) := by have := HK.out; omega
        rw [hK1]
        clear hown hgrow hblk hB1 t3 hK1
        go_wp2_with fail
        go_roundw
        case rel => exact ⟨i + 1, vo3, vc3, by omega, by simp, rfl, HO3.out⟩
        case measure => simp [intOf]; omega
      · have dI : ¬ (i : Int) < (m : Int) := by omega
        obtain rfl : i = m := by omega
        have HNx : Hid (∃ out f, Byts w wr vo' vc' (n + i) out ∧ unp 2 most f out (bs.drop (j + 3)) = unp 2 most N [] bs ∧ N - (j + 3) ≤ f) := by
          refine ⟨_, f', HI.out, ?_, ?_⟩
          · rw [← HT.out, HN1.out, List.drop_drop]
          · have := HN2.out; rw [List.drop_drop, List.length_drop, ← HN.out] at this; exact this
        go_wp2_with fail
        go_roundw
        case rel => exact ⟨j + 3, n + i, vo', vc', by omega, by omega, by simp; omega, rfl, HNx.out⟩
        case measure => simp [intOf]; omega

end Go.Proofs.Ytknjnclopiklaab.Kit
