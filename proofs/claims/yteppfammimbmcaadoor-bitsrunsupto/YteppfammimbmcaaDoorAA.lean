import Derived.Test.YteppfammimbmcaaDoorY
namespace Go.Proofs.YteppfammimbmcaaDoor.Kit
open Go.RowKit Go.Deep
set_option linter.unusedVariables false

theorem numsOf_take (l : List (Nat × Nat)) (k : Nat) (h : k < l.length) : numsOf (l.take (k + 1)) = numsOf (l.take k) ++ [((l.getD k (0, 0)).1 : Int), ((l.getD k (0, 0)).2 : Int)] := by
  unfold numsOf
  rw [List.take_succ_eq_append_getElem h, List.flatMap_append]
  congr 1
  simp [h]
theorem numsOf_length (l : List (Nat × Nat)) : (numsOf l).length = 2 * l.length := by
  induction l with
  | nil => rfl
  | cons a l ih => simp [numsOf] at ih ⊢; omega
theorem KeepsOthers.alloc_drew (W : World) (o : Obj) : KeepsOthers W (W.alloc o).drew := (KeepsOthers.alloc W o).trans (KeepsOthers.drew _)
theorem own_alloc_drew' {w : World} {t s : Nat} {v : Value} {n : Nat} {xs : List Value} (h : w.ownsRow 0 t s v n xs) (o : Obj) : (w.alloc o).drew.ownsRow 0 t s v n xs := own_kept h (Keeps.none_alloc_drew w o) fun _ _ => id

set_option maxRecDepth 100000 in
set_option maxHeartbeats 4000000 in
theorem says10 (ao bo lo : Option Addr) (na ca nb cb nl cl : Nat) (a : List Nat) (fr n k : Int) (on : Bool) (hfr : i64 fr) (hn : i64 n) (w : World) (hA : MapAt w (.slice ao na ca) a) :
    Calls Tryd.prog 8 #[opV 10 ao bo lo na ca nb cb nl cl fr n k on] w fun e w' => ∃ rv, e = .returned rv ∧ RepAt w.heap.size w' rv { rep0 with nums := numsOf (runsV a fr n) } ∧ Keeps w w' (fun _ => False) := by
  have HC : Hid (∀ R, R = (room3 w 10 ao bo lo na ca nb cb nl cl fr n k on) → Calls Tryd.prog 16 #[.slice ao na ca, .int .i64 fr, .int .i64 n] R fun e w' => ∃ v', e = .returned v' ∧ NewS 2 R w' 50 v' (runsV a fr n).length (runCells (runsV a fr n))) := fun R hR => by subst hR; exact rruns_all _ a fr n hfr hn _ (hA.kept (room3_keeps w _ _ _ _ _ _ _ _ _ _ _ _ _ _))
  have hlen : (runsV a fr n).length ≤ 100000000 := by
    unfold runsV
    by_cases he : errOf a.length fr n = 0
    · rw [if_pos he]
      have h1 := hA.len
      have h2 := rf_len_le (fromL a fr) n.toNat
      unfold errOf at he
      split at he
      · omega
      · split at he
        · omega
        · have := hn.2; omega
    · rw [if_neg he]; simp
  have hbd : ∀ r ∈ runsV a fr n, r.1 ≤ 1000000000 ∧ r.2 ≤ 1000000000 := by
    unfold runsV
    by_cases he : errOf a.length fr n = 0
    · rw [if_pos he]
      intro r hr
      have h1 := hA.len
      have h2 := rf_bound (f := fromL a fr) (n := n.toNat) r hr
      unfold errOf at he
      split at he
      · omega
      · split at he
        · omega
        · have := hn.2; omega
    · rw [if_neg he]; simp
  obtain ⟨rs, hrs⟩ : ∃ rs, rs = runsV a fr n := ⟨_, rfl⟩
  rw [← hrs] at HC hlen hbd ⊢
  have HBD : Hid (∀ r ∈ rs, r.1 ≤ 1000000000 ∧ r.2 ≤ 1000000000) := hbd
  clear hA hrs hbd
  unfold opV
  go_enter Tryd.func8, Tryd.ntmps8
  go_wp2_with fail
  go_at_call 16
  refine (HC.out _ rfl).mono ?_
  rintro e w1 ⟨v', rfl, hN⟩
  have HA : Hid (After w w1) := After.mk' hN.2.2
  have hsz : w.heap.size + 3 ≤ w1.heap.size := by have := hN.2.2.size; rw [room3_size] at this; exact this
  obtain ⟨ao1, cap1, rfl⟩ := own_form hN.1
  have HO : Hid (w1.ownsRow 0 50 2 (.slice ao1 rs.length cap1) rs.length (runCells rs)) := hN.1
  have HG : Hid (∀ g, (Value.slice ao1 rs.length cap1).ownBlock = some g → w.heap.size + 3 ≤ g) := fun g hg => by have := hN.2.1 g hg; rw [room3_size] at this; exact this
  clear hN HC
  go_wp2
  go_loopw [5] (fun i wr => ∃ k : Nat, k ≤ rs.length ∧ i = .int .i64 k ∧ Hid (NumsAt wr (w.heap.size + 1 + 1) w1.heap.size (numsOf (rs.take k)) ∧ Keeps w1 wr (fun k => k = w.heap.size + 1 + 1))) (fun i _ => rs.length - (intOf i).toNat)
  case atStart => exact ⟨0, Nat.zero_le _, rfl, NumsAt.start HA.out.r2 _, Keeps.refl _ _⟩
  case round =>
    obtain ⟨k, hk, rfl, HN⟩ := hrel
    by_cases hlt : k < rs.length
    · obtain ⟨g, rfl⟩ : ∃ g, ao1 = some ⟨g, 0, none⟩ := by
        rcases HO.out.2 with ⟨e, h0⟩ | ⟨g, cap', cur, e, _⟩
        · omega
        · simp only [Value.slice.injEq, true_and] at e; exact ⟨g, e.1⟩
      have hg3 := HG.out g rfl
      have hget := runCells_get rs k hlt
      have hc0 : wr.cell? ⟨g, k * 2, none⟩ = some (.int .i64 (rs.getD k (0, 0)).1) := by
        have h1 := HO.out.cells (g := g) rfl (2 * k) _ hget.1
        rw [Addr.add_lit, Nat.zero_add, Nat.mul_comm] at h1
        exact HN.out.2.cell' h1 (by simp; omega)
      have hc1 : wr.cell? ⟨g, k * 2 + 1, none⟩ = some (.int .i64 (rs.getD k (0, 0)).2) := by
        have h1 := HO.out.cells (g := g) rfl (2 * k + 1) _ hget.2
        rw [Addr.add_lit, Nat.zero_add, Nat.mul_comm 2] at h1
        exact HN.out.2.cell' h1 (by simp; omega)
      have hb := HBD.out (rs.getD k (0, 0)) (by rw [List.getD_eq_getElem?_getD, List.getElem?_eq_getElem hlt]; exact List.getElem_mem hlt)
      have hsn := numsOf_take rs k hlt
      have hln : (numsOf (rs.take k)).length ≤ 1000000000 := by rw [numsOf_length, List.length_take]; omega
      have hcap : rs.length ≤ cap1 := by
        rcases HO.out.2 with ⟨e, h0⟩ | ⟨g', cap', cur, e, _, _, h1, _⟩
        · omega
        · simp only [Value.slice.injEq, true_and] at e; omega
      obtain ⟨ao3, cap3, hv, hown, hb3, hc5, hf5⟩ := HN.out.1.open
      obtain ⟨y, hy⟩ : ∃ y, y = (rs.getD k (0, 0)).2 := ⟨_, rfl⟩
      obtain ⟨z, hz⟩ : ∃ z, z = (rs.getD k (0, 0)).1 := ⟨_, rfl⟩
      obtain ⟨M, hM⟩ : ∃ M, M = numsOf (rs.take k) := ⟨_, rfl⟩
      rw [← hM] at hsn hln hv hown hb3 hc5
      rw [← hz] at hsn hc0
      rw [← hy] at hsn hc1
      have HSN : Hid (numsOf (rs.take (k + 1)) = M ++ [(z : Int), (y : Int)]) := hsn
      have HOM : Hid (wr.ownsRow 0 3 1 (.slice ao3 M.length cap3) M.length (cellsI M)) := hown
      have HV : Hid (wr.heap[w.heap.size + 1 + 1]? = some (.cells #[.int .i64 0, .int .i64 0, .bool false, .slice none 0 0, .slice none 0 0, .slice ao3 M.length cap3] 28 (0, 0))) := hv
      have HB3 : Hid (∀ g, (Value.slice ao3 M.length cap3).ownBlock = some g → w1.heap.size ≤ g) := hb3
      have HK : Hid (Keeps w1 wr (fun k => k = w.heap.size + 1 + 1)) := HN.out.2
      have hc5a : ∀ o, (wr.alloc o).cell? ⟨w.heap.size + 1 + 1, 5, none⟩ = some (.slice ao3 M.length cap3) := fun o => cellAlloc o hc5
      clear hsn hy hz hM hown hv hb3 HN hget hb HBD
      go_wp2
      go_region_law (refine step_append_any _ rfl (.tmp 142) (.tmp 153) 26 26 rfl 3 (.int .i64 0) 8 Tryd.underlying26 info3 rfl _ _ _ rfl (own_alloc_drew' HOM.out _) _ _ _ rfl (src_two_drew wr _ _) (by omega) (by omega) ?_; intro v' w2 hown' hgrow hblk; obtain ⟨ao4, cap4, rfl⟩ := own_form hown'; obtain ⟨c1, f1, hN2, hK2, hO2⟩ := NumsAt.appended (news := [(z : Int), (y : Int)]) (o := .cells #[] 3) HV.out HOM.out HB3.out HK.out.size _ (Keeps.none_alloc_drew wr _) (KeepsOthers.alloc_drew wr _) hown' (by simp) (by simp) hgrow hblk; have HP : Hid (NumsAt (w2.setCell ⟨w.heap.size + 1 + 1, 5, none⟩ (.slice ao4 (M.length + 2) cap4)) (w.heap.size + 1 + 1) w1.heap.size (numsOf (rs.take (k + 1))) ∧ Keeps w1 (w2.setCell ⟨w.heap.size + 1 + 1, 5, none⟩ (.slice ao4 (M.length + 2) cap4)) (fun k => k = w.heap.size + 1 + 1)) := (by rw [HSN.out]; exact ⟨hN2, HK.out.trans hK2 (fun j hj e => by rcases e with e | e; exact e; omega)⟩); clear hown' hgrow hblk hN2 hK2 hO2)
      all_goals (go_wp2; go_roundw)
      all_goals first | exact ⟨k + 1, by omega, by go_num, HP⟩ | (simp [intOf]; omega)
    · obtain rfl : k = rs.length := by omega
      have hN := HN.out.1
      rw [List.take_length] at hN
      have hZ : Zero6 wr (w.heap.size + 1) := (HN.out.2.block _ (by omega) (by omega)).trans HA.out.r1
      obtain ⟨ao3, cap3, hv, hown, hb3, hc5, hf5⟩ := hN.open
      obtain ⟨z10, z11, z12, z13, z14, z15⟩ := hZ.cells
      have f1 := hZ.frozen
      have y0 : wr.cell? ⟨w.heap.size + 1 + 1, 0, none⟩ = some (.int .i64 0) := by rw [cell_of_row wr _ 0 _ _ _ hv]; rfl
      have y1 : wr.cell? ⟨w.heap.size + 1 + 1, 1, none⟩ = some (.int .i64 0) := by rw [cell_of_row wr _ 1 _ _ _ hv]; rfl
      have y2 : wr.cell? ⟨w.heap.size + 1 + 1, 2, none⟩ = some (.bool false) := by rw [cell_of_row wr _ 2 _ _ _ hv]; rfl
      have y3 : wr.cell? ⟨w.heap.size + 1 + 1, 3, none⟩ = some (.slice none 0 0) := by rw [cell_of_row wr _ 3 _ _ _ hv]; rfl
      have y4 : wr.cell? ⟨w.heap.size + 1 + 1, 4, none⟩ = some (.slice none 0 0) := by rw [cell_of_row wr _ 4 _ _ _ hv]; rfl
      have HO3 : Hid (wr.ownsRow 0 3 1 (.slice ao3 (numsOf rs).length cap3) (numsOf rs).length (cellsI (numsOf rs))) := hown
      have HB3 : Hid (∀ g, (Value.slice ao3 (numsOf rs).length cap3).ownBlock = some g → w1.heap.size ≤ g) := hb3
      have HZ : Hid (Zero6 wr (w.heap.size + 1)) := hZ
      have HKK : Hid (Keeps w wr (fun _ => False)) := HA.out.keeps.trans HN.out.2 fun j hj e => by omega
      obtain ⟨nms, HNM⟩ : ∃ nms, nms = numsOf rs := ⟨_, rfl⟩
      have HNM' : Hid (numsOf rs = nms) := HNM.symm
      rw [← HNM] at HO3 HB3 hc5
      clear hN hZ hv hown hb3 HNM HN
      go_wp2
      refine bodyPost_ret (res6 resf8 (B := w.heap.size + 1) (by simp) (six HZ.out _ _ _ _ _ _)) rfl ?_
      rw [HNM'.out]
      exact ⟨_, rfl, rep_mk (r := { rep0 with nums := nms }) HKK.out (by repeat (first | with_reducible exact Keeps.refl _ _ | with_reducible refine Keeps.setCell ?_ (fun _ => by simp [S12]) _)) (own_nil _ _) (own_nil _ _) HO3.out (fun g hg => by have := HB3.out g (by simpa [Value.ownBlock] using hg); omega)⟩
end Go.Proofs.YteppfammimbmcaaDoor.Kit
