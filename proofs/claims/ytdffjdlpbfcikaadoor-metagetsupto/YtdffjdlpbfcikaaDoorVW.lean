import Derived.Test.YtdffjdlpbfcikaaDoorVJ
namespace Go.Proofs.YtdffjdlpbfcikaaDoor.Kit
open Go.RowKit Go.Shelf Go.Deep
set_option linter.unusedVariables false
attribute [local go_sem] run_store_func

/-! ### which heads may be: the program's way -/
set_option maxRecDepth 100000 in
set_option maxHeartbeats 1000000 in
theorem upT {n m : Int} (h : 0 ≤ n ∧ n ≤ m) (w : World) : Calls Tryd.prog 36 #[.int .i64 n, .int .i64 m] w fun e w' => e = .returned (.bool true) ∧ w' = w := by
  obtain ⟨h1, h2⟩ := h
  go_enter Tryd.func36, Tryd.ntmps36
  go_wp2_with fail
  go_ret
  exact ⟨rfl, rfl⟩
set_option maxRecDepth 100000 in
set_option maxHeartbeats 1000000 in
theorem upF {n m : Int} (h : ¬ (0 ≤ n ∧ n ≤ m)) (w : World) : Calls Tryd.prog 36 #[.int .i64 n, .int .i64 m] w fun e w' => e = .returned (.bool false) ∧ w' = w := by
  by_cases h1 : 0 ≤ n
  · have h2 : ¬ n ≤ m := fun e => h ⟨h1, e⟩
    clear h
    go_enter Tryd.func36, Tryd.ntmps36
    go_wp2_with fail
    go_ret
    exact ⟨rfl, rfl⟩
  · clear h
    go_enter Tryd.func36, Tryd.ntmps36
    go_wp2_with fail
    go_ret
    exact ⟨rfl, rfl⟩
set_option maxRecDepth 100000 in
set_option maxHeartbeats 1000000 in
theorem prT {n : Int} (h : 0 ≤ n ∧ n ≤ 2) (w : World) : Calls Tryd.prog 53 #[.int .i64 n] w fun e w' => e = .returned (.bool true) ∧ w' = w := by
  obtain rfl | rfl | rfl : n = 0 ∨ n = 1 ∨ n = 2 := by omega
  all_goals
    clear h
    go_enter Tryd.func53, Tryd.ntmps53
    go_wp2_with fail
    go_ret
    exact ⟨rfl, rfl⟩
set_option maxRecDepth 100000 in
set_option maxHeartbeats 1000000 in
theorem prF {n : Int} (h : ¬ (0 ≤ n ∧ n ≤ 2)) (w : World) : Calls Tryd.prog 53 #[.int .i64 n] w fun e w' => e = .returned (.bool false) ∧ w' = w := by
  have h0 : (n == 0) = false := beqF (by omega)
  have h1 : (n == 1) = false := beqF (by omega)
  have h2 : (n == 2) = false := beqF (by omega)
  clear h
  go_enter Tryd.func53, Tryd.ntmps53
  go_wp2_with fail
  go_ret
  exact ⟨rfl, rfl⟩

set_option maxRecDepth 100000 in
set_option maxHeartbeats 4000000 in
theorem saysNo_any {k di rows pr : Int} {dl : Bool} {fo no vo uo : Option Addr} {nf cf nn cn vc uc : Nat} {nds : List (Int × Int)} {sls : List (Int × Int × Int)} {w : World} (z : Bool) (hz : (di = 0 ∧ dl = false ∧ rows = 0 ∧ pr = 0 ∧ nds.length = 0 ∧ sls.length = 0) ↔ z = true) (hlv : nds.length ≤ 1000000000000) (hlu : sls.length ≤ 1000000000000) :
    Calls Tryd.prog 34 #[.agg #[.int .i64 k, .slice fo nf cf, .slice no nn cn, .int .i64 di, .bool dl, .int .i64 rows, .int .i64 pr, .slice vo nds.length vc, .slice uo sls.length uc]] w fun e w' => e = .returned (.bool z) ∧ Gr w w' := by
  have hbx := World.alloc_heap_new w (.cells #[.int .i64 k, .slice fo nf cf, .slice no nn cn, .int .i64 di, .bool dl, .int .i64 rows, .int .i64 pr, .slice vo nds.length vc, .slice uo sls.length uc] 30)
  obtain ⟨p0, p1, p2, p3, p4, p5, p6, p7, p8⟩ := ce9 hbx
  clear hbx
  have HNo : Hid (∀ P : Prop, ¬ P → ((di = 0 ∧ dl = false ∧ rows = 0 ∧ pr = 0 ∧ nds.length = 0 ∧ sls.length = 0) → P) → z = false) := fun P hP h => by
    cases z with
    | false => rfl
    | true => exact absurd (h (hz.2 rfl)) hP
  have HYe := hidM hz
  clear hz
  go_enter Tryd.func34, Tryd.ntmps34

  by_cases zdi : di = 0
  rotate_left
  · have zdib : (di == 0) = false := beqF zdi
    have HN := hidM zdi
    clear zdi
    have HZ : Hid (z = false) := HNo.out _ (HN.out) (fun h => h.1)
    go_wp2_with fail
    go_ret
    exact ⟨by rw [HZ.out]; rfl, gr_alloc _ _⟩
  have zdib : (di == 0) = true := by simp [zdi]
  have HZdi := hidM zdi
  clear zdi
  cases dl with
  | true =>
    have HZ : Hid (z = false) := HNo.out _ (by decide) (fun h => h.2.1)
    go_wp2_with fail
    go_ret
    exact ⟨by rw [HZ.out]; rfl, gr_alloc _ _⟩
  | false =>
    by_cases zrows : rows = 0
    rotate_left
    · have zrowsb : (rows == 0) = false := beqF zrows
      have HN := hidM zrows
      clear zrows
      have HZ : Hid (z = false) := HNo.out _ (HN.out) (fun h => h.2.2.1)
      go_wp2_with fail
      go_ret
      exact ⟨by rw [HZ.out]; rfl, gr_alloc _ _⟩
    have zrowsb : (rows == 0) = true := by simp [zrows]
    have HZrows := hidM zrows
    clear zrows
    by_cases zpr : pr = 0
    rotate_left
    · have zprb : (pr == 0) = false := beqF zpr
      have HN := hidM zpr
      clear zpr
      have HZ : Hid (z = false) := HNo.out _ (HN.out) (fun h => h.2.2.2.1)
      go_wp2_with fail
      go_ret
      exact ⟨by rw [HZ.out]; rfl, gr_alloc _ _⟩
    have zprb : (pr == 0) = true := by simp [zpr]
    have HZpr := hidM zpr
    clear zpr
    by_cases znl : nds.length = 0
    rotate_left
    · have znlb : ((nds.length : Int) == 0) = false := beqF (by omega)
      have HN := hidM znl
      clear znl
      have HZ : Hid (z = false) := HNo.out _ (HN.out) (fun h => h.2.2.2.2.1)
      go_wp2_with fail
      go_ret
      exact ⟨by rw [HZ.out]; rfl, gr_alloc _ _⟩
    have znlb : ((nds.length : Int) == 0) = true := by simp [znl]
    have HZnl := hidM znl
    clear znl
    by_cases zsl : sls.length = 0
    rotate_left
    · have zslb : ((sls.length : Int) == 0) = false := beqF (by omega)
      have HN := hidM zsl
      clear zsl
      have HZ : Hid (z = false) := HNo.out _ (HN.out) (fun h => h.2.2.2.2.2)
      go_wp2_with fail
      go_ret
      exact ⟨by rw [HZ.out]; rfl, gr_alloc _ _⟩
    have zslb : ((sls.length : Int) == 0) = true := by simp [zsl]
    have HZsl := hidM zsl
    clear zsl
    have HZ : Hid (z = true) := HYe.out.1 ⟨HZdi.out, rfl, HZrows.out, HZpr.out, HZnl.out, HZsl.out⟩
    go_wp2_with fail
    go_ret
    exact ⟨by rw [HZ.out]; rfl, gr_alloc _ _⟩

set_option maxRecDepth 100000 in
set_option maxHeartbeats 4000000 in
theorem nodesMay_any {nds : List (Int × Int)} {vo : Option Addr} {vc : Nat} {w : World} (z : Bool) (hz : (nds.length ≤ 512 ∧ ∀ n ∈ nds, nodeOk n) ↔ z = true) (hv : NodesAt w vo nds) :
    Calls Tryd.prog 54 #[.slice vo nds.length vc] w fun e w' => e = .returned (.bool z) ∧ Gr w w' := by
  have hlv : nds.length ≤ 1000000000000 := hv.1
  have HNd := hidM hv.2
  have HNo : Hid (∀ P : Prop, ¬ P → ((nds.length ≤ 512 ∧ ∀ n ∈ nds, nodeOk n) → P) → z = false) := fun P hP h => by
    cases z with
    | false => rfl
    | true => exact absurd (h (hz.2 rfl)) hP
  have HYe := hidM hz
  clear hz hv
  go_enter Tryd.func54, Tryd.ntmps54
  by_cases lnl : 512 < nds.length
  · have lnlI : (512 : Int) < (nds.length : Int) := by omega
    have HZ : Hid (z = false) := HNo.out _ (by omega) (fun h => h.1)
    go_wp2_with fail
    go_ret
    exact ⟨by rw [HZ.out]; rfl, Keeps.refl _ _⟩
  have lnlI : ¬ (512 : Int) < (nds.length : Int) := by omega
  go_wp2_with fail
  go_loopw [10] (fun p wr => ∃ i : Nat, i ≤ nds.length ∧ p = .int .i64 (i : Int) ∧ Hid (Gr w wr ∧ ∀ j (hj : j < nds.length), j < i → nodeOk nds[j])) (fun p _ => nds.length - (intOf p).toNat)
  case atStart => exact ⟨0, by omega, rfl, Keeps.refl _ _, fun j hj h => by omega⟩
  case round =>
    obtain ⟨i, hi, rfl, HI⟩ := hrel
    by_cases hlt : i < nds.length
    · have hltI : (i : Int) < (nds.length : Int) := by omega
      obtain ⟨b, o, hvo, hcs⟩ := HNd.out (fun e => by rw [e] at hlt; simp at hlt)
      obtain ⟨c0, c1⟩ := hcs i hlt
      have t0 := HI.out.1.cell' c0 id
      have t1 := HI.out.1.cell' c1 id
      have HBad : Hid (¬ nodeOk nds[i] → z = false) := fun h => HNo.out _ (fun hh : ∀ n ∈ nds, nodeOk n => h (hh _ (List.getElem_mem hlt))) (fun h => h.2)
      have HNx : Hid (nodeOk nds[i] → ∀ j (hj : j < nds.length), j < i + 1 → nodeOk nds[j]) := fun h j hj hlt' => by
        by_cases e : j = i
        · subst e; exact h
        · exact HI.out.2 j hj (by omega)
      obtain ⟨a0, ha0⟩ : ∃ a0, a0 = nds[i].1 := ⟨_, rfl⟩
      obtain ⟨a1, ha1⟩ : ∃ a1, a1 = nds[i].2 := ⟨_, rfl⟩
      have HOkN : Hid (nodeOk nds[i] ↔ (0 ≤ a0 ∧ a0 ≤ 4096 ∧ 0 ≤ a1 ∧ a1 ≤ a0)) := by rw [ha0, ha1]; exact Iff.rfl
      rw [← ha0] at t0
      rw [← ha1] at t1
      have HG := hidM HI.out.1
      have hi0 : (0 : Int) ≤ (i : Int) := by omega
      clear hcs c0 c1 ha0 ha1 HI
      subst hvo
      by_cases x0 : 0 ≤ a0 ∧ a0 ≤ 4096
      rotate_left
      · have u0 := upF x0
        have HZ : Hid (z = false) := HBad.out (fun h => by have := HOkN.out.1 h; omega)
        go_wp2_with (go_at_call 36; (first | with_reducible refine (u0 _).mono ?_); rintro e w' ⟨rfl, rfl⟩)
        go_ret
        exact ⟨by rw [HZ.out]; rfl, HG.out.alloc _⟩
      have u0 := upT x0
      by_cases x1 : 0 ≤ a1 ∧ a1 ≤ a0
      rotate_left
      · have u1 := upF x1
        have HZ : Hid (z = false) := HBad.out (fun h => by have := HOkN.out.1 h; omega)
        go_wp2_with (go_at_call 36; (first | with_reducible refine (u0 _).mono ?_ | with_reducible refine (u1 _).mono ?_); rintro e w' ⟨rfl, rfl⟩)
        go_ret
        exact ⟨by rw [HZ.out]; rfl, HG.out.alloc _⟩
      have u1 := upT x1
      have HN2 := hidM (HNx.out (HOkN.out.2 (by omega)))
      clear HNx HBad HOkN
      go_wp2_with (go_at_call 36; (first | with_reducible refine (u0 _).mono ?_ | with_reducible refine (u1 _).mono ?_); rintro e w' ⟨rfl, rfl⟩)
      go_roundw
      case rel => exact ⟨i + 1, by omega, by simp, HG.out.alloc _, HN2.out⟩
      case measure => simp [intOf]; omega
    · have hltI : ¬ (i : Int) < (nds.length : Int) := by omega
      have HNs : Hid (∀ n ∈ nds, nodeOk n) := fun n hn => by
        obtain ⟨j, hj, rfl⟩ := List.mem_iff_getElem.1 hn
        exact HI.out.2 j hj (by omega)
      have HG1 := hidM HI.out.1
      clear HI
      have HZ : Hid (z = true) := HYe.out.1 ⟨by omega, HNs.out⟩
      go_wp2_with fail
      go_ret
      exact ⟨by rw [HZ.out]; rfl, HG1.out⟩

set_option maxRecDepth 100000 in
set_option maxHeartbeats 4000000 in
theorem slotsMay_any {sls : List (Int × Int × Int)} {vo : Option Addr} {vc : Nat} {w : World} (z : Bool) (hz : (sls.length ≤ 1536 ∧ ∀ n ∈ sls, slotOk n) ↔ z = true) (hv : SlotsAt w vo sls) :
    Calls Tryd.prog 55 #[.slice vo sls.length vc] w fun e w' => e = .returned (.bool z) ∧ Gr w w' := by
  have hlv : sls.length ≤ 1000000000000 := hv.1
  have HNd := hidM hv.2
  have HNo : Hid (∀ P : Prop, ¬ P → ((sls.length ≤ 1536 ∧ ∀ n ∈ sls, slotOk n) → P) → z = false) := fun P hP h => by
    cases z with
    | false => rfl
    | true => exact absurd (h (hz.2 rfl)) hP
  have HYe := hidM hz
  clear hz hv
  go_enter Tryd.func55, Tryd.ntmps55
  by_cases lnl : 1536 < sls.length
  · have lnlI : (1536 : Int) < (sls.length : Int) := by omega
    have HZ : Hid (z = false) := HNo.out _ (by omega) (fun h => h.1)
    go_wp2_with fail
    go_ret
    exact ⟨by rw [HZ.out]; rfl, Keeps.refl _ _⟩
  have lnlI : ¬ (1536 : Int) < (sls.length : Int) := by omega
  go_wp2_with fail
  go_loopw [10] (fun p wr => ∃ i : Nat, i ≤ sls.length ∧ p = .int .i64 (i : Int) ∧ Hid (Gr w wr ∧ ∀ j (hj : j < sls.length), j < i → slotOk sls[j])) (fun p _ => sls.length - (intOf p).toNat)
  case atStart => exact ⟨0, by omega, rfl, Keeps.refl _ _, fun j hj h => by omega⟩
  case round =>
    obtain ⟨i, hi, rfl, HI⟩ := hrel
    by_cases hlt : i < sls.length
    · have hltI : (i : Int) < (sls.length : Int) := by omega
      obtain ⟨b, o, hvo, hcs⟩ := HNd.out (fun e => by rw [e] at hlt; simp at hlt)
      obtain ⟨c0, c1, c2⟩ := hcs i hlt
      have t0 := HI.out.1.cell' c0 id
      have t1 := HI.out.1.cell' c1 id
      have t2 := HI.out.1.cell' c2 id
      have HBad : Hid (¬ slotOk sls[i] → z = false) := fun h => HNo.out _ (fun hh : ∀ n ∈ sls, slotOk n => h (hh _ (List.getElem_mem hlt))) (fun h => h.2)
      have HNx : Hid (slotOk sls[i] → ∀ j (hj : j < sls.length), j < i + 1 → slotOk sls[j]) := fun h j hj hlt' => by
        by_cases e : j = i
        · subst e; exact h
        · exact HI.out.2 j hj (by omega)
      obtain ⟨a0, ha0⟩ : ∃ a0, a0 = sls[i].1 := ⟨_, rfl⟩
      obtain ⟨a1, ha1⟩ : ∃ a1, a1 = sls[i].2.1 := ⟨_, rfl⟩
      obtain ⟨a2, ha2⟩ : ∃ a2, a2 = sls[i].2.2 := ⟨_, rfl⟩
      have HOkN : Hid (slotOk sls[i] ↔ (0 ≤ a0 ∧ a0 ≤ 4194304 ∧ 0 ≤ a1 ∧ a1 ≤ 4194304 ∧ 0 ≤ a2 ∧ a2 ≤ 4194304)) := by rw [ha0, ha1, ha2]; exact Iff.rfl
      rw [← ha0] at t0
      rw [← ha1] at t1
      rw [← ha2] at t2
      have HG := hidM HI.out.1
      have hi0 : (0 : Int) ≤ (i : Int) := by omega
      clear hcs c0 c1 c2 ha0 ha1 ha2 HI
      subst hvo
      by_cases x0 : 0 ≤ a0 ∧ a0 ≤ 4194304
      rotate_left
      · have u0 := upF x0
        have HZ : Hid (z = false) := HBad.out (fun h => by have := HOkN.out.1 h; omega)
        go_wp2_with (go_at_call 36; (first | with_reducible refine (u0 _).mono ?_); rintro e w' ⟨rfl, rfl⟩)
        go_ret
        exact ⟨by rw [HZ.out]; rfl, HG.out.alloc _⟩
      have u0 := upT x0
      by_cases x1 : 0 ≤ a1 ∧ a1 ≤ 4194304
      rotate_left
      · have u1 := upF x1
        have HZ : Hid (z = false) := HBad.out (fun h => by have := HOkN.out.1 h; omega)
        go_wp2_with (go_at_call 36; (first | with_reducible refine (u0 _).mono ?_ | with_reducible refine (u1 _).mono ?_); rintro e w' ⟨rfl, rfl⟩)
        go_ret
        exact ⟨by rw [HZ.out]; rfl, HG.out.alloc _⟩
      have u1 := upT x1
      by_cases x2 : 0 ≤ a2 ∧ a2 ≤ 4194304
      rotate_left
      · have u2 := upF x2
        have HZ : Hid (z = false) := HBad.out (fun h => by have := HOkN.out.1 h; omega)
        go_wp2_with (go_at_call 36; (first | with_reducible refine (u0 _).mono ?_ | with_reducible refine (u1 _).mono ?_ | with_reducible refine (u2 _).mono ?_); rintro e w' ⟨rfl, rfl⟩)
        go_ret
        exact ⟨by rw [HZ.out]; rfl, HG.out.alloc _⟩
      have u2 := upT x2
      have HN2 := hidM (HNx.out (HOkN.out.2 (by omega)))
      clear HNx HBad HOkN
      go_wp2_with (go_at_call 36; (first | with_reducible refine (u0 _).mono ?_ | with_reducible refine (u1 _).mono ?_ | with_reducible refine (u2 _).mono ?_); rintro e w' ⟨rfl, rfl⟩)
      go_roundw
      case rel => exact ⟨i + 1, by omega, by simp, HG.out.alloc _, HN2.out⟩
      case measure => simp [intOf]; omega
    · have hltI : ¬ (i : Int) < (sls.length : Int) := by omega
      have HNs : Hid (∀ n ∈ sls, slotOk n) := fun n hn => by
        obtain ⟨j, hj, rfl⟩ := List.mem_iff_getElem.1 hn
        exact HI.out.2 j hj (by omega)
      have HG1 := hidM HI.out.1
      clear HI
      have HZ : Hid (z = true) := HYe.out.1 ⟨by omega, HNs.out⟩
      go_wp2_with fail
      go_ret
      exact ⟨by rw [HZ.out]; rfl, HG1.out⟩

end Go.Proofs.YtdffjdlpbfcikaaDoor.Kit
