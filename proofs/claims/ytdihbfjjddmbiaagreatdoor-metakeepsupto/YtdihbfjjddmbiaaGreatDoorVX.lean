import Derived.Test.YtdihbfjjddmbiaaGreatDoorVJ
set_option maxRecDepth 100000
set_option maxHeartbeats 4000000
namespace Go.Proofs.YtdihbfjjddmbiaaGreatDoor.Kit
open Go.RowKit Go.Shelf Go.Deep
set_option linter.unusedVariables false
attribute [local go_sem] run_store_func
theorem upT {n m : Int} (h : 0 ≤ n ∧ n ≤ m) (w : World) : Calls Tryz.prog 34 #[.int .i64 n, .int .i64 m] w fun e w' => e = .returned (.bool true) ∧ w' = w := by
  obtain ⟨h1, h2⟩ := h
  go_enter Tryz.func34, Tryz.ntmps34
  go_wp2_with fail
  go_ret
  exact ⟨rfl, rfl⟩
theorem upF {n m : Int} (h : ¬ (0 ≤ n ∧ n ≤ m)) (w : World) : Calls Tryz.prog 34 #[.int .i64 n, .int .i64 m] w fun e w' => e = .returned (.bool false) ∧ w' = w := by
  by_cases h1 : 0 ≤ n
  · have h2 : ¬ n ≤ m := fun e => h ⟨h1, e⟩
    clear h
    go_enter Tryz.func34, Tryz.ntmps34
    go_wp2_with fail
    go_ret
    exact ⟨rfl, rfl⟩
  clear h
  go_enter Tryz.func34, Tryz.ntmps34
  go_wp2_with fail
  go_ret
  exact ⟨rfl, rfl⟩
theorem prT {n : Int} (h : 0 ≤ n ∧ n ≤ 2) (w : World) : Calls Tryz.prog 53 #[.int .i64 n] w fun e w' => e = .returned (.bool true) ∧ w' = w := by
  obtain rfl | rfl | rfl : n = 0 ∨ n = 1 ∨ n = 2 := by omega
  all_goals
    clear h
    go_enter Tryz.func53, Tryz.ntmps53
    go_wp2_with fail
    go_ret
    exact ⟨rfl, rfl⟩
theorem prF {n : Int} (h : ¬ (0 ≤ n ∧ n ≤ 2)) (w : World) : Calls Tryz.prog 53 #[.int .i64 n] w fun e w' => e = .returned (.bool false) ∧ w' = w := by
  have h0 : (n == 0) = false := beqF (by omega)
  have h1 : (n == 1) = false := beqF (by omega)
  have h2 : (n == 2) = false := beqF (by omega)
  clear h
  go_enter Tryz.func53, Tryz.ntmps53
  go_wp2_with fail
  go_ret
  exact ⟨rfl, rfl⟩
theorem saysNo_any {k di rows pr : Int} {dl : Bool} {fo no vo uo : Option Addr} {nf cf nn cn vc uc : Nat} {nds : List (Int × Int)} {sls : List (Int × Int × Int)} {w : World} (z : Bool) (hz : (di = 0 ∧ dl = false ∧ rows = 0 ∧ pr = 0 ∧ nds.length = 0 ∧ sls.length = 0) ↔ z = true) (hlv : nds.length ≤ 1000000000000) (hlu : sls.length ≤ 1000000000000) :
    Calls Tryz.prog 32 #[.agg #[.int .i64 k, .slice fo nf cf, .slice no nn cn, .int .i64 di, .bool dl, .int .i64 rows, .int .i64 pr, .slice vo nds.length vc, .slice uo sls.length uc]] w fun e w' => e = .returned (.bool z) ∧ Gr w w' := by
  have hbx := World.alloc_heap_new w (.cells #[.int .i64 k, .slice fo nf cf, .slice no nn cn, .int .i64 di, .bool dl, .int .i64 rows, .int .i64 pr, .slice vo nds.length vc, .slice uo sls.length uc] 29)
  obtain ⟨p0, p1, p2, p3, p4, p5, p6, p7, p8⟩ := ce9 hbx
  clear hbx
  have HNo : Hid (∀ P : Prop, ¬ P → ((di = 0 ∧ dl = false ∧ rows = 0 ∧ pr = 0 ∧ nds.length = 0 ∧ sls.length = 0) → P) → z = false) := fun P hP h => by
    cases z with
    | false => rfl
    | true => exact absurd (h (hz.2 rfl)) hP
  have HYe := hidM hz
  clear hz
  go_enter Tryz.func32, Tryz.ntmps32
  by_cases zdi : di = 0
  rotate_left
  · have zdib : (di == 0) = false := beqF zdi
    have HN := hidM zdi
    clear zdi
    have HZ : Hid (z = false) := HNo.out _ (HN.out) (fun h => h.1)
    go_wp2_with fail
    go_ret
    exact ⟨by rw [HZ.out]; rfl, gr_alloc _ _⟩
  have zdib : (di == 0) = true := by simp [zdi]
  have HZdi := hidM zdi
  clear zdi
  cases dl with
  | true =>
    have HZ : Hid (z = false) := HNo.out _ (by decide) (fun h => h.2.1)
    go_wp2_with fail
    go_ret
    exact ⟨by rw [HZ.out]; rfl, gr_alloc _ _⟩
  | false =>
    by_cases zrows : rows = 0
    rotate_left
    · have zrowsb : (rows == 0) = false := beqF zrows
      have HN := hidM zrows
      clear zrows
      have HZ : Hid (z = false) := HNo.out _ (HN.out) (fun h => h.2.2.1)
      go_wp2_with fail
      go_ret
      exact ⟨by rw [HZ.out]; rfl, gr_alloc _ _⟩
    have zrowsb : (rows == 0) = true := by simp [zrows]
    have HZrows := hidM zrows
    clear zrows
    by_cases zpr : pr = 0
    rotate_left
    · have zprb : (pr == 0) = false := beqF zpr
      have HN := hidM zpr
      clear zpr
      have HZ : Hid (z = false) := HNo.out _ (HN.out) (fun h => h.2.2.2.1)
      go_wp2_with fail
      go_ret
      exact ⟨by rw [HZ.out]; rfl, gr_alloc _ _⟩
    have zprb : (pr == 0) = true := by simp [zpr]
    have HZpr := hidM zpr
    clear zpr
    by_cases znl : nds.length = 0
    rotate_left
    · have znlb : ((nds.length : Int) == 0) = false := beqF (by omega)
      have HN := hidM znl
      clear znl
      have HZ : Hid (z = false) := HNo.out _ (HN.out) (fun h => h.2.2.2.2.1)
      go_wp2_with fail
      go_ret
      exact ⟨by rw [HZ.out]; rfl, gr_alloc _ _⟩
    have znlb : ((nds.length : Int) == 0) = true := by simp [znl]
    have HZnl := hidM znl
    clear znl
    by_cases zsl : sls.length = 0
    rotate_left
    · have zslb : ((sls.length : Int) == 0) = false := beqF (by omega)
      have HN := hidM zsl
      clear zsl
      have HZ : Hid (z = false) := HNo.out _ (HN.out) (fun h => h.2.2.2.2.2)
      go_wp2_with fail
      go_ret
      exact ⟨by rw [HZ.out]; rfl, gr_alloc _ _⟩
    have zslb : ((sls.length : Int) == 0) = true := by simp [zsl]
    have HZsl := hidM zsl
    clear zsl
    have HZ : Hid (z = true) := HYe.out.1 ⟨HZdi.out, rfl, HZrows.out, HZpr.out, HZnl.out, HZsl.out⟩
    go_wp2_with fail
    go_ret
    exact ⟨by rw [HZ.out]; rfl, gr_alloc _ _⟩
theorem nodesMay_any {nds : List (Int × Int)} {vo : Option Addr} {vc : Nat} {w : World} (z : Bool) (hz : (nds.length ≤ 512 ∧ ∀ n ∈ nds, nodeOk n) ↔ z = true) (hv : NodesAt w vo nds) :
    Calls Tryz.prog 54 #[.slice vo nds.length vc] w fun e w' => e = .returned (.bool z) ∧ Gr w w' := by
  have hlv : nds.length ≤ 1000000000000 := hv.1
  have HNd := hidM hv.2
  have HNo : Hid (∀ P : Prop, ¬ P → ((nds.length ≤ 512 ∧ ∀ n ∈ nds, nodeOk n) → P) → z = false) := fun P hP h => by
    cases z with
    | false => rfl
    | true => exact absurd (h (hz.2 rfl)) hP
  have HYe := hidM hz
  clear hz hv
  go_enter Tryz.func54, Tryz.ntmps54
  by_cases lnl : 512 < nds.length
  · have lnlI : (512 : Int) < (nds.length : Int) := by omega
    have HZ : Hid (z = false) := HNo.out _ (by omega) (fun h => h.1)
    go_wp2_with fail
    go_ret
    exact ⟨by rw [HZ.out]; rfl, Keeps.refl _ _⟩
  have lnlI : ¬ (512 : Int) < (nds.length : Int) := by omega
  go_wp2_with fail
  go_loopw [10] (fun p wr => ∃ i : Nat, i ≤ nds.length ∧ p = .int .i64 (i : Int) ∧ Hid (Gr w wr ∧ ∀ j (hj : j < nds.length), j < i → nodeOk nds[j])) (fun p _ => nds.length - (intOf p).toNat)
  case atStart => exact ⟨0, by omega, rfl, Keeps.refl _ _, fun j hj h => by omega⟩
  case round =>
    obtain ⟨i, hi, rfl, HI⟩ := hrel
    by_cases hlt : i < nds.length
    · have hltI : (i : Int) < (nds.length : Int) := by omega
      obtain ⟨b, o, hvo, hcs⟩ := HNd.out (fun e => by rw [e] at hlt; simp at hlt)
      obtain ⟨c0, c1⟩ := hcs i hlt
      have t0 := HI.out.1.cell' c0 id
      have t1 := HI.out.1.cell' c1 id
      have HBad : Hid (¬ nodeOk nds[i] → z = false) := fun h => HNo.out _ (fun hh : ∀ n ∈ nds, nodeOk n => h (hh _ (List.getElem_mem hlt))) (fun h => h.2)
      have HNx : Hid (nodeOk nds[i] → ∀ j (hj : j < nds.length), j < i + 1 → nodeOk nds[j]) := fun h j hj hlt' => by
        by_cases e : j = i
        · subst e; exact h
        exact HI.out.2 j hj (by omega)
      obtain ⟨a0, ha0⟩ : ∃ a0, a0 = nds[i].1 := ⟨_, rfl⟩
      obtain ⟨a1, ha1⟩ : ∃ a1, a1 = nds[i].2 := ⟨_, rfl⟩
      have HOkN : Hid (nodeOk nds[i] ↔ (0 ≤ a0 ∧ a0 ≤ 4096 ∧ 0 ≤ a1 ∧ a1 ≤ a0)) := by rw [ha0, ha1]; exact Iff.rfl
      rw [← ha0] at t0
      rw [← ha1] at t1
      have HG := hidM HI.out.1
      have hi0 : (0 : Int) ≤ (i : Int) := by omega
      clear hcs c0 c1 ha0 ha1 HI
      subst hvo
      by_cases x0 : 0 ≤ a0 ∧ a0 ≤ 4096
      rotate_left
      · have u0 := upF x0
        have HZ : Hid (z = false) := HBad.out (fun h => by have := HOkN.out.1 h; omega)
        go_wp2_with (go_at_call 34; (first | with_reducible refine (u0 _).mono ?_); rintro e w' ⟨rfl, rfl⟩)
        go_ret
        exact ⟨by rw [HZ.out]; rfl, HG.out.alloc _⟩
      have u0 := upT x0
      by_cases x1 : 0 ≤ a1 ∧ a1 ≤ a0
      rotate_left
      · have u1 := upF x1
        have HZ : Hid (z = false) := HBad.out (fun h => by have := HOkN.out.1 h; omega)
        go_wp2_with (go_at_call 34; (first | with_reducible refine (u0 _).mono ?_ | with_reducible refine (u1 _).mono ?_); rintro e w' ⟨rfl, rfl⟩)
        go_ret
        exact ⟨by rw [HZ.out]; rfl, HG.out.alloc _⟩
      have u1 := upT x1
      have HN2 := hidM (HNx.out (HOkN.out.2 (by omega)))
      clear HNx HBad HOkN
      go_wp2_with (go_at_call 34; (first | with_reducible refine (u0 _).mono ?_ | with_reducible refine (u1 _).mono ?_); rintro e w' ⟨rfl, rfl⟩)
      go_roundw
      case rel => exact ⟨i + 1, by omega, by simp, HG.out.alloc _, HN2.out⟩
      case measure => simp [intOf]; omega
    have hltI : ¬ (i : Int) < (nds.length : Int) := by omega
    have HNs : Hid (∀ n ∈ nds, nodeOk n) := fun n hn => by
      obtain ⟨j, hj, rfl⟩ := List.mem_iff_getElem.1 hn
      exact HI.out.2 j hj (by omega)
    have HG1 := hidM HI.out.1
    clear HI
    have HZ : Hid (z = true) := HYe.out.1 ⟨by omega, HNs.out⟩
    go_wp2_with fail
    go_ret
    exact ⟨by rw [HZ.out]; rfl, HG1.out⟩
theorem slotsMay_any {sls : List (Int × Int × Int)} {vo : Option Addr} {vc : Nat} {w : World} (z : Bool) (hz : (sls.length ≤ 1536 ∧ ∀ n ∈ sls, slotOk n) ↔ z = true) (hv : SlotsAt w vo sls) :
    Calls Tryz.prog 55 #[.slice vo sls.length vc] w fun e w' => e = .returned (.bool z) ∧ Gr w w' := by
  have hlv : sls.length ≤ 1000000000000 := hv.1
  have HNd := hidM hv.2
  have HNo : Hid (∀ P : Prop, ¬ P → ((sls.length ≤ 1536 ∧ ∀ n ∈ sls, slotOk n) → P) → z = false) := fun P hP h => by
    cases z with
    | false => rfl
    | true => exact absurd (h (hz.2 rfl)) hP
  have HYe := hidM hz
  clear hz hv
  go_enter Tryz.func55, Tryz.ntmps55
  by_cases lnl : 1536 < sls.length
  · have lnlI : (1536 : Int) < (sls.length : Int) := by omega
    have HZ : Hid (z = false) := HNo.out _ (by omega) (fun h => h.1)
    go_wp2_with fail
    go_ret
    exact ⟨by rw [HZ.out]; rfl, Keeps.refl _ _⟩
  have lnlI : ¬ (1536 : Int) < (sls.length : Int) := by omega
  go_wp2_with fail
  go_loopw [10] (fun p wr => ∃ i : Nat, i ≤ sls.length ∧ p = .int .i64 (i : Int) ∧ Hid (Gr w wr ∧ ∀ j (hj : j < sls.length), j < i → slotOk sls[j])) (fun p _ => sls.length - (intOf p).toNat)
  case atStart => exact ⟨0, by omega, rfl, Keeps.refl _ _, fun j hj h => by omega⟩
  case round =>
    obtain ⟨i, hi, rfl, HI⟩ := hrel
    by_cases hlt : i < sls.length
    · have hltI : (i : Int) < (sls.length : Int) := by omega
      obtain ⟨b, o, hvo, hcs⟩ := HNd.out (fun e => by rw [e] at hlt; simp at hlt)
      obtain ⟨c0, c1, c2⟩ := hcs i hlt
      have t0 := HI.out.1.cell' c0 id
      have t1 := HI.out.1.cell' c1 id
      have t2 := HI.out.1.cell' c2 id
      have HBad : Hid (¬ slotOk sls[i] → z = false) := fun h => HNo.out _ (fun hh : ∀ n ∈ sls, slotOk n => h (hh _ (List.getElem_mem hlt))) (fun h => h.2)
      have HNx : Hid (slotOk sls[i] → ∀ j (hj : j < sls.length), j < i + 1 → slotOk sls[j]) := fun h j hj hlt' => by
        by_cases e : j = i
        · subst e; exact h
        exact HI.out.2 j hj (by omega)
      obtain ⟨a0, ha0⟩ : ∃ a0, a0 = sls[i].1 := ⟨_, rfl⟩
      obtain ⟨a1, ha1⟩ : ∃ a1, a1 = sls[i].2.1 := ⟨_, rfl⟩
      obtain ⟨a2, ha2⟩ : ∃ a2, a2 = sls[i].2.2 := ⟨_, rfl⟩
      have HOkN : Hid (slotOk sls[i] ↔ (0 ≤ a0 ∧ a0 ≤ 4194304 ∧ 0 ≤ a1 ∧ a1 ≤ 4194304 ∧ 0 ≤ a2 ∧ a2 ≤ 4194304)) := by rw [ha0, ha1, ha2]; exact Iff.rfl
      rw [← ha0] at t0
      rw [← ha1] at t1
      rw [← ha2] at t2
      have HG := hidM HI.out.1
      have hi0 : (0 : Int) ≤ (i : Int) := by omega
      clear hcs c0 c1 c2 ha0 ha1 ha2 HI
      subst hvo
      by_cases x0 : 0 ≤ a0 ∧ a0 ≤ 4194304
      rotate_left
      · have u0 := upF x0
        have HZ : Hid (z = false) := HBad.out (fun h => by have := HOkN.out.1 h; omega)
        go_wp2_with (go_at_call 34; (first | with_reducible refine (u0 _).mono ?_); rintro e w' ⟨rfl, rfl⟩)
        go_ret
        exact ⟨by rw [HZ.out]; rfl, HG.out.alloc _⟩
      have u0 := upT x0
      by_cases x1 : 0 ≤ a1 ∧ a1 ≤ 4194304
      rotate_left
      · have u1 := upF x1
        have HZ : Hid (z = false) := HBad.out (fun h => by have := HOkN.out.1 h; omega)
        go_wp2_with (go_at_call 34; (first | with_reducible refine (u0 _).mono ?_ | with_reducible refine (u1 _).mono ?_); rintro e w' ⟨rfl, rfl⟩)
        go_ret
        exact ⟨by rw [HZ.out]; rfl, HG.out.alloc _⟩
      have u1 := upT x1
      by_cases x2 : 0 ≤ a2 ∧ a2 ≤ 4194304
      rotate_left
      · have u2 := upF x2
        have HZ : Hid (z = false) := HBad.out (fun h => by have := HOkN.out.1 h; omega)
        go_wp2_with (go_at_call 34; (first | with_reducible refine (u0 _).mono ?_ | with_reducible refine (u1 _).mono ?_ | with_reducible refine (u2 _).mono ?_); rintro e w' ⟨rfl, rfl⟩)
        go_ret
        exact ⟨by rw [HZ.out]; rfl, HG.out.alloc _⟩
      have u2 := upT x2
      have HN2 := hidM (HNx.out (HOkN.out.2 (by omega)))
      clear HNx HBad HOkN
      go_wp2_with (go_at_call 34; (first | with_reducible refine (u0 _).mono ?_ | with_reducible refine (u1 _).mono ?_ | with_reducible refine (u2 _).mono ?_); rintro e w' ⟨rfl, rfl⟩)
      go_roundw
      case rel => exact ⟨i + 1, by omega, by simp, HG.out.alloc _, HN2.out⟩
      case measure => simp [intOf]; omega
    have hltI : ¬ (i : Int) < (sls.length : Int) := by omega
    have HNs : Hid (∀ n ∈ sls, slotOk n) := fun n hn => by
      obtain ⟨j, hj, rfl⟩ := List.mem_iff_getElem.1 hn
      exact HI.out.2 j hj (by omega)
    have HG1 := hidM HI.out.1
    clear HI
    have HZ : Hid (z = true) := HYe.out.1 ⟨by omega, HNs.out⟩
    go_wp2_with fail
    go_ret
    exact ⟨by rw [HZ.out]; rfl, HG1.out⟩
theorem NodesAt.gr {W W' : World} {vo : Option Addr} {l : List (Int × Int)} (h : NodesAt W vo l) (g : Gr W W') : NodesAt W' vo l :=
  ⟨h.1, fun hne => by
    obtain ⟨b, o, e, hc⟩ := h.2 hne
    exact ⟨b, o, e, fun i hi => ⟨g.cell' (hc i hi).1 id, g.cell' (hc i hi).2 id⟩⟩⟩
theorem SlotsAt.gr {W W' : World} {vo : Option Addr} {l : List (Int × Int × Int)} (h : SlotsAt W vo l) (g : Gr W W') : SlotsAt W' vo l :=
  ⟨h.1, fun hne => by
    obtain ⟨b, o, e, hc⟩ := h.2 hne
    exact ⟨b, o, e, fun i hi => ⟨g.cell' (hc i hi).1 id, g.cell' (hc i hi).2.1 id, g.cell' (hc i hi).2.2 id⟩⟩⟩
theorem tell (p : Prop) : ∃ z : Bool, p ↔ z = true := by
  by_cases h : p
  · exact ⟨true, by simp [h]⟩
  exact ⟨false, by simp [h]⟩
theorem bodyMay_any {k di rows pr : Int} {dl : Bool} {fo no vo uo : Option Addr} {nf cf nn cn vc uc : Nat} {nds : List (Int × Int)} {sls : List (Int × Int × Int)} {w : World} (z : Bool) (hz : (nf = 0 ∧ nn = 0 ∧ (0 ≤ rows ∧ rows ≤ 4096) ∧ (0 ≤ pr ∧ pr ≤ 2) ∧ (nds.length ≤ 512 ∧ ∀ n ∈ nds, nodeOk n) ∧ (sls.length ≤ 1536 ∧ ∀ s ∈ sls, slotOk s)) ↔ z = true) (hf : nf ≤ 1000000000000) (hn : nn ≤ 1000000000000) (hv : NodesAt w vo nds) (hu : SlotsAt w uo sls) :
    Calls Tryz.prog 35 #[.agg #[.int .i64 k, .slice fo nf cf, .slice no nn cn, .int .i64 di, .bool dl, .int .i64 rows, .int .i64 pr, .slice vo nds.length vc, .slice uo sls.length uc]] w fun e w' => e = .returned (.bool z) ∧ Gr w w' := by
  have hlv : nds.length ≤ 1000000000000 := hv.1
  have hlu : sls.length ≤ 1000000000000 := hu.1
  have hbx := World.alloc_heap_new w (.cells #[.int .i64 k, .slice fo nf cf, .slice no nn cn, .int .i64 di, .bool dl, .int .i64 rows, .int .i64 pr, .slice vo nds.length vc, .slice uo sls.length uc] 29)
  obtain ⟨p0, p1, p2, p3, p4, p5, p6, p7, p8⟩ := ce9 hbx
  have HNo : Hid (∀ P : Prop, ¬ P → ((nf = 0 ∧ nn = 0 ∧ (0 ≤ rows ∧ rows ≤ 4096) ∧ (0 ≤ pr ∧ pr ≤ 2) ∧ (nds.length ≤ 512 ∧ ∀ n ∈ nds, nodeOk n) ∧ (sls.length ≤ 1536 ∧ ∀ s ∈ sls, slotOk s)) → P) → z = false) := fun P hP h => by
    cases z with
    | false => rfl
    | true => exact absurd (h (hz.2 rfl)) hP
  have HYe := hidM hz
  obtain ⟨y1, hy1⟩ := tell (nds.length ≤ 512 ∧ ∀ n ∈ nds, nodeOk n)
  obtain ⟨y2, hy2⟩ := tell (sls.length ≤ 1536 ∧ ∀ s ∈ sls, slotOk s)
  have H28 : Hid (∀ V, Gr w V → Calls Tryz.prog 54 #[.slice vo nds.length vc] V fun e w' => e = .returned (.bool y1) ∧ Gr V w') := fun V g => nodesMay_any y1 hy1 (hv.gr g)
  have H29 : Hid (∀ V, Gr w V → Calls Tryz.prog 55 #[.slice uo sls.length uc] V fun e w' => e = .returned (.bool y2) ∧ Gr V w') := fun V g => slotsMay_any y2 hy2 (hu.gr g)
  have HY1 := hidM hy1
  have HY2 := hidM hy2
  clear hz hv hu hbx hy1 hy2
  go_enter Tryz.func35, Tryz.ntmps35
  by_cases znf : nf = 0
  rotate_left
  · have znfI : (0 : Int) < (nf : Int) := by omega
    have HN := hidM znf
    clear znf
    have HZ : Hid (z = false) := HNo.out _ (HN.out) (fun h => h.1)
    go_wp2_with fail
    go_ret
    exact ⟨by rw [HZ.out]; rfl, gr_alloc _ _⟩
  subst znf
  by_cases znn : nn = 0
  rotate_left
  · have znnI : (0 : Int) < (nn : Int) := by omega
    have HN := hidM znn
    clear znn
    have HZ : Hid (z = false) := HNo.out _ (HN.out) (fun h => h.2.1)
    go_wp2_with fail
    go_ret
    exact ⟨by rw [HZ.out]; rfl, gr_alloc _ _⟩
  subst znn
  by_cases xr : 0 ≤ rows ∧ rows ≤ 4096
  rotate_left
  · have ur := upF xr
    have HN := hidM xr
    clear xr
    have HZ : Hid (z = false) := HNo.out _ (HN.out) (fun h => h.2.2.1)
    go_wp2_with (go_at_call 34; with_reducible refine (ur _).mono ?_; rintro e w' ⟨rfl, rfl⟩)
    go_ret
    exact ⟨by rw [HZ.out]; rfl, gr_alloc _ _⟩
  have ur := upT xr
  have HXr := hidM xr
  clear xr
  by_cases xp : 0 ≤ pr ∧ pr ≤ 2
  rotate_left
  · have up := prF xp
    have HN := hidM xp
    clear xp
    have HZ : Hid (z = false) := HNo.out _ (HN.out) (fun h => h.2.2.2.1)
    go_wp2_with (first | (go_at_call 34; with_reducible refine (ur _).mono ?_; rintro e w' ⟨rfl, rfl⟩) | (go_at_call 53; with_reducible refine (up _).mono ?_; rintro e w' ⟨rfl, rfl⟩))
    go_ret
    exact ⟨by rw [HZ.out]; rfl, gr_alloc _ _⟩
  have up := prT xp
  have HXp := hidM xp
  clear xp
  go_wp2_with (first | (go_at_call 34; with_reducible refine (ur _).mono ?_; rintro e w' ⟨rfl, rfl⟩) | (go_at_call 53; with_reducible refine (up _).mono ?_; rintro e w' ⟨rfl, rfl⟩) | (go_at_call 54; refine Hid.out ?_))
  unfold Hid
  refine Calls.mono (H28.out _ (gr_alloc w _)) ?_
  rintro e V ⟨rfl, hg⟩
  have t8 := hg.cell' p8 id
  have HG := hidM ((gr_alloc w _).tr hg)
  clear hg
  cases y1 with
  | false =>
    have HZ : Hid (z = false) := HNo.out _ (fun h => by have := HY1.out.1 h; cases this) (fun h => h.2.2.2.2.1)
    go_wp2_with fail
    go_ret
    exact ⟨by rw [HZ.out]; rfl, HG.out⟩
  | true =>
    go_wp2_with (go_at_call 55; refine Hid.out ?_)
    unfold Hid
    refine Calls.mono (H29.out _ HG.out) ?_
    rintro e V2 ⟨rfl, hg2⟩
    have HG2 := hidM (HG.out.tr hg2)
    clear hg2
    have HZ : Hid (z = y2) := by
      show _ = _
      cases y2 with
      | true => exact HYe.out.1 ⟨by trivial, by trivial, HXr.out, HXp.out, HY1.out.2 (by trivial), HY2.out.2 rfl⟩
      | false => exact HNo.out _ (fun h => by have := HY2.out.1 h; cases this) (fun h => h.2.2.2.2.2)
    go_wp2_with fail
    go_ret
    exact ⟨by rw [HZ.out]; rfl, HG2.out⟩
theorem mayBe_any {k di rows pr : Int} {dl : Bool} {fo no vo uo : Option Addr} {nf cf nn cn vc uc : Nat} {nds : List (Int × Int)} {sls : List (Int × Int × Int)} {w : World} {Y : Prop} (y z : Bool) (hY : Y ↔ y = true) (hz : HOk Y k nf nn di dl rows pr nds sls ↔ z = true) (hf : nf ≤ 1000000000000) (hn : nn ≤ 1000000000000) (hv : NodesAt w vo nds) (hu : SlotsAt w uo sls)
    (h18 : k = 1 → ∀ W, Gr w W → Calls Tryz.prog 33 #[.agg #[.slice fo nf cf, .slice no nn cn]] W fun e w' => ∃ er so sn sc tt, e = .returned (.agg #[.int .i64 er, .slice so sn sc, .int .i64 tt]) ∧ (er == 0) = y ∧ Gr W w') :
    Calls Tryz.prog 19 #[.agg #[.int .i64 k, .slice fo nf cf, .slice no nn cn, .int .i64 di, .bool dl, .int .i64 rows, .int .i64 pr, .slice vo nds.length vc, .slice uo sls.length uc]] w fun e w' => e = .returned (.bool z) ∧ Gr w w' := by
  have hlv : nds.length ≤ 1000000000000 := hv.1
  have hlu : sls.length ≤ 1000000000000 := hu.1
  have hbx := World.alloc_heap_new w (.cells #[.int .i64 k, .slice fo nf cf, .slice no nn cn, .int .i64 di, .bool dl, .int .i64 rows, .int .i64 pr, .slice vo nds.length vc, .slice uo sls.length uc] 29)
  obtain ⟨p0, p1, p2, p3, p4, p5, p6, p7, p8⟩ := ce9 hbx
  have HNo : Hid (∀ P : Prop, ¬ P → (HOk Y k nf nn di dl rows pr nds sls → P) → z = false) := fun P hP h => by
    cases z with
    | false => rfl
    | true => exact absurd (h (hz.2 rfl)) hP
  have HYe := hidM hz
  have HY := hidM hY
  obtain ⟨y1, hy1⟩ := tell (di = 0 ∧ dl = false ∧ rows = 0 ∧ pr = 0 ∧ nds.length = 0 ∧ sls.length = 0)
  obtain ⟨y2, hy2⟩ := tell (nf = 0 ∧ nn = 0 ∧ (0 ≤ rows ∧ rows ≤ 4096) ∧ (0 ≤ pr ∧ pr ≤ 2) ∧ (nds.length ≤ 512 ∧ ∀ n ∈ nds, nodeOk n) ∧ (sls.length ≤ 1536 ∧ ∀ s ∈ sls, slotOk s))
  have H17 : Hid (∀ V, Calls Tryz.prog 32 #[.agg #[.int .i64 k, .slice fo nf cf, .slice no nn cn, .int .i64 di, .bool dl, .int .i64 rows, .int .i64 pr, .slice vo nds.length vc, .slice uo sls.length uc]] V fun e w' => e = .returned (.bool y1) ∧ Gr V w') := fun V => saysNo_any y1 hy1 hlv hlu
  have H20 : Hid (∀ V, Gr w V → Calls Tryz.prog 35 #[.agg #[.int .i64 k, .slice fo nf cf, .slice no nn cn, .int .i64 di, .bool dl, .int .i64 rows, .int .i64 pr, .slice vo nds.length vc, .slice uo sls.length uc]] V fun e w' => e = .returned (.bool y2) ∧ Gr V w') := fun V g => bodyMay_any y2 hy2 hf hn (hv.gr g) (hu.gr g)
  have H18 := hidM h18
  have HY1 := hidM hy1
  have HY2 := hidM hy2
  clear hz hY hv hu hbx hy1 hy2 h18
  go_enter Tryz.func19, Tryz.ntmps19
  by_cases c1 : k = 1
  · have k1 : (k == 1) = true := by simp [c1]
    have HC1 := hidM c1
    clear c1
    go_wp2_with (go_at_call 32; refine Hid.out ?_)
    unfold Hid
    refine Calls.mono (H17.out _) ?_
    rintro e V ⟨rfl, hg⟩
    have t1 := hg.cell' p1 id
    have t2 := hg.cell' p2 id
    have HG := hidM ((gr_alloc w _).tr hg)
    clear hg
    cases y1 with
    | false =>
      have HZ : Hid (z = false) := HNo.out False id (fun h => by
        rcases h with h | h
        · have := HY1.out.1 ⟨h.2.1, h.2.2.1, h.2.2.2.1, h.2.2.2.2.1, h.2.2.2.2.2.1, h.2.2.2.2.2.2.1⟩
          cases this
        have := HC1.out; omega)
      go_wp2_with fail
      go_ret
      exact ⟨by rw [HZ.out]; rfl, HG.out⟩
    | true =>
      go_wp2_with (go_at_call 33; refine Hid.out ?_)
      unfold Hid
      refine Calls.mono (H18.out HC1.out _ HG.out) ?_
      rintro e V2 ⟨er, so, sn, sc, tt, rfl, hy, hg2⟩
      have HG2 := hidM (HG.out.tr hg2)
      have HZ : Hid (z = y) := by
        show _ = _
        cases y with
        | true =>
          have h1 := HY1.out.2 (by trivial)
          exact HYe.out.1 (.inl ⟨HC1.out, h1.1, h1.2.1, h1.2.2.1, h1.2.2.2.1, h1.2.2.2.2.1, h1.2.2.2.2.2, HY.out.2 rfl⟩)
        | false => exact HNo.out Y (fun h => by have := HY.out.1 h; cases this) (fun h => by
            rcases h with h | h
            · exact h.2.2.2.2.2.2.2
            have := HC1.out; omega)
      clear hg2
      have hfl : ∀ vo vn vc w, (Instr.field 67 (.agg #[.int .i64 er, .slice vo vn vc, .int .i64 tt]) 0).run Tryz.prog w = .ok (.int .i64 er) w := fun vo vn vc w => by kernel_rfl
      cases y with
      | true =>
        go_wp2_with fail
        go_ret
        exact ⟨by rw [HZ.out]; rfl, HG2.out⟩
      | false =>
        go_wp2_with fail
        go_ret
        exact ⟨by rw [HZ.out]; rfl, HG2.out⟩
  have k1 : (k == 1) = false := beqF c1
  have HNo1 : Hid (∀ P : Prop, ¬ P → (((k = 2 ∨ k = 3) ∧ (nf = 0 ∧ nn = 0 ∧ (0 ≤ rows ∧ rows ≤ 4096) ∧ (0 ≤ pr ∧ pr ≤ 2) ∧ (nds.length ≤ 512 ∧ ∀ n ∈ nds, nodeOk n) ∧ (sls.length ≤ 1536 ∧ ∀ s ∈ sls, slotOk s)) ∧ (k = 2 → 0 ≤ di ∧ di ≤ 31) ∧ (k = 3 → di = 0 ∧ dl = false)) → P) → z = false) := fun P hP h => HNo.out P hP fun hh => by
    rcases hh with hh | hh
    · exact absurd hh.1 c1
    exact h ⟨hh.1, ⟨hh.2.1, hh.2.2.1, hh.2.2.2.1, hh.2.2.2.2.1, ⟨hh.2.2.2.2.2.1, hh.2.2.2.2.2.2.2.2.2.1⟩, hh.2.2.2.2.2.2.1, hh.2.2.2.2.2.2.2.2.2.2⟩, hh.2.2.2.2.2.2.2.1, hh.2.2.2.2.2.2.2.2.1⟩
  have HYe1 : Hid ((k = 2 ∨ k = 3) → (nf = 0 ∧ nn = 0 ∧ (0 ≤ rows ∧ rows ≤ 4096) ∧ (0 ≤ pr ∧ pr ≤ 2) ∧ (nds.length ≤ 512 ∧ ∀ n ∈ nds, nodeOk n) ∧ (sls.length ≤ 1536 ∧ ∀ s ∈ sls, slotOk s)) → (k = 2 → 0 ≤ di ∧ di ≤ 31) → (k = 3 → di = 0 ∧ dl = false) → z = true) := fun h1 h2 h3 h4 =>
    HYe.out.1 (.inr ⟨h1, h2.1, h2.2.1, h2.2.2.1, h2.2.2.2.1, h2.2.2.2.2.1.1, h2.2.2.2.2.2.1, h3, h4, h2.2.2.2.2.1.2, h2.2.2.2.2.2.2⟩)
  clear c1 H18 HYe HNo
  by_cases c2 : k = 2
  · have k2 : (k == 2) = true := by simp [c2]
    have HC2 := hidM c2
    clear c2
    by_cases xd : 0 ≤ di ∧ di ≤ 31
    rotate_left
    · have ud := upF xd
      have HN := hidM xd
      clear xd
      have HZ : Hid (z = false) := HNo1.out _ HN.out (fun h => h.2.2.1 HC2.out)
      go_wp2_with (go_at_call 34; with_reducible refine (ud _).mono ?_; rintro e w' ⟨rfl, rfl⟩)
      go_ret
      exact ⟨by rw [HZ.out]; rfl, gr_alloc _ _⟩
    have ud := upT xd
    have HXd := hidM xd
    clear xd
    go_wp2_with (first | (go_at_call 34; with_reducible refine (ud _).mono ?_; rintro e w' ⟨rfl, rfl⟩) | (go_at_call 35; refine Hid.out ?_))
    unfold Hid
    refine Calls.mono (H20.out _ (gr_alloc w _)) ?_
    rintro e V ⟨rfl, hg⟩
    have HG := hidM ((gr_alloc w _).tr hg)
    clear hg
    have HZ : Hid (z = y2) := by
      show _ = _
      cases y2 with
      | true => exact HYe1.out (.inl HC2.out) (HY2.out.2 rfl) (fun _ => HXd.out) (fun e => by have := HC2.out; omega)
      | false => exact HNo1.out _ (fun h => by have := HY2.out.1 h; cases this) (fun h => h.2.1)
    go_wp2_with fail
    go_ret
    exact ⟨by rw [HZ.out]; rfl, HG.out⟩
  have k2 : (k == 2) = false := beqF c2
  by_cases c3 : k = 3
  · have k3 : (k == 3) = true := by simp [c3]
    have HC3 := hidM c3
    clear c3 c2
    by_cases xd : di = 0
    rotate_left
    · have xdb : (di == 0) = false := beqF xd
      have HN := hidM xd
      clear xd
      have HZ : Hid (z = false) := HNo1.out _ HN.out (fun h => (h.2.2.2 HC3.out).1)
      go_wp2_with fail
      go_ret
      exact ⟨by rw [HZ.out]; rfl, gr_alloc _ _⟩
    have xdb : (di == 0) = true := by simp [xd]
    have HXd := hidM xd
    clear xd
    cases dl with
    | true =>
      have HZ : Hid (z = false) := HNo1.out (true = false) (by decide) (fun h => (h.2.2.2 HC3.out).2)
      go_wp2_with fail
      go_ret
      exact ⟨by rw [HZ.out]; rfl, gr_alloc _ _⟩
    | false =>
      go_wp2_with (go_at_call 35; refine Hid.out ?_)
      unfold Hid
      refine Calls.mono (H20.out _ (gr_alloc w _)) ?_
      rintro e V ⟨rfl, hg⟩
      have HG := hidM ((gr_alloc w _).tr hg)
      clear hg
      have HZ : Hid (z = y2) := by
        show _ = _
        cases y2 with
        | true => exact HYe1.out (.inr HC3.out) (HY2.out.2 rfl) (fun e => by have := HC3.out; omega) (fun _ => ⟨HXd.out, by trivial⟩)
        | false => exact HNo1.out _ (fun h => by have := HY2.out.1 h; cases this) (fun h => h.2.1)
      go_wp2_with fail
      go_ret
      exact ⟨by rw [HZ.out]; rfl, HG.out⟩
  have k3 : (k == 3) = false := beqF c3
  have HZ : Hid (z = false) := HNo1.out False id (fun h => by omega)
  clear c2 c3
  go_wp2_with fail
  go_ret
  exact ⟨by rw [HZ.out]; rfl, gr_alloc _ _⟩
end Go.Proofs.YtdihbfjjddmbiaaGreatDoor.Kit
