import Derived.Test.YtdffjdlpbfcikaaDoorVW
import Derived.Test.YtdffjdlpbfcikaaDoorVU
namespace Go.Proofs.YtdffjdlpbfcikaaDoor.Kit
open Go.RowKit Go.Shelf Go.Deep
set_option linter.unusedVariables false
attribute [local go_sem] run_store_func

theorem NodesAt.gr {W W' : World} {vo : Option Addr} {l : List (Int × Int)} (h : NodesAt W vo l) (g : Gr W W') : NodesAt W' vo l :=
  ⟨h.1, fun hne => by
    obtain ⟨b, o, e, hc⟩ := h.2 hne
    exact ⟨b, o, e, fun i hi => ⟨g.cell' (hc i hi).1 id, g.cell' (hc i hi).2 id⟩⟩⟩
theorem SlotsAt.gr {W W' : World} {vo : Option Addr} {l : List (Int × Int × Int)} (h : SlotsAt W vo l) (g : Gr W W') : SlotsAt W' vo l :=
  ⟨h.1, fun hne => by
    obtain ⟨b, o, e, hc⟩ := h.2 hne
    exact ⟨b, o, e, fun i hi => ⟨g.cell' (hc i hi).1 id, g.cell' (hc i hi).2.1 id, g.cell' (hc i hi).2.2 id⟩⟩⟩
theorem tell (p : Prop) : ∃ z : Bool, p ↔ z = true := by
  by_cases h : p
  · exact ⟨true, by simp [h]⟩
  · exact ⟨false, by simp [h]⟩

set_option maxRecDepth 100000 in
set_option maxHeartbeats 4000000 in
theorem bodyMay_any {k di rows pr : Int} {dl : Bool} {fo no vo uo : Option Addr} {nf cf nn cn vc uc : Nat} {nds : List (Int × Int)} {sls : List (Int × Int × Int)} {w : World} (z : Bool) (hz : (nf = 0 ∧ nn = 0 ∧ (0 ≤ rows ∧ rows ≤ 4096) ∧ (0 ≤ pr ∧ pr ≤ 2) ∧ (nds.length ≤ 512 ∧ ∀ n ∈ nds, nodeOk n) ∧ (sls.length ≤ 1536 ∧ ∀ s ∈ sls, slotOk s)) ↔ z = true) (hf : nf ≤ 1000000000000) (hn : nn ≤ 1000000000000) (hv : NodesAt w vo nds) (hu : SlotsAt w uo sls) :
    Calls Tryd.prog 37 #[.agg #[.int .i64 k, .slice fo nf cf, .slice no nn cn, .int .i64 di, .bool dl, .int .i64 rows, .int .i64 pr, .slice vo nds.length vc, .slice uo sls.length uc]] w fun e w' => e = .returned (.bool z) ∧ Gr w w' := by
  have hlv : nds.length ≤ 1000000000000 := hv.1
  have hlu : sls.length ≤ 1000000000000 := hu.1
  have hbx := World.alloc_heap_new w (.cells #[.int .i64 k, .slice fo nf cf, .slice no nn cn, .int .i64 di, .bool dl, .int .i64 rows, .int .i64 pr, .slice vo nds.length vc, .slice uo sls.length uc] 30)
  obtain ⟨p0, p1, p2, p3, p4, p5, p6, p7, p8⟩ := ce9 hbx
  have HNo : Hid (∀ P : Prop, ¬ P → ((nf = 0 ∧ nn = 0 ∧ (0 ≤ rows ∧ rows ≤ 4096) ∧ (0 ≤ pr ∧ pr ≤ 2) ∧ (nds.length ≤ 512 ∧ ∀ n ∈ nds, nodeOk n) ∧ (sls.length ≤ 1536 ∧ ∀ s ∈ sls, slotOk s)) → P) → z = false) := fun P hP h => by
    cases z with
    | false => rfl
    | true => exact absurd (h (hz.2 rfl)) hP
  have HYe := hidM hz
  obtain ⟨y1, hy1⟩ := tell (nds.length ≤ 512 ∧ ∀ n ∈ nds, nodeOk n)
  obtain ⟨y2, hy2⟩ := tell (sls.length ≤ 1536 ∧ ∀ s ∈ sls, slotOk s)
  have H28 : Hid (∀ V, Gr w V → Calls Tryd.prog 54 #[.slice vo nds.length vc] V fun e w' => e = .returned (.bool y1) ∧ Gr V w') := fun V g => nodesMay_any y1 hy1 (hv.gr g)
  have H29 : Hid (∀ V, Gr w V → Calls Tryd.prog 55 #[.slice uo sls.length uc] V fun e w' => e = .returned (.bool y2) ∧ Gr V w') := fun V g => slotsMay_any y2 hy2 (hu.gr g)
  have HY1 := hidM hy1
  have HY2 := hidM hy2
  clear hz hv hu hbx hy1 hy2
  go_enter Tryd.func37, Tryd.ntmps37

  by_cases znf : nf = 0
  rotate_left
  · have znfI : (0 : Int) < (nf : Int) := by omega
    have HN := hidM znf
    clear znf
    have HZ : Hid (z = false) := HNo.out _ (HN.out) (fun h => h.1)
    go_wp2_with fail
    go_ret
    exact ⟨by rw [HZ.out]; rfl, gr_alloc _ _⟩
  subst znf
  by_cases znn : nn = 0
  rotate_left
  · have znnI : (0 : Int) < (nn : Int) := by omega
    have HN := hidM znn
    clear znn
    have HZ : Hid (z = false) := HNo.out _ (HN.out) (fun h => h.2.1)
    go_wp2_with fail
    go_ret
    exact ⟨by rw [HZ.out]; rfl, gr_alloc _ _⟩
  subst znn
  by_cases xr : 0 ≤ rows ∧ rows ≤ 4096
  rotate_left
  · have ur := upF xr
    have HN := hidM xr
    clear xr
    have HZ : Hid (z = false) := HNo.out _ (HN.out) (fun h => h.2.2.1)
    go_wp2_with (go_at_call 36; with_reducible refine (ur _).mono ?_; rintro e w' ⟨rfl, rfl⟩)
    go_ret
    exact ⟨by rw [HZ.out]; rfl, gr_alloc _ _⟩
  have ur := upT xr
  have HXr := hidM xr
  clear xr
  by_cases xp : 0 ≤ pr ∧ pr ≤ 2
  rotate_left
  · have up := prF xp
    have HN := hidM xp
    clear xp
    have HZ : Hid (z = false) := HNo.out _ (HN.out) (fun h => h.2.2.2.1)
    go_wp2_with (first | (go_at_call 36; with_reducible refine (ur _).mono ?_; rintro e w' ⟨rfl, rfl⟩) | (go_at_call 53; with_reducible refine (up _).mono ?_; rintro e w' ⟨rfl, rfl⟩))
    go_ret
    exact ⟨by rw [HZ.out]; rfl, gr_alloc _ _⟩
  have up := prT xp
  have HXp := hidM xp
  clear xp
  go_wp2_with (first | (go_at_call 36; with_reducible refine (ur _).mono ?_; rintro e w' ⟨rfl, rfl⟩) | (go_at_call 53; with_reducible refine (up _).mono ?_; rintro e w' ⟨rfl, rfl⟩) | (go_at_call 54; refine Hid.out ?_))
  unfold Hid
  refine Calls.mono (H28.out _ (gr_alloc w _)) ?_
  rintro e V ⟨rfl, hg⟩
  have t8 := hg.cell' p8 id
  have HG := hidM ((gr_alloc w _).trans hg (fun _ _ h => h))
  clear hg
  cases y1 with
  | false =>
    have HZ : Hid (z = false) := HNo.out _ (fun h => by have := HY1.out.1 h; cases this) (fun h => h.2.2.2.2.1)
    go_wp2_with fail
    go_ret
    exact ⟨by rw [HZ.out]; rfl, HG.out⟩
  | true =>
    go_wp2_with (go_at_call 55; refine Hid.out ?_)
    unfold Hid
    refine Calls.mono (H29.out _ HG.out) ?_
    rintro e V2 ⟨rfl, hg2⟩
    have HG2 := hidM (HG.out.trans hg2 (fun _ _ h => h))
    clear hg2
    have HZ : Hid (z = y2) := by
      show _ = _
      cases y2 with
      | true => exact HYe.out.1 ⟨by trivial, by trivial, HXr.out, HXp.out, HY1.out.2 (by trivial), HY2.out.2 rfl⟩
      | false => exact HNo.out _ (fun h => by have := HY2.out.1 h; cases this) (fun h => h.2.2.2.2.2)
    go_wp2_with fail
    go_ret
    exact ⟨by rw [HZ.out]; rfl, HG2.out⟩

set_option maxRecDepth 100000 in
set_option maxHeartbeats 4000000 in
theorem mayBe_any {k di rows pr : Int} {dl : Bool} {fo no vo uo : Option Addr} {nf cf nn cn vc uc : Nat} {nds : List (Int × Int)} {sls : List (Int × Int × Int)} {w : World} {Y : Prop} (y z : Bool) (hY : Y ↔ y = true) (hz : HOk Y k nf nn di dl rows pr nds sls ↔ z = true) (hf : nf ≤ 1000000000000) (hn : nn ≤ 1000000000000) (hv : NodesAt w vo nds) (hu : SlotsAt w uo sls)
    (h18 : k = 1 → ∀ W, Gr w W → Calls Tryd.prog 35 #[.agg #[.slice fo nf cf, .slice no nn cn]] W fun e w' => ∃ er so sn sc tt, e = .returned (.agg #[.int .i64 er, .slice so sn sc, .int .i64 tt]) ∧ (er == 0) = y ∧ Gr W w') :
    Calls Tryd.prog 22 #[.agg #[.int .i64 k, .slice fo nf cf, .slice no nn cn, .int .i64 di, .bool dl, .int .i64 rows, .int .i64 pr, .slice vo nds.length vc, .slice uo sls.length uc]] w fun e w' => e = .returned (.bool z) ∧ Gr w w' := by
  have hlv : nds.length ≤ 1000000000000 := hv.1
  have hlu : sls.length ≤ 1000000000000 := hu.1
  have hbx := World.alloc_heap_new w (.cells #[.int .i64 k, .slice fo nf cf, .slice no nn cn, .int .i64 di, .bool dl, .int .i64 rows, .int .i64 pr, .slice vo nds.length vc, .slice uo sls.length uc] 30)
  obtain ⟨p0, p1, p2, p3, p4, p5, p6, p7, p8⟩ := ce9 hbx
  have HNo : Hid (∀ P : Prop, ¬ P → (HOk Y k nf nn di dl rows pr nds sls → P) → z = false) := fun P hP h => by
    cases z with
    | false => rfl
    | true => exact absurd (h (hz.2 rfl)) hP
  have HYe := hidM hz
  have HY := hidM hY
  obtain ⟨y1, hy1⟩ := tell (di = 0 ∧ dl = false ∧ rows = 0 ∧ pr = 0 ∧ nds.length = 0 ∧ sls.length = 0)
  obtain ⟨y2, hy2⟩ := tell (nf = 0 ∧ nn = 0 ∧ (0 ≤ rows ∧ rows ≤ 4096) ∧ (0 ≤ pr ∧ pr ≤ 2) ∧ (nds.length ≤ 512 ∧ ∀ n ∈ nds, nodeOk n) ∧ (sls.length ≤ 1536 ∧ ∀ s ∈ sls, slotOk s))
  have H17 : Hid (∀ V, Calls Tryd.prog 34 #[.agg #[.int .i64 k, .slice fo nf cf, .slice no nn cn, .int .i64 di, .bool dl, .int .i64 rows, .int .i64 pr, .slice vo nds.length vc, .slice uo sls.length uc]] V fun e w' => e = .returned (.bool y1) ∧ Gr V w') := fun V => saysNo_any y1 hy1 hlv hlu
  have H20 : Hid (∀ V, Gr w V → Calls Tryd.prog 37 #[.agg #[.int .i64 k, .slice fo nf cf, .slice no nn cn, .int .i64 di, .bool dl, .int .i64 rows, .int .i64 pr, .slice vo nds.length vc, .slice uo sls.length uc]] V fun e w' => e = .returned (.bool y2) ∧ Gr V w') := fun V g => bodyMay_any y2 hy2 hf hn (hv.gr g) (hu.gr g)
  have H18 := hidM h18
  have HY1 := hidM hy1
  have HY2 := hidM hy2
  clear hz hY hv hu hbx hy1 hy2 h18
  go_enter Tryd.func22, Tryd.ntmps22
  by_cases c1 : k = 1
  · have k1 : (k == 1) = true := by simp [c1]
    have HC1 := hidM c1
    clear c1
    go_wp2_with (go_at_call 34; refine Hid.out ?_)
    unfold Hid
    refine Calls.mono (H17.out _) ?_
    rintro e V ⟨rfl, hg⟩
    have t1 := hg.cell' p1 id
    have t2 := hg.cell' p2 id
    have HG := hidM ((gr_alloc w _).trans hg (fun _ _ h => h))
    clear hg
    cases y1 with
    | false =>
      have HZ : Hid (z = false) := HNo.out False id (fun h => by
        rcases h with h | h
        · have := HY1.out.1 ⟨h.2.1, h.2.2.1, h.2.2.2.1, h.2.2.2.2.1, h.2.2.2.2.2.1, h.2.2.2.2.2.2.1⟩
          cases this
        · have := HC1.out; omega)
      go_wp2_with fail
      go_ret
      exact ⟨by rw [HZ.out]; rfl, HG.out⟩
    | true =>
      go_wp2_with (go_at_call 35; refine Hid.out ?_)
      unfold Hid
      refine Calls.mono (H18.out HC1.out _ HG.out) ?_
      rintro e V2 ⟨er, so, sn, sc, tt, rfl, hy, hg2⟩
      have HG2 := hidM (HG.out.trans hg2 (fun _ _ h => h))
      have HZ : Hid (z = y) := by
        show _ = _
        cases y with
        | true =>
          have h1 := HY1.out.2 (by trivial)
          exact HYe.out.1 (.inl ⟨HC1.out, h1.1, h1.2.1, h1.2.2.1, h1.2.2.2.1, h1.2.2.2.2.1, h1.2.2.2.2.2, HY.out.2 rfl⟩)
        | false => exact HNo.out Y (fun h => by have := HY.out.1 h; cases this) (fun h => by
            rcases h with h | h
            · exact h.2.2.2.2.2.2.2
            · have := HC1.out; omega)
      clear hg2
      have hfl : ∀ vo vn vc w, (Instr.field 34 (.agg #[.int .i64 er, .slice vo vn vc, .int .i64 tt]) 0).run Tryd.prog w = .ok (.int .i64 er) w := fun vo vn vc w => by kernel_rfl
      cases y with
      | true =>
        go_wp2_with fail
        go_ret
        exact ⟨by rw [HZ.out]; rfl, HG2.out⟩
      | false =>
        go_wp2_with fail
        go_ret
        exact ⟨by rw [HZ.out]; rfl, HG2.out⟩
  have k1 : (k == 1) = false := beqF c1
  have HNo1 : Hid (∀ P : Prop, ¬ P → (((k = 2 ∨ k = 3) ∧ (nf = 0 ∧ nn = 0 ∧ (0 ≤ rows ∧ rows ≤ 4096) ∧ (0 ≤ pr ∧ pr ≤ 2) ∧ (nds.length ≤ 512 ∧ ∀ n ∈ nds, nodeOk n) ∧ (sls.length ≤ 1536 ∧ ∀ s ∈ sls, slotOk s)) ∧ (k = 2 → 0 ≤ di ∧ di ≤ 31) ∧ (k = 3 → di = 0 ∧ dl = false)) → P) → z = false) := fun P hP h => HNo.out P hP fun hh => by
    rcases hh with hh | hh
    · exact absurd hh.1 c1
    · exact h ⟨hh.1, ⟨hh.2.1, hh.2.2.1, hh.2.2.2.1, hh.2.2.2.2.1, ⟨hh.2.2.2.2.2.1, hh.2.2.2.2.2.2.2.2.2.1⟩, hh.2.2.2.2.2.2.1, hh.2.2.2.2.2.2.2.2.2.2⟩, hh.2.2.2.2.2.2.2.1, hh.2.2.2.2.2.2.2.2.1⟩
  have HYe1 : Hid ((k = 2 ∨ k = 3) → (nf = 0 ∧ nn = 0 ∧ (0 ≤ rows ∧ rows ≤ 4096) ∧ (0 ≤ pr ∧ pr ≤ 2) ∧ (nds.length ≤ 512 ∧ ∀ n ∈ nds, nodeOk n) ∧ (sls.length ≤ 1536 ∧ ∀ s ∈ sls, slotOk s)) → (k = 2 → 0 ≤ di ∧ di ≤ 31) → (k = 3 → di = 0 ∧ dl = false) → z = true) := fun h1 h2 h3 h4 =>
    HYe.out.1 (.inr ⟨h1, h2.1, h2.2.1, h2.2.2.1, h2.2.2.2.1, h2.2.2.2.2.1.1, h2.2.2.2.2.2.1, h3, h4, h2.2.2.2.2.1.2, h2.2.2.2.2.2.2⟩)
  clear c1 H18 HYe HNo
  by_cases c2 : k = 2
  · have k2 : (k == 2) = true := by simp [c2]
    have HC2 := hidM c2
    clear c2
    by_cases xd : 0 ≤ di ∧ di ≤ 31
    rotate_left
    · have ud := upF xd
      have HN := hidM xd
      clear xd
      have HZ : Hid (z = false) := HNo1.out _ HN.out (fun h => h.2.2.1 HC2.out)
      go_wp2_with (go_at_call 36; with_reducible refine (ud _).mono ?_; rintro e w' ⟨rfl, rfl⟩)
      go_ret
      exact ⟨by rw [HZ.out]; rfl, gr_alloc _ _⟩
    have ud := upT xd
    have HXd := hidM xd
    clear xd
    go_wp2_with (first | (go_at_call 36; with_reducible refine (ud _).mono ?_; rintro e w' ⟨rfl, rfl⟩) | (go_at_call 37; refine Hid.out ?_))
    unfold Hid
    refine Calls.mono (H20.out _ (gr_alloc w _)) ?_
    rintro e V ⟨rfl, hg⟩
    have HG := hidM ((gr_alloc w _).trans hg (fun _ _ h => h))
    clear hg
    have HZ : Hid (z = y2) := by
      show _ = _
      cases y2 with
      | true => exact HYe1.out (.inl HC2.out) (HY2.out.2 rfl) (fun _ => HXd.out) (fun e => by have := HC2.out; omega)
      | false => exact HNo1.out _ (fun h => by have := HY2.out.1 h; cases this) (fun h => h.2.1)
    go_wp2_with fail
    go_ret
    exact ⟨by rw [HZ.out]; rfl, HG.out⟩
  have k2 : (k == 2) = false := beqF c2
  by_cases c3 : k = 3
  · have k3 : (k == 3) = true := by simp [c3]
    have HC3 := hidM c3
    clear c3 c2
    by_cases xd : di = 0
    rotate_left
    · have xdb : (di == 0) = false := beqF xd
      have HN := hidM xd
      clear xd
      have HZ : Hid (z = false) := HNo1.out _ HN.out (fun h => (h.2.2.2 HC3.out).1)
      go_wp2_with fail
      go_ret
      exact ⟨by rw [HZ.out]; rfl, gr_alloc _ _⟩
    have xdb : (di == 0) = true := by simp [xd]
    have HXd := hidM xd
    clear xd
    cases dl with
    | true =>
      have HZ : Hid (z = false) := HNo1.out (true = false) (by decide) (fun h => (h.2.2.2 HC3.out).2)
      go_wp2_with fail
      go_ret
      exact ⟨by rw [HZ.out]; rfl, gr_alloc _ _⟩
    | false =>
      go_wp2_with (go_at_call 37; refine Hid.out ?_)
      unfold Hid
      refine Calls.mono (H20.out _ (gr_alloc w _)) ?_
      rintro e V ⟨rfl, hg⟩
      have HG := hidM ((gr_alloc w _).trans hg (fun _ _ h => h))
      clear hg
      have HZ : Hid (z = y2) := by
        show _ = _
        cases y2 with
        | true => exact HYe1.out (.inr HC3.out) (HY2.out.2 rfl) (fun e => by have := HC3.out; omega) (fun _ => ⟨HXd.out, by trivial⟩)
        | false => exact HNo1.out _ (fun h => by have := HY2.out.1 h; cases this) (fun h => h.2.1)
      go_wp2_with fail
      go_ret
      exact ⟨by rw [HZ.out]; rfl, HG.out⟩
  have k3 : (k == 3) = false := beqF c3
  have HZ : Hid (z = false) := HNo1.out False id (fun h => by omega)
  clear c2 c3
  go_wp2_with fail
  go_ret
  exact ⟨by rw [HZ.out]; rfl, gr_alloc _ _⟩

end Go.Proofs.YtdffjdlpbfcikaaDoor.Kit
namespace Go.Proofs.YtdffjdlpbfcikaaDoor.Kit
open Go.RowKit Go.Shelf Go.Deep
set_option linter.unusedVariables false
attribute [local go_sem] run_store_func

/-! ### Put -/
theorem ce1 {W : World} {B t : Nat} {x : Value} (h : W.heap[B]? = some (.cells #[x] t)) : W.cell? ⟨B, 0, none⟩ = some x := by simp [World.cell?, h]

set_option maxRecDepth 100000 in
set_option maxHeartbeats 4000000 in
theorem put_false {k di rows pr : Int} {dl : Bool} {fo no vo uo : Option Addr} {nf cf nn cn vc uc : Nat} {nds : List (Int × Int)} {sls : List (Int × Int × Int)} {w : World}
    (h8 : ∀ W, Gr w W → Calls Tryd.prog 22 #[.agg #[.int .i64 k, .slice fo nf cf, .slice no nn cn, .int .i64 di, .bool dl, .int .i64 rows, .int .i64 pr, .slice vo nds.length vc, .slice uo sls.length uc]] W fun e w' => e = .returned (.bool false) ∧ Gr W w') :
    Calls Tryd.prog 11 #[.agg #[.int .i64 k, .slice fo nf cf, .slice no nn cn, .int .i64 di, .bool dl, .int .i64 rows, .int .i64 pr, .slice vo nds.length vc, .slice uo sls.length uc]] w fun e w' => e = .returned (.tuple #[.slice none 0 0, .int .i64 50]) ∧ Gr w w' := by
  have hbx := World.alloc_heap_new w (.cells #[.int .i64 k, .slice fo nf cf, .slice no nn cn, .int .i64 di, .bool dl, .int .i64 rows, .int .i64 pr, .slice vo nds.length vc, .slice uo sls.length uc] 30)
  obtain ⟨p0, p1, p2, p3, p4, p5, p6, p7, p8⟩ := ce9 hbx
  have H8 := hidM h8
  clear hbx h8
  go_enter Tryd.func11, Tryd.ntmps11
  go_wp2_with (go_at_call 22; refine Hid.out ?_)
  unfold Hid
  refine Calls.mono (H8.out _ (gr_alloc w _)) ?_
  rintro e V ⟨rfl, hg⟩
  have HG := hidM ((gr_alloc w _).trans hg (fun _ _ h => h))
  clear hg
  go_wp2_with fail
  refine bodyPost_ret (v := .tuple #[.slice none 0 0, .int .i64 50]) ?_ rfl ⟨rfl, HG.out⟩
  simp [results, Tryd.f11, go_sem]
set_option maxRecDepth 100000 in
set_option maxHeartbeats 4000000 in
theorem put_true {k di rows pr : Int} {dl : Bool} {fo no vo uo : Option Addr} {nf cf nn cn vc uc : Nat} {nds : List (Int × Int)} {sls : List (Int × Int × Int)} {w : World} {bs : List UInt8} (hbs : bs.length ≤ 65536)
    (h8 : ∀ W, Gr w W → Calls Tryd.prog 22 #[.agg #[.int .i64 k, .slice fo nf cf, .slice no nn cn, .int .i64 di, .bool dl, .int .i64 rows, .int .i64 pr, .slice vo nds.length vc, .slice uo sls.length uc]] W fun e w' => e = .returned (.bool true) ∧ Gr W w')
    (h10 : ∀ W K, InkAt w W K [] → Calls Tryd.prog 24 #[.agg #[.pointer (some ⟨K, 0, none⟩)], .agg #[.int .i64 k, .slice fo nf cf, .slice no nn cn, .int .i64 di, .bool dl, .int .i64 rows, .int .i64 pr, .slice vo nds.length vc, .slice uo sls.length uc]] W fun e w' => e = .returned (.tuple #[]) ∧ InkAt w w' K bs ∧ KU K W w') :
    Calls Tryd.prog 11 #[.agg #[.int .i64 k, .slice fo nf cf, .slice no nn cn, .int .i64 di, .bool dl, .int .i64 rows, .int .i64 pr, .slice vo nds.length vc, .slice uo sls.length uc]] w fun e w' => ∃ B, e = .returned (.tuple #[.slice (some ⟨B, 0, none⟩) bs.length bs.length, .int .i64 0]) ∧ w.heap.size ≤ B ∧ w'.heap[B]? = some (.cells (bv bs).toArray 5 (0, 0)) ∧ Gr w w' := by
  have hbx := World.alloc_heap_new w (.cells #[.int .i64 k, .slice fo nf cf, .slice no nn cn, .int .i64 di, .bool dl, .int .i64 rows, .int .i64 pr, .slice vo nds.length vc, .slice uo sls.length uc] 30)
  obtain ⟨p0, p1, p2, p3, p4, p5, p6, p7, p8⟩ := ce9 hbx
  have H8 := hidM h8
  have H10 := hidM h10
  have HBs := hidM hbs
  clear hbx h8 h10 hbs
  go_enter Tryd.func11, Tryd.ntmps11
  go_wp2_with (go_at_call 22; refine Hid.out ?_)
  unfold Hid
  refine Calls.mono (H8.out _ (gr_alloc w _)) ?_
  rintro e V ⟨rfl, hg⟩

  have t0 := hg.cell' p0 id
  have t1 := hg.cell' p1 id
  have t2 := hg.cell' p2 id
  have t3 := hg.cell' p3 id
  have t4 := hg.cell' p4 id
  have t5 := hg.cell' p5 id
  have t6 := hg.cell' p6 id
  have t7 := hg.cell' p7 id
  have t8 := hg.cell' p8 id
  have HG := hidM ((gr_alloc w _).trans hg (fun _ _ h => h))
  clear hg p0 p1 p2 p3 p4 p5 p6 p7 p8
  go_wp2_with (go_at_call 23; refine Hid.out ?_)
  unfold Hid
  refine Calls.mono (newInk_any V) ?_
  rintro e V1 ⟨rfl, hV1⟩
  have hK : V1.heap[V.heap.size]? = some (.cells #[.slice none 0 0, .int .i64 65536] 88) := by rw [hV1]; exact heap_alloc_new V _
  have hs : V1.heap.size = V.heap.size + 1 := by rw [hV1]; simp
  have hg1 : Gr V V1 := by rw [hV1]; exact gr_alloc _ _
  have HI0 : Hid (InkAt w (V1.alloc (.cells #[.pointer (some ⟨V.heap.size, 0, none⟩)] 69)) V.heap.size []) := by
    have g2 : Gr V (V1.alloc (.cells #[.pointer (some ⟨V.heap.size, 0, none⟩)] 69)) := hg1.trans (gr_alloc _ _) (fun _ _ h => h)
    refine ⟨HG.out.trans g2 (fun _ _ h => h), HG.out.size, none, 0, 0, ?_, World.ownsRow_nil _ _ _ _, fun g e => by simp [Value.ownBlock] at e⟩
    exact ((gr_alloc V1 _).block _ (by omega) id).trans hK
  have HKU : Hid ((V1.alloc (.cells #[.pointer (some ⟨V.heap.size, 0, none⟩)] 69)).heap[V1.heap.size]? = some (.cells #[.pointer (some ⟨V.heap.size, 0, none⟩)] 69)) := heap_alloc_new V1 _
  have hne : V1.heap.size ≠ V.heap.size := by omega
  have u0 : (V1.alloc (.cells #[.pointer (some ⟨V.heap.size, 0, none⟩)] 69)).cell? ⟨V1.heap.size, 0, none⟩ = some (.pointer (some ⟨V.heap.size, 0, none⟩)) := (ce1 (heap_alloc_new V1 _))
  have q0 := (hg1.trans (gr_alloc V1 (.cells #[.pointer (some ⟨V.heap.size, 0, none⟩)] 69)) (fun _ _ h => h)).cell' t0 id
  have q1 := (hg1.trans (gr_alloc V1 (.cells #[.pointer (some ⟨V.heap.size, 0, none⟩)] 69)) (fun _ _ h => h)).cell' t1 id
  have q2 := (hg1.trans (gr_alloc V1 (.cells #[.pointer (some ⟨V.heap.size, 0, none⟩)] 69)) (fun _ _ h => h)).cell' t2 id
  have q3 := (hg1.trans (gr_alloc V1 (.cells #[.pointer (some ⟨V.heap.size, 0, none⟩)] 69)) (fun _ _ h => h)).cell' t3 id
  have q4 := (hg1.trans (gr_alloc V1 (.cells #[.pointer (some ⟨V.heap.size, 0, none⟩)] 69)) (fun _ _ h => h)).cell' t4 id
  have q5 := (hg1.trans (gr_alloc V1 (.cells #[.pointer (some ⟨V.heap.size, 0, none⟩)] 69)) (fun _ _ h => h)).cell' t5 id
  have q6 := (hg1.trans (gr_alloc V1 (.cells #[.pointer (some ⟨V.heap.size, 0, none⟩)] 69)) (fun _ _ h => h)).cell' t6 id
  have q7 := (hg1.trans (gr_alloc V1 (.cells #[.pointer (some ⟨V.heap.size, 0, none⟩)] 69)) (fun _ _ h => h)).cell' t7 id
  have q8 := (hg1.trans (gr_alloc V1 (.cells #[.pointer (some ⟨V.heap.size, 0, none⟩)] 69)) (fun _ _ h => h)).cell' t8 id
  have HNe := hidM hne
  have HS := hidM hs
  clear t0 t1 t2 t3 t4 t5 t6 t7 t8 hg1 hK hV1 hne hs
  go_wp2_with (go_at_call 24; refine Hid.out ?_)
  unfold Hid
  refine Calls.mono (H10.out _ _ HI0.out) ?_
  rintro e V3 ⟨rfl, hi, hku⟩
  have r0 : V3.cell? ⟨V1.heap.size, 0, none⟩ = some (.pointer (some ⟨V.heap.size, 0, none⟩)) := ce1 (hku.2 _ _ _ HKU.out (by decide) HNe.out)
  have HI := hidM hi
  clear hku hi q0 q1 q2 q3 q4 q5 q6 q7 q8 u0
  go_wp2_with (go_at_call 25; refine Hid.out ?_)
  unfold Hid
  refine Calls.mono (inkBytes_any HI.out HBs.out) ?_
  rintro e V4 ⟨rfl, hb, hbel⟩
  have HB := hidM hb
  have HGe : Hid (Gr w V4) := HI.out.gr.trans ((Keeps.ofBelow hbel).mono fun k h1 h2 => by omega) (fun _ _ h => h)
  have HLe : Hid (w.heap.size ≤ V3.heap.size) := HI.out.gr.size
  clear hb hbel r0
  go_wp2_with fail
  refine bodyPost_ret (v := .tuple #[.slice (some ⟨V3.heap.size, 0, none⟩) bs.length bs.length, .int .i64 0]) ?_ rfl ⟨_, rfl, HLe.out, HB.out, HGe.out⟩
  simp [results, Tryd.f11, go_sem]

end Go.Proofs.YtdffjdlpbfcikaaDoor.Kit
