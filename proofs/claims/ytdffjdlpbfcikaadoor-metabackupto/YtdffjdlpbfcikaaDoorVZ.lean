import Derived.Test.YtdffjdlpbfcikaaDoorVW
import Derived.Test.YtdffjdlpbfcikaaDoorVU
import Derived.Test.YtdffjdlpbfcikaaDoorVC
import Derived.Test.YtdffjdlpbfcikaaDoorVK
import Derived.Test.YtdffjdlpbfcikaaDoorLK
namespace Go.Proofs.YtdffjdlpbfcikaaDoor.Kit
open Go.RowKit Go.Shelf Go.Deep
set_option linter.unusedVariables false
attribute [local go_sem] run_store_func

theorem NodesAt.gr {W W' : World} {vo : Option Addr} {l : List (Int × Int)} (h : NodesAt W vo l) (g : Gr W W') : NodesAt W' vo l :=
  ⟨h.1, fun hne => by
    obtain ⟨b, o, e, hc⟩ := h.2 hne
    exact ⟨b, o, e, fun i hi => ⟨g.cell' (hc i hi).1 id, g.cell' (hc i hi).2 id⟩⟩⟩
theorem SlotsAt.gr {W W' : World} {vo : Option Addr} {l : List (Int × Int × Int)} (h : SlotsAt W vo l) (g : Gr W W') : SlotsAt W' vo l :=
  ⟨h.1, fun hne => by
    obtain ⟨b, o, e, hc⟩ := h.2 hne
    exact ⟨b, o, e, fun i hi => ⟨g.cell' (hc i hi).1 id, g.cell' (hc i hi).2.1 id, g.cell' (hc i hi).2.2 id⟩⟩⟩
theorem tell (p : Prop) : ∃ z : Bool, p ↔ z = true := by
  by_cases h : p
  · exact ⟨true, by simp [h]⟩
  · exact ⟨false, by simp [h]⟩

set_option maxRecDepth 100000 in
set_option maxHeartbeats 4000000 in
theorem bodyMay_any {k di rows pr : Int} {dl : Bool} {fo no vo uo : Option Addr} {nf cf nn cn vc uc : Nat} {nds : List (Int × Int)} {sls : List (Int × Int × Int)} {w : World} (z : Bool) (hz : (nf = 0 ∧ nn = 0 ∧ (0 ≤ rows ∧ rows ≤ 4096) ∧ (0 ≤ pr ∧ pr ≤ 2) ∧ (nds.length ≤ 512 ∧ ∀ n ∈ nds, nodeOk n) ∧ (sls.length ≤ 1536 ∧ ∀ s ∈ sls, slotOk s)) ↔ z = true) (hf : nf ≤ 1000000000000) (hn : nn ≤ 1000000000000) (hv : NodesAt w vo nds) (hu : SlotsAt w uo sls) :
    Calls Tryd.prog 37 #[.agg #[.int .i64 k, .slice fo nf cf, .slice no nn cn, .int .i64 di, .bool dl, .int .i64 rows, .int .i64 pr, .slice vo nds.length vc, .slice uo sls.length uc]] w fun e w' => e = .returned (.bool z) ∧ Gr w w' := by
  have hlv : nds.length ≤ 1000000000000 := hv.1
  have hlu : sls.length ≤ 1000000000000 := hu.1
  have hbx := World.alloc_heap_new w (.cells #[.int .i64 k, .slice fo nf cf, .slice no nn cn, .int .i64 di, .bool dl, .int .i64 rows, .int .i64 pr, .slice vo nds.length vc, .slice uo sls.length uc] 30)
  obtain ⟨p0, p1, p2, p3, p4, p5, p6, p7, p8⟩ := ce9 hbx
  have HNo : Hid (∀ P : Prop, ¬ P → ((nf = 0 ∧ nn = 0 ∧ (0 ≤ rows ∧ rows ≤ 4096) ∧ (0 ≤ pr ∧ pr ≤ 2) ∧ (nds.length ≤ 512 ∧ ∀ n ∈ nds, nodeOk n) ∧ (sls.length ≤ 1536 ∧ ∀ s ∈ sls, slotOk s)) → P) → z = false) := fun P hP h => by
    cases z with
    | false => rfl
    | true => exact absurd (h (hz.2 rfl)) hP
  have HYe := hidM hz
  obtain ⟨y1, hy1⟩ := tell (nds.length ≤ 512 ∧ ∀ n ∈ nds, nodeOk n)
  obtain ⟨y2, hy2⟩ := tell (sls.length ≤ 1536 ∧ ∀ s ∈ sls, slotOk s)
  have H28 : Hid (∀ V, Gr w V → Calls Tryd.prog 54 #[.slice vo nds.length vc] V fun e w' => e = .returned (.bool y1) ∧ Gr V w') := fun V g => nodesMay_any y1 hy1 (hv.gr g)
  have H29 : Hid (∀ V, Gr w V → Calls Tryd.prog 55 #[.slice uo sls.length uc] V fun e w' => e = .returned (.bool y2) ∧ Gr V w') := fun V g => slotsMay_any y2 hy2 (hu.gr g)
  have HY1 := hidM hy1
  have HY2 := hidM hy2
  clear hz hv hu hbx hy1 hy2
  go_enter Tryd.func37, Tryd.ntmps37

  by_cases znf : nf = 0
  rotate_left
  · have znfI : (0 : Int) < (nf : Int) := by omega
    have HN := hidM znf
    clear znf
    have HZ : Hid (z = false) := HNo.out _ (HN.out) (fun h => h.1)
    go_wp2_with fail
    go_ret
    exact ⟨by rw [HZ.out]; rfl, gr_alloc _ _⟩
  subst znf
  by_cases znn : nn = 0
  rotate_left
  · have znnI : (0 : Int) < (nn : Int) := by omega
    have HN := hidM znn
    clear znn
    have HZ : Hid (z = false) := HNo.out _ (HN.out) (fun h => h.2.1)
    go_wp2_with fail
    go_ret
    exact ⟨by rw [HZ.out]; rfl, gr_alloc _ _⟩
  subst znn
  by_cases xr : 0 ≤ rows ∧ rows ≤ 4096
  rotate_left
  · have ur := upF xr
    have HN := hidM xr
    clear xr
    have HZ : Hid (z = false) := HNo.out _ (HN.out) (fun h => h.2.2.1)
    go_wp2_with (go_at_call 36; with_reducible refine (ur _).mono ?_; rintro e w' ⟨rfl, rfl⟩)
    go_ret
    exact ⟨by rw [HZ.out]; rfl, gr_alloc _ _⟩
  have ur := upT xr
  have HXr := hidM xr
  clear xr
  by_cases xp : 0 ≤ pr ∧ pr ≤ 2
  rotate_left
  · have up := prF xp
    have HN := hidM xp
    clear xp
    have HZ : Hid (z = false) := HNo.out _ (HN.out) (fun h => h.2.2.2.1)
    go_wp2_with (first | (go_at_call 36; with_reducible refine (ur _).mono ?_; rintro e w' ⟨rfl, rfl⟩) | (go_at_call 53; with_reducible refine (up _).mono ?_; rintro e w' ⟨rfl, rfl⟩))
    go_ret
    exact ⟨by rw [HZ.out]; rfl, gr_alloc _ _⟩
  have up := prT xp
  have HXp := hidM xp
  clear xp
  go_wp2_with (first | (go_at_call 36; with_reducible refine (ur _).mono ?_; rintro e w' ⟨rfl, rfl⟩) | (go_at_call 53; with_reducible refine (up _).mono ?_; rintro e w' ⟨rfl, rfl⟩) | (go_at_call 54; refine Hid.out ?_))
  unfold Hid
  refine Calls.mono (H28.out _ (gr_alloc w _)) ?_
  rintro e V ⟨rfl, hg⟩
  have t8 := hg.cell' p8 id
  have HG := hidM ((gr_alloc w _).trans hg (fun _ _ h => h))
  clear hg
  cases y1 with
  | false =>
    have HZ : Hid (z = false) := HNo.out _ (fun h => by have := HY1.out.1 h; cases this) (fun h => h.2.2.2.2.1)
    go_wp2_with fail
    go_ret
    exact ⟨by rw [HZ.out]; rfl, HG.out⟩
  | true =>
    go_wp2_with (go_at_call 55; refine Hid.out ?_)
    unfold Hid
    refine Calls.mono (H29.out _ HG.out) ?_
    rintro e V2 ⟨rfl, hg2⟩
    have HG2 := hidM (HG.out.trans hg2 (fun _ _ h => h))
    clear hg2
    have HZ : Hid (z = y2) := by
      show _ = _
      cases y2 with
      | true => exact HYe.out.1 ⟨by trivial, by trivial, HXr.out, HXp.out, HY1.out.2 (by trivial), HY2.out.2 rfl⟩
      | false => exact HNo.out _ (fun h => by have := HY2.out.1 h; cases this) (fun h => h.2.2.2.2.2)
    go_wp2_with fail
    go_ret
    exact ⟨by rw [HZ.out]; rfl, HG2.out⟩

set_option maxRecDepth 100000 in
set_option maxHeartbeats 4000000 in
theorem mayBe_any {k di rows pr : Int} {dl : Bool} {fo no vo uo : Option Addr} {nf cf nn cn vc uc : Nat} {nds : List (Int × Int)} {sls : List (Int × Int × Int)} {w : World} {Y : Prop} (y z : Bool) (hY : Y ↔ y = true) (hz : HOk Y k nf nn di dl rows pr nds sls ↔ z = true) (hf : nf ≤ 1000000000000) (hn : nn ≤ 1000000000000) (hv : NodesAt w vo nds) (hu : SlotsAt w uo sls)
    (h18 : k = 1 → ∀ W, Gr w W → Calls Tryd.prog 35 #[.agg #[.slice fo nf cf, .slice no nn cn]] W fun e w' => ∃ er so sn sc tt, e = .returned (.agg #[.int .i64 er, .slice so sn sc, .int .i64 tt]) ∧ (er == 0) = y ∧ Gr W w') :
    Calls Tryd.prog 22 #[.agg #[.int .i64 k, .slice fo nf cf, .slice no nn cn, .int .i64 di, .bool dl, .int .i64 rows, .int .i64 pr, .slice vo nds.length vc, .slice uo sls.length uc]] w fun e w' => e = .returned (.bool z) ∧ Gr w w' := by
  have hlv : nds.length ≤ 1000000000000 := hv.1
  have hlu : sls.length ≤ 1000000000000 := hu.1
  have hbx := World.alloc_heap_new w (.cells #[.int .i64 k, .slice fo nf cf, .slice no nn cn, .int .i64 di, .bool dl, .int .i64 rows, .int .i64 pr, .slice vo nds.length vc, .slice uo sls.length uc] 30)
  obtain ⟨p0, p1, p2, p3, p4, p5, p6, p7, p8⟩ := ce9 hbx
  have HNo : Hid (∀ P : Prop, ¬ P → (HOk Y k nf nn di dl rows pr nds sls → P) → z = false) := fun P hP h => by
    cases z with
    | false => rfl
    | true => exact absurd (h (hz.2 rfl)) hP
  have HYe := hidM hz
  have HY := hidM hY
  obtain ⟨y1, hy1⟩ := tell (di = 0 ∧ dl = false ∧ rows = 0 ∧ pr = 0 ∧ nds.length = 0 ∧ sls.length = 0)
  obtain ⟨y2, hy2⟩ := tell (nf = 0 ∧ nn = 0 ∧ (0 ≤ rows ∧ rows ≤ 4096) ∧ (0 ≤ pr ∧ pr ≤ 2) ∧ (nds.length ≤ 512 ∧ ∀ n ∈ nds, nodeOk n) ∧ (sls.length ≤ 1536 ∧ ∀ s ∈ sls, slotOk s))
  have H17 : Hid (∀ V, Calls Tryd.prog 34 #[.agg #[.int .i64 k, .slice fo nf cf, .slice no nn cn, .int .i64 di, .bool dl, .int .i64 rows, .int .i64 pr, .slice vo nds.length vc, .slice uo sls.length uc]] V fun e w' => e = .returned (.bool y1) ∧ Gr V w') := fun V => saysNo_any y1 hy1 hlv hlu
  have H20 : Hid (∀ V, Gr w V → Calls Tryd.prog 37 #[.agg #[.int .i64 k, .slice fo nf cf, .slice no nn cn, .int .i64 di, .bool dl, .int .i64 rows, .int .i64 pr, .slice vo nds.length vc, .slice uo sls.length uc]] V fun e w' => e = .returned (.bool y2) ∧ Gr V w') := fun V g => bodyMay_any y2 hy2 hf hn (hv.gr g) (hu.gr g)
  have H18 := hidM h18
  have HY1 := hidM hy1
  have HY2 := hidM hy2
  clear hz hY hv hu hbx hy1 hy2 h18
  go_enter Tryd.func22, Tryd.ntmps22
  by_cases c1 : k = 1
  · have k1 : (k == 1) = true := by simp [c1]
    have HC1 := hidM c1
    clear c1
    go_wp2_with (go_at_call 34; refine Hid.out ?_)
    unfold Hid
    refine Calls.mono (H17.out _) ?_
    rintro e V ⟨rfl, hg⟩
    have t1 := hg.cell' p1 id
    have t2 := hg.cell' p2 id
    have HG := hidM ((gr_alloc w _).trans hg (fun _ _ h => h))
    clear hg
    cases y1 with
    | false =>
      have HZ : Hid (z = false) := HNo.out False id (fun h => by
        rcases h with h | h
        · have := HY1.out.1 ⟨h.2.1, h.2.2.1, h.2.2.2.1, h.2.2.2.2.1, h.2.2.2.2.2.1, h.2.2.2.2.2.2.1⟩
          cases this
        · have := HC1.out; omega)
      go_wp2_with fail
      go_ret
      exact ⟨by rw [HZ.out]; rfl, HG.out⟩
    | true =>
      go_wp2_with (go_at_call 35; refine Hid.out ?_)
      unfold Hid
      refine Calls.mono (H18.out HC1.out _ HG.out) ?_
      rintro e V2 ⟨er, so, sn, sc, tt, rfl, hy, hg2⟩
      have HG2 := hidM (HG.out.trans hg2 (fun _ _ h => h))
      have HZ : Hid (z = y) := by
        show _ = _
        cases y with
        | true =>
          have h1 := HY1.out.2 (by trivial)
          exact HYe.out.1 (.inl ⟨HC1.out, h1.1, h1.2.1, h1.2.2.1, h1.2.2.2.1, h1.2.2.2.2.1, h1.2.2.2.2.2, HY.out.2 rfl⟩)
        | false => exact HNo.out Y (fun h => by have := HY.out.1 h; cases this) (fun h => by
            rcases h with h | h
            · exact h.2.2.2.2.2.2.2
            · have := HC1.out; omega)
      clear hg2
      have hfl : ∀ vo vn vc w, (Instr.field 34 (.agg #[.int .i64 er, .slice vo vn vc, .int .i64 tt]) 0).run Tryd.prog w = .ok (.int .i64 er) w := fun vo vn vc w => by kernel_rfl
      cases y with
      | true =>
        go_wp2_with fail
        go_ret
        exact ⟨by rw [HZ.out]; rfl, HG2.out⟩
      | false =>
        go_wp2_with fail
        go_ret
        exact ⟨by rw [HZ.out]; rfl, HG2.out⟩
  have k1 : (k == 1) = false := beqF c1
  have HNo1 : Hid (∀ P : Prop, ¬ P → (((k = 2 ∨ k = 3) ∧ (nf = 0 ∧ nn = 0 ∧ (0 ≤ rows ∧ rows ≤ 4096) ∧ (0 ≤ pr ∧ pr ≤ 2) ∧ (nds.length ≤ 512 ∧ ∀ n ∈ nds, nodeOk n) ∧ (sls.length ≤ 1536 ∧ ∀ s ∈ sls, slotOk s)) ∧ (k = 2 → 0 ≤ di ∧ di ≤ 31) ∧ (k = 3 → di = 0 ∧ dl = false)) → P) → z = false) := fun P hP h => HNo.out P hP fun hh => by
    rcases hh with hh | hh
    · exact absurd hh.1 c1
    · exact h ⟨hh.1, ⟨hh.2.1, hh.2.2.1, hh.2.2.2.1, hh.2.2.2.2.1, ⟨hh.2.2.2.2.2.1, hh.2.2.2.2.2.2.2.2.2.1⟩, hh.2.2.2.2.2.2.1, hh.2.2.2.2.2.2.2.2.2.2⟩, hh.2.2.2.2.2.2.2.1, hh.2.2.2.2.2.2.2.2.1⟩
  have HYe1 : Hid ((k = 2 ∨ k = 3) → (nf = 0 ∧ nn = 0 ∧ (0 ≤ rows ∧ rows ≤ 4096) ∧ (0 ≤ pr ∧ pr ≤ 2) ∧ (nds.length ≤ 512 ∧ ∀ n ∈ nds, nodeOk n) ∧ (sls.length ≤ 1536 ∧ ∀ s ∈ sls, slotOk s)) → (k = 2 → 0 ≤ di ∧ di ≤ 31) → (k = 3 → di = 0 ∧ dl = false) → z = true) := fun h1 h2 h3 h4 =>
    HYe.out.1 (.inr ⟨h1, h2.1, h2.2.1, h2.2.2.1, h2.2.2.2.1, h2.2.2.2.2.1.1, h2.2.2.2.2.2.1, h3, h4, h2.2.2.2.2.1.2, h2.2.2.2.2.2.2⟩)
  clear c1 H18 HYe HNo
  by_cases c2 : k = 2
  · have k2 : (k == 2) = true := by simp [c2]
    have HC2 := hidM c2
    clear c2
    by_cases xd : 0 ≤ di ∧ di ≤ 31
    rotate_left
    · have ud := upF xd
      have HN := hidM xd
      clear xd
      have HZ : Hid (z = false) := HNo1.out _ HN.out (fun h => h.2.2.1 HC2.out)
      go_wp2_with (go_at_call 36; with_reducible refine (ud _).mono ?_; rintro e w' ⟨rfl, rfl⟩)
      go_ret
      exact ⟨by rw [HZ.out]; rfl, gr_alloc _ _⟩
    have ud := upT xd
    have HXd := hidM xd
    clear xd
    go_wp2_with (first | (go_at_call 36; with_reducible refine (ud _).mono ?_; rintro e w' ⟨rfl, rfl⟩) | (go_at_call 37; refine Hid.out ?_))
    unfold Hid
    refine Calls.mono (H20.out _ (gr_alloc w _)) ?_
    rintro e V ⟨rfl, hg⟩
    have HG := hidM ((gr_alloc w _).trans hg (fun _ _ h => h))
    clear hg
    have HZ : Hid (z = y2) := by
      show _ = _
      cases y2 with
      | true => exact HYe1.out (.inl HC2.out) (HY2.out.2 rfl) (fun _ => HXd.out) (fun e => by have := HC2.out; omega)
      | false => exact HNo1.out _ (fun h => by have := HY2.out.1 h; cases this) (fun h => h.2.1)
    go_wp2_with fail
    go_ret
    exact ⟨by rw [HZ.out]; rfl, HG.out⟩
  have k2 : (k == 2) = false := beqF c2
  by_cases c3 : k = 3
  · have k3 : (k == 3) = true := by simp [c3]
    have HC3 := hidM c3
    clear c3 c2
    by_cases xd : di = 0
    rotate_left
    · have xdb : (di == 0) = false := beqF xd
      have HN := hidM xd
      clear xd
      have HZ : Hid (z = false) := HNo1.out _ HN.out (fun h => (h.2.2.2 HC3.out).1)
      go_wp2_with fail
      go_ret
      exact ⟨by rw [HZ.out]; rfl, gr_alloc _ _⟩
    have xdb : (di == 0) = true := by simp [xd]
    have HXd := hidM xd
    clear xd
    cases dl with
    | true =>
      have HZ : Hid (z = false) := HNo1.out (true = false) (by decide) (fun h => (h.2.2.2 HC3.out).2)
      go_wp2_with fail
      go_ret
      exact ⟨by rw [HZ.out]; rfl, gr_alloc _ _⟩
    | false =>
      go_wp2_with (go_at_call 37; refine Hid.out ?_)
      unfold Hid
      refine Calls.mono (H20.out _ (gr_alloc w _)) ?_
      rintro e V ⟨rfl, hg⟩
      have HG := hidM ((gr_alloc w _).trans hg (fun _ _ h => h))
      clear hg
      have HZ : Hid (z = y2) := by
        show _ = _
        cases y2 with
        | true => exact HYe1.out (.inr HC3.out) (HY2.out.2 rfl) (fun e => by have := HC3.out; omega) (fun _ => ⟨HXd.out, by trivial⟩)
        | false => exact HNo1.out _ (fun h => by have := HY2.out.1 h; cases this) (fun h => h.2.1)
      go_wp2_with fail
      go_ret
      exact ⟨by rw [HZ.out]; rfl, HG.out⟩
  have k3 : (k == 3) = false := beqF c3
  have HZ : Hid (z = false) := HNo1.out False id (fun h => by omega)
  clear c2 c3
  go_wp2_with fail
  go_ret
  exact ⟨by rw [HZ.out]; rfl, gr_alloc _ _⟩

end Go.Proofs.YtdffjdlpbfcikaaDoor.Kit
namespace Go.Proofs.YtdffjdlpbfcikaaDoor.Kit
open Go.RowKit Go.Shelf Go.Deep
set_option linter.unusedVariables false
attribute [local go_sem] run_store_func

/-! ### Put -/
theorem ce1 {W : World} {B t : Nat} {x : Value} (h : W.heap[B]? = some (.cells #[x] t)) : W.cell? ⟨B, 0, none⟩ = some x := by simp [World.cell?, h]

set_option maxRecDepth 100000 in
set_option maxHeartbeats 4000000 in
theorem put_false {k di rows pr : Int} {dl : Bool} {fo no vo uo : Option Addr} {nf cf nn cn vc uc : Nat} {nds : List (Int × Int)} {sls : List (Int × Int × Int)} {w : World}
    (h8 : ∀ W, Gr w W → Calls Tryd.prog 22 #[.agg #[.int .i64 k, .slice fo nf cf, .slice no nn cn, .int .i64 di, .bool dl, .int .i64 rows, .int .i64 pr, .slice vo nds.length vc, .slice uo sls.length uc]] W fun e w' => e = .returned (.bool false) ∧ Gr W w') :
    Calls Tryd.prog 11 #[.agg #[.int .i64 k, .slice fo nf cf, .slice no nn cn, .int .i64 di, .bool dl, .int .i64 rows, .int .i64 pr, .slice vo nds.length vc, .slice uo sls.length uc]] w fun e w' => e = .returned (.tuple #[.slice none 0 0, .int .i64 50]) ∧ Gr w w' := by
  have hbx := World.alloc_heap_new w (.cells #[.int .i64 k, .slice fo nf cf, .slice no nn cn, .int .i64 di, .bool dl, .int .i64 rows, .int .i64 pr, .slice vo nds.length vc, .slice uo sls.length uc] 30)
  obtain ⟨p0, p1, p2, p3, p4, p5, p6, p7, p8⟩ := ce9 hbx
  have H8 := hidM h8
  clear hbx h8
  go_enter Tryd.func11, Tryd.ntmps11
  go_wp2_with (go_at_call 22; refine Hid.out ?_)
  unfold Hid
  refine Calls.mono (H8.out _ (gr_alloc w _)) ?_
  rintro e V ⟨rfl, hg⟩
  have HG := hidM ((gr_alloc w _).trans hg (fun _ _ h => h))
  clear hg
  go_wp2_with fail
  refine bodyPost_ret (v := .tuple #[.slice none 0 0, .int .i64 50]) ?_ rfl ⟨rfl, HG.out⟩
  simp [results, Tryd.f11, go_sem]
set_option maxRecDepth 100000 in
set_option maxHeartbeats 4000000 in
theorem put_true {k di rows pr : Int} {dl : Bool} {fo no vo uo : Option Addr} {nf cf nn cn vc uc : Nat} {nds : List (Int × Int)} {sls : List (Int × Int × Int)} {w : World} {bs : List UInt8} (hbs : bs.length ≤ 65536)
    (h8 : ∀ W, Gr w W → Calls Tryd.prog 22 #[.agg #[.int .i64 k, .slice fo nf cf, .slice no nn cn, .int .i64 di, .bool dl, .int .i64 rows, .int .i64 pr, .slice vo nds.length vc, .slice uo sls.length uc]] W fun e w' => e = .returned (.bool true) ∧ Gr W w')
    (h10 : ∀ W K, InkAt w W K [] → Calls Tryd.prog 24 #[.agg #[.pointer (some ⟨K, 0, none⟩)], .agg #[.int .i64 k, .slice fo nf cf, .slice no nn cn, .int .i64 di, .bool dl, .int .i64 rows, .int .i64 pr, .slice vo nds.length vc, .slice uo sls.length uc]] W fun e w' => e = .returned (.tuple #[]) ∧ InkAt w w' K bs ∧ KU K W w') :
    Calls Tryd.prog 11 #[.agg #[.int .i64 k, .slice fo nf cf, .slice no nn cn, .int .i64 di, .bool dl, .int .i64 rows, .int .i64 pr, .slice vo nds.length vc, .slice uo sls.length uc]] w fun e w' => ∃ B, e = .returned (.tuple #[.slice (some ⟨B, 0, none⟩) bs.length bs.length, .int .i64 0]) ∧ w.heap.size ≤ B ∧ w'.heap[B]? = some (.cells (bv bs).toArray 5 (0, 0)) ∧ Gr w w' := by
  have hbx := World.alloc_heap_new w (.cells #[.int .i64 k, .slice fo nf cf, .slice no nn cn, .int .i64 di, .bool dl, .int .i64 rows, .int .i64 pr, .slice vo nds.length vc, .slice uo sls.length uc] 30)
  obtain ⟨p0, p1, p2, p3, p4, p5, p6, p7, p8⟩ := ce9 hbx
  have H8 := hidM h8
  have H10 := hidM h10
  have HBs := hidM hbs
  clear hbx h8 h10 hbs
  go_enter Tryd.func11, Tryd.ntmps11
  go_wp2_with (go_at_call 22; refine Hid.out ?_)
  unfold Hid
  refine Calls.mono (H8.out _ (gr_alloc w _)) ?_
  rintro e V ⟨rfl, hg⟩

  have t0 := hg.cell' p0 id
  have t1 := hg.cell' p1 id
  have t2 := hg.cell' p2 id
  have t3 := hg.cell' p3 id
  have t4 := hg.cell' p4 id
  have t5 := hg.cell' p5 id
  have t6 := hg.cell' p6 id
  have t7 := hg.cell' p7 id
  have t8 := hg.cell' p8 id
  have HG := hidM ((gr_alloc w _).trans hg (fun _ _ h => h))
  clear hg p0 p1 p2 p3 p4 p5 p6 p7 p8
  go_wp2_with (go_at_call 23; refine Hid.out ?_)
  unfold Hid
  refine Calls.mono (newInk_any V) ?_
  rintro e V1 ⟨rfl, hV1⟩
  have hK : V1.heap[V.heap.size]? = some (.cells #[.slice none 0 0, .int .i64 65536] 88) := by rw [hV1]; exact heap_alloc_new V _
  have hs : V1.heap.size = V.heap.size + 1 := by rw [hV1]; simp
  have hg1 : Gr V V1 := by rw [hV1]; exact gr_alloc _ _
  have HI0 : Hid (InkAt w (V1.alloc (.cells #[.pointer (some ⟨V.heap.size, 0, none⟩)] 69)) V.heap.size []) := by
    have g2 : Gr V (V1.alloc (.cells #[.pointer (some ⟨V.heap.size, 0, none⟩)] 69)) := hg1.trans (gr_alloc _ _) (fun _ _ h => h)
    refine ⟨HG.out.trans g2 (fun _ _ h => h), HG.out.size, none, 0, 0, ?_, World.ownsRow_nil _ _ _ _, fun g e => by simp [Value.ownBlock] at e⟩
    exact ((gr_alloc V1 _).block _ (by omega) id).trans hK
  have HKU : Hid ((V1.alloc (.cells #[.pointer (some ⟨V.heap.size, 0, none⟩)] 69)).heap[V1.heap.size]? = some (.cells #[.pointer (some ⟨V.heap.size, 0, none⟩)] 69)) := heap_alloc_new V1 _
  have hne : V1.heap.size ≠ V.heap.size := by omega
  have u0 : (V1.alloc (.cells #[.pointer (some ⟨V.heap.size, 0, none⟩)] 69)).cell? ⟨V1.heap.size, 0, none⟩ = some (.pointer (some ⟨V.heap.size, 0, none⟩)) := (ce1 (heap_alloc_new V1 _))
  have q0 := (hg1.trans (gr_alloc V1 (.cells #[.pointer (some ⟨V.heap.size, 0, none⟩)] 69)) (fun _ _ h => h)).cell' t0 id
  have q1 := (hg1.trans (gr_alloc V1 (.cells #[.pointer (some ⟨V.heap.size, 0, none⟩)] 69)) (fun _ _ h => h)).cell' t1 id
  have q2 := (hg1.trans (gr_alloc V1 (.cells #[.pointer (some ⟨V.heap.size, 0, none⟩)] 69)) (fun _ _ h => h)).cell' t2 id
  have q3 := (hg1.trans (gr_alloc V1 (.cells #[.pointer (some ⟨V.heap.size, 0, none⟩)] 69)) (fun _ _ h => h)).cell' t3 id
  have q4 := (hg1.trans (gr_alloc V1 (.cells #[.pointer (some ⟨V.heap.size, 0, none⟩)] 69)) (fun _ _ h => h)).cell' t4 id
  have q5 := (hg1.trans (gr_alloc V1 (.cells #[.pointer (some ⟨V.heap.size, 0, none⟩)] 69)) (fun _ _ h => h)).cell' t5 id
  have q6 := (hg1.trans (gr_alloc V1 (.cells #[.pointer (some ⟨V.heap.size, 0, none⟩)] 69)) (fun _ _ h => h)).cell' t6 id
  have q7 := (hg1.trans (gr_alloc V1 (.cells #[.pointer (some ⟨V.heap.size, 0, none⟩)] 69)) (fun _ _ h => h)).cell' t7 id
  have q8 := (hg1.trans (gr_alloc V1 (.cells #[.pointer (some ⟨V.heap.size, 0, none⟩)] 69)) (fun _ _ h => h)).cell' t8 id
  have HNe := hidM hne
  have HS := hidM hs
  clear t0 t1 t2 t3 t4 t5 t6 t7 t8 hg1 hK hV1 hne hs
  go_wp2_with (go_at_call 24; refine Hid.out ?_)
  unfold Hid
  refine Calls.mono (H10.out _ _ HI0.out) ?_
  rintro e V3 ⟨rfl, hi, hku⟩
  have r0 : V3.cell? ⟨V1.heap.size, 0, none⟩ = some (.pointer (some ⟨V.heap.size, 0, none⟩)) := ce1 (hku.2 _ _ _ HKU.out (by decide) HNe.out)
  have HI := hidM hi
  clear hku hi q0 q1 q2 q3 q4 q5 q6 q7 q8 u0
  go_wp2_with (go_at_call 25; refine Hid.out ?_)
  unfold Hid
  refine Calls.mono (inkBytes_any HI.out HBs.out) ?_
  rintro e V4 ⟨rfl, hb, hbel⟩
  have HB := hidM hb
  have HGe : Hid (Gr w V4) := HI.out.gr.trans ((Keeps.ofBelow hbel).mono fun k h1 h2 => by omega) (fun _ _ h => h)
  have HLe : Hid (w.heap.size ≤ V3.heap.size) := HI.out.gr.size
  clear hb hbel r0
  go_wp2_with fail
  refine bodyPost_ret (v := .tuple #[.slice (some ⟨V3.heap.size, 0, none⟩) bs.length bs.length, .int .i64 0]) ?_ rfl ⟨_, rfl, HLe.out, HB.out, HGe.out⟩
  simp [results, Tryd.f11, go_sem]

end Go.Proofs.YtdffjdlpbfcikaaDoor.Kit
namespace Go.Proofs.YtdffjdlpbfcikaaDoor.Kit
open Go.RowKit Go.Shelf Go.Deep
set_option linter.unusedVariables false

/-! ### fields left out, or put behind: what is wrong then -/
/-- y is no worse than x -/
structure Sim (x y : LS) : Prop where
  fld : y.fld = x.fld
  len : y.path.length = x.path.length
  inD : y.inD = x.inD
  idx : idxOf x.list x.fld.name = x.idx → idxOf y.list y.fld.name = y.idx
inductive SubSim : List LS → List LS → Prop
  | nil : SubSim [] []
  | skip {M N : List LS} (x : LS) : SubSim M N → SubSim M (x :: N)
  | take {M N : List LS} {x y : LS} : Sim x y → SubSim M N → SubSim (y :: M) (x :: N)
theorem SubSim.skips {M N : List LS} (h : SubSim M N) : ∀ L : List LS, SubSim M (L ++ N)
  | [] => h
  | x :: L => .skip x (h.skips L)
theorem SubSim.append {M N M' N' : List LS} (h : SubSim M N) (h' : SubSim M' N') : SubSim (M ++ M') (N ++ N') := by
  induction h with
  | nil => exact h'
  | skip x _ ih => exact .skip x ih
  | take s _ ih => exact .take s ih
theorem SubSim.none : ∀ N : List LS, SubSim [] N
  | [] => .nil
  | x :: N => .skip x (SubSim.none N)
theorem SubSim.flat {f g : Nat → List LS} : ∀ (l : List Nat), (∀ i ∈ l, SubSim (f i) (g i)) → SubSim (l.flatMap f) (l.flatMap g)
  | [], _ => .nil
  | i :: l, h => by
    simp only [List.flatMap_cons]
    exact (h i (List.mem_cons_self ..)).append (SubSim.flat l fun j hj => h j (List.mem_cons_of_mem _ hj))
theorem wr_mono {m : Nat} {a a' : Int} {nR : Bool} {idx i idx' i' : Int} {tb nl d : Bool} {k : Int} {kd tk tk' : Bool} (h : wr m a nR idx i tb nl d k kd tk = 0) (ha : a' ≤ a) (hi : idx = i → idx' = i') (ht : tk' = true → tk = true) : wr m a' nR idx' i' tb nl d k kd tk' = 0 := by
  unfold wr at h ⊢
  by_cases a1 : 64 < m
  · rw [if_pos a1] at h; omega
  rw [if_neg a1] at h ⊢
  by_cases a2 : 256 ≤ a
  · rw [if_pos a2] at h; omega
  rw [if_neg a2] at h
  rw [if_neg (show ¬ 256 ≤ a' by omega)]
  by_cases a3 : nR = false
  · rw [if_pos a3] at h; omega
  rw [if_neg a3] at h ⊢
  by_cases a4 : idx = i
  · rw [if_neg (show ¬ idx ≠ i from fun g => g a4)] at h
    rw [if_neg (show ¬ idx' ≠ i' from fun g => g (hi a4))]
    by_cases a5 : tb = false
    · rw [if_pos a5] at h; omega
    rw [if_neg a5] at h ⊢
    by_cases a6 : nl = false
    · rw [if_pos a6] at h; omega
    rw [if_neg a6] at h ⊢
    by_cases a7 : d = true ∧ (k = 19 ∨ k = 20)
    · rw [if_pos a7] at h; omega
    rw [if_neg a7] at h ⊢
    by_cases a8 : k = 19 ∧ (kd = true ∨ tk = true)
    · rw [if_pos a8] at h; omega
    rw [if_neg (show ¬ (k = 19 ∧ (kd = true ∨ tk' = true)) from fun g => a8 ⟨g.1, g.2.elim .inl fun e => .inr (ht e)⟩)]
  · rw [if_pos a4] at h; omega
theorem wrongE_mono {x y : LS} {a a' : Nat} {t t' : Nat → Bool} (s : Sim x y) (h : wrongE x a t = 0) (ha : a' ≤ a) (ht : ∀ n, t' n = true → t n = true) : wrongE y a' t' = 0 := by
  unfold wrongE at h ⊢
  rw [s.len, s.inD, s.fld]
  have e := s.idx
  rw [s.fld] at e
  exact wr_mono h (by omega) e (ht _)
theorem tkL_append (l l' : List LS) (n : Nat) : tkL (l ++ l') n = (tkL l n || tkL l' n) := by simp [tkL]
theorem tkL_cons (x : LS) (l : List LS) (n : Nat) : tkL (x :: l) n = ((decide (x.fld.kind = 19) && decide (x.fld.id.toNat = n)) || tkL l n) := by simp [tkL]
/-- all right, others standing ahead -/
def AllP (a : Nat) (t : Nat → Bool) (N : List LS) : Prop := ∀ k (h : k < N.length), wrongE N[k] (a + k) (fun n => t n || tkL (N.take k) n) = 0
theorem AllP.of {N : List LS} (h : AllR N) : AllP 0 (fun _ => false) N := fun k hk => by
  have := h k hk
  simpa using this
theorem AllP.to {N : List LS} (h : AllP 0 (fun _ => false) N) : AllR N := fun k hk => by
  have := h k hk
  simpa using this
theorem AllP.head {a : Nat} {t : Nat → Bool} {x : LS} {N : List LS} (h : AllP a t (x :: N)) : wrongE x a t = 0 := by
  have := h 0 (by simp)
  simpa [tkL] using this
theorem AllP.tail {a : Nat} {t : Nat → Bool} {x : LS} {N : List LS} (h : AllP a t (x :: N)) : AllP (a + 1) (fun n => t n || (decide (x.fld.kind = 19) && decide (x.fld.id.toNat = n))) N := fun k hk => by
  have := h (k + 1) (by simp; omega)
  simp only [List.getElem_cons_succ, List.take_succ_cons, tkL_cons] at this
  rw [show a + 1 + k = a + (k + 1) by omega]
  simpa [Bool.or_assoc] using this
theorem AllP.cons {a : Nat} {t : Nat → Bool} {x : LS} {N : List LS} (h0 : wrongE x a t = 0) (h : AllP (a + 1) (fun n => t n || (decide (x.fld.kind = 19) && decide (x.fld.id.toNat = n))) N) : AllP a t (x :: N) := fun k hk => by
  cases k with
  | zero => simpa [tkL] using h0
  | succ k =>
    have := h k (by simpa using hk)
    simp only [List.getElem_cons_succ, List.take_succ_cons, tkL_cons]
    rw [show a + (k + 1) = a + 1 + k by omega]
    simpa [Bool.or_assoc] using this
theorem SubSim.allP {M N : List LS} (s : SubSim M N) : ∀ {a a' : Nat} {t t' : Nat → Bool}, AllP a t N → a' ≤ a → (∀ n, t' n = true → t n = true) → AllP a' t' M := by
  induction s with
  | nil => exact fun _ _ _ k hk => by simp at hk
  | skip x _ ih => exact fun h ha ht => ih h.tail (by omega) fun n e => by simp [ht n e]
  | take s _ ih =>
    rename_i M N x y _
    refine fun {a a' t t'} h ha ht => AllP.cons (wrongE_mono s h.head ha ht) (ih h.tail (by omega) fun n e => ?_)
    rw [s.fld, Bool.or_eq_true] at e
    rw [Bool.or_eq_true]
    exact e.imp (ht n) id
theorem SubSim.allR {M N : List LS} (s : SubSim M N) (h : AllR N) : AllR M := (s.allP (AllP.of h) (Nat.le_refl _) fun _ e => by cases e).to

theorem nodes_cond (d : Nat) (l : List FT) (p : List Nat) (b : Bool) : nodes (d + 1) l p b = (List.range l.length).flatMap fun i => ⟨l, p ++ [i], b⟩ :: nodes d (l[i]!).kids (p ++ [i]) (b || decide ((l[i]!).kind = 19)) := rfl
/-- what lies within a field does not hang on where the field stands -/
theorem nodes_sim : ∀ (d : Nat) (l : List FT) (p p' : List Nat) (b : Bool), p.length = p'.length → SubSim (nodes d l p' b) (nodes d l p b)
  | 0, _, _, _, _, _ => .nil
  | d + 1, l, p, p', b, h => by
    rw [nodes_cond, nodes_cond]
    refine SubSim.flat _ fun i hi => .take ?_ (nodes_sim d _ _ _ _ (by simp [h]))
    exact ⟨by simp [LS.fld, LS.idx], by simp [h], rfl, by simp [LS.fld, LS.idx]⟩
/-- a field of one list and the same field of another one -/
theorem block_sim {d : Nat} {l l' : List FT} {i j : Nat} {b : Bool} (hi : i < l.length) (hj : j < l'.length) (e : l'[j] = l[i]) (hx : idxOf l (l[i]).name = i → idxOf l' (l[i]).name = j) :
    SubSim (⟨l', [] ++ [j], b⟩ :: nodes d (l'[j]!).kids ([] ++ [j]) (b || decide ((l'[j]!).kind = 19))) (⟨l, [] ++ [i], b⟩ :: nodes d (l[i]!).kids ([] ++ [i]) (b || decide ((l[i]!).kind = 19))) := by
  have e1 : l[i]! = l[i] := getElem!_pos l i hi
  have e2 : l'[j]! = l[i] := (getElem!_pos l' j hj).trans e
  rw [e1, e2]
  refine .take ⟨?_, rfl, rfl, ?_⟩ (nodes_sim _ _ _ _ _ rfl)
  · simp [LS.fld, LS.idx, hi, hj, e]
  · simp only [LS.fld, LS.idx, List.nil_append, List.getLastD_cons, List.getLastD_nil]
    rw [List.getElem?_eq_getElem hi, List.getElem?_eq_getElem hj, e]
    simpa using hx
theorem idxOf_le {l : List FT} {nm : ByteArray} {k : Nat} (hk : k < l.length) (h : idxOf l nm = k) : (∀ i (h : i < l.length), i < k → sEq l[i].name nm = false) ∧ sEq l[k].name nm = true := by
  unfold idxOf at h
  split at h
  · rename_i hlt
    have e : l.findIdx (fun f => sEq f.name nm) = k := by omega
    have h1 := List.findIdx_getElem (xs := l) (p := fun f => sEq f.name nm) (w := hlt)
    refine ⟨fun i hi hik => ?_, ?_⟩
    · have := List.not_of_lt_findIdx (xs := l) (p := fun f => sEq f.name nm) (i := i) (by omega)
      simpa using this
    · subst e; exact h1
  · omega
theorem sEq_refl (a : ByteArray) : sEq a a = true := by simp [sEq]
/-- a list without its k-th -/
def lessF (l : List FT) (k : Nat) : List FT := l.take k ++ l.drop (k + 1)
theorem lessF_len (l : List FT) (k : Nat) (hk : k < l.length) : (lessF l k).length = l.length - 1 := by simp [lessF]; omega
theorem lessF_lo {l : List FT} {k i : Nat} (hk : k < l.length) (hi : i < k) : (lessF l k)[i]'(by rw [lessF_len l k hk]; omega) = l[i]'(by omega) := by
  simp only [lessF]
  rw [List.getElem_append_left (by simp; omega)]
  simp
theorem lessF_hi {l : List FT} {k i : Nat} (hi : k + 1 + i < l.length) : (lessF l k)[k + i]'(by rw [lessF_len l k (by omega)]; omega) = l[k + 1 + i]'hi := by
  simp only [lessF]
  rw [List.getElem_append_right (by simp; omega)]
  simp only [List.getElem_drop, List.length_take]
  congr 1
  omega
theorem less_idx {l : List FT} {k j : Nat} (hk : k < l.length) (hj : j < (lessF l k).length) (i : Nat) (hi : i < l.length) (e : (lessF l k)[j] = l[i]) (hij : i = if j < k then j else j + 1) (hx : idxOf l (l[i]).name = i) : idxOf (lessF l k) (l[i]).name = j := by
  have h := (idxOf_le hi hx).1
  have hlen := lessF_len l k hk
  refine idxOf_some hj (fun q hq hlt => ?_) (by rw [e]; exact sEq_refl _)
  by_cases c : q < k
  · rw [lessF_lo hk c]
    refine h q (by omega) ?_
    split at hij <;> omega
  · obtain ⟨r, rfl⟩ : ∃ r, q = k + r := ⟨q - k, by omega⟩
    rw [lessF_hi (by omega)]
    refine h _ (by omega) ?_
    split at hij <;> omega
theorem less_sub (d : Nat) (l : List FT) (k : Nat) (hk : k < l.length) : SubSim (nodes (d + 1) (lessF l k) [] false) (nodes (d + 1) l [] false) := by
  have hlen := lessF_len l k hk
  obtain ⟨m, hm⟩ : ∃ m, l.length = k + (1 + m) := ⟨l.length - k - 1, by omega⟩
  have hm' : (lessF l k).length = k + m := by omega
  rw [nodes_cond, nodes_cond, hm, hm', List.range_add, List.range_add, List.flatMap_append, List.flatMap_append]
  refine SubSim.append (SubSim.flat _ fun i hi => ?_) ?_
  · have hik : i < k := by simpa using hi
    exact block_sim (by omega) (by omega) (lessF_lo hk hik) (fun hx => less_idx hk (by omega) i (by omega) (lessF_lo hk hik) (by simp [hik]) hx)
  · rw [List.range_add, List.map_append, List.flatMap_append]
    refine SubSim.skips ?_ _
    simp only [List.map_map, List.flatMap_map]
    refine SubSim.flat _ fun i hi => ?_
    have him : i < m := by simpa using hi
    have e : k + (1 + i) = k + 1 + i := by omega
    show SubSim _ (⟨l, [] ++ [k + (1 + i)], false⟩ :: nodes d (l[k + (1 + i)]!).kids ([] ++ [k + (1 + i)]) (false || decide ((l[k + (1 + i)]!).kind = 19)))
    rw [e]
    exact block_sim (by omega) (by omega) (lessF_hi (by omega)) (fun hx => less_idx hk (by omega) (k + 1 + i) (by omega) (lessF_hi (by omega)) (by rw [if_neg (by omega)]; omega) hx)
theorem one_sub (d : Nat) (l : List FT) (k : Nat) (hk : k < l.length) : SubSim (nodes (d + 1) [l[k]] [] false) (nodes (d + 1) l [] false) := by
  obtain ⟨m, hm⟩ : ∃ m, l.length = k + (1 + m) := ⟨l.length - k - 1, by omega⟩
  rw [nodes_cond, nodes_cond, hm, List.range_add, List.flatMap_append, List.range_add, List.map_append, List.flatMap_append]
  refine SubSim.skips ?_ _
  have e : (List.range [l[k]].length).flatMap (fun i => (⟨[l[k]], [] ++ [i], false⟩ : LS) :: nodes d ([l[k]][i]!).kids ([] ++ [i]) (false || decide (([l[k]][i]!).kind = 19))) = ((⟨[l[k]], [] ++ [0], false⟩ : LS) :: nodes d ([l[k]][0]!).kids ([] ++ [0]) (false || decide (([l[k]][0]!).kind = 19))) ++ [] := by simp
  rw [e]
  refine SubSim.append ?_ (SubSim.none _)
  simp only [List.range_one, List.map_cons, List.map_nil, List.flatMap_cons, List.flatMap_nil, List.append_nil, Nat.add_zero]
  exact block_sim hk (by simp) rfl fun _ => idxOf_some (by simp) (fun i _ h => by omega) (by simpa using sEq_refl _)
theorem more_sub (d : Nat) (l : List FT) (f : FT) : SubSim (upto d (l ++ [f]) [] false l.length) (nodes (d + 1) l [] false) := by
  rw [nodes_cond]
  unfold upto
  refine SubSim.flat _ fun i hi => ?_
  have hil : i < l.length := by simpa using hi
  refine block_sim hil (by simp; omega) (by simp [hil]) fun hx => ?_
  have h := idxOf_le hil hx
  refine idxOf_some (by simp; omega) (fun q hq hlt => ?_) (by simpa [hil] using h.2)
  have hql : q < l.length := by omega
  rw [List.getElem_append_left hql]
  exact h.1 q hql hlt
theorem SubSim.len {f g : Nat → List LS} (l : List Nat) (h : ∀ i ∈ l, (f i).length = (g i).length) : (l.flatMap f).length = (l.flatMap g).length := by
  induction l with
  | nil => rfl
  | cons i l ih => simp only [List.flatMap_cons, List.length_append]; rw [h i (List.mem_cons_self ..), ih fun j hj => h j (List.mem_cons_of_mem _ hj)]
theorem nodes_len : ∀ (d : Nat) (l : List FT) (p p' : List Nat) (b b' : Bool), (nodes d l p b).length = (nodes d l p' b').length
  | 0, _, _, _, _, _ => rfl
  | d + 1, l, p, p', b, b' => by
    rw [nodes_cond, nodes_cond]
    exact SubSim.len _ fun i _ => by simp only [List.length_cons]; rw [nodes_len d]
theorem block_len {d : Nat} {l l' : List FT} {i j : Nat} {b : Bool} (hi : i < l.length) (hj : j < l'.length) (e : l'[j] = l[i]) :
    ((⟨l', [] ++ [j], b⟩ : LS) :: nodes d (l'[j]!).kids ([] ++ [j]) (b || decide ((l'[j]!).kind = 19))).length = ((⟨l, [] ++ [i], b⟩ : LS) :: nodes d (l[i]!).kids ([] ++ [i]) (b || decide ((l[i]!).kind = 19))).length := by
  have e1 : l[i]! = l[i] := getElem!_pos l i hi
  have e2 : l'[j]! = l[i] := (getElem!_pos l' j hj).trans e
  rw [e1, e2]
  simp only [List.length_cons]
  rw [nodes_len d]
theorem less_len (d : Nat) (l : List FT) (k : Nat) (hk : k < l.length) : (nodes (d + 1) (lessF l k) [] false).length + (nodes (d + 1) [l[k]] [] false).length = (nodes (d + 1) l [] false).length := by
  have hlen := lessF_len l k hk
  obtain ⟨m, hm⟩ : ∃ m, l.length = k + (1 + m) := ⟨l.length - k - 1, by omega⟩
  have hm' : (lessF l k).length = k + m := by omega
  have e : nodes (d + 1) [l[k]] [] false = ((⟨[l[k]], [] ++ [0], false⟩ : LS) :: nodes d ([l[k]][0]!).kids ([] ++ [0]) (false || decide (([l[k]][0]!).kind = 19))) := by rw [nodes_cond]; simp
  have e' := block_len (d := d) (l := l) (l' := [l[k]]) (i := k) (j := 0) (b := false) hk (by simp) rfl
  rw [e, e']
  rw [nodes_cond, nodes_cond, hm, hm', List.range_add, List.range_add, List.flatMap_append, List.flatMap_append, List.range_add, List.map_append, List.flatMap_append]
  simp only [List.length_append, List.map_map, List.flatMap_map, List.range_one, List.map_cons, List.map_nil, List.flatMap_cons, List.flatMap_nil, List.append_nil, Nat.add_zero]
  have h1 : ((List.range k).flatMap fun i => (⟨lessF l k, [] ++ [i], false⟩ : LS) :: nodes d ((lessF l k)[i]!).kids ([] ++ [i]) (false || decide (((lessF l k)[i]!).kind = 19))).length = ((List.range k).flatMap fun i => (⟨l, [] ++ [i], false⟩ : LS) :: nodes d (l[i]!).kids ([] ++ [i]) (false || decide ((l[i]!).kind = 19))).length :=
    SubSim.len _ fun i hi => by
      have hik : i < k := by simpa using hi
      exact block_len (by omega) (by omega) (lessF_lo hk hik)
  have h2 : ((List.range m).flatMap fun i => (⟨lessF l k, [] ++ [k + i], false⟩ : LS) :: nodes d ((lessF l k)[k + i]!).kids ([] ++ [k + i]) (false || decide (((lessF l k)[k + i]!).kind = 19))).length = ((List.range m).flatMap fun i => (⟨l, [] ++ [k + (1 + i)], false⟩ : LS) :: nodes d (l[k + (1 + i)]!).kids ([] ++ [k + (1 + i)]) (false || decide ((l[k + (1 + i)]!).kind = 19))).length :=
    SubSim.len _ fun i hi => by
      have him : i < m := by simpa using hi
      rw [show k + (1 + i) = k + 1 + i by omega]
      exact block_len (by omega) (by omega) (lessF_hi (by omega))
  rw [h1, h2]
  simp only [Function.comp_def]
  omega
/-- with one of its fields twice: the first wrong one is the last -/
theorem twice_bad (d : Nat) (l : List FT) (k : Nat) (hk : k < l.length) (h : AllR (nodes (d + 1) l [] false)) (ha : (nodes (d + 1) l [] false).length < 256) :
    ∃ L : List LS, L ++ [⟨l ++ [l[k]], [l.length], false⟩] <+: nodes (d + 1) (l ++ [l[k]]) [] false ∧ AllR L ∧ wrongE ⟨l ++ [l[k]], [l.length], false⟩ L.length (tkL L) = 31 := by
  refine ⟨upto d (l ++ [l[k]]) [] false l.length, ?_, (more_sub d l _).allR h, ?_⟩
  · have := upto_prefix d (l ++ [l[k]]) [] false (i := l.length + 1) (j := (l ++ [l[k]]).length) (by simp)
    rw [upto_succ] at this
    rw [nodes_succ]
    refine List.IsPrefix.trans ?_ this
    exact ⟨nodes d ((l ++ [l[k]])[l.length]!).kids ([] ++ [l.length]) (false || decide (((l ++ [l[k]])[l.length]!).kind = 19)), by rw [List.append_assoc]; rfl⟩
  · have hlen : (upto d (l ++ [l[k]]) [] false l.length).length = (nodes (d + 1) l [] false).length := by
      rw [nodes_cond]
      unfold upto
      refine SubSim.len _ fun i hi => ?_
      have hil : i < l.length := by simpa using hi
      exact block_len hil (by simp; omega) (by simp [hil])
    have hf : (⟨l ++ [l[k]], [l.length], false⟩ : LS).fld = l[k] := by simp [LS.fld, LS.idx]
    -- the field itself is right where it stands
    have hb : wrongE ⟨l, [k], false⟩ (upto d l [] false k).length (tkL (upto d l [] false k)) = 0 := by
      refine h.pre (x := ⟨l, [k], false⟩) ?_
      rw [nodes_succ]
      have := upto_prefix d l [] false (i := k + 1) (j := l.length) (by omega)
      rw [upto_succ] at this
      refine List.IsPrefix.trans ?_ this
      exact ⟨nodes d (l[k]!).kids ([] ++ [k]) (false || decide ((l[k]!).kind = 19)), by rw [List.append_assoc]; rfl⟩
    have hg : (⟨l, [k], false⟩ : LS).fld = l[k] := by simp [LS.fld, LS.idx, hk]
    unfold wrongE at hb ⊢
    rw [hf, hlen]
    rw [hg] at hb
    simp only [LS.idx, List.getLastD_cons, List.getLastD_nil, List.length_singleton] at hb ⊢
    have hn : nameB l[k].name = true ∧ idxOf l l[k].name = k := by
      unfold wr at hb
      rw [if_neg (by omega)] at hb
      split at hb
      · omega
      split at hb
      · omega
      split at hb
      · omega
      rename_i a1 a2
      exact ⟨by simpa using a1, by simpa using a2⟩
    have hi : idxOf (l ++ [l[k]]) l[k].name = k := by
      have hh := idxOf_le hk hn.2
      refine idxOf_some (by simp; omega) (fun q hq hlt => ?_) (by simpa [hk] using hh.2)
      have hql : q < l.length := by omega
      rw [List.getElem_append_left hql]
      exact hh.1 q hql hlt
    unfold wr
    rw [if_neg (by omega), if_neg (by omega), if_neg (by simp [hn.1]), if_pos (by rw [hi]; omega)]
end Go.Proofs.YtdffjdlpbfcikaaDoor.Kit
namespace Go.Proofs.YtdffjdlpbfcikaaDoor.Kit
open Go.RowKit Go.Shelf Go.Deep
set_option linter.unusedVariables false

/-! ### how long a head's bytes are -/
theorem Yes.allR {D : Nat} {fs : List FT} {ns : List (ByteArray × ByteArray)} (hd : deep D fs) (h : Yes D fs ns) : AllR (nodes D fs [] false) := by
  cases D with
  | zero =>
    have : fs = [] := hd
    subst this
    exact AllR.nil
  | succ d => exact (schema_may hd).2 ⟨h.2.2.2.1, h.2.2.2.2⟩
theorem AllR.name {P : List LS} (h : AllR P) {s : LS} (hs : s ∈ P) : nameB s.fld.name = true := by
  obtain ⟨k, hk, rfl⟩ := List.mem_iff_getElem.1 hs
  have := h k hk
  unfold wrongE wr at this
  split at this
  · omega
  split at this
  · omega
  split at this
  · omega
  rename_i a5
  simpa using a5
theorem AllR.few {P : List LS} (h : AllR P) : P.length ≤ 256 := by
  by_cases e : P.length ≤ 256
  · exact e
  have := h 256 (by omega)
  unfold wrongE wr at this
  split at this
  · omega
  split at this
  · omega
  rename_i a
  exact absurd (by omega : (256 : Int) ≤ ((256 : Nat) : Int)) a
theorem okMs_of {d : Nat} {fs : List FT} {p : List Nat} {b : Bool} (h : AllR (nodes d fs p b)) : ∀ g ∈ pre d fs, okM g := fun g hg => by
  rw [← nodes_pre d fs p b] at hg
  obtain ⟨s, hs, rfl⟩ := List.mem_map.1 hg
  refine ⟨?_, h.tab hs⟩
  have := h.name hs
  unfold nameB at this
  simp only [Bool.and_eq_true, decide_eq_true_eq] at this
  exact this.1.1.2
theorem hdB_len {f : FT} (ok : okM f) : (hdB f).length ≤ 54 := by
  have h1 := ok.1
  unfold hdB txtB extB flgB
  have : f.name.data.toList.length = f.name.size := Array.length_toList
  have h2 : (if f.nul = true then ([1] : List UInt8) else [0]).length = 1 := by split <;> rfl
  have h3 : (if f.kind = 14 ∨ f.kind = 16 then numB f.width.toNat 2 else if f.kind = 19 then numB f.id.toNat 2 ++ numB f.index.toNat 1 else if f.kind = 17 ∨ f.kind = 18 then numB f.kids.length 1 else []).length ≤ 3 := by
    split
    · simp [numB_len]
    split
    · simp [numB_len]
    split
    · simp [numB_len]
    · simp
  simp only [List.length_append, numB_len, h2, this]
  omega
theorem flat_len_le {α β : Type} (g : α → List β) (m : Nat) : ∀ (l : List α), (∀ x ∈ l, (g x).length ≤ m) → (l.flatMap g).length ≤ l.length * m
  | [], _ => by simp
  | x :: l, h => by
    have h1 := h x List.mem_cons_self
    have h2 := flat_len_le g m l (fun y hy => h y (List.mem_cons_of_mem _ hy))
    rw [List.flatMap_cons, List.length_append, List.length_cons, Nat.succ_mul]
    omega
theorem kidB_flat : ∀ (d : Nat) (l : List FT), (kidB d l).length = ((pre d l).flatMap hdB).length
  | 0, l => by simp [kidB, pre]
  | d + 1, l => by
    show (l.flatMap (fldB d)).length = ((l.flatMap fun f => f :: pre d f.kids).flatMap hdB).length
    induction l with
    | nil => simp
    | cons x l ih =>
      simp only [List.flatMap_cons, List.flatMap_append, List.length_append, ih, List.flatMap_cons, fldB_eq, kidB_flat d x.kids]
theorem kidB_len {D : Nat} {fs : List FT} (h : AllR (nodes D fs [] false)) : (kidB D fs).length ≤ 13824 := by
  rw [kidB_flat]
  have h1 := flat_len_le hdB 54 (pre D fs) (fun x hx => hdB_len (okMs_of h x hx))
  have h2 : (pre D fs).length ≤ 256 := by rw [← nodes_pre D fs [] false, List.length_map]; exact h.few
  have h3 : (pre D fs).length * 54 ≤ 256 * 54 := Nat.mul_le_mul_right _ h2
  omega
theorem noteBad_len {n : ByteArray × ByteArray} (h : noteBad n = false) : n.1.size ≤ 256 ∧ n.2.size ≤ 256 := by
  unfold noteBad at h
  simp only [Bool.or_eq_false_iff, decide_eq_false_iff_not] at h
  omega
theorem ntM_len {n : ByteArray × ByteArray} (h : n.1.size ≤ 256 ∧ n.2.size ≤ 256) : (ntM n).length ≤ 516 := by
  have h1 : n.1.data.toList.length = n.1.size := Array.length_toList
  have h2 : n.2.data.toList.length = n.2.size := Array.length_toList
  unfold ntM txtB
  simp only [List.length_append, numB_len, h1, h2]
  omega
theorem ndM_flat (l : List (Int × Int)) : (l.flatMap ndM).length ≤ l.length * 8 := flat_len_le _ 8 l fun x _ => by simp [ndM, numB_len]
theorem slM_flat (l : List (Int × Int × Int)) : (l.flatMap slM).length ≤ l.length * 12 := flat_len_le _ 12 l fun x _ => by simp [slM, numB_len]
theorem notes_len {ns : List (ByteArray × ByteArray)} (h : ∀ n ∈ ns, noteBad n = false) (hl : ns.length ≤ 16) : (ns.flatMap ntM).length ≤ 8256 := by
  have h1 := flat_len_le ntM 516 ns (fun x hx => ntM_len (noteBad_len (h x hx)))
  have h3 : ns.length * 516 ≤ 16 * 516 := Nat.mul_le_mul_right _ hl
  omega
end Go.Proofs.YtdffjdlpbfcikaaDoor.Kit
namespace Go.Proofs.YtdffjdlpbfcikaaDoor.Kit
open Go.RowKit Go.Shelf Go.Deep
set_option linter.unusedVariables false
attribute [local go_sem] run_store_func

/-! ### both Puts -/
def wholeB (D : Nat) (k : Int) (fs : List FT) (ns : List (ByteArray × ByteArray)) (di : Int) (dl : Bool) (rows pr : Int) (nds : List (Int × Int)) (sls : List (Int × Int × Int)) : List UInt8 :=
  if k = 1 then hd4 k ++ schB (fldB (D - 1)) fs ns else if k = 2 then hd4 k ++ (numB di.toNat 2 ++ flgB dl) ++ bdyB rows pr nds sls else hd4 k ++ bdyB rows pr nds sls
structure HeadAt (S : Nat → Prop) (D : Nat) (w : World) (fo no vo uo : Option Addr) (cf : Nat) (fs : List FT) (ns : List (ByteArray × ByteArray)) (nds : List (Int × Int)) (sls : List (Int × Int × Int)) : Prop where
  tab : Tab w
  row : RowAt S w D fo fs
  cap : fs.length ≤ cf
  d : D ≤ big
  s : ∀ b, S b → b < w.heap.size
  notes : NotesAt w no ns
  nodes : NodesAt w vo nds
  slots : SlotsAt w uo sls
theorem HeadAt.gr {S : Nat → Prop} {D : Nat} {w W : World} {fo no vo uo : Option Addr} {cf : Nat} {fs : List FT} {ns : List (ByteArray × ByteArray)} {nds : List (Int × Int)} {sls : List (Int × Int × Int)} (h : HeadAt S D w fo no vo uo cf fs ns nds sls) (g : Gr w W) : HeadAt S D W fo no vo uo cf fs ns nds sls :=
  ⟨h.tab.gr g, h.row.kept fun b hb => g.block b (h.s b hb) id, h.cap, h.d, fun b hb => Nat.lt_of_lt_of_le (h.s b hb) g.size, h.notes.gr g, h.nodes.gr g, h.slots.gr g⟩
theorem kidB_top {D : Nat} {fs : List FT} (hd : deep D fs) : kidB D fs = fs.flatMap (fldB (D - 1)) := by
  cases D with
  | zero =>
    have : fs = [] := hd
    subst this
    rfl
  | succ d => rfl
theorem bdyB_len (rows pr : Int) {nds : List (Int × Int)} {sls : List (Int × Int × Int)} (h1 : nds.length ≤ 512) (h2 : sls.length ≤ 1536) : (bdyB rows pr nds sls).length ≤ 30000 := by
  have := ndM_flat nds
  have := slM_flat sls
  unfold bdyB
  simp only [List.length_append, numB_len]
  omega
theorem wholeB_len {D : Nat} {k : Int} {fs : List FT} {ns : List (ByteArray × ByteArray)} {di : Int} {dl : Bool} {rows pr : Int} {nds : List (Int × Int)} {sls : List (Int × Int × Int)} (hd : deep D fs) (h : HOk (Yes D fs ns) k fs.length ns.length di dl rows pr nds sls) : (wholeB D k fs ns di dl rows pr nds sls).length ≤ 65536 := by
  unfold wholeB
  have h4 : ∀ k, (hd4 k).length = 4 := fun _ => rfl
  have hfl : (flgB dl).length = 1 := by unfold flgB; split <;> rfl
  split
  · rename_i c
    have hy : Yes D fs ns := by
      rcases h with h | h
      · exact h.2.2.2.2.2.2.2
      · omega
    have h1 := kidB_len (hy.allR hd)
    rw [kidB_top hd] at h1
    have h2 := notes_len hy.2.2.1 hy.2.1
    unfold schB
    simp only [List.length_append, numB_len, h4]
    omega
  · rename_i c
    have hb : nds.length ≤ 512 ∧ sls.length ≤ 1536 := by
      rcases h with h | h
      · exact absurd h.1 c
      · exact ⟨h.2.2.2.2.2.1, h.2.2.2.2.2.2.1⟩
    have h1 := bdyB_len rows pr hb.1 hb.2
    split
    · simp only [List.length_append, numB_len, h4, hfl]
      omega
    · simp only [List.length_append, h4]
      omega

theorem both_may8 {S : Nat → Prop} {D : Nat} {k di rows pr : Int} {dl : Bool} {fo no vo uo : Option Addr} {cf cn vc uc : Nat} {fs : List FT} {ns : List (ByteArray × ByteArray)} {nds : List (Int × Int)} {sls : List (Int × Int × Int)} {w : World} (h : HeadAt S D w fo no vo uo cf fs ns nds sls) (z : Bool) (hz : HOk (Yes D fs ns) k fs.length ns.length di dl rows pr nds sls ↔ z = true) :
    ∀ W, Gr w W → Calls Tryd.prog 22 #[.agg #[.int .i64 k, .slice fo fs.length cf, .slice no ns.length cn, .int .i64 di, .bool dl, .int .i64 rows, .int .i64 pr, .slice vo nds.length vc, .slice uo sls.length uc]] W fun e w' => e = .returned (.bool z) ∧ Gr W w' := fun W g => by
  obtain ⟨y, hy⟩ := tell (Yes D fs ns)
  have hW := h.gr g
  refine mayBe_any y z hy hz hW.row.len hW.notes.1 hW.nodes hW.slots fun _ V gV => ?_
  refine Calls.mono (check_fault hW.tab hW.row hW.cap hW.d hW.s hW.notes V gV) ?_
  rintro e w' ⟨er, so, sn, sc, tt, rfl, hg, p, -, hF, -⟩
  refine ⟨er, so, sn, sc, tt, rfl, ?_, hg⟩
  have h2 := yes_iff hW.row.deep hF
  cases y with
  | true => have := h2.1 (hy.2 rfl); simp [this]
  | false => exact beqF fun e => by have := hy.1 (h2.2 e); cases this
theorem both_may12 {S : Nat → Prop} {D : Nat} {k di rows pr : Int} {dl : Bool} {fo no vo uo : Option Addr} {cf cn vc uc : Nat} {fs : List FT} {ns : List (ByteArray × ByteArray)} {nds : List (Int × Int)} {sls : List (Int × Int × Int)} {w : World} (h : HeadAt S D w fo no vo uo cf fs ns nds sls) (z : Bool) (hz : HOk (Yes D fs ns) k fs.length ns.length di dl rows pr nds sls ↔ z = true) :
    ∀ W, Gr w W → Calls Tryd.prog 20 #[.agg #[.int .i64 k, .slice fo fs.length cf, .slice no ns.length cn, .int .i64 di, .bool dl, .int .i64 rows, .int .i64 pr, .slice vo nds.length vc, .slice uo sls.length uc]] W fun e w' => e = .returned (.bool z) ∧ Gr W w' := by
  obtain ⟨y, hy⟩ := tell (Yes D fs ns)
  exact headMay_any y z hy hz h.row.len h.notes.1 h.nodes h.slots fun _ => schemaMay_any y hy h.row h.s h.notes
theorem put4_true {S : Nat → Prop} {D : Nat} {k di rows pr : Int} {dl : Bool} {fo no vo uo : Option Addr} {cf cn vc uc : Nat} {fs : List FT} {ns : List (ByteArray × ByteArray)} {nds : List (Int × Int)} {sls : List (Int × Int × Int)} {w : World} (h : HeadAt S D w fo no vo uo cf fs ns nds sls) (hok : HOk (Yes D fs ns) k fs.length ns.length di dl rows pr nds sls) :
    Calls Tryd.prog 11 #[.agg #[.int .i64 k, .slice fo fs.length cf, .slice no ns.length cn, .int .i64 di, .bool dl, .int .i64 rows, .int .i64 pr, .slice vo nds.length vc, .slice uo sls.length uc]] w fun e w' => ∃ B, e = .returned (.tuple #[.slice (some ⟨B, 0, none⟩) (wholeB D k fs ns di dl rows pr nds sls).length (wholeB D k fs ns di dl rows pr nds sls).length, .int .i64 0]) ∧ w.heap.size ≤ B ∧ w'.heap[B]? = some (.cells (bv (wholeB D k fs ns di dl rows pr nds sls)).toArray 5 (0, 0)) ∧ Gr w w' := by
  have hd := h.row.deep
  have hl := wholeB_len hd hok
  refine put_true hl (both_may8 h true (by simp [hok])) fun W K hI => ?_
  have hk : 1 ≤ k ∧ k ≤ 3 := by rcases hok with h | h <;> omega
  have e : wholeB D k fs ns di dl rows pr nds sls = if k = 1 then hd4 k ++ (numB fs.length 2 ++ kidB D fs ++ numB ns.length 2 ++ ns.flatMap ntM) else if k = 2 then hd4 k ++ (numB di.toNat 2 ++ flgB dl) ++ bdyB rows pr nds sls else hd4 k ++ bdyB rows pr nds sls := by
    unfold wholeB schB
    rw [kidB_top hd]
  rw [e] at hl ⊢
  refine Calls.mono (penHead_any (fbs := kidB D fs) hI (by simpa using hl) hk (fun c => ?_) (fun c V bs' hV hlV => ?_) (fun c V bs' hV hlV => ?_)) (fun e w' he => by simpa using he)
  · rcases hok with h | h
    · omega
    · have := h.2.2.2.2.2.2.2.1 c; omega
  · have hy : Yes D fs ns := by
      rcases hok with h | h
      · exact h.2.2.2.2.2.2.2
      · omega
    exact penSchema_any fs ns fo no cf cn hV hlV h.row.len (fun V' bs'' hV' hl' => penFields_any S D fs fo cf w K h.row (okMs_of (hy.allR hd)) V' bs'' hV' hl') h.notes
  · rcases hok with hh | hh
    · exact absurd hh.1 c
    · exact penBody_any hV hlV (by omega) (by omega) h.nodes h.slots hh.2.2.2.2.2.2.2.2.2.1 hh.2.2.2.2.2.2.2.2.2.2
theorem put4_false {S : Nat → Prop} {D : Nat} {k di rows pr : Int} {dl : Bool} {fo no vo uo : Option Addr} {cf cn vc uc : Nat} {fs : List FT} {ns : List (ByteArray × ByteArray)} {nds : List (Int × Int)} {sls : List (Int × Int × Int)} {w : World} (h : HeadAt S D w fo no vo uo cf fs ns nds sls) (hok : ¬ HOk (Yes D fs ns) k fs.length ns.length di dl rows pr nds sls) :
    Calls Tryd.prog 11 #[.agg #[.int .i64 k, .slice fo fs.length cf, .slice no ns.length cn, .int .i64 di, .bool dl, .int .i64 rows, .int .i64 pr, .slice vo nds.length vc, .slice uo sls.length uc]] w fun e w' => e = .returned (.tuple #[.slice none 0 0, .int .i64 50]) ∧ Gr w w' :=
  put_false (both_may8 h false (by simp [hok]))
end Go.Proofs.YtdffjdlpbfcikaaDoor.Kit
