import Derived.Test.YtdihbfjjddmbiaaGreatDoorVI
set_option maxRecDepth 100000
set_option maxHeartbeats 4000000
namespace Go.Proofs.YtdihbfjjddmbiaaGreatDoor.Kit
open Go.RowKit Go.Shelf Go.Deep
set_option linter.unusedVariables false
attribute [local go_sem] run_store_func
def NodesAt (W : World) (vo : Option Addr) (l : List (Int × Int)) : Prop :=
  l.length ≤ big ∧ (l ≠ [] → ∃ b o, vo = some ⟨b, o, none⟩ ∧ ∀ i (h : i < l.length), W.cell? ⟨b, o + i * 2, none⟩ = some (.int .i64 l[i].1) ∧ W.cell? ⟨b, o + i * 2 + 1, none⟩ = some (.int .i64 l[i].2))
def SlotsAt (W : World) (vo : Option Addr) (l : List (Int × Int × Int)) : Prop :=
  l.length ≤ big ∧ (l ≠ [] → ∃ b o, vo = some ⟨b, o, none⟩ ∧ ∀ i (h : i < l.length), W.cell? ⟨b, o + i * 3, none⟩ = some (.int .i64 l[i].1) ∧ W.cell? ⟨b, o + i * 3 + 1, none⟩ = some (.int .i64 l[i].2.1) ∧ W.cell? ⟨b, o + i * 3 + 2, none⟩ = some (.int .i64 l[i].2.2))
def nodeOk (n : Int × Int) : Prop := 0 ≤ n.1 ∧ n.1 ≤ 4096 ∧ 0 ≤ n.2 ∧ n.2 ≤ n.1
def slotOk (s : Int × Int × Int) : Prop := 0 ≤ s.1 ∧ s.1 ≤ 4194304 ∧ 0 ≤ s.2.1 ∧ s.2.1 ≤ 4194304 ∧ 0 ≤ s.2.2 ∧ s.2.2 ≤ 4194304
def HOk (Y : Prop) (k : Int) (nf nn : Nat) (id : Int) (dl : Bool) (rows pr : Int) (nds : List (Int × Int)) (sls : List (Int × Int × Int)) : Prop :=
  (k = 1 ∧ id = 0 ∧ dl = false ∧ rows = 0 ∧ pr = 0 ∧ nds.length = 0 ∧ sls.length = 0 ∧ Y) ∨
  ((k = 2 ∨ k = 3) ∧ nf = 0 ∧ nn = 0 ∧ (0 ≤ rows ∧ rows ≤ 4096) ∧ (0 ≤ pr ∧ pr ≤ 2) ∧ nds.length ≤ 512 ∧ sls.length ≤ 1536 ∧ (k = 2 → 0 ≤ id ∧ id ≤ 31) ∧ (k = 3 → id = 0 ∧ dl = false) ∧ (∀ n ∈ nds, nodeOk n) ∧ ∀ s ∈ sls, slotOk s)
theorem headMay_any {k di rows pr : Int} {dl : Bool} {fo no vo uo : Option Addr} {nf cf nn cn vc uc : Nat} {nds : List (Int × Int)} {sls : List (Int × Int × Int)} {w : World} {Y : Prop} (y z : Bool) (hY : Y ↔ y = true) (hz : HOk Y k nf nn di dl rows pr nds sls ↔ z = true) (hf : nf ≤ 1000000000000) (hn : nn ≤ 1000000000000) (hv : NodesAt w vo nds) (hu : SlotsAt w uo sls)
    (h25 : k = 1 → ∀ W, Gr w W → Calls Tryz.prog 13 #[.agg #[.slice fo nf cf, .slice no nn cn]] W fun e w' => e = .returned (.bool y) ∧ Gr W w') :
    ∀ W, Gr w W → Calls Tryz.prog 4 #[.agg #[.int .i64 k, .slice fo nf cf, .slice no nn cn, .int .i64 di, .bool dl, .int .i64 rows, .int .i64 pr, .slice vo nds.length vc, .slice uo sls.length uc]] W fun e w' => e = .returned (.bool z) ∧ Gr W w' := by
  intro W g
  have hlv : nds.length ≤ 1000000000000 := hv.1
  have hlu : sls.length ≤ 1000000000000 := hu.1
  have HNo : Hid (¬ HOk Y k nf nn di dl rows pr nds sls → z = false) := fun h => by cases z with | false => rfl | true => exact absurd (hz.2 rfl) h
  have HYe : Hid (HOk Y k nf nn di dl rows pr nds sls → z = true) := hz.1
  have HNd : Hid (nds ≠ [] → ∃ b o, vo = some ⟨b, o, none⟩ ∧ ∀ i (h : i < nds.length), W.cell? ⟨b, o + i * 2, none⟩ = some (.int .i64 nds[i].1) ∧ W.cell? ⟨b, o + i * 2 + 1, none⟩ = some (.int .i64 nds[i].2)) := fun hne => by
    obtain ⟨b, o, e, h⟩ := hv.2 hne
    exact ⟨b, o, e, fun i hi => ⟨g.cell' (h i hi).1 id, g.cell' (h i hi).2 id⟩⟩
  have HSl : Hid (sls ≠ [] → ∃ b o, uo = some ⟨b, o, none⟩ ∧ ∀ i (h : i < sls.length), W.cell? ⟨b, o + i * 3, none⟩ = some (.int .i64 sls[i].1) ∧ W.cell? ⟨b, o + i * 3 + 1, none⟩ = some (.int .i64 sls[i].2.1) ∧ W.cell? ⟨b, o + i * 3 + 2, none⟩ = some (.int .i64 sls[i].2.2)) := fun hne => by
    obtain ⟨b, o, e, h⟩ := hu.2 hne
    exact ⟨b, o, e, fun i hi => ⟨g.cell' (h i hi).1 id, g.cell' (h i hi).2.1 id, g.cell' (h i hi).2.2 id⟩⟩
  have H25 : Hid (k = 1 → ∀ W', Gr W W' → Calls Tryz.prog 13 #[.agg #[.slice fo nf cf, .slice no nn cn]] W' fun e w' => e = .returned (.bool y) ∧ Gr W' w') := fun h W' g' => h25 h W' (g.tr g')
  have HY := hidM hY
  have hbx := World.alloc_heap_new W (.cells #[.int .i64 k, .slice fo nf cf, .slice no nn cn, .int .i64 di, .bool dl, .int .i64 rows, .int .i64 pr, .slice vo nds.length vc, .slice uo sls.length uc] 29)
  have HB := hidM hbx
  obtain ⟨p0, p1, p2, p3, p4, p5, p6, p7, p8⟩ := ce9 hbx
  clear hbx h25 hY hz hv hu g
  go_enter Tryz.func4, Tryz.ntmps4
  by_cases c1 : k = 1
  · have k1 : (k == 1) = true := by simp [c1]
    have HC1 := hidM c1
    have HNo1 : Hid (∀ P : Prop, ¬ P → ((di = 0 ∧ dl = false ∧ rows = 0 ∧ pr = 0 ∧ nds.length = 0 ∧ sls.length = 0 ∧ Y) → P) → z = false) := fun P hP h => HNo.out fun hh => hP (h (hh.elim (fun x => x.2) (fun x => absurd x.1 (by have := HC1.out; omega))))
    clear c1
    by_cases zdi : di = 0
    rotate_left
    · have zdib : (di == 0) = false := beqF zdi
      have zdin : (di != 0) = true := by simpa using zdi
      have HN := hidM zdi
      clear zdi
      have HZ : Hid (z = false) := HNo1.out _ (HN.out) (fun h => h.1)
      go_wp2
      go_ret
      exact ⟨by rw [HZ.out]; rfl, gr_alloc _ _⟩
    have zdib : (di == 0) = true := by simp [zdi]
    have zdin : (di != 0) = false := by simp [zdi]
    have HZdi := hidM zdi
    clear zdi
    cases dl with
    | true =>
      have HZ : Hid (z = false) := HNo1.out _ (by decide) (fun h => h.2.1)
      go_wp2
      go_ret
      exact ⟨by rw [HZ.out]; rfl, gr_alloc _ _⟩
    | false =>
      by_cases zrows : rows = 0
      rotate_left
      · have zrowsb : (rows == 0) = false := beqF zrows
        have zrowsn : (rows != 0) = true := by simpa using zrows
        have HN := hidM zrows
        clear zrows
        have HZ : Hid (z = false) := HNo1.out _ (HN.out) (fun h => h.2.2.1)
        go_wp2
        go_ret
        exact ⟨by rw [HZ.out]; rfl, gr_alloc _ _⟩
      have zrowsb : (rows == 0) = true := by simp [zrows]
      have zrowsn : (rows != 0) = false := by simp [zrows]
      have HZrows := hidM zrows
      clear zrows
      by_cases zpr : pr = 0
      rotate_left
      · have zprb : (pr == 0) = false := beqF zpr
        have zprn : (pr != 0) = true := by simpa using zpr
        have HN := hidM zpr
        clear zpr
        have HZ : Hid (z = false) := HNo1.out _ (HN.out) (fun h => h.2.2.2.1)
        go_wp2
        go_ret
        exact ⟨by rw [HZ.out]; rfl, gr_alloc _ _⟩
      have zprb : (pr == 0) = true := by simp [zpr]
      have zprn : (pr != 0) = false := by simp [zpr]
      have HZpr := hidM zpr
      clear zpr
      by_cases znl : nds.length = 0
      rotate_left
      · have znlI : (0 : Int) < (nds.length : Int) := by omega
        have znlN : 0 < nds.length := by omega
        have HN := hidM znl
        clear znl
        have HZ : Hid (z = false) := HNo1.out _ (HN.out) (fun h => h.2.2.2.2.1)
        go_wp2
        go_ret
        exact ⟨by rw [HZ.out]; rfl, gr_alloc _ _⟩
      have znlI : ¬ (0 : Int) < (nds.length : Int) := by omega
      have HZnl := hidM znl
      have znlN : ¬ 0 < nds.length := by omega
      clear znl
      by_cases zsl : sls.length = 0
      rotate_left
      · have zslI : (0 : Int) < (sls.length : Int) := by omega
        have zslN : 0 < sls.length := by omega
        have HN := hidM zsl
        clear zsl
        have HZ : Hid (z = false) := HNo1.out _ (HN.out) (fun h => h.2.2.2.2.2.1)
        go_wp2
        go_ret
        exact ⟨by rw [HZ.out]; rfl, gr_alloc _ _⟩
      have zslI : ¬ (0 : Int) < (sls.length : Int) := by omega
      have HZsl := hidM zsl
      have zslN : ¬ 0 < sls.length := by omega
      clear zsl
      go_wp2_with (go_at_call 13; refine Hid.out ?_)
      unfold Hid
      refine Calls.mono (H25.out HC1.out _ (gr_alloc W _)) ?_
      rintro e V ⟨rfl, hg⟩
      have HG := hidM ((gr_alloc W _).tr hg)
      have HZ : Hid (z = y) := by
        show _ = _
        cases y with
        | true => exact HYe.out (.inl ⟨HC1.out, HZdi.out, rfl, HZrows.out, HZpr.out, HZnl.out, HZsl.out, HY.out.2 rfl⟩)
        | false => exact HNo1.out Y (fun h => by have := HY.out.1 h; cases this) (fun h => h.2.2.2.2.2.2)
      clear hg
      go_wp2_with fail
      go_ret
      exact ⟨by rw [HZ.out]; rfl, HG.out⟩
  have k1 : (k == 1) = false := beqF c1
  have HNo2 : Hid (∀ P : Prop, ¬ P → (((k = 2 ∨ k = 3) ∧ nf = 0 ∧ nn = 0 ∧ (0 ≤ rows ∧ rows ≤ 4096) ∧ (0 ≤ pr ∧ pr ≤ 2) ∧ nds.length ≤ 512 ∧ sls.length ≤ 1536 ∧ (k = 2 → 0 ≤ di ∧ di ≤ 31) ∧ (k = 3 → di = 0 ∧ dl = false) ∧ (∀ n ∈ nds, nodeOk n) ∧ ∀ s ∈ sls, slotOk s) → P) → z = false) := fun P hP h => HNo.out fun hh => hP (h (hh.elim (fun x => absurd x.1 c1) (fun x => x)))
  clear c1 H25
  by_cases c2 : k = 2 ∨ k = 3
  rotate_left
  · have k2 : (k == 2) = false := beqF (by omega)
    have k3 : (k == 3) = false := beqF (by omega)
    have k2n : (k != 2) = true := by simpa using (show ¬ k = 2 by omega)
    have k3n : (k != 3) = true := by simpa using (show ¬ k = 3 by omega)
    have HN := hidM c2
    clear c2
    have HZ : Hid (z = false) := HNo2.out _ (HN.out) (fun h => h.1)
    go_wp2
    go_ret
    exact ⟨by rw [HZ.out]; rfl, gr_alloc _ _⟩
  by_cases znf : nf = 0
  rotate_left
  · have znfI : (0 : Int) < (nf : Int) := by omega
    have znfN : 0 < nf := by omega
    have HN := hidM znf
    have HC2 := hidM c2
    clear znf c2
    rcases HC2.out with c2 | c2
    · have k2 : (k == 2) = true := by simp [c2]
      have k3 : (k == 3) = false := beqF (by omega)
      have k2n : (k != 2) = false := by simp [c2]
      have k3n : (k != 3) = true := by simp [c2]
      clear c2
      have HZ : Hid (z = false) := HNo2.out _ (HN.out) (fun h => h.2.1)
      go_wp2
      go_ret
      exact ⟨by rw [HZ.out]; rfl, gr_alloc _ _⟩
    have k2 : (k == 2) = false := beqF (by omega)
    have k3 : (k == 3) = true := by simp [c2]
    have k2n : (k != 2) = true := by simp [c2]
    have k3n : (k != 3) = false := by simp [c2]
    clear c2
    have HZ : Hid (z = false) := HNo2.out _ (HN.out) (fun h => h.2.1)
    go_wp2
    go_ret
    exact ⟨by rw [HZ.out]; rfl, gr_alloc _ _⟩
  have znfI : ¬ (0 : Int) < (nf : Int) := by omega
  have HZnf := hidM znf
  have znfN : ¬ 0 < nf := by omega
  clear znf
  by_cases znn : nn = 0
  rotate_left
  · have znnI : (0 : Int) < (nn : Int) := by omega
    have znnN : 0 < nn := by omega
    have HN := hidM znn
    have HC2 := hidM c2
    clear znn c2
    rcases HC2.out with c2 | c2
    · have k2 : (k == 2) = true := by simp [c2]
      have k3 : (k == 3) = false := beqF (by omega)
      have k2n : (k != 2) = false := by simp [c2]
      have k3n : (k != 3) = true := by simp [c2]
      clear c2
      have HZ : Hid (z = false) := HNo2.out _ (HN.out) (fun h => h.2.2.1)
      go_wp2
      go_ret
      exact ⟨by rw [HZ.out]; rfl, gr_alloc _ _⟩
    have k2 : (k == 2) = false := beqF (by omega)
    have k3 : (k == 3) = true := by simp [c2]
    have k2n : (k != 2) = true := by simp [c2]
    have k3n : (k != 3) = false := by simp [c2]
    clear c2
    have HZ : Hid (z = false) := HNo2.out _ (HN.out) (fun h => h.2.2.1)
    go_wp2
    go_ret
    exact ⟨by rw [HZ.out]; rfl, gr_alloc _ _⟩
  have znnI : ¬ (0 : Int) < (nn : Int) := by omega
  have HZnn := hidM znn
  have znnN : ¬ 0 < nn := by omega
  clear znn
  rcases c2 with c2 | c2
  · have k2 : (k == 2) = true := by simp [c2]
    have k3 : (k == 3) = false := beqF (by omega)
    have k2n : (k != 2) = false := by simp [c2]
    have k3n : (k != 3) = true := by simp [c2]
    have HC2 := hidM c2
    clear c2
    by_cases r1 : rows < 0
    · skip
      have HZ : Hid (z = false) := HNo2.out _ (by omega) (fun h => h.2.2.2.1)
      go_wp2
      go_ret
      exact ⟨by rw [HZ.out]; rfl, gr_alloc _ _⟩
    by_cases r2 : 4096 < rows
    · skip
      have HZ : Hid (z = false) := HNo2.out _ (by omega) (fun h => h.2.2.2.1)
      go_wp2
      go_ret
      exact ⟨by rw [HZ.out]; rfl, gr_alloc _ _⟩
    by_cases q1 : pr < 0
    · skip
      have HZ : Hid (z = false) := HNo2.out _ (by omega) (fun h => h.2.2.2.2.1)
      go_wp2
      go_ret
      exact ⟨by rw [HZ.out]; rfl, gr_alloc _ _⟩
    by_cases q2 : 2 < pr
    · skip
      have HZ : Hid (z = false) := HNo2.out _ (by omega) (fun h => h.2.2.2.2.1)
      go_wp2
      go_ret
      exact ⟨by rw [HZ.out]; rfl, gr_alloc _ _⟩
    by_cases lnl : 512 < nds.length
    · have lnlI : (512 : Int) < (nds.length : Int) := by omega
      have HZ : Hid (z = false) := HNo2.out _ (by omega) (fun h => h.2.2.2.2.2.1)
      go_wp2
      go_ret
      exact ⟨by rw [HZ.out]; rfl, gr_alloc _ _⟩
    have lnlI : ¬ (512 : Int) < (nds.length : Int) := by omega
    by_cases lsl : 1536 < sls.length
    · have lslI : (1536 : Int) < (sls.length : Int) := by omega
      have HZ : Hid (z = false) := HNo2.out _ (by omega) (fun h => h.2.2.2.2.2.2.1)
      go_wp2
      go_ret
      exact ⟨by rw [HZ.out]; rfl, gr_alloc _ _⟩
    have lslI : ¬ (1536 : Int) < (sls.length : Int) := by omega
    by_cases d1 : di < 0
    · skip
      have HZ : Hid (z = false) := HNo2.out _ (fun h => by have := h HC2.out; omega) (fun h => h.2.2.2.2.2.2.2.1)
      go_wp2
      go_ret
      exact ⟨by rw [HZ.out]; rfl, gr_alloc _ _⟩
    by_cases d2 : 31 < di
    · skip
      have HZ : Hid (z = false) := HNo2.out _ (fun h => by have := h HC2.out; omega) (fun h => h.2.2.2.2.2.2.2.1)
      go_wp2
      go_ret
      exact ⟨by rw [HZ.out]; rfl, gr_alloc _ _⟩
    go_wp2
    go_loopw [3] (fun p wr => ∃ i : Nat, i ≤ nds.length ∧ p = .int .i64 (i : Int) ∧ Hid (Gr (W.alloc (.cells #[.int .i64 k, .slice fo nf cf, .slice no nn cn, .int .i64 di, .bool dl, .int .i64 rows, .int .i64 pr, .slice vo nds.length vc, .slice uo sls.length uc] 29)) wr ∧ ∀ j (hj : j < nds.length), j < i → nodeOk nds[j])) (fun p _ => nds.length - (intOf p).toNat)
    case atStart => exact ⟨0, by omega, rfl, Keeps.refl _ _, fun j hj h => by omega⟩
    case round =>
      obtain ⟨i, hi, rfl, HI⟩ := hrel
      have t7 := HI.out.1.cell' p7 id
      by_cases hlt : i < nds.length
      · have hltI : (i : Int) < (nds.length : Int) := by omega
        obtain ⟨b, o, hvo, hcs⟩ := HNd.out (fun e => by rw [e] at hlt; simp at hlt)
        obtain ⟨c0, c1⟩ := hcs i hlt
        have t2 := HI.out.1.cell' ((gr_alloc W _).cell' c0 id) id
        have t3 := HI.out.1.cell' ((gr_alloc W _).cell' c1 id) id
        have HBad : Hid (¬ nodeOk nds[i] → z = false) := fun h => HNo2.out _ (fun hh : ∀ n ∈ nds, nodeOk n => h (hh _ (List.getElem_mem hlt))) (fun h => h.2.2.2.2.2.2.2.2.2.1)
        have HNx : Hid (nodeOk nds[i] → ∀ j (hj : j < nds.length), j < i + 1 → nodeOk nds[j]) := fun h j hj hlt' => by
          by_cases e : j = i
          · subst e; exact h
          exact HI.out.2 j hj (by omega)
        obtain ⟨a0, ha0⟩ : ∃ a0, a0 = nds[i].1 := ⟨_, rfl⟩
        obtain ⟨a1, ha1⟩ : ∃ a1, a1 = nds[i].2 := ⟨_, rfl⟩
        have HOkN : Hid (nodeOk nds[i] ↔ (0 ≤ a0 ∧ a0 ≤ 4096 ∧ 0 ≤ a1 ∧ a1 ≤ a0)) := by rw [ha0, ha1]; exact Iff.rfl
        rw [← ha0] at t2
        rw [← ha1] at t3
        have HG := hidM HI.out.1
        have hi0 : (0 : Int) ≤ (i : Int) := by omega
        rw [hvo] at t7
        clear hcs c0 c1 ha0 ha1 HI hvo
        by_cases x1 : a0 < 0
        · have HZ : Hid (z = false) := HBad.out (fun h => by have := HOkN.out.1 h; omega)
          go_wp2
          go_ret
          exact ⟨by rw [HZ.out]; rfl, ((gr_alloc W _).tr HG.out).alloc _⟩
        by_cases x2 : 4096 < a0
        · have HZ : Hid (z = false) := HBad.out (fun h => by have := HOkN.out.1 h; omega)
          go_wp2
          go_ret
          exact ⟨by rw [HZ.out]; rfl, ((gr_alloc W _).tr HG.out).alloc _⟩
        by_cases x3 : a1 < 0
        · have HZ : Hid (z = false) := HBad.out (fun h => by have := HOkN.out.1 h; omega)
          go_wp2
          go_ret
          exact ⟨by rw [HZ.out]; rfl, ((gr_alloc W _).tr HG.out).alloc _⟩
        by_cases x4 : a0 < a1
        · have HZ : Hid (z = false) := HBad.out (fun h => by have := HOkN.out.1 h; omega)
          go_wp2
          go_ret
          exact ⟨by rw [HZ.out]; rfl, ((gr_alloc W _).tr HG.out).alloc _⟩
        have HN2 := hidM (HNx.out (HOkN.out.2 (by omega)))
        clear HNx HBad HOkN
        go_wp2
        go_roundw
        case rel => exact ⟨i + 1, by omega, by simp, HG.out.alloc _, HN2.out⟩
        case measure => simp [intOf]; omega
      have hltI : ¬ (i : Int) < (nds.length : Int) := by omega
      have HNs : Hid (∀ n ∈ nds, nodeOk n) := fun n hn => by
        obtain ⟨j, hj, rfl⟩ := List.mem_iff_getElem.1 hn
        exact HI.out.2 j hj (by omega)
      have HG1 := hidM HI.out.1
      have t8 := HI.out.1.cell' p8 id
      clear HI
      go_wp2
      go_loopw [5] (fun p wr => ∃ i : Nat, i ≤ sls.length ∧ p = .int .i64 (i : Int) ∧ Hid (Gr (W.alloc (.cells #[.int .i64 k, .slice fo nf cf, .slice no nn cn, .int .i64 di, .bool dl, .int .i64 rows, .int .i64 pr, .slice vo nds.length vc, .slice uo sls.length uc] 29)) wr ∧ ∀ j (hj : j < sls.length), j < i → slotOk sls[j])) (fun p _ => sls.length - (intOf p).toNat)
      case atStart => exact ⟨0, by omega, rfl, HG1.out, fun j hj h => by omega⟩
      case round =>
        clear t7 t8
        obtain ⟨i, hi, rfl, HI⟩ := hrel
        have t8 := HI.out.1.cell' p8 id
        by_cases hlt : i < sls.length
        · have hltI : (i : Int) < (sls.length : Int) := by omega
          obtain ⟨b, o, hvo, hcs⟩ := HSl.out (fun e => by rw [e] at hlt; simp at hlt)
          obtain ⟨c0, c1, c2⟩ := hcs i hlt
          have t2 := HI.out.1.cell' ((gr_alloc W _).cell' c0 id) id
          have t3 := HI.out.1.cell' ((gr_alloc W _).cell' c1 id) id
          have t4 := HI.out.1.cell' ((gr_alloc W _).cell' c2 id) id
          have HBad : Hid (¬ slotOk sls[i] → z = false) := fun h => HNo2.out _ (fun hh : ∀ n ∈ sls, slotOk n => h (hh _ (List.getElem_mem hlt))) (fun h => h.2.2.2.2.2.2.2.2.2.2)
          have HNx : Hid (slotOk sls[i] → ∀ j (hj : j < sls.length), j < i + 1 → slotOk sls[j]) := fun h j hj hlt' => by
            by_cases e : j = i
            · subst e; exact h
            exact HI.out.2 j hj (by omega)
          obtain ⟨a0, ha0⟩ : ∃ a0, a0 = sls[i].1 := ⟨_, rfl⟩
          obtain ⟨a1, ha1⟩ : ∃ a1, a1 = sls[i].2.1 := ⟨_, rfl⟩
          obtain ⟨a2, ha2⟩ : ∃ a2, a2 = sls[i].2.2 := ⟨_, rfl⟩
          have HOkN : Hid (slotOk sls[i] ↔ (0 ≤ a0 ∧ a0 ≤ 4194304 ∧ 0 ≤ a1 ∧ a1 ≤ 4194304 ∧ 0 ≤ a2 ∧ a2 ≤ 4194304)) := by rw [ha0, ha1, ha2]; exact Iff.rfl
          rw [← ha0] at t2
          rw [← ha1] at t3
          rw [← ha2] at t4
          have HG := hidM HI.out.1
          have hi0 : (0 : Int) ≤ (i : Int) := by omega
          rw [hvo] at t8
          clear hcs c0 c1 c2 ha0 ha1 ha2 HI hvo
          by_cases x0 : a0 < 0
          · have HZ : Hid (z = false) := HBad.out (fun h => by have := HOkN.out.1 h; omega)
            go_wp2
            go_ret
            exact ⟨by rw [HZ.out]; rfl, ((gr_alloc W _).tr HG.out).alloc _⟩
          by_cases y0 : 4194304 < a0
          · have HZ : Hid (z = false) := HBad.out (fun h => by have := HOkN.out.1 h; omega)
            go_wp2
            go_ret
            exact ⟨by rw [HZ.out]; rfl, ((gr_alloc W _).tr HG.out).alloc _⟩
          by_cases x1 : a1 < 0
          · have HZ : Hid (z = false) := HBad.out (fun h => by have := HOkN.out.1 h; omega)
            go_wp2
            go_ret
            exact ⟨by rw [HZ.out]; rfl, ((gr_alloc W _).tr HG.out).alloc _⟩
          by_cases y1 : 4194304 < a1
          · have HZ : Hid (z = false) := HBad.out (fun h => by have := HOkN.out.1 h; omega)
            go_wp2
            go_ret
            exact ⟨by rw [HZ.out]; rfl, ((gr_alloc W _).tr HG.out).alloc _⟩
          by_cases x2 : a2 < 0
          · have HZ : Hid (z = false) := HBad.out (fun h => by have := HOkN.out.1 h; omega)
            go_wp2
            go_ret
            exact ⟨by rw [HZ.out]; rfl, ((gr_alloc W _).tr HG.out).alloc _⟩
          by_cases y2 : 4194304 < a2
          · have HZ : Hid (z = false) := HBad.out (fun h => by have := HOkN.out.1 h; omega)
            go_wp2
            go_ret
            exact ⟨by rw [HZ.out]; rfl, ((gr_alloc W _).tr HG.out).alloc _⟩
          have HN2 := hidM (HNx.out (HOkN.out.2 (by omega)))
          clear HNx HBad HOkN
          go_wp2
          go_roundw
          case rel => exact ⟨i + 1, by omega, by simp, HG.out.alloc _, HN2.out⟩
          case measure => simp [intOf]; omega
        have hltI : ¬ (i : Int) < (sls.length : Int) := by omega
        have HSs : Hid (∀ n ∈ sls, slotOk n) := fun n hn => by
          obtain ⟨j, hj, rfl⟩ := List.mem_iff_getElem.1 hn
          exact HI.out.2 j hj (by omega)
        have HG2 := hidM ((gr_alloc W _).tr HI.out.1)
        have HZ : Hid (z = true) := HYe.out (.inr ⟨.inl HC2.out, HZnf.out, HZnn.out, ⟨by omega, by omega⟩, ⟨by omega, by omega⟩, by omega, by omega, fun _ => ⟨by omega, by omega⟩, fun h => by have := HC2.out; omega, HNs.out, HSs.out⟩)
        clear HI
        go_wp2
        go_ret
        exact ⟨by rw [HZ.out]; rfl, HG2.out⟩
  have k2 : (k == 2) = false := beqF (by omega)
  have k3 : (k == 3) = true := by simp [c2]
  have k2n : (k != 2) = true := by simp [c2]
  have k3n : (k != 3) = false := by simp [c2]
  have HC2 := hidM c2
  clear c2
  by_cases r1 : rows < 0
  · skip
    have HZ : Hid (z = false) := HNo2.out _ (by omega) (fun h => h.2.2.2.1)
    go_wp2
    go_ret
    exact ⟨by rw [HZ.out]; rfl, gr_alloc _ _⟩
  by_cases r2 : 4096 < rows
  · skip
    have HZ : Hid (z = false) := HNo2.out _ (by omega) (fun h => h.2.2.2.1)
    go_wp2
    go_ret
    exact ⟨by rw [HZ.out]; rfl, gr_alloc _ _⟩
  by_cases q1 : pr < 0
  · skip
    have HZ : Hid (z = false) := HNo2.out _ (by omega) (fun h => h.2.2.2.2.1)
    go_wp2
    go_ret
    exact ⟨by rw [HZ.out]; rfl, gr_alloc _ _⟩
  by_cases q2 : 2 < pr
  · skip
    have HZ : Hid (z = false) := HNo2.out _ (by omega) (fun h => h.2.2.2.2.1)
    go_wp2
    go_ret
    exact ⟨by rw [HZ.out]; rfl, gr_alloc _ _⟩
  by_cases lnl : 512 < nds.length
  · have lnlI : (512 : Int) < (nds.length : Int) := by omega
    have HZ : Hid (z = false) := HNo2.out _ (by omega) (fun h => h.2.2.2.2.2.1)
    go_wp2
    go_ret
    exact ⟨by rw [HZ.out]; rfl, gr_alloc _ _⟩
  have lnlI : ¬ (512 : Int) < (nds.length : Int) := by omega
  by_cases lsl : 1536 < sls.length
  · have lslI : (1536 : Int) < (sls.length : Int) := by omega
    have HZ : Hid (z = false) := HNo2.out _ (by omega) (fun h => h.2.2.2.2.2.2.1)
    go_wp2
    go_ret
    exact ⟨by rw [HZ.out]; rfl, gr_alloc _ _⟩
  have lslI : ¬ (1536 : Int) < (sls.length : Int) := by omega
  by_cases d1 : di = 0
  rotate_left
  · have d1b : (di == 0) = false := beqF d1
    have d1n : (di != 0) = true := by simpa using d1
    have HN := hidM d1
    clear d1
    have HZ : Hid (z = false) := HNo2.out _ (fun h => HN.out (h HC2.out).1) (fun h => h.2.2.2.2.2.2.2.2.1)
    go_wp2
    go_ret
    exact ⟨by rw [HZ.out]; rfl, gr_alloc _ _⟩
  have d1b : (di == 0) = true := by simp [d1]
  have d1n : (di != 0) = false := by simp [d1]
  have HD1 := hidM d1
  clear d1
  cases dl with
  | true =>
    have HZ : Hid (z = false) := HNo2.out _ (fun h => by have := (h HC2.out).2; cases this) (fun h => h.2.2.2.2.2.2.2.2.1)
    go_wp2
    go_ret
    exact ⟨by rw [HZ.out]; rfl, gr_alloc _ _⟩
  | false =>
    go_wp2
    go_loopw [3] (fun p wr => ∃ i : Nat, i ≤ nds.length ∧ p = .int .i64 (i : Int) ∧ Hid (Gr (W.alloc (.cells #[.int .i64 k, .slice fo nf cf, .slice no nn cn, .int .i64 di, .bool false, .int .i64 rows, .int .i64 pr, .slice vo nds.length vc, .slice uo sls.length uc] 29)) wr ∧ ∀ j (hj : j < nds.length), j < i → nodeOk nds[j])) (fun p _ => nds.length - (intOf p).toNat)
    case atStart => exact ⟨0, by omega, rfl, Keeps.refl _ _, fun j hj h => by omega⟩
    case round =>
      obtain ⟨i, hi, rfl, HI⟩ := hrel
      have t7 := HI.out.1.cell' p7 id
      by_cases hlt : i < nds.length
      · have hltI : (i : Int) < (nds.length : Int) := by omega
        obtain ⟨b, o, hvo, hcs⟩ := HNd.out (fun e => by rw [e] at hlt; simp at hlt)
        obtain ⟨c0, c1⟩ := hcs i hlt
        have t2 := HI.out.1.cell' ((gr_alloc W _).cell' c0 id) id
        have t3 := HI.out.1.cell' ((gr_alloc W _).cell' c1 id) id
        have HBad : Hid (¬ nodeOk nds[i] → z = false) := fun h => HNo2.out _ (fun hh : ∀ n ∈ nds, nodeOk n => h (hh _ (List.getElem_mem hlt))) (fun h => h.2.2.2.2.2.2.2.2.2.1)
        have HNx : Hid (nodeOk nds[i] → ∀ j (hj : j < nds.length), j < i + 1 → nodeOk nds[j]) := fun h j hj hlt' => by
          by_cases e : j = i
          · subst e; exact h
          exact HI.out.2 j hj (by omega)
        obtain ⟨a0, ha0⟩ : ∃ a0, a0 = nds[i].1 := ⟨_, rfl⟩
        obtain ⟨a1, ha1⟩ : ∃ a1, a1 = nds[i].2 := ⟨_, rfl⟩
        have HOkN : Hid (nodeOk nds[i] ↔ (0 ≤ a0 ∧ a0 ≤ 4096 ∧ 0 ≤ a1 ∧ a1 ≤ a0)) := by rw [ha0, ha1]; exact Iff.rfl
        rw [← ha0] at t2
        rw [← ha1] at t3
        have HG := hidM HI.out.1
        have hi0 : (0 : Int) ≤ (i : Int) := by omega
        rw [hvo] at t7
        clear hcs c0 c1 ha0 ha1 HI hvo
        by_cases x1 : a0 < 0
        · have HZ : Hid (z = false) := HBad.out (fun h => by have := HOkN.out.1 h; omega)
          go_wp2
          go_ret
          exact ⟨by rw [HZ.out]; rfl, ((gr_alloc W _).tr HG.out).alloc _⟩
        by_cases x2 : 4096 < a0
        · have HZ : Hid (z = false) := HBad.out (fun h => by have := HOkN.out.1 h; omega)
          go_wp2
          go_ret
          exact ⟨by rw [HZ.out]; rfl, ((gr_alloc W _).tr HG.out).alloc _⟩
        by_cases x3 : a1 < 0
        · have HZ : Hid (z = false) := HBad.out (fun h => by have := HOkN.out.1 h; omega)
          go_wp2
          go_ret
          exact ⟨by rw [HZ.out]; rfl, ((gr_alloc W _).tr HG.out).alloc _⟩
        by_cases x4 : a0 < a1
        · have HZ : Hid (z = false) := HBad.out (fun h => by have := HOkN.out.1 h; omega)
          go_wp2
          go_ret
          exact ⟨by rw [HZ.out]; rfl, ((gr_alloc W _).tr HG.out).alloc _⟩
        have HN2 := hidM (HNx.out (HOkN.out.2 (by omega)))
        clear HNx HBad HOkN
        go_wp2
        go_roundw
        case rel => exact ⟨i + 1, by omega, by simp, HG.out.alloc _, HN2.out⟩
        case measure => simp [intOf]; omega
      have hltI : ¬ (i : Int) < (nds.length : Int) := by omega
      have HNs : Hid (∀ n ∈ nds, nodeOk n) := fun n hn => by
        obtain ⟨j, hj, rfl⟩ := List.mem_iff_getElem.1 hn
        exact HI.out.2 j hj (by omega)
      have HG1 := hidM HI.out.1
      have t8 := HI.out.1.cell' p8 id
      clear HI
      go_wp2
      go_loopw [5] (fun p wr => ∃ i : Nat, i ≤ sls.length ∧ p = .int .i64 (i : Int) ∧ Hid (Gr (W.alloc (.cells #[.int .i64 k, .slice fo nf cf, .slice no nn cn, .int .i64 di, .bool false, .int .i64 rows, .int .i64 pr, .slice vo nds.length vc, .slice uo sls.length uc] 29)) wr ∧ ∀ j (hj : j < sls.length), j < i → slotOk sls[j])) (fun p _ => sls.length - (intOf p).toNat)
      case atStart => exact ⟨0, by omega, rfl, HG1.out, fun j hj h => by omega⟩
      case round =>
        clear t7 t8
        obtain ⟨i, hi, rfl, HI⟩ := hrel
        have t8 := HI.out.1.cell' p8 id
        by_cases hlt : i < sls.length
        · have hltI : (i : Int) < (sls.length : Int) := by omega
          obtain ⟨b, o, hvo, hcs⟩ := HSl.out (fun e => by rw [e] at hlt; simp at hlt)
          obtain ⟨c0, c1, c2⟩ := hcs i hlt
          have t2 := HI.out.1.cell' ((gr_alloc W _).cell' c0 id) id
          have t3 := HI.out.1.cell' ((gr_alloc W _).cell' c1 id) id
          have t4 := HI.out.1.cell' ((gr_alloc W _).cell' c2 id) id
          have HBad : Hid (¬ slotOk sls[i] → z = false) := fun h => HNo2.out _ (fun hh : ∀ n ∈ sls, slotOk n => h (hh _ (List.getElem_mem hlt))) (fun h => h.2.2.2.2.2.2.2.2.2.2)
          have HNx : Hid (slotOk sls[i] → ∀ j (hj : j < sls.length), j < i + 1 → slotOk sls[j]) := fun h j hj hlt' => by
            by_cases e : j = i
            · subst e; exact h
            exact HI.out.2 j hj (by omega)
          obtain ⟨a0, ha0⟩ : ∃ a0, a0 = sls[i].1 := ⟨_, rfl⟩
          obtain ⟨a1, ha1⟩ : ∃ a1, a1 = sls[i].2.1 := ⟨_, rfl⟩
          obtain ⟨a2, ha2⟩ : ∃ a2, a2 = sls[i].2.2 := ⟨_, rfl⟩
          have HOkN : Hid (slotOk sls[i] ↔ (0 ≤ a0 ∧ a0 ≤ 4194304 ∧ 0 ≤ a1 ∧ a1 ≤ 4194304 ∧ 0 ≤ a2 ∧ a2 ≤ 4194304)) := by rw [ha0, ha1, ha2]; exact Iff.rfl
          rw [← ha0] at t2
          rw [← ha1] at t3
          rw [← ha2] at t4
          have HG := hidM HI.out.1
          have hi0 : (0 : Int) ≤ (i : Int) := by omega
          rw [hvo] at t8
          clear hcs c0 c1 c2 ha0 ha1 ha2 HI hvo
          by_cases x0 : a0 < 0
          · have HZ : Hid (z = false) := HBad.out (fun h => by have := HOkN.out.1 h; omega)
            go_wp2
            go_ret
            exact ⟨by rw [HZ.out]; rfl, ((gr_alloc W _).tr HG.out).alloc _⟩
          by_cases y0 : 4194304 < a0
          · have HZ : Hid (z = false) := HBad.out (fun h => by have := HOkN.out.1 h; omega)
            go_wp2
            go_ret
            exact ⟨by rw [HZ.out]; rfl, ((gr_alloc W _).tr HG.out).alloc _⟩
          by_cases x1 : a1 < 0
          · have HZ : Hid (z = false) := HBad.out (fun h => by have := HOkN.out.1 h; omega)
            go_wp2
            go_ret
            exact ⟨by rw [HZ.out]; rfl, ((gr_alloc W _).tr HG.out).alloc _⟩
          by_cases y1 : 4194304 < a1
          · have HZ : Hid (z = false) := HBad.out (fun h => by have := HOkN.out.1 h; omega)
            go_wp2
            go_ret
            exact ⟨by rw [HZ.out]; rfl, ((gr_alloc W _).tr HG.out).alloc _⟩
          by_cases x2 : a2 < 0
          · have HZ : Hid (z = false) := HBad.out (fun h => by have := HOkN.out.1 h; omega)
            go_wp2
            go_ret
            exact ⟨by rw [HZ.out]; rfl, ((gr_alloc W _).tr HG.out).alloc _⟩
          by_cases y2 : 4194304 < a2
          · have HZ : Hid (z = false) := HBad.out (fun h => by have := HOkN.out.1 h; omega)
            go_wp2
            go_ret
            exact ⟨by rw [HZ.out]; rfl, ((gr_alloc W _).tr HG.out).alloc _⟩
          have HN2 := hidM (HNx.out (HOkN.out.2 (by omega)))
          clear HNx HBad HOkN
          go_wp2
          go_roundw
          case rel => exact ⟨i + 1, by omega, by simp, HG.out.alloc _, HN2.out⟩
          case measure => simp [intOf]; omega
        have hltI : ¬ (i : Int) < (sls.length : Int) := by omega
        have HSs : Hid (∀ n ∈ sls, slotOk n) := fun n hn => by
          obtain ⟨j, hj, rfl⟩ := List.mem_iff_getElem.1 hn
          exact HI.out.2 j hj (by omega)
        have HG2 := hidM ((gr_alloc W _).tr HI.out.1)
        have HZ : Hid (z = true) := HYe.out (.inr ⟨.inr HC2.out, HZnf.out, HZnn.out, ⟨by omega, by omega⟩, ⟨by omega, by omega⟩, by omega, by omega, fun h => by have := HC2.out; omega, fun _ => ⟨HD1.out, rfl⟩, HNs.out, HSs.out⟩)
        clear HI
        go_wp2
        go_ret
        exact ⟨by rw [HZ.out]; rfl, HG2.out⟩
end Go.Proofs.YtdihbfjjddmbiaaGreatDoor.Kit
