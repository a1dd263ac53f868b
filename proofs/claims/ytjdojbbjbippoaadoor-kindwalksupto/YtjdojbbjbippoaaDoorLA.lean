import Derived.Test.YtjdojbbjbippoaaDoorFH
namespace Go.Proofs.YtjdojbbjbippoaaDoor.Kit
open Go.RowKit Go.Shelf Go.Deep
set_option linter.unusedVariables false
attribute [local go_sem] run_store_func

/-! ### the document's side: letters, names, nulls, shapes -/
set_option maxRecDepth 100000 in
set_option maxHeartbeats 1000000 in
theorem letter_any (c : Nat) (w : World) : Calls Tryd.prog 64 #[.int .u8 (c : Int)] w fun e w' => e = .returned (.bool (wordB c)) ∧ w' = w := by
  go_enter Tryd.func64, Tryd.ntmps64
  go_wp2
  all_goals
    go_ret
    refine ⟨congrArg (fun b => Ending.returned (.bool b)) ?_, rfl⟩
    rw [Bool.eq_iff_iff]
    simp [wordB, digitB]
    try omega
set_option maxRecDepth 100000 in
set_option maxHeartbeats 1000000 in
theorem nulls_any (f : FT) (ao : Option Addr) (ca : Nat) (S : Nat → Prop) (d : Nat) (w : World) (hr : RowAt S w d ao f.kids) (hk : f.kind = 20 → f.kids ≠ []) :
    Calls Tryd.prog 56 #[fldV f ao ca] w fun e w' => e = .returned (.bool (nullB f)) ∧ Gr w w' := by
  obtain ⟨nm, nu, kd, wd, di, ix, ks⟩ := f
  show Calls Tryd.prog 56 #[.agg #[.string nm, .bool nu, .int .i64 kd, .int .i64 wd, .int .i64 di, .int .i64 ix, .slice ao ks.length ca]] w _
  obtain ⟨nb, hnb⟩ : ∃ nb, nullB ⟨nm, nu, kd, wd, di, ix, ks⟩ = nb := ⟨_, rfl⟩
  rw [hnb]
  simp only [FT.kind, FT.kids] at hr hk
  by_cases h1 : kd = 1
  · have e : nb = nu := by rw [← hnb]; simp [nullB, FT.kind, FT.nul, h1]
    subst e
    clear hr hk hnb
    go_enter Tryd.func56, Tryd.ntmps56
    go_wp2
    go_ret
    exact ⟨rfl, gr_alloc _ _⟩
  · have q1 := beqF h1
    by_cases h2 : kd = 18
    · have e : nb = !nu := by rw [← hnb]; simp [nullB, FT.kind, FT.nul, h2]
      subst e
      clear hr hk hnb
      go_enter Tryd.func56, Tryd.ntmps56
      go_wp2
      go_ret
      exact ⟨rfl, gr_alloc _ _⟩
    · have q2 := beqF h2
      by_cases h3 : kd = 20
      · have hne := hk h3
        cases d with
        | zero => exact absurd hr hne
        | succ d =>
          obtain ⟨b, o, rfl, hSb, hcs⟩ := hr.2 hne
          have hpos : 0 < ks.length := List.length_pos_iff.2 hne
          obtain ⟨ao', ca', hc, _, _⟩ := hcs 0 hpos
          have hn : ks[0]? = some ks[0] := List.getElem?_eq_getElem hpos
          have e : nb = (nu == (ks[0]).nul) := by rw [← hnb]; simp [nullB, FT.kind, FT.nul, FT.kids, h3, hn]
          have c1 : ∀ o', (w.alloc o').cell? ⟨b, o + 1, none⟩ = some (.bool (ks[0]).nul) := fun o' => (gr_alloc w o').cell' (by have := hc.c1; simpa using this) (fun h => h)
          have hposI : (0 : Int) < (ks.length : Int) := by omega
          generalize (ks[0]).nul = kn at c1 e
          subst e
          clear hr hk hcs hc hn hne hnb
          go_enter Tryd.func56, Tryd.ntmps56
          go_wp2
          go_region
          go_wp2
          go_ret
          exact ⟨rfl, by first | exact (gr_alloc _ _) | exact (gr_alloc _ _).drew⟩
      · have q3 := beqF h3
        have e : nb = true := by rw [← hnb]; simp [nullB, FT.kind, h1, h2, h3]
        subst e
        clear hr hk hnb
        go_enter Tryd.func56, Tryd.ntmps56
        go_wp2
        go_ret
        exact ⟨rfl, gr_alloc _ _⟩
theorem widthB_mk (nm : ByteArray) (nu : Bool) (kd wd di ix : Int) (ks : List FT) : widthB ⟨nm, nu, kd, wd, di, ix, ks⟩ = if kd = 14 then decide (1 ≤ wd) && decide (wd ≤ 16) else if kd = 16 then decide (1 ≤ wd) && decide (wd ≤ 64) else decide (wd = 0) := rfl
theorem dictB_mk (nm : ByteArray) (nu : Bool) (kd wd di ix : Int) (ks : List FT) : dictB ⟨nm, nu, kd, wd, di, ix, ks⟩ = if kd = 19 then (decide (0 ≤ di) && decide (di < 32)) && (decide (3 ≤ ix) && decide (ix ≤ 10)) else decide (di = 0) && decide (ix = 0) := rfl
set_option maxRecDepth 100000 in
set_option maxHeartbeats 4000000 in
theorem shaped_any (f : FT) (ao : Option Addr) (ca : Nat) (w : World) (hl : f.kids.length ≤ big) : Calls Tryd.prog 55 #[typV f ao ca] w fun e w' => e = .returned (.bool (tableB f)) ∧ Gr w w' := by
  obtain ⟨nm, nu, kd, wd, di, ix, ks⟩ := f
  show Calls Tryd.prog 55 #[.agg #[.int .i64 kd, .int .i64 wd, .int .i64 di, .int .i64 ix, .slice ao ks.length ca]] w _
  have hll : ks.length ≤ 1000000000000 := hl
  obtain ⟨tb, htb⟩ : ∃ tb, tableB ⟨nm, nu, kd, wd, di, ix, ks⟩ = tb := ⟨_, rfl⟩
  rw [htb]
  obtain ⟨L, hL⟩ : ∃ L, ks.length = L := ⟨_, rfl⟩
  rw [hL] at hll ⊢
  have HB : Hid (tb = (kindB kd && (decide (leastK kd.toNat ≤ (L : Int)) && decide ((L : Int) ≤ mostK kd.toNat) && widthB ⟨nm, nu, kd, wd, di, ix, ks⟩ && dictB ⟨nm, nu, kd, wd, di, ix, ks⟩))) := by rw [← htb, ← hL]; rfl
  clear hl htb hL
  by_cases h14 : kd = 14
  · subst h14
    replace HB : Hid (tb = (decide (L = 0) && (decide (1 ≤ wd) && decide (wd ≤ 16)) && (decide (di = 0) && decide (ix = 0)))) := HB.out.trans (by rw [Bool.eq_iff_iff, widthB_mk, dictB_mk]; simp [kindB, leastK, mostK])
    clear hll
    go_enter Tryd.func55, Tryd.ntmps55
    go_wp2
    go_region
    go_wp2
    all_goals
      go_ret
      refine ⟨congrArg (fun b => Ending.returned (.bool b)) ?_, (gr_alloc _ _).drew⟩
      rw [HB.out, Bool.eq_iff_iff]
      simp
      omega
  have q14 := beqF h14
  by_cases h15 : kd = 15
  · subst h15
    replace HB : Hid (tb = (decide (L = 1) && decide (wd = 0) && (decide (di = 0) && decide (ix = 0)))) := HB.out.trans (by rw [Bool.eq_iff_iff, widthB_mk, dictB_mk]; simp [kindB, leastK, mostK]; omega)
    clear hll
    go_enter Tryd.func55, Tryd.ntmps55
    go_wp2
    go_region
    go_wp2
    all_goals
      go_ret
      refine ⟨congrArg (fun b => Ending.returned (.bool b)) ?_, (gr_alloc _ _).drew⟩
      rw [HB.out, Bool.eq_iff_iff]
      simp
      omega
  have q15 := beqF h15
  by_cases h16 : kd = 16
  · subst h16
    replace HB : Hid (tb = (decide (L = 1) && (decide (1 ≤ wd) && decide (wd ≤ 64)) && (decide (di = 0) && decide (ix = 0)))) := HB.out.trans (by rw [Bool.eq_iff_iff, widthB_mk, dictB_mk]; simp [kindB, leastK, mostK]; omega)
    clear hll
    go_enter Tryd.func55, Tryd.ntmps55
    go_wp2
    go_region
    go_wp2
    all_goals
      go_ret
      refine ⟨congrArg (fun b => Ending.returned (.bool b)) ?_, (gr_alloc _ _).drew⟩
      rw [HB.out, Bool.eq_iff_iff]
      simp
      omega
  have q16 := beqF h16
  by_cases h17 : kd = 17
  · subst h17
    replace HB : Hid (tb = (decide (L ≤ 32) && decide (wd = 0) && (decide (di = 0) && decide (ix = 0)))) := HB.out.trans (by rw [Bool.eq_iff_iff, widthB_mk, dictB_mk]; simp [kindB, leastK, mostK]; omega)
    clear hll
    go_enter Tryd.func55, Tryd.ntmps55
    go_wp2
    go_region
    go_wp2
    all_goals
      go_ret
      refine ⟨congrArg (fun b => Ending.returned (.bool b)) ?_, (gr_alloc _ _).drew⟩
      rw [HB.out, Bool.eq_iff_iff]
      simp
      omega
  have q17 := beqF h17
  by_cases h18 : kd = 18
  · subst h18
    replace HB : Hid (tb = ((decide (1 ≤ L) && decide (L ≤ 32)) && decide (wd = 0) && (decide (di = 0) && decide (ix = 0)))) := HB.out.trans (by rw [Bool.eq_iff_iff, widthB_mk, dictB_mk]; simp [kindB, leastK, mostK]; omega)
    clear hll
    go_enter Tryd.func55, Tryd.ntmps55
    go_wp2
    go_region
    go_wp2
    all_goals
      go_ret
      refine ⟨congrArg (fun b => Ending.returned (.bool b)) ?_, (gr_alloc _ _).drew⟩
      rw [HB.out, Bool.eq_iff_iff]
      simp
      omega
  have q18 := beqF h18
  by_cases h19 : kd = 19
  · subst h19
    replace HB : Hid (tb = (decide (L = 1) && decide (wd = 0) && ((decide (0 ≤ di) && decide (di < 32)) && (decide (3 ≤ ix) && decide (ix ≤ 10))))) := HB.out.trans (by rw [Bool.eq_iff_iff, widthB_mk, dictB_mk]; simp [kindB, leastK, mostK]; omega)
    clear hll
    go_enter Tryd.func55, Tryd.ntmps55
    go_wp2
    go_region
    go_wp2
    all_goals
      go_ret
      refine ⟨congrArg (fun b => Ending.returned (.bool b)) ?_, (gr_alloc _ _).drew⟩
      rw [HB.out, Bool.eq_iff_iff]
      simp
      omega
  have q19 := beqF h19
  by_cases h20 : kd = 20
  · subst h20
    replace HB : Hid (tb = (decide (L = 1) && decide (wd = 0) && (decide (di = 0) && decide (ix = 0)))) := HB.out.trans (by rw [Bool.eq_iff_iff, widthB_mk, dictB_mk]; simp [kindB, leastK, mostK]; omega)
    clear hll
    go_enter Tryd.func55, Tryd.ntmps55
    go_wp2
    go_region
    go_wp2
    all_goals
      go_ret
      refine ⟨congrArg (fun b => Ending.returned (.bool b)) ?_, (gr_alloc _ _).drew⟩
      rw [HB.out, Bool.eq_iff_iff]
      simp
      omega
  have q20 := beqF h20
  have hlk : leastK kd.toNat = 0 ∧ mostK kd.toNat = 0 := by
    have e : ∀ n : Nat, n ≠ 15 → n ≠ 16 → n ≠ 17 → n ≠ 18 → n ≠ 19 → n ≠ 20 → leastK n = 0 ∧ mostK n = 0 := fun n a b c d e f => ⟨by unfold leastK; split <;> first | rfl | contradiction, by unfold mostK; split <;> first | rfl | contradiction⟩
    exact e _ (by omega) (by omega) (by omega) (by omega) (by omega) (by omega)
  replace HB : Hid (tb = ((decide (1 ≤ kd) && decide (kd ≤ 20)) && decide (L = 0) && decide (wd = 0) && (decide (di = 0) && decide (ix = 0)))) := HB.out.trans (by rw [Bool.eq_iff_iff, hlk.1, hlk.2, widthB_mk, dictB_mk]; simp [kindB, h14, h16, h19]; omega)
  clear hlk h14 h15 h16 h17 h18 h19 h20
  clear hll
  go_enter Tryd.func55, Tryd.ntmps55
  go_wp2
  go_region
  go_wp2
  all_goals
    go_ret
    refine ⟨congrArg (fun b => Ending.returned (.bool b)) ?_, (gr_alloc _ _).drew⟩
    rw [HB.out, Bool.eq_iff_iff]
    simp
    omega
end Go.Proofs.YtjdojbbjbippoaaDoor.Kit
