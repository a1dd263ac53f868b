import Derived.Test.YtfepbpibhcfjdaaDoorFC
namespace Go.Proofs.YtfepbpibhcfjdaaDoor.Kit
open Go.RowKit Go.Shelf Go.Deep
set_option linter.unusedVariables false
attribute [local go_sem] run_store_func

/-- may the field be nullable as it is; k0: its first child is -/
def nullB (f : FT) : Bool := if f.kind = 1 then f.nul else if f.kind = 18 then !f.nul else if f.kind = 20 then f.nul == ((f.kids[0]?.map FT.nul).getD false) else true

set_option maxRecDepth 100000 in
set_option maxHeartbeats 1000000 in
theorem fitsNull_any (f : FT) (ao : Option Addr) (ca : Nat) (S : Nat → Prop) (d : Nat) (w : World) (hr : RowAt S w d ao f.kids) (hk : f.kind = 20 → f.kids ≠ []) :
    Calls Tryd.prog 75 #[fldV f ao ca] w fun e w' => e = .returned (.bool (nullB f)) ∧ Gr w w' := by
  obtain ⟨nm, nu, kd, wd, di, ix, ks⟩ := f
  show Calls Tryd.prog 75 #[.agg #[.string nm, .bool nu, .int .i64 kd, .int .i64 wd, .int .i64 di, .int .i64 ix, .slice ao ks.length ca]] w _
  obtain ⟨nb, hnb⟩ : ∃ nb, nullB ⟨nm, nu, kd, wd, di, ix, ks⟩ = nb := ⟨_, rfl⟩
  rw [hnb]
  simp only [FT.kind, FT.kids] at hr hk
  by_cases h1 : kd = 1
  · have e : nb = nu := by rw [← hnb]; simp [nullB, FT.kind, FT.nul, h1]
    subst e
    clear hr hk hnb
    go_enter Tryd.func75, Tryd.ntmps75
    go_wp2
    go_ret
    exact ⟨rfl, gr_alloc _ _⟩
  · have q1 := beqF h1
    by_cases h2 : kd = 18
    · have e : nb = !nu := by rw [← hnb]; simp [nullB, FT.kind, FT.nul, h2]
      subst e
      clear hr hk hnb
      go_enter Tryd.func75, Tryd.ntmps75
      go_wp2
      go_ret
      exact ⟨rfl, gr_alloc _ _⟩
    · have q2 := beqF h2
      by_cases h3 : kd = 20
      · have hne := hk h3
        cases d with
        | zero => exact absurd hr hne
        | succ d =>
          obtain ⟨b, o, rfl, hSb, hcs⟩ := hr.2 hne
          have hpos : 0 < ks.length := List.length_pos_iff.2 hne
          obtain ⟨ao', ca', hc, _, _⟩ := hcs 0 hpos
          have hn : ks[0]? = some ks[0] := List.getElem?_eq_getElem hpos
          have e : nb = (nu == (ks[0]).nul) := by rw [← hnb]; simp [nullB, FT.kind, FT.nul, FT.kids, h3, hn]
          have c1 : ∀ o', (w.alloc o').cell? ⟨b, o + 1, none⟩ = some (.bool (ks[0]).nul) := fun o' => (gr_alloc w o').cell' (by have := hc.c1; simpa using this) (fun h => h)
          have hposI : (0 : Int) < (ks.length : Int) := by omega
          generalize (ks[0]).nul = kn at c1 e
          subst e
          clear hr hk hcs hc hn hne hnb
          go_enter Tryd.func75, Tryd.ntmps75
          go_wp2
          go_region
          go_wp2
          go_ret
          exact ⟨rfl, by first | exact (gr_alloc _ _) | exact (gr_alloc _ _).drew⟩
      · have q3 := beqF h3
        have e : nb = true := by rw [← hnb]; simp [nullB, FT.kind, h1, h2, h3]
        subst e
        clear hr hk hnb
        go_enter Tryd.func75, Tryd.ntmps75
        go_wp2
        go_ret
        exact ⟨rfl, gr_alloc _ _⟩
set_option maxRecDepth 100000 in
set_option maxHeartbeats 1000000 in
/-- the spot's number -/
theorem number_exact (ao : Option Addr) (L ca wb m wc i : Nat) (inD : Bool) (hb : m ≤ 1000000000000) (w : World) (hc : w.cell? ⟨wb, m, none⟩ = some (.int .i64 (i : Int))) :
    Calls Tryd.prog 57 #[.agg #[.slice ao L ca, .slice (some ⟨wb, 0, none⟩) (m + 1) wc, .bool inD]] w fun e w' => e = .returned (.int .i64 (i : Int)) ∧ w' = w.alloc (.cells #[.slice ao L ca, .slice (some ⟨wb, 0, none⟩) (m + 1) wc, .bool inD] 73) := by
  have hc : ∀ o, (w.alloc o).cell? ⟨wb, m, none⟩ = some (.int .i64 (i : Int)) := fun o => (gr_alloc w o).cell' hc (fun h => h)
  go_enter Tryd.func57, Tryd.ntmps57
  go_wp2
  go_ret
  exact ⟨rfl, rfl⟩
end Go.Proofs.YtfepbpibhcfjdaaDoor.Kit
