import Derived.Test.YtjdojbbjbippoaaDoorFH
namespace Go.Proofs.YtjdojbbjbippoaaDoor.Kit
open Go.RowKit Go.Shelf Go.Deep
set_option linter.unusedVariables false
attribute [local go_sem] run_store_func

/-! ### lists of numbers, read -/
def IntsAt (W : World) (ao : Option Addr) (l : List Nat) : Prop := l ≠ [] → ∃ b o, ao = some ⟨b, o, none⟩ ∧ ∀ j (h : j < l.length), W.cell? ⟨b, o + j, none⟩ = some (.int .i64 (l[j] : Int))
theorem IntsAt.gr {W W' : World} {ao : Option Addr} {l : List Nat} (h : IntsAt W ao l) (g : Gr W W') : IntsAt W' ao l := fun hn => by
  obtain ⟨b, o, e, hc⟩ := h hn
  exact ⟨b, o, e, fun j hj => g.cell' (hc j hj) id⟩
theorem ints_of_own {W : World} {vo : Option Addr} {n vc : Nat} {l : List Nat} (h : W.ownsRow 0 3 1 (.slice vo n vc) n (ints l)) : IntsAt W vo l := fun hn => by
  have hl : l.length = n := by have := h.1; simpa [ints] using this
  rcases h.2 with ⟨e, h0⟩ | ⟨g, cap, cur, e, _⟩
  · exact absurd (List.eq_nil_of_length_eq_zero (by omega)) hn
  · cases e
    refine ⟨g, 0, rfl, fun j hj => ?_⟩
    rw [Nat.zero_add, h.cellAt j (by omega)]
    simp [ints, hj]
set_option maxRecDepth 100000 in
set_option maxHeartbeats 2000000 in
theorem eqInts_true (ao bo : Option Addr) (ca cb : Nat) (l : List Nat) (hl : l.length ≤ big) (w : World) (ha : IntsAt w ao l) (hb : IntsAt w bo l) :
    Calls Tryd.prog 9 #[.slice ao l.length ca, .slice bo l.length cb] w fun e w' => e = .returned (.bool true) ∧ Gr w w' := by
  have hll : l.length ≤ 1000000000000 := hl
  have HA : Hid _ := hidM ha
  have HB : Hid _ := hidM hb
  obtain ⟨L, hL⟩ : ∃ L, L = l.length := ⟨_, rfl⟩
  rw [← hL] at hll ⊢
  have HL : Hid (L = l.length) := hL
  clear ha hb hL hl
  go_enter Tryd.func9, Tryd.ntmps9
  go_wp2
  go_loopw [13] (fun i wr => ∃ k : Nat, k ≤ L ∧ i = .int .i64 (k : Int) ∧ Hid (Gr w wr)) (fun i _ => L - (intOf i).toNat)
  case atStart => exact ⟨0, by omega, rfl, Keeps.refl _ _⟩
  case round =>
    obtain ⟨k, hk, rfl, HK⟩ := hrel
    by_cases hlt : k < L
    · have hl := HL.out
      have hkl : k < l.length := by omega
      have hne : l ≠ [] := fun e => by rw [e] at hkl; simp at hkl
      obtain ⟨b, o, rfl, hc⟩ := HA.out hne
      obtain ⟨b', o', rfl, hc'⟩ := HB.out hne
      have c1 := HK.out.cell' (hc k hkl) (fun h => h)
      have c2 := HK.out.cell' (hc' k hkl) (fun h => h)
      generalize ((l[k] : Nat) : Int) = x at *
      have hltI : (k : Int) < (L : Int) := by omega
      clear hc hc' hne hkl hl
      go_wp2
      go_region
      go_wp2
      go_roundw
      case rel => exact ⟨k + 1, by omega, by simp, HK.out.drew⟩
      case measure => simp [intOf]; omega
    · have hkL : k = L := by omega
      subst hkL
      go_wp2
      go_ret
      exact ⟨rfl, HK.out⟩
end Go.Proofs.YtjdojbbjbippoaaDoor.Kit
