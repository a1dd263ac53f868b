import Derived.Test.YtemleibpmaclmaaTE
import Derived.Test.YtemleibpmaclmaaSN
namespace Go.Proofs.Ytemleibpmaclmaa.Kit
open Go.RowKit Go.Shelf Go.Deep
set_option linter.unusedVariables false

/-! ### a list of messages in memory -/
abbrev Msg := List UInt8 × List UInt8
structure MsgAt (W : World) (b off : Nat) (x : Msg) : Prop where
  h : ∃ mo mc bo bc, W.cell? ⟨b, off, none⟩ = some (.slice mo x.1.length mc) ∧ W.cell? ⟨b, off + 1, none⟩ = some (.slice bo x.2.length bc) ∧ x.1.length ≤ mc ∧ x.1.length ≤ 140737488351232 ∧ BytesAt W mo x.1 ∧ x.2.length ≤ bc ∧ x.2.length ≤ 140737488351232 ∧ BytesAt W bo x.2
def MsgsAt (W : World) (ao : Option Addr) (l : List Msg) : Prop :=
  l ≠ [] → ∃ b off, ao = some ⟨b, off, none⟩ ∧ ∀ k (h : k < l.length), MsgAt W b (off + 2 * k) l[k]
def fitB (l : List Msg) : Bool := l.all fun x => decide (x.1.length ≤ 65536) && decide (x.2.length ≤ 4194304)
theorem fit_no (l : List Msg) (k : Nat) (hk : k < l.length) (h : 65536 < l[k].1.length ∨ 4194304 < l[k].2.length) : fitB l = false := by
  unfold fitB
  rw [List.all_eq_false]
  refine ⟨l[k], List.getElem_mem hk, ?_⟩
  simp
  omega
set_option maxHeartbeats 400000 in
theorem fit_some (b off cap : Nat) (l : List Msg) (w : World) (hlen : l.length ≤ 9223372036854775807) (hc : ∀ k (h : k < l.length), MsgAt w b (off + 2 * k) l[k]) :
    Calls Try.prog 27 #[.slice (some ⟨b, off, none⟩) l.length cap] w fun e w' => e = .returned (.bool (fitB l)) ∧ w' = w := by
  obtain ⟨len, hl⟩ : ∃ n, l.length = n := ⟨_, rfl⟩
  rw [hl] at hlen ⊢
  have HL : Hid (l.length = len) := hl
  go_enter Try.func27, Try.ntmps27
  go_wp2
  go_loop [3] (fun i => ∃ (k : Nat), k ≤ len ∧ i = .int .i64 k ∧ Hid (fitB (l.take k) = true)) (fun i => len - (intOf i).toNat)
  case atStart => exact ⟨0, Nat.zero_le _, rfl, rfl⟩
  case round =>
    obtain ⟨k, hk, rfl, HN⟩ := hrel
    by_cases hlt : k < len
    · have hkl : k < l.length := by omega
      obtain ⟨mo, mc, bo, bc, c1, c2, -, m1, -, -, m2, -⟩ := (hc k hkl).h
      obtain ⟨x, hx⟩ : ∃ x, l[k].1.length = x := ⟨_, rfl⟩
      obtain ⟨y, hy⟩ : ∃ y, l[k].2.length = y := ⟨_, rfl⟩
      rw [hx] at c1 m1
      rw [hy] at c2 m2
      rw [Nat.mul_comm 2 k] at c1 c2
      have HX : Hid (l[k].1.length = x) := hx
      have HY : Hid (l[k].2.length = y) := hy
      have HT : Hid (l.take (k + 1) = l.take k ++ [l[k]]) := by show _ = _; rw [List.take_succ_eq_append_getElem hkl]
      have HK : Hid (k < l.length) := hkl
      clear hx hy hc hl
      by_cases h1 : 65536 < x
      · go_wp2
        go_ret
        exact ⟨by rw [fit_no l k HK.out (by rw [HX.out]; omega)]; rfl, rfl⟩
      · by_cases h2 : 4194304 < y
        · go_wp2
          go_ret
          exact ⟨by rw [fit_no l k HK.out (by rw [HY.out]; omega)]; rfl, rfl⟩
        · go_wp2
          go_round
          case rel =>
            refine ⟨k + 1, by omega, by go_num, ?_⟩
            show _ = _
            rw [HT.out, fitB, List.all_append, ← fitB, HN.out]
            simp [HX.out, HY.out]
            omega
          case measure => simp [intOf]; omega
    · obtain rfl : k = len := by omega
      have HE : Hid (fitB l = true) := by show _ = _; rw [← HN.out, List.take_of_length_le (by omega)]
      clear hc hl
      go_wp2
      go_ret
      exact ⟨by rw [HE.out]; rfl, rfl⟩
set_option maxHeartbeats 400000 in
theorem fit_none (ao : Option Addr) (cap : Nat) (w : World) : Calls Try.prog 27 #[.slice ao 0 cap] w fun e w' => e = .returned (.bool true) ∧ w' = w := by
  go_enter Try.func27, Try.ntmps27
  go_wp2
  go_loop [3] (fun i => i = .int .i64 0) (fun i => 0)
  case atStart => rfl
  case round =>
    subst hrel
    go_wp2
    go_ret
    exact ⟨rfl, rfl⟩
/-- fit -/
theorem fit_any {ao : Option Addr} {cap : Nat} {l : List Msg} {w : World} (hlen : l.length ≤ 9223372036854775807) (h : MsgsAt w ao l) :
    Calls Try.prog 27 #[.slice ao l.length cap] w fun e w' => e = .returned (.bool (fitB l)) ∧ w' = w := by
  by_cases hl : l = []
  · subst hl; exact fit_none ao cap w
  · obtain ⟨b, off, rfl, hc⟩ := h hl
    exact fit_some b off cap l w hlen hc
/-- how wide messages are -/
def wideN (l : List Msg) : Nat := (l.map fun x => 64 + x.1.length + x.2.length).sum
def broadB (l : List Msg) : Bool := decide (2147483648 ≤ wideN l)
theorem wide_take (l : List Msg) (k : Nat) : wideN (l.take k) ≤ wideN l := by
  conv => rhs; rw [← List.take_append_drop k l]
  unfold wideN
  rw [List.map_append, List.sum_append]
  omega
theorem MsgAt.gr {W W' : World} {b off : Nat} {x : Msg} (h : MsgAt W b off x) (g : Gr W W') : MsgAt W' b off x := by
  obtain ⟨mo, mc, bo, bc, c1, c2, a1, a2, a3, a4, a5, a6⟩ := h.h
  exact ⟨mo, mc, bo, bc, g.cell' c1 id, g.cell' c2 id, a1, a2, a3.gr g, a4, a5, a6.gr g⟩
theorem MsgsAt.gr {W W' : World} {ao : Option Addr} {l : List Msg} (h : MsgsAt W ao l) (g : Gr W W') : MsgsAt W' ao l := fun hn => by
  obtain ⟨b, off, e, hc⟩ := h hn
  exact ⟨b, off, e, fun k hk => (hc k hk).gr g⟩
set_option maxRecDepth 100000 in
set_option maxHeartbeats 4000000 in
theorem wide_some (b off cap : Nat) (l : List Msg) (w : World) (hlen : l.length ≤ 9223372036854775807) (hc : ∀ k (h : k < l.length), MsgAt w b (off + 2 * k) l[k]) :
    Calls Try.prog 28 #[.slice (some ⟨b, off, none⟩) l.length cap] w fun e w' => e = .returned (.bool (broadB l)) ∧ Gr w w' := by
  obtain ⟨len, hl⟩ : ∃ n, l.length = n := ⟨_, rfl⟩
  rw [hl] at hlen ⊢
  have HL : Hid (l.length = len) := hl
  have HC := hidM hc
  clear hl hc
  go_enter Try.func28, Try.ntmps28
  go_wp2_with fail
  go_loopw [3, 4] (fun n i wr => ∃ (k t : Nat), k ≤ len ∧ i = .int .i64 (k : Int) ∧ n = .int .i64 (t : Int) ∧ t ≤ 1000000000000000 ∧ Hid (t = wideN (l.take k)) ∧ Hid (Gr w wr)) (fun n i _ => len - (intOf i).toNat)
  case atStart => exact ⟨0, 0, Nat.zero_le _, rfl, rfl, by omega, rfl, Keeps.refl _ _⟩
  case round =>
    obtain ⟨k, t, hk, rfl, rfl, ht, HN, HG⟩ := hrel
    by_cases hlt : k < len
    · have hkl : k < l.length := by rw [HL.out]; exact hlt
      obtain ⟨mo, mc, bo, bc, c1, c2, -, m1, -, -, m2, -⟩ := ((HC.out k hkl).gr HG.out).h
      obtain ⟨x, hx⟩ : ∃ x, l[k].1.length = x := ⟨_, rfl⟩
      obtain ⟨y, hy⟩ : ∃ y, l[k].2.length = y := ⟨_, rfl⟩
      rw [hx] at c1 m1
      rw [hy] at c2 m2
      rw [Nat.mul_comm 2 k] at c1 c2
      have HX : Hid (wideN (l.take (k + 1)) = wideN (l.take k) + (64 + x + y)) := by
        show _ = _
        rw [List.take_succ_eq_append_getElem hkl, wideN, List.map_append, List.sum_append, ← wideN]
        simp [hx, hy]
      have cI : (k : Int) < (len : Int) := by omega
      clear hx hy hkl
      by_cases h1 : (t : Int) < 2147483648
      · go_wp2_with fail
        go_region
        go_wp2_with fail
        go_roundw
        case rel =>
          refine ⟨k + 1, t + (64 + x + y), by omega, by go_num, by go_num, by omega, ?_, HG.out.trans ((Keeps.refl _ _).drew) (fun _ _ h => h)⟩
          show _ = _
          rw [HX.out, ← HN.out]
        case measure => simp [intOf]; omega
      · have HE : Hid (broadB l = true) := by
          show _ = _
          have := wide_take l k
          rw [← HN.out] at this
          simp [broadB]
          omega
        go_wp2_with fail
        go_ret
        exact ⟨by rw [HE.out]; exact ret_bool (by simp), HG.out⟩
    · obtain rfl : k = len := by omega
      have HE : Hid (broadB l = decide ((2147483648 : Int) ≤ (t : Int))) := by
        show _ = _
        have : t = wideN l := by rw [HN.out, List.take_of_length_le (by rw [HL.out]; omega)]
        unfold broadB
        rw [← this]
        simp
        omega
      by_cases h1 : (t : Int) < 2147483648
      · go_wp2_with fail
        go_ret
        exact ⟨by rw [HE.out]; exact ret_bool (by simp), HG.out⟩
      · go_wp2_with fail
        go_ret
        exact ⟨by rw [HE.out]; exact ret_bool (by simp; omega), HG.out⟩
set_option maxHeartbeats 400000 in
theorem wide_none (ao : Option Addr) (cap : Nat) (w : World) : Calls Try.prog 28 #[.slice ao 0 cap] w fun e w' => e = .returned (.bool false) ∧ w' = w := by
  go_enter Try.func28, Try.ntmps28
  go_wp2
  go_loop [3, 4] (fun n i => n = .int .i64 0 ∧ i = .int .i64 0) (fun _ _ => 0)
  case atStart => exact ⟨rfl, rfl⟩
  case round =>
    obtain ⟨rfl, rfl⟩ := hrel
    go_wp2
    go_ret
    exact ⟨rfl, rfl⟩
/-- wide -/
theorem mwide_any {ao : Option Addr} {cap : Nat} {l : List Msg} {w : World} (hlen : l.length ≤ 9223372036854775807) (h : MsgsAt w ao l) :
    Calls Try.prog 28 #[.slice ao l.length cap] w fun e w' => e = .returned (.bool (broadB l)) ∧ Gr w w' := by
  by_cases hl : l = []
  · subst hl
    refine (wide_none ao cap w).mono ?_
    rintro e w' ⟨rfl, rfl⟩
    exact ⟨rfl, Keeps.refl _ _⟩
  · obtain ⟨b, off, rfl, hc⟩ := h hl
    exact wide_some b off cap l w hlen hc
end Go.Proofs.Ytemleibpmaclmaa.Kit
