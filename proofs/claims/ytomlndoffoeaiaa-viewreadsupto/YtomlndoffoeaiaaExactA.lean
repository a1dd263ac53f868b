import Derived.Test.YtomlndoffoeaiaaRows
import Derived.WalkKit
import Derived.Outline
namespace Go.Proofs.Ytomlndoffoeaiaa.Ex
open Go.RowKit

def sumB (l : List Int) : Bool := l.all (fun x => decide (0 ≤ x)) && decide (l.sum ≤ 9223372036854775807)
def sumV (l : List Int) : Int := if sumB l = true then l.sum else 0

theorem sumB_iff (l : List Int) : sumB l = true ↔ (∀ x ∈ l, 0 ≤ x) ∧ l.sum ≤ 9223372036854775807 := by
  simp [sumB]
theorem sumB_iff' (l : List Int) : sumB l = false ↔ ¬ ((∀ x ∈ l, 0 ≤ x) ∧ l.sum ≤ 9223372036854775807) := by
  rw [← sumB_iff]; simp
theorem sum_nonneg : ∀ (l : List Int), (∀ x ∈ l, 0 ≤ x) → 0 ≤ l.sum
  | [], _ => by simp
  | x :: r, h => by
    have h1 := h x (by simp)
    have h2 := sum_nonneg r fun y hy => h y (by simp [hy])
    simp only [List.sum_cons]; omega
theorem take_succ_sum (l : List Int) (k : Nat) (hk : k < l.length) : (l.take (k + 1)).sum = (l.take k).sum + l.getD k 0 := by
  rw [List.take_succ_eq_append_getElem hk, List.sum_append]
  simp [List.getD, List.getElem?_eq_getElem hk]
theorem take_sum_le (l : List Int) (k : Nat) (h : ∀ x ∈ l, 0 ≤ x) : (l.take k).sum ≤ l.sum := by
  have e : l.sum = (l.take k).sum + (l.drop k).sum := by rw [← List.sum_append, List.take_append_drop]
  have := sum_nonneg (l.drop k) fun y hy => h y (List.mem_of_mem_drop hy)
  omega
theorem fail_neg (l : List Int) (k : Nat) (hk : k < l.length) (h : l.getD k 0 < 0) : sumB l = false := by
  rw [sumB_iff']; rintro ⟨a, _⟩
  have := a (l[k]) (List.getElem_mem hk)
  simp [List.getD, List.getElem?_eq_getElem hk] at h
  omega
theorem fail_big (l : List Int) (k : Nat) (hk : k < l.length) (h : 9223372036854775807 < (l.take k).sum + l.getD k 0) : sumB l = false := by
  rw [sumB_iff']; rintro ⟨a, b⟩
  have h1 := take_succ_sum l k hk
  have h2 := take_sum_le l (k + 1) a
  omega
theorem good_all (l : List Int) (h : ∀ j, j < l.length → 0 ≤ l.getD j 0) (hs : l.sum ≤ 9223372036854775807) : sumB l = true := by
  rw [sumB_iff]
  refine ⟨fun x hx => ?_, hs⟩
  obtain ⟨j, hj, rfl⟩ := List.getElem_of_mem hx
  have := h j hj
  simpa [List.getD, List.getElem?_eq_getElem hj] using this
theorem sumV_yes {l : List Int} (h : sumB l = true) : sumV l = l.sum := by simp [sumV, h]
theorem sumV_no {l : List Int} (h : sumB l = false) : sumV l = 0 := by simp [sumV, h]

theorem ret2 {k : IntKind} {a b : Int} {x y : Bool} (h : a = b) (g : x = y) : Ending.returned (.tuple #[.int k a, .bool x]) = .returned (.tuple #[.int k b, .bool y]) := by rw [h, g]

set_option maxHeartbeats 400000 in
/-- view.Sum, of a row that lies somewhere -/
theorem sum_some (b off len cap : Nat) (l : List Int) (w : World) (hl : l.length = len) (hlen : len ≤ 9223372036854775807)
    (hc : ∀ k, k < len → w.cell? ⟨b, off + k, none⟩ = some (.int .i64 (l.getD k 0))) :
    Calls Try.prog 35 #[.slice (some ⟨b, off, none⟩) len cap] w fun e w' => e = .returned (.tuple #[.int .i64 (sumV l), .bool (sumB l)]) ∧ w' = w := by
  have HL : Hid (l.length = len) := hl
  clear hl
  go_enter Try.func35, Try.ntmps35
  go_wp2
  go_loop [4, 9] (fun s i => ∃ (k : Nat) (t : Int), k ≤ len ∧ i = .int .i64 k ∧ s = .int .i64 t ∧ 0 ≤ t ∧ t ≤ 9223372036854775807 ∧ Hid (t = (l.take k).sum) ∧ Hid (∀ j, j < k → 0 ≤ l.getD j 0)) (fun _ i => len - (intOf i).toNat)
  case atStart => exact ⟨0, 0, Nat.zero_le _, rfl, rfl, by omega, by omega, (by simp : (0 : Int) = _), fun j hj => absurd hj (by omega)⟩
  case round =>
    obtain ⟨k, t, hk, rfl, rfl, ht0, ht1, HT, HN⟩ := hrel
    by_cases hlt : k < len
    · have hx := hc k hlt
      obtain ⟨x, hxx⟩ : ∃ x, x = l.getD k 0 := ⟨_, rfl⟩
      rw [← hxx] at hx
      have HX : Hid (x = l.getD k 0) := hxx
      clear hxx hc
      by_cases h1 : x < 0
      · go_wp2
        go_ret2
        have e := fail_neg l k (by rw [HL.out]; exact hlt) (by rw [← HX.out]; exact h1)
        exact ⟨ret2 (sumV_no e).symm e.symm, rfl⟩
      · by_cases h2 : 9223372036854775807 - t < x
        · go_wp2
          go_ret2
          have e := fail_big l k (by rw [HL.out]; exact hlt) (by rw [← HX.out, ← HT.out]; omega)
          exact ⟨ret2 (sumV_no e).symm e.symm, rfl⟩
        · go_wp2
          go_round
          case rel =>
            refine ⟨k + 1, t + x, by omega, by go_num, by go_num, by omega, by omega, ?_, ?_⟩
            · show _ = _
              rw [take_succ_sum l k (by rw [HL.out]; exact hlt), ← HX.out, ← HT.out]
            · intro j hj
              by_cases hjk : j = k
              · subst hjk; rw [← HX.out]; omega
              · exact HN.out j (by omega)
          case measure => simp [intOf]; omega
    · obtain rfl : k = len := by omega
      have e : sumB l = true := good_all l (by rw [HL.out]; exact HN.out) (by have := HT.out; rw [List.take_of_length_le (by rw [HL.out]; omega)] at this; omega)
      have ev : sumV l = t := by rw [sumV_yes e, HT.out, List.take_of_length_le (by rw [HL.out]; omega)]
      have HE : Hid (sumB l = true) := e
      have HEV : Hid (sumV l = t) := ev
      clear e ev
      go_wp2
      go_ret2
      exact ⟨ret2 HEV.out.symm HE.out.symm, rfl⟩

theorem sum_zero (ao : Option Addr) (cap : Nat) (w : World) :
    Calls Try.prog 35 #[.slice ao 0 cap] w fun e w' => e = .returned (.tuple #[.int .i64 0, .bool true]) ∧ w' = w := by
  go_enter Try.func35, Try.ntmps35
  go_wp2
  refine wp_loop_rounds 1 ?_
  rw [rounds_succ]
  go_wp2
  go_ret2
  exact ⟨rfl, rfl⟩

theorem rsum_zero (ao : Option Addr) (cap : Nat) (w : World) :
    Calls Try.prog 36 #[.slice ao 0 cap] w fun e w' => e = .returned (.tuple #[.int .i64 0, .bool true]) ∧ w' = w := by
  go_enter Try.func36, Try.ntmps36
  go_wp2
  refine wp_loop_rounds 1 ?_
  rw [rounds_succ]
  go_wp2
  go_ret2
  exact ⟨rfl, rfl⟩

set_option maxHeartbeats 400000 in
/-- the document's Sum -/
theorem rsum_some (b off len cap : Nat) (l : List Int) (w : World) (hl : l.length = len) (hlen : len ≤ 9223372036854775807)
    (hb : ∀ k, l.getD k 0 ≤ 9223372036854775807)
    (hc : ∀ k, k < len → w.cell? ⟨b, off + k, none⟩ = some (.int .i64 (l.getD k 0))) :
    Calls Try.prog 36 #[.slice (some ⟨b, off, none⟩) len cap] w fun e w' => e = .returned (.tuple #[.int .i64 (sumV l), .bool (sumB l)]) ∧ w' = w := by
  have HL : Hid (l.length = len) := hl
  clear hl
  go_enter Try.func36, Try.ntmps36
  go_wp2
  go_loop [4, 5] (fun s i => ∃ (k : Nat) (t : Int), k ≤ len ∧ i = .int .i64 k ∧ s = .int .u64 t ∧ 0 ≤ t ∧ t ≤ 9223372036854775807 ∧ Hid (t = (l.take k).sum) ∧ Hid (∀ j, j < k → 0 ≤ l.getD j 0)) (fun _ i => len - (intOf i).toNat)
  case atStart => exact ⟨0, 0, Nat.zero_le _, rfl, rfl, by omega, by omega, (by simp : (0 : Int) = _), fun j hj => absurd hj (by omega)⟩
  case round =>
    obtain ⟨k, t, hk, rfl, rfl, ht0, ht1, HT, HN⟩ := hrel
    by_cases hlt : k < len
    · have hx := hc k hlt
      have hxb := hb k
      obtain ⟨x, hxx⟩ : ∃ x, x = l.getD k 0 := ⟨_, rfl⟩
      rw [← hxx] at hx hxb
      have HX : Hid (x = l.getD k 0) := hxx
      clear hxx hc hb
      by_cases h1 : x < 0
      · go_wp2
        go_ret2
        have e := fail_neg l k (by rw [HL.out]; exact hlt) (by rw [← HX.out]; exact h1)
        exact ⟨ret2 (sumV_no e).symm e.symm, rfl⟩
      · by_cases h2 : 9223372036854775807 < t + x
        · go_wp2
          go_ret2
          have e := fail_big l k (by rw [HL.out]; exact hlt) (by rw [← HX.out, ← HT.out]; omega)
          exact ⟨ret2 (sumV_no e).symm e.symm, rfl⟩
        · go_wp2
          go_round
          case rel =>
            refine ⟨k + 1, t + x, by omega, by go_num, by go_num, by omega, by omega, ?_, ?_⟩
            · show _ = _
              rw [take_succ_sum l k (by rw [HL.out]; exact hlt), ← HX.out, ← HT.out]
            · intro j hj
              by_cases hjk : j = k
              · subst hjk; rw [← HX.out]; omega
              · exact HN.out j (by omega)
          case measure => simp [intOf]; omega
    · obtain rfl : k = len := by omega
      have e : sumB l = true := good_all l (by rw [HL.out]; exact HN.out) (by have := HT.out; rw [List.take_of_length_le (by rw [HL.out]; omega)] at this; omega)
      have ev : sumV l = t := by rw [sumV_yes e, HT.out, List.take_of_length_le (by rw [HL.out]; omega)]
      have HE : Hid (sumB l = true) := e
      have HEV : Hid (sumV l = t) := ev
      clear e ev
      go_wp2
      go_ret2
      exact ⟨ret2 HEV.out.symm HE.out.symm, rfl⟩

/-- Times, of both: what they answer -/
def timB (a b : Int) : Bool := decide (0 ≤ a) && decide (0 ≤ b) && decide (a * b ≤ 9223372036854775807)
def timV (a b : Int) : Int := if timB a b = true then a * b else 0
theorem timB_iff (a b : Int) : timB a b = true ↔ 0 ≤ a ∧ 0 ≤ b ∧ a * b ≤ 9223372036854775807 := by simp [timB, and_assoc]
theorem timB_no {a b : Int} (h : ¬ (0 ≤ a ∧ 0 ≤ b ∧ a * b ≤ 9223372036854775807)) : timB a b = false := by
  rw [← timB_iff] at h; simpa using h
theorem timV_no {a b : Int} (h : timB a b = false) : timV a b = 0 := by simp [timV, h]
theorem timV_yes {a b : Int} (h : timB a b = true) : timV a b = a * b := by simp [timV, h]
theorem div_lt {a b M : Int} (hb : 0 < b) : M / b < a ↔ M < a * b := Int.ediv_lt_iff_lt_mul hb

set_option maxHeartbeats 400000 in
theorem times_any (a b : Int) (w : World) (ha : a ≤ 9223372036854775807) (hb : b ≤ 9223372036854775807) :
    Calls Try.prog 37 #[.int .i64 a, .int .i64 b] w fun e w' => e = .returned (.tuple #[.int .i64 (timV a b), .bool (timB a b)]) ∧ w' = w := by
  by_cases h1 : a < 0
  · have e : Hid (timB a b = false) := timB_no (by omega)
    go_enter Try.func37, Try.ntmps37
    go_wp2
    go_ret2
    exact ⟨ret2 (timV_no e.out).symm e.out.symm, rfl⟩
  · by_cases h2 : b < 0
    · have e : Hid (timB a b = false) := timB_no (by omega)
      go_enter Try.func37, Try.ntmps37
      go_wp2
      go_ret2
      exact ⟨ret2 (timV_no e.out).symm e.out.symm, rfl⟩
    · by_cases h3 : 0 < b
      · by_cases h4 : 9223372036854775807 / b < a
        · have H : Hid (9223372036854775807 < a * b) := (div_lt h3).1 h4
          go_enter Try.func37, Try.ntmps37
          go_wp2
          go_ret2
          have e : timB a b = false := timB_no (by have := H.out; omega)
          exact ⟨ret2 (timV_no e).symm e.symm, rfl⟩
        · have H : Hid (a * b ≤ 9223372036854775807) := by
            have := mt (div_lt h3).2 h4; show _ ≤ _; omega
          have H0 : 0 ≤ a * b := Int.mul_nonneg (by omega) (by omega)
          have H1 : a * b ≤ 9223372036854775807 := H
          go_enter Try.func37, Try.ntmps37
          go_wp2
          go_ret2
          have e : timB a b = true := (timB_iff a b).2 ⟨by omega, by omega, H⟩
          exact ⟨ret2 (timV_yes e).symm e.symm, rfl⟩
      · obtain rfl : b = 0 := by omega
        have e : Hid (timB a 0 = true) := (timB_iff a 0).2 ⟨by omega, by omega, by simp⟩
        go_enter Try.func37, Try.ntmps37
        go_wp2
        go_ret2
        exact ⟨ret2 (by rw [timV_yes e.out]; simp) e.out.symm, rfl⟩

set_option maxHeartbeats 400000 in
theorem rtimes_any (a b : Int) (w : World) (ha : a ≤ 9223372036854775807) (hb : b ≤ 9223372036854775807) :
    Calls Try.prog 38 #[.int .i64 a, .int .i64 b] w fun e w' => e = .returned (.tuple #[.int .i64 (timV a b), .bool (timB a b)]) ∧ w' = w := by
  by_cases h1 : a < 0
  · have e : Hid (timB a b = false) := timB_no (by omega)
    go_enter Try.func38, Try.ntmps38
    go_wp2
    go_ret2
    exact ⟨ret2 (timV_no e.out).symm e.out.symm, rfl⟩
  · by_cases h2 : b < 0
    · have e : Hid (timB a b = false) := timB_no (by omega)
      go_enter Try.func38, Try.ntmps38
      go_wp2
      go_ret2
      exact ⟨ret2 (timV_no e.out).symm e.out.symm, rfl⟩
    · by_cases h3 : 0 < a
      · by_cases h4 : 9223372036854775807 / a < b
        · have H : Hid (9223372036854775807 < a * b) := by have := (div_lt h3).1 h4; rwa [Int.mul_comm] at this
          go_enter Try.func38, Try.ntmps38
          go_wp2
          go_ret2
          have e : timB a b = false := timB_no (by have := H.out; omega)
          exact ⟨ret2 (timV_no e).symm e.symm, rfl⟩
        · have H : Hid (a * b ≤ 9223372036854775807) := by
            have := mt (div_lt h3).2 h4; rw [Int.mul_comm] at this; show _ ≤ _; omega
          have H0 : 0 ≤ a * b := Int.mul_nonneg (by omega) (by omega)
          have H1 : a * b ≤ 9223372036854775807 := H
          go_enter Try.func38, Try.ntmps38
          go_wp2
          go_ret2
          have e : timB a b = true := (timB_iff a b).2 ⟨by omega, by omega, H⟩
          exact ⟨ret2 (timV_yes e).symm e.symm, rfl⟩
      · obtain rfl : a = 0 := by omega
        have e : Hid (timB 0 b = true) := (timB_iff 0 b).2 ⟨by omega, by omega, by simp⟩
        go_enter Try.func38, Try.ntmps38
        go_wp2
        go_ret2
        exact ⟨ret2 (by rw [timV_yes e.out]; simp) e.out.symm, rfl⟩
end Go.Proofs.Ytomlndoffoeaiaa.Ex
