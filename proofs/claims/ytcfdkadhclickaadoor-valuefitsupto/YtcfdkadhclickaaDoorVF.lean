import Derived.Test.YtcfdkadhclickaaDoorVD
namespace Go.Proofs.YtcfdkadhclickaaDoor.Kit
open Go.RowKit Go.Shelf Go.Deep
set_option linter.unusedVariables false
attribute [local go_sem] run_store_func

/-! ### numbers of a kind -/
theorem wrapS (k : IntKind) (m : Int) (hm : 0 < m) (hm2 : m ≤ 2147483648) (hw : ∀ n : Int, k.wrap n = if 2 * m > n % (2 * m) ∧ n % (2 * m) ≥ m then n % (2 * m) - 2 * m else n % (2 * m)) (n : Int) : (n == wrap64 (k.wrap n)) = (decide (-m ≤ n) && decide (n ≤ m - 1)) := by
  have h0 := Int.emod_nonneg n (b := 2 * m) (by omega)
  have h1 := Int.emod_lt_of_pos n (b := 2 * m) (by omega)
  have h2 := Int.emod_add_mul_ediv n (2 * m)
  have hb : wrap64 (k.wrap n) = k.wrap n := by
    unfold wrap64
    rw [hw]
    split <;> omega
  rw [hb, hw]
  rw [Bool.eq_iff_iff]
  simp only [beq_iff_eq, Bool.and_eq_true, decide_eq_true_eq]
  constructor
  · intro e
    split at e <;> omega
  · rintro ⟨a, b⟩
    by_cases hn : 0 ≤ n
    · have e : n % (2 * m) = n := Int.emod_eq_of_lt hn (by omega)
      rw [e, if_neg (by omega)]
    · have e : n % (2 * m) = n + 2 * m := by
        rw [← Int.add_emod_right]
        exact Int.emod_eq_of_lt (by omega) (by omega)
      rw [e, if_pos (by omega)]
      omega
theorem wrapU (k : IntKind) (m : Int) (hm : 0 < m) (hm2 : m ≤ 4294967296) (hw : ∀ n : Int, k.wrap n = n % m) (n : Int) : (n == wrap64 (k.wrap n)) = (decide (0 ≤ n) && decide (n ≤ m - 1)) := by
  have h0 := Int.emod_nonneg n (b := m) (by omega)
  have h1 := Int.emod_lt_of_pos n (b := m) (by omega)
  have hb : wrap64 (k.wrap n) = k.wrap n := by
    unfold wrap64
    rw [hw]
    omega
  rw [hb, hw, Bool.eq_iff_iff]
  simp only [beq_iff_eq, Bool.and_eq_true, decide_eq_true_eq]
  constructor
  · intro e; omega
  · rintro ⟨a, b⟩
    exact (Int.emod_eq_of_lt a (by omega)).symm
theorem wrapI8 (n : Int) : (n == wrap64 (IntKind.i8.wrap n)) = (decide (-128 ≤ n) && decide (n ≤ 127)) := wrapS .i8 128 (by decide) (by decide) (fun n => by
  have h1 := Int.emod_lt_of_pos n (b := 256) (by omega)
  simp [IntKind.wrap, IntKind.bits, IntKind.signed, h1]) n
theorem wrapI16 (n : Int) : (n == wrap64 (IntKind.i16.wrap n)) = (decide (-32768 ≤ n) && decide (n ≤ 32767)) := wrapS .i16 32768 (by decide) (by decide) (fun n => by
  have h1 := Int.emod_lt_of_pos n (b := 65536) (by omega)
  simp [IntKind.wrap, IntKind.bits, IntKind.signed, h1]) n
theorem wrapI32 (n : Int) : (n == wrap64 (IntKind.i32.wrap n)) = (decide (-2147483648 ≤ n) && decide (n ≤ 2147483647)) := wrapS .i32 2147483648 (by decide) (by decide) (fun n => by
  have h1 := Int.emod_lt_of_pos n (b := 4294967296) (by omega)
  simp [IntKind.wrap, IntKind.bits, IntKind.signed, h1]) n
theorem wrapU8 (n : Int) : (n == wrap64 (IntKind.u8.wrap n)) = (decide (0 ≤ n) && decide (n ≤ 255)) := wrapU .u8 256 (by decide) (by decide) (fun n => by simp [IntKind.wrap, IntKind.bits, IntKind.signed]) n
theorem wrapU16 (n : Int) : (n == wrap64 (IntKind.u16.wrap n)) = (decide (0 ≤ n) && decide (n ≤ 65535)) := wrapU .u16 65536 (by decide) (by decide) (fun n => by simp [IntKind.wrap, IntKind.bits, IntKind.signed]) n
theorem wrapU32 (n : Int) : (n == wrap64 (IntKind.u32.wrap n)) = (decide (0 ≤ n) && decide (n ≤ 4294967295)) := wrapU .u32 4294967296 (by decide) (by decide) (fun n => by simp [IntKind.wrap, IntKind.bits, IntKind.signed]) n

theorem modU (m : Int) (hm : 0 < m) (n : Int) : (n == n % m) = (decide (0 ≤ n) && decide (n ≤ m - 1)) := by
  have h0 := Int.emod_nonneg n (b := m) (by omega)
  have h1 := Int.emod_lt_of_pos n (b := m) (by omega)
  rw [Bool.eq_iff_iff]
  simp only [beq_iff_eq, Bool.and_eq_true, decide_eq_true_eq]
  constructor
  · intro e; omega
  · rintro ⟨a, b⟩
    exact (Int.emod_eq_of_lt a (by omega)).symm
theorem modI32 (n : Int) : (n == wrap64 (wrap32 n)) = (decide (-2147483648 ≤ n) && decide (n ≤ 2147483647)) := by
  unfold wrap64 wrap32
  rw [Bool.eq_iff_iff]
  simp only [beq_iff_eq, Bool.and_eq_true, decide_eq_true_eq]
  constructor
  · intro e; omega
  · rintro ⟨a, b⟩; omega
set_option maxRecDepth 100000 in
set_option maxHeartbeats 2000000 in
theorem fitsNumber_any (k n : Int) (hk : 1 ≤ k ∧ k ≤ 20) (w : World) : Calls Tryd.prog 93 #[.int .i64 k, .int .i64 n] w fun e w' => e = .returned (.bool (numB k n)) ∧ w = w' := by
  have hk' : k = 1 ∨ k = 2 ∨ k = 3 ∨ k = 4 ∨ k = 5 ∨ k = 6 ∨ k = 7 ∨ k = 8 ∨ k = 9 ∨ k = 10 ∨ k = 11 ∨ k = 12 ∨ k = 13 ∨ k = 14 ∨ k = 15 ∨ k = 16 ∨ k = 17 ∨ k = 18 ∨ k = 19 ∨ k = 20 := by omega
  clear hk
  rcases hk' with rfl | rfl | rfl | rfl | rfl | rfl | rfl | rfl | rfl | rfl | rfl | rfl | rfl | rfl | rfl | rfl | rfl | rfl | rfl | rfl
  case inr.inl =>
    by_cases h0 : n = 0
    · subst h0
      go_enter Tryd.func93, Tryd.ntmps93
      go_wp2
      go_ret
      exact ⟨rfl, rfl⟩
    · have hb : (n == 0) = false := by simp [h0]
      have HB : Hid (numB 2 n = (n == 1)) := by show _ = _; simp [numB, hb]
      go_enter Tryd.func93, Tryd.ntmps93
      go_wp2
      go_ret
      exact ⟨by rw [HB.out]; rfl, rfl⟩
  all_goals
    go_enter Tryd.func93, Tryd.ntmps93
    go_wp2
    go_ret
    first
      | exact ⟨rfl, rfl⟩
      | exact ⟨congrArg (fun b => Ending.returned (.bool b)) (wrapI8 n), rfl⟩
      | exact ⟨congrArg (fun b => Ending.returned (.bool b)) (wrapI16 n), rfl⟩
      | exact ⟨congrArg (fun b => Ending.returned (.bool b)) (modI32 n), rfl⟩
      | exact ⟨congrArg (fun b => Ending.returned (.bool b)) (modU 256 (by decide) n), rfl⟩
      | exact ⟨congrArg (fun b => Ending.returned (.bool b)) (modU 65536 (by decide) n), rfl⟩
      | exact ⟨congrArg (fun b => Ending.returned (.bool b)) (modU 4294967296 (by decide) n), rfl⟩
      | exact ⟨congrArg (fun b => Ending.returned (.bool b)) (wrapI32 n), rfl⟩
      | exact ⟨congrArg (fun b => Ending.returned (.bool b)) (wrapU8 n), rfl⟩
      | exact ⟨congrArg (fun b => Ending.returned (.bool b)) (wrapU16 n), rfl⟩
      | exact ⟨congrArg (fun b => Ending.returned (.bool b)) (wrapU32 n), rfl⟩
end Go.Proofs.YtcfdkadhclickaaDoor.Kit
