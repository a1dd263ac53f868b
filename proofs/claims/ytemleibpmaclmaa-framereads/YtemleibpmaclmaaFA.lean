import Derived.Test.YtemleibpmaclmaaBB
import Derived.Test.YtemleibpmaclmaaInkC
namespace Go.Proofs.Ytemleibpmaclmaa.Kit
open Go.RowKit Go.Shelf Go.Deep
set_option linter.unusedVariables false
attribute [local go_sem] run_store_func

/-! ### the sum -/
def sumU (h : UInt32) (bs : List UInt8) : UInt32 := bs.foldl (fun h c => (h ^^^ c.toUInt32) * 16777619) h
def sum0 : UInt32 := 2166136261
theorem sumU_app (h : UInt32) (a b : List UInt8) : sumU h (a ++ b) = sumU (sumU h a) b := by simp [sumU]
theorem sumU_take {bs : List UInt8} (h : UInt32) {k : Nat} (hk : k < bs.length) : sumU h (bs.take (k + 1)) = (sumU h (bs.take k) ^^^ (bs.getD k 0).toUInt32) * 16777619 := by
  rw [List.take_add_one, List.getElem?_eq_getElem hk, sumU_app, List.getD_eq_getElem?_getD, List.getElem?_eq_getElem hk]
  rfl
theorem sum_step (h : UInt32) (c : UInt8) : IntKind.u32.wrap (bits .xor .u32 (h.toNat : Int) (c.toNat : Int) * 16777619) = (((h ^^^ c.toUInt32) * 16777619).toNat : Int) := by
  have h1 := h.toNat_lt
  have h2 := c.toNat_lt
  rw [Go.u32_xor_nat _ _ h1 (by omega), IntKind.wrap_u32, UInt32.toNat_mul, UInt32.toNat_xor, UInt8.toNat_toUInt32]
  rw [show UInt32.toNat 16777619 = 16777619 from rfl]
  omega

set_option maxRecDepth 100000 in
set_option maxHeartbeats 2000000 in
theorem sum_any {ao : Option Addr} {ca : Nat} {bs : List UInt8} {w : World} (f : UInt32) (h : BytesAt w ao bs) (hl : bs.length ≤ 140737488355328) :
    Calls Try.prog 46 #[.int .u32 (f.toNat : Int), .slice ao bs.length ca] w fun e w' => e = .returned (.int .u32 ((sumU f bs).toNat : Int)) ∧ w = w' := by
  obtain ⟨L, hL⟩ : ∃ L, L = bs.length := ⟨_, rfl⟩
  have HL := hidM hL
  have HB := hidM h
  rw [← hL] at hl ⊢
  clear h hL
  go_enter Try.func46, Try.ntmps46
  go_wp2_with fail
  go_loopw [0, 9] (fun v q wr => ∃ k : Nat, k ≤ L ∧ q = .int .i64 (k : Int) ∧ v = .int .u32 ((sumU f (bs.take k)).toNat : Int) ∧ wr = w) (fun _ q _ => L - (intOf q).toNat)
  case atStart => exact ⟨0, by omega, rfl, by simp [sumU], rfl⟩
  case round =>
    obtain ⟨k, hk, rfl, rfl, rfl⟩ := hrel
    by_cases c : k < L
    · have cI : (k : Int) < (L : Int) := by omega
      have hk0 : (0 : Int) ≤ (k : Int) := by omega
      have hkb : k < bs.length := by rw [← HL.out]; exact c
      obtain ⟨b, o, rfl, hc⟩ := HB.out.at (ne_nil hkb)
      have t1 := hc k hkb
      have hs := sum_step (sumU f (bs.take k)) (bs.getD k 0)
      rw [← sumU_take f hkb] at hs
      have hw : IntKind.u32.wrap ((bs.getD k 0).toNat : Int) = ((bs.getD k 0).toNat : Int) := by have := (bs.getD k 0).toNat_lt; rw [IntKind.wrap_u32]; omega
      obtain ⟨z, hz⟩ : ∃ z : Int, z = ((bs.getD k 0).toNat : Int) := ⟨_, rfl⟩
      obtain ⟨y, hy⟩ : ∃ y : Int, y = ((sumU f (bs.take k)).toNat : Int) := ⟨_, rfl⟩
      obtain ⟨x, hx⟩ : ∃ y : Int, y = ((sumU f (bs.take (k + 1))).toNat : Int) := ⟨_, rfl⟩
      have HX := hidM hx
      rw [← hz] at t1 hw
      rw [← hz, ← hy, ← hx] at hs
      rw [← hy]
      clear hc hz hy hx hkb HB
      go_wp2_with fail
      go_roundw
      case rel => exact ⟨k + 1, by omega, by simp, by rw [HX.out], (by first | rfl | trivial)⟩
      case measure => simp [intOf]; omega
    · have cI : ¬ (k : Int) < (L : Int) := by omega
      obtain rfl : k = L := by omega
      have HX : Hid (bs.take k = bs) := by show _ = _; rw [HL.out, List.take_length]
      rw [HX.out]
      go_wp2_with fail
      go_ret
      exact ⟨rfl, rfl⟩

set_option maxRecDepth 100000 in
set_option maxHeartbeats 2000000 in
theorem sumD_any {ao : Option Addr} {ca : Nat} {bs : List UInt8} {w : World} (f : UInt32) (h : BytesAt w ao bs) (hl : bs.length ≤ 140737488355328) :
    Calls Try.prog 33 #[.int .u32 (f.toNat : Int), .slice ao bs.length ca] w fun e w' => e = .returned (.int .u32 ((sumU f bs).toNat : Int)) ∧ w = w' := by
  obtain ⟨L, hL⟩ : ∃ L, L = bs.length := ⟨_, rfl⟩
  have HL := hidM hL
  have HB := hidM h
  rw [← hL] at hl ⊢
  clear h hL
  go_enter Try.func33, Try.ntmps33
  go_wp2_with fail
  go_loopw [0, 5] (fun v q wr => ∃ k : Nat, k ≤ L ∧ q = .int .i64 (k : Int) ∧ v = .int .u32 ((sumU f (bs.take k)).toNat : Int) ∧ wr = w) (fun _ q _ => L - (intOf q).toNat)
  case atStart => exact ⟨0, by omega, rfl, by simp [sumU], rfl⟩
  case round =>
    obtain ⟨k, hk, rfl, rfl, rfl⟩ := hrel
    by_cases c : k < L
    · have cI : (k : Int) < (L : Int) := by omega
      have hk0 : (0 : Int) ≤ (k : Int) := by omega
      have hkb : k < bs.length := by rw [← HL.out]; exact c
      obtain ⟨b, o, rfl, hc⟩ := HB.out.at (ne_nil hkb)
      have t1 := hc k hkb
      have hs := sum_step (sumU f (bs.take k)) (bs.getD k 0)
      rw [← sumU_take f hkb] at hs
      have hw : IntKind.u32.wrap ((bs.getD k 0).toNat : Int) = ((bs.getD k 0).toNat : Int) := by have := (bs.getD k 0).toNat_lt; rw [IntKind.wrap_u32]; omega
      obtain ⟨z, hz⟩ : ∃ z : Int, z = ((bs.getD k 0).toNat : Int) := ⟨_, rfl⟩
      obtain ⟨y, hy⟩ : ∃ y : Int, y = ((sumU f (bs.take k)).toNat : Int) := ⟨_, rfl⟩
      obtain ⟨x, hx⟩ : ∃ y : Int, y = ((sumU f (bs.take (k + 1))).toNat : Int) := ⟨_, rfl⟩
      have HX := hidM hx
      rw [← hz] at t1 hw
      rw [← hz, ← hy, ← hx] at hs
      rw [← hy]
      clear hc hz hy hx hkb HB
      go_wp2_with fail
      go_roundw
      case rel => exact ⟨k + 1, by omega, by simp, by rw [HX.out], (by first | rfl | trivial)⟩
      case measure => simp [intOf]; omega
    · have cI : ¬ (k : Int) < (L : Int) := by omega
      obtain rfl : k = L := by omega
      have HX : Hid (bs.take k = bs) := by show _ = _; rw [HL.out, List.take_length]
      rw [HX.out]
      go_wp2_with fail
      go_ret
      exact ⟨rfl, rfl⟩

/-! ### multiples of eight -/
def up8 (n : Nat) : Nat := (n + 7) / 8 * 8
theorem up8_ge (n : Nat) : n ≤ up8 n ∧ up8 n ≤ n + 7 := by unfold up8; omega
theorem up_any (n : Nat) (w : World) (hn : n ≤ 140737488355328) : Calls Try.prog 34 #[.int .i64 (n : Int)] w fun e w' => e = .returned (.int .i64 (up8 n : Int)) ∧ w = w' := by
  have h0 : (0 : Int) ≤ (n : Int) + 7 := by omega
  have h1 : Int.tdiv ((n : Int) + 7) 8 = ((n : Int) + 7) / 8 := Int.tdiv_eq_ediv_of_nonneg h0
  have HE : Hid (((n : Int) + 7) / 8 * 8 = (up8 n : Int)) := by show _ = _; unfold up8; omega
  go_enter Try.func34, Try.ntmps34
  go_wp2_with fail
  go_ret
  exact ⟨by rw [← HE.out]; rfl, rfl⟩
theorem padded_any (n : Nat) (w : World) (hn : n ≤ 140737488355328) : Calls Try.prog 50 #[.int .i64 (n : Int)] w fun e w' => e = .returned (.int .i64 (up8 n : Int)) ∧ w = w' := by
  have e0 : (n : Int) + 8 - 1 = (n : Int) + 7 := by omega
  have h0 : (0 : Int) ≤ (n : Int) + 7 := by omega
  have h1 : Int.tdiv ((n : Int) + 7) 8 = ((n : Int) + 7) / 8 := Int.tdiv_eq_ediv_of_nonneg h0
  have HE : Hid (((n : Int) + 7) / 8 * 8 = (up8 n : Int)) := by show _ = _; unfold up8; omega
  go_enter Try.func50, Try.ntmps50
  go_wp2_with fail
  go_ret
  exact ⟨by rw [← HE.out]; rfl, rfl⟩
end Go.Proofs.Ytemleibpmaclmaa.Kit
