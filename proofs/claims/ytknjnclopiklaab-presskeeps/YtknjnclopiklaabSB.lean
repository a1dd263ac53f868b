import Derived.Test.YtknjnclopiklaabSA
import Derived.Laws.BitsLemmas
namespace Go.Proofs.Ytknjnclopiklaab.Kit
open Go.RowKit Go.Shelf Go.Deep
set_option linter.unusedVariables false
attribute [local go_sem] run_store_func

/-! ### four bytes as a number -/
def wordN (bs : List UInt8) (i : Nat) : Nat := (bs.getD i 0).toNat + 256 * (bs.getD (i + 1) 0).toNat + 65536 * (bs.getD (i + 2) 0).toNat + 16777216 * (bs.getD (i + 3) 0).toNat
theorem or_low {a c i : Nat} (ha : a < 2 ^ i) (hc : 2 ^ i * c < 2 ^ 62) (ha2 : a < 2 ^ 62) : bits .or .i64 (a : Int) ((2 ^ i * c : Nat) : Int) = ((a + 2 ^ i * c : Nat) : Int) := by
  rw [(bits_nat .i64 62 (by decide) (fun n h0 h1 => by rw [IntKind.wrap_i64]; omega) a (2 ^ i * c) ha2 hc).2, Nat.or_comm, ← Nat.two_pow_add_eq_or_of_lt ha c, Nat.add_comm]
set_option maxRecDepth 100000 in
set_option maxHeartbeats 2000000 in
theorem wordR_some {ao : Option Addr} {ca i : Nat} {bs : List UInt8} {w : World} (h : BytesAt w ao bs) (hi : i + 4 ≤ bs.length) (hl : bs.length ≤ 100000) :
    ∀ W, Gr w W → Calls Try.prog 36 #[.slice ao bs.length ca, .int .i64 (i : Int)] W fun e w' => e = .returned (.int .i64 (wordN bs i : Int)) ∧ Gr W w' := by
  intro W g
  obtain ⟨b, o, rfl, hc⟩ := (h.gr g).at (ne_nil (i := i) (by omega))
  obtain ⟨x0, hx0⟩ : ∃ x, x = (bs.getD i 0).toNat := ⟨_, rfl⟩
  obtain ⟨x1, hx1⟩ : ∃ x, x = (bs.getD (i + 1) 0).toNat := ⟨_, rfl⟩
  obtain ⟨x2, hx2⟩ : ∃ x, x = (bs.getD (i + 2) 0).toNat := ⟨_, rfl⟩
  obtain ⟨x3, hx3⟩ : ∃ x, x = (bs.getD (i + 3) 0).toNat := ⟨_, rfl⟩
  have t0 := hc i (by omega)
  have t1 := hc (i + 1) (by omega)
  have t2 := hc (i + 2) (by omega)
  have t3 := hc (i + 3) (by omega)
  have b0 : x0 < 256 := by rw [hx0]; exact UInt8.toNat_lt _
  have b1 : x1 < 256 := by rw [hx1]; exact UInt8.toNat_lt _
  have b2 : x2 < 256 := by rw [hx2]; exact UInt8.toNat_lt _
  have b3 : x3 < 256 := by rw [hx3]; exact UInt8.toNat_lt _
  have HW : Hid (wordN bs i = x0 + 256 * x1 + 65536 * x2 + 16777216 * x3) := by show _ = _; unfold wordN; rw [hx0, hx1, hx2, hx3]
  rw [← hx0] at t0
  rw [← hx1] at t1
  rw [← hx2] at t2
  rw [← hx3] at t3
  obtain ⟨L, hL⟩ : ∃ L, L = bs.length := ⟨_, rfl⟩
  rw [← hL] at hi hl ⊢
  have hi0 : (0 : Int) ≤ (i : Int) := by omega
  have h4 : ¬ (L : Int) < (i : Int) + 4 := by omega
  have h1L : (i : Int) < (L : Int) := by omega
  have h2L : (i : Int) + 1 < (L : Int) := by omega
  have h3L : (i : Int) + 2 < (L : Int) := by omega
  have h4L : (i : Int) + 3 < (L : Int) := by omega
  obtain ⟨y1, hy1⟩ : ∃ y, y = x0 + 2 ^ 8 * x1 := ⟨_, rfl⟩
  obtain ⟨y2, hy2⟩ : ∃ y, y = y1 + 2 ^ 16 * x2 := ⟨_, rfl⟩
  obtain ⟨y3, hy3⟩ : ∃ y, y = y2 + 2 ^ 24 * x3 := ⟨_, rfl⟩
  have e1 : bits BinOp.or IntKind.i64 (x0 : Int) ((x1 : Int) * 256) = (y1 : Int) := by
    rw [show (x1 : Int) * 256 = ((2 ^ 8 * x1 : Nat) : Int) by omega, or_low (by omega) (by omega) (by omega), ← hy1]
  have e2 : bits BinOp.or IntKind.i64 (y1 : Int) ((x2 : Int) * 65536) = (y2 : Int) := by
    rw [show (x2 : Int) * 65536 = ((2 ^ 16 * x2 : Nat) : Int) by omega, or_low (by omega) (by omega) (by omega), ← hy2]
  have e3 : bits BinOp.or IntKind.i64 (y2 : Int) ((x3 : Int) * 16777216) = (y3 : Int) := by
    rw [show (x3 : Int) * 16777216 = ((2 ^ 24 * x3 : Nat) : Int) by omega, or_low (by omega) (by omega) (by omega), ← hy3]
  have HY : Hid (y3 = x0 + 256 * x1 + 65536 * x2 + 16777216 * x3) := by show _ = _; omega
  clear hc h g hx0 hx1 hx2 hx3 hL hy1 hy2 hy3
  go_enter Try.func36, Try.ntmps36
  go_wp2_with fail
  go_quiet (fail)
  go_wp2_with fail
  go_ret
  exact ⟨by rw [HW.out, ← HY.out]; rfl, (Keeps.refl W _).drewN _⟩
set_option maxRecDepth 100000 in
set_option maxHeartbeats 2000000 in
theorem wordR_none {ao : Option Addr} {ca i L : Nat} (hi : L < i + 4) (hl : L ≤ 100000) (hi2 : i ≤ 100000) (W : World) :
    Calls Try.prog 36 #[.slice ao L ca, .int .i64 (i : Int)] W fun e w' => e = .returned (.int .i64 (-1)) ∧ Gr W w' := by
  have h4 : (L : Int) < (i : Int) + 4 := by omega
  go_enter Try.func36, Try.ntmps36
  go_wp2_with fail
  go_ret
  exact ⟨rfl, Keeps.refl _ _⟩
theorem wordN_eq {bs : List UInt8} {i p : Nat} (hi : i + 4 ≤ bs.length) (hp : p + 4 ≤ bs.length) : wordN bs p = wordN bs i ↔ four bs p = four bs i := by
  rw [four_eq hi, four_eq hp]
  have k : ∀ n, (bs.getD n 0).toNat < 256 := fun n => UInt8.toNat_lt _
  have h0 := k p
  have h1 := k (p + 1)
  have h2 := k (p + 2)
  have h3 := k (p + 3)
  have g0 := k i
  have g1 := k (i + 1)
  have g2 := k (i + 2)
  have g3 := k (i + 3)
  simp only [List.cons.injEq, and_true]
  unfold wordN
  constructor
  · intro h
    refine ⟨UInt8.toNat_inj.1 (by omega), UInt8.toNat_inj.1 (by omega), UInt8.toNat_inj.1 (by omega), UInt8.toNat_inj.1 (by omega)⟩
  · rintro ⟨e0, e1, e2, e3⟩
    rw [e0, e1, e2, e3]

end Go.Proofs.Ytknjnclopiklaab.Kit
