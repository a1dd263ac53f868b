import Derived.Test.YtomlndoffoeaiaaReadsO
namespace Go.Proofs.Ytomlndoffoeaiaa.Kit
open Go.RowKit Go.Deep
set_option linter.unusedVariables false

/-- a raw list and the document's view of the same bytes -/
def RawAt (w : World) (b1 b2 k : Nat) : Prop :=
  ∃ (ao ao' : Option Addr) (n c c' : Nat) (l : List Int), w.cell? ⟨b1, k, none⟩ = some (.slice ao n c) ∧ w.cell? ⟨b2, k * 2, none⟩ = some (.slice ao' n c') ∧ n ≤ 9223372036854775807 ∧ BytesAt w ao n l ∧ BytesAt w ao' n l

set_option maxRecDepth 100000 in
set_option maxHeartbeats 4000000 in
theorem holds_any (r1 r2 : Option Addr) (m b1 b2 N c1 c2 ba n ca : Nat) (w : World) (hN : N ≤ 1000000000000) (hr1 : 0 < N → r1 = some ⟨b1, 0, none⟩) (hr2 : 0 < N → r2 = some ⟨b2, 0, none⟩) (hn : n ≤ 1000000000000000000)
    (h9 : w.cell? ⟨m, 9, none⟩ = some (.slice r1 N c1)) (h10 : w.cell? ⟨m, 10, none⟩ = some (.slice r2 N c2)) (hr : ∀ k, k < N → RawAt w b1 b2 k)
    (h0 : w.cell? ⟨m, 0, none⟩ = some (.slice (some ⟨ba, 0, none⟩) (n + 9) ca)) (h1 : w.cell? ⟨m, 1, none⟩ = some (.int .i64 n)) (ha : ∀ k, n ≤ k → k < n + 9 → w.cell? ⟨ba, k, none⟩ = some (.int .u8 55)) :
    Calls Try.prog 10 #[.pointer (some ⟨m, 0, none⟩)] w fun e w' => e = .returned (.bool true) ∧ ∃ q, w' = w.drewN q := by
  have HR : Hid (∀ k, k < N → RawAt w b1 b2 k) := hr
  have HA : Hid (∀ k, n ≤ k → k < n + 9 → w.cell? ⟨ba, k, none⟩ = some (.int .u8 55)) := ha
  have HC : Hid (w.cell? ⟨m, 9, none⟩ = some (.slice r1 N c1) ∧ w.cell? ⟨m, 10, none⟩ = some (.slice r2 N c2) ∧ w.cell? ⟨m, 0, none⟩ = some (.slice (some ⟨ba, 0, none⟩) (n + 9) ca) ∧ w.cell? ⟨m, 1, none⟩ = some (.int .i64 n)) := ⟨h9, h10, h0, h1⟩
  clear hr ha h9 h10 h0 h1
  go_enter Try.func10, Try.ntmps10
  go_wp2
  go_loopw [3, 4] (fun i _ wr => ∃ k : Nat, k ≤ N ∧ i = .int .i64 k ∧ Hid (∃ q, wr = w.drewN q)) (fun i _ _ => N - (intOf i).toNat)
  case atStart => exact ⟨0, Nat.zero_le _, rfl, 0, rfl⟩
  case round =>
    obtain ⟨k, hk, rfl, HQ⟩ := hrel
    have c9 : wr.cell? ⟨m, 9, none⟩ = some (.slice r1 N c1) := by obtain ⟨q, e⟩ := HQ.out; rw [e]; exact HC.out.1
    have c10 : wr.cell? ⟨m, 10, none⟩ = some (.slice r2 N c2) := by obtain ⟨q, e⟩ := HQ.out; rw [e]; exact HC.out.2.1
    by_cases hlt : k < N
    · obtain rfl := hr1 (by omega)
      obtain rfl := hr2 (by omega)
      have hr : RawAt wr b1 b2 k := by obtain ⟨q, e⟩ := HQ.out; rw [e]; exact HR.out k hlt
      obtain ⟨ao, ao', nk, c, c', l, t1, t2, hnk, d1, d2⟩ := hr
      have HBT : Hid (nk ≤ 9223372036854775807 ∧ BytesAt wr ao nk l ∧ BytesAt wr ao' nk l) := ⟨hnk, d1, d2⟩
      clear hnk d1 d2 hr1 hr2
      go_wp2
      go_quiet ((go_at_call 47; exact Calls.quiet_of (same_all ao ao' nk c c' l _ HBT.out.1 (HBT.out.2.1.drewN _) (HBT.out.2.2.drewN _))))
      go_wp2
      go_roundw
      case rel => exact ⟨k + 1, by omega, by go_num, by obtain ⟨q, e⟩ := HQ.out; rw [e]; exact ⟨q + nq, by simp⟩⟩
      case measure => simp [intOf]; omega
    · have c1' : wr.cell? ⟨m, 1, none⟩ = some (.int .i64 n) := by obtain ⟨q, e⟩ := HQ.out; rw [e]; exact HC.out.2.2.2
      go_wp2
      clear c9 c10 c1' hlt hk
      go_loopw [5] (fun i wq => ∃ j : Nat, n ≤ j ∧ j ≤ n + 9 ∧ i = .int .i64 j ∧ Hid (∃ q, wq = w.drewN q)) (fun i _ => n + 9 - (intOf i).toNat)
      case atStart => exact ⟨n, Nat.le_refl _, by omega, rfl, HQ.out⟩
      case round =>
        obtain ⟨j, hj, hj9, rfl, HQ2⟩ := hrel
        have c0 : wr.cell? ⟨m, 0, none⟩ = some (.slice (some ⟨ba, 0, none⟩) (n + 9) ca) := by obtain ⟨q, e⟩ := HQ2.out; rw [e]; exact HC.out.2.2.1
        by_cases hlt : j < n + 9
        · have hx : wr.cell? ⟨ba, j, none⟩ = some (.int .u8 55) := by obtain ⟨q, e⟩ := HQ2.out; rw [e]; exact HA.out j hj hlt
          go_wp2
          go_roundw
          case rel => exact ⟨j + 1, by omega, by omega, by go_num, HQ2.out⟩
          case measure => simp [intOf]; omega
        · go_wp2
          go_ret
          exact ⟨rfl, HQ2.out⟩
end Go.Proofs.Ytomlndoffoeaiaa.Kit
