import Derived.Test.YtomlndoffoeaiaaExactB
namespace Go.Proofs.Ytomlndoffoeaiaa.Ex
open Go.RowKit

set_option maxRecDepth 100000 in
set_option maxHeartbeats 1000000 in
theorem walk_zero (ao : Option Addr) (cap : Nat) (x y : Int) (w : World)
    (hx : x ≤ 9223372036854775807) (hy : y ≤ 9223372036854775807) :
    Calls Try.prog 7 #[.slice ao 0 cap, .int .i64 x, .int .i64 y] w fun e w' => e = .returned (.bool true) ∧ Below w.heap.size w w' := by
  have hmk := run_make_row' (P := Try.prog) 72 3 (.int .i64 0) 8 Try.underlying72 info3 rfl .i64 .i64 3 (by omega) (by omega)
  have ec : ((3 : Nat) : Int) = 3 := rfl
  rw [ec] at hmk
  clear ec
  obtain ⟨cur, hcur⟩ : ∃ cur : List Value, cur = (madeCells #[.int .i64 0] 3).toList := ⟨_, rfl⟩
  have HCur : Hid (cur = (madeCells #[.int .i64 0] 3).toList) := hcur
  clear hcur
  go_enter Try.func7, Try.ntmps7
  go_wp2_with (with_reducible show wpList Try.prog _ _ (Oper.mk (some 26) _ _ _ _ _ :: _) _ _; refine wpList_copy_splice rfl (.tmp 24) (.tmp 25) 72 72 rfl 3 Try.underlying72 size3 _ _ _ _ _ _ rfl rfl w.heap.size 0 cur 3 ?hg [] ?hn ?hpos ?hfit ?h1 w.heap.size w ?hb (Nat.le_refl _) ?_)
  case hg => rw [HCur.out]; simpa using heap_alloc_new w _
  case hb => exact (Below.refl _ _).alloc (Nat.le_refl _) _
  case hfit => exact Nat.zero_le _
  case hn => rfl
  case h1 => simp
  intro w1 HG1 hB1
  have HO1 : Hid (∃ L, OwnRow w1 w.heap.size 3 L ∧ Filled [] 0 0 L) := ⟨_, HG1.out, by rw [HCur.out]; exact Filled.start (l := []) (len := 0) rfl⟩
  clear HG1 HCur hmk
  go_wp2
  go_loopw [8] (fun i wr => ∃ k : Nat, k ≤ 3 ∧ i = .int .i64 k ∧ Hid (∃ L, OwnRow wr w.heap.size 3 L ∧ Filled [] 0 k L) ∧ Below w.heap.size w wr) (fun i _ => 3 - (intOf i).toNat)
  case atStart => exact ⟨0, by omega, rfl, HO1, hB1⟩
  case round =>
    obtain ⟨k, hk2, rfl, HO, hB⟩ := hrel
    by_cases hlt : k < 3
    · obtain ⟨L, hO, hF⟩ := HO.out
      obtain ⟨v, hv⟩ : ∃ v, L[k]? = some v := ⟨_, List.getElem?_eq_getElem (by rw [hF.size]; omega)⟩
      have hcell := hO.cell hv
      have hfr := hO.frozen k
      have HO2 : Hid (∃ L, OwnRow (wr.setCell ⟨w.heap.size, k, none⟩ (.int .i64 (-44))) w.heap.size 3 L ∧ Filled [] 0 (k + 1) L) := ⟨_, hO.set k _, hF.step (Nat.zero_le _) (by omega)⟩
      clear hO hF hv HO
      go_wp2
      go_roundw
      case rel => exact ⟨k + 1, by omega, by go_num, HO2, hB.setCell (Nat.le_refl _) _⟩
      case measure => simp [intOf]; omega
    · obtain rfl : k = 3 := by omega
      clear HO1 hB1
      go_wp2_with fail
      go_at_call 35
      refine (sum_zero _ _ _).mono ?_
      rintro e w' ⟨rfl, rfl⟩
      go_wp2_with (first | (go_at_call 36; refine (rsum_zero _ _ _).mono ?_; rintro e w' ⟨rfl, rfl⟩) | (go_at_call 37; refine (times_any x y _ hx hy).mono ?_; rintro e w' ⟨rfl, rfl⟩) | (go_at_call 38; refine (rtimes_any x y _ hx hy).mono ?_; rintro e w' ⟨rfl, rfl⟩) | (go_at_call 35; refine (sum_23 _ _ _ _ (by go_simp) (by go_simp)).mono ?_; rintro e w' ⟨rfl, rfl⟩))
      go_loopw [19] (fun i wr => ∃ k : Nat, k ≤ 3 ∧ i = .int .i64 k ∧ Hid (∃ L, OwnRow wr w.heap.size 3 L ∧ Filled [] 0 3 L) ∧ Below w.heap.size w wr) (fun i _ => 3 - (intOf i).toNat)
      case atStart =>
        obtain ⟨L, hO, hF⟩ := HO.out
        exact ⟨0, by omega, rfl, ⟨L, hO.below (B := w'.heap.size) ((Below.refl _ _).alloc (Nat.le_refl _) _) hO.lt, hF⟩, hB.alloc hB.size _⟩
      case round =>
        clear HO hB
        obtain ⟨k, hk2, rfl, HO, hB⟩ := hrel
        by_cases hlt : k < 3
        · obtain ⟨L, hO, hF⟩ := HO.out
          have h1 := hO.cell (hF.mark k (by omega) hlt)
          have hd : decide ((k : Int) < 0) = false := by simp
          have hge : (0 : Int) ≤ (k : Int) := by omega
          have HF : Hid (Filled [] 0 3 L) := hF
          have HOO : Hid (OwnRow wr w.heap.size 3 L) := hO
          clear HO hF hO
          go_wp2
          go_quiet (fail)
          go_wp2
          go_roundw
          case rel => exact ⟨k + 1, by omega, by go_num, ⟨L, HOO.out.below (B := wr.heap.size) (below_drewN (Below.refl _ _) _) HOO.out.lt, HF.out⟩, below_drewN hB _⟩
          case measure => simp [intOf]; omega
        · obtain rfl : k = 3 := by omega
          go_wp2
          go_ret
          exact ⟨rfl, hB⟩
end Go.Proofs.Ytomlndoffoeaiaa.Ex
