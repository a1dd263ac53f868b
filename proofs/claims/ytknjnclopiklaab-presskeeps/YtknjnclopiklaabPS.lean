import Derived.Test.YtknjnclopiklaabPR
namespace Go.Proofs.Ytknjnclopiklaab.Kit
open Go.RowKit Go.Shelf Go.Deep
set_option linter.unusedVariables false
attribute [local go_sem] run_store_func

/-! ### literals, and the walk that packs -/

set_option maxRecDepth 100000 in
set_option maxHeartbeats 2000000 in
theorem literal28 {ao : Option Addr} {ca B i len : Nat} {w : World} (it : Nat → Nat) (hi : i < len) (hl : len ≤ 140737488355328) (hit : ∀ j, it j ≤ 1000)
    (hL : ∀ W j, Gr w W → j < len → Calls Try.prog 22 #[.int .i64 (j : Int), .pointer (some ⟨B, 0, none⟩)] W fun e w' => e = .returned (.int .i64 (it j : Int)) ∧ Gr W w') :
    ∀ W, Gr w W → Calls Try.prog 34 #[.slice ao len ca, .int .i64 (i : Int), .func (.func 22) #[] #[.pointer (some ⟨B, 0, none⟩)]] W fun e w' => e = .returned (.int .i64 (litN it len i : Int)) ∧ Gr W w' := by
  intro W g
  have HL := hidM hL
  have HG := hidM g
  have HIt := hidM hit
  clear hL g hit
  obtain ⟨m, hm⟩ : ∃ m, m = min 128 (len - i) := ⟨_, rfl⟩
  have hm1 : min (128 : Int) ((len : Int) - (i : Int)) = (m : Int) := by omega
  have hmb : 1 ≤ m ∧ m ≤ 128 ∧ i + m ≤ len := by omega
  obtain ⟨hm2, hm3, hm4⟩ := hmb
  have HM := hidM hm
  clear hm
  go_enter Try.func34, Try.ntmps34
  go_wp2_with fail
  all_goals first | rw [show ((len : Int) - (i : Int)) = (m : Int) by omega] | rw [show (128 : Int) = (m : Int) by omega]
  all_goals clear hm1
  all_goals try clear h
  all_goals
    go_loopw [8] (fun p wr => ∃ n : Nat, 1 ≤ n ∧ n ≤ m ∧ p = .int .i64 (n : Int) ∧ Hid ((∀ k, 1 ≤ k → k < n → it (i + k) = 0) ∧ Gr W wr)) (fun p _ => m - (intOf p).toNat)
    case atStart => exact ⟨1, by omega, by omega, rfl, fun k h1 h2 => by omega, Keeps.refl _ _⟩
    case round =>
      obtain ⟨n, hn1, hn2, rfl, HR⟩ := hrel
      by_cases c : n < m
      · have cI : (n : Int) < (m : Int) := by omega
        have HC := hidM (HL.out wr (i + n) (HG.out.trans HR.out.2 (fun _ _ h => h)) (by omega))
        obtain ⟨q, hq⟩ : ∃ q, q = it (i + n) := ⟨_, rfl⟩
        have hqb : q ≤ 1000 := by rw [hq]; exact HIt.out _
        have hcast : ((i + n : Nat) : Int) = (i : Int) + (n : Int) := by omega
        rw [hcast, ← hq] at HC
        have HQ := hidM hq
        clear hq hcast
        go_wp2_with (go_at_call 22; refine Hid.out ?_)
        unfold Hid
        refine Calls.mono HC.out ?_
        rintro e V ⟨rfl, hg⟩
        have HG2 := hidM (HR.out.2.trans hg (fun _ _ h => h))
        clear hg HC
        by_cases c2 : 0 < q
        · have c2I : (0 : Int) < (q : Int) := by omega
          have HZ : Hid (litN it len i = n) := litGo_done hn1 (by have := HM.out; omega) HR.out.1 (.inr (by rw [← HQ.out]; exact c2))
          go_wp2_with fail
          go_ret
          exact ⟨by rw [HZ.out]; rfl, HG2.out⟩
        · have c2I : ¬ (0 : Int) < (q : Int) := by omega
          have HN : Hid (∀ k, 1 ≤ k → k < n + 1 → it (i + k) = 0) := fun k h1 h2 => by
            by_cases e : k = n
            · subst e; rw [← HQ.out]; omega
            · exact HR.out.1 k h1 (by omega)
          clear HQ
          go_wp2_with fail
          go_roundw
          case rel => exact ⟨n + 1, by omega, by omega, by simp, HN.out, HG2.out⟩
          case measure => simp [intOf]; omega
      · have cI : ¬ (n : Int) < (m : Int) := by omega
        have HZ : Hid (litN it len i = m) := litGo_done hm2 (by have := HM.out; omega) (fun k h1 h2 => HR.out.1 k h1 (by omega)) (.inl (by have := HM.out; omega))
        go_wp2_with fail
        go_ret
        exact ⟨by rw [HZ.out]; rfl, HR.out.2⟩

end Go.Proofs.Ytknjnclopiklaab.Kit
