import Derived.Test.YtomlndoffoeaiaaReadsG
namespace Go.Proofs.Ytomlndoffoeaiaa.Kit
open Go.RowKit Go.Deep
set_option linter.unusedVariables false

set_option maxRecDepth 100000 in
set_option maxHeartbeats 4000000 in
theorem rnumbers1_in (ao : Option Addr) (n cap : Nat) (place : Int) (l : List Int) (a c : Nat) (w : World) (hrg : a + c ≤ n) (hn : n ≤ 140737488355328) (hsm : c ≤ 1000000000000) (hI : RLooks w ao n cap l) :
    Calls Try.prog 63 #[refV ao n cap place, .int .i64 a, .int .i64 c, .int .i64 1] w fun e w' => ∃ v, e = .returned (.tuple #[v, .int .i64 0]) ∧ w'.ownsRow 0 46 1 v c ((nums l a c 1).map (Value.int .u64)) ∧ (∀ g, v.ownBlock = some g → w.heap.size ≤ g) ∧ Keeps w w' (fun _ => False) := by
  have HI : Hid (RLooks w ao n cap l) := hI
  have hd : ((n : Int)  < (c : Int)) = False := by simp; omega
  have hin : inB a ((c : Int)) n = true := decide_eq_true (by omega)
  have hwide : wideB 1 = true := by decide
  clear hI
  unfold refV
  go_enter Try.func63, Try.ntmps63
  go_wp2_with (first | (go_at_call 69; refine (inside_any a ((c : Int)) n _ (by omega) (by omega) (by omega) (by omega) (by omega)).mono ?_; rintro e w' ⟨rfl, rfl⟩))
  obtain ⟨W, hW⟩ : ∃ W, W = w.alloc (.cells #[.slice ao n cap, .int .i64 place] 91) := ⟨_, rfl⟩
  rw [← hW]
  have HK : Hid (Keeps w W (fun _ => False)) := by rw [hW]; exact (Keeps.refl _ _).alloc _
  have HBX : Hid (∀ w', Keeps W w' (fun _ => False) → w'.cell? ⟨w.heap.size, 0, none⟩ = some (.slice ao n cap) ∧ w'.cell? ⟨w.heap.size, 1, none⟩ = some (.int .i64 place)) := by
    intro w' hk
    rw [hW] at hk
    exact box2 hk id
  clear hW hd hin
  go_loopw [11, 12] (fun v i wr => ∃ (j : Nat) (ao' : Option Addr) (cap' : Nat), j ≤ c ∧ i = .int .i64 j ∧ v = .slice ao' j cap' ∧ Hid (wr.ownsRow 0 46 1 (.slice ao' j cap') j (((nums l a c 1).take j).map (Value.int .u64)) ∧ (∀ g, (Value.slice ao' j cap').ownBlock = some g → W.heap.size ≤ g) ∧ Keeps W wr (fun _ => False))) (fun _ i _ => c - (intOf i).toNat)
  case atStart => exact ⟨0, none, 0, Nat.zero_le _, rfl, rfl, World.ownsRow_nil _ _ _ _, (fun g h => by simp [Value.ownBlock] at h), Keeps.refl _ _⟩
  case round =>
    obtain ⟨j, ao', cap', hj, rfl, rfl, HM⟩ := hrel
    by_cases hlt : j < c
    · obtain ⟨b0, b1⟩ := HBX.out wr HM.out.2.2
      have hld := fun wx hk => rload_in ao n cap place l (a + j) 1 wx hwide (by omega) (HI.out.kept hk)
      have hld := hld wr (HK.out.trans HM.out.2.2 fun _ _ h => h)
      rw [show ((a + j : Nat) : Int) = (a : Int) + (j : Int) from by omega, show ((1 : Nat) : Int) = 1 from rfl] at hld
      have HLD := hld
      have HLD : Hid (Calls Try.prog 60 #[refV ao n cap place, .int .i64 ((a : Int) + (j : Int)), .int .i64 1] wr fun e w' => e = .returned (.tuple #[.int .u64 (leVal ((l.drop (a + j)).take 1)), .int .i64 0]) ∧ Keeps wr w' (fun _ => False)) := HLD
      clear hld
      go_wp2_with fail
      go_at_call 60
      refine HLD.out.mono ?_
      rintro e w1 ⟨rfl, K1⟩
      obtain ⟨X, hX⟩ : ∃ X, X = leVal ((l.drop (a + j)).take 1) := ⟨_, rfl⟩
      rw [← hX]
      have HX : Hid (X = leVal ((l.drop (a + j)).take 1)) := hX
      have HO1 : Hid (w1.ownsRow 0 46 1 (.slice ao' j cap') j (((nums l a c 1).take j).map (Value.int .u64))) := HM.out.1.kept (row := none) ⟨K1.os, K1.tape, K1.output, K1.size, fun b hb _ => K1.block b hb id⟩ (by cases hv : (Value.slice ao' j cap').ownBlock <;> simp)
      have HK1 : Hid (Keeps W w1 (fun _ => False)) := HM.out.2.2.trans K1 fun _ _ h => h
      clear hX K1 HLD
      go_wp2_with (first | (at_builtin; refine wpList_append_any _ rfl (.tmp 52) (.tmp 54) 107 107 rfl 46 (.int .u64 0) 8 Try.underlying107 info46' rfl _ _ _ rfl (HO1.out.alloc _) _ _ _ rfl (src_one46 w1 _ rfl) ?h63 ?hby ?_))
      case h63 => omega
      case hby => omega
      intro v' w2 hown' hgrow hblk
      obtain ⟨ao2, cap2, rfl⟩ := own1_form hown'
      have HM' : Hid (w2.ownsRow 0 46 1 (.slice ao2 (j + 1) cap2) (j + 1) (((nums l a c 1).take (j + 1)).map (Value.int .u64)) ∧ (∀ g, (Value.slice ao2 (j + 1) cap2).ownBlock = some g → W.heap.size ≤ g) ∧ Keeps W w2 (fun _ => False)) := by
        refine ⟨?_, fun g hg => ?_, (HK1.out.alloc _).trans (Keeps.ofGrown hgrow) fun b hb e => ?_⟩
        · rw [nums_take l a c 1 j hlt, Nat.mul_one, ← HX.out]; simpa using hown'
        · rcases hblk with e | e
          · exact HM.out.2.1 g (e.symm.trans hg)
          · have h1 := e g hg
            have h2 := HK1.out.size
            omega
        · have := HM.out.2.1 b e; omega
      clear hown' hgrow hblk
      go_wp2
      go_roundw
      case rel => exact ⟨j + 1, ao2, cap2, by omega, by go_num, rfl, HM'⟩
      case measure => simp [intOf]; omega
    · obtain rfl : j = c := by omega
      have HE : Hid (wr.ownsRow 0 46 1 (.slice ao' j cap') j ((nums l a j 1).map (Value.int .u64))) := by
        have := HM.out.1
        rwa [List.take_of_length_le (by simp [nums])] at this
      go_wp2
      go_ret2
      exact ⟨_, rfl, HE.out, (fun g hg => Nat.le_trans HK.out.size (HM.out.2.1 g hg)), HK.out.trans HM.out.2.2 fun _ _ h => h⟩

set_option maxRecDepth 100000 in
set_option maxHeartbeats 1000000 in
theorem rnumbers1_out (ao : Option Addr) (n cap : Nat) (place a c : Int) (w : World) (hn : n ≤ 140737488355328) (ha : -9223372036854775808 ≤ a) (ha2 : a ≤ 9223372036854775807) (hrg : ¬ (0 ≤ a ∧ 0 ≤ c ∧ a + c ≤ n)) :
    Calls Try.prog 63 #[refV ao n cap place, .int .i64 a, .int .i64 c, .int .i64 1] w fun e w' => e = .returned (.tuple #[.slice none 0 0, .int .i64 2]) ∧ Keeps w w' (fun _ => False) := by
  unfold refV
  by_cases h0 : c < 0
  · clear hrg
    go_enter Try.func63, Try.ntmps63
    go_wp2
    go_ret2
    exact ⟨rfl, (Keeps.refl _ _).alloc _⟩
  · by_cases h1 : (n : Int)  < c
    · clear hrg
      go_enter Try.func63, Try.ntmps63
      go_wp2
      go_ret2
      exact ⟨rfl, (Keeps.refl _ _).alloc _⟩
    · have hin : inB a (c) n = false := decide_eq_false (by omega)
      have hcb : c ≤ 140737488355328 := by omega
      clear hrg
      go_enter Try.func63, Try.ntmps63
      go_wp2_with (first | (go_at_call 69; refine (inside_any a (c) n _ (by omega) (by omega) ha ha2 (by omega)).mono ?_; rintro e w' ⟨rfl, rfl⟩))
      go_ret2
      exact ⟨rfl, (Keeps.refl _ _).alloc _⟩
end Go.Proofs.Ytomlndoffoeaiaa.Kit
