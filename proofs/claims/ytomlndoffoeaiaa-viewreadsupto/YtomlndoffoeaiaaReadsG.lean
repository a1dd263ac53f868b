import Derived.Test.YtomlndoffoeaiaaReadsC
namespace Go.Proofs.Ytomlndoffoeaiaa.Kit
open Go.RowKit Go.Deep
set_option linter.unusedVariables false
theorem info46' : (Try.prog.info? 46).map (fun i => (i.zero, i.size, i.bytes)) = some (some (.int .u64 0), 1, 8) := by kernel_rfl
theorem own1_form {w : World} {e : Nat} {v : Value} {n : Nat} {xs : List Value} (h : w.ownsRow 0 e 1 v n xs) : ∃ ao cap, v = .slice ao n cap := by
  rcases h.2 with ⟨rfl, h0⟩ | ⟨g, cap, cur, rfl, _⟩
  · exact ⟨none, 0, by rw [h0]⟩
  · exact ⟨_, _, rfl⟩
theorem src_one46 (w : World) (u : Value) (hu : u.oneCell' = true) : Src Try.prog 1 107 (.slice (some ⟨w.heap.size, 0, none⟩) 1 1) 1 [u] (w.alloc (.cells #[u] 46)) := by
  refine Src.ofSlice _ Try.underlying107 _ _ _ _ (by simp) ?_ (by simpa using hu)
  intro j v hj
  match j, hj with
  | 0, hj => simp at hj; subst hj; simp [Addr.add]
theorem nums_take (l : List Int) (a c k j : Nat) (h : j < c) : (nums l a c k).take (j + 1) = (nums l a c k).take j ++ [leVal ((l.drop (a + j * k)).take k)] := by
  rw [List.take_succ_eq_append_getElem (by simpa [nums] using h)]; simp [nums]

set_option maxRecDepth 100000 in
set_option maxHeartbeats 4000000 in
theorem rnumbers2_in (ao : Option Addr) (n cap : Nat) (place : Int) (l : List Int) (a c : Nat) (w : World) (hrg : a + c * 2 ≤ n) (hn : n ≤ 140737488355328) (hsm : c ≤ 1000000000000) (hI : RLooks w ao n cap l) :
    Calls Try.prog 63 #[refV ao n cap place, .int .i64 a, .int .i64 c, .int .i64 2] w fun e w' => ∃ v, e = .returned (.tuple #[v, .int .i64 0]) ∧ w'.ownsRow 0 46 1 v c ((nums l a c 2).map (Value.int .u64)) ∧ (∀ g, v.ownBlock = some g → w.heap.size ≤ g) ∧ Keeps w w' (fun _ => False) := by
  have HI : Hid (RLooks w ao n cap l) := hI
  have hd : ((n : Int) / 2 < (c : Int)) = False := by simp; omega
  have hin : inB a ((c : Int) * 2) n = true := decide_eq_true (by omega)
  have hwide : wideB 2 = true := by decide
  clear hI
  unfold refV
  go_enter Try.func63, Try.ntmps63
  go_wp2_with (first | (go_at_call 69; refine (inside_any a ((c : Int) * 2) n _ (by omega) (by omega) (by omega) (by omega) (by omega)).mono ?_; rintro e w' ⟨rfl, rfl⟩))
  obtain ⟨W, hW⟩ : ∃ W, W = w.alloc (.cells #[.slice ao n cap, .int .i64 place] 91) := ⟨_, rfl⟩
  rw [← hW]
  have HK : Hid (Keeps w W (fun _ => False)) := by rw [hW]; exact (Keeps.refl _ _).alloc _
  have HBX : Hid (∀ w', Keeps W w' (fun _ => False) → w'.cell? ⟨w.heap.size, 0, none⟩ = some (.slice ao n cap) ∧ w'.cell? ⟨w.heap.size, 1, none⟩ = some (.int .i64 place)) := by
    intro w' hk
    rw [hW] at hk
    exact box2 hk id
  clear hW hd hin
  go_loopw [11, 12] (fun v i wr => ∃ (j : Nat) (ao' : Option Addr) (cap' : Nat), j ≤ c ∧ i = .int .i64 j ∧ v = .slice ao' j cap' ∧ Hid (wr.ownsRow 0 46 1 (.slice ao' j cap') j (((nums l a c 2).take j).map (Value.int .u64)) ∧ (∀ g, (Value.slice ao' j cap').ownBlock = some g → W.heap.size ≤ g) ∧ Keeps W wr (fun _ => False))) (fun _ i _ => c - (intOf i).toNat)
  case atStart => exact ⟨0, none, 0, Nat.zero_le _, rfl, rfl, World.ownsRow_nil _ _ _ _, (fun g h => by simp [Value.ownBlock] at h), Keeps.refl _ _⟩
  case round =>
    obtain ⟨j, ao', cap', hj, rfl, rfl, HM⟩ := hrel
    by_cases hlt : j < c
    · obtain ⟨b0, b1⟩ := HBX.out wr HM.out.2.2
      have hld := fun wx hk => rload_in ao n cap place l (a + j * 2) 2 wx hwide (by omega) (HI.out.kept hk)
      have hld := hld wr (HK.out.trans HM.out.2.2 fun _ _ h => h)
      rw [show ((a + j * 2 : Nat) : Int) = (a : Int) + (j : Int) * 2 from by omega, show ((2 : Nat) : Int) = 2 from rfl] at hld
      have HLD := hld
      have HLD : Hid (Calls Try.prog 60 #[refV ao n cap place, .int .i64 ((a : Int) + (j : Int) * 2), .int .i64 2] wr fun e w' => e = .returned (.tuple #[.int .u64 (leVal ((l.drop (a + j * 2)).take 2)), .int .i64 0]) ∧ Keeps wr w' (fun _ => False)) := HLD
      clear hld
      go_wp2_with fail
      go_at_call 60
      refine HLD.out.mono ?_
      rintro e w1 ⟨rfl, K1⟩
      obtain ⟨X, hX⟩ : ∃ X, X = leVal ((l.drop (a + j * 2)).take 2) := ⟨_, rfl⟩
      rw [← hX]
      have HX : Hid (X = leVal ((l.drop (a + j * 2)).take 2)) := hX
      have HO1 : Hid (w1.ownsRow 0 46 1 (.slice ao' j cap') j (((nums l a c 2).take j).map (Value.int .u64))) := HM.out.1.kept (row := none) ⟨K1.os, K1.tape, K1.output, K1.size, fun b hb _ => K1.block b hb id⟩ (by cases hv : (Value.slice ao' j cap').ownBlock <;> simp)
      have HK1 : Hid (Keeps W w1 (fun _ => False)) := HM.out.2.2.trans K1 fun _ _ h => h
      clear hX K1 HLD
      go_wp2_with (first | (at_builtin; refine wpList_append_any _ rfl (.tmp 52) (.tmp 54) 107 107 rfl 46 (.int .u64 0) 8 Try.underlying107 info46' rfl _ _ _ rfl (HO1.out.alloc _) _ _ _ rfl (src_one46 w1 _ rfl) ?h63 ?hby ?_))
      case h63 => omega
      case hby => omega
      intro v' w2 hown' hgrow hblk
      obtain ⟨ao2, cap2, rfl⟩ := own1_form hown'
      have HM' : Hid (w2.ownsRow 0 46 1 (.slice ao2 (j + 1) cap2) (j + 1) (((nums l a c 2).take (j + 1)).map (Value.int .u64)) ∧ (∀ g, (Value.slice ao2 (j + 1) cap2).ownBlock = some g → W.heap.size ≤ g) ∧ Keeps W w2 (fun _ => False)) := by
        refine ⟨?_, fun g hg => ?_, (HK1.out.alloc _).trans (Keeps.ofGrown hgrow) fun b hb e => ?_⟩
        · rw [nums_take l a c 2 j hlt, ← HX.out]; simpa using hown'
        · rcases hblk with e | e
          · exact HM.out.2.1 g (e.symm.trans hg)
          · have h1 := e g hg
            have h2 := HK1.out.size
            omega
        · have := HM.out.2.1 b e; omega
      clear hown' hgrow hblk
      go_wp2
      go_roundw
      case rel => exact ⟨j + 1, ao2, cap2, by omega, by go_num, rfl, HM'⟩
      case measure => simp [intOf]; omega
    · obtain rfl : j = c := by omega
      have HE : Hid (wr.ownsRow 0 46 1 (.slice ao' j cap') j ((nums l a j 2).map (Value.int .u64))) := by
        have := HM.out.1
        rwa [List.take_of_length_le (by simp [nums])] at this
      go_wp2
      go_ret2
      exact ⟨_, rfl, HE.out, (fun g hg => Nat.le_trans HK.out.size (HM.out.2.1 g hg)), HK.out.trans HM.out.2.2 fun _ _ h => h⟩

set_option maxRecDepth 100000 in
set_option maxHeartbeats 1000000 in
theorem rnumbers2_out (ao : Option Addr) (n cap : Nat) (place a c : Int) (w : World) (hn : n ≤ 140737488355328) (ha : -9223372036854775808 ≤ a) (ha2 : a ≤ 9223372036854775807) (hrg : ¬ (0 ≤ a ∧ 0 ≤ c ∧ a + c * 2 ≤ n)) :
    Calls Try.prog 63 #[refV ao n cap place, .int .i64 a, .int .i64 c, .int .i64 2] w fun e w' => e = .returned (.tuple #[.slice none 0 0, .int .i64 2]) ∧ Keeps w w' (fun _ => False) := by
  unfold refV
  by_cases h0 : c < 0
  · clear hrg
    go_enter Try.func63, Try.ntmps63
    go_wp2
    go_ret2
    exact ⟨rfl, (Keeps.refl _ _).alloc _⟩
  · by_cases h1 : (n : Int) / 2 < c
    · clear hrg
      go_enter Try.func63, Try.ntmps63
      go_wp2
      go_ret2
      exact ⟨rfl, (Keeps.refl _ _).alloc _⟩
    · have hin : inB a (c * 2) n = false := decide_eq_false (by omega)
      have hcb : c * 2 ≤ 140737488355328 := by omega
      clear hrg
      go_enter Try.func63, Try.ntmps63
      go_wp2_with (first | (go_at_call 69; refine (inside_any a (c * 2) n _ (by omega) (by omega) ha ha2 (by omega)).mono ?_; rintro e w' ⟨rfl, rfl⟩))
      go_ret2
      exact ⟨rfl, (Keeps.refl _ _).alloc _⟩

set_option maxRecDepth 100000 in
set_option maxHeartbeats 4000000 in
theorem rnumbers4_in (ao : Option Addr) (n cap : Nat) (place : Int) (l : List Int) (a c : Nat) (w : World) (hrg : a + c * 4 ≤ n) (hn : n ≤ 140737488355328) (hsm : c ≤ 1000000000000) (hI : RLooks w ao n cap l) :
    Calls Try.prog 63 #[refV ao n cap place, .int .i64 a, .int .i64 c, .int .i64 4] w fun e w' => ∃ v, e = .returned (.tuple #[v, .int .i64 0]) ∧ w'.ownsRow 0 46 1 v c ((nums l a c 4).map (Value.int .u64)) ∧ (∀ g, v.ownBlock = some g → w.heap.size ≤ g) ∧ Keeps w w' (fun _ => False) := by
  have HI : Hid (RLooks w ao n cap l) := hI
  have hd : ((n : Int) / 4 < (c : Int)) = False := by simp; omega
  have hin : inB a ((c : Int) * 4) n = true := decide_eq_true (by omega)
  have hwide : wideB 4 = true := by decide
  clear hI
  unfold refV
  go_enter Try.func63, Try.ntmps63
  go_wp2_with (first | (go_at_call 69; refine (inside_any a ((c : Int) * 4) n _ (by omega) (by omega) (by omega) (by omega) (by omega)).mono ?_; rintro e w' ⟨rfl, rfl⟩))
  obtain ⟨W, hW⟩ : ∃ W, W = w.alloc (.cells #[.slice ao n cap, .int .i64 place] 91) := ⟨_, rfl⟩
  rw [← hW]
  have HK : Hid (Keeps w W (fun _ => False)) := by rw [hW]; exact (Keeps.refl _ _).alloc _
  have HBX : Hid (∀ w', Keeps W w' (fun _ => False) → w'.cell? ⟨w.heap.size, 0, none⟩ = some (.slice ao n cap) ∧ w'.cell? ⟨w.heap.size, 1, none⟩ = some (.int .i64 place)) := by
    intro w' hk
    rw [hW] at hk
    exact box2 hk id
  clear hW hd hin
  go_loopw [11, 12] (fun v i wr => ∃ (j : Nat) (ao' : Option Addr) (cap' : Nat), j ≤ c ∧ i = .int .i64 j ∧ v = .slice ao' j cap' ∧ Hid (wr.ownsRow 0 46 1 (.slice ao' j cap') j (((nums l a c 4).take j).map (Value.int .u64)) ∧ (∀ g, (Value.slice ao' j cap').ownBlock = some g → W.heap.size ≤ g) ∧ Keeps W wr (fun _ => False))) (fun _ i _ => c - (intOf i).toNat)
  case atStart => exact ⟨0, none, 0, Nat.zero_le _, rfl, rfl, World.ownsRow_nil _ _ _ _, (fun g h => by simp [Value.ownBlock] at h), Keeps.refl _ _⟩
  case round =>
    obtain ⟨j, ao', cap', hj, rfl, rfl, HM⟩ := hrel
    by_cases hlt : j < c
    · obtain ⟨b0, b1⟩ := HBX.out wr HM.out.2.2
      have hld := fun wx hk => rload_in ao n cap place l (a + j * 4) 4 wx hwide (by omega) (HI.out.kept hk)
      have hld := hld wr (HK.out.trans HM.out.2.2 fun _ _ h => h)
      rw [show ((a + j * 4 : Nat) : Int) = (a : Int) + (j : Int) * 4 from by omega, show ((4 : Nat) : Int) = 4 from rfl] at hld
      have HLD := hld
      have HLD : Hid (Calls Try.prog 60 #[refV ao n cap place, .int .i64 ((a : Int) + (j : Int) * 4), .int .i64 4] wr fun e w' => e = .returned (.tuple #[.int .u64 (leVal ((l.drop (a + j * 4)).take 4)), .int .i64 0]) ∧ Keeps wr w' (fun _ => False)) := HLD
      clear hld
      go_wp2_with fail
      go_at_call 60
      refine HLD.out.mono ?_
      rintro e w1 ⟨rfl, K1⟩
      obtain ⟨X, hX⟩ : ∃ X, X = leVal ((l.drop (a + j * 4)).take 4) := ⟨_, rfl⟩
      rw [← hX]
      have HX : Hid (X = leVal ((l.drop (a + j * 4)).take 4)) := hX
      have HO1 : Hid (w1.ownsRow 0 46 1 (.slice ao' j cap') j (((nums l a c 4).take j).map (Value.int .u64))) := HM.out.1.kept (row := none) ⟨K1.os, K1.tape, K1.output, K1.size, fun b hb _ => K1.block b hb id⟩ (by cases hv : (Value.slice ao' j cap').ownBlock <;> simp)
      have HK1 : Hid (Keeps W w1 (fun _ => False)) := HM.out.2.2.trans K1 fun _ _ h => h
      clear hX K1 HLD
      go_wp2_with (first | (at_builtin; refine wpList_append_any _ rfl (.tmp 52) (.tmp 54) 107 107 rfl 46 (.int .u64 0) 8 Try.underlying107 info46' rfl _ _ _ rfl (HO1.out.alloc _) _ _ _ rfl (src_one46 w1 _ rfl) ?h63 ?hby ?_))
      case h63 => omega
      case hby => omega
      intro v' w2 hown' hgrow hblk
      obtain ⟨ao2, cap2, rfl⟩ := own1_form hown'
      have HM' : Hid (w2.ownsRow 0 46 1 (.slice ao2 (j + 1) cap2) (j + 1) (((nums l a c 4).take (j + 1)).map (Value.int .u64)) ∧ (∀ g, (Value.slice ao2 (j + 1) cap2).ownBlock = some g → W.heap.size ≤ g) ∧ Keeps W w2 (fun _ => False)) := by
        refine ⟨?_, fun g hg => ?_, (HK1.out.alloc _).trans (Keeps.ofGrown hgrow) fun b hb e => ?_⟩
        · rw [nums_take l a c 4 j hlt, ← HX.out]; simpa using hown'
        · rcases hblk with e | e
          · exact HM.out.2.1 g (e.symm.trans hg)
          · have h1 := e g hg
            have h2 := HK1.out.size
            omega
        · have := HM.out.2.1 b e; omega
      clear hown' hgrow hblk
      go_wp2
      go_roundw
      case rel => exact ⟨j + 1, ao2, cap2, by omega, by go_num, rfl, HM'⟩
      case measure => simp [intOf]; omega
    · obtain rfl : j = c := by omega
      have HE : Hid (wr.ownsRow 0 46 1 (.slice ao' j cap') j ((nums l a j 4).map (Value.int .u64))) := by
        have := HM.out.1
        rwa [List.take_of_length_le (by simp [nums])] at this
      go_wp2
      go_ret2
      exact ⟨_, rfl, HE.out, (fun g hg => Nat.le_trans HK.out.size (HM.out.2.1 g hg)), HK.out.trans HM.out.2.2 fun _ _ h => h⟩

set_option maxRecDepth 100000 in
set_option maxHeartbeats 1000000 in
theorem rnumbers4_out (ao : Option Addr) (n cap : Nat) (place a c : Int) (w : World) (hn : n ≤ 140737488355328) (ha : -9223372036854775808 ≤ a) (ha2 : a ≤ 9223372036854775807) (hrg : ¬ (0 ≤ a ∧ 0 ≤ c ∧ a + c * 4 ≤ n)) :
    Calls Try.prog 63 #[refV ao n cap place, .int .i64 a, .int .i64 c, .int .i64 4] w fun e w' => e = .returned (.tuple #[.slice none 0 0, .int .i64 2]) ∧ Keeps w w' (fun _ => False) := by
  unfold refV
  by_cases h0 : c < 0
  · clear hrg
    go_enter Try.func63, Try.ntmps63
    go_wp2
    go_ret2
    exact ⟨rfl, (Keeps.refl _ _).alloc _⟩
  · by_cases h1 : (n : Int) / 4 < c
    · clear hrg
      go_enter Try.func63, Try.ntmps63
      go_wp2
      go_ret2
      exact ⟨rfl, (Keeps.refl _ _).alloc _⟩
    · have hin : inB a (c * 4) n = false := decide_eq_false (by omega)
      have hcb : c * 4 ≤ 140737488355328 := by omega
      clear hrg
      go_enter Try.func63, Try.ntmps63
      go_wp2_with (first | (go_at_call 69; refine (inside_any a (c * 4) n _ (by omega) (by omega) ha ha2 (by omega)).mono ?_; rintro e w' ⟨rfl, rfl⟩))
      go_ret2
      exact ⟨rfl, (Keeps.refl _ _).alloc _⟩

set_option maxRecDepth 100000 in
set_option maxHeartbeats 4000000 in
theorem rnumbers8_in (ao : Option Addr) (n cap : Nat) (place : Int) (l : List Int) (a c : Nat) (w : World) (hrg : a + c * 8 ≤ n) (hn : n ≤ 140737488355328) (hsm : c ≤ 1000000000000) (hI : RLooks w ao n cap l) :
    Calls Try.prog 63 #[refV ao n cap place, .int .i64 a, .int .i64 c, .int .i64 8] w fun e w' => ∃ v, e = .returned (.tuple #[v, .int .i64 0]) ∧ w'.ownsRow 0 46 1 v c ((nums l a c 8).map (Value.int .u64)) ∧ (∀ g, v.ownBlock = some g → w.heap.size ≤ g) ∧ Keeps w w' (fun _ => False) := by
  have HI : Hid (RLooks w ao n cap l) := hI
  have hd : ((n : Int) / 8 < (c : Int)) = False := by simp; omega
  have hin : inB a ((c : Int) * 8) n = true := decide_eq_true (by omega)
  have hwide : wideB 8 = true := by decide
  clear hI
  unfold refV
  go_enter Try.func63, Try.ntmps63
  go_wp2_with (first | (go_at_call 69; refine (inside_any a ((c : Int) * 8) n _ (by omega) (by omega) (by omega) (by omega) (by omega)).mono ?_; rintro e w' ⟨rfl, rfl⟩))
  obtain ⟨W, hW⟩ : ∃ W, W = w.alloc (.cells #[.slice ao n cap, .int .i64 place] 91) := ⟨_, rfl⟩
  rw [← hW]
  have HK : Hid (Keeps w W (fun _ => False)) := by rw [hW]; exact (Keeps.refl _ _).alloc _
  have HBX : Hid (∀ w', Keeps W w' (fun _ => False) → w'.cell? ⟨w.heap.size, 0, none⟩ = some (.slice ao n cap) ∧ w'.cell? ⟨w.heap.size, 1, none⟩ = some (.int .i64 place)) := by
    intro w' hk
    rw [hW] at hk
    exact box2 hk id
  clear hW hd hin
  go_loopw [11, 12] (fun v i wr => ∃ (j : Nat) (ao' : Option Addr) (cap' : Nat), j ≤ c ∧ i = .int .i64 j ∧ v = .slice ao' j cap' ∧ Hid (wr.ownsRow 0 46 1 (.slice ao' j cap') j (((nums l a c 8).take j).map (Value.int .u64)) ∧ (∀ g, (Value.slice ao' j cap').ownBlock = some g → W.heap.size ≤ g) ∧ Keeps W wr (fun _ => False))) (fun _ i _ => c - (intOf i).toNat)
  case atStart => exact ⟨0, none, 0, Nat.zero_le _, rfl, rfl, World.ownsRow_nil _ _ _ _, (fun g h => by simp [Value.ownBlock] at h), Keeps.refl _ _⟩
  case round =>
    obtain ⟨j, ao', cap', hj, rfl, rfl, HM⟩ := hrel
    by_cases hlt : j < c
    · obtain ⟨b0, b1⟩ := HBX.out wr HM.out.2.2
      have hld := fun wx hk => rload_in ao n cap place l (a + j * 8) 8 wx hwide (by omega) (HI.out.kept hk)
      have hld := hld wr (HK.out.trans HM.out.2.2 fun _ _ h => h)
      rw [show ((a + j * 8 : Nat) : Int) = (a : Int) + (j : Int) * 8 from by omega, show ((8 : Nat) : Int) = 8 from rfl] at hld
      have HLD := hld
      have HLD : Hid (Calls Try.prog 60 #[refV ao n cap place, .int .i64 ((a : Int) + (j : Int) * 8), .int .i64 8] wr fun e w' => e = .returned (.tuple #[.int .u64 (leVal ((l.drop (a + j * 8)).take 8)), .int .i64 0]) ∧ Keeps wr w' (fun _ => False)) := HLD
      clear hld
      go_wp2_with fail
      go_at_call 60
      refine HLD.out.mono ?_
      rintro e w1 ⟨rfl, K1⟩
      obtain ⟨X, hX⟩ : ∃ X, X = leVal ((l.drop (a + j * 8)).take 8) := ⟨_, rfl⟩
      rw [← hX]
      have HX : Hid (X = leVal ((l.drop (a + j * 8)).take 8)) := hX
      have HO1 : Hid (w1.ownsRow 0 46 1 (.slice ao' j cap') j (((nums l a c 8).take j).map (Value.int .u64))) := HM.out.1.kept (row := none) ⟨K1.os, K1.tape, K1.output, K1.size, fun b hb _ => K1.block b hb id⟩ (by cases hv : (Value.slice ao' j cap').ownBlock <;> simp)
      have HK1 : Hid (Keeps W w1 (fun _ => False)) := HM.out.2.2.trans K1 fun _ _ h => h
      clear hX K1 HLD
      go_wp2_with (first | (at_builtin; refine wpList_append_any _ rfl (.tmp 52) (.tmp 54) 107 107 rfl 46 (.int .u64 0) 8 Try.underlying107 info46' rfl _ _ _ rfl (HO1.out.alloc _) _ _ _ rfl (src_one46 w1 _ rfl) ?h63 ?hby ?_))
      case h63 => omega
      case hby => omega
      intro v' w2 hown' hgrow hblk
      obtain ⟨ao2, cap2, rfl⟩ := own1_form hown'
      have HM' : Hid (w2.ownsRow 0 46 1 (.slice ao2 (j + 1) cap2) (j + 1) (((nums l a c 8).take (j + 1)).map (Value.int .u64)) ∧ (∀ g, (Value.slice ao2 (j + 1) cap2).ownBlock = some g → W.heap.size ≤ g) ∧ Keeps W w2 (fun _ => False)) := by
        refine ⟨?_, fun g hg => ?_, (HK1.out.alloc _).trans (Keeps.ofGrown hgrow) fun b hb e => ?_⟩
        · rw [nums_take l a c 8 j hlt, ← HX.out]; simpa using hown'
        · rcases hblk with e | e
          · exact HM.out.2.1 g (e.symm.trans hg)
          · have h1 := e g hg
            have h2 := HK1.out.size
            omega
        · have := HM.out.2.1 b e; omega
      clear hown' hgrow hblk
      go_wp2
      go_roundw
      case rel => exact ⟨j + 1, ao2, cap2, by omega, by go_num, rfl, HM'⟩
      case measure => simp [intOf]; omega
    · obtain rfl : j = c := by omega
      have HE : Hid (wr.ownsRow 0 46 1 (.slice ao' j cap') j ((nums l a j 8).map (Value.int .u64))) := by
        have := HM.out.1
        rwa [List.take_of_length_le (by simp [nums])] at this
      go_wp2
      go_ret2
      exact ⟨_, rfl, HE.out, (fun g hg => Nat.le_trans HK.out.size (HM.out.2.1 g hg)), HK.out.trans HM.out.2.2 fun _ _ h => h⟩

set_option maxRecDepth 100000 in
set_option maxHeartbeats 1000000 in
theorem rnumbers8_out (ao : Option Addr) (n cap : Nat) (place a c : Int) (w : World) (hn : n ≤ 140737488355328) (ha : -9223372036854775808 ≤ a) (ha2 : a ≤ 9223372036854775807) (hrg : ¬ (0 ≤ a ∧ 0 ≤ c ∧ a + c * 8 ≤ n)) :
    Calls Try.prog 63 #[refV ao n cap place, .int .i64 a, .int .i64 c, .int .i64 8] w fun e w' => e = .returned (.tuple #[.slice none 0 0, .int .i64 2]) ∧ Keeps w w' (fun _ => False) := by
  unfold refV
  by_cases h0 : c < 0
  · clear hrg
    go_enter Try.func63, Try.ntmps63
    go_wp2
    go_ret2
    exact ⟨rfl, (Keeps.refl _ _).alloc _⟩
  · by_cases h1 : (n : Int) / 8 < c
    · clear hrg
      go_enter Try.func63, Try.ntmps63
      go_wp2
      go_ret2
      exact ⟨rfl, (Keeps.refl _ _).alloc _⟩
    · have hin : inB a (c * 8) n = false := decide_eq_false (by omega)
      have hcb : c * 8 ≤ 140737488355328 := by omega
      clear hrg
      go_enter Try.func63, Try.ntmps63
      go_wp2_with (first | (go_at_call 69; refine (inside_any a (c * 8) n _ (by omega) (by omega) ha ha2 (by omega)).mono ?_; rintro e w' ⟨rfl, rfl⟩))
      go_ret2
      exact ⟨rfl, (Keeps.refl _ _).alloc _⟩
end Go.Proofs.Ytomlndoffoeaiaa.Kit
