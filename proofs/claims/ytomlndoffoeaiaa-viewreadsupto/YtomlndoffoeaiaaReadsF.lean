import Derived.Test.YtomlndoffoeaiaaReadsC
namespace Go.Proofs.Ytomlndoffoeaiaa.Kit
open Go.RowKit Go.Deep
set_option linter.unusedVariables false


theorem info46 : (Try.prog.info? 46).map (fun i => (i.zero, i.size, i.bytes)) = some (some (.int .u64 0), 1, 8) := by kernel_rfl
set_option maxRecDepth 100000 in
set_option maxHeartbeats 4000000 in
theorem numbers64_in (ao : Option Addr) (n cap : Nat) (place : Int) (q gq : Option Nat) (rs : List (Int × Int)) (l : List Int) (a c : Nat) (w : World) (hrg : a + c * 8 ≤ n) (hn : n ≤ 140737488355328) (hI : Looks w ao n cap place q gq rs l) :
    Calls Try.prog 67 #[viewV ao n cap place q, .int .i64 a, .int .i64 c] w fun e w' => ∃ g, e = .returned (.tuple #[.slice (some ⟨g, 0, none⟩) c c, .int .i64 0]) ∧ w.heap.size ≤ g ∧ OwnRow w' g 46 ((nums l a c 8).map (Value.int .u64)) ∧ WatDone w w' q gq (tellR q rs (place + a) (place + a + (c * 8 : Nat))) := by
  have HI : Hid (Looks w ao n cap place q gq rs l) := hI
  have htb : Ex.timB (c : Int) 8 = true := (Ex.timB_iff _ _).2 ⟨by omega, by omega, by omega⟩
  have htv : Ex.timV (c : Int) 8 = ((c * 8 : Nat) : Int) := by rw [Ex.timV_yes htb]; omega
  have hmk := run_make_row' (P := Try.prog) 107 46 (.int .u64 0) 8 Try.underlying107 info46 rfl .i64 .i64 c (by omega) (by omega)
  clear hI
  unfold viewV
  go_enter Try.func67, Try.ntmps67
  go_wp2_with (first | (go_at_call 71; refine (len64_64 _).mono ?_; rintro e w' ⟨rfl, rfl⟩) | (go_at_call 37; refine (Ex.times_any (c : Int) 8 _ (by omega) (by omega)).mono ?_; rintro e w' ⟨rfl, rfl⟩))
  obtain ⟨W, hW⟩ : ∃ W, W = w.alloc (.cells #[.slice ao n cap, .int .i64 place, .pointer (q.map fun b => ⟨b, 0, none⟩)] 37) := ⟨_, rfl⟩
  rw [← hW]
  have HK : Hid (Keeps w W (fun _ => False)) := by rw [hW]; exact (Keeps.refl _ _).alloc _
  clear hW
  have hrd := read_in ao n cap place q gq rs a (c * 8) W HI.out.form hrg (HI.out.kept HK.out).wat HI.out.place HI.out.reads
  rw [show ((c * 8 : Nat) : Int) = (c : Int) * 8 from by omega] at hrd
  refine hrd.mono ?_
  rintro e w2 ⟨⟨ao', cap', rfl, hs', hsub⟩, D2⟩
  have HB : Hid (BytesAt w2 ao' (c * 8) ((l.drop a).take (c * 8))) := hsub w2 l ((HI.out.kept HK.out).bytes' D2)
  have HD : Hid (WatDone w w2 q gq (tellR q rs (place + a) (place + a + (c * 8 : Nat)))) := by
    have := WatDone.from HK.out D2
    show WatDone _ _ _ _ _
    rwa [show ((c * 8 : Nat) : Int) = (c : Int) * 8 from by omega]
  have hcap1 : c * 8 ≤ cap' := hs'.1
  have hcap2 : cap' ≤ 9223372036854775807 := hs'.2.1
  clear hrd hsub D2 hs' htb htv
  go_wp2
  obtain ⟨G, hG⟩ : ∃ G, G = w2.heap.size := ⟨_, rfl⟩
  obtain ⟨W2, hW2⟩ : ∃ W2, W2 = w2.alloc (.cells (madeCells #[.int .u64 0] c) 46) := ⟨_, rfl⟩
  rw [← hW2, ← hG]
  have HG : Hid (w2.heap.size = G) := hG.symm
  have HM2 : Hid (∃ L, OwnRow W2 G 46 L ∧ L.length = c ∧ (∀ j, j < 0 → L[j]? = some (.int .u64 ((nums l a c 8).getD j 0))) ∧ Keeps w2 W2 (fun _ => False)) := by
    refine ⟨(madeCells #[.int .u64 0] c).toList, ?_, by simp [size_madeCells], fun j hj => absurd hj (by omega), ?_⟩
    · show _ = _
      rw [hG, hW2]; simpa using heap_alloc_new w2 _
    · rw [hW2]; exact Keeps.none_alloc w2 _
  clear hmk hW2 hG
  go_loopw [39] (fun i wr => ∃ j : Nat, j ≤ c ∧ i = .int .i64 j ∧ Hid (∃ L, OwnRow wr G 46 L ∧ L.length = c ∧ (∀ i, i < j → L[i]? = some (.int .u64 ((nums l a c 8).getD i 0))) ∧ Keeps w2 wr (fun _ => False))) (fun i _ => c - (intOf i).toNat)
  case atStart => exact ⟨0, Nat.zero_le _, rfl, HM2⟩
  case round =>
    clear HM2
    obtain ⟨j, hj, rfl, HM⟩ := hrel
    by_cases hlt : j < c
    · obtain ⟨L, hO, hLl, hLm, hLk⟩ := HM.out
      obtain ⟨b, off, rfl, hc⟩ := HB.out (by omega)
      have hcell := hO.cell (List.getElem?_eq_getElem (show j < L.length by omega))
      have hfr := hO.frozen j
      obtain ⟨v0, hv0⟩ : ∃ v0, v0 = L[j]'(by omega) := ⟨_, rfl⟩
      rw [← hv0] at hcell
      have hlo : ∀ i, i < 8 → wr.cell? ⟨b, off + j * 8 + i, none⟩ = some (.int .u8 (((l.drop (a + j * 8)).take 8).getD i 0)) := by
        intro i hi
        have := hLk.cell' (hc (j * 8 + i) (by omega)) id
        rw [← Nat.add_assoc] at this
        rw [this]
        simp [List.getD, hi, show j * 8 + i < c * 8 by omega, Nat.add_assoc]
      have hsl : ((l.drop (a + j * 8)).take 8).length = 8 := by rw [List.length_take, List.length_drop, HI.out.len]; omega
      have hsb : ∀ x ∈ (l.drop (a + j * 8)).take 8, 0 ≤ x ∧ x < 256 := fun x hx => HI.out.byte x (List.mem_of_mem_drop (List.mem_of_mem_take hx))
      have hvb := leVal_bd _ hsb
      rw [hsl] at hvb
      have HLW : Hid ((∀ i, i < 8 → wr.cell? ⟨b, off + j * 8 + i, none⟩ = some (.int .u8 (((l.drop (a + j * 8)).take 8).getD i 0))) ∧ ((l.drop (a + j * 8)).take 8).length = 8 ∧ ∀ x ∈ (l.drop (a + j * 8)).take 8, 0 ≤ x ∧ x < 256) := ⟨hlo, hsl, hsb⟩
      obtain ⟨X, hX⟩ : ∃ X, X = leVal ((l.drop (a + j * 8)).take 8) := ⟨_, rfl⟩
      rw [← hX] at hvb
      have hvb' : 0 ≤ X ∧ X ≤ 18446744073709551615 := by simp at hvb; omega
      obtain ⟨hX0, hX1⟩ := hvb'
      have HX : Hid (leVal ((l.drop (a + j * 8)).take 8) = X) := hX.symm
      have HM' : Hid (∃ L, OwnRow (wr.setCell ⟨G, j, none⟩ (.int .u64 X)) G 46 L ∧ L.length = c ∧ (∀ i, i < j + 1 → L[i]? = some (.int .u64 ((nums l a c 8).getD i 0))) ∧ Keeps w2 (wr.setCell ⟨G, j, none⟩ (.int .u64 X)) (fun _ => False)) := by
        refine ⟨L.set j (.int .u64 X), hO.set j _, by simpa using hLl, fun i hi => ?_, hLk.setCell (p := ⟨G, j, none⟩) (fun h => by have := HG.out; simp at h; omega) _⟩
        rw [List.getElem?_set]
        by_cases e : j = i
        · subst e
          rw [if_pos rfl, if_pos (by omega), hX]
          simp [nums, hlt]
        · rw [if_neg e]; exact hLm i (by omega)
      clear hO hLl hLm hLk HM hc hlo hsl hsb hvb hv0 hX
      have i1 : (j : Int) * 8 ≤ ((j : Int) + 1) * 8 := by omega
      have i2 : ((j : Int) + 1) * 8 ≤ (cap' : Int) := by omega
      have i3 : ¬ cap' = j * 8 := by omega
      go_wp2_with fail
      go_at_call 53
      rw [show (j + 1) * 8 - j * 8 = 8 from by omega]
      refine (lowest_some b (off + j * 8) 8 _ _ _ (by omega) HLW.out.2.1 HLW.out.2.2 HLW.out.1).mono ?_
      rintro e w' ⟨rfl, rfl⟩
      rw [HX.out]
      clear HLW HX
      go_wp2
      go_roundw
      case rel => exact ⟨j + 1, by omega, by go_num, HM'⟩
      case measure => simp [intOf]; omega
    · obtain rfl : j = c := by omega
      obtain ⟨L, hO, hLl, hLm, hLk⟩ := HM.out
      have HE : Hid (OwnRow wr G 46 ((nums l a j 8).map (Value.int .u64)) ∧ w.heap.size ≤ G ∧ WatDone w wr q gq (tellR q rs (place + a) (place + a + (j * 8 : Nat)))) := by
        have e : L = (nums l a j 8).map (Value.int .u64) := by
          apply List.ext_getElem?
          intro i
          by_cases hi : i < j
          · rw [hLm i hi]; simp [nums, hi]
          · rw [List.getElem?_eq_none (by omega), List.getElem?_eq_none (by simp [nums]; omega)]
        refine ⟨e ▸ hO, ?_, HD.out.to hLk⟩
        obtain ⟨_, _, k2, _⟩ := HD.out
        have := k2.size
        have := HG.out
        omega
      clear hO hLl hLm hLk HM
      go_wp2
      go_ret2
      exact ⟨G, rfl, HE.out.2.1, HE.out.1, HE.out.2.2⟩

set_option maxRecDepth 100000 in
set_option maxHeartbeats 1000000 in
theorem numbers64_out (ao : Option Addr) (n cap : Nat) (place : Int) (q : Option Nat) (a c : Int) (w : World) (hc : c ≤ 9223372036854775807) (hrg : ¬ (0 ≤ a ∧ 0 ≤ c ∧ a + c * 8 ≤ n)) :
    Calls Try.prog 67 #[viewV ao n cap place q, .int .i64 a, .int .i64 c] w fun e w' => e = .returned (.tuple #[.slice none 0 0, .int .i64 2]) ∧ Keeps w w' (fun _ => False) := by
  have HR : Hid (¬ (0 ≤ a ∧ 0 ≤ c ∧ a + c * 8 ≤ n)) := hrg
  clear hrg
  unfold viewV
  by_cases ht : Ex.timB c 8 = true
  · have htv : Ex.timV c 8 = c * 8 := Ex.timV_yes ht
    have hb := (Ex.timB_iff _ _).1 ht
    have HO : Hid (¬ (0 ≤ a ∧ 0 ≤ c * 8 ∧ a + c * 8 ≤ n)) := by have := HR.out; show ¬ _; omega
    clear hb
    go_enter Try.func67, Try.ntmps67
    go_wp2_with (first | (go_at_call 71; refine (len64_64 _).mono ?_; rintro e w' ⟨rfl, rfl⟩) | (go_at_call 37; refine (Ex.times_any c 8 _ hc (by omega)).mono ?_; rintro e w' ⟨rfl, rfl⟩) | (go_at_call 52; refine (read_out ao n cap place q a (c * 8) _ HO.out).mono ?_; rintro e w2 ⟨rfl, K2⟩))
    go_ret2
    exact ⟨rfl, ((Keeps.refl w _).alloc _).trans K2 fun _ _ h => h⟩
  · have ht' : Ex.timB c 8 = false := by simpa using ht
    clear ht
    go_enter Try.func67, Try.ntmps67
    go_wp2_with (first | (go_at_call 71; refine (len64_64 _).mono ?_; rintro e w' ⟨rfl, rfl⟩) | (go_at_call 37; refine (Ex.times_any c 8 _ hc (by omega)).mono ?_; rintro e w' ⟨rfl, rfl⟩))
    go_ret2
    exact ⟨rfl, (Keeps.refl _ _).alloc _⟩
end Go.Proofs.Ytomlndoffoeaiaa.Kit
