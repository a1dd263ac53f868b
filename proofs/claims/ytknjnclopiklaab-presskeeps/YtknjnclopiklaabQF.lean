import Derived.Test.YtknjnclopiklaabQE
import Derived.Lib.SlBytesConst
import Derived.Lib.BufferRead
namespace Go.Proofs.Ytknjnclopiklaab.Kit
open Go.RowKit Go.Shelf Go.Deep
set_option linter.unusedVariables false
attribute [local go_sem] run_store_func

/-! ### answers that the document fixes -/
theorem bytes_string {W : World} {vo : Option Addr} {vc : Nat} {bs : List UInt8} (h : BytesAt W vo bs) : (convert 22 9 (.slice vo bs.length vc)).run Try.prog W = .ok (.string ⟨bs.toArray⟩) W := by
  cases vo with
  | none =>
    have : bs = [] := by
      cases bs with
      | nil => rfl
      | cons x l => obtain ⟨b, o, e, -⟩ := h (by simp); cases e
    subst this
    exact Go.Lib.run_convert_nil_bytes W 22 9 5 vc Try.underlying22 Try.underlying5 Try.underlying9
  | some a =>
    refine run_convert_bytes_back W 22 9 5 a vc bs Try.underlying22 Try.underlying5 Try.underlying9 fun j hj => ?_
    obtain ⟨b, o, e, hc⟩ := h (ne_nil hj)
    cases e
    rw [show (⟨b, o, none⟩ : Addr).add j = ⟨b, o + j, none⟩ by simp [Addr.add]]
    exact hc j hj
theorem bytes_new (w : World) (l : List UInt8) (fr : Nat × Nat) : BytesAt (w.alloc (.cells (bv l).toArray 5 fr)) (some ⟨w.heap.size, 0, none⟩) l := fun hn => by
  refine ⟨w.heap.size, 0, rfl, fun j hj => ?_⟩
  have hb := heap_alloc_new w (.cells (bv l).toArray 5 fr)
  simp only [World.cell?, hb]
  simp [bv, hj]
theorem Byts.bytes {w W : World} {vo : Option Addr} {vc n : Nat} {bs : List UInt8} (h : Byts w W vo vc n bs) : BytesAt W vo bs := bytes_of_own h.own
theorem aw1 (W : World) (ao : Option Addr) (h : BytesAt W ao [97, 97, 97, 98]) : Calls Try.prog 6 #[.int .i64 1, .slice ao 4 4] W fun e w' => ∃ vo vc, e = .returned (.tuple #[.slice vo 4 vc, .int .i64 0]) ∧ BytesAt w' vo [128, 97, 0, 98] ∧ Gr W w' := by
  refine Calls.mono (pack_any (ca := 4) (bs := [97, 97, 97, 98]) 1 h (by decide) (by decide)) ?_
  rintro e w' ⟨vo, vc, n, rfl, hb⟩
  have e1 : packE 1 [97, 97, 97, 98] = 0 := by decide +kernel
  have e2 : packR 1 [97, 97, 97, 98] = [128, 97, 0, 98] := by decide +kernel
  rw [e2] at hb
  have hl : 4 = n := hb.len
  subst hl
  exact ⟨vo, vc, by rw [e1], hb.bytes, hb.gr⟩
theorem aw2 (W : World) (ao : Option Addr) (h : BytesAt W ao [97, 98, 99, 97, 98, 99, 97, 98, 99, 120]) : Calls Try.prog 6 #[.int .i64 2, .slice ao 10 10] W fun e w' => ∃ vo vc, e = .returned (.tuple #[.slice vo 9 vc, .int .i64 0]) ∧ BytesAt w' vo [2, 97, 98, 99, 130, 2, 0, 0, 120] ∧ Gr W w' := by
  refine Calls.mono (pack_any (ca := 10) (bs := [97, 98, 99, 97, 98, 99, 97, 98, 99, 120]) 2 h (by decide) (by decide)) ?_
  rintro e w' ⟨vo, vc, n, rfl, hb⟩
  have e1 : packE 2 [97, 98, 99, 97, 98, 99, 97, 98, 99, 120] = 0 := by decide +kernel
  have e2 : packR 2 [97, 98, 99, 97, 98, 99, 97, 98, 99, 120] = [2, 97, 98, 99, 130, 2, 0, 0, 120] := by decide +kernel
  rw [e2] at hb
  have hl : 9 = n := hb.len
  subst hl
  exact ⟨vo, vc, by rw [e1], hb.bytes, hb.gr⟩
theorem aw3 (W : World) (ao : Option Addr) (h : BytesAt W ao [0, 97, 128, 0, 0]) : Calls Try.prog 7 #[.int .i64 2, .slice ao 5 5, .int .i64 5] W fun e w' => ∃ vo vc, e = .returned (.tuple #[.slice vo 5 vc, .int .i64 0]) ∧ BytesAt w' vo [97, 97, 97, 97, 97] ∧ Gr W w' := by
  refine Calls.mono (unpack_any (ca := 5) (bs := [0, 97, 128, 0, 0]) 2 5 h (by decide) (by decide)) ?_
  rintro e w' ⟨vo, vc, n, rfl, hb⟩
  rw [awake3] at hb ⊢
  have hl : 5 = n := hb.len
  subst hl
  exact ⟨vo, vc, rfl, hb.bytes, hb.gr⟩
theorem aw4 (W : World) (ao : Option Addr) (h : BytesAt W ao [255, 7]) : Calls Try.prog 11 #[.int .i64 1, .slice ao 2 2] W fun e w' => e = .returned (.tuple #[.int .i64 130, .int .i64 0]) ∧ Gr W w' := by
  refine Calls.mono (size_any (ca := 2) (bs := [255, 7]) 1 h (by decide) (by decide)) ?_
  rintro e w' ⟨rfl, hg⟩
  rw [awake4]
  exact ⟨rfl, hg⟩
set_option maxRecDepth 100000 in
set_option maxHeartbeats 4000000 in
theorem awake_any (w : World) : Calls Try.prog 5 #[] w fun e w' => e = .returned (.bool true) ∧ Gr w w' := by
  have hcv := fun (w : World) (C : Array Value) (n c : Nat) => Go.Lib.run_convert_bytes_const (P := Try.prog) w 22 5 C n c Try.underlying22 Try.underlying5
  go_enter Try.func5, Try.ntmps5
  go_wp2_with (go_at_call 6; refine Hid.out ?_)
  unfold Hid
  refine Calls.mono (aw1 _ _ (bytes_new w [97, 97, 97, 98] (4, 5))) ?_
  rintro e W1 ⟨vo1, vc1, rfl, hb1, hg1⟩
  have HB1 := hidM hb1
  have HG1 := hidM ((gr_alloc w _).trans hg1 (fun _ _ h => h))
  clear hb1 hg1
  go_wp2_with (go_at_call 6; refine Hid.out ?_)
  unfold Hid
  refine Calls.mono (aw2 _ _ (bytes_new W1 [97, 98, 99, 97, 98, 99, 97, 98, 99, 120] (10, 11))) ?_
  rintro e W2 ⟨vo2, vc2, rfl, hb2, hg2⟩
  have HB2 := hidM hb2
  have HG2 := hidM ((gr_alloc W1 _).trans hg2 (fun _ _ h => h))
  clear hb2 hg2
  go_wp2_with (go_at_call 7; refine Hid.out ?_)
  unfold Hid
  refine Calls.mono (aw3 _ _ (bytes_new W2 [0, 97, 128, 0, 0] (0, 0))) ?_
  rintro e W3 ⟨vo3, vc3, rfl, hb3, hg3⟩
  have HB3 := hidM hb3
  have HG3 := hidM ((gr_alloc W2 _).trans hg3 (fun _ _ h => h))
  clear hb3 hg3
  go_wp2_with (go_at_call 11; refine Hid.out ?_)
  unfold Hid
  refine Calls.mono (aw4 _ _ (bytes_new W3 [255, 7] (0, 0))) ?_
  rintro e W4 ⟨rfl, hg4⟩
  have HG4 := hidM ((gr_alloc W3 _).trans hg4 (fun _ _ h => h))
  clear hg4
  have g34 := HG3.out.trans HG4.out (fun _ _ h => h)
  have g24 := HG2.out.trans g34 (fun _ _ h => h)
  have s1 : (convert 22 9 (.slice vo1 4 vc1)).run Try.prog W4 = .ok (.string ⟨#[128, 97, 0, 98]⟩) W4 := bytes_string (HB1.out.gr g24)
  have s2 : (convert 22 9 (.slice vo2 9 vc2)).run Try.prog W4 = .ok (.string ⟨#[2, 97, 98, 99, 130, 2, 0, 0, 120]⟩) W4 := bytes_string (HB2.out.gr g34)
  have s3 : (convert 22 9 (.slice vo3 5 vc3)).run Try.prog W4 = .ok (.string ⟨#[97, 97, 97, 97, 97]⟩) W4 := bytes_string (HB3.out.gr HG4.out)
  have HG := hidM (HG1.out.trans g24 (fun _ _ h => h))
  clear g34 g24 hcv
  go_wp2_with fail
  go_ret
  exact ⟨rfl, HG.out⟩

end Go.Proofs.Ytknjnclopiklaab.Kit
