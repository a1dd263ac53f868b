import Derived.Test.YtknjnclopiklaabRF
namespace Go.Proofs.Ytknjnclopiklaab.Kit
open Go.RowKit Go.Shelf Go.Deep
set_option linter.unusedVariables false
attribute [local go_sem] run_store_func

/-! ### the document's Unpack and Size -/
theorem layR_any {w : World} {ao : Option Addr} {ca : Nat} {bs : List UInt8} (how : Int) (hh : howB how = true) (most : Nat) (more : Int) (h : BytesAt w ao bs) (hca : bs.length ≤ ca) (hl : bs.length ≤ 140737488355328) (hmost : most ≤ 65536) :
    Calls Try.prog 20 #[.int .i64 how, .slice ao bs.length ca, .int .i64 (most : Int), .int .i64 more] w fun e w' => ∃ vo vc n, e = .returned (.tuple #[.slice vo n vc, .int .i64 (layC more (unp how most bs.length [] bs))]) ∧ Byts w w' vo vc n (unp how most bs.length [] bs).2 := by
  have hc : how = 0 ∨ how = 1 ∨ how = 2 := by unfold howB at hh; simp at hh; omega
  rcases hc with rfl | rfl | rfl
  · exact layR0 most more h hca hl hmost
  · exact layR1 most more h hca hl hmost
  · exact layR2 most more h hca hl hmost
theorem unp_err (how : Int) (m : Nat) : ∀ (f : Nat) (out b : List UInt8), (unp how m f out b).1 ≠ 0 → (unp how m f out b).2 = []
  | 0, out, b, h => absurd rfl h
  | f + 1, out, b, h => by
    unfold unp at h ⊢
    by_cases c0 : b = []
    · rw [if_pos c0] at h; exact absurd rfl h
    rw [if_neg c0] at h ⊢
    by_cases c1 : b.length < (firstI how b).size
    · rw [if_pos c1]
    rw [if_neg c1] at h ⊢
    by_cases c2 : out.length + (firstI how b).bytes.length < (firstI how b).back
    · rw [if_pos c2]
    rw [if_neg c2] at h ⊢
    by_cases c3 : m < out.length + (firstI how b).bytes.length + (firstI how b).again
    · rw [if_pos c3]
    rw [if_neg c3] at h ⊢
    exact unp_err how m f _ _ h
set_option maxRecDepth 100000 in
set_option maxHeartbeats 2000000 in
theorem unpackR_any {ao : Option Addr} {ca : Nat} {bs : List UInt8} {w : World} (how raw : Int) (h : BytesAt w ao bs) (hca : bs.length ≤ ca) (hl : bs.length ≤ 140737488355328) :
    Calls Try.prog 10 #[.int .i64 how, .slice ao bs.length ca, .int .i64 raw] w fun e w' => ∃ vo vc n, e = .returned (.tuple #[.slice vo n vc, .int .i64 (unpackE how bs raw).1]) ∧ Byts w w' vo vc n (unpackE how bs raw).2 := by
  obtain ⟨L, hL⟩ : ∃ L, L = bs.length := ⟨_, rfl⟩
  have HL := hidM hL
  by_cases c0 : howB how = true
  rotate_left
  · have c0' : howB how = false := by simpa using c0
    have HE : Hid (unpackE how bs raw = (1, [])) := by show _ = _; unfold unpackE; rw [if_pos (.inl c0')]
    have hd : how < 0 ∨ 2 < how := by unfold howB at c0'; simp at c0'; omega
    rw [← hL]
    by_cases d1 : how < 0
    · clear h hca c0 c0' hL hl hd
      go_enter Try.func10, Try.ntmps10
      go_wp2_with fail
      refine bodyPost_ret (v := .tuple #[.slice none 0 0, .int .i64 1]) ?_ rfl ⟨none, 0, 0, by rw [HE.out], by rw [HE.out]; exact Byts.nil _ _ (Keeps.refl _ _)⟩
      simp [results, Try.f10, go_sem]
    · have d2 : 2 < how := by omega
      clear h hca c0 c0' hL hl hd
      go_enter Try.func10, Try.ntmps10
      go_wp2_with fail
      refine bodyPost_ret (v := .tuple #[.slice none 0 0, .int .i64 1]) ?_ rfl ⟨none, 0, 0, by rw [HE.out], by rw [HE.out]; exact Byts.nil _ _ (Keeps.refl _ _)⟩
      simp [results, Try.f10, go_sem]
  have d1 : ¬ how < 0 := by unfold howB at c0; simp at c0; omega
  have d2 : ¬ 2 < how := by unfold howB at c0; simp at c0; omega
  by_cases c1 : raw < 0
  · have HE : Hid (unpackE how bs raw = (1, [])) := by show _ = _; unfold unpackE; rw [if_pos (.inr c1)]
    rw [← hL]
    clear h hca c0 hL hl
    go_enter Try.func10, Try.ntmps10
    go_wp2_with fail
    refine bodyPost_ret (v := .tuple #[.slice none 0 0, .int .i64 1]) ?_ rfl ⟨none, 0, 0, by rw [HE.out], by rw [HE.out]; exact Byts.nil _ _ (Keeps.refl _ _)⟩
    simp [results, Try.f10, go_sem]
  have c01 : ¬ (howB how = false ∨ raw < 0) := by rw [c0]; simp; omega
  by_cases c2 : 65536 < raw
  · have HE : Hid (unpackE how bs raw = (4, [])) := by show _ = _; unfold unpackE; rw [if_neg c01, if_pos c2]
    rw [← hL]
    clear h hca c0 hL hl c01
    go_enter Try.func10, Try.ntmps10
    go_wp2_with fail
    refine bodyPost_ret (v := .tuple #[.slice none 0 0, .int .i64 4]) ?_ rfl ⟨none, 0, 0, by rw [HE.out], by rw [HE.out]; exact Byts.nil _ _ (Keeps.refl _ _)⟩
    simp [results, Try.f10, go_sem]
  obtain ⟨m, rfl⟩ : ∃ m : Nat, raw = (m : Int) := ⟨raw.toNat, by omega⟩
  have hE : unpackE how bs (m : Int) = if (unp how m bs.length [] bs).1 ≠ 0 then ((unp how m bs.length [] bs).1, []) else if ((unp how m bs.length [] bs).2.length : Int) < (m : Int) then (62, []) else (0, (unp how m bs.length [] bs).2) := by
    unfold unpackE
    rw [if_neg c01, if_neg c2, Int.toNat_natCast]
  have HW := hidM (layR_any (ca := ca) how c0 m 61 h hca hl (by omega))
  have hlc : layC 61 (unp how m bs.length [] bs) = (unp how m bs.length [] bs).1 := by unfold layC; split <;> simp_all
  rw [hlc] at HW
  have herr := unp_err how m bs.length [] bs
  obtain ⟨r1, hr1⟩ : ∃ r, r = (unp how m bs.length [] bs).1 := ⟨_, rfl⟩
  obtain ⟨r2, hr2⟩ : ∃ r, r = (unp how m bs.length [] bs).2 := ⟨_, rfl⟩
  rw [← hr1, ← hr2] at hE HW herr
  have HE := hidM hE
  have HErr := hidM herr
  rw [← hL]
  rw [← hL] at HW
  clear h hca c0 hL hl c01 hE hr1 hr2 herr hlc
  go_enter Try.func10, Try.ntmps10
  go_wp2_with (go_at_call 20; refine Hid.out ?_)
  unfold Hid
  refine Calls.mono HW.out ?_
  rintro e V ⟨vo, vc, n, rfl, hb⟩
  have HB := hidM hb
  have hbl := hb.len
  clear hb
  by_cases c3 : r1 = 0
  rotate_left
  · have c3b : (r1 == 0) = false := beqF c3
    have HZ : Hid (unpackE how bs (m : Int) = (r1, [])) := by show _ = _; rw [HE.out, if_pos c3]
    have HR2 := hidM (HErr.out c3)
    clear c3
    go_wp2_with fail
    refine bodyPost_ret (v := .tuple #[.slice vo n vc, .int .i64 r1]) ?_ rfl ⟨vo, vc, n, by rw [HZ.out], by rw [HZ.out, ← HR2.out]; exact HB.out⟩
    simp [results, Try.f10, go_sem]
  have c3b : (r1 == 0) = true := by simp [c3]
  have HC3 := hidM c3
  clear c3
  by_cases c4 : n < m
  · have c4I : (n : Int) < (m : Int) := by omega
    have HZ : Hid (unpackE how bs (m : Int) = (62, [])) := by show _ = _; rw [HE.out, if_neg (by simpa using HC3.out), if_pos (by rw [hbl]; exact c4I)]
    go_wp2_with fail
    refine bodyPost_ret (v := .tuple #[.slice none 0 0, .int .i64 62]) ?_ rfl ⟨none, 0, 0, by rw [HZ.out], by rw [HZ.out]; exact Byts.nil _ _ HB.out.gr⟩
    simp [results, Try.f10, go_sem]
  have c4I : ¬ (n : Int) < (m : Int) := by omega
  have HZ : Hid (unpackE how bs (m : Int) = (r1, r2)) := by show _ = _; rw [HE.out, if_neg (by simpa using HC3.out), if_neg (by rw [hbl]; exact c4I), HC3.out]
  go_wp2_with fail
  refine bodyPost_ret (v := .tuple #[.slice vo n vc, .int .i64 r1]) ?_ rfl ⟨vo, vc, n, by rw [HZ.out], by rw [HZ.out]; exact HB.out⟩
  simp [results, Try.f10, go_sem]
theorem size_zero {how : Int} {bs : List UInt8} (h : (sizeE how bs).2 ≠ 0) : (sizeE how bs).1 = 0 := by
  unfold sizeE at h ⊢
  split
  · rfl
  split
  · rfl
  · rename_i c0 c1
    rw [if_neg c0, if_neg c1] at h
    show ((unp how 65536 bs.length [] bs).2.length : Int) = 0
    rw [unp_err how 65536 bs.length [] bs h]
    rfl

end Go.Proofs.Ytknjnclopiklaab.Kit
