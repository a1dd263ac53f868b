import Derived.Test.YtknjnclopiklaabQD
namespace Go.Proofs.Ytknjnclopiklaab.Kit
open Go.RowKit Go.Shelf Go.Deep
set_option linter.unusedVariables false
attribute [local go_sem] run_store_func

/-! ### Unpack and Size -/
theorem unp_len (how : Int) (most : Nat) : ∀ (f : Nat) (out b : List UInt8), (unp how most f out b).2.length ≤ max out.length most
  | 0, out, b => by simp [unp]; omega
  | f + 1, out, b => by
    unfold unp
    split
    · simp; omega
    split
    · simp
    split
    · simp
    split
    · simp
    · rename_i h
      have := unp_len how most f (layI (firstI how b) out) (b.drop (firstI how b).size)
      rw [layI_len] at this
      omega
set_option maxRecDepth 100000 in
set_option maxHeartbeats 1000000 in
theorem take22 (V : World) (x : Value) (bo : Option Addr) (bc n again back : Nat) : Calls Try.prog 21 #[.agg #[.slice bo n bc, .int .i64 (again : Int), .int .i64 (back : Int)]] V fun e w' => e = .returned (.tuple #[]) ∧ Gr V w' := by
  go_enter Try.func21, Try.ntmps21
  go_wp2_with fail
  go_end0
  exact ⟨rfl, gr_alloc _ _⟩
set_option maxRecDepth 100000 in
set_option maxHeartbeats 2000000 in
theorem unpack_any {ao : Option Addr} {ca : Nat} {bs : List UInt8} {w : World} (how raw : Int) (h : BytesAt w ao bs) (hca : bs.length ≤ ca) (hl : bs.length ≤ 140737488355328) :
    Calls Try.prog 7 #[.int .i64 how, .slice ao bs.length ca, .int .i64 raw] w fun e w' => ∃ vo vc n, e = .returned (.tuple #[.slice vo n vc, .int .i64 (unpackE how bs raw).1]) ∧ Byts w w' vo vc n (unpackE how bs raw).2 := by
  have hw := fun w => isHow_any how w
  obtain ⟨L, hL⟩ : ∃ L, L = bs.length := ⟨_, rfl⟩
  have HL := hidM hL
  by_cases c0 : howB how = true
  rotate_left
  · have c0' : howB how = false := by simpa using c0
    have HE : Hid (unpackE how bs raw = (1, [])) := by show _ = _; unfold unpackE; rw [if_pos (.inl c0')]
    rw [c0'] at hw
    rw [← hL]
    clear h hca c0 c0' hL hl
    go_enter Try.func7, Try.ntmps7
    go_wp2_with (go_at_call 12; with_reducible refine (hw _).mono ?_; rintro e w' ⟨rfl, rfl⟩)
    refine bodyPost_ret (v := .tuple #[.slice none 0 0, .int .i64 1]) ?_ rfl ⟨none, 0, 0, by rw [HE.out], by rw [HE.out]; exact Byts.nil _ _ (Keeps.refl _ _)⟩
    simp [results, Try.f7, go_sem]
  rw [c0] at hw
  by_cases c1 : raw < 0
  · have HE : Hid (unpackE how bs raw = (1, [])) := by show _ = _; unfold unpackE; rw [if_pos (.inr c1)]
    rw [← hL]
    clear h hca c0 hL hl
    go_enter Try.func7, Try.ntmps7
    go_wp2_with (go_at_call 12; with_reducible refine (hw _).mono ?_; rintro e w' ⟨rfl, rfl⟩)
    refine bodyPost_ret (v := .tuple #[.slice none 0 0, .int .i64 1]) ?_ rfl ⟨none, 0, 0, by rw [HE.out], by rw [HE.out]; exact Byts.nil _ _ (Keeps.refl _ _)⟩
    simp [results, Try.f7, go_sem]
  have c01 : ¬ (howB how = false ∨ raw < 0) := by rw [c0]; simp; omega
  by_cases c2 : 65536 < raw
  · have HE : Hid (unpackE how bs raw = (4, [])) := by show _ = _; unfold unpackE; rw [if_neg c01, if_pos c2]
    rw [← hL]
    clear h hca c0 hL hl c01
    go_enter Try.func7, Try.ntmps7
    go_wp2_with (go_at_call 12; with_reducible refine (hw _).mono ?_; rintro e w' ⟨rfl, rfl⟩)
    refine bodyPost_ret (v := .tuple #[.slice none 0 0, .int .i64 4]) ?_ rfl ⟨none, 0, 0, by rw [HE.out], by rw [HE.out]; exact Byts.nil _ _ (Keeps.refl _ _)⟩
    simp [results, Try.f7, go_sem]
  obtain ⟨m, rfl⟩ : ∃ m : Nat, raw = (m : Int) := ⟨raw.toNat, by omega⟩
  have hE : unpackE how bs (m : Int) = if (unp how m bs.length [] bs).1 ≠ 0 then ((unp how m bs.length [] bs).1, []) else if ((unp how m bs.length [] bs).2.length : Int) < (m : Int) then (62, []) else (0, (unp how m bs.length [] bs).2) := by
    unfold unpackE
    rw [if_neg c01, if_neg c2, Int.toNat_natCast]
  have HW := hidM (walk20 (w := w) (W := w.alloc (.cells #[.slice none 0 0] 22)) (O := w.heap.size) (ca := ca) how m (Out w) (fun _ _ h => h.gr) (fun _ _ _ h g => h.kept g) h hca hl (by omega) ⟨gr_alloc _ _, none, 0, 0, heap_alloc_new w _, Byts.nil _ _ (gr_alloc _ _)⟩ (fun V bo bc out l again back hR hb h1 h2 h3 => take20 hR hb (by omega) h2 h3))
  obtain ⟨r1, hr1⟩ : ∃ r, r = (unp how m bs.length [] bs).1 := ⟨_, rfl⟩
  obtain ⟨r2, hr2⟩ : ∃ r, r = (unp how m bs.length [] bs).2 := ⟨_, rfl⟩
  rw [← hr1, ← hr2] at hE HW
  obtain ⟨k, hk⟩ : ∃ k, k = r2.length := ⟨_, rfl⟩
  rw [← hk] at hE HW
  have HE := hidM hE
  have HK := hidM hk
  rw [← hL]
  rw [← hL] at HW
  have hkb : k ≤ 65536 := by
    have := unp_len how m bs.length [] bs
    rw [← hr2, ← hk] at this
    simp at this
    omega
  clear h hca c0 hL hl c01 hE hr1 hr2 hk
  go_enter Try.func7, Try.ntmps7
  go_wp2_with (first | (go_at_call 12; with_reducible refine (hw _).mono ?_; rintro e w' ⟨rfl, rfl⟩) | (go_at_call 15; refine Hid.out ?_))
  unfold Hid
  refine Calls.mono HW.out ?_
  rintro e V ⟨rfl, hg, hR⟩
  have HG := hidM hg
  clear hg
  by_cases c3 : r1 = 0
  rotate_left
  · have c3b : (r1 != 0) = true := by simpa using c3
    have HZ : Hid (unpackE how bs (m : Int) = (r1, [])) := by show _ = _; rw [HE.out, if_pos c3]
    clear hR c3
    go_wp2_with fail
    refine bodyPost_ret (v := .tuple #[.slice none 0 0, .int .i64 r1]) ?_ rfl ⟨none, 0, 0, by rw [HZ.out], by rw [HZ.out]; exact Byts.nil _ _ HG.out⟩
    simp [results, Try.f7, go_sem]
  have c3b : (r1 != 0) = false := by simp [c3]
  obtain ⟨vo, vc, n, hO, hB⟩ := (hR c3).box
  have hn := hB.len
  have e0 := ce1 hO
  have HB := hidM hB
  have HC3 := hidM c3
  clear hR hO hB c3
  by_cases c4 : k < m
  · have c4I : (k : Int) < (m : Int) := by omega
    have HZ : Hid (unpackE how bs (m : Int) = (62, [])) := by show _ = _; rw [HE.out, if_neg (by simpa using HC3.out), if_pos c4I]
    go_wp2_with fail
    refine bodyPost_ret (v := .tuple #[.slice none 0 0, .int .i64 62]) ?_ rfl ⟨none, 0, 0, by rw [HZ.out], by rw [HZ.out]; exact Byts.nil _ _ HG.out⟩
    simp [results, Try.f7, go_sem]
  have c4I : ¬ (k : Int) < (m : Int) := by omega
  have HZ : Hid (unpackE how bs (m : Int) = (0, r2)) := by show _ = _; rw [HE.out, if_neg (by simpa using HC3.out), if_neg c4I]
  go_wp2_with fail
  refine bodyPost_ret (v := .tuple #[.slice vo n vc, .int .i64 0]) ?_ rfl ⟨vo, vc, n, by rw [HZ.out], by rw [HZ.out]; exact HB.out⟩
  simp [results, Try.f7, go_sem]
set_option maxRecDepth 100000 in
set_option maxHeartbeats 2000000 in
theorem size_any {ao : Option Addr} {ca : Nat} {bs : List UInt8} {w : World} (how : Int) (h : BytesAt w ao bs) (hca : bs.length ≤ ca) (hl : bs.length ≤ 140737488355328) :
    Calls Try.prog 11 #[.int .i64 how, .slice ao bs.length ca] w fun e w' => e = .returned (.tuple #[.int .i64 (sizeE how bs).1, .int .i64 (sizeE how bs).2]) ∧ Gr w w' := by
  have hw := fun w => isHow_any how w
  obtain ⟨L, hL⟩ : ∃ L, L = bs.length := ⟨_, rfl⟩
  have HL := hidM hL
  by_cases c0 : howB how = true
  rotate_left
  · have c0' : howB how = false := by simpa using c0
    have HE : Hid (sizeE how bs = (0, 1)) := by show _ = _; unfold sizeE; rw [if_pos c0']
    rw [c0'] at hw
    rw [← hL]
    clear h hca c0 c0' hL hl
    go_enter Try.func11, Try.ntmps11
    go_wp2_with (go_at_call 12; with_reducible refine (hw _).mono ?_; rintro e w' ⟨rfl, rfl⟩)
    refine bodyPost_ret (v := .tuple #[.int .i64 0, .int .i64 1]) ?_ rfl ⟨by rw [HE.out], Keeps.refl _ _⟩
    simp [results, Try.f11, go_sem]
  rw [c0] at hw
  have hE : sizeE how bs = if (unp how 65536 bs.length [] bs).1 = 61 then (0, 4) else (((unp how 65536 bs.length [] bs).2.length : Int), (unp how 65536 bs.length [] bs).1) := by
    unfold sizeE
    rw [c0, if_neg (by decide)]
  have HW := hidM (walk22 (w := w) (W := w) (ca := ca) how 65536 (fun _ V => Gr w V) (fun _ _ h => h) (fun _ _ _ h g => h.trans g (fun _ _ h => h)) h hca hl (by omega) (Keeps.refl _ _) (fun V bo bc out l again back hR hb h1 h2 h3 => by
    refine Calls.mono (take22 V undef bo bc l.length again back) ?_
    rintro e w' ⟨rfl, g⟩
    exact ⟨rfl, hR.trans g (fun _ _ h => h)⟩))
  obtain ⟨r1, hr1⟩ : ∃ r, r = (unp how 65536 bs.length [] bs).1 := ⟨_, rfl⟩
  obtain ⟨r2, hr2⟩ : ∃ r, r = (unp how 65536 bs.length [] bs).2 := ⟨_, rfl⟩
  rw [← hr1, ← hr2] at hE HW
  obtain ⟨k, hk⟩ : ∃ k : Int, k = (r2.length : Int) := ⟨_, rfl⟩
  rw [← hk] at hE HW
  have HE := hidM hE
  rw [← hL]
  rw [← hL] at HW
  clear h hca c0 hL hl hE hr1 hr2 hk
  go_enter Try.func11, Try.ntmps11
  go_wp2_with (first | (go_at_call 12; with_reducible refine (hw _).mono ?_; rintro e w' ⟨rfl, rfl⟩) | (go_at_call 15; refine Hid.out ?_))
  unfold Hid
  refine Calls.mono HW.out ?_
  rintro e V ⟨rfl, hg, -⟩
  have HG := hidM hg
  clear hg
  by_cases c3 : r1 = 61
  · have c3b : (r1 == 61) = true := by simp [c3]
    have HZ : Hid (sizeE how bs = (0, 4)) := by show _ = _; rw [HE.out, if_pos c3]
    clear c3
    go_wp2_with fail
    refine bodyPost_ret (v := .tuple #[.int .i64 0, .int .i64 4]) ?_ rfl ⟨by rw [HZ.out], HG.out⟩
    simp [results, Try.f11, go_sem]
  have c3b : (r1 == 61) = false := beqF c3
  have HZ : Hid (sizeE how bs = (k, r1)) := by show _ = _; rw [HE.out, if_neg c3]
  clear c3
  go_wp2_with fail
  refine bodyPost_ret (v := .tuple #[.int .i64 k, .int .i64 r1]) ?_ rfl ⟨by rw [HZ.out], HG.out⟩
  simp [results, Try.f11, go_sem]

end Go.Proofs.Ytknjnclopiklaab.Kit
