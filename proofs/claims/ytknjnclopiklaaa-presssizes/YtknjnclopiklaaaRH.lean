import Derived.Test.YtknjnclopiklaaaRG
namespace Go.Proofs.Ytknjnclopiklaaa.Kit
open Go.RowKit Go.Shelf Go.Deep
set_option linter.unusedVariables false
attribute [local go_sem] run_store_func

/-! ### lists of calls -/
structure OpD where
  how : Int
  ao : Option Addr
  bs : List UInt8
  ca : Nat
  raw : Int
instance : Inhabited OpD := ⟨⟨0, none, [], 0, 0⟩⟩
structure OpIn (W : World) (x : OpD) : Prop where
  cap : x.bs.length ≤ x.ca
  len : x.bs.length ≤ 140737488355328
  at_ : BytesAt W x.ao x.bs
def OpsAt (W : World) (lo : Option Addr) (l : List OpD) : Prop :=
  l.length ≤ 1000000000000000 ∧ (l ≠ [] → ∃ b o, lo = some ⟨b, o, none⟩ ∧ ∀ i (h : i < l.length), W.cell? ⟨b, o + i * 3, none⟩ = some (.int .i64 l[i].how) ∧ W.cell? ⟨b, o + i * 3 + 1, none⟩ = some (.slice l[i].ao l[i].bs.length l[i].ca) ∧ W.cell? ⟨b, o + i * 3 + 2, none⟩ = some (.int .i64 l[i].raw) ∧ OpIn W l[i])

set_option maxRecDepth 100000 in
set_option maxHeartbeats 4000000 in
theorem unpacks_any {lo : Option Addr} {lc : Nat} {l : List OpD} {w : World} (h : OpsAt w lo l) :
    Calls Try.prog 5 #[.slice lo l.length lc] w fun e w' => e = .returned (.bool true) ∧ Gr w w' := by
  have hlb := h.1
  have HO := hidM h.2
  have HAw := hidM (awake_any w)
  obtain ⟨N, hN⟩ : ∃ N, N = l.length := ⟨_, rfl⟩
  rw [← hN] at hlb ⊢
  have HN := hidM hN
  clear h hN
  go_enter Try.func5, Try.ntmps5
  go_wp2_with (go_at_call 9; refine Hid.out ?_)
  unfold Hid
  refine Calls.mono HAw.out ?_
  rintro e W1 ⟨rfl, hg1⟩
  have HG1 := hidM hg1
  clear hg1
  go_wp2_with fail
  go_loopw [13] (fun p wr => ∃ i : Nat, i ≤ N ∧ p = .int .i64 (i : Int) ∧ Hid (Gr w wr)) (fun p _ => N - (intOf p).toNat)
  case atStart => exact ⟨0, by omega, rfl, HG1.out⟩
  case round =>
    obtain ⟨i, hi, rfl, HG⟩ := hrel
    by_cases c : i < N
    rotate_left
    · have cI : ¬ (i : Int) < (N : Int) := by omega
      go_wp2_with fail
      go_ret
      exact ⟨rfl, HG.out⟩
    have cI : (i : Int) < (N : Int) := by omega
    have hi0 : (0 : Int) ≤ (i : Int) := by omega
    have cl : i < l.length := by rw [← HN.out]; exact c
    obtain ⟨b, o, hlo, hcs⟩ := HO.out (ne_nil cl)
    subst hlo
    obtain ⟨k0, k1, k2, kin⟩ := hcs i cl
    have t0 := HG.out.cell' k0 id
    have t1 := HG.out.cell' k1 id
    have t2 := HG.out.cell' k2 id
    obtain ⟨x, hx⟩ : ∃ x, x = l[i] := ⟨_, rfl⟩
    rw [← hx] at t0 t1 t2 kin
    have HK := hidM kin
    obtain ⟨how, ao, bs, ca, raw⟩ := x
    obtain ⟨L, hL⟩ : ∃ L, L = bs.length := ⟨_, rfl⟩
    have HL := hidM hL
    simp only at t0 t1 t2
    rw [← hL] at t1
    clear hcs k0 k1 k2 kin hx hL cl
    have HUR : Hid (∀ V, Gr w V → Calls Try.prog 11 #[.int .i64 how, .slice ao L ca, .int .i64 raw] V fun e w' => ∃ vo vc n, e = .returned (.tuple #[.slice vo n vc, .int .i64 (unpackE how bs raw).1]) ∧ Byts V w' vo vc n (unpackE how bs raw).2) := fun V g => by
      rw [HL.out]; exact unpackR_any how raw (HK.out.at_.gr g) HK.out.cap HK.out.len
    have HUP : Hid (∀ V, Gr w V → Calls Try.prog 12 #[.int .i64 how, .slice ao L ca, .int .i64 raw] V fun e w' => ∃ vo vc n, e = .returned (.tuple #[.slice vo n vc, .int .i64 (unpackE how bs raw).1]) ∧ Byts V w' vo vc n (unpackE how bs raw).2) := fun V g => by
      rw [HL.out]; exact unpack_any how raw (HK.out.at_.gr g) HK.out.cap HK.out.len
    obtain ⟨f1, hf1⟩ : ∃ f, f = (unpackE how bs raw).1 := ⟨_, rfl⟩
    obtain ⟨l2, hl2⟩ : ∃ f, f = (unpackE how bs raw).2 := ⟨_, rfl⟩
    rw [← hf1, ← hl2] at HUR HUP
    clear hf1 hl2
    obtain ⟨p0, p1, p2⟩ := ce3 (heap_alloc_new wr (.cells #[.int .i64 how, .slice ao L ca, .int .i64 raw] 30))
    have HGa := hidM (HG.out.alloc (.cells #[.int .i64 how, .slice ao L ca, .int .i64 raw] 30))
    go_wp2_with (go_at_call 11; refine Hid.out ?_)
    unfold Hid
    refine Calls.mono (HUR.out _ HGa.out) ?_
    rintro e V ⟨vo, vc, n, rfl, hb⟩
    have q0 := hb.gr.cell' p0 id
    have q1 := hb.gr.cell' p1 id
    have q2 := hb.gr.cell' p2 id
    have HB := hidM hb
    have hn := hb.len
    have HGv := hidM (HGa.out.trans hb.gr (fun _ _ h => h))
    clear p0 p1 p2 hb
    go_wp2_with (go_at_call 12; refine Hid.out ?_)
    unfold Hid
    refine Calls.mono (HUP.out _ HGv.out) ?_
    rintro e V2 ⟨vo2, vc2, n2, rfl, hb2⟩
    have hn2 := hb2.len
    obtain rfl : n2 = n := by omega
    have hs1 : (convert 25 9 (.slice vo n2 vc)).run Try.prog V2 = .ok (.string ⟨l2.toArray⟩) V2 := by rw [← hn]; exact bytes_string (HB.out.bytes.gr hb2.gr)
    have hs2 : (convert 25 9 (.slice vo2 n2 vc2)).run Try.prog V2 = .ok (.string ⟨l2.toArray⟩) V2 := by rw [← hn]; exact bytes_string hb2.bytes
    have HG2 := hidM (HGv.out.trans hb2.gr (fun _ _ h => h))
    obtain ⟨S, hS⟩ : ∃ S : ByteArray, S = ⟨l2.toArray⟩ := ⟨_, rfl⟩
    rw [← hS] at hs1 hs2
    clear hS hb2 hn hn2 q0 q1 q2 t0 t1 t2
    go_wp2_with fail
    go_roundw
    case rel => exact ⟨i + 1, by omega, by simp, HG2.out⟩
    case measure => simp [intOf]; omega

set_option maxRecDepth 100000 in
set_option maxHeartbeats 4000000 in
theorem sizes_any {lo : Option Addr} {lc : Nat} {l : List OpD} {w : World} (h : OpsAt w lo l) :
    Calls Try.prog 6 #[.slice lo l.length lc] w fun e w' => e = .returned (.bool true) ∧ Gr w w' := by
  have hlb := h.1
  have HO := hidM h.2
  have HAw := hidM (awake_any w)
  obtain ⟨N, hN⟩ : ∃ N, N = l.length := ⟨_, rfl⟩
  rw [← hN] at hlb ⊢
  have HN := hidM hN
  clear h hN
  go_enter Try.func6, Try.ntmps6
  go_wp2_with (go_at_call 9; refine Hid.out ?_)
  unfold Hid
  refine Calls.mono HAw.out ?_
  rintro e W1 ⟨rfl, hg1⟩
  have HG1 := hidM hg1
  clear hg1
  go_wp2_with fail
  go_loopw [13] (fun p wr => ∃ i : Nat, i ≤ N ∧ p = .int .i64 (i : Int) ∧ Hid (Gr w wr)) (fun p _ => N - (intOf p).toNat)
  case atStart => exact ⟨0, by omega, rfl, HG1.out⟩
  case round =>
    obtain ⟨i, hi, rfl, HG⟩ := hrel
    by_cases c : i < N
    rotate_left
    · have cI : ¬ (i : Int) < (N : Int) := by omega
      go_wp2_with fail
      go_ret
      exact ⟨rfl, HG.out⟩
    have cI : (i : Int) < (N : Int) := by omega
    have hi0 : (0 : Int) ≤ (i : Int) := by omega
    have cl : i < l.length := by rw [← HN.out]; exact c
    obtain ⟨b, o, hlo, hcs⟩ := HO.out (ne_nil cl)
    subst hlo
    obtain ⟨k0, k1, k2, kin⟩ := hcs i cl
    have t0 := HG.out.cell' k0 id
    have t1 := HG.out.cell' k1 id
    have t2 := HG.out.cell' k2 id
    obtain ⟨x, hx⟩ : ∃ x, x = l[i] := ⟨_, rfl⟩
    rw [← hx] at t0 t1 t2 kin
    have HK := hidM kin
    obtain ⟨how, ao, bs, ca, raw⟩ := x
    obtain ⟨L, hL⟩ : ∃ L, L = bs.length := ⟨_, rfl⟩
    have HL := hidM hL
    simp only at t0 t1 t2
    rw [← hL] at t1
    clear hcs k0 k1 k2 kin hx hL cl
    have HUR : Hid (∀ V, Gr w V → Calls Try.prog 13 #[.int .i64 how, .slice ao L ca] V fun e w' => e = .returned (.tuple #[.int .i64 (sizeE how bs).1, .int .i64 (sizeE how bs).2]) ∧ Gr V w') := fun V g => by
      rw [HL.out]; exact sizeR_any how (HK.out.at_.gr g) HK.out.cap HK.out.len
    have HUP : Hid (∀ V, Gr w V → Calls Try.prog 14 #[.int .i64 how, .slice ao L ca] V fun e w' => e = .returned (.tuple #[.int .i64 (sizeE how bs).1, .int .i64 (sizeE how bs).2]) ∧ Gr V w') := fun V g => by
      rw [HL.out]; exact size_any how (HK.out.at_.gr g) HK.out.cap HK.out.len
    have hzz := size_zero (how := how) (bs := bs)
    obtain ⟨a1, ha1⟩ : ∃ f, f = (sizeE how bs).1 := ⟨_, rfl⟩
    obtain ⟨f1, hf1⟩ : ∃ f, f = (sizeE how bs).2 := ⟨_, rfl⟩
    rw [← hf1, ← ha1] at HUR HUP hzz
    have HZz := hidM hzz
    clear hf1 ha1 hzz
    obtain ⟨p0, p1, p2⟩ := ce3 (heap_alloc_new wr (.cells #[.int .i64 how, .slice ao L ca, .int .i64 raw] 30))
    have HGa := hidM (HG.out.alloc (.cells #[.int .i64 how, .slice ao L ca, .int .i64 raw] 30))
    go_wp2_with (go_at_call 13; refine Hid.out ?_)
    unfold Hid
    refine Calls.mono (HUR.out _ HGa.out) ?_
    rintro e V ⟨rfl, hb⟩
    have q0 := hb.cell' p0 id
    have q1 := hb.cell' p1 id
    have q2 := hb.cell' p2 id
    have HGv := hidM (HGa.out.trans hb (fun _ _ h => h))
    clear p0 p1 p2 hb
    go_wp2_with (go_at_call 14; refine Hid.out ?_)
    unfold Hid
    refine Calls.mono (HUP.out _ HGv.out) ?_
    rintro e V2 ⟨rfl, hb2⟩
    have HG2 := hidM (HGv.out.trans hb2 (fun _ _ h => h))
    clear hb2 q0 q1 q2 t0 t1 t2
    by_cases d : f1 = 0
    · have d1 : (f1 == 0) = true := by simp [d]
      have d2 : (f1 != 0) = false := by simp [d]
      clear d
      go_wp2_with fail
      go_roundw
      case rel => exact ⟨i + 1, by omega, by simp, HG2.out⟩
      case measure => simp [intOf]; omega
    · have d1 : (f1 == 0) = false := beqF d
      have d2 : (f1 != 0) = true := by simpa using d
      have d3 : a1 = 0 := HZz.out d
      subst d3
      clear d
      go_wp2_with fail
      go_roundw
      case rel => exact ⟨i + 1, by omega, by simp, HG2.out⟩
      case measure => simp [intOf]; omega

end Go.Proofs.Ytknjnclopiklaaa.Kit
