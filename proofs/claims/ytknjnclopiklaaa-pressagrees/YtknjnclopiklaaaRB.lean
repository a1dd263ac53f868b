import Derived.Test.YtknjnclopiklaaaRA
namespace Go.Proofs.Ytknjnclopiklaaa.Kit
open Go.RowKit Go.Shelf Go.Deep
set_option linter.unusedVariables false
attribute [local go_sem] run_store_func

/-! ### the law of there and back -/
theorem Byts.cap {w W : World} {vo : Option Addr} {vc n : Nat} {bs : List UInt8} (h : Byts w W vo vc n bs) : bs.length ≤ vc := by
  have hl := h.len
  rcases h.own.2 with ⟨e, h0⟩ | ⟨g, cap, cur, e, h1, h2, h3, h4, h5, h6⟩
  · cases e; omega
  · cases e; omega
theorem packE_ok {how : Int} {bs : List UInt8} (hh : howB how = true) (hl : bs.length ≤ 65536) : packE how bs = 0 ∧ packR how bs = packH how bs := by
  have : packE how bs = 0 := by unfold packE; rw [hh, if_neg (by decide), if_neg (by omega)]
  exact ⟨this, by unfold packR; rw [this]; rfl⟩
theorem unpack_back {how : Int} {bs : List UInt8} (hh : howB how = true) (hl : bs.length ≤ 65536) : unpackE how (packH how bs) (bs.length : Int) = (0, bs) := by
  have h := pack_back (m := bs.length) hh hl (Nat.le_refl _)
  unfold unpF at h
  unfold unpackE
  rw [if_neg (by rw [hh]; simp), if_neg (by omega), Int.toNat_natCast, h]
  simp
theorem size_back {how : Int} {bs : List UInt8} (hh : howB how = true) (hl : bs.length ≤ 65536) : sizeE how (packH how bs) = ((bs.length : Int), 0) := by
  have h := pack_back (m := 65536) hh hl hl
  unfold unpF at h
  unfold sizeE
  rw [hh, if_neg (by decide), h]
  simp
set_option maxRecDepth 100000 in
set_option maxHeartbeats 4000000 in
theorem returns_any {ao : Option Addr} {ca : Nat} {bs : List UInt8} {w : World} (how : Int) (h : BytesAt w ao bs) (hca : bs.length ≤ ca) (hl : bs.length ≤ 140737488355328) :
    Calls Try.prog 7 #[.slice ao bs.length ca, .int .i64 how] w fun e w' => e = .returned (.bool true) ∧ Gr w w' := by
  have HA := hidM h
  have HAw := hidM (awake_any w)
  obtain ⟨L, hL⟩ : ∃ L, L = bs.length := ⟨_, rfl⟩
  have HL := hidM hL
  have HCa := hidM hca
  have HPk : Hid (∀ V, Gr w V → Calls Try.prog 15 #[.int .i64 how, .slice ao L ca] V fun e w' => ∃ vo vc n, e = .returned (.tuple #[.slice vo n vc, .int .i64 (packE how bs)]) ∧ Byts V w' vo vc n (packR how bs)) := fun V g => by
    rw [hL]; exact pack_any how (HA.out.gr g) HCa.out hl
  rw [← hL] at hl ⊢
  clear h hca hL
  by_cases c : 65536 < L ∨ how < 0 ∨ 2 < how
  · have HE : Hid (packE how bs ≠ 0) := by
      show _ ≠ _
      unfold packE
      by_cases hh : howB how = false
      · rw [if_pos hh]; decide
      · rw [if_neg hh, if_pos (by
          have := HL.out
          unfold howB at hh
          simp at hh
          omega)]
        decide
    obtain ⟨q, hq⟩ : ∃ q, q = packE how bs := ⟨_, rfl⟩
    rw [← hq] at HPk HE
    have hqb : (q != 0) = true := by simpa using HE.out
    clear hq
    by_cases c1 : 65536 < L
    · have c1I : (65536 : Int) < (L : Int) := by omega
      clear c
      go_enter Try.func7, Try.ntmps7
      go_wp2_with (go_at_call 9; refine Hid.out ?_)
      unfold Hid
      refine Calls.mono HAw.out ?_
      rintro e W1 ⟨rfl, hg1⟩
      have HG1 := hidM hg1
      clear hg1
      go_wp2_with (go_at_call 15; refine Hid.out ?_)
      unfold Hid
      refine Calls.mono (HPk.out W1 HG1.out) ?_
      rintro e W2 ⟨vo, vc, n, rfl, hb⟩
      have HG2 := hidM (HG1.out.trans hb.gr (fun _ _ h => h))
      clear hb
      go_wp2_with fail
      go_ret
      exact ⟨rfl, HG2.out⟩
    have c1I : ¬ (65536 : Int) < (L : Int) := by omega
    by_cases c2 : how < 0
    · clear c
      go_enter Try.func7, Try.ntmps7
      go_wp2_with (go_at_call 9; refine Hid.out ?_)
      unfold Hid
      refine Calls.mono HAw.out ?_
      rintro e W1 ⟨rfl, hg1⟩
      have HG1 := hidM hg1
      clear hg1
      go_wp2_with (go_at_call 15; refine Hid.out ?_)
      unfold Hid
      refine Calls.mono (HPk.out W1 HG1.out) ?_
      rintro e W2 ⟨vo, vc, n, rfl, hb⟩
      have HG2 := hidM (HG1.out.trans hb.gr (fun _ _ h => h))
      clear hb
      go_wp2_with fail
      go_ret
      exact ⟨rfl, HG2.out⟩
    have c3 : 2 < how := by omega
    clear c
    · go_enter Try.func7, Try.ntmps7
      go_wp2_with (go_at_call 9; refine Hid.out ?_)
      unfold Hid
      refine Calls.mono HAw.out ?_
      rintro e W1 ⟨rfl, hg1⟩
      have HG1 := hidM hg1
      clear hg1
      go_wp2_with (go_at_call 15; refine Hid.out ?_)
      unfold Hid
      refine Calls.mono (HPk.out W1 HG1.out) ?_
      rintro e W2 ⟨vo, vc, n, rfl, hb⟩
      have HG2 := hidM (HG1.out.trans hb.gr (fun _ _ h => h))
      clear hb
      go_wp2_with fail
      go_ret
      exact ⟨rfl, HG2.out⟩
  have hh : howB how = true := by unfold howB; simp; omega
  have c1I : ¬ (65536 : Int) < (L : Int) := by omega
  have c2 : ¬ how < 0 := by omega
  have c3 : ¬ 2 < how := by omega
  obtain ⟨e1, e2⟩ := packE_ok (bs := bs) hh (by rw [← HL.out]; omega)
  rw [e1, e2] at HPk
  have HUb := hidM (unpack_back (bs := bs) hh (by rw [← HL.out]; omega))
  have HSb := hidM (size_back (bs := bs) hh (by rw [← HL.out]; omega))
  have hpl := packH_len (bs := bs) hh
  obtain ⟨p, hp⟩ : ∃ p, p = packH how bs := ⟨_, rfl⟩
  rw [← hp] at HPk HUb HSb hpl
  rw [← HL.out] at HUb HSb hpl
  clear e1 e2 hp hh c
  obtain ⟨q, hq⟩ : ∃ q, q = (L + 127) / 128 := ⟨_, rfl⟩
  rw [← hq] at hpl
  have hqI : ((L : Int) + 127).tdiv 128 = (q : Int) := by rw [Int.tdiv_eq_ediv_of_nonneg (by omega)]; omega
  have hqb : q ≤ 1000 := by omega
  clear hq
  go_enter Try.func7, Try.ntmps7
  go_wp2_with (go_at_call 9; refine Hid.out ?_)
  unfold Hid
  refine Calls.mono HAw.out ?_
  rintro e W1 ⟨rfl, hg1⟩
  have HG1 := hidM hg1
  clear hg1
  go_wp2_with (go_at_call 15; refine Hid.out ?_)
  unfold Hid
  refine Calls.mono (HPk.out W1 HG1.out) ?_
  rintro e W2 ⟨vo, vc, n, rfl, hb⟩
  have hn := hb.len
  subst hn
  have HB := hidM hb
  have HG2 := hidM (HG1.out.trans hb.gr (fun _ _ h => h))
  have HU := hidM (unpack_any (w := W2) (ca := vc) how (L : Int) hb.bytes hb.cap (by omega))
  rw [HUb.out] at HU
  clear hb
  go_wp2_with (go_at_call 12; refine Hid.out ?_)
  unfold Hid
  refine Calls.mono HU.out ?_
  rintro e W3 ⟨vo3, vc3, n3, rfl, hb3⟩
  have HB3 := hidM hb3.bytes
  have HG3 := hidM hb3.gr
  have hn3 : n3 = L := by rw [← hb3.len]; exact HL.out.symm
  subst hn3
  have HS := hidM (size_any (w := W3) (ca := vc) how (HB.out.bytes.gr hb3.gr) HB.out.cap (by omega))
  rw [HSb.out] at HS
  clear hb3 HU
  go_wp2_with (go_at_call 14; refine Hid.out ?_)
  unfold Hid
  refine Calls.mono HS.out ?_
  rintro e W4 ⟨rfl, hg4⟩
  have hs1 : (convert 25 9 (.slice vo3 n3 vc3)).run Try.prog W4 = .ok (.string ⟨bs.toArray⟩) W4 := by rw [HL.out]; exact bytes_string (HB3.out.gr hg4)
  have HGw := hidM (HG2.out.trans (HG3.out.trans hg4 (fun _ _ h => h)) (fun _ _ h => h))
  have hs2 : (convert 25 9 (.slice ao n3 ca)).run Try.prog W4 = .ok (.string ⟨bs.toArray⟩) W4 := by rw [HL.out]; exact bytes_string (HA.out.gr HGw.out)
  obtain ⟨S, hS⟩ : ∃ S : ByteArray, S = ⟨bs.toArray⟩ := ⟨_, rfl⟩
  rw [← hS] at hs1 hs2
  clear hS hg4 HS
  have hle : (p.length : Int) ≤ (n3 : Int) + (q : Int) := by omega
  go_wp2_with fail
  go_ret
  exact ⟨rfl, HGw.out⟩

end Go.Proofs.Ytknjnclopiklaaa.Kit
