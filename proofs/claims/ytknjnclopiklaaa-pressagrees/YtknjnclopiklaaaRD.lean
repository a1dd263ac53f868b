import Derived.Test.YtknjnclopiklaaaRB
namespace Go.Proofs.Ytknjnclopiklaaa.Kit
open Go.RowKit Go.Shelf Go.Deep
set_option linter.unusedVariables false
attribute [local go_sem] run_store_func

/-! ### Size and Unpack agree -/
theorem unp_grow (how : Int) (m : Nat) : ∀ (f : Nat) (out b r : List UInt8), unp how m f out b = (0, r) → out.length ≤ r.length
  | 0, out, b, r, h => by simp [unp] at h; rw [h]; omega
  | f + 1, out, b, r, h => by
    unfold unp at h
    split at h
    · simp at h; rw [h]; omega
    split at h
    · simp at h
    split at h
    · simp at h
    split at h
    · simp at h
    · have := unp_grow how m f _ _ _ h
      rw [layI_len] at this
      omega
theorem unp_mono (how : Int) {m m' : Nat} : ∀ (f : Nat) (out b r : List UInt8), unp how m f out b = (0, r) → r.length ≤ m' → unp how m' f out b = (0, r)
  | 0, out, b, r, h, _ => h
  | f + 1, out, b, r, h, hr => by
    unfold unp at h ⊢
    by_cases c0 : b = []
    · rw [if_pos c0] at h ⊢; exact h
    rw [if_neg c0] at h ⊢
    by_cases c1 : b.length < (firstI how b).size
    · rw [if_pos c1] at h; simp at h
    rw [if_neg c1] at h ⊢
    by_cases c2 : out.length + (firstI how b).bytes.length < (firstI how b).back
    · rw [if_pos c2] at h; simp at h
    rw [if_neg c2] at h ⊢
    by_cases c3 : m < out.length + (firstI how b).bytes.length + (firstI how b).again
    · rw [if_pos c3] at h; simp at h
    rw [if_neg c3] at h
    have hg := unp_grow how m f _ _ _ h
    rw [layI_len] at hg
    rw [if_neg (by omega)]
    exact unp_mono how f _ _ _ h hr
theorem size_ok {how : Int} {bs : List UInt8} {n : Int} (h : sizeE how bs = (n, 0)) : howB how = true ∧ ∃ out : List UInt8, n = (out.length : Int) ∧ out.length ≤ 65536 ∧ unp how 65536 bs.length [] bs = (0, out) := by
  unfold sizeE at h
  split at h
  · simp at h
  rename_i hh
  split at h
  · simp at h
  rename_i h61
  simp only [Prod.mk.injEq] at h
  refine ⟨by simpa using hh, (unp how 65536 bs.length [] bs).2, h.1.symm, ?_, by rw [← h.2]⟩
  have := unp_len how 65536 bs.length [] bs
  simp at this
  exact this
theorem unpack_at_size {how : Int} {bs out : List UInt8} (hh : howB how = true) (hl : out.length ≤ 65536) (h : unp how 65536 bs.length [] bs = (0, out)) : unpackE how bs (out.length : Int) = (0, out) := by
  have h2 := unp_mono how (m' := out.length) bs.length [] bs out h (Nat.le_refl _)
  unfold unpackE
  rw [if_neg (by rw [hh]; simp), if_neg (by omega), Int.toNat_natCast, h2]
  simp
theorem unpack_ok {how raw : Int} {bs l : List UInt8} (h : unpackE how bs raw = (0, l)) : sizeE how bs = (raw, 0) := by
  unfold unpackE at h
  split at h
  · simp at h
  rename_i c0
  split at h
  · simp at h
  rename_i c1
  split at h
  · rename_i c2
    simp only [Prod.mk.injEq] at h
    exact absurd h.1 c2
  rename_i c2
  split at h
  · simp at h
  rename_i c3
  simp only [Prod.mk.injEq] at h
  have hh : howB how = true := by
    cases e : howB how with
    | true => rfl
    | false => exact absurd (.inl e) c0
  have hr0 : ¬ raw < 0 := fun e => c0 (.inr e)
  have h0 : (unp how raw.toNat bs.length [] bs).1 = 0 := by simpa using c2
  have hu : unp how raw.toNat bs.length [] bs = (0, l) := by rw [← h0, ← h.2]
  have hlen := unp_len how raw.toNat bs.length [] bs
  rw [hu] at hlen c3
  simp at hlen c3
  have h2 := unp_mono how (m' := 65536) bs.length [] bs l hu (by omega)
  unfold sizeE
  rw [hh, if_neg (by decide), h2]
  simp
  omega
theorem unpack_err {how raw : Int} {bs : List UInt8} (h : (unpackE how bs raw).1 ≠ 0) : (unpackE how bs raw).2 = [] := by
  unfold unpackE at h ⊢
  split
  · rfl
  split
  · rfl
  split
  · rfl
  split
  · rfl
  · rename_i c0 c1 c2 c3
    rw [if_neg c0, if_neg c1, if_neg c2, if_neg c3] at h
    exact absurd rfl h
set_option maxRecDepth 100000 in
set_option maxHeartbeats 4000000 in
theorem agrees_any {ao : Option Addr} {ca : Nat} {bs : List UInt8} {w : World} (how raw : Int) (h : BytesAt w ao bs) (hca : bs.length ≤ ca) (hl : bs.length ≤ 140737488355328) :
    Calls Try.prog 8 #[.agg #[.int .i64 how, .slice ao bs.length ca, .int .i64 raw]] w fun e w' => e = .returned (.bool true) ∧ Gr w w' := by
  obtain ⟨L, hL⟩ : ∃ L, L = bs.length := ⟨_, rfl⟩
  have HL := hidM hL
  have hbx := heap_alloc_new w (.cells #[.int .i64 how, .slice ao bs.length ca, .int .i64 raw] 30)
  have HA := hidM h
  have HCa := hidM hca
  have HAw := hidM (awake_any (w.alloc (.cells #[.int .i64 how, .slice ao bs.length ca, .int .i64 raw] 30)))
  have HSz : Hid (∀ V, Gr w V → Calls Try.prog 14 #[.int .i64 how, .slice ao L ca] V fun e w' => e = .returned (.tuple #[.int .i64 (sizeE how bs).1, .int .i64 (sizeE how bs).2]) ∧ Gr V w') := fun V g => by
    rw [hL]; exact size_any how (HA.out.gr g) HCa.out hl
  have HUn : Hid (∀ V r, Gr w V → Calls Try.prog 12 #[.int .i64 how, .slice ao L ca, .int .i64 r] V fun e w' => ∃ vo vc n, e = .returned (.tuple #[.slice vo n vc, .int .i64 (unpackE how bs r).1]) ∧ Byts V w' vo vc n (unpackE how bs r).2) := fun V r g => by
    rw [hL]; exact unpack_any how r (HA.out.gr g) HCa.out hl
  rw [← hL] at hbx HAw ⊢
  obtain ⟨p0, p1, p2⟩ := ce3 hbx
  obtain ⟨n1, hn1⟩ : ∃ n, n = (sizeE how bs).1 := ⟨_, rfl⟩
  obtain ⟨e1, he1⟩ : ∃ n, n = (sizeE how bs).2 := ⟨_, rfl⟩
  obtain ⟨f1, hf1⟩ : ∃ n, n = (unpackE how bs raw).1 := ⟨_, rfl⟩
  have HSe : Hid (sizeE how bs = (n1, e1)) := by show _ = _; rw [hn1, he1]
  rw [← hn1, ← he1] at HSz
  have HUr := hidM (fun V g => HUn.out V raw g)
  rw [← hf1] at HUr
  have HF := hidM hf1
  clear h hca hL hbx hn1 he1 hf1
  go_enter Try.func8, Try.ntmps8
  go_wp2_with (go_at_call 9; refine Hid.out ?_)
  unfold Hid
  refine Calls.mono HAw.out ?_
  rintro e W1 ⟨rfl, hg1⟩
  have q0 := hg1.cell' p0 id
  have q1 := hg1.cell' p1 id
  have q2 := hg1.cell' p2 id
  have HG1 := hidM ((gr_alloc w _).trans hg1 (fun _ _ h => h))
  clear hg1 p0 p1 p2
  go_wp2_with (go_at_call 14; refine Hid.out ?_)
  unfold Hid
  refine Calls.mono (HSz.out W1 HG1.out) ?_
  rintro e W2 ⟨rfl, hg2⟩
  have r0 := hg2.cell' q0 id
  have r1 := hg2.cell' q1 id
  have r2 := hg2.cell' q2 id
  have HG2 := hidM (HG1.out.trans hg2 (fun _ _ h => h))
  clear hg2 q0 q1 q2
  go_wp2_with (go_at_call 12; refine Hid.out ?_)
  unfold Hid
  refine Calls.mono (HUr.out W2 HG2.out) ?_
  rintro e W3 ⟨vo, vc, n, rfl, hb⟩
  have s0 := hb.gr.cell' r0 id
  have s1 := hb.gr.cell' r1 id
  have s2 := hb.gr.cell' r2 id
  have HG3 := hidM (HG2.out.trans hb.gr (fun _ _ h => h))
  have hbl := hb.len
  have HB := hidM hb
  clear r0 r1 r2 hb
  by_cases c : e1 = 0 ∧ raw = n1
  · obtain ⟨c1, c2⟩ := c
    subst c1 c2
    obtain ⟨hh, out, hno, hol, hu⟩ := size_ok HSe.out
    have hun := unpack_at_size hh hol hu
    rw [← hno] at hun
    have hf0 : f1 = 0 := by rw [HF.out, hun]
    have HBo := HB.out
    rw [hun] at HBo hbl
    have hnn : n = out.length := hbl.symm
    subst hf0 hnn
    obtain ⟨pe1, pe2⟩ := packE_ok (bs := out) hh hol
    have HPk := hidM (pack_any (ca := vc) how HBo.bytes HBo.cap (by omega))
    rw [pe1, pe2] at HPk
    have HUb := hidM (unpack_back (bs := out) hh hol)
    have HOut := hidM HBo.bytes
    have HNo := hidM hno
    obtain ⟨k, hk⟩ : ∃ k, k = out.length := ⟨_, rfl⟩
    have hraw : raw = (k : Int) := by rw [hk]; exact hno
    rw [← hk] at hol HPk HUb ⊢
    have hpl := packH_len (bs := out) hh
    rw [← hk] at hpl
    have HK := hidM hk
    obtain ⟨p, hp⟩ : ∃ p, p = packH how out := ⟨_, rfl⟩
    rw [← hp] at HPk HUb hpl
    subst hraw
    clear hun hno hu hk hp pe1 pe2 HBo hbl hh HB HUr HF HSe HNo
    go_wp2_with (go_at_call 15; refine Hid.out ?_)
    unfold Hid
    refine Calls.mono HPk.out ?_
    rintro e W4 ⟨vo4, vc4, n4, rfl, hb4⟩
    have t0 := hb4.gr.cell' s0 id
    have HB4 := hidM hb4
    have hn4 := hb4.len
    subst hn4
    have HU4 := hidM (unpack_any (w := W4) (ca := vc4) how (k : Int) hb4.bytes hb4.cap (by omega))
    rw [HUb.out] at HU4
    clear hb4 s0 s1 s2
    go_wp2_with (go_at_call 12; refine Hid.out ?_)
    unfold Hid
    refine Calls.mono HU4.out ?_
    rintro e W5 ⟨vo5, vc5, n5, rfl, hb5⟩
    have hn5 : n5 = k := by rw [← hb5.len]; exact HK.out.symm
    subst hn5
    have hs1 : (convert 25 9 (.slice vo n5 vc)).run Try.prog W5 = .ok (.string ⟨out.toArray⟩) W5 := by rw [HK.out]; exact bytes_string (HOut.out.gr (HB4.out.gr.trans hb5.gr (fun _ _ h => h)))
    have hs2 : (convert 25 9 (.slice vo5 n5 vc5)).run Try.prog W5 = .ok (.string ⟨out.toArray⟩) W5 := by rw [HK.out]; exact bytes_string hb5.bytes
    obtain ⟨S, hS⟩ : ∃ S : ByteArray, S = ⟨out.toArray⟩ := ⟨_, rfl⟩
    rw [← hS] at hs1 hs2
    have HGe := hidM (HG3.out.trans (HB4.out.gr.trans hb5.gr (fun _ _ h => h)) (fun _ _ h => h))
    clear hS hb5 HU4 t0
    go_wp2_with fail
    go_ret
    exact ⟨rfl, HGe.out⟩
  · have hfn : f1 ≠ 0 := fun e => by
      have e2 : unpackE how bs raw = (0, (unpackE how bs raw).2) := by rw [← e, HF.out]
      have := unpack_ok e2
      rw [HSe.out] at this
      simp only [Prod.mk.injEq] at this
      exact c ⟨this.2, this.1.symm⟩
    have hn0 : n = 0 := by
      rw [← hbl, unpack_err (by rw [← HF.out]; exact hfn)]
      rfl
    subst hn0
    have hfb : (f1 == 0) = false := beqF hfn
    by_cases c1 : e1 = 0
    · have c2 : raw ≠ n1 := fun e => c ⟨c1, e⟩
      have c2b : (raw == n1) = false := beqF c2
      subst c1
      obtain ⟨hh, out, hno, hol, hu⟩ := size_ok HSe.out
      have hun := unpack_at_size hh hol hu
      rw [← hno] at hun
      have HU := hidM (HUn.out W3 n1 HG3.out)
      rw [hun] at HU
      have HNo := hidM hno
      clear hfn c c2 hun hno hu hh hbl HB
      go_wp2_with (go_at_call 12; refine Hid.out ?_)
      unfold Hid
      refine Calls.mono HU.out ?_
      rintro e W5 ⟨vo5, vc5, n5, rfl, hb5⟩
      have hn5 : (n5 : Int) = n1 := by rw [← hb5.len]; exact HNo.out.symm
      have HGe := hidM (HG3.out.trans hb5.gr (fun _ _ h => h))
      clear hb5 s0 s1 s2
      go_wp2_with fail
      go_ret
      exact ⟨rfl, HGe.out⟩
    · have c1b : (e1 == 0) = false := beqF c1
      clear hfn c hbl c1
      go_wp2_with fail
      go_ret
      exact ⟨rfl, HG3.out⟩

end Go.Proofs.Ytknjnclopiklaaa.Kit
