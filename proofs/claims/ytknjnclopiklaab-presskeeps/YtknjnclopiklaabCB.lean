import Derived.Test.YtknjnclopiklaabCA
namespace Go.Proofs.Ytknjnclopiklaab.Kit
open Go.RowKit Go.Shelf Go.Deep
set_option linter.unusedVariables false
attribute [local go_sem] run_store_func

theorem BytesAt.take {W : World} {ao : Option Addr} {bs : List UInt8} (h : BytesAt W ao bs) (k : Nat) : BytesAt W ao (bs.take k) := fun hn => by
  obtain ⟨b, o, e, hc⟩ := h (by intro e; rw [e] at hn; simp at hn)
  refine ⟨b, o, e, fun i hi => ?_⟩
  have hi' : i < bs.length := by simp at hi; omega
  rw [List.getElem_take]
  exact hc i hi'
set_option maxRecDepth 100000 in
set_option maxHeartbeats 4000000 in
theorem cuts_any {ao : Option Addr} {ca : Nat} {bs : List UInt8} {w : World} (how cut : Int) (h : BytesAt w ao bs) (hca : bs.length ≤ ca) (hl : bs.length ≤ 140737488355328) :
    Calls Try.prog 3 #[.slice ao bs.length ca, .int .i64 how, .int .i64 cut] w fun e w' => e = .returned (.bool true) ∧ Gr w w' := by
  have HA := hidM h
  have HAw := hidM (awake_any w)
  obtain ⟨L, hL⟩ : ∃ L, L = bs.length := ⟨_, rfl⟩
  have HL := hidM hL
  have HCa := hidM hca
  have HPk : Hid (∀ V, Gr w V → Calls Try.prog 6 #[.int .i64 how, .slice ao L ca] V fun e w' => ∃ vo vc n, e = .returned (.tuple #[.slice vo n vc, .int .i64 (packE how bs)]) ∧ Byts V w' vo vc n (packR how bs)) := fun V g => by
    rw [hL]; exact pack_any how (HA.out.gr g) HCa.out hl
  rw [← hL] at hl ⊢
  clear h hca hL
  by_cases c1 : 65536 < L
  · have c1I : (65536 : Int) < (L : Int) := by omega
    go_enter Try.func3, Try.ntmps3
    go_wp2_with (go_at_call 5; refine Hid.out ?_)
    unfold Hid
    refine Calls.mono HAw.out ?_
    rintro e W1 ⟨rfl, hg1⟩
    have HG1 := hidM hg1
    clear hg1
    go_wp2_with fail
    go_ret
    exact ⟨rfl, HG1.out⟩
  have c1I : ¬ (65536 : Int) < (L : Int) := by omega
  by_cases c2 : how < 1
  · have c2' := c2
    go_enter Try.func3, Try.ntmps3
    go_wp2_with (go_at_call 5; refine Hid.out ?_)
    unfold Hid
    refine Calls.mono HAw.out ?_
    rintro e W1 ⟨rfl, hg1⟩
    have HG1 := hidM hg1
    clear hg1
    go_wp2_with fail
    go_ret
    exact ⟨rfl, HG1.out⟩
  by_cases c3 : 2 < how
  · have c3' := c3
    go_enter Try.func3, Try.ntmps3
    go_wp2_with (go_at_call 5; refine Hid.out ?_)
    unfold Hid
    refine Calls.mono HAw.out ?_
    rintro e W1 ⟨rfl, hg1⟩
    have HG1 := hidM hg1
    clear hg1
    go_wp2_with fail
    go_ret
    exact ⟨rfl, HG1.out⟩
  have hh : howB how = true := by unfold howB; simp; omega
  obtain ⟨e1, e2⟩ := packE_ok (bs := bs) hh (by rw [← HL.out]; omega)
  rw [e1, e2] at HPk
  have HCu : Hid (∀ c, c < (packH how bs).length → (unpackE how ((packH how bs).take c) (bs.length : Int)).1 ≠ 0 ∧ (unpackE how ((packH how bs).take c) (bs.length : Int)).2 = []) := fun c hc => cut_lacks (by omega) (by rw [← HL.out]; omega) hc
  have hpl := packH_len (bs := bs) hh
  obtain ⟨p, hp⟩ : ∃ p, p = packH how bs := ⟨_, rfl⟩
  rw [← hp] at HPk HCu hpl
  rw [← HL.out] at HCu hpl
  have hpb : p.length ≤ 140737488355328 := by omega
  clear e1 e2 hp hh hpl
  by_cases c4 : cut < 0
  · have c4' := c4
    go_enter Try.func3, Try.ntmps3
    go_wp2_with (go_at_call 5; refine Hid.out ?_)
    unfold Hid
    refine Calls.mono HAw.out ?_
    rintro e W1 ⟨rfl, hg1⟩
    have HG1 := hidM hg1
    clear hg1
    go_wp2_with (go_at_call 6; refine Hid.out ?_)
    unfold Hid
    refine Calls.mono (HPk.out W1 HG1.out) ?_
    rintro e W2 ⟨vo, vc, n, rfl, hb⟩
    have hn := hb.len
    subst hn
    have HB := hidM hb
    have HG2 := hidM (HG1.out.trans hb.gr (fun _ _ h => h))
    clear hb
    go_wp2_with fail
    go_ret
    exact ⟨rfl, HG2.out⟩
  obtain ⟨k, rfl⟩ : ∃ k : Nat, cut = (k : Int) := ⟨cut.toNat, by omega⟩
  have c4I : ¬ (k : Int) < 0 := by omega
  clear c4
  by_cases c5 : p.length ≤ k
  · have c5I : (p.length : Int) ≤ (k : Int) := by omega
    go_enter Try.func3, Try.ntmps3
    go_wp2_with (go_at_call 5; refine Hid.out ?_)
    unfold Hid
    refine Calls.mono HAw.out ?_
    rintro e W1 ⟨rfl, hg1⟩
    have HG1 := hidM hg1
    clear hg1
    go_wp2_with (go_at_call 6; refine Hid.out ?_)
    unfold Hid
    refine Calls.mono (HPk.out W1 HG1.out) ?_
    rintro e W2 ⟨vo, vc, n, rfl, hb⟩
    have hn := hb.len
    subst hn
    have HB := hidM hb
    have HG2 := hidM (HG1.out.trans hb.gr (fun _ _ h => h))
    clear hb
    go_wp2_with fail
    go_ret
    exact ⟨rfl, HG2.out⟩
  · have c5I : ¬ (p.length : Int) ≤ (k : Int) := by omega
    go_enter Try.func3, Try.ntmps3
    go_wp2_with (go_at_call 5; refine Hid.out ?_)
    unfold Hid
    refine Calls.mono HAw.out ?_
    rintro e W1 ⟨rfl, hg1⟩
    have HG1 := hidM hg1
    clear hg1
    go_wp2_with (go_at_call 6; refine Hid.out ?_)
    unfold Hid
    refine Calls.mono (HPk.out W1 HG1.out) ?_
    rintro e W2 ⟨vo, vc, n, rfl, hb⟩
    have hn := hb.len
    subst hn
    have HB := hidM hb
    have HG2 := hidM (HG1.out.trans hb.gr (fun _ _ h => h))
    have hne : p ≠ [] := by intro e; rw [e] at c5; simp at c5
    obtain ⟨bb, ob, hvo, -⟩ := hb.bytes hne
    subst hvo
    have hlt : (p.take k).length = k := by simp; omega
    have hvc := hb.cap
    have HU := hidM (unpack_any (w := W2) (ca := vc) how (L : Int) (hb.bytes.take k) (by rw [hlt]; omega) (by rw [hlt]; omega))
    rw [hlt] at HU
    obtain ⟨u1, u2⟩ := HCu.out k (by omega)
    rw [u2] at HU
    obtain ⟨q, hq⟩ : ∃ q, q = (unpackE how (p.take k) (L : Int)).1 := ⟨_, rfl⟩
    rw [← hq] at HU u1
    have hqb : (q != 0) = true := by simpa using u1
    have hk0 : (0 : Int) ≤ (k : Int) := by omega
    have hkc : (k : Int) ≤ (vc : Int) := by omega
    clear hb u1 u2 hq hlt hne
    go_wp2_with (go_at_call 7; refine Hid.out ?_)
    unfold Hid
    refine Calls.mono HU.out ?_
    rintro e W3 ⟨vo3, vc3, n3, rfl, hb3⟩
    have hn3 := hb3.len
    simp only [List.length_nil] at hn3
    subst hn3
    have HG3 := hidM (HG2.out.trans hb3.gr (fun _ _ h => h))
    clear hb3 HU
    go_wp2_with fail
    go_ret
    exact ⟨rfl, HG3.out⟩

end Go.Proofs.Ytknjnclopiklaab.Kit
