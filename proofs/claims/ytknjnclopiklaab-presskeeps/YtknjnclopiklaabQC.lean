import Derived.Test.YtknjnclopiklaabQB
namespace Go.Proofs.Ytknjnclopiklaab.Kit
open Go.RowKit Go.Shelf Go.Deep
set_option linter.unusedVariables false
attribute [local go_sem] run_store_func

/-! ### an item is laid -/
theorem layBack_succ (far : Nat) : ∀ (n : Nat) (out : List UInt8), layBack far (n + 1) out = layBack far n out ++ [(layBack far n out).getD ((layBack far n out).length - far) 0]
  | 0, out => rfl
  | n + 1, out => by
    rw [layBack, layBack_succ far n, layBack]
theorem src_all {V : World} {ao : Option Addr} {ca : Nat} {bs : List UInt8} (h : BytesAt V ao bs) : Src Try.prog 1 22 (.slice ao bs.length ca) bs.length (bv bs) V := by
  cases ao with
  | none =>
    have : bs = [] := by
      cases bs with
      | nil => rfl
      | cons x l => obtain ⟨b, o, e, -⟩ := h (by simp); cases e
    subst this
    exact Src.ofNil V Try.underlying22 ca
  | some a =>
    refine Src.ofSlice V Try.underlying22 a bs.length ca (bv bs) (by simp [bv]) (fun j x hx => ?_) (fun x hx => by obtain ⟨z, _, rfl⟩ := List.mem_map.1 hx; rfl)
    have hj : j < bs.length := by have := (List.getElem?_eq_some_iff.1 hx).1; simpa [bv] using this
    obtain ⟨b, o, e, hc⟩ := h.at (ne_nil hj)
    cases e
    have e2 : (⟨b, o, none⟩ : Addr).add j = ⟨b, o + j, none⟩ := by simp [Addr.add]
    rw [e2, hc j hj, ← hx]
    unfold bv
    rw [List.getElem?_map, List.getElem?_eq_getElem hj, List.getD_eq_getElem?_getD, List.getElem?_eq_getElem hj]
    rfl
set_option maxRecDepth 100000 in
set_option maxHeartbeats 4000000 in
theorem lay_any {w V : World} {bo vo : Option Addr} {bc vc m : Nat} {out l : List UInt8} {again back : Nat} (hb : Byts w V vo vc m out) (hl : BytesAt V bo l) (hm : m + l.length + again ≤ 1000000) (hbk : back ≤ m + l.length) (hag : 0 < again → 0 < back) :
    Calls Try.prog 17 #[.agg #[.slice bo l.length bc, .int .i64 (again : Int), .int .i64 (back : Int)], .slice vo m vc] V fun e w' => ∃ vo' vc', e = .returned (.slice vo' (m + l.length + again) vc') ∧ Ap w V w' vo vc m vo' vc' (m + l.length + again) (layBack back again (out ++ l)) := by
  obtain ⟨n, hn⟩ : ∃ n, n = l.length := ⟨_, rfl⟩
  have hbx := heap_alloc_new V (.cells #[.slice bo l.length bc, .int .i64 (again : Int), .int .i64 (back : Int)] 42)
  have hsrc := src_all (ca := bc) (hl.gr (gr_alloc V (.cells #[.slice bo l.length bc, .int .i64 (again : Int), .int .i64 (back : Int)] 42)))
  rw [← hn] at hm hbk hbx hsrc ⊢
  obtain ⟨p0, p1, p2⟩ := ce3 hbx
  have HB1 := hidM (hb.gr' (gr_alloc V (.cells #[.slice bo n bc, .int .i64 (again : Int), .int .i64 (back : Int)] 42)))
  have hne : ¬ (Value.slice vo m vc).ownBlock = some V.heap.size := fun e => by have := own_lt hb.own _ e; omega
  have HNe := hidM hne
  have HBx := hidM hbx
  have HSrc := hidM hsrc
  clear hbx hsrc hl hb hne hn
  go_enter Try.func17, Try.ntmps17
  go_wp2_with (at_builtin; refine Hid.out ?_)
  unfold Hid
  refine wpList_append_any _ rfl (.tmp 5) (.tmp 7) 22 22 rfl 5 (.int .u8 0) 1 Try.underlying22 info5 rfl _ m (bv out) rfl HB1.out.own _ n (bv l) rfl HSrc.out (by omega) (by omega) ?_
  intro v' w1 hown hgrow hblk
  obtain ⟨vo2, vc2, rfl⟩ := own_form1 hown
  have hap := HB1.out.app (us := l) rfl hown hgrow hblk
  obtain ⟨hbx1, hne1⟩ := hap.box HBx.out HNe.out
  obtain ⟨q0, q1, q2⟩ := ce3 hbx1
  have HAp := hidM hap
  clear hown hgrow hblk hap hbx1 hne1 p0 p1 p2
  go_wp2_with fail
  go_loopw [1, 11] (fun v p wr => ∃ (i : Nat) (vo' : Option Addr) (vc' : Nat), i ≤ again ∧ p = .int .i64 (i : Int) ∧ v = .slice vo' (m + n + i) vc' ∧ Hid (Ap w (V.alloc (.cells #[.slice bo n bc, .int .i64 (again : Int), .int .i64 (back : Int)] 42)) wr vo vc m vo' vc' (m + n + i) (layBack back i (out ++ l)))) (fun _ p _ => again - (intOf p).toNat)
  case atStart => exact ⟨0, vo2, vc2, by omega, rfl, rfl, HAp.out⟩
  case round =>
    obtain ⟨i, vo', vc', hi, rfl, rfl, HR⟩ := hrel
    by_cases c : i < again
    · have cI : (i : Int) < (again : Int) := by omega
      obtain ⟨hbx2, hne2⟩ := HR.out.box HBx.out HNe.out
      obtain ⟨r0, r1, r2⟩ := ce3 hbx2
      have hlen := HR.out.b.len
      obtain ⟨K, hK⟩ : ∃ K, K = m + n + i := ⟨_, rfl⟩
      have hbp : 0 < back := hag (by omega)
      obtain ⟨idx, hidx⟩ : ∃ idx, idx = K - back := ⟨_, rfl⟩
      have hidI : (K : Int) - (back : Int) = (idx : Int) := by omega
      obtain ⟨b, ob, rfl, hc⟩ := (bytes_of_own HR.out.b.own).at (ne_nil (i := idx) (by omega))
      have t1 := hc idx (by omega)
      obtain ⟨x, hx⟩ : ∃ x : Int, x = (((layBack back i (out ++ l)).getD idx 0).toNat : Int) := ⟨_, rfl⟩
      rw [← hx] at t1
      have HV : Hid ([Value.int .u8 x] = bv [(layBack back i (out ++ l)).getD ((layBack back i (out ++ l)).length - back) 0]) := by
        show _ = _
        rw [hlen, ← hK, ← hidx]
        unfold bv
        simp only [List.map_cons, List.map_nil]
        rw [← hx]
      have hKb : K ≤ 1000000 := by omega
      have hidb : (idx : Int) < (K : Int) := by omega
      have hid0 : (0 : Int) ≤ (idx : Int) := by omega
      have HK := hidM hK
      rw [← hK] at HR ⊢
      clear hc hx hlen hidx hK hbx2 hne2
      go_wp2_with (at_builtin; refine Hid.out ?_)
      unfold Hid
      have hB2 := HR.out.b.gr' (gr_alloc wr (.cells #[.int .u8 x] 5))
      refine wpList_append_any _ rfl (.tmp 13) (.tmp 22) 22 22 rfl 5 (.int .u8 0) 1 Try.underlying22 info5 rfl _ K (bv (layBack back i (out ++ l))) rfl hB2.own _ 1 [.int .u8 x] rfl (src_u8 wr [.int .u8 x] 1 rfl (by simp)) (by omega) (by omega) ?_
      intro v' w2 hown hgrow hblk
      obtain ⟨vo3, vc3, rfl⟩ := own_form1 hown
      have HN : Hid (Ap w (V.alloc (.cells #[.slice bo n bc, .int .i64 (again : Int), .int .i64 (back : Int)] 42)) w2 vo vc m vo3 vc3 (m + n + (i + 1)) (layBack back (i + 1) (out ++ l))) := by
        have := HR.out.trans ((hB2.app HV.out hown hgrow hblk).pre (gr_alloc wr _))
        rw [layBack_succ, show m + n + (i + 1) = K + 1 by have := HK.out; omega]
        exact this
      have hK1 : K + 1 = m + n + (i + 1) := by have := HK.out; omega
      rw [hK1]
      clear hown hgrow hblk hB2 t1 r0 r1 r2 HV hK1
      go_wp2_with fail
      go_roundw
      case rel => exact ⟨i + 1, vo3, vc3, by omega, by simp, rfl, HN.out⟩
      case measure => simp [intOf]; omega
    · have cI : ¬ (i : Int) < (again : Int) := by omega
      obtain rfl : i = again := by omega
      go_wp2_with fail
      go_ret
      exact ⟨vo', vc', rfl, HR.out.pre (gr_alloc V _)⟩

end Go.Proofs.Ytknjnclopiklaab.Kit
