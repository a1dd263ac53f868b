import Derived.Test.YtemleibpmaclmaaSG
namespace Go.Proofs.Ytemleibpmaclmaa.Kit
open Go.RowKit Go.Shelf Go.Deep
set_option linter.unusedVariables false
attribute [local go_sem] run_store_func

theorem mark_take (last : UInt8) {n : Nat} (h : n ≤ 4) : ((⟨#[67, 79, 76, last]⟩ : ByteArray).extract 0 n).toList = (mark last).take n := by
  have e : ((⟨#[67, 79, 76, last]⟩ : ByteArray).extract 0 n).data = (#[67, 79, 76, last] : Array UInt8).extract 0 n := by simp
  rw [ByteArray.toList_eq, e]
  simp [mark, List.extract]
set_option maxRecDepth 100000 in
set_option maxHeartbeats 2000000 in
theorem prefix_any (last : UInt8) (t : List UInt8) (w : World) (ht : t.length ≤ 1000) :
    Calls Try.prog 65 #[.string ⟨#[67, 79, 76, last]⟩, .string ⟨t.toArray⟩] w fun e w' => e = .returned (.bool (t.isPrefixOf (mark last))) ∧ w = w' := by
  have hs : (⟨t.toArray⟩ : ByteArray).size = t.length := by simp [ByteArray.size]
  have hs4 : (⟨#[67, 79, 76, last]⟩ : ByteArray).size = 4 := rfl
  by_cases c : t.length ≤ 4
  · have cI : (t.length : Int) ≤ 4 := by omega
    have HP : Hid ((((⟨#[67, 79, 76, last]⟩ : ByteArray).extract 0 t.length).toList == t) = (t.isPrefixOf (mark last))) := by
      have e : ((⟨#[67, 79, 76, last]⟩ : ByteArray).extract 0 t.length).toList = (mark last).take t.length := mark_take last c
      show (_ == t) = _
      rw [e, Bool.eq_iff_iff, beq_iff_eq, List.isPrefixOf_iff_prefix, List.prefix_iff_eq_take]
      exact eq_comm
    go_enter Try.func65, Try.ntmps65
    have he := HP.out
    go_wp2_with fail
    go_ret
    exact ⟨by rw [← he]; rfl, rfl⟩
  · have cI : ¬ (t.length : Int) ≤ 4 := by omega
    go_enter Try.func65, Try.ntmps65
    go_wp2_with fail
    go_ret
    refine ⟨?_, rfl⟩
    have : t.isPrefixOf (mark last) = false := by
      rw [Bool.eq_false_iff]
      intro h
      have := (List.isPrefixOf_iff_prefix.1 h).length_le
      simp [mark] at this
      omega
    rw [this]
    rfl
set_option maxRecDepth 100000 in
set_option maxHeartbeats 2000000 in
theorem isZero_any {ao : Option Addr} {ca : Nat} {l : List UInt8} {w : World} (h : BytesAt w ao l) (hl : l.length ≤ 140737488355328) :
    Calls Try.prog 52 #[.slice ao l.length ca] w fun e w' => e = .returned (.bool (l.all (· == 0))) ∧ w = w' := by
  obtain ⟨L, hL⟩ : ∃ L, L = l.length := ⟨_, rfl⟩
  have HL := hidM hL
  have HB := hidM h
  rw [← hL] at hl ⊢
  clear h hL
  go_enter Try.func52, Try.ntmps52
  go_wp2_with fail
  go_loopw [7] (fun q wr => ∃ k : Nat, k ≤ L ∧ q = .int .i64 (k : Int) ∧ wr = w ∧ Hid (∀ j, j < k → l.getD j 0 = 0)) (fun q _ => L - (intOf q).toNat)
  case atStart => exact ⟨0, by omega, rfl, rfl, fun j hj => by omega⟩
  case round =>
    obtain ⟨k, hk, rfl, rfl, HZ⟩ := hrel
    by_cases c : k < L
    · have cI : (k : Int) < (L : Int) := by omega
      have hk0 : (0 : Int) ≤ (k : Int) := by omega
      have hkb : k < l.length := by rw [← HL.out]; exact c
      obtain ⟨b, o, rfl, hc⟩ := HB.out.at (ne_nil hkb)
      have t1 := hc k hkb
      by_cases cz : l.getD k 0 = 0
      · rw [cz] at t1
        have t1' : wr.cell? ⟨b, o + k, none⟩ = some (.int .u8 0) := t1
        have HNx : Hid (∀ j, j < k + 1 → l.getD j 0 = 0) := fun j hj => by
          by_cases e : j = k
          · subst e; exact cz
          · exact HZ.out j (by omega)
        clear hc t1 cz
        go_wp2_with fail
        go_roundw
        case rel => exact ⟨k + 1, by omega, by simp, (by first | rfl | trivial), HNx.out⟩
        case measure => simp [intOf]; omega
      · have HF : Hid (l.all (· == 0) = false) := by
          show _ = _
          rw [List.all_eq_false]
          refine ⟨l.getD k 0, ?_, by simpa using cz⟩
          rw [List.getD_eq_getElem?_getD, List.getElem?_eq_getElem hkb]
          exact List.getElem_mem hkb
        have hz : (((l.getD k 0).toNat : Int) != 0) = true := by
          have : (l.getD k 0).toNat ≠ 0 := fun e => cz (UInt8.toNat_inj.1 e)
          exact bne_iff_ne.2 (by omega)
        obtain ⟨z, hze⟩ : ∃ z : Int, z = ((l.getD k 0).toNat : Int) := ⟨_, rfl⟩
        rw [← hze] at t1 hz
        clear hc cz hze
        go_wp2_with fail
        go_ret
        exact ⟨by rw [HF.out]; rfl, rfl⟩
    · have cI : ¬ (k : Int) < (L : Int) := by omega
      have HF : Hid (l.all (· == 0) = true) := by
        show _ = _
        rw [List.all_eq_true]
        intro x hx
        obtain ⟨j, hj, rfl⟩ := List.getElem_of_mem hx
        have := HZ.out j (by rw [HL.out] at c; omega)
        rw [List.getD_eq_getElem?_getD, List.getElem?_eq_getElem hj] at this
        simpa using this
      go_wp2_with fail
      go_ret
      exact ⟨by rw [HF.out]; rfl, rfl⟩
theorem marks_any (t : List UInt8) (w : World) (ht : t.length ≤ 1000) :
    Calls Try.prog 51 #[.string ⟨t.toArray⟩] w fun e w' => e = .returned (.bool (marksB t)) ∧ w = w' := by
  have HP : Hid (∀ last V, Calls Try.prog 60 #[.string ⟨#[67, 79, 76, last]⟩, .string ⟨t.toArray⟩] V fun e w' => e = .returned (.bool (t.isPrefixOf (mark last))) ∧ V = w') := fun last V => by
    have HQ := hidM (prefix_any last t V ht)
    obtain ⟨S, hS⟩ : ∃ S : ByteArray, S = ⟨t.toArray⟩ := ⟨_, rfl⟩
    obtain ⟨M, hM⟩ : ∃ M : ByteArray, M = ⟨#[67, 79, 76, last]⟩ := ⟨_, rfl⟩
    rw [← hS, ← hM] at HQ ⊢
    clear hS hM
    go_enter Try.func60, Try.ntmps60
    go_wp2_with (go_at_call 65; refine Hid.out ?_)
    unfold Hid
    refine Calls.mono HQ.out ?_
    rintro e V1 ⟨rfl, rfl⟩
    go_wp2_with fail
    go_ret
    exact ⟨rfl, rfl⟩
  have HP1 := hidM (HP.out 49 w)
  have HP0 := hidM (HP.out 48 w)
  have HE : Hid (marksB t = (t.isPrefixOf (mark 49) || t.isPrefixOf (mark 48))) := rfl
  obtain ⟨a, ha⟩ : ∃ a, a = t.isPrefixOf (mark 49) := ⟨_, rfl⟩
  obtain ⟨b, hb⟩ : ∃ a, a = t.isPrefixOf (mark 48) := ⟨_, rfl⟩
  rw [← ha] at HP1 HE
  rw [← hb] at HP0 HE
  obtain ⟨S, hS⟩ : ∃ S : ByteArray, S = ⟨t.toArray⟩ := ⟨_, rfl⟩
  rw [← hS] at HP1 HP0 ⊢
  clear ha hb hS HP
  cases a with
  | true =>
    go_enter Try.func51, Try.ntmps51
    go_wp2_with (go_at_call 60; refine Hid.out ?_)
    unfold Hid
    refine Calls.mono HP1.out ?_
    rintro e V1 ⟨rfl, rfl⟩
    go_wp2_with fail
    go_ret
    exact ⟨by rw [HE.out]; rfl, rfl⟩
  | false =>
    go_enter Try.func51, Try.ntmps51
    go_wp2_with (go_at_call 60; refine Hid.out ?_)
    unfold Hid
    refine Calls.mono HP1.out ?_
    rintro e V1 ⟨rfl, rfl⟩
    go_wp2_with (go_at_call 60; refine Hid.out ?_)
    unfold Hid
    refine Calls.mono HP0.out ?_
    rintro e V1 ⟨rfl, rfl⟩
    go_wp2_with fail
    go_ret
    exact ⟨by rw [HE.out]; cases b <;> rfl, rfl⟩
end Go.Proofs.Ytemleibpmaclmaa.Kit
