import Derived.Test.YtemleibpmaclmaaSJ
namespace Go.Proofs.Ytemleibpmaclmaa.Kit
open Go.RowKit Go.Shelf Go.Deep
set_option linter.unusedVariables false
attribute [local go_sem] run_store_func

set_option maxRecDepth 100000 in
set_option maxHeartbeats 8000000 in
theorem take_none {w W : World} {p : Nat} {x y : Value} {s : Sc} {R : Nat → Row} {wo : Option Addr} {wc : Nat} {ao : Option Addr} {ac n : Nat} (h : Rd w W p 76 [x, y] s R wo wc) (hn : n = 0) :
    Calls Try.prog 40 #[.pointer (some ⟨p, 0, none⟩), .slice ao n ac] W fun e w' => e = .returned (.tuple #[]) ∧ RdDone w W w' p 76 [x, y] s.ms.length R wo wc (feedF s []) := by
  obtain ⟨r, hr⟩ : ∃ r, r = feedF s [] := ⟨_, rfl⟩
  have cnI : ¬ (0 < (n : Int)) := by omega
  have HF := hidM (From.refl h)
  have c11 : W.cell? ⟨p, 11, none⟩ = some (.int .i64 s.e) := h.cells rfl
  obtain ⟨se, hse⟩ : ∃ se, se = s.e := ⟨_, rfl⟩
  rw [← hse] at c11
  have HR : Hid (r = if se ≠ 0 then wrongF s se else s) := by
    show _ = _
    rw [hr, hse]
    unfold feedF
    split
    · rfl
    · exact takeF_nil _ _
  rw [← hr]
  clear h hr hse hn
  by_cases ce : se = 0
  · have ceI : (se == 0) = true := by simpa using ce
    have ceJ : (se != 0) = false := by simpa using ce
    have HRr : Hid (r = s) := by show _ = _; rw [HR.out, if_neg (by simpa using ce)]
    have HD := hidM HF.out.done
    clear HR HF ceI ceJ
    subst ce
    go_enter Try.func40, Try.ntmps40
    go_wp2_with fail
    go_step3
    go_wp2_with fail
    go_step3
    go_wp2_with fail
    go_loopw [1, 4] (fun v q wr => v = .slice ao n ac ∧ q = .int .i64 0 ∧ wr = W) (fun _ _ _ => 0)
    case atStart => exact ⟨rfl, rfl, rfl⟩
    case round =>
      obtain ⟨rfl, rfl, rfl⟩ := hrel
      go_wp2_with fail
      rw [Exit.noGoto_normal]
      refine bodyPost_end (v := .tuple #[]) ?_ rfl ⟨rfl, by rw [HRr.out]; exact HD.out⟩
      simp [results, Try.f40, go_sem]
  · have ceI : (se == 0) = false := by simpa using ce
    have ceJ : (se != 0) = true := by simpa using ce
    have HRr : Hid (r = wrongF s se) := by show _ = _; rw [HR.out, if_pos ce]
    clear HR ce
    go_enter Try.func40, Try.ntmps40
    go_wp2_with fail
    go_step3
    go_wp2_with fail
    go_step3
    go_wp2_with fail
    go_loopw [4] (fun q wr => q = .int .i64 se ∧ wr = W) (fun _ _ => 0)
    case atStart => exact ⟨rfl, rfl⟩
    case round =>
      obtain ⟨rfl, rfl⟩ := hrel
      have HRd := hidM HF.out
      have c10 : wr.cell? ⟨p, 10, none⟩ = some (.slice wo s.ms.length wc) := HRd.out.rd.cells rfl
      have hbx := HRd.out.rd.box
      go_wp2_with (with_reducible show wpList Try.prog _ _ (Oper.mk none (Op.store 73 _ _) _ _ _ _ :: _) _ _; refine Hid.out ?_)
      unfold Hid
      refine wpList_store_row rfl 73 (.tmp 138) (.tmp 137) rfl p (wrongCells s.ms.length se wo wc).toArray hbx (by rfl) (by rfl) (by simp [wrongCells, scCells]) (by kernel_rfl) (by simp [wrongCells, Value.oneCell']) ?_
      obtain ⟨VE, hVE⟩ : ∃ VE, VE = wr.setRow p ((wrongCells s.ms.length se wo wc).toArray.toList ++ (scCells s R wo wc ++ [x, y]).toArray.toList.drop (wrongCells s.ms.length se wo wc).toArray.size).toArray := ⟨_, rfl⟩
      rw [← hVE]
      have hbE : VE.heap[p]? = some (.cells (wrongCells s.ms.length se wo wc ++ [x, y]).toArray 76 (0, 0)) := by rw [hVE]; exact setRow_heap wr p _ _ 76 (0, 0) hbx
      have hkE : Keeps wr VE (fun g => g = p) := by rw [hVE]; exact ⟨rfl, rfl, rfl, by simp, fun kk hk hn => setRow_other wr p kk _ hn⟩
      obtain ⟨RE, woE, wcE, hFE⟩ := HRd.out.then (s2 := wrongF s se) ⟨_, _, _, HRd.out.rd.rb.wrong hbE hkE, hkE.mono fun g _ e => .inl e, fun g e => .inl (begin_sub e)⟩
      have HFE := hidM hFE.done
      clear hVE hbE hkE hFE hbx c10 HRd
      go_wp2_with fail
      refine bodyPost_end (v := .tuple #[]) ?_ rfl ⟨rfl, by rw [HRr.out]; exact HFE.out⟩
      simp [results, Try.f40, go_sem]

theorem take_any {w W : World} {p : Nat} {x y : Value} {s : Sc} {R : Nat → Row} {wo : Option Addr} {wc : Nat} {ao : Option Addr} {ac : Nat} {b : List UInt8} (h : Rd w W p 76 [x, y] s R wo wc) (hb : BytesAt W ao b) (hac : b.length ≤ ac) (hacm : ac ≤ 9223372036854775807) (hsep : ∀ X o, ao = some ⟨X, o, none⟩ → ¬ RIs p s.ms.length R wo wc X) (hlen : b.length ≤ 140737488355000) (hms : s.ms.length + b.length ≤ 100000000000) (hok : s.e ≠ 0 ∨ (PreOk s ∧ 0 < s.left)) :
    Calls Try.prog 40 #[.pointer (some ⟨p, 0, none⟩), .slice ao b.length ac] W fun e w' => e = .returned (.tuple #[]) ∧ RdDone w W w' p 76 [x, y] s.ms.length R wo wc (feedF s b) := by
  by_cases hne : b = []
  · subst hne; exact take_none h rfl
  · obtain ⟨X, o, e, -⟩ := hb hne
    subst e
    exact take_some h hb hne hac hacm (hsep X o rfl) hlen hms hok
set_option maxRecDepth 100000 in
set_option maxHeartbeats 4000000 in
theorem feed_any {w W : World} {p : Nat} {sh : Bool} {hd : Nat} {s : Sc} {R : Nat → Row} {wo : Option Addr} {wc : Nat} {ao : Option Addr} {ac : Nat} {b : List UInt8} (h : Rd w W p 76 [.bool sh, .int .i64 (hd : Int)] s R wo wc) (hb : BytesAt W ao b) (hac : b.length ≤ ac) (hacm : ac ≤ 9223372036854775807) (hsep : ∀ X o, ao = some ⟨X, o, none⟩ → ¬ RIs p s.ms.length R wo wc X) (hlen : b.length ≤ 140737488355000) (hms : s.ms.length + b.length ≤ 100000000000) (hok : s.e ≠ 0 ∨ (PreOk s ∧ 0 < s.left)) (hhd : hd ≤ 1000000000000) :
    Calls Try.prog 20 #[.pointer (some ⟨p, 0, none⟩), .slice ao b.length ac] W fun e w' => if sh = true then e = .returned (.int .i64 9) ∧ w' = W else e = .returned (.int .i64 0) ∧ ∃ R' wo' wc', From w W w' p 76 [.bool false, .int .i64 ((hd + b.length : Nat) : Int)] s.ms.length R wo wc (feedF s b) R' wo' wc' := by
  have c12 : W.cell? ⟨p, 12, none⟩ = some (.bool sh) := h.cells rfl
  have c13 : W.cell? ⟨p, 13, none⟩ = some (.int .i64 (hd : Int)) := h.cells rfl
  have f13 : W.frozen? ⟨p, 13, none⟩ = false := frz h.box 13
  have HF := hidM (From.refl h)
  cases sh with
  | true =>
    clear h
    go_enter Try.func20, Try.ntmps20
    go_wp2_with fail
    go_ret
    exact ⟨rfl, rfl⟩
  | false =>
    obtain ⟨L, hL⟩ : ∃ L, L = b.length := ⟨_, rfl⟩
    obtain ⟨m, hm⟩ : ∃ m, m = hd + L := ⟨_, rfl⟩
    have hmI : (hd : Int) + (L : Int) = (m : Int) := by omega
    have hF1 : From w W (W.setCell ⟨p, 13, none⟩ (.int .i64 (m : Int))) p 76 [.bool false, .int .i64 (m : Int)] s.ms.length R wo wc s R wo wc := HF.out.set (j := 13) rfl rfl (fun _ => rfl)
    have HF1 := hidM hF1
    have HT := hidM (take_any (ao := ao) (ac := ac) (b := b) hF1.rd (hb.keep hF1.kp (fun X o e => hsep X o e)) hac hacm hsep hlen hms hok)
    rw [← hL] at HT hac hlen ⊢
    rw [← hm]
    clear h hb hsep hms hok hF1 hL hm HF
    go_enter Try.func20, Try.ntmps20
    go_wp2_with (go_at_call 40; refine Hid.out ?_)
    unfold Hid
    refine Calls.mono HT.out ?_
    rintro e V ⟨rfl, hD⟩
    obtain ⟨R2, wo2, wc2, hF2⟩ := HF1.out.then hD
    have HF2 := hidM hF2
    clear hD hF2
    go_wp2_with fail
    go_ret
    exact ⟨rfl, R2, wo2, wc2, HF2.out⟩
theorem shut_any {w W : World} {p : Nat} {sh : Bool} {y : Value} {s : Sc} {R : Nat → Row} {wo : Option Addr} {wc : Nat} (h : Rd w W p 76 [.bool sh, y] s R wo wc) :
    Calls Try.prog 22 #[.pointer (some ⟨p, 0, none⟩)] W fun e w' => if sh = true then e = .returned (.int .i64 9) ∧ w' = W else e = .returned (.int .i64 0) ∧ From w W w' p 76 [.bool true, y] s.ms.length R wo wc s R wo wc := by
  have c12 : W.cell? ⟨p, 12, none⟩ = some (.bool sh) := h.cells rfl
  have f12 : W.frozen? ⟨p, 12, none⟩ = false := frz h.box 12
  have HF : Hid (From w W (W.setCell ⟨p, 12, none⟩ (.bool true)) p 76 [.bool true, y] s.ms.length R wo wc s R wo wc) := (From.refl h).set (j := 12) rfl rfl (fun _ => rfl)
  clear h
  cases sh with
  | true =>
    go_enter Try.func22, Try.ntmps22
    go_wp2_with fail
    go_ret
    exact ⟨rfl, rfl⟩
  | false =>
    go_enter Try.func22, Try.ntmps22
    go_wp2_with fail
    go_ret
    exact ⟨rfl, HF.out⟩
def standsF (s : Sc) (sh : Bool) : Int × Int := if 0 < s.ms.length then (2, 0) else if s.e ≠ 0 then (4, s.e) else if s.st = 9 then (3, 0) else if sh = true then (4, 73) else (1, 0)
set_option maxRecDepth 100000 in
set_option maxHeartbeats 4000000 in
theorem stands_any {w W : World} {p : Nat} {sh : Bool} {y : Value} {s : Sc} {R : Nat → Row} {wo : Option Addr} {wc : Nat} (h : Rd w W p 76 [.bool sh, y] s R wo wc) (hst : s.st ≤ 100) :
    Calls Try.prog 37 #[.pointer (some ⟨p, 0, none⟩)] W fun e w' => e = .returned (.tuple #[.int .i64 (standsF s sh).1, .int .i64 (standsF s sh).2]) ∧ Gr W w' := by
  have c12 : W.cell? ⟨p, 12, none⟩ = some (.bool sh) := h.cells rfl
  have c10 : W.cell? ⟨p, 10, none⟩ = some (.slice wo s.ms.length wc) := h.cells rfl
  have c11 : W.cell? ⟨p, 11, none⟩ = some (.int .i64 s.e) := h.cells rfl
  have c2 : W.cell? ⟨p, 2, none⟩ = some (.int .i64 (s.st : Int)) := h.cells rfl
  obtain ⟨n, hn⟩ : ∃ n, n = s.ms.length := ⟨_, rfl⟩
  obtain ⟨e, he⟩ : ∃ e, e = s.e := ⟨_, rfl⟩
  obtain ⟨st, hs⟩ : ∃ st, st = s.st := ⟨_, rfl⟩
  have HE : Hid (standsF s sh = if 0 < n then (2, 0) else if e ≠ 0 then (4, e) else if st = 9 then (3, 0) else if sh = true then (4, 73) else (1, 0)) := by rw [hn, he, hs]; rfl
  rw [← hn] at c10
  rw [← he] at c11
  rw [← hs] at c2 hst
  clear h hn he hs
  by_cases d1 : 0 < n
  · have d1I : 0 < (n : Int) := by omega
    have HV : Hid (standsF s sh = (2, 0)) := by show _ = _; rw [HE.out, if_pos d1]
    rw [HV.out]
    clear HE
    go_enter Try.func37, Try.ntmps37
    go_wp2_with fail
    refine bodyPost_ret (v := .tuple #[.int .i64 2, .int .i64 0]) ?_ rfl ⟨rfl, Keeps.refl _ _⟩
    simp [results, Try.f37, go_sem]
  have d1I : ¬ 0 < (n : Int) := by omega
  by_cases d2 : e = 0
  rotate_left
  · have d2I : (e != 0) = true := by simpa using d2
    have HV : Hid (standsF s sh = (4, e)) := by show _ = _; rw [HE.out, if_neg d1, if_pos d2]
    rw [HV.out]
    clear HE d2
    go_enter Try.func37, Try.ntmps37
    go_wp2_with fail
    go_region
    go_wp2_with fail
    refine bodyPost_ret (v := .tuple #[.int .i64 4, .int .i64 e]) ?_ rfl ⟨rfl, (Keeps.refl W _).drew⟩
    simp [results, Try.f37, go_sem]
  have d2I : (e != 0) = false := by simpa using d2
  by_cases d3 : st = 9
  · have d3I : ((st : Int) == 9) = true := by simp; omega
    have HV : Hid (standsF s sh = (3, 0)) := by show _ = _; rw [HE.out, if_neg d1, if_neg (by simpa using d2), if_pos d3]
    rw [HV.out]
    clear HE d2 d3
    go_enter Try.func37, Try.ntmps37
    go_wp2_with fail
    refine bodyPost_ret (v := .tuple #[.int .i64 3, .int .i64 0]) ?_ rfl ⟨rfl, Keeps.refl _ _⟩
    simp [results, Try.f37, go_sem]
  have d3I : ((st : Int) == 9) = false := by simp; omega
  have HV0 : Hid (standsF s sh = if sh = true then (4, 73) else (1, 0)) := by show _ = _; rw [HE.out, if_neg d1, if_neg (by simpa using d2), if_neg d3]
  clear HE d2 d3
  cases sh with
  | true =>
    have HV : Hid (standsF s true = (4, 73)) := HV0.out
    rw [HV.out]
    clear HV0
    go_enter Try.func37, Try.ntmps37
    go_wp2_with fail
    refine bodyPost_ret (v := .tuple #[.int .i64 4, .int .i64 73]) ?_ rfl ⟨rfl, Keeps.refl _ _⟩
    simp [results, Try.f37, go_sem]
  | false =>
    have HV : Hid (standsF s false = (1, 0)) := HV0.out
    rw [HV.out]
    clear HV0
    go_enter Try.func37, Try.ntmps37
    go_wp2_with fail
    refine bodyPost_ret (v := .tuple #[.int .i64 1, .int .i64 0]) ?_ rfl ⟨rfl, Keeps.refl _ _⟩
    simp [results, Try.f37, go_sem]
end Go.Proofs.Ytemleibpmaclmaa.Kit
