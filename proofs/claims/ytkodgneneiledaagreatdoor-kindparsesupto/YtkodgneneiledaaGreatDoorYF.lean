import Derived.Test.YtkodgneneiledaaGreatDoorYE
set_option maxRecDepth 100000
set_option maxHeartbeats 4000000
namespace Go.Proofs.YtkodgneneiledaaGreatDoor.Kit
open Go.RowKit Go.Shelf Go.Deep
set_option linter.unusedVariables false
attribute [local go_sem] run_store_func
theorem next_le {s : ByteArray} {k k' : Nat} {g g' : List Nat} {c : UInt8} (h : nextP s.data.toList (k, g) = .ok (c, (k', g'))) : k' ≤ s.size := by
  unfold nextP at h
  cases hk : s.data.toList[k]? with
  | none => simp only [hk] at h; cases h
  | some x =>
    simp only [hk] at h
    cases h
    have := (List.getElem?_eq_some_iff.1 hk).1
    have e : s.data.toList.length = s.size := by simp
    show k + 1 ≤ s.size
    omega
def In (s : ByteArray) {α : Type} (r : Pr α) : Prop := ∀ k g x k' g', k ≤ s.size → r (k, g) = .ok (x, (k', g')) → k' ≤ s.size
theorem In.bind {s : ByteArray} {α β : Type} {r : Pr α} {f : α → Pr β} (h : In s r) (hf : ∀ x, In s (f x)) : In s (r.bind f) := fun k g y k' g' hk e => by
  obtain ⟨x, s1, e1, e2⟩ := Pr.inv e
  exact hf x s1.1 s1.2 y k' g' (h k g x s1.1 s1.2 hk e1) e2
theorem In.pure {s : ByteArray} {α : Type} (x : α) : In s (Pr.pure x) := fun k g y k' g' hk e => by cases e; exact hk
theorem In.err {s : ByteArray} {α : Type} (o : Nat) : In s (fun _ => .error o : Pr α) := fun k g y k' g' hk e => by cases e
theorem in_next (s : ByteArray) : In s (nextP s.data.toList) := fun k g x k' g' hk e => next_le e
theorem in_digit (s : ByteArray) (o : Nat) : In s (digitP s.data.toList o) := by
  refine (in_next s).bind fun c => ?_
  cases h : hexV c with
  | none => exact In.err o
  | some n => exact In.pure n
theorem in_esc (s : ByteArray) (o : Nat) : In s (escP s.data.toList o) := by
  refine (in_next s).bind fun c => ?_
  split
  · exact In.pure c
  split
  · exact (in_digit s o).bind fun h => (in_digit s o).bind fun l => In.pure _
  exact In.err o
theorem in_quo (s : ByteArray) : ∀ n acc, In s (quoP s.data.toList n acc)
  | 0, acc => fun k g x k' g' hk e => by cases e
  | n + 1, acc => fun k g x k' g' hk e => by
    have h : In s ((nextP s.data.toList).bind (fun c => if c = 34 then Pr.pure (⟨acc.toArray⟩ : ByteArray) else if c = 92 then (escP s.data.toList k).bind fun b => quoP s.data.toList n (acc ++ [b]) else if plainB c then quoP s.data.toList n (acc ++ [c]) else fun _ => .error k)) := by
      refine (in_next s).bind fun c => ?_
      split
      · exact In.pure _
      split
      · exact (in_esc s k).bind fun b => in_quo s n _
      split
      · exact in_quo s n _
      exact In.err k
    rw [quoP] at e
    exact h k g x k' g' hk e
theorem text27 (p : Nat) (s : ByteArray) (d : Nat) : DnC p s d 27 #[.pointer (some ⟨p, 0, none⟩)] (quotedP s.data.toList) (fun _ _ x v => v = .string x) (fun v => v = .string ⟨#[]⟩) := by
  intro W c g hN _
  have HN := hidP hN
  obtain ⟨a, vo, vc, hA, hsm, hgc, hcs⟩ := hN
  have HSee := hidP (see24 p s a _ _ W hA.box hA.pos hA.len)
  unfold tokV at HSee
  rw [show a + skN (s.data.toList.drop a) = c + skN (s.data.toList.drop c) from hsm] at HSee
  have HA := hidP hA
  have hb := skN_le s hcs
  have hk0 : (s.data.toList.drop (c + skN (s.data.toList.drop c))).headD 0 = (sk (s.data.toList.drop c)).headD 0 := by rw [drop_sk]
  have HW := hidP (fun U (h : DA U p s c g) => wrong55 p s U c g h)
  have Hgc := hidP hgc
  have Hcb : Hid (c ≤ c + skN (s.data.toList.drop c)) := Nat.le_add_right _ _
  by_cases hh : (sk (s.data.toList.drop c)).headD 0 = 34
  · have hlt := head_lt (by decide) hcs hh
    have hq34 := tok_quote (hk0.trans hh)
    have HR : Hid (quotedP s.data.toList (c, g) = quoP s.data.toList D0 [] (c + skN (s.data.toList.drop c) + 1, g)) := Pr.bind_ok (must_yes (takes_yes g hh))
    rw [HR.out]
    have HFw := hidP (fun x q => fw_quo s.data.toList D0 [] (c + skN (s.data.toList.drop c) + 1, g) x q)
    clear HR hh hk0 hsm hgc hA HW
    generalize c + skN (s.data.toList.drop c) = b at HSee hb Hcb hlt hq34 HFw ⊢
    rcases na_quo s.data.toList D0 [] (b + 1) with ⟨o, e⟩ | ⟨x, k', e⟩
    · rw [e g]
      rcases hTok : tokOf s.data.toList b with ⟨tk, tx, tn, tf⟩
      rw [hTok] at HSee
      (try dsimp only at HSee)
      rw [hTok, e []] at hq34
      (try dsimp only at hq34)
      simp only [Prod.mk.injEq] at hq34
      obtain ⟨htk, htx, htn, htf⟩ := hq34
      clear e HFw hTok
      have hek : (tk != 3) = false := by rw [htk]; rfl
      have hf0 : (0 : Int) ≤ tf := by omega
      have Htf := hidP htf
      clear htf htn htk htx
      go_enter Tryz.func27, Tryz.ntmps27
      go_wp2_with (first | (go_at_call 24; refine Calls.mono (HSee.out) ?_; rintro e u ⟨hgu, rfl⟩; have HGu := hidP hgu; clear hgu) | (with_reducible show wpList Tryz.prog _ _ (Oper.mk (some 7) _ _ _ _ _ :: _) _ _; refine Hid.out ?_))
      unfold Hid
      have hz1 := heap_alloc_new u (.cells #[.int .i64 tk, .string tx, .int .i64 (b : Int), .int .i64 (tn : Int), .int .i64 tf] 64)
      have hz2 := gr_alloc u (.cells #[.int .i64 tk, .string tx, .int .i64 (b : Int), .int .i64 (tn : Int), .int .i64 tf] 64)
      have hKW : Hid (W.heap.size ≤ u.heap.size) := HGu.out.size
      obtain ⟨K, hK⟩ : ∃ K, K = u.heap.size := ⟨_, rfl⟩
      rw [← hK] at hz1 hKW ⊢
      have HGU := hidP (HGu.out.trans hz2 fun _ _ h => h)
      have HKt := hidP hz1
      clear hz1 hz2 hK HGu
      generalize u.alloc (.cells #[.int .i64 tk, .string tx, .int .i64 (b : Int), .int .i64 (tn : Int), .int .i64 tf] 64) = U at HGU HKt ⊢
      have t0 : U.cell? ⟨K, 0, none⟩ = some (.int .i64 tk) := by simp [World.cell?, HKt.out]
      have t1 : U.cell? ⟨K, 1, none⟩ = some (.string tx) := by simp [World.cell?, HKt.out]
      have t2 : U.cell? ⟨K, 2, none⟩ = some (.int .i64 (b : Int)) := by simp [World.cell?, HKt.out]
      have t3 : U.cell? ⟨K, 3, none⟩ = some (.int .i64 (tn : Int)) := by simp [World.cell?, HKt.out]
      have t4 : U.cell? ⟨K, 4, none⟩ = some (.int .i64 tf) := by simp [World.cell?, HKt.out]
      have HAU := hidP (HA.out.gr HGU.out)
      have d0 : U.cell? ⟨p, 0, none⟩ = some (.string s) := by simp [World.cell?, HAU.out.box]
      have d1 : U.cell? ⟨p, 1, none⟩ = some (.int .i64 (a : Int)) := by simp [World.cell?, HAU.out.box]
      have d2 : U.cell? ⟨p, 2, none⟩ = some (.int .i64 (-1)) := by simp [World.cell?, HAU.out.box]
      have d3 : U.cell? ⟨p, 3, none⟩ = some (.slice vo g.length vc) := by simp [World.cell?, HAU.out.box]
      have z1 : U.frozen? ⟨p, 1, none⟩ = false := frz HAU.out.box 1
      have z2 : U.frozen? ⟨p, 2, none⟩ = false := frz HAU.out.box 2
      have z3 : U.frozen? ⟨p, 3, none⟩ = false := frz HAU.out.box 3
      have hpK : ¬ p = K := by have := hKW.out; have := lt_of_heap HA.out.box; omega
      have hKp : ¬ K = p := fun h => hpK h.symm
      go_wp2_with fail
      go_ret
      exact DnQ.err (kpn_set HGU.out) rfl rfl (by rw [Htf.out]; exact HAU.out.die)
    have hfw := HFw.out x (k', g) (e g)
    have hle := in_quo s D0 [] (b + 1) g x k' g hlt (e g)
    rw [e g]
    rcases hTok : tokOf s.data.toList b with ⟨tk, tx, tn, tf⟩
    rw [hTok] at HSee
    (try dsimp only at HSee)
    rw [hTok, e []] at hq34
    (try dsimp only at hq34)
    simp only [Prod.mk.injEq] at hq34
    obtain ⟨htk, htx, htn, htf⟩ := hq34
    rw [← htn] at hle
    have Hle := hidP hle
    clear e HFw hTok hle
    rw [← htx, ← htn]
    rw [← htn] at hfw
    have hek : (tk != 3) = false := by rw [htk]; rfl
    have hf0 : ¬ (0 : Int) ≤ tf := by omega
    have Hfw := hidP hfw
    clear htf htn htk htx hfw
    go_enter Tryz.func27, Tryz.ntmps27
    go_wp2_with (first | (go_at_call 24; refine Calls.mono (HSee.out) ?_; rintro e u ⟨hgu, rfl⟩; have HGu := hidP hgu; clear hgu) | (with_reducible show wpList Tryz.prog _ _ (Oper.mk (some 7) _ _ _ _ _ :: _) _ _; refine Hid.out ?_))
    unfold Hid
    have hz1 := heap_alloc_new u (.cells #[.int .i64 tk, .string tx, .int .i64 (b : Int), .int .i64 (tn : Int), .int .i64 tf] 64)
    have hz2 := gr_alloc u (.cells #[.int .i64 tk, .string tx, .int .i64 (b : Int), .int .i64 (tn : Int), .int .i64 tf] 64)
    have hKW : Hid (W.heap.size ≤ u.heap.size) := HGu.out.size
    obtain ⟨K, hK⟩ : ∃ K, K = u.heap.size := ⟨_, rfl⟩
    rw [← hK] at hz1 hKW ⊢
    have HGU := hidP (HGu.out.trans hz2 fun _ _ h => h)
    have HKt := hidP hz1
    clear hz1 hz2 hK HGu
    generalize u.alloc (.cells #[.int .i64 tk, .string tx, .int .i64 (b : Int), .int .i64 (tn : Int), .int .i64 tf] 64) = U at HGU HKt ⊢
    have t0 : U.cell? ⟨K, 0, none⟩ = some (.int .i64 tk) := by simp [World.cell?, HKt.out]
    have t1 : U.cell? ⟨K, 1, none⟩ = some (.string tx) := by simp [World.cell?, HKt.out]
    have t2 : U.cell? ⟨K, 2, none⟩ = some (.int .i64 (b : Int)) := by simp [World.cell?, HKt.out]
    have t3 : U.cell? ⟨K, 3, none⟩ = some (.int .i64 (tn : Int)) := by simp [World.cell?, HKt.out]
    have t4 : U.cell? ⟨K, 4, none⟩ = some (.int .i64 tf) := by simp [World.cell?, HKt.out]
    have HAU := hidP (HA.out.gr HGU.out)
    have d0 : U.cell? ⟨p, 0, none⟩ = some (.string s) := by simp [World.cell?, HAU.out.box]
    have d1 : U.cell? ⟨p, 1, none⟩ = some (.int .i64 (a : Int)) := by simp [World.cell?, HAU.out.box]
    have d2 : U.cell? ⟨p, 2, none⟩ = some (.int .i64 (-1)) := by simp [World.cell?, HAU.out.box]
    have d3 : U.cell? ⟨p, 3, none⟩ = some (.slice vo g.length vc) := by simp [World.cell?, HAU.out.box]
    have z1 : U.frozen? ⟨p, 1, none⟩ = false := frz HAU.out.box 1
    have z2 : U.frozen? ⟨p, 2, none⟩ = false := frz HAU.out.box 2
    have z3 : U.frozen? ⟨p, 3, none⟩ = false := frz HAU.out.box 3
    have hpK : ¬ p = K := by have := hKW.out; have := lt_of_heap HA.out.box; omega
    have hKp : ¬ K = p := fun h => hpK h.symm
    go_wp2_with fail
    go_ret
    exact DnQ.ok (kpn_set HGU.out) rfl rfl ⟨tn, vo, vc, HAU.out.move Hle.out, rfl, by have := Hgc.out; have := Hcb.out; have := Hfw.out.1; omega, Hle.out⟩
  have HE : Hid (quotedP s.data.toList (c, g) = .error (c + skN (s.data.toList.drop c))) := Pr.bind_err (must_no (takes_no g hh))
  rw [HE.out]
  have hne := tok_noquote (T := s.data.toList) (b := c + skN (s.data.toList.drop c)) (by rw [hk0]; exact hh)
  clear HE hh hk0 hsm hgc hA
  generalize c + skN (s.data.toList.drop c) = b at HSee hb HW Hcb hne ⊢
  rcases hTok : tokOf s.data.toList b with ⟨tk, tx, tn, tf⟩
  rw [hTok] at HSee
  (try dsimp only at HSee)
  rw [hTok] at hne
  have hek : (tk != 3) = true := bne_iff_ne.2 hne
  clear hne hTok
  have h0b : (0 : Int) ≤ (b : Int) := by omega
  go_enter Tryz.func27, Tryz.ntmps27
  go_wp2_with (first | (go_at_call 24; refine Calls.mono (HSee.out) ?_; rintro e u ⟨hgu, rfl⟩; have HGu := hidP hgu; clear hgu) | (with_reducible show wpList Tryz.prog _ _ (Oper.mk (some 7) _ _ _ _ _ :: _) _ _; refine Hid.out ?_))
  unfold Hid
  have hz1 := heap_alloc_new u (.cells #[.int .i64 tk, .string tx, .int .i64 (b : Int), .int .i64 (tn : Int), .int .i64 tf] 64)
  have hz2 := gr_alloc u (.cells #[.int .i64 tk, .string tx, .int .i64 (b : Int), .int .i64 (tn : Int), .int .i64 tf] 64)
  have hKW : Hid (W.heap.size ≤ u.heap.size) := HGu.out.size
  obtain ⟨K, hK⟩ : ∃ K, K = u.heap.size := ⟨_, rfl⟩
  rw [← hK] at hz1 hKW ⊢
  have HGU := hidP (HGu.out.trans hz2 fun _ _ h => h)
  have HKt := hidP hz1
  clear hz1 hz2 hK HGu
  generalize u.alloc (.cells #[.int .i64 tk, .string tx, .int .i64 (b : Int), .int .i64 (tn : Int), .int .i64 tf] 64) = U at HGU HKt ⊢
  have t0 : U.cell? ⟨K, 0, none⟩ = some (.int .i64 tk) := by simp [World.cell?, HKt.out]
  have t1 : U.cell? ⟨K, 1, none⟩ = some (.string tx) := by simp [World.cell?, HKt.out]
  have t2 : U.cell? ⟨K, 2, none⟩ = some (.int .i64 (b : Int)) := by simp [World.cell?, HKt.out]
  have t3 : U.cell? ⟨K, 3, none⟩ = some (.int .i64 (tn : Int)) := by simp [World.cell?, HKt.out]
  have t4 : U.cell? ⟨K, 4, none⟩ = some (.int .i64 tf) := by simp [World.cell?, HKt.out]
  have HWU := hidP (HW.out U (HN.out.gr HGU.out))
  go_wp2_with (go_at_call 55; refine Calls.mono HWU.out ?_; rintro e v ⟨hk2, rfl, hD⟩; have HK2 := hidP ((Gr.n p HGU.out).tr hk2); have HD := hidP hD; clear hk2; obtain ⟨a2, n2, hX, _⟩ := hD; have c2 : v.cell? ⟨p, 2, none⟩ = some (.int .i64 (b : Int)) := (by simp [World.cell?, hX]); clear hX)
  go_ret
  exact DnQ.err HK2.out rfl rfl HD.out
theorem text27_dead (p : Nat) (s : ByteArray) : DeC p s 27 #[.pointer (some ⟨p, 0, none⟩)] (fun v => v = .string ⟨#[]⟩) := by
  intro W o hD
  obtain ⟨a, n, hX, hs, ha, hpz⟩ := hD
  have HSee := hidP (see24 p s a _ _ W hX ha hs)
  unfold tokV at HSee
  have HX := hidP hX
  have HD := hidP (show DD W p s o from ⟨a, n, hX, hs, ha, hpz⟩)
  generalize a + skN (s.data.toList.drop a) = b at HSee
  rcases hTok : tokOf s.data.toList b with ⟨tk, tx, tn, tf⟩
  rw [hTok] at HSee
  (try dsimp only at HSee)
  clear hTok hX
  have HW := hidP (wrong55_dead p s)
  have h0o : (0 : Int) ≤ (o : Int) := by omega
  have h1o : ¬ (o : Int) < 0 := by omega
  by_cases h0 : tk = 3
  · have hek : (tk != 3) = false := by rw [h0]; rfl
    clear h0
    by_cases hf : 0 ≤ tf
    · skip
      go_enter Tryz.func27, Tryz.ntmps27
      go_wp2_with (first | (go_at_call 24; refine Calls.mono (HSee.out) ?_; rintro e u ⟨hgu, rfl⟩; have HGu := hidP hgu; clear hgu) | (with_reducible show wpList Tryz.prog _ _ (Oper.mk (some 7) _ _ _ _ _ :: _) _ _; refine Hid.out ?_))
      unfold Hid
      have hz1 := heap_alloc_new u (.cells #[.int .i64 tk, .string tx, .int .i64 (b : Int), .int .i64 (tn : Int), .int .i64 tf] 64)
      have hz2 := gr_alloc u (.cells #[.int .i64 tk, .string tx, .int .i64 (b : Int), .int .i64 (tn : Int), .int .i64 tf] 64)
      have hKW : Hid (W.heap.size ≤ u.heap.size) := HGu.out.size
      obtain ⟨K, hK⟩ : ∃ K, K = u.heap.size := ⟨_, rfl⟩
      rw [← hK] at hz1 hKW ⊢
      have HGU := hidP (HGu.out.trans hz2 fun _ _ h => h)
      have HKt := hidP hz1
      clear hz1 hz2 hK HGu
      generalize u.alloc (.cells #[.int .i64 tk, .string tx, .int .i64 (b : Int), .int .i64 (tn : Int), .int .i64 tf] 64) = U at HGU HKt ⊢
      have t0 : U.cell? ⟨K, 0, none⟩ = some (.int .i64 tk) := by simp [World.cell?, HKt.out]
      have t1 : U.cell? ⟨K, 1, none⟩ = some (.string tx) := by simp [World.cell?, HKt.out]
      have t2 : U.cell? ⟨K, 2, none⟩ = some (.int .i64 (b : Int)) := by simp [World.cell?, HKt.out]
      have t3 : U.cell? ⟨K, 3, none⟩ = some (.int .i64 (tn : Int)) := by simp [World.cell?, HKt.out]
      have t4 : U.cell? ⟨K, 4, none⟩ = some (.int .i64 tf) := by simp [World.cell?, HKt.out]
      have HXU := hidP ((HGU.out.block p (lt_of_heap HX.out) id).trans HX.out)
      have d0 : U.cell? ⟨p, 0, none⟩ = some (.string s) := by simp [World.cell?, HXU.out]
      have d1 : U.cell? ⟨p, 1, none⟩ = some (.int .i64 (a : Int)) := by simp [World.cell?, HXU.out]
      have d2 : U.cell? ⟨p, 2, none⟩ = some (.int .i64 (o : Int)) := by simp [World.cell?, HXU.out]
      have d3 : U.cell? ⟨p, 3, none⟩ = some (n) := by simp [World.cell?, HXU.out]
      have z1 : U.frozen? ⟨p, 1, none⟩ = false := frz HXU.out 1
      have z2 : U.frozen? ⟨p, 2, none⟩ = false := frz HXU.out 2
      have z3 : U.frozen? ⟨p, 3, none⟩ = false := frz HXU.out 3
      have HDU := hidP (HD.out.gr HGU.out)
      go_wp2_with (go_at_call 55; refine Calls.mono (HW.out _ _ HDU.out) ?_; rintro e v ⟨hk2, ⟨v0, rfl, rfl⟩, hD⟩; have HK2 := hidP ((Gr.n p HGU.out).tr hk2); have HD2 := hidP hD; clear hk2; obtain ⟨a2, n2, hX, _⟩ := hD; have c2 : v.cell? ⟨p, 2, none⟩ = some (.int .i64 (o : Int)) := (by simp [World.cell?, hX]); clear hX)
      go_ret
      exact DeQ.mk' (Gr.n p HGU.out) rfl HDU.out
    skip
    go_enter Tryz.func27, Tryz.ntmps27
    go_wp2_with (first | (go_at_call 24; refine Calls.mono (HSee.out) ?_; rintro e u ⟨hgu, rfl⟩; have HGu := hidP hgu; clear hgu) | (with_reducible show wpList Tryz.prog _ _ (Oper.mk (some 7) _ _ _ _ _ :: _) _ _; refine Hid.out ?_))
    unfold Hid
    have hz1 := heap_alloc_new u (.cells #[.int .i64 tk, .string tx, .int .i64 (b : Int), .int .i64 (tn : Int), .int .i64 tf] 64)
    have hz2 := gr_alloc u (.cells #[.int .i64 tk, .string tx, .int .i64 (b : Int), .int .i64 (tn : Int), .int .i64 tf] 64)
    have hKW : Hid (W.heap.size ≤ u.heap.size) := HGu.out.size
    obtain ⟨K, hK⟩ : ∃ K, K = u.heap.size := ⟨_, rfl⟩
    rw [← hK] at hz1 hKW ⊢
    have HGU := hidP (HGu.out.trans hz2 fun _ _ h => h)
    have HKt := hidP hz1
    clear hz1 hz2 hK HGu
    generalize u.alloc (.cells #[.int .i64 tk, .string tx, .int .i64 (b : Int), .int .i64 (tn : Int), .int .i64 tf] 64) = U at HGU HKt ⊢
    have t0 : U.cell? ⟨K, 0, none⟩ = some (.int .i64 tk) := by simp [World.cell?, HKt.out]
    have t1 : U.cell? ⟨K, 1, none⟩ = some (.string tx) := by simp [World.cell?, HKt.out]
    have t2 : U.cell? ⟨K, 2, none⟩ = some (.int .i64 (b : Int)) := by simp [World.cell?, HKt.out]
    have t3 : U.cell? ⟨K, 3, none⟩ = some (.int .i64 (tn : Int)) := by simp [World.cell?, HKt.out]
    have t4 : U.cell? ⟨K, 4, none⟩ = some (.int .i64 tf) := by simp [World.cell?, HKt.out]
    have HXU := hidP ((HGU.out.block p (lt_of_heap HX.out) id).trans HX.out)
    have d0 : U.cell? ⟨p, 0, none⟩ = some (.string s) := by simp [World.cell?, HXU.out]
    have d1 : U.cell? ⟨p, 1, none⟩ = some (.int .i64 (a : Int)) := by simp [World.cell?, HXU.out]
    have d2 : U.cell? ⟨p, 2, none⟩ = some (.int .i64 (o : Int)) := by simp [World.cell?, HXU.out]
    have d3 : U.cell? ⟨p, 3, none⟩ = some (n) := by simp [World.cell?, HXU.out]
    have z1 : U.frozen? ⟨p, 1, none⟩ = false := frz HXU.out 1
    have z2 : U.frozen? ⟨p, 2, none⟩ = false := frz HXU.out 2
    have z3 : U.frozen? ⟨p, 3, none⟩ = false := frz HXU.out 3
    have HDU := hidP (HD.out.gr HGU.out)
    go_wp2_with (go_at_call 55; refine Calls.mono (HW.out _ _ HDU.out) ?_; rintro e v ⟨hk2, ⟨v0, rfl, rfl⟩, hD⟩; have HK2 := hidP ((Gr.n p HGU.out).tr hk2); have HD2 := hidP hD; clear hk2; obtain ⟨a2, n2, hX, _⟩ := hD; have c2 : v.cell? ⟨p, 2, none⟩ = some (.int .i64 (o : Int)) := (by simp [World.cell?, hX]); clear hX)
    go_ret
    exact DeQ.mk' (Gr.n p HGU.out) rfl HDU.out
  have hek : (tk != 3) = true := bne_iff_ne.2 h0
  clear h0
  go_enter Tryz.func27, Tryz.ntmps27
  go_wp2_with (first | (go_at_call 24; refine Calls.mono (HSee.out) ?_; rintro e u ⟨hgu, rfl⟩; have HGu := hidP hgu; clear hgu) | (with_reducible show wpList Tryz.prog _ _ (Oper.mk (some 7) _ _ _ _ _ :: _) _ _; refine Hid.out ?_))
  unfold Hid
  have hz1 := heap_alloc_new u (.cells #[.int .i64 tk, .string tx, .int .i64 (b : Int), .int .i64 (tn : Int), .int .i64 tf] 64)
  have hz2 := gr_alloc u (.cells #[.int .i64 tk, .string tx, .int .i64 (b : Int), .int .i64 (tn : Int), .int .i64 tf] 64)
  have hKW : Hid (W.heap.size ≤ u.heap.size) := HGu.out.size
  obtain ⟨K, hK⟩ : ∃ K, K = u.heap.size := ⟨_, rfl⟩
  rw [← hK] at hz1 hKW ⊢
  have HGU := hidP (HGu.out.trans hz2 fun _ _ h => h)
  have HKt := hidP hz1
  clear hz1 hz2 hK HGu
  generalize u.alloc (.cells #[.int .i64 tk, .string tx, .int .i64 (b : Int), .int .i64 (tn : Int), .int .i64 tf] 64) = U at HGU HKt ⊢
  have t0 : U.cell? ⟨K, 0, none⟩ = some (.int .i64 tk) := by simp [World.cell?, HKt.out]
  have t1 : U.cell? ⟨K, 1, none⟩ = some (.string tx) := by simp [World.cell?, HKt.out]
  have t2 : U.cell? ⟨K, 2, none⟩ = some (.int .i64 (b : Int)) := by simp [World.cell?, HKt.out]
  have t3 : U.cell? ⟨K, 3, none⟩ = some (.int .i64 (tn : Int)) := by simp [World.cell?, HKt.out]
  have t4 : U.cell? ⟨K, 4, none⟩ = some (.int .i64 tf) := by simp [World.cell?, HKt.out]
  have HXU := hidP ((HGU.out.block p (lt_of_heap HX.out) id).trans HX.out)
  have d0 : U.cell? ⟨p, 0, none⟩ = some (.string s) := by simp [World.cell?, HXU.out]
  have d1 : U.cell? ⟨p, 1, none⟩ = some (.int .i64 (a : Int)) := by simp [World.cell?, HXU.out]
  have d2 : U.cell? ⟨p, 2, none⟩ = some (.int .i64 (o : Int)) := by simp [World.cell?, HXU.out]
  have d3 : U.cell? ⟨p, 3, none⟩ = some (n) := by simp [World.cell?, HXU.out]
  have z1 : U.frozen? ⟨p, 1, none⟩ = false := frz HXU.out 1
  have z2 : U.frozen? ⟨p, 2, none⟩ = false := frz HXU.out 2
  have z3 : U.frozen? ⟨p, 3, none⟩ = false := frz HXU.out 3
  have HDU := hidP (HD.out.gr HGU.out)
  go_wp2_with (go_at_call 55; refine Calls.mono (HW.out _ _ HDU.out) ?_; rintro e v ⟨hk2, ⟨v0, rfl, rfl⟩, hD⟩; have HK2 := hidP ((Gr.n p HGU.out).tr hk2); have HD2 := hidP hD; clear hk2; obtain ⟨a2, n2, hX, _⟩ := hD; have c2 : v.cell? ⟨p, 2, none⟩ = some (.int .i64 (o : Int)) := (by simp [World.cell?, hX]); clear hX)
  go_ret
  exact DeQ.mk' HK2.out rfl HD2.out
end Go.Proofs.YtkodgneneiledaaGreatDoor.Kit
