import Derived.Test.YtkodgneneiledaaGreatDoorYD
set_option maxRecDepth 100000
set_option maxHeartbeats 4000000
namespace Go.Proofs.YtkodgneneiledaaGreatDoor.Kit
open Go.RowKit Go.Shelf Go.Deep
set_option linter.unusedVariables false
attribute [local go_sem] run_store_func
theorem sk0 (T : List UInt8) (c : Nat) : skN (T.drop (c + skN (T.drop c))) = 0 := by
  rw [drop_sk]
  generalize T.drop c = l
  have h1 := congrArg List.length (drop_skN (sk l))
  rw [sk_sk, List.length_drop] at h1
  have h2 : skN (sk l) ≤ (sk l).length := (List.takeWhile_prefix _).length_le
  omega
theorem DA.step {W : World} {p : Nat} {s : ByteArray} {c : Nat} {g : List Nat} (h : DA W p s c g) : DA W p s (c + skN (s.data.toList.drop c)) g := by
  obtain ⟨a, vo, vc, hA, hsm, hgc, hcs⟩ := h
  exact ⟨a, vo, vc, hA, sm_step hsm, by omega, skN_le s hcs⟩
theorem tok_fld0 (tk : Int) (tx : ByteArray) (b tn : Nat) (tf : Int) (w : World) : (Instr.field 64 (.agg #[.int .i64 tk, .string tx, .int .i64 (b : Int), .int .i64 (tn : Int), .int .i64 tf]) 0).run Tryz.prog w = .ok (.int .i64 tk) w := by kernel_rfl
def nmP (T : List UInt8) : Pr ByteArray := (wordP T).bind fun x s => if x.1.size = 0 then .error x.2 else .ok (x.1, s)
theorem tok_word {T : List UInt8} {b : Nat} (h : wordsB (T.drop b) ≠ []) : tokOf T b = (1, ⟨(wordsB (T.drop b)).toArray⟩, b + wN (T.drop b), -1) := by
  cases hd : T.drop b with
  | nil => rw [hd] at h; exact absurd rfl h
  | cons c m =>
    have hw : wordB c.toNat = true := by
      by_cases hw : wordB c.toNat = true
      · exact hw
      rw [hd] at h; unfold wordsB at h; rw [List.takeWhile_cons_of_neg (p := fun b : UInt8 => wordB b.toNat) hw] at h; exact absurd rfl h
    unfold tokOf
    rw [hd]
    dsimp only
    rw [if_pos hw]
theorem tok_noword {T : List UInt8} {b : Nat} (h : wordsB (T.drop b) = []) : (tokOf T b).1 ≠ 1 := by
  unfold tokOf
  cases hd : T.drop b with
  | nil => show ¬ ((0 : Int) = 1); decide
  | cons c m =>
    have hw : ¬ wordB c.toNat = true := by
      intro hw
      rw [hd] at h; unfold wordsB at h; rw [List.takeWhile_cons_of_pos (p := fun b : UInt8 => wordB b.toNat) hw] at h; cases h
    dsimp only
    rw [if_neg hw]
    split
    · show ¬ ((2 : Int) = 1); decide
    split
    · split <;> (show ¬ ((3 : Int) = 1); decide)
    show ¬ ((4 : Int) = 1); decide
theorem tok_quote {T : List UInt8} {b : Nat} (h : (T.drop b).headD 0 = 34) : tokOf T b = match quoP T D0 [] (b + 1, []) with | .ok (x, q) => (3, x, q.1, -1) | .error o => (3, ⟨#[]⟩, 0, (o : Int)) := by
  obtain ⟨m, e⟩ := head_cons h (by decide)
  unfold tokOf
  rw [e]
  dsimp only
  rw [if_neg (by decide), if_neg (by decide), if_pos rfl]
  cases quoP T D0 [] (b + 1, []) <;> rfl
theorem tok_noquote {T : List UInt8} {b : Nat} (h : (T.drop b).headD 0 ≠ 34) : (tokOf T b).1 ≠ 3 := by
  unfold tokOf
  cases hd : T.drop b with
  | nil => show ¬ ((0 : Int) = 3); decide
  | cons c m =>
    rw [hd] at h
    dsimp only
    split
    · show ¬ ((1 : Int) = 3); decide
    split
    · show ¬ ((2 : Int) = 3); decide
    rw [if_neg (show ¬ c = 34 from h)]; show ¬ ((4 : Int) = 3); decide
def Na {α : Type} (r : Pr α) : Prop := ∀ k, (∃ o, ∀ g, r (k, g) = .error o) ∨ ∃ x k', ∀ g, r (k, g) = .ok (x, (k', g))
theorem Na.bind {α β : Type} {r : Pr α} {f : α → Pr β} (h : Na r) (hf : ∀ x, Na (f x)) : Na (r.bind f) := fun k => by
  rcases h k with ⟨o, e⟩ | ⟨x, k', e⟩
  · exact .inl ⟨o, fun g => Pr.bind_err (e g)⟩
  rcases hf x k' with ⟨o, e2⟩ | ⟨y, k2, e2⟩
  · exact .inl ⟨o, fun g => (Pr.bind_ok (e g)).trans (e2 g)⟩
  exact .inr ⟨y, k2, fun g => (Pr.bind_ok (e g)).trans (e2 g)⟩
theorem Na.pure {α : Type} (x : α) : Na (Pr.pure x) := fun k => .inr ⟨x, k, fun _ => rfl⟩
theorem Na.err {α : Type} (o : Nat) : Na (fun _ => .error o : Pr α) := fun k => .inl ⟨o, fun _ => rfl⟩
theorem na_next (T : List UInt8) : Na (nextP T) := fun k => by
  unfold nextP
  cases h : T[k]? with
  | none => exact .inl ⟨k, fun g => by simp only [h]⟩
  | some c => exact .inr ⟨c, k + 1, fun g => by simp only [h]⟩
theorem na_digit (T : List UInt8) (o : Nat) : Na (digitP T o) := by
  refine (na_next T).bind fun c => ?_
  cases h : hexV c with
  | none => exact Na.err o
  | some n => exact Na.pure n
theorem na_esc (T : List UInt8) (o : Nat) : Na (escP T o) := by
  refine (na_next T).bind fun c => ?_
  split
  · exact Na.pure c
  split
  · exact (na_digit T o).bind fun h => (na_digit T o).bind fun l => Na.pure _
  exact Na.err o
theorem na_quo (T : List UInt8) : ∀ n acc, Na (quoP T n acc)
  | 0, acc => fun k => .inl ⟨k, fun g => rfl⟩
  | n + 1, acc => fun k => by
    have h : Na ((nextP T).bind (fun c => if c = 34 then Pr.pure (⟨acc.toArray⟩ : ByteArray) else if c = 92 then (escP T k).bind fun b => quoP T n (acc ++ [b]) else if plainB c then quoP T n (acc ++ [c]) else fun _ => .error k)) := by
      refine (na_next T).bind fun c => ?_
      split
      · exact Na.pure _
      split
      · exact (na_esc T k).bind fun b => na_quo T n _
      split
      · exact na_quo T n _
      exact Na.err k
    rcases h k with ⟨o, e⟩ | ⟨x, k', e⟩
    · exact .inl ⟨o, fun g => by rw [quoP]; exact e g⟩
    exact .inr ⟨x, k', fun g => by rw [quoP]; exact e g⟩
theorem must95 (p : Nat) (s : ByteArray) (d : Nat) (ch : UInt8) (hch : signB ch) : DnC p s d 95 #[.pointer (some ⟨p, 0, none⟩), .string ⟨#[ch]⟩] (mustP s.data.toList ch) (fun _ _ _ v => v = .tuple #[]) (fun v => v = .tuple #[]) := by
  intro W c g hN hd
  have hq := sign26 p s d ch hch (fun _ => True) W c g hN hd
  by_cases hh : (sk (s.data.toList.drop c)).headD 0 = ch
  · rw [takes_yes g hh] at hq
    have HE := hidP (must_yes (takes_yes g hh))
    rw [HE.out]
    have HQ := hidP hq
    clear hq HE hh hN hch
    go_enter Tryz.func95, Tryz.ntmps95
    go_wp2_with (go_at_call 26; refine Calls.mono HQ.out ?_; rintro e u ⟨hk, v, rfl, rfl, hA⟩; have HK := hidP hk; have HA := hidP hA; clear hk hA)
    go_end0
    exact DnQ.ok HK.out rfl rfl HA.out
  rw [takes_no g hh] at hq
  have HE := hidP (must_no (takes_no g hh))
  rw [HE.out]
  have HQ := hidP hq
  have HZ := hidP (sk0 s.data.toList c)
  clear hq HE hh hN hch
  generalize c + skN (s.data.toList.drop c) = b at HQ HZ ⊢
  go_enter Tryz.func95, Tryz.ntmps95
  go_wp2_with (first | (go_at_call 26; refine Calls.mono HQ.out ?_; rintro e u ⟨hk, v, rfl, rfl, hA⟩; have HK := hidP hk; have HW := hidP (wrong55 p s u b g hA); clear hk hA) | (go_at_call 55; refine Calls.mono HW.out ?_; rintro e u2 ⟨hk2, rfl, hD⟩; have HK2 := hidP (HK.out.tr hk2); have HD := hidP hD; clear hk2 hD))
  go_end0
  exact DnQ.err HK2.out rfl rfl (by have := HD.out; rw [HZ.out] at this; exact this)
theorem must95_dead (p : Nat) (s : ByteArray) (x : ByteArray) : DeC p s 95 #[.pointer (some ⟨p, 0, none⟩), .string x] (fun v => v = .tuple #[]) := by
  intro W o hD
  have HQ := hidP (sign26_dead p s x W o hD)
  clear hD
  have HW := hidP (wrong55_dead p s)
  go_enter Tryz.func95, Tryz.ntmps95
  go_wp2_with (first | (go_at_call 26; refine Calls.mono HQ.out ?_; rintro e u ⟨hk, ⟨v, rfl, rfl⟩, hD⟩; have HK := hidP hk; have HD := hidP hD; clear hk hD) | (go_at_call 55; refine Calls.mono (HW.out _ _ HD.out) ?_; rintro e u2 ⟨hk2, ⟨v, rfl, rfl⟩, hD⟩; have HK2 := hidP (HK.out.tr hk2); have HD2 := hidP hD; clear hk2 hD))
  go_end0
  exact DeQ.mk' HK2.out rfl HD2.out
theorem end28 (p : Nat) (s : ByteArray) (d : Nat) : DnC p s d 28 #[.pointer (some ⟨p, 0, none⟩)] (endP s.data.toList) (fun _ _ _ v => v = .tuple #[]) (fun v => v = .tuple #[]) := by
  intro W c g hN _
  have HN := hidP hN
  obtain ⟨a, vo, vc, hA, hsm, hgc, hcs⟩ := hN
  have HSee := hidP (see24 p s a _ _ W hA.box hA.pos hA.len)
  unfold tokV at HSee
  rw [show a + skN (s.data.toList.drop a) = c + skN (s.data.toList.drop c) from hsm] at HSee
  have HA := hidP hA
  have hb := skN_le s hcs
  have hsz : s.data.toList.length = s.size := by simp
  have hiff := tok_end0 hb
  have HW := hidP (fun U (h : DA U p s c g) => wrong55 p s U c g h)
  have Hok : Hid (¬ c + skN (s.data.toList.drop c) < s.size → endP s.data.toList (c, g) = .ok ((), (c + skN (s.data.toList.drop c), g))) := fun h => (Pr.bind_ok rfl).trans (if_neg (by rw [hsz]; exact h))
  have Her : Hid (c + skN (s.data.toList.drop c) < s.size → endP s.data.toList (c, g) = .error (c + skN (s.data.toList.drop c))) := fun h => (Pr.bind_ok rfl).trans (if_pos (by rw [hsz]; exact h))
  have HSt := hidP (fun U (h : DA U p s c g) => h.step)
  clear hA hsm hgc hsz
  generalize endP s.data.toList (c, g) = R at Hok Her ⊢
  generalize c + skN (s.data.toList.drop c) = b at HSee hb hiff HW HSt Hok Her
  rcases hTok : tokOf s.data.toList b with ⟨tk, tx, tn, tf⟩
  rw [hTok] at HSee
  (try dsimp only at HSee)
  rw [hTok] at hiff
  (try dsimp only at hiff)
  clear hTok
  have hfl := tok_fld0 tk tx b tn tf
  by_cases h0 : tk = 0
  · have hek : (tk != 0) = false := by rw [h0]; rfl
    have HE := hidP (Hok.out (by have := hiff.1 h0; omega))
    clear h0 hiff Hok Her
    go_enter Tryz.func28, Tryz.ntmps28
    go_wp2_with (first | (go_at_call 24; refine Calls.mono HSee.out ?_; rintro e u ⟨hgu, rfl⟩; have HGu := hidP hgu; have HNu := hidP (HN.out.gr hgu); clear hgu) | (go_at_call 55; refine Calls.mono (HW.out _ HNu.out) ?_; rintro e u2 ⟨hk2, rfl, hD⟩; have HK2 := hidP ((Gr.n p HGu.out).tr hk2); have HD := hidP hD; clear hk2 hD))
    go_end0
    exact DnQ.ok (Gr.n p HGu.out) HE.out rfl (HSt.out _ HNu.out)
  have hek : (tk != 0) = true := bne_iff_ne.2 h0
  have HE := hidP (Her.out (by have : ¬ b = s.size := fun h => h0 (hiff.2 h); omega))
  clear h0 hiff Hok Her
  go_enter Tryz.func28, Tryz.ntmps28
  go_wp2_with (first | (go_at_call 24; refine Calls.mono HSee.out ?_; rintro e u ⟨hgu, rfl⟩; have HGu := hidP hgu; have HNu := hidP (HN.out.gr hgu); clear hgu) | (go_at_call 55; refine Calls.mono (HW.out _ HNu.out) ?_; rintro e u2 ⟨hk2, rfl, hD⟩; have HK2 := hidP ((Gr.n p HGu.out).tr hk2); have HD := hidP hD; clear hk2 hD))
  go_end0
  exact DnQ.err HK2.out HE.out rfl HD.out
theorem end28_dead (p : Nat) (s : ByteArray) : DeC p s 28 #[.pointer (some ⟨p, 0, none⟩)] (fun v => v = .tuple #[]) := by
  intro W o hD
  obtain ⟨a, n, hX, hs, ha, hpz⟩ := hD
  have HSee := hidP (see24 p s a _ _ W hX ha hs)
  unfold tokV at HSee
  have HX := hidP hX
  have HD := hidP (show DD W p s o from ⟨a, n, hX, hs, ha, hpz⟩)
  generalize a + skN (s.data.toList.drop a) = b at HSee
  rcases hTok : tokOf s.data.toList b with ⟨tk, tx, tn, tf⟩
  rw [hTok] at HSee
  (try dsimp only at HSee)
  clear hTok hX
  have hfl := tok_fld0 tk tx b tn tf
  have HW := hidP (wrong55_dead p s)
  by_cases h0 : tk = 0
  · have hek : (tk != 0) = false := by rw [h0]; rfl
    clear h0
    go_enter Tryz.func28, Tryz.ntmps28
    go_wp2_with (first | (go_at_call 24; refine Calls.mono HSee.out ?_; rintro e u ⟨hgu, rfl⟩; have HGu := hidP hgu; have HDu := hidP (HD.out.gr hgu); clear hgu) | (go_at_call 55; refine Calls.mono (HW.out _ _ HDu.out) ?_; rintro e u2 ⟨hk2, ⟨v, rfl, rfl⟩, hD⟩; have HK2 := hidP ((Gr.n p HGu.out).tr hk2); have HD2 := hidP hD; clear hk2 hD))
    go_end0
    exact DeQ.mk' (Gr.n p HGu.out) rfl HDu.out
  have hek : (tk != 0) = true := bne_iff_ne.2 h0
  clear h0
  go_enter Tryz.func28, Tryz.ntmps28
  go_wp2_with (first | (go_at_call 24; refine Calls.mono HSee.out ?_; rintro e u ⟨hgu, rfl⟩; have HGu := hidP hgu; have HDu := hidP (HD.out.gr hgu); clear hgu) | (go_at_call 55; refine Calls.mono (HW.out _ _ HDu.out) ?_; rintro e u2 ⟨hk2, ⟨v, rfl, rfl⟩, hD⟩; have HK2 := hidP ((Gr.n p HGu.out).tr hk2); have HD2 := hidP hD; clear hk2 hD))
  go_end0
  exact DeQ.mk' HK2.out rfl HD2.out
theorem name61D (p : Nat) (s : ByteArray) (d : Nat) : DnC p s d 61 #[.pointer (some ⟨p, 0, none⟩)] (nmP s.data.toList) (fun _ _ x v => v = .string x) (fun v => v = .string ⟨#[]⟩) := by
  intro W c g hN _
  have HN := hidP hN
  obtain ⟨a, vo, vc, hA, hsm, hgc, hcs⟩ := hN
  have HSee := hidP (see24 p s a _ _ W hA.box hA.pos hA.len)
  unfold tokV at HSee
  rw [show a + skN (s.data.toList.drop a) = c + skN (s.data.toList.drop c) from hsm] at HSee
  have HA := hidP hA
  have hb := skN_le s hcs
  have HR : Hid (nmP s.data.toList (c, g) = if (wordsB (s.data.toList.drop (c + skN (s.data.toList.drop c)))).toArray.size = 0 then .error (c + skN (s.data.toList.drop c)) else .ok (⟨(wordsB (s.data.toList.drop (c + skN (s.data.toList.drop c)))).toArray⟩, (c + skN (s.data.toList.drop c) + wN (s.data.toList.drop (c + skN (s.data.toList.drop c))), g))) := by show _ = _; rfl
  have HW := hidP (fun U (h : DA U p s c g) => wrong55 p s U c g h)
  have hwl := wN_le s hb
  rw [HR.out]
  have Hgc := hidP hgc
  have Hcb : Hid (c ≤ c + skN (s.data.toList.drop c)) := Nat.le_add_right _ _
  clear HR hsm hgc hA
  generalize c + skN (s.data.toList.drop c) = b at HSee hb HW hwl Hcb ⊢
  by_cases h0 : wordsB (s.data.toList.drop b) = []
  · rw [if_pos (by rw [h0]; rfl)]
    have hne := tok_noword h0
    rcases hTok : tokOf s.data.toList b with ⟨tk, tx, tn, tf⟩
    rw [hTok] at HSee
    (try dsimp only at HSee)
    rw [hTok] at hne
    have hek : (tk != 1) = true := bne_iff_ne.2 hne
    clear hne hTok h0
    have h0b : (0 : Int) ≤ (b : Int) := by omega
    go_enter Tryz.func61, Tryz.ntmps61
    go_wp2_with (first | (go_at_call 24; refine Calls.mono (HSee.out) ?_; rintro e u ⟨hgu, rfl⟩; have HGu := hidP hgu; clear hgu) | (with_reducible show wpList Tryz.prog _ _ (Oper.mk (some 7) _ _ _ _ _ :: _) _ _; refine Hid.out ?_))
    unfold Hid
    have hz1 := heap_alloc_new u (.cells #[.int .i64 tk, .string tx, .int .i64 (b : Int), .int .i64 (tn : Int), .int .i64 tf] 64)
    have hz2 := gr_alloc u (.cells #[.int .i64 tk, .string tx, .int .i64 (b : Int), .int .i64 (tn : Int), .int .i64 tf] 64)
    have hKW : Hid (W.heap.size ≤ u.heap.size) := HGu.out.size
    obtain ⟨K, hK⟩ : ∃ K, K = u.heap.size := ⟨_, rfl⟩
    rw [← hK] at hz1 hKW ⊢
    have HGU := hidP (HGu.out.trans hz2 fun _ _ h => h)
    have HKt := hidP hz1
    clear hz1 hz2 hK HGu
    generalize u.alloc (.cells #[.int .i64 tk, .string tx, .int .i64 (b : Int), .int .i64 (tn : Int), .int .i64 tf] 64) = U at HGU HKt ⊢
    have t0 : U.cell? ⟨K, 0, none⟩ = some (.int .i64 tk) := by simp [World.cell?, HKt.out]
    have t1 : U.cell? ⟨K, 1, none⟩ = some (.string tx) := by simp [World.cell?, HKt.out]
    have t2 : U.cell? ⟨K, 2, none⟩ = some (.int .i64 (b : Int)) := by simp [World.cell?, HKt.out]
    have t3 : U.cell? ⟨K, 3, none⟩ = some (.int .i64 (tn : Int)) := by simp [World.cell?, HKt.out]
    have t4 : U.cell? ⟨K, 4, none⟩ = some (.int .i64 tf) := by simp [World.cell?, HKt.out]
    have HWU := hidP (HW.out U (HN.out.gr HGU.out))
    go_wp2_with (go_at_call 55; refine Calls.mono HWU.out ?_; rintro e v ⟨hk2, rfl, hD⟩; have HK2 := hidP ((Gr.n p HGU.out).tr hk2); have HD := hidP hD; clear hk2; obtain ⟨a2, n2, hX, _⟩ := hD; have c2 : v.cell? ⟨p, 2, none⟩ = some (.int .i64 (b : Int)) := (by simp [World.cell?, hX]); clear hX)
    go_ret
    exact DnQ.err HK2.out rfl rfl HD.out
  rw [if_neg (by rw [List.size_toArray]; exact fun h => h0 (List.eq_nil_of_length_eq_zero h))]
  have hq := tok_word h0
  rcases hTok : tokOf s.data.toList b with ⟨tk, tx, tn, tf⟩
  rw [hTok] at HSee
  (try dsimp only at HSee)
  rw [hTok] at hq
  simp only [Prod.mk.injEq] at hq
  obtain ⟨htk, htx, htn, htf⟩ := hq
  clear h0 HW hTok
  generalize wordsB (s.data.toList.drop b) = ws at htx ⊢
  rw [← htx, ← htn]
  rw [← htn] at hwl
  have Htn : Hid (b ≤ tn) := by show b ≤ tn; omega
  have hek : (tk != 1) = false := by rw [htk]; rfl
  clear htf htn htk htx
  go_enter Tryz.func61, Tryz.ntmps61
  go_wp2_with (first | (go_at_call 24; refine Calls.mono (HSee.out) ?_; rintro e u ⟨hgu, rfl⟩; have HGu := hidP hgu; clear hgu) | (with_reducible show wpList Tryz.prog _ _ (Oper.mk (some 7) _ _ _ _ _ :: _) _ _; refine Hid.out ?_))
  unfold Hid
  have hz1 := heap_alloc_new u (.cells #[.int .i64 tk, .string tx, .int .i64 (b : Int), .int .i64 (tn : Int), .int .i64 tf] 64)
  have hz2 := gr_alloc u (.cells #[.int .i64 tk, .string tx, .int .i64 (b : Int), .int .i64 (tn : Int), .int .i64 tf] 64)
  have hKW : Hid (W.heap.size ≤ u.heap.size) := HGu.out.size
  obtain ⟨K, hK⟩ : ∃ K, K = u.heap.size := ⟨_, rfl⟩
  rw [← hK] at hz1 hKW ⊢
  have HGU := hidP (HGu.out.trans hz2 fun _ _ h => h)
  have HKt := hidP hz1
  clear hz1 hz2 hK HGu
  generalize u.alloc (.cells #[.int .i64 tk, .string tx, .int .i64 (b : Int), .int .i64 (tn : Int), .int .i64 tf] 64) = U at HGU HKt ⊢
  have t0 : U.cell? ⟨K, 0, none⟩ = some (.int .i64 tk) := by simp [World.cell?, HKt.out]
  have t1 : U.cell? ⟨K, 1, none⟩ = some (.string tx) := by simp [World.cell?, HKt.out]
  have t2 : U.cell? ⟨K, 2, none⟩ = some (.int .i64 (b : Int)) := by simp [World.cell?, HKt.out]
  have t3 : U.cell? ⟨K, 3, none⟩ = some (.int .i64 (tn : Int)) := by simp [World.cell?, HKt.out]
  have t4 : U.cell? ⟨K, 4, none⟩ = some (.int .i64 tf) := by simp [World.cell?, HKt.out]
  have HAU := hidP (HA.out.gr HGU.out)
  have d0 : U.cell? ⟨p, 0, none⟩ = some (.string s) := by simp [World.cell?, HAU.out.box]
  have d1 : U.cell? ⟨p, 1, none⟩ = some (.int .i64 (a : Int)) := by simp [World.cell?, HAU.out.box]
  have d2 : U.cell? ⟨p, 2, none⟩ = some (.int .i64 (-1)) := by simp [World.cell?, HAU.out.box]
  have d3 : U.cell? ⟨p, 3, none⟩ = some (.slice vo g.length vc) := by simp [World.cell?, HAU.out.box]
  have z1 : U.frozen? ⟨p, 1, none⟩ = false := frz HAU.out.box 1
  have z2 : U.frozen? ⟨p, 2, none⟩ = false := frz HAU.out.box 2
  have z3 : U.frozen? ⟨p, 3, none⟩ = false := frz HAU.out.box 3
  have hpK : ¬ p = K := by have := hKW.out; have := lt_of_heap HA.out.box; omega
  have hKp : ¬ K = p := fun h => hpK h.symm
  go_wp2_with fail
  go_ret
  exact DnQ.ok (kpn_set HGU.out) rfl rfl ⟨tn, vo, vc, HAU.out.move hwl, rfl, by have := Hgc.out; have := Hcb.out; have := Htn.out; omega, hwl⟩
theorem name61D_dead (p : Nat) (s : ByteArray) : DeC p s 61 #[.pointer (some ⟨p, 0, none⟩)] (fun v => v = .string ⟨#[]⟩) := by
  intro W o hD
  obtain ⟨a, n, hX, hs, ha, hpz⟩ := hD
  have HSee := hidP (see24 p s a _ _ W hX ha hs)
  unfold tokV at HSee
  have HX := hidP hX
  have HD := hidP (show DD W p s o from ⟨a, n, hX, hs, ha, hpz⟩)
  generalize a + skN (s.data.toList.drop a) = b at HSee
  rcases hTok : tokOf s.data.toList b with ⟨tk, tx, tn, tf⟩
  rw [hTok] at HSee
  (try dsimp only at HSee)
  clear hTok hX
  have HW := hidP (wrong55_dead p s)
  have h0o : (0 : Int) ≤ (o : Int) := by omega
  have h1o : ¬ (o : Int) < 0 := by omega
  by_cases h0 : tk = 1
  · have hek : (tk != 1) = false := by rw [h0]; rfl
    clear h0
    go_enter Tryz.func61, Tryz.ntmps61
    go_wp2_with (first | (go_at_call 24; refine Calls.mono (HSee.out) ?_; rintro e u ⟨hgu, rfl⟩; have HGu := hidP hgu; clear hgu) | (with_reducible show wpList Tryz.prog _ _ (Oper.mk (some 7) _ _ _ _ _ :: _) _ _; refine Hid.out ?_))
    unfold Hid
    have hz1 := heap_alloc_new u (.cells #[.int .i64 tk, .string tx, .int .i64 (b : Int), .int .i64 (tn : Int), .int .i64 tf] 64)
    have hz2 := gr_alloc u (.cells #[.int .i64 tk, .string tx, .int .i64 (b : Int), .int .i64 (tn : Int), .int .i64 tf] 64)
    have hKW : Hid (W.heap.size ≤ u.heap.size) := HGu.out.size
    obtain ⟨K, hK⟩ : ∃ K, K = u.heap.size := ⟨_, rfl⟩
    rw [← hK] at hz1 hKW ⊢
    have HGU := hidP (HGu.out.trans hz2 fun _ _ h => h)
    have HKt := hidP hz1
    clear hz1 hz2 hK HGu
    generalize u.alloc (.cells #[.int .i64 tk, .string tx, .int .i64 (b : Int), .int .i64 (tn : Int), .int .i64 tf] 64) = U at HGU HKt ⊢
    have t0 : U.cell? ⟨K, 0, none⟩ = some (.int .i64 tk) := by simp [World.cell?, HKt.out]
    have t1 : U.cell? ⟨K, 1, none⟩ = some (.string tx) := by simp [World.cell?, HKt.out]
    have t2 : U.cell? ⟨K, 2, none⟩ = some (.int .i64 (b : Int)) := by simp [World.cell?, HKt.out]
    have t3 : U.cell? ⟨K, 3, none⟩ = some (.int .i64 (tn : Int)) := by simp [World.cell?, HKt.out]
    have t4 : U.cell? ⟨K, 4, none⟩ = some (.int .i64 tf) := by simp [World.cell?, HKt.out]
    have HXU := hidP ((HGU.out.block p (lt_of_heap HX.out) id).trans HX.out)
    have d0 : U.cell? ⟨p, 0, none⟩ = some (.string s) := by simp [World.cell?, HXU.out]
    have d1 : U.cell? ⟨p, 1, none⟩ = some (.int .i64 (a : Int)) := by simp [World.cell?, HXU.out]
    have d2 : U.cell? ⟨p, 2, none⟩ = some (.int .i64 (o : Int)) := by simp [World.cell?, HXU.out]
    have d3 : U.cell? ⟨p, 3, none⟩ = some (n) := by simp [World.cell?, HXU.out]
    have z1 : U.frozen? ⟨p, 1, none⟩ = false := frz HXU.out 1
    have z2 : U.frozen? ⟨p, 2, none⟩ = false := frz HXU.out 2
    have z3 : U.frozen? ⟨p, 3, none⟩ = false := frz HXU.out 3
    have HDU := hidP (HD.out.gr HGU.out)
    go_wp2_with (go_at_call 55; refine Calls.mono (HW.out _ _ HDU.out) ?_; rintro e v ⟨hk2, ⟨v0, rfl, rfl⟩, hD⟩; have HK2 := hidP ((Gr.n p HGU.out).tr hk2); have HD2 := hidP hD; clear hk2; obtain ⟨a2, n2, hX, _⟩ := hD; have c2 : v.cell? ⟨p, 2, none⟩ = some (.int .i64 (o : Int)) := (by simp [World.cell?, hX]); clear hX)
    go_ret
    exact DeQ.mk' (Gr.n p HGU.out) rfl HDU.out
  have hek : (tk != 1) = true := bne_iff_ne.2 h0
  clear h0
  go_enter Tryz.func61, Tryz.ntmps61
  go_wp2_with (first | (go_at_call 24; refine Calls.mono (HSee.out) ?_; rintro e u ⟨hgu, rfl⟩; have HGu := hidP hgu; clear hgu) | (with_reducible show wpList Tryz.prog _ _ (Oper.mk (some 7) _ _ _ _ _ :: _) _ _; refine Hid.out ?_))
  unfold Hid
  have hz1 := heap_alloc_new u (.cells #[.int .i64 tk, .string tx, .int .i64 (b : Int), .int .i64 (tn : Int), .int .i64 tf] 64)
  have hz2 := gr_alloc u (.cells #[.int .i64 tk, .string tx, .int .i64 (b : Int), .int .i64 (tn : Int), .int .i64 tf] 64)
  have hKW : Hid (W.heap.size ≤ u.heap.size) := HGu.out.size
  obtain ⟨K, hK⟩ : ∃ K, K = u.heap.size := ⟨_, rfl⟩
  rw [← hK] at hz1 hKW ⊢
  have HGU := hidP (HGu.out.trans hz2 fun _ _ h => h)
  have HKt := hidP hz1
  clear hz1 hz2 hK HGu
  generalize u.alloc (.cells #[.int .i64 tk, .string tx, .int .i64 (b : Int), .int .i64 (tn : Int), .int .i64 tf] 64) = U at HGU HKt ⊢
  have t0 : U.cell? ⟨K, 0, none⟩ = some (.int .i64 tk) := by simp [World.cell?, HKt.out]
  have t1 : U.cell? ⟨K, 1, none⟩ = some (.string tx) := by simp [World.cell?, HKt.out]
  have t2 : U.cell? ⟨K, 2, none⟩ = some (.int .i64 (b : Int)) := by simp [World.cell?, HKt.out]
  have t3 : U.cell? ⟨K, 3, none⟩ = some (.int .i64 (tn : Int)) := by simp [World.cell?, HKt.out]
  have t4 : U.cell? ⟨K, 4, none⟩ = some (.int .i64 tf) := by simp [World.cell?, HKt.out]
  have HXU := hidP ((HGU.out.block p (lt_of_heap HX.out) id).trans HX.out)
  have d0 : U.cell? ⟨p, 0, none⟩ = some (.string s) := by simp [World.cell?, HXU.out]
  have d1 : U.cell? ⟨p, 1, none⟩ = some (.int .i64 (a : Int)) := by simp [World.cell?, HXU.out]
  have d2 : U.cell? ⟨p, 2, none⟩ = some (.int .i64 (o : Int)) := by simp [World.cell?, HXU.out]
  have d3 : U.cell? ⟨p, 3, none⟩ = some (n) := by simp [World.cell?, HXU.out]
  have z1 : U.frozen? ⟨p, 1, none⟩ = false := frz HXU.out 1
  have z2 : U.frozen? ⟨p, 2, none⟩ = false := frz HXU.out 2
  have z3 : U.frozen? ⟨p, 3, none⟩ = false := frz HXU.out 3
  have HDU := hidP (HD.out.gr HGU.out)
  go_wp2_with (go_at_call 55; refine Calls.mono (HW.out _ _ HDU.out) ?_; rintro e v ⟨hk2, ⟨v0, rfl, rfl⟩, hD⟩; have HK2 := hidP ((Gr.n p HGU.out).tr hk2); have HD2 := hidP hD; clear hk2; obtain ⟨a2, n2, hX, _⟩ := hD; have c2 : v.cell? ⟨p, 2, none⟩ = some (.int .i64 (o : Int)) := (by simp [World.cell?, hX]); clear hX)
  go_ret
  exact DeQ.mk' HK2.out rfl HD2.out
end Go.Proofs.YtkodgneneiledaaGreatDoor.Kit
