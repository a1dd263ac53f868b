import Derived.Test.YtkodgneneiledaaGreatDoorYF
import Derived.Test.YtkodgneneiledaaGreatDoorUL
set_option maxRecDepth 100000
set_option maxHeartbeats 4000000
namespace Go.Proofs.YtkodgneneiledaaGreatDoor.Kit
open Go.RowKit Go.Shelf Go.Deep
set_option linter.unusedVariables false
attribute [local go_sem] run_store_func
theorem tok_one {T : List UInt8} {b : Nat} {tk : Int} {tx : ByteArray} {tn : Nat} {tf : Int} (h : tokOf T b = (tk, tx, tn, tf)) (h1 : tk = 1) : wordsB (T.drop b) ≠ [] ∧ tx = ⟨(wordsB (T.drop b)).toArray⟩ ∧ tn = b + wN (T.drop b) := by
  have hne : wordsB (T.drop b) ≠ [] := fun e => tok_noword e (by rw [h]; exact h1)
  have e := tok_word hne
  rw [h] at e
  simp only [Prod.mk.injEq] at e
  exact ⟨hne, e.2.1, e.2.2.1⟩
theorem mean_tok {s : ByteArray} {c b : Nat} {g : List Nat} {of : ByteArray → Int} (hof : of ⟨#[]⟩ < 0) (hbe : b = c + skN (s.data.toList.drop c)) (hb : b ≤ s.size) {tk : Int} {tx : ByteArray} {tn : Nat} {tf : Int} (h : tokOf s.data.toList b = (tk, tx, tn, tf)) :
    meanP s.data.toList of (c, g) = (if (if tk = 1 then of tx else -1) < 0 then .error b else .ok ((if tk = 1 then of tx else -1), (tn, g))) ∧ (tk = 1 → b < tn ∧ tn ≤ s.size ∧ tx.size ≠ 0 ∧ tx.size ≤ s.size) := by
  have e0 : meanP s.data.toList of (c, g) = if of ⟨(wordsB (s.data.toList.drop b)).toArray⟩ < 0 then .error b else .ok (of ⟨(wordsB (s.data.toList.drop b)).toArray⟩, (b + wN (s.data.toList.drop b), g)) := by rw [hbe]; rfl
  rw [e0]
  by_cases h1 : tk = 1
  · obtain ⟨hne, hx, hn⟩ := tok_one h h1
    rw [if_pos h1, hx, hn]
    refine ⟨rfl, fun _ => ?_⟩
    have h2 : wN (s.data.toList.drop b) ≠ 0 := fun e => hne (List.eq_nil_of_length_eq_zero e)
    have h3 := wN_le s hb
    refine ⟨by omega, h3, ?_, ?_⟩
    · show (wordsB (s.data.toList.drop b)).toArray.size ≠ 0; rw [List.size_toArray]; exact h2
    show (wordsB (s.data.toList.drop b)).toArray.size ≤ s.size; rw [List.size_toArray]; show wN (s.data.toList.drop b) ≤ s.size; omega
  rw [if_neg h1]
  have hw : wordsB (s.data.toList.drop b) = [] := by
    by_cases e : wordsB (s.data.toList.drop b) = []
    · exact e
    have := tok_word e
    rw [h] at this
    simp only [Prod.mk.injEq] at this
    exact absurd this.1 h1
  rw [hw, if_pos hof, if_pos (by decide)]
  exact ⟨rfl, fun h => absurd h h1⟩
theorem number96 (p : Nat) (s : ByteArray) (d : Nat) : DnC p s d 96 #[.pointer (some ⟨p, 0, none⟩)] (meanP s.data.toList numO) (fun _ _ x v => v = .int .i64 x) (fun v => ∃ n, v = .int .i64 n) := by
  intro W c g hN _
  have HN := hidP hN
  obtain ⟨a, vo, vc, hA, hsm, hgc, hcs⟩ := hN
  have HSee := hidP (see24 p s a _ _ W hA.box hA.pos hA.len)
  unfold tokV at HSee
  rw [show a + skN (s.data.toList.drop a) = c + skN (s.data.toList.drop c) from hsm] at HSee
  have HA := hidP hA
  have hb := skN_le s hcs
  have HW := hidP (fun U (h : DA U p s c g) => wrong55 p s U c g h)
  have hbe : c + skN (s.data.toList.drop c) = c + skN (s.data.toList.drop c) := rfl
  have hbc : c ≤ c + skN (s.data.toList.drop c) := Nat.le_add_right _ _
  have hsz := hA.len
  clear hA hsm
  generalize hgb : c + skN (s.data.toList.drop c) = b at HSee hb HW hbc
  rcases hTok : tokOf s.data.toList b with ⟨tk, tx, tn, tf⟩
  rw [hTok] at HSee
  (try dsimp only at HSee)
  have hm := mean_tok (g := g) (of := numO) (by decide) hgb.symm hb hTok
  obtain ⟨R, hR⟩ : ∃ R, R = meanP s.data.toList numO (c, g) := ⟨_, rfl⟩
  rw [← hR]
  rw [← hR] at hm
  have HR := hidP hm.1
  have hm2 := hm.2
  clear hTok hm hR hgb
  generalize hz : (if tk = 1 then numO tx else -1) = z at HR
  have h0b : (0 : Int) ≤ (b : Int) := by omega
  have Hbt : Hid (tk = 1 → g.length ≤ tn ∧ tn ≤ s.size) := fun h => by have := hm2 h; omega
  by_cases h1 : tk = 1
  · have hek : (tk == 1) = true := by rw [h1]; rfl
    obtain ⟨-, -, hx0, hxs⟩ := hm2 h1
    rw [if_pos h1] at hz
    have Hbt2 := hidP (Hbt.out h1)
    clear Hbt
    have Hz1 := hidP hz
    clear h1 hz hm2
    by_cases h4 : 4 < tx.size
    · have HZ : Hid (z = -1) := Hz1.out.symm.trans (if_pos (.inr (.inl h4)))
      have i4 : ¬ ((tx.size : Int) ≤ 4) := by omega
      go_enter Tryz.func96, Tryz.ntmps96
      go_wp2_with (first | (go_at_call 24; refine Calls.mono (HSee.out) ?_; rintro e u ⟨hgu, rfl⟩; have HGu := hidP hgu; clear hgu) | (with_reducible show wpList Tryz.prog _ _ (Oper.mk (some 10) _ _ _ _ _ :: _) _ _; refine Hid.out ?_))
      unfold Hid
      have hz1 := heap_alloc_new u (.cells #[.int .i64 tk, .string tx, .int .i64 (b : Int), .int .i64 (tn : Int), .int .i64 tf] 64)
      have hz2 := gr_alloc u (.cells #[.int .i64 tk, .string tx, .int .i64 (b : Int), .int .i64 (tn : Int), .int .i64 tf] 64)
      have hKW : Hid (W.heap.size ≤ u.heap.size) := HGu.out.size
      obtain ⟨K, hK⟩ : ∃ K, K = u.heap.size := ⟨_, rfl⟩
      rw [← hK] at hz1 hKW ⊢
      have HGU := hidP (HGu.out.trans hz2 fun _ _ h => h)
      have HKt := hidP hz1
      clear hz1 hz2 hK HGu
      generalize u.alloc (.cells #[.int .i64 tk, .string tx, .int .i64 (b : Int), .int .i64 (tn : Int), .int .i64 tf] 64) = U at HGU HKt ⊢
      have t0 : U.cell? ⟨K, 0, none⟩ = some (.int .i64 tk) := by simp [World.cell?, HKt.out]
      have t1 : U.cell? ⟨K, 1, none⟩ = some (.string tx) := by simp [World.cell?, HKt.out]
      have t2 : U.cell? ⟨K, 2, none⟩ = some (.int .i64 (b : Int)) := by simp [World.cell?, HKt.out]
      have t3 : U.cell? ⟨K, 3, none⟩ = some (.int .i64 (tn : Int)) := by simp [World.cell?, HKt.out]
      have t4 : U.cell? ⟨K, 4, none⟩ = some (.int .i64 tf) := by simp [World.cell?, HKt.out]
      have HAU := hidP (HA.out.gr HGU.out)
      have HNU := hidP (HN.out.gr HGU.out)
      have d0 : U.cell? ⟨p, 0, none⟩ = some (.string s) := by simp [World.cell?, HAU.out.box]
      have d1 : U.cell? ⟨p, 1, none⟩ = some (.int .i64 (a : Int)) := by simp [World.cell?, HAU.out.box]
      have d2 : U.cell? ⟨p, 2, none⟩ = some (.int .i64 (-1)) := by simp [World.cell?, HAU.out.box]
      have d3 : U.cell? ⟨p, 3, none⟩ = some (.slice vo g.length vc) := by simp [World.cell?, HAU.out.box]
      have z1 : U.frozen? ⟨p, 1, none⟩ = false := frz HAU.out.box 1
      have z2 : U.frozen? ⟨p, 2, none⟩ = false := frz HAU.out.box 2
      have z3 : U.frozen? ⟨p, 3, none⟩ = false := frz HAU.out.box 3
      have hpK : ¬ p = K := by have := hKW.out; have := lt_of_heap HA.out.box; omega
      have hKp : ¬ K = p := fun h => hpK h.symm
      go_wp2_with fail
      go_loopw [4, 5, 6] (fun n ok i wr => n = .int .i64 0 ∧ ok = .bool false ∧ i = .int .i64 0 ∧ Hid (wr = U)) (fun _ _ _ _ => 0)
      case atStart => exact ⟨rfl, rfl, rfl, rfl⟩
      case round =>
        obtain ⟨rfl, rfl, rfl, hu⟩ := hrel
        obtain rfl : U = wr := hu.out.symm
        go_wp2_with (go_at_call 55; refine Calls.mono (HW.out _  HNU.out) ?_; rintro e v ⟨hk2, rfl, hD⟩; have HK2 := hidP ((Gr.n p HGU.out).tr hk2); have HD2 := hidP hD; clear hk2 hD)
        go_ret
        exact DnQ.err HK2.out (by rw [HR.out, if_pos (by rw [HZ.out]; decide)]) ⟨_, rfl⟩ HD2.out
    have i4 : (tx.size : Int) ≤ 4 := by omega
    have h0 : 0 < tx.size := by omega
    have h0I : (0 : Int) < (tx.size : Int) := by omega
    have hhd : tx.data.toList.headD 0 = tx[0]'h0 := by have := drop_at h0; rw [List.drop_zero] at this; rw [this]; rfl
    have e48 : (((tx[0]'h0).toNat : Int) != 48) = decide (tx[0]'h0 ≠ 48) := by rw [Bool.eq_iff_iff]; simp only [bne_iff_ne, ne_eq, decide_eq_true_eq]; exact ⟨fun h h2 => h (by rw [h2]; rfl), fun h h2 => h (UInt8.toNat_inj.1 (by show (tx[0]'h0).toNat = 48; omega))⟩
    by_cases h1s : tx.size = 1
    · have e1 : ((tx.size : Int) == 1) = true := beq_iff_eq.2 (by omega)
      have HO : Hid (numO tx = if tx.data.toList.all (fun b => digitB b.toNat) then (decN tx.data.toList : Int) else -1) := if_neg fun h => h.elim (fun h => by omega) fun h => h.elim (fun h => by omega) fun h => by omega
      clear hhd
      go_enter Tryz.func96, Tryz.ntmps96
      go_wp2_with (first | (go_at_call 24; refine Calls.mono (HSee.out) ?_; rintro e u ⟨hgu, rfl⟩; have HGu := hidP hgu; clear hgu) | (with_reducible show wpList Tryz.prog _ _ (Oper.mk (some 10) _ _ _ _ _ :: _) _ _; refine Hid.out ?_))
      unfold Hid
      have hz1 := heap_alloc_new u (.cells #[.int .i64 tk, .string tx, .int .i64 (b : Int), .int .i64 (tn : Int), .int .i64 tf] 64)
      have hz2 := gr_alloc u (.cells #[.int .i64 tk, .string tx, .int .i64 (b : Int), .int .i64 (tn : Int), .int .i64 tf] 64)
      have hKW : Hid (W.heap.size ≤ u.heap.size) := HGu.out.size
      obtain ⟨K, hK⟩ : ∃ K, K = u.heap.size := ⟨_, rfl⟩
      rw [← hK] at hz1 hKW ⊢
      have HGU := hidP (HGu.out.trans hz2 fun _ _ h => h)
      have HKt := hidP hz1
      clear hz1 hz2 hK HGu
      generalize u.alloc (.cells #[.int .i64 tk, .string tx, .int .i64 (b : Int), .int .i64 (tn : Int), .int .i64 tf] 64) = U at HGU HKt ⊢
      have t0 : U.cell? ⟨K, 0, none⟩ = some (.int .i64 tk) := by simp [World.cell?, HKt.out]
      have t1 : U.cell? ⟨K, 1, none⟩ = some (.string tx) := by simp [World.cell?, HKt.out]
      have t2 : U.cell? ⟨K, 2, none⟩ = some (.int .i64 (b : Int)) := by simp [World.cell?, HKt.out]
      have t3 : U.cell? ⟨K, 3, none⟩ = some (.int .i64 (tn : Int)) := by simp [World.cell?, HKt.out]
      have t4 : U.cell? ⟨K, 4, none⟩ = some (.int .i64 tf) := by simp [World.cell?, HKt.out]
      have HAU := hidP (HA.out.gr HGU.out)
      have HNU := hidP (HN.out.gr HGU.out)
      have d0 : U.cell? ⟨p, 0, none⟩ = some (.string s) := by simp [World.cell?, HAU.out.box]
      have d1 : U.cell? ⟨p, 1, none⟩ = some (.int .i64 (a : Int)) := by simp [World.cell?, HAU.out.box]
      have d2 : U.cell? ⟨p, 2, none⟩ = some (.int .i64 (-1)) := by simp [World.cell?, HAU.out.box]
      have d3 : U.cell? ⟨p, 3, none⟩ = some (.slice vo g.length vc) := by simp [World.cell?, HAU.out.box]
      have z1 : U.frozen? ⟨p, 1, none⟩ = false := frz HAU.out.box 1
      have z2 : U.frozen? ⟨p, 2, none⟩ = false := frz HAU.out.box 2
      have z3 : U.frozen? ⟨p, 3, none⟩ = false := frz HAU.out.box 3
      have hpK : ¬ p = K := by have := hKW.out; have := lt_of_heap HA.out.box; omega
      have hKp : ¬ K = p := fun h => hpK h.symm
      go_wp2_with fail
      clear e48
      go_loopw [4, 5, 6] (fun N ok i wr => ∃ (k n : Nat) (okb : Bool), k ≤ tx.size ∧ N = .int .i64 (n : Int) ∧ ok = .bool okb ∧ i = .int .i64 (k : Int) ∧ Hid (wr = U ∧ (okb = false → numO tx = -1) ∧ (okb = true → n = decN (tx.data.toList.take k) ∧ n < 10 ^ k ∧ (tx.data.toList.take k).all (fun b => digitB b.toNat) = true))) (fun _ _ i _ => tx.size - (intOf i).toNat)
      case atStart => exact ⟨0, 0, true, by omega, rfl, rfl, rfl, rfl, (fun h => by cases h), fun _ => ⟨rfl, by decide, by simp⟩⟩
      case round =>
        obtain ⟨k, n, okb, hk, rfl, rfl, rfl, HK⟩ := hrel
        obtain rfl : U = wr := HK.out.1.symm
        cases okb with
        | false =>
          have HZ : Hid (z = -1) := by show z = -1; rw [← Hz1.out]; exact HK.out.2.1 rfl
          clear HK
          go_wp2_with (go_at_call 55; refine Calls.mono (HW.out _  HNU.out) ?_; rintro e v ⟨hk2, rfl, hD⟩; have HK2 := hidP ((Gr.n p HGU.out).tr hk2); have HD2 := hidP hD; clear hk2 hD)
          go_ret
          exact DnQ.err HK2.out (by rw [HR.out, if_pos (by rw [HZ.out]; decide)]) ⟨_, rfl⟩ HD2.out
        | true =>
          have HK3 := hidP (HK.out.2.2 rfl)
          clear HK
          have hsk : IntKind.i64.wrap ((k : Int) + 1) = ((k + 1 : Nat) : Int) := by rw [IntKind.wrap_i64]; omega
          by_cases hlt : k < tx.size
          · have hb2 : tx.data.toList[k]? = some (tx[k]'hlt) := by rw [Array.getElem?_toList]; exact Array.getElem?_eq_getElem hlt
            have HAl := hidP (all_succ (p := fun b => digitB b.toNat) hb2 HK3.out.2.2)
            have HDN := hidP (decN_succ hb2)
            have HAll : Hid ((tx.data.toList.all fun b => digitB b.toNat) = true → digitB (tx[k]'hlt).toNat = true) := fun h => by rw [List.all_eq_true] at h; exact h _ (List.mem_of_getElem? hb2)
            clear hb2
            have hltI : (k : Int) < (tx.size : Int) := by omega
            have hn : n < 1000 := Nat.lt_of_lt_of_le HK3.out.2.1 (Nat.pow_le_pow_right (n := 10) (by decide) (show k ≤ 3 by omega))
            have hc8 : (tx[k]'hlt).toNat < 256 := UInt8.toNat_lt _
            by_cases hd : 48 ≤ (tx[k]'hlt).toNat ∧ (tx[k]'hlt).toNat ≤ 57
            · have hdB : digitB (tx[k]'hlt).toNat = true := by unfold digitB; simpa using hd
              rw [hdB] at HAl
              have p1 : ¬ ((tx[k]'hlt).toNat : Int) < 48 := by omega
              have p2 : ¬ (57 : Int) < ((tx[k]'hlt).toNat : Int) := by omega
              have w1 : IntKind.u8.wrap (((tx[k]'hlt).toNat : Int) - 48) = (((tx[k]'hlt).toNat - 48 : Nat) : Int) := by rw [IntKind.wrap_u8]; omega
              have w2 : IntKind.i64.wrap ((((tx[k]'hlt).toNat - 48 : Nat) : Int)) = (((tx[k]'hlt).toNat - 48 : Nat) : Int) := by rw [IntKind.wrap_i64]; omega
              have w3 : IntKind.i64.wrap (10 * (n : Int)) = ((10 * n : Nat) : Int) := by rw [IntKind.wrap_i64]; omega
              have w4 : IntKind.i64.wrap (((10 * n : Nat) : Int) + (((tx[k]'hlt).toNat - 48 : Nat) : Int)) = ((10 * n + ((tx[k]'hlt).toNat - 48) : Nat) : Int) := by rw [IntKind.wrap_i64]; omega
              have HNn : Hid (10 * n + ((tx[k]'hlt).toNat - 48) = decN (tx.data.toList.take (k + 1)) ∧ 10 * n + ((tx[k]'hlt).toNat - 48) < 10 ^ (k + 1)) := by refine ⟨by rw [HDN.out, ← HK3.out.1], ?_⟩; have := HK3.out.2.1; rw [Nat.pow_succ]; omega
              clear hdB hd hc8 HAll
              go_wp2_with fail
              go_roundw
              case rel => exact ⟨k + 1, 10 * n + ((tx[k]'hlt).toNat - 48), true, by omega, (by go_num), rfl, (by go_num), (by first | exact ⟨rfl, (fun h => by cases h), fun _ => ⟨HNn.out.1, HNn.out.2, HAl.out⟩⟩ | exact ⟨trivial, (fun h => by cases h), fun _ => ⟨HNn.out.1, HNn.out.2, HAl.out⟩⟩)⟩
              case measure => simp [intOf]; omega
            have HV : Hid (numO tx = -1) := by rw [Hid, HO.out]; exact if_neg fun h => hd (by have := HAll.out h; unfold digitB at this; simpa using this)
            clear HAll HAl HDN
            by_cases p1 : ((tx[k]'hlt).toNat : Int) < 48
            · skip
              clear hd
              go_wp2_with fail
              go_roundw
              case rel => exact ⟨k + 1, n, false, by omega, rfl, rfl, (by go_num), (by first | exact ⟨rfl, (fun _ => HV.out), fun h => by cases h⟩ | exact ⟨trivial, (fun _ => HV.out), fun h => by cases h⟩)⟩
              case measure => simp [intOf]; omega
            have p2 : (57 : Int) < ((tx[k]'hlt).toNat : Int) := by omega
            clear hd
            go_wp2_with fail
            go_roundw
            case rel => exact ⟨k + 1, n, false, by omega, rfl, rfl, (by go_num), (by first | exact ⟨rfl, (fun _ => HV.out), fun h => by cases h⟩ | exact ⟨trivial, (fun _ => HV.out), fun h => by cases h⟩)⟩
            case measure => simp [intOf]; omega
          obtain rfl : k = tx.size := by omega
          have HV : Hid (z = (n : Int)) := by have h1 := HK3.out.1; have h2 := HK3.out.2.2; rw [List.take_of_length_le (by simp)] at h1 h2; show z = _; rw [← Hz1.out, HO.out, if_pos h2, h1]
          have hltI : ¬ (tx.size : Int) < (tx.size : Int) := by omega
          go_wp2_with fail
          go_ret
          exact DnQ.ok (kpn_set HGU.out) (by rw [HR.out, HV.out]; exact if_neg (by omega)) rfl ⟨tn, vo, vc, HAU.out.move Hbt2.out.2, rfl, Hbt2.out.1, Hbt2.out.2⟩
    have e1 : ((tx.size : Int) == 1) = false := beq_eq_false_iff_ne.2 (by omega)
    by_cases hc : tx[0]'h0 = 48
    · have HZ : Hid (z = -1) := Hz1.out.symm.trans (if_pos (.inr (.inr ⟨by rw [hhd]; exact hc, by omega⟩)))
      rw [decide_eq_false (fun h => h hc)] at e48
      clear hc hhd
      go_enter Tryz.func96, Tryz.ntmps96
      go_wp2_with (first | (go_at_call 24; refine Calls.mono (HSee.out) ?_; rintro e u ⟨hgu, rfl⟩; have HGu := hidP hgu; clear hgu) | (with_reducible show wpList Tryz.prog _ _ (Oper.mk (some 10) _ _ _ _ _ :: _) _ _; refine Hid.out ?_))
      unfold Hid
      have hz1 := heap_alloc_new u (.cells #[.int .i64 tk, .string tx, .int .i64 (b : Int), .int .i64 (tn : Int), .int .i64 tf] 64)
      have hz2 := gr_alloc u (.cells #[.int .i64 tk, .string tx, .int .i64 (b : Int), .int .i64 (tn : Int), .int .i64 tf] 64)
      have hKW : Hid (W.heap.size ≤ u.heap.size) := HGu.out.size
      obtain ⟨K, hK⟩ : ∃ K, K = u.heap.size := ⟨_, rfl⟩
      rw [← hK] at hz1 hKW ⊢
      have HGU := hidP (HGu.out.trans hz2 fun _ _ h => h)
      have HKt := hidP hz1
      clear hz1 hz2 hK HGu
      generalize u.alloc (.cells #[.int .i64 tk, .string tx, .int .i64 (b : Int), .int .i64 (tn : Int), .int .i64 tf] 64) = U at HGU HKt ⊢
      have t0 : U.cell? ⟨K, 0, none⟩ = some (.int .i64 tk) := by simp [World.cell?, HKt.out]
      have t1 : U.cell? ⟨K, 1, none⟩ = some (.string tx) := by simp [World.cell?, HKt.out]
      have t2 : U.cell? ⟨K, 2, none⟩ = some (.int .i64 (b : Int)) := by simp [World.cell?, HKt.out]
      have t3 : U.cell? ⟨K, 3, none⟩ = some (.int .i64 (tn : Int)) := by simp [World.cell?, HKt.out]
      have t4 : U.cell? ⟨K, 4, none⟩ = some (.int .i64 tf) := by simp [World.cell?, HKt.out]
      have HAU := hidP (HA.out.gr HGU.out)
      have HNU := hidP (HN.out.gr HGU.out)
      have d0 : U.cell? ⟨p, 0, none⟩ = some (.string s) := by simp [World.cell?, HAU.out.box]
      have d1 : U.cell? ⟨p, 1, none⟩ = some (.int .i64 (a : Int)) := by simp [World.cell?, HAU.out.box]
      have d2 : U.cell? ⟨p, 2, none⟩ = some (.int .i64 (-1)) := by simp [World.cell?, HAU.out.box]
      have d3 : U.cell? ⟨p, 3, none⟩ = some (.slice vo g.length vc) := by simp [World.cell?, HAU.out.box]
      have z1 : U.frozen? ⟨p, 1, none⟩ = false := frz HAU.out.box 1
      have z2 : U.frozen? ⟨p, 2, none⟩ = false := frz HAU.out.box 2
      have z3 : U.frozen? ⟨p, 3, none⟩ = false := frz HAU.out.box 3
      have hpK : ¬ p = K := by have := hKW.out; have := lt_of_heap HA.out.box; omega
      have hKp : ¬ K = p := fun h => hpK h.symm
      go_wp2_with fail
      go_loopw [4, 5, 6] (fun n ok i wr => n = .int .i64 0 ∧ ok = .bool false ∧ i = .int .i64 0 ∧ Hid (wr = U)) (fun _ _ _ _ => 0)
      case atStart => exact ⟨rfl, rfl, rfl, rfl⟩
      case round =>
        obtain ⟨rfl, rfl, rfl, hu⟩ := hrel
        obtain rfl : U = wr := hu.out.symm
        go_wp2_with (go_at_call 55; refine Calls.mono (HW.out _  HNU.out) ?_; rintro e v ⟨hk2, rfl, hD⟩; have HK2 := hidP ((Gr.n p HGU.out).tr hk2); have HD2 := hidP hD; clear hk2 hD)
        go_ret
        exact DnQ.err HK2.out (by rw [HR.out, if_pos (by rw [HZ.out]; decide)]) ⟨_, rfl⟩ HD2.out
    have HO : Hid (numO tx = if tx.data.toList.all (fun b => digitB b.toNat) then (decN tx.data.toList : Int) else -1) := if_neg fun h => h.elim (fun h => by omega) fun h => h.elim (fun h => by omega) fun h => by exact hc (by rw [← hhd]; exact h.1)
    rw [decide_eq_true hc] at e48
    clear hc hhd
    go_enter Tryz.func96, Tryz.ntmps96
    go_wp2_with (first | (go_at_call 24; refine Calls.mono (HSee.out) ?_; rintro e u ⟨hgu, rfl⟩; have HGu := hidP hgu; clear hgu) | (with_reducible show wpList Tryz.prog _ _ (Oper.mk (some 10) _ _ _ _ _ :: _) _ _; refine Hid.out ?_))
    unfold Hid
    have hz1 := heap_alloc_new u (.cells #[.int .i64 tk, .string tx, .int .i64 (b : Int), .int .i64 (tn : Int), .int .i64 tf] 64)
    have hz2 := gr_alloc u (.cells #[.int .i64 tk, .string tx, .int .i64 (b : Int), .int .i64 (tn : Int), .int .i64 tf] 64)
    have hKW : Hid (W.heap.size ≤ u.heap.size) := HGu.out.size
    obtain ⟨K, hK⟩ : ∃ K, K = u.heap.size := ⟨_, rfl⟩
    rw [← hK] at hz1 hKW ⊢
    have HGU := hidP (HGu.out.trans hz2 fun _ _ h => h)
    have HKt := hidP hz1
    clear hz1 hz2 hK HGu
    generalize u.alloc (.cells #[.int .i64 tk, .string tx, .int .i64 (b : Int), .int .i64 (tn : Int), .int .i64 tf] 64) = U at HGU HKt ⊢
    have t0 : U.cell? ⟨K, 0, none⟩ = some (.int .i64 tk) := by simp [World.cell?, HKt.out]
    have t1 : U.cell? ⟨K, 1, none⟩ = some (.string tx) := by simp [World.cell?, HKt.out]
    have t2 : U.cell? ⟨K, 2, none⟩ = some (.int .i64 (b : Int)) := by simp [World.cell?, HKt.out]
    have t3 : U.cell? ⟨K, 3, none⟩ = some (.int .i64 (tn : Int)) := by simp [World.cell?, HKt.out]
    have t4 : U.cell? ⟨K, 4, none⟩ = some (.int .i64 tf) := by simp [World.cell?, HKt.out]
    have HAU := hidP (HA.out.gr HGU.out)
    have HNU := hidP (HN.out.gr HGU.out)
    have d0 : U.cell? ⟨p, 0, none⟩ = some (.string s) := by simp [World.cell?, HAU.out.box]
    have d1 : U.cell? ⟨p, 1, none⟩ = some (.int .i64 (a : Int)) := by simp [World.cell?, HAU.out.box]
    have d2 : U.cell? ⟨p, 2, none⟩ = some (.int .i64 (-1)) := by simp [World.cell?, HAU.out.box]
    have d3 : U.cell? ⟨p, 3, none⟩ = some (.slice vo g.length vc) := by simp [World.cell?, HAU.out.box]
    have z1 : U.frozen? ⟨p, 1, none⟩ = false := frz HAU.out.box 1
    have z2 : U.frozen? ⟨p, 2, none⟩ = false := frz HAU.out.box 2
    have z3 : U.frozen? ⟨p, 3, none⟩ = false := frz HAU.out.box 3
    have hpK : ¬ p = K := by have := hKW.out; have := lt_of_heap HA.out.box; omega
    have hKp : ¬ K = p := fun h => hpK h.symm
    go_wp2_with fail
    clear e48
    go_loopw [4, 5, 6] (fun N ok i wr => ∃ (k n : Nat) (okb : Bool), k ≤ tx.size ∧ N = .int .i64 (n : Int) ∧ ok = .bool okb ∧ i = .int .i64 (k : Int) ∧ Hid (wr = U ∧ (okb = false → numO tx = -1) ∧ (okb = true → n = decN (tx.data.toList.take k) ∧ n < 10 ^ k ∧ (tx.data.toList.take k).all (fun b => digitB b.toNat) = true))) (fun _ _ i _ => tx.size - (intOf i).toNat)
    case atStart => exact ⟨0, 0, true, by omega, rfl, rfl, rfl, rfl, (fun h => by cases h), fun _ => ⟨rfl, by decide, by simp⟩⟩
    case round =>
      obtain ⟨k, n, okb, hk, rfl, rfl, rfl, HK⟩ := hrel
      obtain rfl : U = wr := HK.out.1.symm
      cases okb with
      | false =>
        have HZ : Hid (z = -1) := by show z = -1; rw [← Hz1.out]; exact HK.out.2.1 rfl
        clear HK
        go_wp2_with (go_at_call 55; refine Calls.mono (HW.out _  HNU.out) ?_; rintro e v ⟨hk2, rfl, hD⟩; have HK2 := hidP ((Gr.n p HGU.out).tr hk2); have HD2 := hidP hD; clear hk2 hD)
        go_ret
        exact DnQ.err HK2.out (by rw [HR.out, if_pos (by rw [HZ.out]; decide)]) ⟨_, rfl⟩ HD2.out
      | true =>
        have HK3 := hidP (HK.out.2.2 rfl)
        clear HK
        have hsk : IntKind.i64.wrap ((k : Int) + 1) = ((k + 1 : Nat) : Int) := by rw [IntKind.wrap_i64]; omega
        by_cases hlt : k < tx.size
        · have hb2 : tx.data.toList[k]? = some (tx[k]'hlt) := by rw [Array.getElem?_toList]; exact Array.getElem?_eq_getElem hlt
          have HAl := hidP (all_succ (p := fun b => digitB b.toNat) hb2 HK3.out.2.2)
          have HDN := hidP (decN_succ hb2)
          have HAll : Hid ((tx.data.toList.all fun b => digitB b.toNat) = true → digitB (tx[k]'hlt).toNat = true) := fun h => by rw [List.all_eq_true] at h; exact h _ (List.mem_of_getElem? hb2)
          clear hb2
          have hltI : (k : Int) < (tx.size : Int) := by omega
          have hn : n < 1000 := Nat.lt_of_lt_of_le HK3.out.2.1 (Nat.pow_le_pow_right (n := 10) (by decide) (show k ≤ 3 by omega))
          have hc8 : (tx[k]'hlt).toNat < 256 := UInt8.toNat_lt _
          by_cases hd : 48 ≤ (tx[k]'hlt).toNat ∧ (tx[k]'hlt).toNat ≤ 57
          · have hdB : digitB (tx[k]'hlt).toNat = true := by unfold digitB; simpa using hd
            rw [hdB] at HAl
            have p1 : ¬ ((tx[k]'hlt).toNat : Int) < 48 := by omega
            have p2 : ¬ (57 : Int) < ((tx[k]'hlt).toNat : Int) := by omega
            have w1 : IntKind.u8.wrap (((tx[k]'hlt).toNat : Int) - 48) = (((tx[k]'hlt).toNat - 48 : Nat) : Int) := by rw [IntKind.wrap_u8]; omega
            have w2 : IntKind.i64.wrap ((((tx[k]'hlt).toNat - 48 : Nat) : Int)) = (((tx[k]'hlt).toNat - 48 : Nat) : Int) := by rw [IntKind.wrap_i64]; omega
            have w3 : IntKind.i64.wrap (10 * (n : Int)) = ((10 * n : Nat) : Int) := by rw [IntKind.wrap_i64]; omega
            have w4 : IntKind.i64.wrap (((10 * n : Nat) : Int) + (((tx[k]'hlt).toNat - 48 : Nat) : Int)) = ((10 * n + ((tx[k]'hlt).toNat - 48) : Nat) : Int) := by rw [IntKind.wrap_i64]; omega
            have HNn : Hid (10 * n + ((tx[k]'hlt).toNat - 48) = decN (tx.data.toList.take (k + 1)) ∧ 10 * n + ((tx[k]'hlt).toNat - 48) < 10 ^ (k + 1)) := by refine ⟨by rw [HDN.out, ← HK3.out.1], ?_⟩; have := HK3.out.2.1; rw [Nat.pow_succ]; omega
            clear hdB hd hc8 HAll
            go_wp2_with fail
            go_roundw
            case rel => exact ⟨k + 1, 10 * n + ((tx[k]'hlt).toNat - 48), true, by omega, (by go_num), rfl, (by go_num), (by first | exact ⟨rfl, (fun h => by cases h), fun _ => ⟨HNn.out.1, HNn.out.2, HAl.out⟩⟩ | exact ⟨trivial, (fun h => by cases h), fun _ => ⟨HNn.out.1, HNn.out.2, HAl.out⟩⟩)⟩
            case measure => simp [intOf]; omega
          have HV : Hid (numO tx = -1) := by rw [Hid, HO.out]; exact if_neg fun h => hd (by have := HAll.out h; unfold digitB at this; simpa using this)
          clear HAll HAl HDN
          by_cases p1 : ((tx[k]'hlt).toNat : Int) < 48
          · skip
            clear hd
            go_wp2_with fail
            go_roundw
            case rel => exact ⟨k + 1, n, false, by omega, rfl, rfl, (by go_num), (by first | exact ⟨rfl, (fun _ => HV.out), fun h => by cases h⟩ | exact ⟨trivial, (fun _ => HV.out), fun h => by cases h⟩)⟩
            case measure => simp [intOf]; omega
          have p2 : (57 : Int) < ((tx[k]'hlt).toNat : Int) := by omega
          clear hd
          go_wp2_with fail
          go_roundw
          case rel => exact ⟨k + 1, n, false, by omega, rfl, rfl, (by go_num), (by first | exact ⟨rfl, (fun _ => HV.out), fun h => by cases h⟩ | exact ⟨trivial, (fun _ => HV.out), fun h => by cases h⟩)⟩
          case measure => simp [intOf]; omega
        obtain rfl : k = tx.size := by omega
        have HV : Hid (z = (n : Int)) := by have h1 := HK3.out.1; have h2 := HK3.out.2.2; rw [List.take_of_length_le (by simp)] at h1 h2; show z = _; rw [← Hz1.out, HO.out, if_pos h2, h1]
        have hltI : ¬ (tx.size : Int) < (tx.size : Int) := by omega
        go_wp2_with fail
        go_ret
        exact DnQ.ok (kpn_set HGU.out) (by rw [HR.out, HV.out]; exact if_neg (by omega)) rfl ⟨tn, vo, vc, HAU.out.move Hbt2.out.2, rfl, Hbt2.out.1, Hbt2.out.2⟩
  have hek : (tk == 1) = false := beq_eq_false_iff_ne.2 h1
  have HZ : Hid (z = -1) := by show z = -1; rw [← hz, if_neg h1]
  clear h1 hz hm2
  go_enter Tryz.func96, Tryz.ntmps96
  go_wp2_with (first | (go_at_call 24; refine Calls.mono (HSee.out) ?_; rintro e u ⟨hgu, rfl⟩; have HGu := hidP hgu; clear hgu) | (with_reducible show wpList Tryz.prog _ _ (Oper.mk (some 10) _ _ _ _ _ :: _) _ _; refine Hid.out ?_))
  unfold Hid
  have hz1 := heap_alloc_new u (.cells #[.int .i64 tk, .string tx, .int .i64 (b : Int), .int .i64 (tn : Int), .int .i64 tf] 64)
  have hz2 := gr_alloc u (.cells #[.int .i64 tk, .string tx, .int .i64 (b : Int), .int .i64 (tn : Int), .int .i64 tf] 64)
  have hKW : Hid (W.heap.size ≤ u.heap.size) := HGu.out.size
  obtain ⟨K, hK⟩ : ∃ K, K = u.heap.size := ⟨_, rfl⟩
  rw [← hK] at hz1 hKW ⊢
  have HGU := hidP (HGu.out.trans hz2 fun _ _ h => h)
  have HKt := hidP hz1
  clear hz1 hz2 hK HGu
  generalize u.alloc (.cells #[.int .i64 tk, .string tx, .int .i64 (b : Int), .int .i64 (tn : Int), .int .i64 tf] 64) = U at HGU HKt ⊢
  have t0 : U.cell? ⟨K, 0, none⟩ = some (.int .i64 tk) := by simp [World.cell?, HKt.out]
  have t1 : U.cell? ⟨K, 1, none⟩ = some (.string tx) := by simp [World.cell?, HKt.out]
  have t2 : U.cell? ⟨K, 2, none⟩ = some (.int .i64 (b : Int)) := by simp [World.cell?, HKt.out]
  have t3 : U.cell? ⟨K, 3, none⟩ = some (.int .i64 (tn : Int)) := by simp [World.cell?, HKt.out]
  have t4 : U.cell? ⟨K, 4, none⟩ = some (.int .i64 tf) := by simp [World.cell?, HKt.out]
  have HAU := hidP (HA.out.gr HGU.out)
  have HNU := hidP (HN.out.gr HGU.out)
  have d0 : U.cell? ⟨p, 0, none⟩ = some (.string s) := by simp [World.cell?, HAU.out.box]
  have d1 : U.cell? ⟨p, 1, none⟩ = some (.int .i64 (a : Int)) := by simp [World.cell?, HAU.out.box]
  have d2 : U.cell? ⟨p, 2, none⟩ = some (.int .i64 (-1)) := by simp [World.cell?, HAU.out.box]
  have d3 : U.cell? ⟨p, 3, none⟩ = some (.slice vo g.length vc) := by simp [World.cell?, HAU.out.box]
  have z1 : U.frozen? ⟨p, 1, none⟩ = false := frz HAU.out.box 1
  have z2 : U.frozen? ⟨p, 2, none⟩ = false := frz HAU.out.box 2
  have z3 : U.frozen? ⟨p, 3, none⟩ = false := frz HAU.out.box 3
  have hpK : ¬ p = K := by have := hKW.out; have := lt_of_heap HA.out.box; omega
  have hKp : ¬ K = p := fun h => hpK h.symm
  go_wp2_with fail
  go_loopw [4, 5, 6] (fun n ok i wr => n = .int .i64 0 ∧ ok = .bool false ∧ i = .int .i64 0 ∧ Hid (wr = U)) (fun _ _ _ _ => 0)
  case atStart => exact ⟨rfl, rfl, rfl, rfl⟩
  case round =>
    obtain ⟨rfl, rfl, rfl, hu⟩ := hrel
    obtain rfl : U = wr := hu.out.symm
    go_wp2_with (go_at_call 55; refine Calls.mono (HW.out _  HNU.out) ?_; rintro e v ⟨hk2, rfl, hD⟩; have HK2 := hidP ((Gr.n p HGU.out).tr hk2); have HD2 := hidP hD; clear hk2 hD)
    go_ret
    exact DnQ.err HK2.out (by rw [HR.out, if_pos (by rw [HZ.out]; decide)]) ⟨_, rfl⟩ HD2.out
theorem number96_dead (p : Nat) (s : ByteArray) : DeC p s 96 #[.pointer (some ⟨p, 0, none⟩)] (fun v => ∃ n, v = .int .i64 n) := by
  intro W o hD
  obtain ⟨a, n, hX, hs, ha, hpz⟩ := hD
  have HSee := hidP (see24 p s a _ _ W hX ha hs)
  unfold tokV at HSee
  have HX := hidP hX
  have HD := hidP (show DD W p s o from ⟨a, n, hX, hs, ha, hpz⟩)
  have HW := hidP (wrong55_dead p s)
  have hb := skN_le s ha
  clear hX
  generalize hgb : a + skN (s.data.toList.drop a) = b at HSee hb
  rcases hTok : tokOf s.data.toList b with ⟨tk, tx, tn, tf⟩
  rw [hTok] at HSee
  (try dsimp only at HSee)
  have hm2 := (mean_tok (c := a) (g := []) (of := numO) (by decide) hgb.symm hb hTok).2
  clear hTok  hgb
  generalize hz : (if tk = 1 then numO tx else -1) = z
  have h0b : (0 : Int) ≤ (b : Int) := by omega
  have h0o : ¬ (o : Int) < 0 := by omega
  by_cases h1 : tk = 1
  · have hek : (tk == 1) = true := by rw [h1]; rfl
    obtain ⟨-, -, hx0, hxs⟩ := hm2 h1
    rw [if_pos h1] at hz
    have Hz1 := hidP hz
    clear h1 hz hm2
    by_cases h4 : 4 < tx.size
    · have HZ : Hid (z = -1) := Hz1.out.symm.trans (if_pos (.inr (.inl h4)))
      have i4 : ¬ ((tx.size : Int) ≤ 4) := by omega
      go_enter Tryz.func96, Tryz.ntmps96
      go_wp2_with (first | (go_at_call 24; refine Calls.mono (HSee.out) ?_; rintro e u ⟨hgu, rfl⟩; have HGu := hidP hgu; clear hgu) | (with_reducible show wpList Tryz.prog _ _ (Oper.mk (some 10) _ _ _ _ _ :: _) _ _; refine Hid.out ?_))
      unfold Hid
      have hz1 := heap_alloc_new u (.cells #[.int .i64 tk, .string tx, .int .i64 (b : Int), .int .i64 (tn : Int), .int .i64 tf] 64)
      have hz2 := gr_alloc u (.cells #[.int .i64 tk, .string tx, .int .i64 (b : Int), .int .i64 (tn : Int), .int .i64 tf] 64)
      have hKW : Hid (W.heap.size ≤ u.heap.size) := HGu.out.size
      obtain ⟨K, hK⟩ : ∃ K, K = u.heap.size := ⟨_, rfl⟩
      rw [← hK] at hz1 hKW ⊢
      have HGU := hidP (HGu.out.trans hz2 fun _ _ h => h)
      have HKt := hidP hz1
      clear hz1 hz2 hK HGu
      generalize u.alloc (.cells #[.int .i64 tk, .string tx, .int .i64 (b : Int), .int .i64 (tn : Int), .int .i64 tf] 64) = U at HGU HKt ⊢
      have t0 : U.cell? ⟨K, 0, none⟩ = some (.int .i64 tk) := by simp [World.cell?, HKt.out]
      have t1 : U.cell? ⟨K, 1, none⟩ = some (.string tx) := by simp [World.cell?, HKt.out]
      have t2 : U.cell? ⟨K, 2, none⟩ = some (.int .i64 (b : Int)) := by simp [World.cell?, HKt.out]
      have t3 : U.cell? ⟨K, 3, none⟩ = some (.int .i64 (tn : Int)) := by simp [World.cell?, HKt.out]
      have t4 : U.cell? ⟨K, 4, none⟩ = some (.int .i64 tf) := by simp [World.cell?, HKt.out]
      have HXU := hidP ((HGU.out.block p (lt_of_heap HX.out) id).trans HX.out)
      have HNU := hidP (HD.out.gr HGU.out)
      have d0 : U.cell? ⟨p, 0, none⟩ = some (.string s) := by simp [World.cell?, HXU.out]
      have d1 : U.cell? ⟨p, 1, none⟩ = some (.int .i64 (a : Int)) := by simp [World.cell?, HXU.out]
      have d2 : U.cell? ⟨p, 2, none⟩ = some (.int .i64 (o : Int)) := by simp [World.cell?, HXU.out]
      have d3 : U.cell? ⟨p, 3, none⟩ = some (n) := by simp [World.cell?, HXU.out]
      have z1 : U.frozen? ⟨p, 1, none⟩ = false := frz HXU.out 1
      have z2 : U.frozen? ⟨p, 2, none⟩ = false := frz HXU.out 2
      have z3 : U.frozen? ⟨p, 3, none⟩ = false := frz HXU.out 3
      have hpK : ¬ p = K := by have := hKW.out; have := lt_of_heap HX.out; omega
      have hKp : ¬ K = p := fun h => hpK h.symm
      go_wp2_with fail
      go_loopw [4, 5, 6] (fun n ok i wr => n = .int .i64 0 ∧ ok = .bool false ∧ i = .int .i64 0 ∧ Hid (wr = U)) (fun _ _ _ _ => 0)
      case atStart => exact ⟨rfl, rfl, rfl, rfl⟩
      case round =>
        obtain ⟨rfl, rfl, rfl, hu⟩ := hrel
        obtain rfl : U = wr := hu.out.symm
        go_wp2_with (go_at_call 55; refine Calls.mono (HW.out _ _ HNU.out) ?_; rintro e v ⟨hk2, ⟨v0, rfl, rfl⟩, hD⟩; have HK2 := hidP ((Gr.n p HGU.out).tr hk2); have HD2 := hidP hD; clear hk2 hD)
        go_ret
        exact DeQ.mk' HK2.out ⟨_, rfl⟩ HD2.out
    have i4 : (tx.size : Int) ≤ 4 := by omega
    have h0 : 0 < tx.size := by omega
    have h0I : (0 : Int) < (tx.size : Int) := by omega
    have hhd : tx.data.toList.headD 0 = tx[0]'h0 := by have := drop_at h0; rw [List.drop_zero] at this; rw [this]; rfl
    have e48 : (((tx[0]'h0).toNat : Int) != 48) = decide (tx[0]'h0 ≠ 48) := by rw [Bool.eq_iff_iff]; simp only [bne_iff_ne, ne_eq, decide_eq_true_eq]; exact ⟨fun h h2 => h (by rw [h2]; rfl), fun h h2 => h (UInt8.toNat_inj.1 (by show (tx[0]'h0).toNat = 48; omega))⟩
    by_cases h1s : tx.size = 1
    · have e1 : ((tx.size : Int) == 1) = true := beq_iff_eq.2 (by omega)
      have HO : Hid (numO tx = if tx.data.toList.all (fun b => digitB b.toNat) then (decN tx.data.toList : Int) else -1) := if_neg fun h => h.elim (fun h => by omega) fun h => h.elim (fun h => by omega) fun h => by omega
      clear hhd
      go_enter Tryz.func96, Tryz.ntmps96
      go_wp2_with (first | (go_at_call 24; refine Calls.mono (HSee.out) ?_; rintro e u ⟨hgu, rfl⟩; have HGu := hidP hgu; clear hgu) | (with_reducible show wpList Tryz.prog _ _ (Oper.mk (some 10) _ _ _ _ _ :: _) _ _; refine Hid.out ?_))
      unfold Hid
      have hz1 := heap_alloc_new u (.cells #[.int .i64 tk, .string tx, .int .i64 (b : Int), .int .i64 (tn : Int), .int .i64 tf] 64)
      have hz2 := gr_alloc u (.cells #[.int .i64 tk, .string tx, .int .i64 (b : Int), .int .i64 (tn : Int), .int .i64 tf] 64)
      have hKW : Hid (W.heap.size ≤ u.heap.size) := HGu.out.size
      obtain ⟨K, hK⟩ : ∃ K, K = u.heap.size := ⟨_, rfl⟩
      rw [← hK] at hz1 hKW ⊢
      have HGU := hidP (HGu.out.trans hz2 fun _ _ h => h)
      have HKt := hidP hz1
      clear hz1 hz2 hK HGu
      generalize u.alloc (.cells #[.int .i64 tk, .string tx, .int .i64 (b : Int), .int .i64 (tn : Int), .int .i64 tf] 64) = U at HGU HKt ⊢
      have t0 : U.cell? ⟨K, 0, none⟩ = some (.int .i64 tk) := by simp [World.cell?, HKt.out]
      have t1 : U.cell? ⟨K, 1, none⟩ = some (.string tx) := by simp [World.cell?, HKt.out]
      have t2 : U.cell? ⟨K, 2, none⟩ = some (.int .i64 (b : Int)) := by simp [World.cell?, HKt.out]
      have t3 : U.cell? ⟨K, 3, none⟩ = some (.int .i64 (tn : Int)) := by simp [World.cell?, HKt.out]
      have t4 : U.cell? ⟨K, 4, none⟩ = some (.int .i64 tf) := by simp [World.cell?, HKt.out]
      have HXU := hidP ((HGU.out.block p (lt_of_heap HX.out) id).trans HX.out)
      have HNU := hidP (HD.out.gr HGU.out)
      have d0 : U.cell? ⟨p, 0, none⟩ = some (.string s) := by simp [World.cell?, HXU.out]
      have d1 : U.cell? ⟨p, 1, none⟩ = some (.int .i64 (a : Int)) := by simp [World.cell?, HXU.out]
      have d2 : U.cell? ⟨p, 2, none⟩ = some (.int .i64 (o : Int)) := by simp [World.cell?, HXU.out]
      have d3 : U.cell? ⟨p, 3, none⟩ = some (n) := by simp [World.cell?, HXU.out]
      have z1 : U.frozen? ⟨p, 1, none⟩ = false := frz HXU.out 1
      have z2 : U.frozen? ⟨p, 2, none⟩ = false := frz HXU.out 2
      have z3 : U.frozen? ⟨p, 3, none⟩ = false := frz HXU.out 3
      have hpK : ¬ p = K := by have := hKW.out; have := lt_of_heap HX.out; omega
      have hKp : ¬ K = p := fun h => hpK h.symm
      go_wp2_with fail
      clear e48
      go_loopw [4, 5, 6] (fun N ok i wr => ∃ (k n : Nat) (okb : Bool), k ≤ tx.size ∧ N = .int .i64 (n : Int) ∧ ok = .bool okb ∧ i = .int .i64 (k : Int) ∧ Hid (wr = U ∧ (okb = false → numO tx = -1) ∧ (okb = true → n = decN (tx.data.toList.take k) ∧ n < 10 ^ k ∧ (tx.data.toList.take k).all (fun b => digitB b.toNat) = true))) (fun _ _ i _ => tx.size - (intOf i).toNat)
      case atStart => exact ⟨0, 0, true, by omega, rfl, rfl, rfl, rfl, (fun h => by cases h), fun _ => ⟨rfl, by decide, by simp⟩⟩
      case round =>
        obtain ⟨k, n, okb, hk, rfl, rfl, rfl, HK⟩ := hrel
        obtain rfl : U = wr := HK.out.1.symm
        cases okb with
        | false =>
          have HZ : Hid (z = -1) := by show z = -1; rw [← Hz1.out]; exact HK.out.2.1 rfl
          clear HK
          go_wp2_with (go_at_call 55; refine Calls.mono (HW.out _ _ HNU.out) ?_; rintro e v ⟨hk2, ⟨v0, rfl, rfl⟩, hD⟩; have HK2 := hidP ((Gr.n p HGU.out).tr hk2); have HD2 := hidP hD; clear hk2 hD)
          go_ret
          exact DeQ.mk' HK2.out ⟨_, rfl⟩ HD2.out
        | true =>
          have HK3 := hidP (HK.out.2.2 rfl)
          clear HK
          have hsk : IntKind.i64.wrap ((k : Int) + 1) = ((k + 1 : Nat) : Int) := by rw [IntKind.wrap_i64]; omega
          by_cases hlt : k < tx.size
          · have hb2 : tx.data.toList[k]? = some (tx[k]'hlt) := by rw [Array.getElem?_toList]; exact Array.getElem?_eq_getElem hlt
            have HAl := hidP (all_succ (p := fun b => digitB b.toNat) hb2 HK3.out.2.2)
            have HDN := hidP (decN_succ hb2)
            have HAll : Hid ((tx.data.toList.all fun b => digitB b.toNat) = true → digitB (tx[k]'hlt).toNat = true) := fun h => by rw [List.all_eq_true] at h; exact h _ (List.mem_of_getElem? hb2)
            clear hb2
            have hltI : (k : Int) < (tx.size : Int) := by omega
            have hn : n < 1000 := Nat.lt_of_lt_of_le HK3.out.2.1 (Nat.pow_le_pow_right (n := 10) (by decide) (show k ≤ 3 by omega))
            have hc8 : (tx[k]'hlt).toNat < 256 := UInt8.toNat_lt _
            by_cases hd : 48 ≤ (tx[k]'hlt).toNat ∧ (tx[k]'hlt).toNat ≤ 57
            · have hdB : digitB (tx[k]'hlt).toNat = true := by unfold digitB; simpa using hd
              rw [hdB] at HAl
              have p1 : ¬ ((tx[k]'hlt).toNat : Int) < 48 := by omega
              have p2 : ¬ (57 : Int) < ((tx[k]'hlt).toNat : Int) := by omega
              have w1 : IntKind.u8.wrap (((tx[k]'hlt).toNat : Int) - 48) = (((tx[k]'hlt).toNat - 48 : Nat) : Int) := by rw [IntKind.wrap_u8]; omega
              have w2 : IntKind.i64.wrap ((((tx[k]'hlt).toNat - 48 : Nat) : Int)) = (((tx[k]'hlt).toNat - 48 : Nat) : Int) := by rw [IntKind.wrap_i64]; omega
              have w3 : IntKind.i64.wrap (10 * (n : Int)) = ((10 * n : Nat) : Int) := by rw [IntKind.wrap_i64]; omega
              have w4 : IntKind.i64.wrap (((10 * n : Nat) : Int) + (((tx[k]'hlt).toNat - 48 : Nat) : Int)) = ((10 * n + ((tx[k]'hlt).toNat - 48) : Nat) : Int) := by rw [IntKind.wrap_i64]; omega
              have HNn : Hid (10 * n + ((tx[k]'hlt).toNat - 48) = decN (tx.data.toList.take (k + 1)) ∧ 10 * n + ((tx[k]'hlt).toNat - 48) < 10 ^ (k + 1)) := by refine ⟨by rw [HDN.out, ← HK3.out.1], ?_⟩; have := HK3.out.2.1; rw [Nat.pow_succ]; omega
              clear hdB hd hc8 HAll
              go_wp2_with fail
              go_roundw
              case rel => exact ⟨k + 1, 10 * n + ((tx[k]'hlt).toNat - 48), true, by omega, (by go_num), rfl, (by go_num), (by first | exact ⟨rfl, (fun h => by cases h), fun _ => ⟨HNn.out.1, HNn.out.2, HAl.out⟩⟩ | exact ⟨trivial, (fun h => by cases h), fun _ => ⟨HNn.out.1, HNn.out.2, HAl.out⟩⟩)⟩
              case measure => simp [intOf]; omega
            have HV : Hid (numO tx = -1) := by rw [Hid, HO.out]; exact if_neg fun h => hd (by have := HAll.out h; unfold digitB at this; simpa using this)
            clear HAll HAl HDN
            by_cases p1 : ((tx[k]'hlt).toNat : Int) < 48
            · skip
              clear hd
              go_wp2_with fail
              go_roundw
              case rel => exact ⟨k + 1, n, false, by omega, rfl, rfl, (by go_num), (by first | exact ⟨rfl, (fun _ => HV.out), fun h => by cases h⟩ | exact ⟨trivial, (fun _ => HV.out), fun h => by cases h⟩)⟩
              case measure => simp [intOf]; omega
            have p2 : (57 : Int) < ((tx[k]'hlt).toNat : Int) := by omega
            clear hd
            go_wp2_with fail
            go_roundw
            case rel => exact ⟨k + 1, n, false, by omega, rfl, rfl, (by go_num), (by first | exact ⟨rfl, (fun _ => HV.out), fun h => by cases h⟩ | exact ⟨trivial, (fun _ => HV.out), fun h => by cases h⟩)⟩
            case measure => simp [intOf]; omega
          obtain rfl : k = tx.size := by omega
          have HV : Hid (z = (n : Int)) := by have h1 := HK3.out.1; have h2 := HK3.out.2.2; rw [List.take_of_length_le (by simp)] at h1 h2; show z = _; rw [← Hz1.out, HO.out, if_pos h2, h1]
          have hltI : ¬ (tx.size : Int) < (tx.size : Int) := by omega
          go_wp2_with fail
          go_ret
          exact DeQ.mk' (Gr.n p HGU.out) ⟨_, rfl⟩ HNU.out
    have e1 : ((tx.size : Int) == 1) = false := beq_eq_false_iff_ne.2 (by omega)
    by_cases hc : tx[0]'h0 = 48
    · have HZ : Hid (z = -1) := Hz1.out.symm.trans (if_pos (.inr (.inr ⟨by rw [hhd]; exact hc, by omega⟩)))
      rw [decide_eq_false (fun h => h hc)] at e48
      clear hc hhd
      go_enter Tryz.func96, Tryz.ntmps96
      go_wp2_with (first | (go_at_call 24; refine Calls.mono (HSee.out) ?_; rintro e u ⟨hgu, rfl⟩; have HGu := hidP hgu; clear hgu) | (with_reducible show wpList Tryz.prog _ _ (Oper.mk (some 10) _ _ _ _ _ :: _) _ _; refine Hid.out ?_))
      unfold Hid
      have hz1 := heap_alloc_new u (.cells #[.int .i64 tk, .string tx, .int .i64 (b : Int), .int .i64 (tn : Int), .int .i64 tf] 64)
      have hz2 := gr_alloc u (.cells #[.int .i64 tk, .string tx, .int .i64 (b : Int), .int .i64 (tn : Int), .int .i64 tf] 64)
      have hKW : Hid (W.heap.size ≤ u.heap.size) := HGu.out.size
      obtain ⟨K, hK⟩ : ∃ K, K = u.heap.size := ⟨_, rfl⟩
      rw [← hK] at hz1 hKW ⊢
      have HGU := hidP (HGu.out.trans hz2 fun _ _ h => h)
      have HKt := hidP hz1
      clear hz1 hz2 hK HGu
      generalize u.alloc (.cells #[.int .i64 tk, .string tx, .int .i64 (b : Int), .int .i64 (tn : Int), .int .i64 tf] 64) = U at HGU HKt ⊢
      have t0 : U.cell? ⟨K, 0, none⟩ = some (.int .i64 tk) := by simp [World.cell?, HKt.out]
      have t1 : U.cell? ⟨K, 1, none⟩ = some (.string tx) := by simp [World.cell?, HKt.out]
      have t2 : U.cell? ⟨K, 2, none⟩ = some (.int .i64 (b : Int)) := by simp [World.cell?, HKt.out]
      have t3 : U.cell? ⟨K, 3, none⟩ = some (.int .i64 (tn : Int)) := by simp [World.cell?, HKt.out]
      have t4 : U.cell? ⟨K, 4, none⟩ = some (.int .i64 tf) := by simp [World.cell?, HKt.out]
      have HXU := hidP ((HGU.out.block p (lt_of_heap HX.out) id).trans HX.out)
      have HNU := hidP (HD.out.gr HGU.out)
      have d0 : U.cell? ⟨p, 0, none⟩ = some (.string s) := by simp [World.cell?, HXU.out]
      have d1 : U.cell? ⟨p, 1, none⟩ = some (.int .i64 (a : Int)) := by simp [World.cell?, HXU.out]
      have d2 : U.cell? ⟨p, 2, none⟩ = some (.int .i64 (o : Int)) := by simp [World.cell?, HXU.out]
      have d3 : U.cell? ⟨p, 3, none⟩ = some (n) := by simp [World.cell?, HXU.out]
      have z1 : U.frozen? ⟨p, 1, none⟩ = false := frz HXU.out 1
      have z2 : U.frozen? ⟨p, 2, none⟩ = false := frz HXU.out 2
      have z3 : U.frozen? ⟨p, 3, none⟩ = false := frz HXU.out 3
      have hpK : ¬ p = K := by have := hKW.out; have := lt_of_heap HX.out; omega
      have hKp : ¬ K = p := fun h => hpK h.symm
      go_wp2_with fail
      go_loopw [4, 5, 6] (fun n ok i wr => n = .int .i64 0 ∧ ok = .bool false ∧ i = .int .i64 0 ∧ Hid (wr = U)) (fun _ _ _ _ => 0)
      case atStart => exact ⟨rfl, rfl, rfl, rfl⟩
      case round =>
        obtain ⟨rfl, rfl, rfl, hu⟩ := hrel
        obtain rfl : U = wr := hu.out.symm
        go_wp2_with (go_at_call 55; refine Calls.mono (HW.out _ _ HNU.out) ?_; rintro e v ⟨hk2, ⟨v0, rfl, rfl⟩, hD⟩; have HK2 := hidP ((Gr.n p HGU.out).tr hk2); have HD2 := hidP hD; clear hk2 hD)
        go_ret
        exact DeQ.mk' HK2.out ⟨_, rfl⟩ HD2.out
    have HO : Hid (numO tx = if tx.data.toList.all (fun b => digitB b.toNat) then (decN tx.data.toList : Int) else -1) := if_neg fun h => h.elim (fun h => by omega) fun h => h.elim (fun h => by omega) fun h => by exact hc (by rw [← hhd]; exact h.1)
    rw [decide_eq_true hc] at e48
    clear hc hhd
    go_enter Tryz.func96, Tryz.ntmps96
    go_wp2_with (first | (go_at_call 24; refine Calls.mono (HSee.out) ?_; rintro e u ⟨hgu, rfl⟩; have HGu := hidP hgu; clear hgu) | (with_reducible show wpList Tryz.prog _ _ (Oper.mk (some 10) _ _ _ _ _ :: _) _ _; refine Hid.out ?_))
    unfold Hid
    have hz1 := heap_alloc_new u (.cells #[.int .i64 tk, .string tx, .int .i64 (b : Int), .int .i64 (tn : Int), .int .i64 tf] 64)
    have hz2 := gr_alloc u (.cells #[.int .i64 tk, .string tx, .int .i64 (b : Int), .int .i64 (tn : Int), .int .i64 tf] 64)
    have hKW : Hid (W.heap.size ≤ u.heap.size) := HGu.out.size
    obtain ⟨K, hK⟩ : ∃ K, K = u.heap.size := ⟨_, rfl⟩
    rw [← hK] at hz1 hKW ⊢
    have HGU := hidP (HGu.out.trans hz2 fun _ _ h => h)
    have HKt := hidP hz1
    clear hz1 hz2 hK HGu
    generalize u.alloc (.cells #[.int .i64 tk, .string tx, .int .i64 (b : Int), .int .i64 (tn : Int), .int .i64 tf] 64) = U at HGU HKt ⊢
    have t0 : U.cell? ⟨K, 0, none⟩ = some (.int .i64 tk) := by simp [World.cell?, HKt.out]
    have t1 : U.cell? ⟨K, 1, none⟩ = some (.string tx) := by simp [World.cell?, HKt.out]
    have t2 : U.cell? ⟨K, 2, none⟩ = some (.int .i64 (b : Int)) := by simp [World.cell?, HKt.out]
    have t3 : U.cell? ⟨K, 3, none⟩ = some (.int .i64 (tn : Int)) := by simp [World.cell?, HKt.out]
    have t4 : U.cell? ⟨K, 4, none⟩ = some (.int .i64 tf) := by simp [World.cell?, HKt.out]
    have HXU := hidP ((HGU.out.block p (lt_of_heap HX.out) id).trans HX.out)
    have HNU := hidP (HD.out.gr HGU.out)
    have d0 : U.cell? ⟨p, 0, none⟩ = some (.string s) := by simp [World.cell?, HXU.out]
    have d1 : U.cell? ⟨p, 1, none⟩ = some (.int .i64 (a : Int)) := by simp [World.cell?, HXU.out]
    have d2 : U.cell? ⟨p, 2, none⟩ = some (.int .i64 (o : Int)) := by simp [World.cell?, HXU.out]
    have d3 : U.cell? ⟨p, 3, none⟩ = some (n) := by simp [World.cell?, HXU.out]
    have z1 : U.frozen? ⟨p, 1, none⟩ = false := frz HXU.out 1
    have z2 : U.frozen? ⟨p, 2, none⟩ = false := frz HXU.out 2
    have z3 : U.frozen? ⟨p, 3, none⟩ = false := frz HXU.out 3
    have hpK : ¬ p = K := by have := hKW.out; have := lt_of_heap HX.out; omega
    have hKp : ¬ K = p := fun h => hpK h.symm
    go_wp2_with fail
    clear e48
    go_loopw [4, 5, 6] (fun N ok i wr => ∃ (k n : Nat) (okb : Bool), k ≤ tx.size ∧ N = .int .i64 (n : Int) ∧ ok = .bool okb ∧ i = .int .i64 (k : Int) ∧ Hid (wr = U ∧ (okb = false → numO tx = -1) ∧ (okb = true → n = decN (tx.data.toList.take k) ∧ n < 10 ^ k ∧ (tx.data.toList.take k).all (fun b => digitB b.toNat) = true))) (fun _ _ i _ => tx.size - (intOf i).toNat)
    case atStart => exact ⟨0, 0, true, by omega, rfl, rfl, rfl, rfl, (fun h => by cases h), fun _ => ⟨rfl, by decide, by simp⟩⟩
    case round =>
      obtain ⟨k, n, okb, hk, rfl, rfl, rfl, HK⟩ := hrel
      obtain rfl : U = wr := HK.out.1.symm
      cases okb with
      | false =>
        have HZ : Hid (z = -1) := by show z = -1; rw [← Hz1.out]; exact HK.out.2.1 rfl
        clear HK
        go_wp2_with (go_at_call 55; refine Calls.mono (HW.out _ _ HNU.out) ?_; rintro e v ⟨hk2, ⟨v0, rfl, rfl⟩, hD⟩; have HK2 := hidP ((Gr.n p HGU.out).tr hk2); have HD2 := hidP hD; clear hk2 hD)
        go_ret
        exact DeQ.mk' HK2.out ⟨_, rfl⟩ HD2.out
      | true =>
        have HK3 := hidP (HK.out.2.2 rfl)
        clear HK
        have hsk : IntKind.i64.wrap ((k : Int) + 1) = ((k + 1 : Nat) : Int) := by rw [IntKind.wrap_i64]; omega
        by_cases hlt : k < tx.size
        · have hb2 : tx.data.toList[k]? = some (tx[k]'hlt) := by rw [Array.getElem?_toList]; exact Array.getElem?_eq_getElem hlt
          have HAl := hidP (all_succ (p := fun b => digitB b.toNat) hb2 HK3.out.2.2)
          have HDN := hidP (decN_succ hb2)
          have HAll : Hid ((tx.data.toList.all fun b => digitB b.toNat) = true → digitB (tx[k]'hlt).toNat = true) := fun h => by rw [List.all_eq_true] at h; exact h _ (List.mem_of_getElem? hb2)
          clear hb2
          have hltI : (k : Int) < (tx.size : Int) := by omega
          have hn : n < 1000 := Nat.lt_of_lt_of_le HK3.out.2.1 (Nat.pow_le_pow_right (n := 10) (by decide) (show k ≤ 3 by omega))
          have hc8 : (tx[k]'hlt).toNat < 256 := UInt8.toNat_lt _
          by_cases hd : 48 ≤ (tx[k]'hlt).toNat ∧ (tx[k]'hlt).toNat ≤ 57
          · have hdB : digitB (tx[k]'hlt).toNat = true := by unfold digitB; simpa using hd
            rw [hdB] at HAl
            have p1 : ¬ ((tx[k]'hlt).toNat : Int) < 48 := by omega
            have p2 : ¬ (57 : Int) < ((tx[k]'hlt).toNat : Int) := by omega
            have w1 : IntKind.u8.wrap (((tx[k]'hlt).toNat : Int) - 48) = (((tx[k]'hlt).toNat - 48 : Nat) : Int) := by rw [IntKind.wrap_u8]; omega
            have w2 : IntKind.i64.wrap ((((tx[k]'hlt).toNat - 48 : Nat) : Int)) = (((tx[k]'hlt).toNat - 48 : Nat) : Int) := by rw [IntKind.wrap_i64]; omega
            have w3 : IntKind.i64.wrap (10 * (n : Int)) = ((10 * n : Nat) : Int) := by rw [IntKind.wrap_i64]; omega
            have w4 : IntKind.i64.wrap (((10 * n : Nat) : Int) + (((tx[k]'hlt).toNat - 48 : Nat) : Int)) = ((10 * n + ((tx[k]'hlt).toNat - 48) : Nat) : Int) := by rw [IntKind.wrap_i64]; omega
            have HNn : Hid (10 * n + ((tx[k]'hlt).toNat - 48) = decN (tx.data.toList.take (k + 1)) ∧ 10 * n + ((tx[k]'hlt).toNat - 48) < 10 ^ (k + 1)) := by refine ⟨by rw [HDN.out, ← HK3.out.1], ?_⟩; have := HK3.out.2.1; rw [Nat.pow_succ]; omega
            clear hdB hd hc8 HAll
            go_wp2_with fail
            go_roundw
            case rel => exact ⟨k + 1, 10 * n + ((tx[k]'hlt).toNat - 48), true, by omega, (by go_num), rfl, (by go_num), (by first | exact ⟨rfl, (fun h => by cases h), fun _ => ⟨HNn.out.1, HNn.out.2, HAl.out⟩⟩ | exact ⟨trivial, (fun h => by cases h), fun _ => ⟨HNn.out.1, HNn.out.2, HAl.out⟩⟩)⟩
            case measure => simp [intOf]; omega
          have HV : Hid (numO tx = -1) := by rw [Hid, HO.out]; exact if_neg fun h => hd (by have := HAll.out h; unfold digitB at this; simpa using this)
          clear HAll HAl HDN
          by_cases p1 : ((tx[k]'hlt).toNat : Int) < 48
          · skip
            clear hd
            go_wp2_with fail
            go_roundw
            case rel => exact ⟨k + 1, n, false, by omega, rfl, rfl, (by go_num), (by first | exact ⟨rfl, (fun _ => HV.out), fun h => by cases h⟩ | exact ⟨trivial, (fun _ => HV.out), fun h => by cases h⟩)⟩
            case measure => simp [intOf]; omega
          have p2 : (57 : Int) < ((tx[k]'hlt).toNat : Int) := by omega
          clear hd
          go_wp2_with fail
          go_roundw
          case rel => exact ⟨k + 1, n, false, by omega, rfl, rfl, (by go_num), (by first | exact ⟨rfl, (fun _ => HV.out), fun h => by cases h⟩ | exact ⟨trivial, (fun _ => HV.out), fun h => by cases h⟩)⟩
          case measure => simp [intOf]; omega
        obtain rfl : k = tx.size := by omega
        have HV : Hid (z = (n : Int)) := by have h1 := HK3.out.1; have h2 := HK3.out.2.2; rw [List.take_of_length_le (by simp)] at h1 h2; show z = _; rw [← Hz1.out, HO.out, if_pos h2, h1]
        have hltI : ¬ (tx.size : Int) < (tx.size : Int) := by omega
        go_wp2_with fail
        go_ret
        exact DeQ.mk' (Gr.n p HGU.out) ⟨_, rfl⟩ HNU.out
  have hek : (tk == 1) = false := beq_eq_false_iff_ne.2 h1
  have HZ : Hid (z = -1) := by show z = -1; rw [← hz, if_neg h1]
  clear h1 hz hm2
  go_enter Tryz.func96, Tryz.ntmps96
  go_wp2_with (first | (go_at_call 24; refine Calls.mono (HSee.out) ?_; rintro e u ⟨hgu, rfl⟩; have HGu := hidP hgu; clear hgu) | (with_reducible show wpList Tryz.prog _ _ (Oper.mk (some 10) _ _ _ _ _ :: _) _ _; refine Hid.out ?_))
  unfold Hid
  have hz1 := heap_alloc_new u (.cells #[.int .i64 tk, .string tx, .int .i64 (b : Int), .int .i64 (tn : Int), .int .i64 tf] 64)
  have hz2 := gr_alloc u (.cells #[.int .i64 tk, .string tx, .int .i64 (b : Int), .int .i64 (tn : Int), .int .i64 tf] 64)
  have hKW : Hid (W.heap.size ≤ u.heap.size) := HGu.out.size
  obtain ⟨K, hK⟩ : ∃ K, K = u.heap.size := ⟨_, rfl⟩
  rw [← hK] at hz1 hKW ⊢
  have HGU := hidP (HGu.out.trans hz2 fun _ _ h => h)
  have HKt := hidP hz1
  clear hz1 hz2 hK HGu
  generalize u.alloc (.cells #[.int .i64 tk, .string tx, .int .i64 (b : Int), .int .i64 (tn : Int), .int .i64 tf] 64) = U at HGU HKt ⊢
  have t0 : U.cell? ⟨K, 0, none⟩ = some (.int .i64 tk) := by simp [World.cell?, HKt.out]
  have t1 : U.cell? ⟨K, 1, none⟩ = some (.string tx) := by simp [World.cell?, HKt.out]
  have t2 : U.cell? ⟨K, 2, none⟩ = some (.int .i64 (b : Int)) := by simp [World.cell?, HKt.out]
  have t3 : U.cell? ⟨K, 3, none⟩ = some (.int .i64 (tn : Int)) := by simp [World.cell?, HKt.out]
  have t4 : U.cell? ⟨K, 4, none⟩ = some (.int .i64 tf) := by simp [World.cell?, HKt.out]
  have HXU := hidP ((HGU.out.block p (lt_of_heap HX.out) id).trans HX.out)
  have HNU := hidP (HD.out.gr HGU.out)
  have d0 : U.cell? ⟨p, 0, none⟩ = some (.string s) := by simp [World.cell?, HXU.out]
  have d1 : U.cell? ⟨p, 1, none⟩ = some (.int .i64 (a : Int)) := by simp [World.cell?, HXU.out]
  have d2 : U.cell? ⟨p, 2, none⟩ = some (.int .i64 (o : Int)) := by simp [World.cell?, HXU.out]
  have d3 : U.cell? ⟨p, 3, none⟩ = some (n) := by simp [World.cell?, HXU.out]
  have z1 : U.frozen? ⟨p, 1, none⟩ = false := frz HXU.out 1
  have z2 : U.frozen? ⟨p, 2, none⟩ = false := frz HXU.out 2
  have z3 : U.frozen? ⟨p, 3, none⟩ = false := frz HXU.out 3
  have hpK : ¬ p = K := by have := hKW.out; have := lt_of_heap HX.out; omega
  have hKp : ¬ K = p := fun h => hpK h.symm
  go_wp2_with fail
  go_loopw [4, 5, 6] (fun n ok i wr => n = .int .i64 0 ∧ ok = .bool false ∧ i = .int .i64 0 ∧ Hid (wr = U)) (fun _ _ _ _ => 0)
  case atStart => exact ⟨rfl, rfl, rfl, rfl⟩
  case round =>
    obtain ⟨rfl, rfl, rfl, hu⟩ := hrel
    obtain rfl : U = wr := hu.out.symm
    go_wp2_with (go_at_call 55; refine Calls.mono (HW.out _ _ HNU.out) ?_; rintro e v ⟨hk2, ⟨v0, rfl, rfl⟩, hD⟩; have HK2 := hidP ((Gr.n p HGU.out).tr hk2); have HD2 := hidP hD; clear hk2 hD)
    go_ret
    exact DeQ.mk' HK2.out ⟨_, rfl⟩ HD2.out
end Go.Proofs.YtkodgneneiledaaGreatDoor.Kit
