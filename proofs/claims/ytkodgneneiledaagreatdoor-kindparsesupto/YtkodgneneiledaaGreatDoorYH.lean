import Derived.Test.YtkodgneneiledaaGreatDoorYG
import Derived.Test.YtkodgneneiledaaGreatDoorSF
set_option maxRecDepth 100000
set_option maxHeartbeats 4000000
namespace Go.Proofs.YtkodgneneiledaaGreatDoor.Kit
open Go.RowKit Go.Shelf Go.Deep
set_option linter.unusedVariables false
attribute [local go_sem] run_store_func
def plainO (x : ByteArray) : Int := if 1 ≤ kindO x ∧ kindO x ≤ 13 then kindO x else 0
def openO (x : ByteArray) : Int := if 14 ≤ kindO x then kindO x else 0
theorem kindO_word : ∀ k : Fin 21, 0 < k.val → kindO ⟨(wordK k.val).toArray⟩ = (k.val : Int) := by decide +kernel
theorem kindO_of {x : ByteArray} {k : Nat} (h1 : 1 ≤ k) (h2 : k ≤ 20) (h : x.data.toList = wordK k) : kindO x = (k : Int) := by
  have := kindO_word ⟨k, by omega⟩ h1
  rw [← this]
  congr 1
  apply ByteArray.ext; apply Array.toList_inj.1; exact h
theorem kindO_cases (x : ByteArray) : kindO x = -1 ∨ ∃ k : Nat, 1 ≤ k ∧ k ≤ 20 ∧ kindO x = (k : Int) ∧ x.data.toList = wordK k := by
  unfold kindO
  cases h : (List.range 21).find? fun k => decide (0 < k) && decide (x.data.toList = wordK k) with
  | none => exact .inl rfl
  | some k =>
    have h1 := List.find?_some h
    have h2 := List.mem_of_find?_eq_some h
    simp only [Bool.and_eq_true, decide_eq_true_eq] at h1
    rw [List.mem_range] at h2
    exact .inr ⟨k, h1.1, by omega, rfl, h1.2⟩
theorem str_wd {x : ByteArray} {k : Nat} : (((wdB k).toList == x.toList) = true) ↔ x.data.toList = wordK k := by
  rw [beq_iff_eq, ByteArray.toList_eq, ByteArray.toList_eq]
  constructor
  · intro h; exact h.symm
  intro h; exact h.symm
theorem str_lit {x : ByteArray} {l : List UInt8} : ((x.toList == l) = true) ↔ x.data.toList = l := by
  rw [beq_iff_eq, ByteArray.toList_eq]
theorem index_iff {x : ByteArray} : indexO x = if 3 ≤ plainO x ∧ plainO x ≤ 10 then plainO x else -1 := by
  have key : ∀ z : Int, (indexB z = true) ↔ (3 ≤ z ∧ z ≤ 10) := fun z => by unfold indexB; simp
  unfold indexO plainO
  by_cases h : 3 ≤ kindO x ∧ kindO x ≤ 10
  · rw [if_pos ((key _).2 h), if_pos (show 1 ≤ kindO x ∧ kindO x ≤ 13 by omega), if_pos h]
  rw [if_neg (fun e => h ((key _).1 e))]
  by_cases h2 : 1 ≤ kindO x ∧ kindO x ≤ 13
  · rw [if_pos h2, if_neg h]
  rw [if_neg h2, if_neg (by omega)]
theorem word94 (k : Nat) (h1 : 1 ≤ k) (h2 : k ≤ 13) (w : World) : Calls Tryz.prog 94 #[.int .i64 (k : Int)] w fun e w' => e = .returned (.string (wdB k)) ∧ w' = w := by
  have hc : k = 1 ∨ k = 2 ∨ k = 3 ∨ k = 4 ∨ k = 5 ∨ k = 6 ∨ k = 7 ∨ k = 8 ∨ k = 9 ∨ k = 10 ∨ k = 11 ∨ k = 12 ∨ k = 13 := by omega
  clear h1 h2
  rcases hc with rfl | rfl | rfl | rfl | rfl | rfl | rfl | rfl | rfl | rfl | rfl | rfl | rfl
  all_goals
    go_enter Tryz.func94, Tryz.ntmps94
    go_wp2
    go_ret
    exact ⟨rfl, rfl⟩
theorem kindOf62 (x : ByteArray) (w : World) : Calls Tryz.prog 62 #[.string x] w fun e w' => e = .returned (.int .i64 (plainO x)) ∧ w' = w := by
  have HWd := hidP word94
  obtain ⟨R, hR⟩ : ∃ R, R = plainO x := ⟨_, rfl⟩
  rw [← hR]
  have HR := hidP hR
  clear hR
  go_enter Tryz.func62, Tryz.ntmps62
  go_wp2_with fail
  go_loopw [3] (fun i wr => ∃ k : Nat, 1 ≤ k ∧ k ≤ 14 ∧ i = .int .i64 (k : Int) ∧ Hid (wr = w ∧ ∀ j, 1 ≤ j → j < k → x.data.toList ≠ wordK j)) (fun i _ => 14 - (intOf i).toNat)
  case atStart => exact ⟨1, by omega, by omega, rfl, rfl, fun j h1 h2 => by omega⟩
  case round =>
    obtain ⟨k, hk1, hk, rfl, HK⟩ := hrel
    obtain rfl : w = wr := HK.out.1.symm
    have hadd : IntKind.i64.wrap ((k : Int) + 1) = ((k + 1 : Nat) : Int) := by rw [IntKind.wrap_i64]; omega
    by_cases hlt : k ≤ 13
    · have hltI : (k : Int) ≤ 13 := by omega
      have HQ := hidP (HWd.out k hk1 hlt)
      by_cases hx : x.data.toList = wordK k
      · have he := str_wd.2 hx
        have HE : Hid (R = (k : Int)) := by show R = _; rw [HR.out]; unfold plainO; rw [kindO_of hk1 (by omega) hx, if_pos (by omega)]
        clear hx
        go_wp2_with (go_at_call 94; refine Calls.mono (HQ.out _) ?_; rintro e u ⟨rfl, hu⟩; replace hu := hu.symm; subst hu)
        go_ret
        exact ⟨(congrArg (fun z => Ending.returned (Value.int .i64 z)) HE.out).symm, rfl⟩
      have he : ((wdB k).toList == x.toList) = false := Bool.eq_false_iff.2 fun h => hx (str_wd.1 h)
      have HN : Hid (∀ j, 1 ≤ j → j < k + 1 → x.data.toList ≠ wordK j) := fun j h1 h2 => if e : j = k then by rw [e]; exact hx else HK.out.2 j h1 (by omega)
      clear hx
      go_wp2_with (go_at_call 94; refine Calls.mono (HQ.out _) ?_; rintro e u ⟨rfl, hu⟩; replace hu := hu.symm; subst hu)
      go_roundw
      case rel => exact ⟨k + 1, by omega, by omega, by simp, (by first | exact ⟨rfl, HN.out⟩ | exact ⟨trivial, HN.out⟩)⟩
      case measure => simp [intOf]; omega
    have hltI : ¬ (k : Int) ≤ 13 := by omega
    have HE : Hid (R = 0) := by
        show R = 0; rw [HR.out]; unfold plainO
        rcases kindO_cases x with e | ⟨j, h1, h2, e, hx⟩
        · rw [e]; rfl
        rw [e]; exact if_neg fun h => HK.out.2 j h1 (by omega) hx
    go_wp2_with fail
    go_ret
    exact ⟨(congrArg (fun z => Ending.returned (Value.int .i64 z)) HE.out).symm, rfl⟩
theorem kindOpen63 (x : ByteArray) (w : World) : Calls Tryz.prog 63 #[.string x] w fun e w' => e = .returned (.int .i64 (openO x)) ∧ w' = w := by
  obtain ⟨R, hR⟩ : ∃ R, R = openO x := ⟨_, rfl⟩
  rw [← hR]
  have HR := hidP hR
  clear hR
  by_cases h14 : x.data.toList = wordK 14
  · have e14 : (x.toList == [102, 105, 120, 101, 100]) = true := str_lit.2 h14
    have HE : Hid (R = 14) := by show R = 14; rw [HR.out]; unfold openO; rw [kindO_of (k := 14) (by omega) (by omega) h14]; rfl
    clear h14
    go_enter Tryz.func63, Tryz.ntmps63
    go_wp2_with fail
    go_ret
    exact ⟨(congrArg (fun z => Ending.returned (Value.int .i64 z)) HE.out).symm, rfl⟩
  have e14 : (x.toList == [102, 105, 120, 101, 100]) = false := Bool.eq_false_iff.2 fun h => h14 (str_lit.1 h)
  by_cases h15 : x.data.toList = wordK 15
  · have e15 : (x.toList == [108, 105, 115, 116]) = true := str_lit.2 h15
    have HE : Hid (R = 15) := by show R = 15; rw [HR.out]; unfold openO; rw [kindO_of (k := 15) (by omega) (by omega) h15]; rfl
    clear h14 h15
    go_enter Tryz.func63, Tryz.ntmps63
    go_wp2_with fail
    go_ret
    exact ⟨(congrArg (fun z => Ending.returned (Value.int .i64 z)) HE.out).symm, rfl⟩
  have e15 : (x.toList == [108, 105, 115, 116]) = false := Bool.eq_false_iff.2 fun h => h15 (str_lit.1 h)
  by_cases h16 : x.data.toList = wordK 16
  · have e16 : (x.toList == [115, 112, 97, 110]) = true := str_lit.2 h16
    have HE : Hid (R = 16) := by show R = 16; rw [HR.out]; unfold openO; rw [kindO_of (k := 16) (by omega) (by omega) h16]; rfl
    clear h14 h15 h16
    go_enter Tryz.func63, Tryz.ntmps63
    go_wp2_with fail
    go_ret
    exact ⟨(congrArg (fun z => Ending.returned (Value.int .i64 z)) HE.out).symm, rfl⟩
  have e16 : (x.toList == [115, 112, 97, 110]) = false := Bool.eq_false_iff.2 fun h => h16 (str_lit.1 h)
  by_cases h17 : x.data.toList = wordK 17
  · have e17 : (x.toList == [115, 116, 114, 117, 99, 116]) = true := str_lit.2 h17
    have HE : Hid (R = 17) := by show R = 17; rw [HR.out]; unfold openO; rw [kindO_of (k := 17) (by omega) (by omega) h17]; rfl
    clear h14 h15 h16 h17
    go_enter Tryz.func63, Tryz.ntmps63
    go_wp2_with fail
    go_ret
    exact ⟨(congrArg (fun z => Ending.returned (Value.int .i64 z)) HE.out).symm, rfl⟩
  have e17 : (x.toList == [115, 116, 114, 117, 99, 116]) = false := Bool.eq_false_iff.2 fun h => h17 (str_lit.1 h)
  by_cases h18 : x.data.toList = wordK 18
  · have e18 : (x.toList == [99, 104, 111, 105, 99, 101]) = true := str_lit.2 h18
    have HE : Hid (R = 18) := by show R = 18; rw [HR.out]; unfold openO; rw [kindO_of (k := 18) (by omega) (by omega) h18]; rfl
    clear h14 h15 h16 h17 h18
    go_enter Tryz.func63, Tryz.ntmps63
    go_wp2_with fail
    go_ret
    exact ⟨(congrArg (fun z => Ending.returned (Value.int .i64 z)) HE.out).symm, rfl⟩
  have e18 : (x.toList == [99, 104, 111, 105, 99, 101]) = false := Bool.eq_false_iff.2 fun h => h18 (str_lit.1 h)
  by_cases h19 : x.data.toList = wordK 19
  · have e19 : (x.toList == [100, 105, 99, 116]) = true := str_lit.2 h19
    have HE : Hid (R = 19) := by show R = 19; rw [HR.out]; unfold openO; rw [kindO_of (k := 19) (by omega) (by omega) h19]; rfl
    clear h14 h15 h16 h17 h18 h19
    go_enter Tryz.func63, Tryz.ntmps63
    go_wp2_with fail
    go_ret
    exact ⟨(congrArg (fun z => Ending.returned (Value.int .i64 z)) HE.out).symm, rfl⟩
  have e19 : (x.toList == [100, 105, 99, 116]) = false := Bool.eq_false_iff.2 fun h => h19 (str_lit.1 h)
  by_cases h20 : x.data.toList = wordK 20
  · have e20 : (x.toList == [114, 117, 110, 115]) = true := str_lit.2 h20
    have HE : Hid (R = 20) := by show R = 20; rw [HR.out]; unfold openO; rw [kindO_of (k := 20) (by omega) (by omega) h20]; rfl
    clear h14 h15 h16 h17 h18 h19 h20
    go_enter Tryz.func63, Tryz.ntmps63
    go_wp2_with fail
    go_ret
    exact ⟨(congrArg (fun z => Ending.returned (Value.int .i64 z)) HE.out).symm, rfl⟩
  have e20 : (x.toList == [114, 117, 110, 115]) = false := Bool.eq_false_iff.2 fun h => h20 (str_lit.1 h)
  have HE : Hid (R = 0) := by
      show R = 0; rw [HR.out]; unfold openO
      rcases kindO_cases x with e | ⟨j, h1, h2, e, hx⟩
      · rw [e]; rfl
      rw [e]; refine if_neg fun h => ?_
      have hj : j = 14 ∨ j = 15 ∨ j = 16 ∨ j = 17 ∨ j = 18 ∨ j = 19 ∨ j = 20 := by omega
      rcases hj with rfl | rfl | rfl | rfl | rfl | rfl | rfl <;> contradiction
  clear h14 h15 h16 h17 h18 h19 h20
  go_enter Tryz.func63, Tryz.ntmps63
  go_wp2_with fail
  go_ret
  exact ⟨(congrArg (fun z => Ending.returned (Value.int .i64 z)) HE.out).symm, rfl⟩
theorem index97 (p : Nat) (s : ByteArray) (d : Nat) : DnC p s d 97 #[.pointer (some ⟨p, 0, none⟩)] (meanP s.data.toList indexO) (fun _ _ x v => v = .int .i64 x) (fun v => ∃ n, v = .int .i64 n) := by
  intro W c g hN _
  have HN := hidP hN
  obtain ⟨a, vo, vc, hA, hsm, hgc, hcs⟩ := hN
  have HSee := hidP (see24 p s a _ _ W hA.box hA.pos hA.len)
  unfold tokV at HSee
  rw [show a + skN (s.data.toList.drop a) = c + skN (s.data.toList.drop c) from hsm] at HSee
  have HA := hidP hA
  have hb := skN_le s hcs
  have HW := hidP (fun U (h : DA U p s c g) => wrong55 p s U c g h)
  have hbc : c ≤ c + skN (s.data.toList.drop c) := Nat.le_add_right _ _
  clear hA hsm
  generalize hgb : c + skN (s.data.toList.drop c) = b at HSee hb HW hbc
  rcases hTok : tokOf s.data.toList b with ⟨tk, tx, tn, tf⟩
  rw [hTok] at HSee
  (try dsimp only at HSee)
  have hm := mean_tok (g := g) (of := indexO) (by decide) hgb.symm hb hTok
  obtain ⟨R, hR⟩ : ∃ R, R = meanP s.data.toList indexO (c, g) := ⟨_, rfl⟩
  rw [← hR]
  rw [← hR] at hm
  have HR := hidP hm.1
  have hm2 := hm.2
  clear hTok hm hR hgb
  have HKd := hidP (kindOf62 tx)
  by_cases h1 : tk = 1
  · have hek : (tk == 1) = true := by rw [h1]; rfl
    have Hbt : Hid (g.length ≤ tn ∧ tn ≤ s.size) := by have := hm2 h1; exact ⟨by omega, this.2.1⟩
    rw [if_pos h1, index_iff] at HR
    clear h1 hm2
    generalize plainO tx = z at HR HKd
    by_cases hz : 3 ≤ z ∧ z ≤ 10
    · rw [if_pos hz, if_neg (by omega)] at HR
      have p1 : ¬ z < 3 := by omega
      have p2 : ¬ 10 < z := by omega
      clear hz
      go_enter Tryz.func97, Tryz.ntmps97
      go_wp2_with (first | (go_at_call 24; refine Calls.mono (HSee.out) ?_; rintro e u ⟨hgu, rfl⟩; have HGu := hidP hgu; clear hgu) | (with_reducible show wpList Tryz.prog _ _ (Oper.mk (some 8) _ _ _ _ _ :: _) _ _; refine Hid.out ?_))
      unfold Hid
      have hz1 := heap_alloc_new u (.cells #[.int .i64 tk, .string tx, .int .i64 (b : Int), .int .i64 (tn : Int), .int .i64 tf] 64)
      have hz2 := gr_alloc u (.cells #[.int .i64 tk, .string tx, .int .i64 (b : Int), .int .i64 (tn : Int), .int .i64 tf] 64)
      have hKW : Hid (W.heap.size ≤ u.heap.size) := HGu.out.size
      obtain ⟨K, hK⟩ : ∃ K, K = u.heap.size := ⟨_, rfl⟩
      rw [← hK] at hz1 hKW ⊢
      have HGU := hidP (HGu.out.trans hz2 fun _ _ h => h)
      have HKt := hidP hz1
      clear hz1 hz2 hK HGu
      generalize u.alloc (.cells #[.int .i64 tk, .string tx, .int .i64 (b : Int), .int .i64 (tn : Int), .int .i64 tf] 64) = U at HGU HKt ⊢
      have t0 : U.cell? ⟨K, 0, none⟩ = some (.int .i64 tk) := by simp [World.cell?, HKt.out]
      have t1 : U.cell? ⟨K, 1, none⟩ = some (.string tx) := by simp [World.cell?, HKt.out]
      have t2 : U.cell? ⟨K, 2, none⟩ = some (.int .i64 (b : Int)) := by simp [World.cell?, HKt.out]
      have t3 : U.cell? ⟨K, 3, none⟩ = some (.int .i64 (tn : Int)) := by simp [World.cell?, HKt.out]
      have t4 : U.cell? ⟨K, 4, none⟩ = some (.int .i64 tf) := by simp [World.cell?, HKt.out]
      have HAU := hidP (HA.out.gr HGU.out)
      have HNU := hidP (HN.out.gr HGU.out)
      have d0 : U.cell? ⟨p, 0, none⟩ = some (.string s) := by simp [World.cell?, HAU.out.box]
      have d1 : U.cell? ⟨p, 1, none⟩ = some (.int .i64 (a : Int)) := by simp [World.cell?, HAU.out.box]
      have d2 : U.cell? ⟨p, 2, none⟩ = some (.int .i64 (-1)) := by simp [World.cell?, HAU.out.box]
      have d3 : U.cell? ⟨p, 3, none⟩ = some (.slice vo g.length vc) := by simp [World.cell?, HAU.out.box]
      have z1 : U.frozen? ⟨p, 1, none⟩ = false := frz HAU.out.box 1
      have z2 : U.frozen? ⟨p, 2, none⟩ = false := frz HAU.out.box 2
      have z3 : U.frozen? ⟨p, 3, none⟩ = false := frz HAU.out.box 3
      have hpK : ¬ p = K := by have := hKW.out; have := lt_of_heap HA.out.box; omega
      have hKp : ¬ K = p := fun h => hpK h.symm
      go_wp2_with (first | (go_at_call 62; refine Calls.mono (HKd.out _) ?_; rintro e v ⟨rfl, hu⟩; replace hu := hu.symm; subst hu) | (go_at_call 55; refine Calls.mono (HW.out _ HNU.out) ?_; rintro e v ⟨hk2, rfl, hD⟩; have HK2 := hidP ((Gr.n p HGU.out).tr hk2); have HD2 := hidP hD; clear hk2 hD))
      go_ret
      exact DnQ.ok (kpn_set HGU.out) HR.out rfl ⟨tn, vo, vc, HAU.out.move Hbt.out.2, rfl, Hbt.out.1, Hbt.out.2⟩
    rw [if_neg hz, if_pos (by decide)] at HR
    by_cases p1 : z < 3
    · clear hz
      go_enter Tryz.func97, Tryz.ntmps97
      go_wp2_with (first | (go_at_call 24; refine Calls.mono (HSee.out) ?_; rintro e u ⟨hgu, rfl⟩; have HGu := hidP hgu; clear hgu) | (with_reducible show wpList Tryz.prog _ _ (Oper.mk (some 8) _ _ _ _ _ :: _) _ _; refine Hid.out ?_))
      unfold Hid
      have hz1 := heap_alloc_new u (.cells #[.int .i64 tk, .string tx, .int .i64 (b : Int), .int .i64 (tn : Int), .int .i64 tf] 64)
      have hz2 := gr_alloc u (.cells #[.int .i64 tk, .string tx, .int .i64 (b : Int), .int .i64 (tn : Int), .int .i64 tf] 64)
      have hKW : Hid (W.heap.size ≤ u.heap.size) := HGu.out.size
      obtain ⟨K, hK⟩ : ∃ K, K = u.heap.size := ⟨_, rfl⟩
      rw [← hK] at hz1 hKW ⊢
      have HGU := hidP (HGu.out.trans hz2 fun _ _ h => h)
      have HKt := hidP hz1
      clear hz1 hz2 hK HGu
      generalize u.alloc (.cells #[.int .i64 tk, .string tx, .int .i64 (b : Int), .int .i64 (tn : Int), .int .i64 tf] 64) = U at HGU HKt ⊢
      have t0 : U.cell? ⟨K, 0, none⟩ = some (.int .i64 tk) := by simp [World.cell?, HKt.out]
      have t1 : U.cell? ⟨K, 1, none⟩ = some (.string tx) := by simp [World.cell?, HKt.out]
      have t2 : U.cell? ⟨K, 2, none⟩ = some (.int .i64 (b : Int)) := by simp [World.cell?, HKt.out]
      have t3 : U.cell? ⟨K, 3, none⟩ = some (.int .i64 (tn : Int)) := by simp [World.cell?, HKt.out]
      have t4 : U.cell? ⟨K, 4, none⟩ = some (.int .i64 tf) := by simp [World.cell?, HKt.out]
      have HAU := hidP (HA.out.gr HGU.out)
      have HNU := hidP (HN.out.gr HGU.out)
      have d0 : U.cell? ⟨p, 0, none⟩ = some (.string s) := by simp [World.cell?, HAU.out.box]
      have d1 : U.cell? ⟨p, 1, none⟩ = some (.int .i64 (a : Int)) := by simp [World.cell?, HAU.out.box]
      have d2 : U.cell? ⟨p, 2, none⟩ = some (.int .i64 (-1)) := by simp [World.cell?, HAU.out.box]
      have d3 : U.cell? ⟨p, 3, none⟩ = some (.slice vo g.length vc) := by simp [World.cell?, HAU.out.box]
      have z1 : U.frozen? ⟨p, 1, none⟩ = false := frz HAU.out.box 1
      have z2 : U.frozen? ⟨p, 2, none⟩ = false := frz HAU.out.box 2
      have z3 : U.frozen? ⟨p, 3, none⟩ = false := frz HAU.out.box 3
      have hpK : ¬ p = K := by have := hKW.out; have := lt_of_heap HA.out.box; omega
      have hKp : ¬ K = p := fun h => hpK h.symm
      go_wp2_with (first | (go_at_call 62; refine Calls.mono (HKd.out _) ?_; rintro e v ⟨rfl, hu⟩; replace hu := hu.symm; subst hu) | (go_at_call 55; refine Calls.mono (HW.out _ HNU.out) ?_; rintro e v ⟨hk2, rfl, hD⟩; have HK2 := hidP ((Gr.n p HGU.out).tr hk2); have HD2 := hidP hD; clear hk2 hD))
      go_ret
      exact DnQ.err HK2.out HR.out ⟨_, rfl⟩ HD2.out
    have p2 : 10 < z := by omega
    clear hz
    go_enter Tryz.func97, Tryz.ntmps97
    go_wp2_with (first | (go_at_call 24; refine Calls.mono (HSee.out) ?_; rintro e u ⟨hgu, rfl⟩; have HGu := hidP hgu; clear hgu) | (with_reducible show wpList Tryz.prog _ _ (Oper.mk (some 8) _ _ _ _ _ :: _) _ _; refine Hid.out ?_))
    unfold Hid
    have hz1 := heap_alloc_new u (.cells #[.int .i64 tk, .string tx, .int .i64 (b : Int), .int .i64 (tn : Int), .int .i64 tf] 64)
    have hz2 := gr_alloc u (.cells #[.int .i64 tk, .string tx, .int .i64 (b : Int), .int .i64 (tn : Int), .int .i64 tf] 64)
    have hKW : Hid (W.heap.size ≤ u.heap.size) := HGu.out.size
    obtain ⟨K, hK⟩ : ∃ K, K = u.heap.size := ⟨_, rfl⟩
    rw [← hK] at hz1 hKW ⊢
    have HGU := hidP (HGu.out.trans hz2 fun _ _ h => h)
    have HKt := hidP hz1
    clear hz1 hz2 hK HGu
    generalize u.alloc (.cells #[.int .i64 tk, .string tx, .int .i64 (b : Int), .int .i64 (tn : Int), .int .i64 tf] 64) = U at HGU HKt ⊢
    have t0 : U.cell? ⟨K, 0, none⟩ = some (.int .i64 tk) := by simp [World.cell?, HKt.out]
    have t1 : U.cell? ⟨K, 1, none⟩ = some (.string tx) := by simp [World.cell?, HKt.out]
    have t2 : U.cell? ⟨K, 2, none⟩ = some (.int .i64 (b : Int)) := by simp [World.cell?, HKt.out]
    have t3 : U.cell? ⟨K, 3, none⟩ = some (.int .i64 (tn : Int)) := by simp [World.cell?, HKt.out]
    have t4 : U.cell? ⟨K, 4, none⟩ = some (.int .i64 tf) := by simp [World.cell?, HKt.out]
    have HAU := hidP (HA.out.gr HGU.out)
    have HNU := hidP (HN.out.gr HGU.out)
    have d0 : U.cell? ⟨p, 0, none⟩ = some (.string s) := by simp [World.cell?, HAU.out.box]
    have d1 : U.cell? ⟨p, 1, none⟩ = some (.int .i64 (a : Int)) := by simp [World.cell?, HAU.out.box]
    have d2 : U.cell? ⟨p, 2, none⟩ = some (.int .i64 (-1)) := by simp [World.cell?, HAU.out.box]
    have d3 : U.cell? ⟨p, 3, none⟩ = some (.slice vo g.length vc) := by simp [World.cell?, HAU.out.box]
    have z1 : U.frozen? ⟨p, 1, none⟩ = false := frz HAU.out.box 1
    have z2 : U.frozen? ⟨p, 2, none⟩ = false := frz HAU.out.box 2
    have z3 : U.frozen? ⟨p, 3, none⟩ = false := frz HAU.out.box 3
    have hpK : ¬ p = K := by have := hKW.out; have := lt_of_heap HA.out.box; omega
    have hKp : ¬ K = p := fun h => hpK h.symm
    go_wp2_with (first | (go_at_call 62; refine Calls.mono (HKd.out _) ?_; rintro e v ⟨rfl, hu⟩; replace hu := hu.symm; subst hu) | (go_at_call 55; refine Calls.mono (HW.out _ HNU.out) ?_; rintro e v ⟨hk2, rfl, hD⟩; have HK2 := hidP ((Gr.n p HGU.out).tr hk2); have HD2 := hidP hD; clear hk2 hD))
    go_ret
    exact DnQ.err HK2.out HR.out ⟨_, rfl⟩ HD2.out
  have hek : (tk == 1) = false := beq_eq_false_iff_ne.2 h1
  rw [if_neg h1, if_pos (by decide)] at HR
  clear h1 hm2
  go_enter Tryz.func97, Tryz.ntmps97
  go_wp2_with (first | (go_at_call 24; refine Calls.mono (HSee.out) ?_; rintro e u ⟨hgu, rfl⟩; have HGu := hidP hgu; clear hgu) | (with_reducible show wpList Tryz.prog _ _ (Oper.mk (some 8) _ _ _ _ _ :: _) _ _; refine Hid.out ?_))
  unfold Hid
  have hz1 := heap_alloc_new u (.cells #[.int .i64 tk, .string tx, .int .i64 (b : Int), .int .i64 (tn : Int), .int .i64 tf] 64)
  have hz2 := gr_alloc u (.cells #[.int .i64 tk, .string tx, .int .i64 (b : Int), .int .i64 (tn : Int), .int .i64 tf] 64)
  have hKW : Hid (W.heap.size ≤ u.heap.size) := HGu.out.size
  obtain ⟨K, hK⟩ : ∃ K, K = u.heap.size := ⟨_, rfl⟩
  rw [← hK] at hz1 hKW ⊢
  have HGU := hidP (HGu.out.trans hz2 fun _ _ h => h)
  have HKt := hidP hz1
  clear hz1 hz2 hK HGu
  generalize u.alloc (.cells #[.int .i64 tk, .string tx, .int .i64 (b : Int), .int .i64 (tn : Int), .int .i64 tf] 64) = U at HGU HKt ⊢
  have t0 : U.cell? ⟨K, 0, none⟩ = some (.int .i64 tk) := by simp [World.cell?, HKt.out]
  have t1 : U.cell? ⟨K, 1, none⟩ = some (.string tx) := by simp [World.cell?, HKt.out]
  have t2 : U.cell? ⟨K, 2, none⟩ = some (.int .i64 (b : Int)) := by simp [World.cell?, HKt.out]
  have t3 : U.cell? ⟨K, 3, none⟩ = some (.int .i64 (tn : Int)) := by simp [World.cell?, HKt.out]
  have t4 : U.cell? ⟨K, 4, none⟩ = some (.int .i64 tf) := by simp [World.cell?, HKt.out]
  have HAU := hidP (HA.out.gr HGU.out)
  have HNU := hidP (HN.out.gr HGU.out)
  have d0 : U.cell? ⟨p, 0, none⟩ = some (.string s) := by simp [World.cell?, HAU.out.box]
  have d1 : U.cell? ⟨p, 1, none⟩ = some (.int .i64 (a : Int)) := by simp [World.cell?, HAU.out.box]
  have d2 : U.cell? ⟨p, 2, none⟩ = some (.int .i64 (-1)) := by simp [World.cell?, HAU.out.box]
  have d3 : U.cell? ⟨p, 3, none⟩ = some (.slice vo g.length vc) := by simp [World.cell?, HAU.out.box]
  have z1 : U.frozen? ⟨p, 1, none⟩ = false := frz HAU.out.box 1
  have z2 : U.frozen? ⟨p, 2, none⟩ = false := frz HAU.out.box 2
  have z3 : U.frozen? ⟨p, 3, none⟩ = false := frz HAU.out.box 3
  have hpK : ¬ p = K := by have := hKW.out; have := lt_of_heap HA.out.box; omega
  have hKp : ¬ K = p := fun h => hpK h.symm
  go_wp2_with (first | (go_at_call 62; refine Calls.mono (HKd.out _) ?_; rintro e v ⟨rfl, hu⟩; replace hu := hu.symm; subst hu) | (go_at_call 55; refine Calls.mono (HW.out _ HNU.out) ?_; rintro e v ⟨hk2, rfl, hD⟩; have HK2 := hidP ((Gr.n p HGU.out).tr hk2); have HD2 := hidP hD; clear hk2 hD))
  go_ret
  exact DnQ.err HK2.out HR.out ⟨_, rfl⟩ HD2.out
end Go.Proofs.YtkodgneneiledaaGreatDoor.Kit
