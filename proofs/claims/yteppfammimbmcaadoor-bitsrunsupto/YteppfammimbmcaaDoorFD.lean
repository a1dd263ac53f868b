import Derived.Test.YteppfammimbmcaaDoorFC
namespace Go.Proofs.YteppfammimbmcaaDoor.Kit
open Go.RowKit Go.Deep
set_option linter.unusedVariables false

def partV (ao bo : Option Addr) (na ca nb cb : Nat) (fr n early : Int) : Value := .agg #[.slice ao na ca, .slice bo nb cb, .int .i64 fr, .int .i64 n, .int .i64 early]

set_option maxRecDepth 100000 in
set_option maxHeartbeats 4000000 in
theorem follow_neg1 (ao bo : Option Addr) (na ca nb cb : Nat) (fr n early : Int) (hna : na ≤ 10000000) (hx : fr < 0) (w : World) :
    Calls Tryd.prog 6 #[partV ao bo na ca nb cb fr n early] w fun e w' => e = .returned (.bool true) ∧ Keeps w w' (fun _ => False) := by
  unfold partV
  have h : fr < 0 ∨ n < 0 := .inl hx
  have q1 : ¬ 0 ≤ fr := by omega
  go_enter Tryd.func6, Tryd.ntmps6
  go_wp2
  go_quiet (fail)
  obtain ⟨W, hW⟩ : ∃ W, W = (w.alloc (.cells #[.slice ao na ca, .slice bo nb cb, .int .i64 fr, .int .i64 n, .int .i64 early] 43)).drewN nq := ⟨_, rfl⟩
  rw [← hW]
  have HK : Hid (Keeps w W (fun _ => False)) := by rw [hW]; exact ((Keeps.refl _ _).alloc _).drewN nq
  clear hW
  go_wp2_with (first | (go_at_call 18; refine (list_neg ao na ca fr n h _).mono ?_; rintro e w' ⟨rfl, rfl⟩) | (go_at_call 19; refine (count_neg ao na ca fr n h _).mono ?_; rintro e w' ⟨rfl, rfl⟩) | (go_at_call 20; refine (cut_neg ao na ca fr n h _).mono ?_; rintro e w' ⟨rfl, rfl⟩) | (go_at_call 21; refine (next_neg ao na ca fr n true h _).mono ?_; rintro e w' ⟨rfl, rfl⟩))
  all_goals first | (go_ret; exact ⟨rfl, HK.out⟩) | (exfalso; simp at *; omega)

set_option maxRecDepth 100000 in
set_option maxHeartbeats 4000000 in
theorem follow_neg2 (ao bo : Option Addr) (na ca nb cb : Nat) (fr n early : Int) (hna : na ≤ 10000000) (hx : 0 ≤ fr) (hy : n < 0) (w : World) :
    Calls Tryd.prog 6 #[partV ao bo na ca nb cb fr n early] w fun e w' => e = .returned (.bool true) ∧ Keeps w w' (fun _ => False) := by
  unfold partV
  have h : fr < 0 ∨ n < 0 := .inr hy
  have q2 : ¬ 0 ≤ n := by omega
  go_enter Tryd.func6, Tryd.ntmps6
  go_wp2
  go_quiet (fail)
  obtain ⟨W, hW⟩ : ∃ W, W = (w.alloc (.cells #[.slice ao na ca, .slice bo nb cb, .int .i64 fr, .int .i64 n, .int .i64 early] 43)).drewN nq := ⟨_, rfl⟩
  rw [← hW]
  have HK : Hid (Keeps w W (fun _ => False)) := by rw [hW]; exact ((Keeps.refl _ _).alloc _).drewN nq
  clear hW
  go_wp2_with (first | (go_at_call 18; refine (list_neg ao na ca fr n h _).mono ?_; rintro e w' ⟨rfl, rfl⟩) | (go_at_call 19; refine (count_neg ao na ca fr n h _).mono ?_; rintro e w' ⟨rfl, rfl⟩) | (go_at_call 20; refine (cut_neg ao na ca fr n h _).mono ?_; rintro e w' ⟨rfl, rfl⟩) | (go_at_call 21; refine (next_neg ao na ca fr n true h _).mono ?_; rintro e w' ⟨rfl, rfl⟩))
  all_goals first | (go_ret; exact ⟨rfl, HK.out⟩) | (exfalso; simp at *; omega)

set_option maxRecDepth 100000 in
set_option maxHeartbeats 4000000 in
theorem follow_range (ao bo : Option Addr) (na ca nb cb : Nat) (fr n : Nat) (early : Int) (hna : na ≤ 10000000) (hfr : fr ≤ 9223372036854775807) (hn : n ≤ 9223372036854775807) (h : 8 * na < fr + n) (w : World) :
    Calls Tryd.prog 6 #[partV ao bo na ca nb cb (fr : Int) (n : Int) early] w fun e w' => e = .returned (.bool true) ∧ Keeps w w' (fun _ => False) := by
  unfold partV
  have q1 : (0 : Int) ≤ (fr : Int) := by omega
  have q2 : (0 : Int) ≤ (n : Int) := by omega
  go_enter Tryd.func6, Tryd.ntmps6
  go_wp2
  go_quiet (fail)
  obtain ⟨W, hW⟩ : ∃ W, W = (w.alloc (.cells #[.slice ao na ca, .slice bo nb cb, .int .i64 (fr : Int), .int .i64 (n : Int), .int .i64 early] 43)).drewN nq := ⟨_, rfl⟩
  rw [← hW]
  have HK : Hid (Keeps w W (fun _ => False)) := by rw [hW]; exact ((Keeps.refl _ _).alloc _).drewN nq
  clear hW
  go_wp2_with (first | (go_at_call 18; refine (list_range ao na ca (by omega) fr n hfr hn h _).mono ?_; rintro e w' ⟨rfl, rfl⟩) | (go_at_call 19; refine (count_range ao na ca (by omega) fr n hfr hn h _).mono ?_; rintro e w' ⟨rfl, rfl⟩) | (go_at_call 20; refine (cut_range ao na ca (by omega) fr n hfr hn h _).mono ?_; rintro e w' ⟨rfl, rfl⟩) | (go_at_call 21; refine (next_range ao na ca (by omega) fr n true hfr hn h _).mono ?_; rintro e w' ⟨rfl, rfl⟩))
  all_goals first | (go_ret; exact ⟨rfl, HK.out⟩) | (exfalso; simp at *; omega)

theorem list_c (v : Value) (l : List Nat) (fr m : Nat) (h : fr + m ≤ 8 * l.length) (w : World) (hA : MapAt w v l) : Calls Tryd.prog 18 #[v, .int .i64 fr, .int .i64 m] w fun e w' => ∃ lo lc, e = .returned (.tuple #[.slice lo m lc, .int .i64 0]) ∧ w'.ownsRow 0 4 1 (.slice lo m lc) m (bools (bitAt l) fr m) ∧ m ≤ lc ∧ Keeps w w' (fun _ => False) := by
  obtain ⟨⟨ao, ca, rfl, hb, hc1, hc2⟩, hl, hlen⟩ := hA
  refine (list_ok ao ca l hl hlen fr m h w hb).mono ?_
  rintro e w' ⟨v, rfl, hN⟩
  have ho := hN.own (bools_length (bitAt l) fr m)
  obtain ⟨lo, lc, rfl⟩ := own_form ho
  refine ⟨lo, lc, rfl, ho, ?_, hN.2.2⟩
  rcases ho.2 with ⟨e, h0⟩ | ⟨g, cap, cur, e, _, _, h1, _⟩
  · omega
  · simp only [Value.slice.injEq, true_and] at e; omega
theorem cut_c (v : Value) (l : List Nat) (fr m : Nat) (h : fr + m ≤ 8 * l.length) (w : World) (hA : MapAt w v l) : Calls Tryd.prog 20 #[v, .int .i64 fr, .int .i64 m] w fun e w' => ∃ co cc, e = .returned (.tuple #[.slice co (need m) cc, .int .i64 0]) ∧ HasB w' (.slice co (need m) cc) (mk (fun k => bitAt l (fr + k)) m) ∧ Keeps w w' (fun _ => False) := by
  obtain ⟨⟨ao, ca, rfl, hb, hc1, hc2⟩, hl, hlen⟩ := hA
  refine (cut_ok ao ca l hl hlen fr m h w hb).mono ?_
  rintro e w' ⟨v, rfl, hN⟩
  obtain ⟨co, cc, rfl, hB⟩ := mk_has (by omega) hN
  exact ⟨co, cc, rfl, hB, hN.2.2⟩
theorem count_c (v : Value) (l : List Nat) (fr m : Nat) (h : fr + m ≤ 8 * l.length) (w : World) (hT : Tab w) (hA : MapAt w v l) : Calls Tryd.prog 19 #[v, .int .i64 fr, .int .i64 m] w fun e w' => e = .returned (.tuple #[.int .i64 (cn (fun j => bitAt l (fr + j)) m : Nat), .int .i64 0]) ∧ Keeps w w' (fun _ => False) := by
  obtain ⟨⟨ao, ca, rfl, hb, hc1, hc2⟩, hl, hlen⟩ := hA
  exact count_ok ao ca l hl hlen hc1 hc2 fr m h w hT hb
theorem own_boolsAt {w : World} {lo : Option Addr} {m lc : Nat} {f : Nat → Bool} {fr : Nat} (h : w.ownsRow 0 4 1 (.slice lo m lc) m (bools f fr m)) : BoolsAt w lo m (fun j => f (fr + j)) := by
  intro hm
  rcases h.2 with ⟨e, h0⟩ | ⟨g, cap, cur, e, _⟩
  · omega
  · simp only [Value.slice.injEq, true_and] at e
    obtain ⟨rfl, rfl⟩ := e
    refine ⟨g, 0, rfl, fun k hk => ?_⟩
    rw [Nat.zero_add, h.cellAt k (by omega)]
    simp [Kit.bools, hk]
theorem alike_o (v u : Value) (l : List Bool) (hn : l.length ≤ 1000000000) (w : World) (hA : w.ownsRow 0 4 1 v l.length (cellsO l)) (hB : w.ownsRow 0 4 1 u l.length (cellsO l)) : Calls Tryd.prog 9 #[.agg #[.int .i64 0, .int .i64 0, .bool false, .slice none 0 0, v, .slice none 0 0], .agg #[.int .i64 0, .int .i64 0, .bool false, .slice none 0 0, u, .slice none 0 0]] w fun e w' => e = .returned (.bool true) ∧ Keeps w w' (fun _ => False) :=
  alike_all _ _ { err := 0, num := 0, yes := false, bytes := [], bools := l, nums := [] } 0 0 w ⟨by simp, hn, by simp⟩ ⟨_, v, _, rfl, World.ownsRow_nil w 0 5 1, hA, World.ownsRow_nil w 0 3 1, fun _ _ => Nat.zero_le _⟩ ⟨_, u, _, rfl, World.ownsRow_nil w 0 5 1, hB, World.ownsRow_nil w 0 3 1, fun _ _ => Nat.zero_le _⟩

set_option maxRecDepth 100000 in
set_option maxHeartbeats 4000000 in
theorem follow_ok (ao bo : Option Addr) (ca cb : Nat) (la lb : List Nat) (fr n : Nat) (early : Int) (h : fr + n ≤ 8 * la.length) (w : World) (hT : Tab w) (hA : MapAt w (.slice ao la.length ca) la) (hB : MapAt w (.slice bo lb.length cb) lb) :
    Calls Tryd.prog 6 #[partV ao bo la.length ca lb.length cb (fr : Int) (n : Int) early] w fun e w' => e = .returned (.bool true) ∧ Keeps w w' (fun _ => False) := by
  unfold partV
  have hla := hA.len
  have HT : Hid (Tab w) := hT
  have HA : Hid (MapAt w (.slice ao la.length ca) la) := hA
  have HB : Hid (MapAt w (.slice bo lb.length cb) lb) := hB
  have q1 : (0 : Int) ≤ (fr : Int) := by omega
  have q2 : (0 : Int) ≤ (n : Int) := by omega
  have q3 : (fr : Int) ≤ 8 * (la.length : Int) := by omega
  have q4 : (n : Int) ≤ 8 * (la.length : Int) - fr := by omega
  clear hT hA hB
  go_enter Tryd.func6, Tryd.ntmps6
  go_wp2
  go_quiet (fail)
  obtain ⟨W, hW⟩ : ∃ W, W = (w.alloc (.cells #[.slice ao la.length ca, .slice bo lb.length cb, .int .i64 (fr : Int), .int .i64 (n : Int), .int .i64 early] 43)).drewN nq := ⟨_, rfl⟩
  rw [← hW]
  have HK0 : Hid (Keeps w W (fun _ => False)) := by rw [hW]; exact ((Keeps.refl _ _).alloc _).drewN nq
  clear hW
  go_wp2_with fail
  go_at_call 18
  refine (list_c _ la fr n h W (HA.out.kept HK0.out)).mono ?_
  rintro e w1 ⟨lo, lc, rfl, ho, hlc, hk⟩
  have HK1 : Hid (Keeps w w1 (fun _ => False)) := HK0.out.trans hk fun _ _ h => h
  have HL : Hid (w1.ownsRow 0 4 1 (.slice lo n lc) n (bools (bitAt la) fr n)) := ho
  clear hk ho HK0
  go_wp2_with fail
  go_at_call 19
  refine (count_c _ la fr n h w1 (HT.out.kept HK1.out id) (HA.out.kept HK1.out)).mono ?_
  rintro e w2 ⟨rfl, hk⟩
  have HK2 : Hid (Keeps w w2 (fun _ => False)) := HK1.out.trans hk fun _ _ h => h
  have HL : Hid (w2.ownsRow 0 4 1 (.slice lo n lc) n (bools (bitAt la) fr n)) := own_kept HL.out hk fun _ _ => id
  clear hk HK1
  obtain ⟨many, hmany⟩ : ∃ many, many = cn (fun j => bitAt la (fr + j)) n := ⟨_, rfl⟩
  rw [← hmany]
  have HMN : Hid (cn (fun j => bitAt la (fr + j)) n = many) := hmany.symm
  clear hmany
  go_wp2_with fail
  go_at_call 20
  refine (cut_c _ la fr n h w2 (HA.out.kept HK2.out)).mono ?_
  rintro e w3 ⟨co, cc, rfl, hC, hk⟩
  have HK3 : Hid (Keeps w w3 (fun _ => False)) := HK2.out.trans hk fun _ _ h => h
  have HL : Hid (w3.ownsRow 0 4 1 (.slice lo n lc) n (bools (bitAt la) fr n)) := own_kept HL.out hk fun _ _ => id
  have HC : Hid (HasB w3 (.slice co (need n) cc) (mk (fun k => bitAt la (fr + k)) n)) := hC
  clear hk HK2 hC
  go_wp2_with (go_at_call 22; refine (need_pos n (by omega) _).mono ?_; rintro e w' ⟨rfl, rfl⟩)
  go_at_call 23
  have hon := ones_any2 ao ca la lo lc fr n h hlc w3 (HT.out.kept HK3.out id) (HA.out.kept HK3.out) (own_boolsAt HL.out)
  rw [HMN.out] at hon
  refine hon.mono ?_
  rintro e w4 ⟨rfl, hk⟩
  have HK4 : Hid (Keeps w w4 (fun _ => False)) := HK3.out.trans hk fun _ _ h => h
  have HL : Hid (w4.ownsRow 0 4 1 (.slice lo n lc) n (bools (bitAt la) fr n)) := own_kept HL.out hk fun _ _ => id
  have HC : Hid (HasB w4 (.slice co (need n) cc) (mk (fun k => bitAt la (fr + k)) n)) := HC.out.kept hk
  clear hk HK3 hon
  go_wp2_with fail
  go_at_call 18
  have hlist := list_c (.slice co (need n) cc) (mk (fun k => bitAt la (fr + k)) n) 0 n (by rw [mk_length, Nat.zero_add]; exact need8 n) w4 HC.out.map
  refine hlist.mono ?_
  rintro e w5 ⟨go, gc, rfl, hg, hgc, hk⟩
  have HK5 : Hid (Keeps w w5 (fun _ => False)) := HK4.out.trans hk fun _ _ h => h
  have HL : Hid (w5.ownsRow 0 4 1 (.slice lo n lc) n (bools (bitAt la) fr n)) := own_kept HL.out hk fun _ _ => id
  have HC : Hid (HasB w5 (.slice co (need n) cc) (mk (fun k => bitAt la (fr + k)) n)) := HC.out.kept hk
  have heq : bools (bitAt (mk (fun k => bitAt la (fr + k)) n)) 0 n = bools (bitAt la) fr n := by
    unfold bools
    apply List.map_congr_left
    intro k hk
    rw [Nat.zero_add, mk_bit _ _ _ (by simpa using hk)]
  rw [heq] at hg
  have HGG : Hid (w5.ownsRow 0 4 1 (.slice go n gc) n (bools (bitAt la) fr n)) := hg
  clear hk HK4 hlist hg heq
  have hbl : bools (bitAt la) fr n = cellsO ((List.range n).map fun k => bitAt la (fr + k)) := bools_eq _ _ _
  have hbn : ((List.range n).map fun k => bitAt la (fr + k)).length = n := by simp
  obtain ⟨bl, hbl'⟩ : ∃ bl, bl = (List.range n).map fun k => bitAt la (fr + k) := ⟨_, rfl⟩
  rw [← hbl'] at hbl hbn
  have HBL : Hid (bools (bitAt la) fr n = cellsO bl ∧ bl.length = n) := ⟨hbl, hbn⟩
  clear hbl hbn hbl'
  go_wp2_with fail
  go_at_call 9
  have hal := alike_o (.slice go n gc) (.slice lo n lc) bl (by rw [HBL.out.2]; omega) w5 (by rw [HBL.out.2, ← HBL.out.1]; exact HGG.out) (by rw [HBL.out.2, ← HBL.out.1]; exact HL.out)
  refine hal.mono ?_
  rintro e w6 ⟨rfl, hk⟩
  have HK6 : Hid (Keeps w w6 (fun _ => False)) := HK5.out.trans hk fun _ _ h => h
  have HL : Hid (w6.ownsRow 0 4 1 (.slice lo n lc) n (bools (bitAt la) fr n)) := own_kept HL.out hk fun _ _ => id
  have HC : Hid (HasB w6 (.slice co (need n) cc) (mk (fun k => bitAt la (fr + k)) n)) := HC.out.kept hk
  clear hk HK5 hal HGG
  go_wp2_with fail
  go_at_call 24
  refine (make_any lo n lc _ (by omega) w6 (own_boolsAt HL.out)).mono ?_
  rintro e w7 ⟨v, rfl, hN⟩
  obtain ⟨mo, mc, rfl, hM⟩ := mk_has (by omega) hN
  have HK7 : Hid (Keeps w w7 (fun _ => False)) := HK6.out.trans hN.2.2 fun _ _ h => h
  have HC : Hid (HasB w7 (.slice co (need n) cc) (mk (fun k => bitAt la (fr + k)) n)) := HC.out.kept hN.2.2
  have HM : Hid (HasB w7 (.slice mo (need n) mc) (mk (fun k => bitAt la (fr + k)) n)) := hM
  clear hN hM HK6 HL
  go_wp2_with fail
  go_at_call 9
  refine (alike_m (.slice mo (need n) mc) (.slice co (need n) cc) _ w7 HM.out HC.out).mono ?_
  rintro e w8 ⟨rfl, hk⟩
  have HK8 : Hid (Keeps w w8 (fun _ => False)) := HK7.out.trans hk fun _ _ h => h
  clear hk HK7 HC HM
  go_wp2_with fail
  go_at_call 25
  refine (morgan_any _ _ la lb w8 (HA.out.kept HK8.out) (HB.out.kept HK8.out)).mono ?_
  rintro e w9 ⟨rfl, hk⟩
  have HK9 : Hid (Keeps w w9 (fun _ => False)) := HK8.out.trans hk fun _ _ h => h
  clear hk HK8
  go_wp2_with fail
  go_at_call 10
  refine (fixed_any w9 (HT.out.kept HK9.out id)).mono ?_
  rintro e w10 ⟨rfl, hk⟩
  have HK10 : Hid (Keeps w w10 (fun _ => False)) := HK9.out.trans hk fun _ _ h => h
  clear hk HK9
  go_wp2
  go_ret
  exact ⟨rfl, HK10.out⟩

theorem follow_any (ao bo : Option Addr) (ca cb : Nat) (la lb : List Nat) (fr n early : Int) (hfr : i64 fr) (hn : i64 n) (w : World) (hT : Tab w) (hA : MapAt w (.slice ao la.length ca) la) (hB : MapAt w (.slice bo lb.length cb) lb) :
    Calls Tryd.prog 6 #[partV ao bo la.length ca lb.length cb fr n early] w fun e w' => e = .returned (.bool true) ∧ Keeps w w' (fun _ => False) := by
  by_cases h1 : fr < 0
  · exact follow_neg1 ao bo _ ca _ cb fr n early hA.len h1 w
  · by_cases h2 : n < 0
    · exact follow_neg2 ao bo _ ca _ cb fr n early hA.len (by omega) h2 w
    · obtain ⟨a, rfl⟩ : ∃ a : Nat, fr = a := ⟨fr.toNat, by omega⟩
      obtain ⟨b, rfl⟩ : ∃ b : Nat, n = b := ⟨n.toNat, by omega⟩
      by_cases h3 : 8 * la.length < a + b
      · exact follow_range ao bo _ ca _ cb a b early hA.len (by have := hfr.2; omega) (by have := hn.2; omega) h3 w
      · exact follow_ok ao bo ca cb la lb a b early (by omega) w hT hA hB
end Go.Proofs.YteppfammimbmcaaDoor.Kit
