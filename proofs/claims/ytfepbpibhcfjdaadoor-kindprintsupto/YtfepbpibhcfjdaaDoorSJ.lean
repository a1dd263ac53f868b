import Derived.Test.YtfepbpibhcfjdaaDoorSH
namespace Go.Proofs.YtfepbpibhcfjdaaDoor.Kit
open Go.RowKit Go.Shelf Go.Deep
set_option linter.unusedVariables false
attribute [local go_sem] run_store_func

set_option maxRecDepth 100000 in
set_option maxHeartbeats 4000000 in
theorem word_any (k : Nat) (h1 : 1 ≤ k) (h2 : k ≤ 13) (w : World) : Calls Tryd.prog 72 #[.int .i64 (k : Int)] w fun e w' => e = .returned (.string (wdB k)) ∧ w = w' := by
  have hc : k = 1 ∨ k = 2 ∨ k = 3 ∨ k = 4 ∨ k = 5 ∨ k = 6 ∨ k = 7 ∨ k = 8 ∨ k = 9 ∨ k = 10 ∨ k = 11 ∨ k = 12 ∨ k = 13 := by omega
  clear h1 h2
  rcases hc with rfl | rfl | rfl | rfl | rfl | rfl | rfl | rfl | rfl | rfl | rfl | rfl | rfl
  all_goals
    go_enter Tryd.func72, Tryd.ntmps72
    go_wp2
    go_ret
    exact ⟨rfl, rfl⟩
theorem digit_string (w : World) (m : Nat) (hm : m < 10) : (convert 82 9 (.slice (some ⟨w.heap.size, 0, none⟩) 1 1)).run Tryd.prog (w.alloc (.cells #[.int .u8 (48 + (m : Int))] 5)) = .ok (.string ⟨#[UInt8.ofNat (48 + m)]⟩) (w.alloc (.cells #[.int .u8 (48 + (m : Int))] 5)) := by
  refine run_convert_bytes_back _ 82 9 5 ⟨w.heap.size, 0, none⟩ 1 [UInt8.ofNat (48 + m)] Tryd.underlying82 Tryd.underlying5 Tryd.underlying9 fun j hj => ?_
  have e : j = 0 := by simp at hj; omega
  subst e
  have hb := World.alloc_heap_new w (.cells #[.int .u8 (48 + (m : Int))] 5)
  refine (cell1 hb).trans ?_
  simp
  omega
set_option maxRecDepth 100000 in
set_option maxHeartbeats 4000000 in
theorem digits_low (n : Nat) (hn : n < 10) (w : World) : Calls Tryd.prog 71 #[.int .i64 (n : Int)] w fun e w' => e = .returned (.string (decB n)) ∧ Gr w w' := by
  have e : decB n = ⟨#[UInt8.ofNat (48 + n)]⟩ := by unfold decB; rw [Lib.decDigits, dif_pos hn]
  rw [e]
  have hcv := digit_string w n hn
  have h1 : (n : Int).tmod 10 = (n : Int) := by rw [Int.tmod_eq_emod_of_nonneg (by omega)]; omega
  have h2 : IntKind.i64.wrap (48 + (n : Int)) = 48 + (n : Int) := by rw [IntKind.wrap_i64]; omega
  have h3 : IntKind.u8.wrap (48 + (n : Int)) = 48 + (n : Int) := by rw [IntKind.wrap_u8]; omega
  have h4 : ¬ (10 : Int) ≤ (n : Int) := by omega
  go_enter Tryd.func71, Tryd.ntmps71
  go_wp2
  go_ret
  exact ⟨rfl, gr_alloc _ _⟩
set_option maxRecDepth 100000 in
set_option maxHeartbeats 200000 in
theorem digits_any (n : Nat) (hn : n < 100) (w : World) : Calls Tryd.prog 71 #[.int .i64 (n : Int)] w fun e w' => e = .returned (.string (decB n)) ∧ Gr w w' := by
  by_cases h10 : n < 10
  · exact digits_low n h10 w
  have e : decB n = decB (n / 10) ++ ⟨#[UInt8.ofNat (48 + n % 10)]⟩ := by
    unfold decB
    rw [Lib.decDigits, dif_neg h10]
    apply ByteArray.ext
    simp
  rw [e]
  obtain ⟨m, hm⟩ : ∃ m, m = n % 10 := ⟨_, rfl⟩
  obtain ⟨q, hq⟩ : ∃ q, q = n / 10 := ⟨_, rfl⟩
  have hq1 : (decB q).size ≤ 2 := by show (Lib.decDigits q).length ≤ 2; exact dec_small (by omega)
  rw [← hm, ← hq]
  have hcv := digit_string w m (by omega)
  have h1 : (n : Int).tmod 10 = (m : Int) := by rw [Int.tmod_eq_emod_of_nonneg (by omega)]; omega
  have h1' : (n : Int).tdiv 10 = (q : Int) := by rw [Int.tdiv_eq_ediv_of_nonneg (by omega)]; omega
  have h2 : IntKind.i64.wrap (48 + (m : Int)) = 48 + (m : Int) := by rw [IntKind.wrap_i64]; omega
  have h3 : IntKind.u8.wrap (48 + (m : Int)) = 48 + (m : Int) := by rw [IntKind.wrap_u8]; omega
  have h4 : (10 : Int) ≤ (n : Int) := by omega
  have hl := hidM (digits_low q (by omega))
  have hw64 : wrap64 (q : Int) = (q : Int) := by unfold wrap64; omega
  obtain ⟨bt, hbt⟩ : ∃ bt, bt = UInt8.ofNat (48 + m) := ⟨_, rfl⟩
  rw [← hbt] at hcv ⊢
  generalize decB q = dq at *
  have m1 := fun w => run_string_add_sum (P := Tryd.prog) w dq ⟨#[bt]⟩ (by show dq.size + 1 ≤ _; omega)
  clear hm hq e h10 hn hq1 hbt
  go_enter Tryd.func71, Tryd.ntmps71
  go_wp2_with (go_at_call 71; refine Hid.out ?_)
  unfold Hid
  refine Calls.mono (hl.out _) ?_
  rintro e w2 ⟨rfl, hg⟩
  have HG := hidM ((gr_alloc w _).trans hg (fun _ _ h => h))
  clear hg hcv
  go_wp2_with fail
  go_ret
  exact ⟨rfl, HG.out⟩
end Go.Proofs.YtfepbpibhcfjdaaDoor.Kit
namespace Go.Proofs.YtfepbpibhcfjdaaDoor.Kit
open Go.RowKit Go.Shelf Go.Deep
set_option linter.unusedVariables false
attribute [local go_sem] run_store_func

theorem joinB_one (x : ByteArray) : joinB [x] = x := by unfold joinB; rw [List.map_cons, List.map_nil, Lib.join_one]
theorem joinB_cons (x : ByteArray) (ts : List ByteArray) (h : ts ≠ []) : joinB (x :: ts) = x ++ (⟨#[44, 32]⟩ : ByteArray) ++ joinB ts := by
  cases ts with
  | nil => exact absurd rfl h
  | cons y r =>
    unfold joinB
    rw [List.map_cons, List.map_cons, Lib.join_cons, Lib.join_cons]
    apply ByteArray.ext
    simp [Lib.joinTail]
theorem joinB_snoc (ts : List ByteArray) (x : ByteArray) (h : ts ≠ []) : joinB (ts ++ [x]) = joinB ts ++ (⟨#[44, 32]⟩ : ByteArray) ++ x := by
  cases ts with
  | nil => exact absurd rfl h
  | cons y r =>
    unfold joinB
    rw [List.cons_append, List.map_cons, List.map_cons, List.map_append, Lib.join_cons, Lib.join_cons]
    apply ByteArray.ext
    simp [Lib.joinTail]
theorem add_run (a b : ByteArray) (h : a.size + b.size ≤ 1000000000000) : ∀ w, (Op.stringOp .add a b).run Tryd.prog w = .ok (.string (a ++ b)) w := fun w => run_string_add_sum (P := Tryd.prog) w a b (by omega)
set_option maxRecDepth 100000 in
set_option maxHeartbeats 2000000 in
theorem typeTextR_plain {k : Nat} (h1 : 1 ≤ k) (h2 : k ≤ 13) {wi di xi : Int} {ao : Option Addr} {na ca : Nat} {w : World}  :
    AnsV 52 #[.agg #[.int .i64 (k : Int), .int .i64 wi, .int .i64 di, .int .i64 xi, .slice ao na ca]] (.string (wdB k)) w := by
  intro W g
  have HW := hidM (word_any k h1 h2)
  have e14 : ((k : Int) == 14) = false := beqF (by omega)
  have e15 : ((k : Int) == 15) = false := beqF (by omega)
  have e16 : ((k : Int) == 16) = false := beqF (by omega)
  have e17 : ((k : Int) == 17) = false := beqF (by omega)
  have e18 : ((k : Int) == 18) = false := beqF (by omega)
  have e19 : ((k : Int) == 19) = false := beqF (by omega)
  have e20 : ((k : Int) == 20) = false := beqF (by omega)
  generalize wdB k = wd at *
  clear h1 h2 g
  go_enter Tryd.func52, Tryd.ntmps52
  go_wp2_with (go_at_call 72; refine Hid.out ?_)
  unfold Hid
  refine Calls.mono (HW.out _) ?_
  rintro e w2 ⟨rfl, rfl⟩
  go_wp2_with fail
  go_ret
  exact ⟨rfl, gr_alloc _ _⟩
set_option maxRecDepth 100000 in
set_option maxHeartbeats 2000000 in
theorem typeTextR_15 {wi di xi : Int} {jt : ByteArray} {ao : Option Addr} {na ca : Nat} {w : World} (hj : jt.size ≤ 1000000000) (h : AnsV 26 #[.slice ao na ca] (.string jt) w) :
    AnsV 52 #[.agg #[.int .i64 (15 : Int), .int .i64 wi, .int .i64 di, .int .i64 xi, .slice ao na ca]] (.string ((⟨#[108, 105, 115, 116, 40]⟩ : ByteArray) ++ jt ++ (⟨#[41]⟩ : ByteArray))) w := by
  intro W g
  have H : Hid (∀ W', Gr W W' → Calls Tryd.prog 26 #[.slice ao na ca] W' fun e w' => e = .returned (.string jt) ∧ Gr W' w') := fun W' g' => h W' (g.trans g' (fun _ _ h => h))
  have z1 : ((⟨#[108, 105, 115, 116, 40]⟩ : ByteArray) ++ jt).size = 5 + jt.size := by rw [ByteArray.size_append]; rfl
  have m1 := add_run ⟨#[108, 105, 115, 116, 40]⟩ jt (by show 5 + jt.size ≤ _; omega)
  have m2 := add_run ((⟨#[108, 105, 115, 116, 40]⟩ : ByteArray) ++ jt) ⟨#[41]⟩ (by rw [z1]; show 5 + jt.size + 1 ≤ _; omega)
  clear h g z1 hj
  go_enter Tryd.func52, Tryd.ntmps52
  go_wp2_with (go_at_call 26; refine Hid.out ?_)
  unfold Hid
  refine Calls.mono (H.out _ (gr_alloc W _)) ?_
  rintro e w2 ⟨rfl, hg⟩
  have HG := hidM ((gr_alloc W _).trans hg (fun _ _ h => h))
  clear hg
  go_wp2_with fail
  go_ret
  exact ⟨rfl, HG.out⟩
set_option maxRecDepth 100000 in
set_option maxHeartbeats 2000000 in
theorem typeTextR_17 {wi di xi : Int} {jt : ByteArray} {ao : Option Addr} {na ca : Nat} {w : World} (hj : jt.size ≤ 1000000000) (h : AnsV 26 #[.slice ao na ca] (.string jt) w) :
    AnsV 52 #[.agg #[.int .i64 (17 : Int), .int .i64 wi, .int .i64 di, .int .i64 xi, .slice ao na ca]] (.string ((⟨#[115, 116, 114, 117, 99, 116, 40]⟩ : ByteArray) ++ jt ++ (⟨#[41]⟩ : ByteArray))) w := by
  intro W g
  have H : Hid (∀ W', Gr W W' → Calls Tryd.prog 26 #[.slice ao na ca] W' fun e w' => e = .returned (.string jt) ∧ Gr W' w') := fun W' g' => h W' (g.trans g' (fun _ _ h => h))
  have z1 : ((⟨#[115, 116, 114, 117, 99, 116, 40]⟩ : ByteArray) ++ jt).size = 7 + jt.size := by rw [ByteArray.size_append]; rfl
  have m1 := add_run ⟨#[115, 116, 114, 117, 99, 116, 40]⟩ jt (by show 7 + jt.size ≤ _; omega)
  have m2 := add_run ((⟨#[115, 116, 114, 117, 99, 116, 40]⟩ : ByteArray) ++ jt) ⟨#[41]⟩ (by rw [z1]; show 7 + jt.size + 1 ≤ _; omega)
  clear h g z1 hj
  go_enter Tryd.func52, Tryd.ntmps52
  go_wp2_with (go_at_call 26; refine Hid.out ?_)
  unfold Hid
  refine Calls.mono (H.out _ (gr_alloc W _)) ?_
  rintro e w2 ⟨rfl, hg⟩
  have HG := hidM ((gr_alloc W _).trans hg (fun _ _ h => h))
  clear hg
  go_wp2_with fail
  go_ret
  exact ⟨rfl, HG.out⟩
set_option maxRecDepth 100000 in
set_option maxHeartbeats 2000000 in
theorem typeTextR_18 {wi di xi : Int} {jt : ByteArray} {ao : Option Addr} {na ca : Nat} {w : World} (hj : jt.size ≤ 1000000000) (h : AnsV 26 #[.slice ao na ca] (.string jt) w) :
    AnsV 52 #[.agg #[.int .i64 (18 : Int), .int .i64 wi, .int .i64 di, .int .i64 xi, .slice ao na ca]] (.string ((⟨#[99, 104, 111, 105, 99, 101, 40]⟩ : ByteArray) ++ jt ++ (⟨#[41]⟩ : ByteArray))) w := by
  intro W g
  have H : Hid (∀ W', Gr W W' → Calls Tryd.prog 26 #[.slice ao na ca] W' fun e w' => e = .returned (.string jt) ∧ Gr W' w') := fun W' g' => h W' (g.trans g' (fun _ _ h => h))
  have z1 : ((⟨#[99, 104, 111, 105, 99, 101, 40]⟩ : ByteArray) ++ jt).size = 7 + jt.size := by rw [ByteArray.size_append]; rfl
  have m1 := add_run ⟨#[99, 104, 111, 105, 99, 101, 40]⟩ jt (by show 7 + jt.size ≤ _; omega)
  have m2 := add_run ((⟨#[99, 104, 111, 105, 99, 101, 40]⟩ : ByteArray) ++ jt) ⟨#[41]⟩ (by rw [z1]; show 7 + jt.size + 1 ≤ _; omega)
  clear h g z1 hj
  go_enter Tryd.func52, Tryd.ntmps52
  go_wp2_with (go_at_call 26; refine Hid.out ?_)
  unfold Hid
  refine Calls.mono (H.out _ (gr_alloc W _)) ?_
  rintro e w2 ⟨rfl, hg⟩
  have HG := hidM ((gr_alloc W _).trans hg (fun _ _ h => h))
  clear hg
  go_wp2_with fail
  go_ret
  exact ⟨rfl, HG.out⟩
set_option maxRecDepth 100000 in
set_option maxHeartbeats 2000000 in
theorem typeTextR_20 {wi di xi : Int} {jt : ByteArray} {ao : Option Addr} {na ca : Nat} {w : World} (hj : jt.size ≤ 1000000000) (h : AnsV 26 #[.slice ao na ca] (.string jt) w) :
    AnsV 52 #[.agg #[.int .i64 (20 : Int), .int .i64 wi, .int .i64 di, .int .i64 xi, .slice ao na ca]] (.string ((⟨#[114, 117, 110, 115, 40]⟩ : ByteArray) ++ jt ++ (⟨#[41]⟩ : ByteArray))) w := by
  intro W g
  have H : Hid (∀ W', Gr W W' → Calls Tryd.prog 26 #[.slice ao na ca] W' fun e w' => e = .returned (.string jt) ∧ Gr W' w') := fun W' g' => h W' (g.trans g' (fun _ _ h => h))
  have z1 : ((⟨#[114, 117, 110, 115, 40]⟩ : ByteArray) ++ jt).size = 5 + jt.size := by rw [ByteArray.size_append]; rfl
  have m1 := add_run ⟨#[114, 117, 110, 115, 40]⟩ jt (by show 5 + jt.size ≤ _; omega)
  have m2 := add_run ((⟨#[114, 117, 110, 115, 40]⟩ : ByteArray) ++ jt) ⟨#[41]⟩ (by rw [z1]; show 5 + jt.size + 1 ≤ _; omega)
  clear h g z1 hj
  go_enter Tryd.func52, Tryd.ntmps52
  go_wp2_with (go_at_call 26; refine Hid.out ?_)
  unfold Hid
  refine Calls.mono (H.out _ (gr_alloc W _)) ?_
  rintro e w2 ⟨rfl, hg⟩
  have HG := hidM ((gr_alloc W _).trans hg (fun _ _ h => h))
  clear hg
  go_wp2_with fail
  go_ret
  exact ⟨rfl, HG.out⟩
set_option maxRecDepth 100000 in
set_option maxHeartbeats 2000000 in
theorem typeTextR_14 {n : Nat} (hn : n < 100) {di xi : Int} {ao : Option Addr} {na ca : Nat} {w : World}  :
    AnsV 52 #[.agg #[.int .i64 (14 : Int), .int .i64 (n : Int), .int .i64 di, .int .i64 xi, .slice ao na ca]] (.string ((⟨#[102, 105, 120, 101, 100, 40]⟩ : ByteArray) ++ decB n ++ (⟨#[41]⟩ : ByteArray))) w := by
  intro W g
  have H := hidM (digits_any n hn)
  have hd : (decB n).size ≤ 2 := dec_small hn
  generalize decB n = dn at *
  have z1 : ((⟨#[102, 105, 120, 101, 100, 40]⟩ : ByteArray) ++ dn).size = 6 + dn.size := by rw [ByteArray.size_append]; rfl
  have m1 := add_run ⟨#[102, 105, 120, 101, 100, 40]⟩ dn (by show 6 + dn.size ≤ _; omega)
  have m2 := add_run ((⟨#[102, 105, 120, 101, 100, 40]⟩ : ByteArray) ++ dn) ⟨#[41]⟩ (by rw [z1]; show 6 + dn.size + 1 ≤ _; omega)
  clear g z1 hn hd
  go_enter Tryd.func52, Tryd.ntmps52
  go_wp2_with (go_at_call 71; refine Hid.out ?_)
  unfold Hid
  refine Calls.mono (H.out _) ?_
  rintro e w2 ⟨rfl, hg⟩
  have HG := hidM ((gr_alloc W _).trans hg (fun _ _ h => h))
  clear hg
  go_wp2_with fail
  go_ret
  exact ⟨rfl, HG.out⟩
set_option maxRecDepth 100000 in
set_option maxHeartbeats 2000000 in
theorem typeTextR_16 {n : Nat} (hn : n < 100) {di xi : Int} {jt : ByteArray} {ao : Option Addr} {na ca : Nat} {w : World} (hj : jt.size ≤ 1000000000) (h : AnsV 26 #[.slice ao na ca] (.string jt) w) :
    AnsV 52 #[.agg #[.int .i64 16, .int .i64 (n : Int), .int .i64 di, .int .i64 xi, .slice ao na ca]] (.string ((⟨#[115, 112, 97, 110, 40]⟩ : ByteArray) ++ decB n ++ (⟨#[44, 32]⟩ : ByteArray) ++ jt ++ (⟨#[41]⟩ : ByteArray))) w := by
  intro W g
  have H : Hid (∀ W', Gr W W' → Calls Tryd.prog 26 #[.slice ao na ca] W' fun e w' => e = .returned (.string jt) ∧ Gr W' w') := fun W' g' => h W' (g.trans g' (fun _ _ h => h))
  have H71 := hidM (digits_any n hn)
  have hd : (decB n).size ≤ 2 := dec_small hn
  generalize decB n = dn at *
  have z1 : ((⟨#[115, 112, 97, 110, 40]⟩ : ByteArray) ++ dn).size = 5 + dn.size := by rw [ByteArray.size_append]; rfl
  have z2 : ((⟨#[115, 112, 97, 110, 40]⟩ : ByteArray) ++ dn ++ (⟨#[44, 32]⟩ : ByteArray)).size = 5 + dn.size + 2 := by rw [ByteArray.size_append, z1]; rfl
  have z3 : ((⟨#[115, 112, 97, 110, 40]⟩ : ByteArray) ++ dn ++ (⟨#[44, 32]⟩ : ByteArray) ++ jt).size = 5 + dn.size + 2 + jt.size := by rw [ByteArray.size_append, z2]
  have m1 := add_run ⟨#[115, 112, 97, 110, 40]⟩ dn (by show 5 + dn.size ≤ _; omega)
  have m2 := add_run ((⟨#[115, 112, 97, 110, 40]⟩ : ByteArray) ++ dn) ⟨#[44, 32]⟩ (by rw [z1]; show 5 + dn.size + 2 ≤ _; omega)
  have m3 := add_run ((⟨#[115, 112, 97, 110, 40]⟩ : ByteArray) ++ dn ++ (⟨#[44, 32]⟩ : ByteArray)) jt (by rw [z2]; omega)
  have m4 := add_run ((⟨#[115, 112, 97, 110, 40]⟩ : ByteArray) ++ dn ++ (⟨#[44, 32]⟩ : ByteArray) ++ jt) ⟨#[41]⟩ (by rw [z3]; show _ + 1 ≤ _; omega)
  clear h z1 z2 z3 hj hn hd
  have x1 := World.alloc_heap_new W (.cells #[.int .i64 16, .int .i64 (n : Int), .int .i64 di, .int .i64 xi, .slice ao na ca] 33)
  have hg0 := gr_alloc W (.cells #[.int .i64 16, .int .i64 (n : Int), .int .i64 di, .int .i64 xi, .slice ao na ca] 33)
  clear g
  go_enter Tryd.func52, Tryd.ntmps52
  go_wp2_with fail
  generalize W.alloc (.cells #[.int .i64 16, .int .i64 (n : Int), .int .i64 di, .int .i64 xi, .slice ao na ca] 33) = W0 at *
  obtain ⟨B, hB⟩ : ∃ B, B = W.heap.size := ⟨_, rfl⟩
  rw [← hB] at x1 ⊢
  obtain ⟨q0, q1, q2, q3, q4⟩ := cell5 x1
  have HIN : Hid (Hid (Gr W W0.drew) ∧ W0.drew.cell? ⟨B, 1, none⟩ = some (.int .i64 (n : Int)) ∧ W0.drew.cell? ⟨B, 4, none⟩ = some (.slice ao na ca)) := ⟨hg0.trans gr_drew (fun _ _ h => h), q1, q4⟩
  have HSk : Hid (∀ A C : World, (Hid (Gr W A) ∧ A.cell? ⟨B, 1, none⟩ = some (.int .i64 (n : Int)) ∧ A.cell? ⟨B, 4, none⟩ = some (.slice ao na ca)) → Gr A C → (Hid (Gr W C) ∧ C.cell? ⟨B, 1, none⟩ = some (.int .i64 (n : Int)) ∧ C.cell? ⟨B, 4, none⟩ = some (.slice ao na ca))) := fun A C h k => ⟨h.1.out.trans k (fun _ _ h => h), k.cell' h.2.1 id, k.cell' h.2.2 id⟩
  clear hg0 q0 q1 q2 q3 q4 hB x1
  refine wp_region_held_drew (S := fun w' => Hid (Gr W w') ∧ w'.cell? ⟨B, 1, none⟩ = some (.int .i64 (n : Int)) ∧ w'.cell? ⟨B, 4, none⟩ = some (.slice ao na ca)) (by kernel_rfl) (HIN.out) (fun hHeld => ?_)
  refine wpAnyH_take (i := 0) (oi := { dst := some 21, op := Op.fieldAddr 33 (Operand.tmp 1) 1, type := 0, pos := "text.go:78", after := #[], guard := none }) (v := ?v0a1) rfl (by kernel_rfl) (by kernel_rfl) (by kernel_rfl) (fun _ _ _ h => h) (Or.inl ⟨by rfl, ?y0a1⟩) (by assumption) ?r0a1
  case y0a1 => (intro w hSw; obtain ⟨-, s1, s2⟩ := hSw; go_simp; (try with_reducible rfl))
  (try simp only [Act.put]); (try simp only [List.setIfInBounds_toArray]); (try simp only [List.set_cons_succ]); (try simp only [List.set_cons_zero])
  refine wpAnyH_take (i := 1) (oi := { dst := some 22, op := Op.load 3 (Operand.tmp 21), type := 3, pos := "text.go:78", after := #[{ on := 0, ground := Ground.data }], guard := none }) (v := ?v1a2) rfl (by kernel_rfl) (by kernel_rfl) (by kernel_rfl) (fun _ _ _ h => h) (Or.inl ⟨by rfl, ?y1a2⟩) (by assumption) ?r1a2
  case y1a2 => (intro w hSw; obtain ⟨-, s1, s2⟩ := hSw; go_simp; (try with_reducible rfl))
  (try simp only [Act.put]); (try simp only [List.setIfInBounds_toArray]); (try simp only [List.set_cons_succ]); (try simp only [List.set_cons_zero])
  refine wpAnyH_take (i := 5) (oi := { dst := some 26, op := Op.fieldAddr 33 (Operand.tmp 1) 4, type := 0, pos := "text.go:78", after := #[], guard := none }) (v := ?v5a3) rfl (by kernel_rfl) (by kernel_rfl) (by kernel_rfl) (fun _ _ _ h => h) (Or.inl ⟨by rfl, ?y5a3⟩) (by assumption) ?r5a3
  case y5a3 => (intro w hSw; obtain ⟨-, s1, s2⟩ := hSw; go_simp; (try with_reducible rfl))
  (try simp only [Act.put]); (try simp only [List.setIfInBounds_toArray]); (try simp only [List.set_cons_succ]); (try simp only [List.set_cons_zero])
  refine wpAnyH_take (i := 6) (oi := { dst := some 27, op := Op.load 22 (Operand.tmp 26), type := 22, pos := "text.go:78", after := #[{ on := 5, ground := Ground.data }], guard := none }) (v := ?v6a4) rfl (by kernel_rfl) (by kernel_rfl) (by kernel_rfl) (fun _ _ _ h => h) (Or.inl ⟨by rfl, ?y6a4⟩) (by assumption) ?r6a4
  case y6a4 => (intro w hSw; obtain ⟨-, s1, s2⟩ := hSw; go_simp; (try with_reducible rfl))
  (try simp only [Act.put]); (try simp only [List.setIfInBounds_toArray]); (try simp only [List.set_cons_succ]); (try simp only [List.set_cons_zero])
  refine wpAnyH_ready (rs := [2]) (by kernel_rfl) (by simp) ?_
  refine AllReadyH.cons (o := { dst := some 23, op := Op.call { callee := Callee.value (Operand.func 71), args := #[Operand.tmp 22], argTypes := #[3] }, type := 9, pos := "text.go:78", after := #[{ on := 1, ground := Ground.data }], guard := none }) rfl (fun K hK => ?_) AllReadyH.nil
  go_simp
  go_at_call 71
  refine Calls.mono (H71.out _) ?_
  rintro e' v1 ⟨rfl, hk1⟩
  go_wp2_with fail
  refine hK.out _ _ (HSk.out _ _ hHeld hk1) (fun hHeld => ?_)
  clear hK K
  (try simp only [Act.put]); (try simp only [List.setIfInBounds_toArray]); (try simp only [List.set_cons_succ]); (try simp only [List.set_cons_zero])
  clear hk1
  refine wpAnyH_take (i := 3) (oi := { dst := some 24, op := Op.binOp BinOp.add 9 (Operand.const (Value.string { data := #[115, 112, 97, 110, 40] })) (Operand.tmp 23) 9, type := 9, pos := "text.go:78", after := #[{ on := 2, ground := Ground.data }], guard := none }) (v := ?v3a5) rfl (by kernel_rfl) (by kernel_rfl) (by kernel_rfl) (fun _ _ _ h => h) (Or.inl ⟨by rfl, ?y3a5⟩) (by assumption) ?r3a5
  case y3a5 => (intro w hSw; obtain ⟨-, s1, s2⟩ := hSw; go_simp; (try with_reducible rfl))
  (try simp only [Act.put]); (try simp only [List.setIfInBounds_toArray]); (try simp only [List.set_cons_succ]); (try simp only [List.set_cons_zero])
  refine wpAnyH_take (i := 4) (oi := { dst := some 25, op := Op.binOp BinOp.add 9 (Operand.tmp 24) (Operand.const (Value.string { data := #[44, 32] })) 9, type := 9, pos := "text.go:78", after := #[{ on := 3, ground := Ground.data }], guard := none }) (v := ?v4a6) rfl (by kernel_rfl) (by kernel_rfl) (by kernel_rfl) (fun _ _ _ h => h) (Or.inl ⟨by rfl, ?y4a6⟩) (by assumption) ?r4a6
  case y4a6 => (intro w hSw; obtain ⟨-, s1, s2⟩ := hSw; go_simp; (try with_reducible rfl))
  (try simp only [Act.put]); (try simp only [List.setIfInBounds_toArray]); (try simp only [List.set_cons_succ]); (try simp only [List.set_cons_zero])
  refine wpAnyH_ready (rs := [7]) (by kernel_rfl) (by simp) ?_
  refine AllReadyH.cons (o := { dst := some 28, op := Op.call { callee := Callee.value (Operand.func 26), args := #[Operand.tmp 27], argTypes := #[22] }, type := 9, pos := "text.go:78", after := #[{ on := 6, ground := Ground.data }, { on := 2, ground := Ground.chain }], guard := none }) rfl (fun K hK => ?_) AllReadyH.nil
  go_simp
  go_at_call 26
  refine Calls.mono (H.out _ hHeld.1.out) ?_
  rintro e' v2 ⟨rfl, hk2⟩
  go_wp2_with fail
  refine hK.out _ _ (HSk.out _ _ hHeld hk2) (fun hHeld => ?_)
  clear hK K
  (try simp only [Act.put]); (try simp only [List.setIfInBounds_toArray]); (try simp only [List.set_cons_succ]); (try simp only [List.set_cons_zero])
  clear hk2
  refine wpAnyH_take (i := 8) (oi := { dst := some 29, op := Op.binOp BinOp.add 9 (Operand.tmp 25) (Operand.tmp 28) 9, type := 9, pos := "text.go:78", after := #[{ on := 4, ground := Ground.data }, { on := 7, ground := Ground.data }], guard := none }) (v := ?v8a7) rfl (by kernel_rfl) (by kernel_rfl) (by kernel_rfl) (fun _ _ _ h => h) (Or.inl ⟨by rfl, ?y8a7⟩) (by assumption) ?r8a7
  case y8a7 => (intro w hSw; obtain ⟨-, s1, s2⟩ := hSw; go_simp; (try with_reducible rfl))
  (try simp only [Act.put]); (try simp only [List.setIfInBounds_toArray]); (try simp only [List.set_cons_succ]); (try simp only [List.set_cons_zero])
  refine wpAnyH_take (i := 9) (oi := { dst := some 30, op := Op.binOp BinOp.add 9 (Operand.tmp 29) (Operand.const (Value.string { data := #[41] })) 9, type := 9, pos := "text.go:78", after := #[{ on := 8, ground := Ground.data }], guard := none }) (v := ?v9a8) rfl (by kernel_rfl) (by kernel_rfl) (by kernel_rfl) (fun _ _ _ h => h) (Or.inl ⟨by rfl, ?y9a8⟩) (by assumption) ?r9a8
  case y9a8 => (intro w hSw; obtain ⟨-, s1, s2⟩ := hSw; go_simp; (try with_reducible rfl))
  (try simp only [Act.put]); (try simp only [List.setIfInBounds_toArray]); (try simp only [List.set_cons_succ]); (try simp only [List.set_cons_zero])
  refine wpAnyH_take (i := 10) (oi := { dst := some 2, op := Op.assign (Operand.tmp 30), type := 9, pos := "text.go:78", after := #[{ on := 9, ground := Ground.data }, { on := 7, ground := Ground.chain }, { on := 0, ground := Ground.phase }, { on := 1, ground := Ground.phase }, { on := 2, ground := Ground.phase }, { on := 3, ground := Ground.phase }, { on := 4, ground := Ground.phase }, { on := 5, ground := Ground.phase }, { on := 6, ground := Ground.phase }, { on := 7, ground := Ground.phase }, { on := 8, ground := Ground.phase }, { on := 9, ground := Ground.phase }], guard := none }) (v := ?v10a9) rfl (by kernel_rfl) (by kernel_rfl) (by kernel_rfl) (fun _ _ _ h => h) (Or.inl ⟨by rfl, ?y10a9⟩) (by assumption) ?r10a9
  case y10a9 => (intro w hSw; obtain ⟨-, s1, s2⟩ := hSw; go_simp; (try with_reducible rfl))
  (try simp only [Act.put]); (try simp only [List.setIfInBounds_toArray]); (try simp only [List.set_cons_succ]); (try simp only [List.set_cons_zero])
  refine wpAnyH_done (by kernel_rfl) ?_ _
  have HG := hidM hHeld.1.out
  clear hHeld HIN
  go_wp2_with fail
  go_ret
  exact ⟨rfl, HG.out⟩
set_option maxRecDepth 100000 in
set_option maxHeartbeats 2000000 in
theorem typeTextR_19 {n ix : Nat} (hn : n < 100) (hi1 : 1 ≤ ix) (hi2 : ix ≤ 13) {wi : Int} {jt : ByteArray} {ao : Option Addr} {na ca : Nat} {w : World} (hj : jt.size ≤ 1000000000) (h : AnsV 26 #[.slice ao na ca] (.string jt) w) :
    AnsV 52 #[.agg #[.int .i64 19, .int .i64 wi, .int .i64 (n : Int), .int .i64 (ix : Int), .slice ao na ca]] (.string ((⟨#[100, 105, 99, 116, 40]⟩ : ByteArray) ++ decB n ++ (⟨#[44, 32]⟩ : ByteArray) ++ wdB ix ++ (⟨#[44, 32]⟩ : ByteArray) ++ jt ++ (⟨#[41]⟩ : ByteArray))) w := by
  intro W g
  have H : Hid (∀ W', Gr W W' → Calls Tryd.prog 26 #[.slice ao na ca] W' fun e w' => e = .returned (.string jt) ∧ Gr W' w') := fun W' g' => h W' (g.trans g' (fun _ _ h => h))
  have H71 := hidM (digits_any n hn)
  have H72 := hidM (word_any ix hi1 hi2)
  have hd : (decB n).size ≤ 2 := dec_small hn
  have hw : (wdB ix).size ≤ 7 := wd_small ix
  generalize decB n = dn at *
  generalize wdB ix = wx at *
  have z1 : ((⟨#[100, 105, 99, 116, 40]⟩ : ByteArray) ++ dn).size = 5 + dn.size := by rw [ByteArray.size_append]; rfl
  have z2 : ((⟨#[100, 105, 99, 116, 40]⟩ : ByteArray) ++ dn ++ (⟨#[44, 32]⟩ : ByteArray)).size = 5 + dn.size + 2 := by rw [ByteArray.size_append, z1]; rfl
  have z3 : ((⟨#[100, 105, 99, 116, 40]⟩ : ByteArray) ++ dn ++ (⟨#[44, 32]⟩ : ByteArray) ++ wx).size = 5 + dn.size + 2 + wx.size := by rw [ByteArray.size_append, z2]
  have z4 : ((⟨#[100, 105, 99, 116, 40]⟩ : ByteArray) ++ dn ++ (⟨#[44, 32]⟩ : ByteArray) ++ wx ++ (⟨#[44, 32]⟩ : ByteArray)).size = 5 + dn.size + 2 + wx.size + 2 := by rw [ByteArray.size_append, z3]; rfl
  have z5 : ((⟨#[100, 105, 99, 116, 40]⟩ : ByteArray) ++ dn ++ (⟨#[44, 32]⟩ : ByteArray) ++ wx ++ (⟨#[44, 32]⟩ : ByteArray) ++ jt).size = 5 + dn.size + 2 + wx.size + 2 + jt.size := by rw [ByteArray.size_append, z4]
  have m1 := add_run ⟨#[100, 105, 99, 116, 40]⟩ dn (by show 5 + dn.size ≤ _; omega)
  have m2 := add_run ((⟨#[100, 105, 99, 116, 40]⟩ : ByteArray) ++ dn) ⟨#[44, 32]⟩ (by rw [z1]; show 5 + dn.size + 2 ≤ _; omega)
  have m3 := add_run ((⟨#[100, 105, 99, 116, 40]⟩ : ByteArray) ++ dn ++ (⟨#[44, 32]⟩ : ByteArray)) wx (by rw [z2]; omega)
  have m4 := add_run ((⟨#[100, 105, 99, 116, 40]⟩ : ByteArray) ++ dn ++ (⟨#[44, 32]⟩ : ByteArray) ++ wx) ⟨#[44, 32]⟩ (by rw [z3]; show _ + 2 ≤ _; omega)
  have m5 := add_run ((⟨#[100, 105, 99, 116, 40]⟩ : ByteArray) ++ dn ++ (⟨#[44, 32]⟩ : ByteArray) ++ wx ++ (⟨#[44, 32]⟩ : ByteArray)) jt (by rw [z4]; omega)
  have m6 := add_run ((⟨#[100, 105, 99, 116, 40]⟩ : ByteArray) ++ dn ++ (⟨#[44, 32]⟩ : ByteArray) ++ wx ++ (⟨#[44, 32]⟩ : ByteArray) ++ jt) ⟨#[41]⟩ (by rw [z5]; show _ + 1 ≤ _; omega)
  clear h z1 z2 z3 z4 z5 hj hn hd hw hi1 hi2
  have x1 := World.alloc_heap_new W (.cells #[.int .i64 19, .int .i64 wi, .int .i64 (n : Int), .int .i64 (ix : Int), .slice ao na ca] 33)
  have hg0 := gr_alloc W (.cells #[.int .i64 19, .int .i64 wi, .int .i64 (n : Int), .int .i64 (ix : Int), .slice ao na ca] 33)
  clear g
  go_enter Tryd.func52, Tryd.ntmps52
  go_wp2_with fail
  generalize W.alloc (.cells #[.int .i64 19, .int .i64 wi, .int .i64 (n : Int), .int .i64 (ix : Int), .slice ao na ca] 33) = W0 at *
  obtain ⟨B, hB⟩ : ∃ B, B = W.heap.size := ⟨_, rfl⟩
  rw [← hB] at x1 ⊢
  obtain ⟨q0, q1, q2, q3, q4⟩ := cell5 x1
  have HIN : Hid (Hid (Gr W W0.drew) ∧ W0.drew.cell? ⟨B, 2, none⟩ = some (.int .i64 (n : Int)) ∧ W0.drew.cell? ⟨B, 3, none⟩ = some (.int .i64 (ix : Int)) ∧ W0.drew.cell? ⟨B, 4, none⟩ = some (.slice ao na ca)) := ⟨hg0.trans gr_drew (fun _ _ h => h), q2, q3, q4⟩
  have HSk : Hid (∀ A C : World, (Hid (Gr W A) ∧ A.cell? ⟨B, 2, none⟩ = some (.int .i64 (n : Int)) ∧ A.cell? ⟨B, 3, none⟩ = some (.int .i64 (ix : Int)) ∧ A.cell? ⟨B, 4, none⟩ = some (.slice ao na ca)) → Gr A C → (Hid (Gr W C) ∧ C.cell? ⟨B, 2, none⟩ = some (.int .i64 (n : Int)) ∧ C.cell? ⟨B, 3, none⟩ = some (.int .i64 (ix : Int)) ∧ C.cell? ⟨B, 4, none⟩ = some (.slice ao na ca))) := fun A C h k => ⟨h.1.out.trans k (fun _ _ h => h), k.cell' h.2.1 id, k.cell' h.2.2.1 id, k.cell' h.2.2.2 id⟩
  clear hg0 q0 q1 q2 q3 q4 hB x1
  refine wp_region_held_drew (S := fun w' => Hid (Gr W w') ∧ w'.cell? ⟨B, 2, none⟩ = some (.int .i64 (n : Int)) ∧ w'.cell? ⟨B, 3, none⟩ = some (.int .i64 (ix : Int)) ∧ w'.cell? ⟨B, 4, none⟩ = some (.slice ao na ca)) (by kernel_rfl) (HIN.out) (fun hHeld => ?_)
  refine wpAnyH_take (i := 0) (oi := { dst := some 47, op := Op.fieldAddr 33 (Operand.tmp 1) 2, type := 0, pos := "text.go:84", after := #[], guard := none }) (v := ?v0b1) rfl (by kernel_rfl) (by kernel_rfl) (by kernel_rfl) (fun _ _ _ h => h) (Or.inl ⟨by rfl, ?y0b1⟩) (by assumption) ?r0b1
  case y0b1 => (intro w hSw; obtain ⟨-, s1, s2, s3⟩ := hSw; go_simp; (try with_reducible rfl))
  (try simp only [Act.put]); (try simp only [List.setIfInBounds_toArray]); (try simp only [List.set_cons_succ]); (try simp only [List.set_cons_zero])
  refine wpAnyH_take (i := 1) (oi := { dst := some 48, op := Op.load 3 (Operand.tmp 47), type := 3, pos := "text.go:84", after := #[{ on := 0, ground := Ground.data }], guard := none }) (v := ?v1b2) rfl (by kernel_rfl) (by kernel_rfl) (by kernel_rfl) (fun _ _ _ h => h) (Or.inl ⟨by rfl, ?y1b2⟩) (by assumption) ?r1b2
  case y1b2 => (intro w hSw; obtain ⟨-, s1, s2, s3⟩ := hSw; go_simp; (try with_reducible rfl))
  (try simp only [Act.put]); (try simp only [List.setIfInBounds_toArray]); (try simp only [List.set_cons_succ]); (try simp only [List.set_cons_zero])
  refine wpAnyH_take (i := 5) (oi := { dst := some 52, op := Op.fieldAddr 33 (Operand.tmp 1) 3, type := 0, pos := "text.go:84", after := #[], guard := none }) (v := ?v5b3) rfl (by kernel_rfl) (by kernel_rfl) (by kernel_rfl) (fun _ _ _ h => h) (Or.inl ⟨by rfl, ?y5b3⟩) (by assumption) ?r5b3
  case y5b3 => (intro w hSw; obtain ⟨-, s1, s2, s3⟩ := hSw; go_simp; (try with_reducible rfl))
  (try simp only [Act.put]); (try simp only [List.setIfInBounds_toArray]); (try simp only [List.set_cons_succ]); (try simp only [List.set_cons_zero])
  refine wpAnyH_take (i := 6) (oi := { dst := some 53, op := Op.load 3 (Operand.tmp 52), type := 3, pos := "text.go:84", after := #[{ on := 5, ground := Ground.data }], guard := none }) (v := ?v6b4) rfl (by kernel_rfl) (by kernel_rfl) (by kernel_rfl) (fun _ _ _ h => h) (Or.inl ⟨by rfl, ?y6b4⟩) (by assumption) ?r6b4
  case y6b4 => (intro w hSw; obtain ⟨-, s1, s2, s3⟩ := hSw; go_simp; (try with_reducible rfl))
  (try simp only [Act.put]); (try simp only [List.setIfInBounds_toArray]); (try simp only [List.set_cons_succ]); (try simp only [List.set_cons_zero])
  refine wpAnyH_take (i := 10) (oi := { dst := some 57, op := Op.fieldAddr 33 (Operand.tmp 1) 4, type := 0, pos := "text.go:84", after := #[], guard := none }) (v := ?v10b5) rfl (by kernel_rfl) (by kernel_rfl) (by kernel_rfl) (fun _ _ _ h => h) (Or.inl ⟨by rfl, ?y10b5⟩) (by assumption) ?r10b5
  case y10b5 => (intro w hSw; obtain ⟨-, s1, s2, s3⟩ := hSw; go_simp; (try with_reducible rfl))
  (try simp only [Act.put]); (try simp only [List.setIfInBounds_toArray]); (try simp only [List.set_cons_succ]); (try simp only [List.set_cons_zero])
  refine wpAnyH_take (i := 11) (oi := { dst := some 58, op := Op.load 22 (Operand.tmp 57), type := 22, pos := "text.go:84", after := #[{ on := 10, ground := Ground.data }], guard := none }) (v := ?v11b6) rfl (by kernel_rfl) (by kernel_rfl) (by kernel_rfl) (fun _ _ _ h => h) (Or.inl ⟨by rfl, ?y11b6⟩) (by assumption) ?r11b6
  case y11b6 => (intro w hSw; obtain ⟨-, s1, s2, s3⟩ := hSw; go_simp; (try with_reducible rfl))
  (try simp only [Act.put]); (try simp only [List.setIfInBounds_toArray]); (try simp only [List.set_cons_succ]); (try simp only [List.set_cons_zero])
  refine wpAnyH_ready (rs := [2]) (by kernel_rfl) (by simp) ?_
  refine AllReadyH.cons (o := { dst := some 49, op := Op.call { callee := Callee.value (Operand.func 71), args := #[Operand.tmp 48], argTypes := #[3] }, type := 9, pos := "text.go:84", after := #[{ on := 1, ground := Ground.data }], guard := none }) rfl (fun K hK => ?_) AllReadyH.nil
  go_simp
  go_at_call 71
  refine Calls.mono (H71.out _) ?_
  rintro e' v1 ⟨rfl, hk1⟩
  go_wp2_with fail
  refine hK.out _ _ (HSk.out _ _ hHeld hk1) (fun hHeld => ?_)
  clear hK K
  (try simp only [Act.put]); (try simp only [List.setIfInBounds_toArray]); (try simp only [List.set_cons_succ]); (try simp only [List.set_cons_zero])
  clear hk1
  refine wpAnyH_take (i := 3) (oi := { dst := some 50, op := Op.binOp BinOp.add 9 (Operand.const (Value.string { data := #[100, 105, 99, 116, 40] })) (Operand.tmp 49) 9, type := 9, pos := "text.go:84", after := #[{ on := 2, ground := Ground.data }], guard := none }) (v := ?v3b7) rfl (by kernel_rfl) (by kernel_rfl) (by kernel_rfl) (fun _ _ _ h => h) (Or.inl ⟨by rfl, ?y3b7⟩) (by assumption) ?r3b7
  case y3b7 => (intro w hSw; obtain ⟨-, s1, s2, s3⟩ := hSw; go_simp; (try with_reducible rfl))
  (try simp only [Act.put]); (try simp only [List.setIfInBounds_toArray]); (try simp only [List.set_cons_succ]); (try simp only [List.set_cons_zero])
  refine wpAnyH_take (i := 4) (oi := { dst := some 51, op := Op.binOp BinOp.add 9 (Operand.tmp 50) (Operand.const (Value.string { data := #[44, 32] })) 9, type := 9, pos := "text.go:84", after := #[{ on := 3, ground := Ground.data }], guard := none }) (v := ?v4b8) rfl (by kernel_rfl) (by kernel_rfl) (by kernel_rfl) (fun _ _ _ h => h) (Or.inl ⟨by rfl, ?y4b8⟩) (by assumption) ?r4b8
  case y4b8 => (intro w hSw; obtain ⟨-, s1, s2, s3⟩ := hSw; go_simp; (try with_reducible rfl))
  (try simp only [Act.put]); (try simp only [List.setIfInBounds_toArray]); (try simp only [List.set_cons_succ]); (try simp only [List.set_cons_zero])
  refine wpAnyH_ready (rs := [7]) (by kernel_rfl) (by simp) ?_
  refine AllReadyH.cons (o := { dst := some 54, op := Op.call { callee := Callee.value (Operand.func 72), args := #[Operand.tmp 53], argTypes := #[3] }, type := 9, pos := "text.go:84", after := #[{ on := 6, ground := Ground.data }, { on := 2, ground := Ground.chain }], guard := none }) rfl (fun K hK => ?_) AllReadyH.nil
  go_simp
  go_at_call 72
  refine Calls.mono (H72.out _) ?_
  rintro e' v2 ⟨rfl, hk2⟩
  go_wp2_with fail
  refine hK.out _ _ (HSk.out _ _ hHeld (by rw [hk2]; exact Keeps.refl _ _)) (fun hHeld => ?_)
  clear hK K
  (try simp only [Act.put]); (try simp only [List.setIfInBounds_toArray]); (try simp only [List.set_cons_succ]); (try simp only [List.set_cons_zero])
  clear hk2
  refine wpAnyH_take (i := 8) (oi := { dst := some 55, op := Op.binOp BinOp.add 9 (Operand.tmp 51) (Operand.tmp 54) 9, type := 9, pos := "text.go:84", after := #[{ on := 4, ground := Ground.data }, { on := 7, ground := Ground.data }], guard := none }) (v := ?v8b9) rfl (by kernel_rfl) (by kernel_rfl) (by kernel_rfl) (fun _ _ _ h => h) (Or.inl ⟨by rfl, ?y8b9⟩) (by assumption) ?r8b9
  case y8b9 => (intro w hSw; obtain ⟨-, s1, s2, s3⟩ := hSw; go_simp; (try with_reducible rfl))
  (try simp only [Act.put]); (try simp only [List.setIfInBounds_toArray]); (try simp only [List.set_cons_succ]); (try simp only [List.set_cons_zero])
  refine wpAnyH_take (i := 9) (oi := { dst := some 56, op := Op.binOp BinOp.add 9 (Operand.tmp 55) (Operand.const (Value.string { data := #[44, 32] })) 9, type := 9, pos := "text.go:84", after := #[{ on := 8, ground := Ground.data }], guard := none }) (v := ?v9b10) rfl (by kernel_rfl) (by kernel_rfl) (by kernel_rfl) (fun _ _ _ h => h) (Or.inl ⟨by rfl, ?y9b10⟩) (by assumption) ?r9b10
  case y9b10 => (intro w hSw; obtain ⟨-, s1, s2, s3⟩ := hSw; go_simp; (try with_reducible rfl))
  (try simp only [Act.put]); (try simp only [List.setIfInBounds_toArray]); (try simp only [List.set_cons_succ]); (try simp only [List.set_cons_zero])
  refine wpAnyH_ready (rs := [12]) (by kernel_rfl) (by simp) ?_
  refine AllReadyH.cons (o := { dst := some 59, op := Op.call { callee := Callee.value (Operand.func 26), args := #[Operand.tmp 58], argTypes := #[22] }, type := 9, pos := "text.go:84", after := #[{ on := 11, ground := Ground.data }, { on := 7, ground := Ground.chain }], guard := none }) rfl (fun K hK => ?_) AllReadyH.nil
  go_simp
  go_at_call 26
  refine Calls.mono (H.out _ hHeld.1.out) ?_
  rintro e' v3 ⟨rfl, hk3⟩
  go_wp2_with fail
  refine hK.out _ _ (HSk.out _ _ hHeld hk3) (fun hHeld => ?_)
  clear hK K
  (try simp only [Act.put]); (try simp only [List.setIfInBounds_toArray]); (try simp only [List.set_cons_succ]); (try simp only [List.set_cons_zero])
  clear hk3
  refine wpAnyH_take (i := 13) (oi := { dst := some 60, op := Op.binOp BinOp.add 9 (Operand.tmp 56) (Operand.tmp 59) 9, type := 9, pos := "text.go:84", after := #[{ on := 9, ground := Ground.data }, { on := 12, ground := Ground.data }], guard := none }) (v := ?v13b11) rfl (by kernel_rfl) (by kernel_rfl) (by kernel_rfl) (fun _ _ _ h => h) (Or.inl ⟨by rfl, ?y13b11⟩) (by assumption) ?r13b11
  case y13b11 => (intro w hSw; obtain ⟨-, s1, s2, s3⟩ := hSw; go_simp; (try with_reducible rfl))
  (try simp only [Act.put]); (try simp only [List.setIfInBounds_toArray]); (try simp only [List.set_cons_succ]); (try simp only [List.set_cons_zero])
  refine wpAnyH_take (i := 14) (oi := { dst := some 61, op := Op.binOp BinOp.add 9 (Operand.tmp 60) (Operand.const (Value.string { data := #[41] })) 9, type := 9, pos := "text.go:84", after := #[{ on := 13, ground := Ground.data }], guard := none }) (v := ?v14b12) rfl (by kernel_rfl) (by kernel_rfl) (by kernel_rfl) (fun _ _ _ h => h) (Or.inl ⟨by rfl, ?y14b12⟩) (by assumption) ?r14b12
  case y14b12 => (intro w hSw; obtain ⟨-, s1, s2, s3⟩ := hSw; go_simp; (try with_reducible rfl))
  (try simp only [Act.put]); (try simp only [List.setIfInBounds_toArray]); (try simp only [List.set_cons_succ]); (try simp only [List.set_cons_zero])
  refine wpAnyH_take (i := 15) (oi := { dst := some 2, op := Op.assign (Operand.tmp 61), type := 9, pos := "text.go:84", after := #[{ on := 14, ground := Ground.data }, { on := 12, ground := Ground.chain }, { on := 0, ground := Ground.phase }, { on := 1, ground := Ground.phase }, { on := 2, ground := Ground.phase }, { on := 3, ground := Ground.phase }, { on := 4, ground := Ground.phase }, { on := 5, ground := Ground.phase }, { on := 6, ground := Ground.phase }, { on := 7, ground := Ground.phase }, { on := 8, ground := Ground.phase }, { on := 9, ground := Ground.phase }, { on := 10, ground := Ground.phase }, { on := 11, ground := Ground.phase }, { on := 12, ground := Ground.phase }, { on := 13, ground := Ground.phase }, { on := 14, ground := Ground.phase }], guard := none }) (v := ?v15b13) rfl (by kernel_rfl) (by kernel_rfl) (by kernel_rfl) (fun _ _ _ h => h) (Or.inl ⟨by rfl, ?y15b13⟩) (by assumption) ?r15b13
  case y15b13 => (intro w hSw; obtain ⟨-, s1, s2, s3⟩ := hSw; go_simp; (try with_reducible rfl))
  (try simp only [Act.put]); (try simp only [List.setIfInBounds_toArray]); (try simp only [List.set_cons_succ]); (try simp only [List.set_cons_zero])
  refine wpAnyH_done (by kernel_rfl) ?_ _
  have HG := hidM hHeld.1.out
  clear hHeld HIN
  go_wp2_with fail
  go_ret
  exact ⟨rfl, HG.out⟩
end Go.Proofs.YtfepbpibhcfjdaaDoor.Kit
