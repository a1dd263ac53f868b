import Derived.Test.YtomlndoffoeaiaaReadsA
namespace Go.Proofs.Ytomlndoffoeaiaa.Kit
open Go.RowKit Go.Deep
set_option linter.unusedVariables false

theorem rsigned_err (ao : Option Addr) (n cap : Nat) (place a width c : Int) (w : World) (hc : c ≠ 0)
    (h : ∀ w, Calls Try.prog 60 #[refV ao n cap place, .int .i64 a, .int .i64 width] w fun e w' => e = .returned (.tuple #[.int .u64 0, .int .i64 c]) ∧ Keeps w w' (fun _ => False)) :
    Calls Try.prog 61 #[refV ao n cap place, .int .i64 a, .int .i64 width] w fun e w' => e = .returned (.tuple #[.int .i64 0, .int .i64 c]) ∧ Keeps w w' (fun _ => False) := by
  have hc' : (c != 0) = true := by simpa using hc
  have HH : Hid (∀ w, Calls Try.prog 60 #[refV ao n cap place, .int .i64 a, .int .i64 width] w fun e w' => e = .returned (.tuple #[.int .u64 0, .int .i64 c]) ∧ Keeps w w' (fun _ => False)) := h
  clear h hc
  unfold refV
  go_enter Try.func61, Try.ntmps61
  go_wp2_with fail
  go_at_call 60
  refine (HH.out _).mono ?_
  rintro e w2 ⟨rfl, K2⟩
  have HK : Hid (Keeps w w2 (fun _ => False)) := ((Keeps.refl w _).alloc _).trans K2 fun _ _ h => h
  clear K2
  go_wp2
  go_ret2
  exact ⟨rfl, HK.out⟩

set_option maxRecDepth 100000 in
set_option maxHeartbeats 1000000 in
theorem rsigned_in (ao : Option Addr) (n cap : Nat) (place : Int) (l : List Int) (a m : Nat) (w : World) (hw : wideB m = true) (h : a + m ≤ n) (hI : RLooks w ao n cap l) :
    Calls Try.prog 61 #[refV ao n cap place, .int .i64 a, .int .i64 m] w fun e w' => e = .returned (.tuple #[.int .i64 (signV (leVal ((l.drop a).take m)) m), .int .i64 0]) ∧ Keeps w w' (fun _ => False) := by
  have HI : Hid (RLooks w ao n cap l) := hI
  have hm := (wideB_iff m).1 hw
  have hb := leVal_bd ((l.drop a).take m) (fun c hc => hI.byte c (List.mem_of_mem_drop (List.mem_of_mem_take hc)))
  rw [List.length_take, List.length_drop, hI.len, Nat.min_eq_left (by omega)] at hb
  obtain ⟨x, hx⟩ : ∃ x, x = leVal ((l.drop a).take m) := ⟨_, rfl⟩
  rw [← hx] at hb ⊢
  have HX : Hid (x = leVal ((l.drop a).take m)) := hx
  have HB : Hid (0 ≤ x ∧ x < 256 ^ m ∧ (m = 1 ∨ m = 2 ∨ m = 4 ∨ m = 8)) := ⟨hb.1, hb.2, by omega⟩
  clear hI hx hb hm
  unfold refV
  go_enter Try.func61, Try.ntmps61
  go_wp2_with fail
  go_at_call 60
  refine (rload_in ao n cap place l a m _ hw h (HI.out.kept ((Keeps.refl w _).alloc _))).mono ?_
  rintro e w2 ⟨rfl, K2⟩
  have HK : Hid (Keeps w w2 (fun _ => False)) := ((Keeps.refl w _).alloc _).trans K2 fun _ _ h => h
  rw [← HX.out]
  clear K2
  go_wp2_with (first | (go_at_call 70; refine (sign_any x m _ HB.out.2.2 HB.out.1 HB.out.2.1).mono ?_; rintro e w' ⟨rfl, rfl⟩))
  go_ret2
  exact ⟨rfl, HK.out⟩

/-- what the document's part is -/
def RPartOk (e : Ending) (ao : Option Addr) (n a m : Nat) (place : Int) : Prop :=
  ∃ ao' cap', e = .returned (.tuple #[refV ao' m cap' place, .int .i64 0]) ∧ SForm ao' m cap' ∧ (∀ W l, BytesAt W ao n l → BytesAt W ao' m ((l.drop a).take m)) ∧ ∀ b off, ao' = some ⟨b, off, none⟩ → 0 < m → ∃ off0, ao = some ⟨b, off0, none⟩
theorem rpartOk_some (b off n cap a m : Nat) (place : Int) (hc : n ≤ cap) (hcap : cap ≤ 9223372036854775807) (h : a + m ≤ n) : RPartOk (.returned (.tuple #[refV (some ⟨b, off + a, none⟩) m (cap - a) place, .int .i64 0])) (some ⟨b, off, none⟩) n a m place := by
  obtain ⟨ao', cap', e, hs, hsub, hin⟩ := partOk_some b off n cap a m place none hc hcap h
  unfold viewV at e
  simp only [Ending.returned.injEq, Value.tuple.injEq, Array.mk.injEq, List.cons.injEq, Value.agg.injEq, Value.slice.injEq, and_true, true_and] at e
  obtain ⟨rfl, rfl⟩ := e
  exact ⟨_, _, rfl, hs, hsub, hin⟩
theorem rpartOk_end (ao : Option Addr) (n a : Nat) (place : Int) : RPartOk (.returned (.tuple #[refV ao 0 0 place, .int .i64 0])) ao n a 0 place :=
  ⟨_, _, rfl, ⟨Nat.le_refl _, by omega, .inl rfl⟩, fun _ _ _ h => absurd h (by omega), fun _ _ _ h => absurd h (by omega)⟩
theorem keeps_two {w w1 : World} (hk : Keeps w w1 (fun _ => False)) (x y : Value) : Keeps w ((w1.setCell ⟨w.heap.size + 1, 0, none⟩ x).setCell ⟨w.heap.size + 1, 1, none⟩ y) (fun _ => False) := by
  have n1 : ∀ j : Nat, (⟨w.heap.size + 1, j, none⟩ : Addr).block < w.heap.size → False := fun j h => by simp at h; omega
  exact (hk.setCell (p := ⟨w.heap.size + 1, 0, none⟩) (n1 0) x).setCell (p := ⟨w.heap.size + 1, 1, none⟩) (n1 1) y

set_option maxRecDepth 100000 in
set_option maxHeartbeats 2000000 in
theorem rpart_some (b off n cap : Nat) (place : Int) (a m : Nat) (w : World) (hc : n ≤ cap) (hcap : cap ≤ 9223372036854775807) (h : a + m ≤ n) (hpl : PlaceOk place n) :
    Calls Try.prog 59 #[refV (some ⟨b, off, none⟩) n cap place, .int .i64 a, .int .i64 m] w fun e w' => RPartOk e (some ⟨b, off, none⟩) n a m (place + a) ∧ Keeps w w' (fun _ => False) := by
  have wa : IntKind.i64.wrap (place + (a : Int)) = place + a := by have := hpl.1; have := hpl.2; rw [IntKind.wrap_i64]; omega
  have wb : IntKind.i64.wrap ((a : Int) + (m : Int)) = a + m := by rw [IntKind.wrap_i64]; omega
  have hin : inB a m n = true := decide_eq_true (by omega)
  clear hpl
  unfold refV
  go_enter Try.func59, Try.ntmps59
  go_wp2_with fail
  go_at_call 69
  obtain ⟨W, hW⟩ : ∃ W, W = (w.alloc (.cells #[.slice (some ⟨b, off, none⟩) n cap, .int .i64 place] 91)).alloc (.cells #[.slice none 0 0, .int .i64 0] 91) := ⟨_, rfl⟩
  rw [← hW]
  have HK : Hid (Keeps w W (fun _ => False)) := by rw [hW]; exact ((Keeps.refl _ _).alloc _).alloc _
  obtain ⟨b0, b1⟩ := box2 (w := w) (w1 := W) (a := .slice (some ⟨b, off, none⟩) n cap) (b := .int .i64 place) (ty := 91) (S := fun _ => False) (by rw [hW]; exact (Keeps.refl _ _).alloc _) id
  have hrow : W.heap[w.heap.size + 1]? = some (.cells #[.slice none 0 0, .int .i64 0] 91 (0, 0)) := by rw [hW]; exact heap_alloc2_new w _ _
  have r0 : W.cell? ⟨w.heap.size + 1, 0, none⟩ = some (.slice none 0 0) := by rw [cell_of_row _ _ 0 _ _ _ hrow]; rfl
  have r1 : W.cell? ⟨w.heap.size + 1, 1, none⟩ = some (.int .i64 0) := by rw [cell_of_row _ _ 1 _ _ _ hrow]; rfl
  have f0 : ∀ j, W.frozen? ⟨w.heap.size + 1, j, none⟩ = false := fun j => frozen_of_row _ _ j _ _ hrow
  clear hW
  refine (inside_any a m n _ (by omega) (by omega) (by omega) (by omega) (by omega)).mono ?_
  rintro e w' ⟨rfl, rfl⟩
  by_cases hca : cap = a
  · obtain rfl : m = 0 := by omega
    have i2 : (a : Int) ≤ (cap : Int) := by omega
    have i0 : (0 : Int) ≤ (a : Int) := by omega
    have hin' : inB a 0 n = true := decide_eq_true (by omega)
    have wb' : IntKind.i64.wrap (a : Int) = a := by rw [IntKind.wrap_i64]; omega
    go_wp2
    go_region
    all_goals go_wp2
    all_goals
      refine bodyPost_ret (v := .tuple #[.agg #[.slice (some ⟨b, off, none⟩) 0 0, .int .i64 (place + a)], .int .i64 0]) (by simp [results, Try.results59, go_sem, r0, r1]) rfl ⟨rpartOk_end (some ⟨b, off, none⟩) n a (place + a), ?_⟩
      exact (keeps_two HK.out _ _).drew
  · have i1 : (a : Int) ≤ (a : Int) + (m : Int) := by omega
    have i2 : (a : Int) + (m : Int) ≤ (cap : Int) := by omega
    have i0 : (0 : Int) ≤ (a : Int) := by omega
    go_wp2
    go_region
    all_goals go_wp2
    all_goals
      refine bodyPost_ret (v := .tuple #[.agg #[.slice (some ⟨b, off + a, none⟩) m (cap - a), .int .i64 (place + a)], .int .i64 0]) (by simp [results, Try.results59, go_sem, r0, r1]) rfl ⟨rpartOk_some b off n cap a m (place + a) hc hcap h, ?_⟩
      exact (keeps_two HK.out _ _).drew

set_option maxRecDepth 100000 in
set_option maxHeartbeats 2000000 in
theorem rpart_zero (ao : Option Addr) (place : Int) (w : World) (hpl : PlaceOk place 0) :
    Calls Try.prog 59 #[refV ao 0 0 place, .int .i64 0, .int .i64 0] w fun e w' => RPartOk e ao 0 0 0 place ∧ Keeps w w' (fun _ => False) := by
  have wa : IntKind.i64.wrap place = place := by have := hpl.1; have := hpl.2; rw [IntKind.wrap_i64]; omega
  have hin : inB 0 0 0 = true := by decide
  clear hpl
  unfold refV
  cases ao with
  | none =>
    go_enter Try.func59, Try.ntmps59
    go_wp2_with (first | (go_at_call 69; refine (inside_any 0 0 0 _ (by omega) (by omega) (by omega) (by omega) (by omega)).mono ?_; rintro e w' ⟨rfl, rfl⟩))
    go_region
    all_goals go_wp2
    all_goals
      refine bodyPost_ret (v := .tuple #[.agg #[.slice none 0 0, .int .i64 place], .int .i64 0]) (by simp [results, Try.results59, go_sem]) rfl ⟨rpartOk_end none 0 0 place, ?_⟩
      exact (((Keeps.refl _ _).alloc _).alloc _).drew
  | some ad =>
    go_enter Try.func59, Try.ntmps59
    go_wp2_with (first | (go_at_call 69; refine (inside_any 0 0 0 _ (by omega) (by omega) (by omega) (by omega) (by omega)).mono ?_; rintro e w' ⟨rfl, rfl⟩))
    go_region
    all_goals go_wp2
    all_goals
      refine bodyPost_ret (v := .tuple #[.agg #[.slice (some ad) 0 0, .int .i64 place], .int .i64 0]) (by simp [results, Try.results59, go_sem]) rfl ⟨rpartOk_end (some ad) 0 0 place, ?_⟩
      exact (((Keeps.refl _ _).alloc _).alloc _).drew

theorem rpart_in (ao : Option Addr) (n cap : Nat) (place : Int) (a m : Nat) (w : World) (hs : SForm ao n cap) (h : a + m ≤ n) (hpl : PlaceOk place n) :
    Calls Try.prog 59 #[refV ao n cap place, .int .i64 a, .int .i64 m] w fun e w' => RPartOk e ao n a m (place + a) ∧ Keeps w w' (fun _ => False) := by
  obtain ⟨h1, h2, h3⟩ := hs
  by_cases h0 : cap = 0
  · obtain rfl : n = 0 := by omega
    obtain rfl : a = 0 := by omega
    obtain rfl : m = 0 := by omega
    subst h0
    simpa using rpart_zero ao place w hpl
  · obtain ⟨b, off, rfl⟩ := h3.resolve_left h0
    exact rpart_some b off n cap place a m w h1 h2 h hpl

set_option maxRecDepth 100000 in
set_option maxHeartbeats 2000000 in
theorem rpart_out (ao : Option Addr) (n cap : Nat) (place a m : Int) (w : World) (hn : n ≤ 9223372036854775807) (ha : -9223372036854775808 ≤ a) (ha2 : a ≤ 9223372036854775807) (hm2 : m ≤ 9223372036854775807) (h : ¬ (0 ≤ a ∧ 0 ≤ m ∧ a + m ≤ n)) :
    Calls Try.prog 59 #[refV ao n cap place, .int .i64 a, .int .i64 m] w fun e w' => e = .returned (.tuple #[refV none 0 0 0, .int .i64 2]) ∧ Keeps w w' (fun _ => False) := by
  have hin : inB a m n = false := decide_eq_false h
  clear h
  unfold refV
  go_enter Try.func59, Try.ntmps59
  go_wp2_with (first | (go_at_call 69; refine (inside_any a m n _ (by omega) (by omega) ha ha2 hm2).mono ?_; rintro e w' ⟨rfl, rfl⟩))
  refine bodyPost_ret (v := .tuple #[.agg #[.slice none 0 0, .int .i64 0], .int .i64 2]) (by simp [results, Try.results59, go_sem]) rfl ⟨rfl, ?_⟩
  exact ((Keeps.refl _ _).alloc _).alloc _

set_option maxRecDepth 100000 in
set_option maxHeartbeats 2000000 in
theorem rtext_in (ao : Option Addr) (n cap : Nat) (place : Int) (l : List Int) (a m : Nat) (w : World) (h : a + m ≤ n) (hI : RLooks w ao n cap l) (hpl : PlaceOk place n) :
    Calls Try.prog 44 #[refV ao n cap place, .int .i64 a, .int .i64 m] w fun e w' => e = .returned (.tuple #[.string (strOf ((l.drop a).take m)), .int .i64 0]) ∧ Keeps w w' (fun _ => False) := by
  have HI : Hid (RLooks w ao n cap l ∧ PlaceOk place n) := ⟨hI, hpl⟩
  clear hI hpl
  unfold refV
  go_enter Try.func44, Try.ntmps44
  go_wp2_with fail
  go_at_call 59
  refine (rpart_in ao n cap place a m _ HI.out.1.form h HI.out.2).mono ?_
  rintro e w1 ⟨⟨ao', cap', rfl, hs', hsub, _⟩, K1⟩
  have HK : Hid (Keeps w w1 (fun _ => False)) := ((Keeps.refl w _).alloc _).trans K1 fun _ _ h => h
  have hconv : ∀ o, (convert 22 9 (.slice ao' m cap')).run Try.prog (w1.alloc o) = .ok (.string (strOf ((l.drop a).take m))) (w1.alloc o) := fun o =>
    run_convert_bytes (w1.alloc o) ao' m cap' ((l.drop a).take m) hs' (by rw [List.length_take, List.length_drop, HI.out.1.len]; omega) (hsub _ l (((HI.out.1.kept HK.out).kept ((Keeps.refl _ _).alloc o)).bytes))
  clear K1 hsub hs'
  unfold refV
  go_wp2
  go_ret2
  exact ⟨rfl, HK.out.alloc _⟩

theorem rtext_out (ao : Option Addr) (n cap : Nat) (place a m : Int) (w : World) (hn : n ≤ 9223372036854775807) (ha : -9223372036854775808 ≤ a) (ha2 : a ≤ 9223372036854775807) (hm2 : m ≤ 9223372036854775807) (h : ¬ (0 ≤ a ∧ 0 ≤ m ∧ a + m ≤ n)) :
    Calls Try.prog 44 #[refV ao n cap place, .int .i64 a, .int .i64 m] w fun e w' => e = .returned (.tuple #[.string ByteArray.empty, .int .i64 2]) ∧ Keeps w w' (fun _ => False) := by
  have HH : Hid (¬ (0 ≤ a ∧ 0 ≤ m ∧ a + m ≤ n)) := h
  clear h
  unfold refV
  go_enter Try.func44, Try.ntmps44
  go_wp2_with fail
  go_at_call 59
  refine (rpart_out ao n cap place a m _ hn ha ha2 hm2 HH.out).mono ?_
  rintro e w1 ⟨rfl, K1⟩
  have HK : Hid (Keeps w w1 (fun _ => False)) := ((Keeps.refl w _).alloc _).trans K1 fun _ _ h => h
  clear K1
  unfold refV
  go_wp2
  go_ret2
  exact ⟨rfl, HK.out.alloc _⟩

theorem vtext_out (ao : Option Addr) (n cap : Nat) (place : Int) (q : Option Nat) (a m : Int) (w : World) (h : ¬ (0 ≤ a ∧ 0 ≤ m ∧ a + m ≤ n)) :
    Calls Try.prog 34 #[viewV ao n cap place q, .int .i64 a, .int .i64 m] w fun e w' => e = .returned (.tuple #[.string ByteArray.empty, .int .i64 2]) ∧ Keeps w w' (fun _ => False) := by
  have HH : Hid (¬ (0 ≤ a ∧ 0 ≤ m ∧ a + m ≤ n)) := h
  clear h
  unfold viewV
  go_enter Try.func34, Try.ntmps34
  go_wp2_with (first | (go_at_call 52; refine (read_out ao n cap place q a m _ HH.out).mono ?_; rintro e w2 ⟨rfl, K2⟩))
  go_ret2
  exact ⟨rfl, ((Keeps.refl w _).alloc _).trans K2 fun _ _ h => h⟩

/-! ### Raw: the very bytes, no room behind them -/
set_option maxRecDepth 100000 in
set_option maxHeartbeats 2000000 in
theorem raw_some (b off n cap : Nat) (place : Int) (q gq : Option Nat) (rs : List (Int × Int)) (w : World) (hc : n ≤ cap) (hcap : cap ≤ 9223372036854775807) (hI : Wat w q gq rs) (hpl : PlaceOk place n) (hrs : rs.length ≤ 1000000000000) :
    Calls Try.prog 62 #[viewV (some ⟨b, off, none⟩) n cap place q] w fun e w' => e = .returned (.slice (some ⟨b, off, none⟩) n n) ∧ WatDone w w' q gq (tellR q rs place (place + n)) := by
  have HI : Hid (Wat w q gq rs) := hI
  have HP : Hid (PlaceOk place n) := hpl
  clear hI hpl
  unfold viewV
  go_enter Try.func62, Try.ntmps62
  go_wp2_with fail
  go_at_call 68
  obtain ⟨W, hW⟩ : ∃ W, W = w.alloc (.cells #[.slice (some ⟨b, off, none⟩) n cap, .int .i64 place, .pointer (q.map fun b => ⟨b, 0, none⟩)] 37) := ⟨_, rfl⟩
  rw [← hW]
  have HK : Hid (Keeps w W (fun _ => False)) := by rw [hW]; exact (Keeps.refl _ _).alloc _
  obtain ⟨b0, _, _⟩ := box3 (w := w) (w1 := W) (a := .slice (some ⟨b, off, none⟩) n cap) (b := .int .i64 place) (c := .pointer (q.map fun b => ⟨b, 0, none⟩)) (ty := 37) (S := fun _ => False) (by rw [hW]; exact Keeps.refl _ _) id
  clear hW
  refine (tell_all _ n cap place 0 n q gq rs W (HI.out.kept HK.out (fun _ _ => id) (fun _ _ => id)) (by have := HP.out.1; omega) (by have := HP.out.2; omega) hrs).mono ?_
  rintro e w2 ⟨rfl, D2⟩
  have b0' : w2.cell? ⟨w.heap.size, 0, none⟩ = some (.slice (some ⟨b, off, none⟩) n cap) := by
    obtain ⟨g2, i2, k2, _⟩ := D2
    refine k2.cell' b0 fun e => ?_
    rcases e with e | e
    · have := HI.out.lt.1 _ e; simp at this
    · have := HI.out.lt.2 _ e; simp at this
  have HD : Hid (WatDone w w2 q gq (tellR q rs place (place + n))) := by
    have := WatDone.from HK.out D2
    show WatDone _ _ _ _ _
    simpa using this
  clear D2 b0
  go_wp2
  go_ret
  exact ⟨rfl, HD.out⟩

set_option maxRecDepth 100000 in
set_option maxHeartbeats 2000000 in
theorem raw_zero (ao : Option Addr) (place : Int) (q gq : Option Nat) (rs : List (Int × Int)) (w : World) (hI : Wat w q gq rs) (hpl : PlaceOk place 0) (hrs : rs.length ≤ 1000000000000) :
    Calls Try.prog 62 #[viewV ao 0 0 place q] w fun e w' => e = .returned (.slice ao 0 0) ∧ WatDone w w' q gq (tellR q rs place place) := by
  have HI : Hid (Wat w q gq rs) := hI
  have HP : Hid (PlaceOk place 0) := hpl
  clear hI hpl
  unfold viewV
  go_enter Try.func62, Try.ntmps62
  go_wp2_with fail
  go_at_call 68
  obtain ⟨W, hW⟩ : ∃ W, W = w.alloc (.cells #[.slice ao 0 0, .int .i64 place, .pointer (q.map fun b => ⟨b, 0, none⟩)] 37) := ⟨_, rfl⟩
  rw [← hW]
  have HK : Hid (Keeps w W (fun _ => False)) := by rw [hW]; exact (Keeps.refl _ _).alloc _
  obtain ⟨b0, _, _⟩ := box3 (w := w) (w1 := W) (a := .slice ao 0 0) (b := .int .i64 place) (c := .pointer (q.map fun b => ⟨b, 0, none⟩)) (ty := 37) (S := fun _ => False) (by rw [hW]; exact Keeps.refl _ _) id
  clear hW
  refine (tell_all _ 0 0 place 0 0 q gq rs W (HI.out.kept HK.out (fun _ _ => id) (fun _ _ => id)) (by have := HP.out.1; omega) (by have := HP.out.2; omega) hrs).mono ?_
  rintro e w2 ⟨rfl, D2⟩
  have b0' : w2.cell? ⟨w.heap.size, 0, none⟩ = some (.slice ao 0 0) := by
    obtain ⟨g2, i2, k2, _⟩ := D2
    refine k2.cell' b0 fun e => ?_
    rcases e with e | e
    · have := HI.out.lt.1 _ e; simp at this
    · have := HI.out.lt.2 _ e; simp at this
  have HD : Hid (WatDone w w2 q gq (tellR q rs place place)) := by
    have := WatDone.from HK.out D2
    show WatDone _ _ _ _ _
    simpa using this
  clear D2 b0
  cases ao with
  | none =>
    go_wp2
    go_ret
    exact ⟨rfl, HD.out⟩
  | some ad =>
    go_wp2
    go_ret
    exact ⟨rfl, HD.out⟩
theorem raw_all (ao : Option Addr) (n cap : Nat) (place : Int) (q gq : Option Nat) (rs : List (Int × Int)) (w : World) (hs : SForm ao n cap) (hI : Wat w q gq rs) (hpl : PlaceOk place n) (hrs : rs.length ≤ 1000000000000) :
    Calls Try.prog 62 #[viewV ao n cap place q] w fun e w' => e = .returned (.slice ao n n) ∧ WatDone w w' q gq (tellR q rs place (place + n)) := by
  obtain ⟨h1, h2, h3⟩ := hs
  by_cases h0 : cap = 0
  · obtain rfl : n = 0 := by omega
    subst h0
    simpa using raw_zero ao place q gq rs w hI hpl hrs
  · obtain ⟨b, off, rfl⟩ := h3.resolve_left h0
    exact raw_some b off n cap place q gq rs w h1 h2 hI hpl hrs

/-! ### lists of reads -/
def ReadsAt (w : World) (ao : Option Addr) (n : Nat) (rs : List (Int × Int)) : Prop :=
  0 < n → ∃ b off, ao = some ⟨b, off, none⟩ ∧ ∀ k, k < n → w.cell? ⟨b, off + k * 2, none⟩ = some (.int .i64 (rs.getD k (0, 0)).1) ∧ w.cell? ⟨b, off + k * 2 + 1, none⟩ = some (.int .i64 (rs.getD k (0, 0)).2)

set_option maxHeartbeats 1000000 in
theorem sameReads_some (b off b' off' n ca cb : Nat) (rs : List (Int × Int)) (w : World) (hn : n ≤ 4611686018427387903)
    (ha : ∀ k, k < n → w.cell? ⟨b, off + k * 2, none⟩ = some (.int .i64 (rs.getD k (0, 0)).1) ∧ w.cell? ⟨b, off + k * 2 + 1, none⟩ = some (.int .i64 (rs.getD k (0, 0)).2))
    (hb : ∀ k, k < n → w.cell? ⟨b', off' + k * 2, none⟩ = some (.int .i64 (rs.getD k (0, 0)).1) ∧ w.cell? ⟨b', off' + k * 2 + 1, none⟩ = some (.int .i64 (rs.getD k (0, 0)).2)) :
    Calls Try.prog 48 #[.slice (some ⟨b, off, none⟩) n ca, .slice (some ⟨b', off', none⟩) n cb] w fun e w' => e = .returned (.bool true) ∧ ∃ q, w' = w.drewN q := by
  go_enter Try.func48, Try.ntmps48
  go_wp2
  go_loopw [5] (fun i wr => ∃ k : Nat, k ≤ n ∧ i = .int .i64 k ∧ ∃ q, wr = w.drewN q) (fun i _ => n - (intOf i).toNat)
  case atStart => exact ⟨0, Nat.zero_le _, rfl, 0, rfl⟩
  case round =>
    obtain ⟨k, hk, rfl, q, rfl⟩ := hrel
    by_cases hlt : k < n
    · obtain ⟨h1, h2⟩ := ha k hlt
      obtain ⟨h3, h4⟩ := hb k hlt
      obtain ⟨x, hx⟩ : ∃ x, x = (rs.getD k (0, 0)).1 := ⟨_, rfl⟩
      obtain ⟨y, hy⟩ : ∃ y, y = (rs.getD k (0, 0)).2 := ⟨_, rfl⟩
      rw [← hx] at h1 h3
      rw [← hy] at h2 h4
      clear hx hy ha hb
      go_wp2
      go_quiet (fail)
      go_wp2
      go_roundw
      case rel => exact ⟨k + 1, by omega, by go_num, q + nq, rfl⟩
      case measure => simp [intOf]; omega
    · clear ha hb
      go_wp2
      go_ret
      exact ⟨rfl, _, rfl⟩
end Go.Proofs.Ytomlndoffoeaiaa.Kit
