import Derived.Test.YtomlndoffoeaiaaViewF
namespace Go.Proofs.Ytomlndoffoeaiaa.Kit
open Go.RowKit Go.Deep
set_option linter.unusedVariables false

/-! ### the program's Byte and Raw -/
set_option maxRecDepth 100000 in
set_option maxHeartbeats 1000000 in
theorem byte_in (ao : Option Addr) (n cap : Nat) (place : Int) (q gq : Option Nat) (rs : List (Int × Int)) (l : List Int) (a : Nat) (w : World) (h : a < n) (hI : Looks w ao n cap place q gq rs l) :
    Calls Try.prog 39 #[viewV ao n cap place q, .int .i64 a] w fun e w' => e = .returned (.tuple #[.int .u8 (l.getD a 0), .int .i64 0]) ∧ WatDone w w' q gq (tellR q rs (place + a) (place + a + 1)) := by
  have HI : Hid (Looks w ao n cap place q gq rs l) := hI
  clear hI
  unfold viewV
  go_enter Try.func39, Try.ntmps39
  go_wp2_with fail
  go_at_call 52
  obtain ⟨W, hW⟩ : ∃ W, W = w.alloc (.cells #[.slice ao n cap, .int .i64 place, .pointer (q.map fun b => ⟨b, 0, none⟩)] 37) := ⟨_, rfl⟩
  rw [← hW]
  have HK : Hid (Keeps w W (fun _ => False)) := by rw [hW]; exact (Keeps.refl _ _).alloc _
  clear hW
  refine (read_in ao n cap place q gq rs a 1 W HI.out.form h (HI.out.kept HK.out).wat HI.out.place HI.out.reads).mono ?_
  rintro e w2 ⟨⟨ao', cap', rfl, hs', hsub⟩, D2⟩
  obtain ⟨b, off, rfl, hc⟩ := hsub w2 l ((HI.out.kept HK.out).bytes' D2) (by omega)
  have hc0 := hc 0 (by omega)
  rw [Nat.add_zero] at hc0
  have e1 : ((l.drop a).take 1).getD 0 0 = l.getD a 0 := by simp [List.getD]
  rw [e1] at hc0
  obtain ⟨z, hz⟩ : ∃ z, z = l.getD a 0 := ⟨_, rfl⟩
  rw [← hz] at hc0
  have HZ : Hid (z = l.getD a 0) := hz
  have HD : Hid (WatDone w w2 q gq (tellR q rs (place + a) (place + a + 1))) := WatDone.from HK.out D2
  clear hsub D2 hs' hc e1 hz
  go_wp2
  go_ret2
  exact ⟨ret_ii HZ.out rfl, HD.out⟩

set_option maxRecDepth 100000 in
set_option maxHeartbeats 1000000 in
theorem byte_out (ao : Option Addr) (n cap : Nat) (place : Int) (q : Option Nat) (a : Int) (w : World) (h : ¬ (0 ≤ a ∧ a < n)) :
    Calls Try.prog 39 #[viewV ao n cap place q, .int .i64 a] w fun e w' => e = .returned (.tuple #[.int .u8 0, .int .i64 2]) ∧ Keeps w w' (fun _ => False) := by
  have HH : Hid (¬ (0 ≤ a ∧ 0 ≤ (1 : Int) ∧ a + 1 ≤ n)) := by show ¬ _; omega
  clear h
  unfold viewV
  go_enter Try.func39, Try.ntmps39
  go_wp2_with (first | (go_at_call 52; refine (read_out ao n cap place q a 1 _ HH.out).mono ?_; rintro e w2 ⟨rfl, K2⟩))
  go_ret2
  exact ⟨rfl, ((Keeps.refl w _).alloc _).trans K2 fun _ _ h => h⟩

/-! ### the document's -/
def refV (ao : Option Addr) (n cap : Nat) (place : Int) : Value := .agg #[.slice ao n cap, .int .i64 place]
def inB (a m n : Int) : Bool := decide (0 ≤ a ∧ 0 ≤ m ∧ a + m ≤ n)

theorem inside_any (a m n : Int) (w : World) (hn0 : 0 ≤ n) (hn : n ≤ 9223372036854775807) (ha : -9223372036854775808 ≤ a) (ha2 : a ≤ 9223372036854775807) (hm2 : m ≤ 9223372036854775807) :
    Calls Try.prog 69 #[.int .i64 a, .int .i64 m, .int .i64 n] w fun e w' => e = .returned (.bool (inB a m n)) ∧ w = w' := by
  by_cases h1 : 0 ≤ a
  · by_cases h2 : 0 ≤ m
    · by_cases h3 : a ≤ n
      · by_cases h4 : m ≤ n - a
        · have e : Hid (true = inB a m n) := (decide_eq_true (by omega)).symm
          go_enter Try.func69, Try.ntmps69; go_wp2; go_ret; exact ⟨ret_bool e.out, rfl⟩
        · have e : Hid (false = inB a m n) := (decide_eq_false (by omega)).symm
          have hd : decide (m ≤ n - a) = false := decide_eq_false h4
          go_enter Try.func69, Try.ntmps69; go_wp2; go_ret; exact ⟨ret_bool e.out, rfl⟩
      · have e : Hid (false = inB a m n) := (decide_eq_false (by omega)).symm
        go_enter Try.func69, Try.ntmps69; go_wp2; go_ret; exact ⟨ret_bool e.out, rfl⟩
    · have e : Hid (false = inB a m n) := (decide_eq_false (by omega)).symm
      go_enter Try.func69, Try.ntmps69; go_wp2; go_ret; exact ⟨ret_bool e.out, rfl⟩
  · have e : Hid (false = inB a m n) := (decide_eq_false (by omega)).symm
    go_enter Try.func69, Try.ntmps69; go_wp2; go_ret; exact ⟨ret_bool e.out, rfl⟩

theorem sign_any (x : Int) (m : Nat) (w : World) (hm : m = 1 ∨ m = 2 ∨ m = 4 ∨ m = 8) (hx0 : 0 ≤ x) (hx1 : x < 256 ^ m) :
    Calls Try.prog 70 #[.int .u64 x, .int .i64 m] w fun e w' => e = .returned (.int .i64 (signV x m)) ∧ w = w' := by
  rcases hm with rfl | rfl | rfl | rfl
  all_goals
    go_enter Try.func70, Try.ntmps70
    go_wp2
    go_ret
    refine ⟨ret_int ?_, rfl⟩
    simp only [signV]
    simp at hx1
    simp [IntKind.wrap, IntKind.bits, IntKind.signed]
    (try simp only [wrap32])
    simp only [wrap64]
    (repeat' split) <;> omega

/-- what the document's view looks at -/
structure RLooks (w : World) (ao : Option Addr) (n cap : Nat) (l : List Int) : Prop where
  form : SForm ao n cap
  bytes : BytesAt w ao n l
  len : l.length = n
  byte : ∀ c ∈ l, 0 ≤ c ∧ c < 256
theorem RLooks.kept {w w' : World} {ao : Option Addr} {n cap : Nat} {l : List Int} (h : RLooks w ao n cap l) (hk : Keeps w w' (fun _ => False)) : RLooks w' ao n cap l :=
  { h with bytes := h.bytes.kept hk (fun _ _ _ _ => id) }

set_option maxRecDepth 100000 in
set_option maxHeartbeats 1000000 in
theorem rbyte_in (ao : Option Addr) (n cap : Nat) (place : Int) (l : List Int) (a : Nat) (w : World) (h : a < n) (hI : RLooks w ao n cap l) :
    Calls Try.prog 41 #[refV ao n cap place, .int .i64 a] w fun e w' => e = .returned (.tuple #[.int .u8 (l.getD a 0), .int .i64 0]) ∧ Keeps w w' (fun _ => False) := by
  obtain ⟨b, off, rfl, hc⟩ := hI.bytes (by omega)
  have hn := hI.form.1
  have hn2 := hI.form.2.1
  have hc0 := hc a h
  obtain ⟨z, hz⟩ : ∃ z, z = l.getD a 0 := ⟨_, rfl⟩
  rw [← hz] at hc0
  have hc1 : ∀ o, (w.alloc o).cell? ⟨b, off + a, none⟩ = some (.int .u8 z) := fun o => ((Keeps.refl w (fun _ => False)).alloc o).cell' hc0 id
  have HZ : Hid (z = l.getD a 0) := hz
  clear hI hc hz
  unfold refV
  go_enter Try.func41, Try.ntmps41
  go_wp2
  go_ret2
  exact ⟨ret_ii HZ.out rfl, (Keeps.refl _ _).alloc _⟩

theorem rbyte_out (ao : Option Addr) (n cap : Nat) (place : Int) (a : Int) (w : World) (hn : n ≤ 9223372036854775807) (h : ¬ (0 ≤ a ∧ a < n)) :
    Calls Try.prog 41 #[refV ao n cap place, .int .i64 a] w fun e w' => e = .returned (.tuple #[.int .u8 0, .int .i64 2]) ∧ Keeps w w' (fun _ => False) := by
  unfold refV
  have hc : a < 0 ∨ (0 ≤ a ∧ (n : Int) ≤ a) := by omega
  clear h
  rcases hc with c1 | ⟨c1, c2⟩
  all_goals
    go_enter Try.func41, Try.ntmps41
    go_wp2
    go_ret2
    exact ⟨rfl, (Keeps.refl _ _).alloc _⟩

theorem box2 {w w1 : World} {a b : Value} {ty : Nat} {S : Nat → Prop} (hk : Keeps (w.alloc (.cells #[a, b] ty)) w1 S) (hS : ¬ S w.heap.size) :
    w1.cell? ⟨w.heap.size, 0, none⟩ = some a ∧ w1.cell? ⟨w.heap.size, 1, none⟩ = some b := by
  have h := heap_alloc_new w (.cells #[a, b] ty)
  refine ⟨hk.cell' ?_ hS, hk.cell' ?_ hS⟩
  · rw [cell_of_row _ _ 0 _ _ _ h]; rfl
  · rw [cell_of_row _ _ 1 _ _ _ h]; rfl

theorem rload_arg (ao : Option Addr) (n cap : Nat) (place a width : Int) (w : World) (hw : wideB width = false) :
    Calls Try.prog 60 #[refV ao n cap place, .int .i64 a, .int .i64 width] w fun e w' => e = .returned (.tuple #[.int .u64 0, .int .i64 1]) ∧ Keeps w w' (fun _ => False) := by
  unfold refV
  go_enter Try.func60, Try.ntmps60
  go_wp2_with (first | (go_at_call 55; refine (wide_any _ _).mono ?_; rintro e w' ⟨rfl, rfl⟩))
  go_ret2
  exact ⟨rfl, (Keeps.refl _ _).alloc _⟩

theorem rload_out (ao : Option Addr) (n cap : Nat) (place a width : Int) (w : World) (hn : n ≤ 9223372036854775807) (ha : -9223372036854775808 ≤ a) (ha2 : a ≤ 9223372036854775807) (hw : wideB width = true) (h : ¬ (0 ≤ a ∧ 0 ≤ width ∧ a + width ≤ n)) :
    Calls Try.prog 60 #[refV ao n cap place, .int .i64 a, .int .i64 width] w fun e w' => e = .returned (.tuple #[.int .u64 0, .int .i64 2]) ∧ Keeps w w' (fun _ => False) := by
  have hwd := (wideB_iff width).1 hw
  have hm2 : width ≤ 9223372036854775807 := by omega
  have hin : inB a width n = false := decide_eq_false h
  clear h hwd
  unfold refV
  go_enter Try.func60, Try.ntmps60
  go_wp2_with (first | (go_at_call 55; refine (wide_any _ _).mono ?_; rintro e w' ⟨rfl, rfl⟩) | (go_at_call 69; refine (inside_any a width n _ (by omega) (by omega) ha ha2 hm2).mono ?_; rintro e w' ⟨rfl, rfl⟩))
  go_ret2
  exact ⟨rfl, (Keeps.refl _ _).alloc _⟩

theorem leVal_cons (c : Int) (l : List Int) : leVal (c :: l) = c + 256 * leVal l := rfl
theorem drop_cons (l : List Int) (j : Nat) (h : j < l.length) : l.drop j = l.getD j 0 :: l.drop (j + 1) := by
  rw [List.drop_eq_getElem_cons h]; simp [List.getD, List.getElem?_eq_getElem h]

set_option maxRecDepth 100000 in
set_option maxHeartbeats 2000000 in
theorem rload_in (ao : Option Addr) (n cap : Nat) (place : Int) (l : List Int) (a m : Nat) (w : World) (hw : wideB m = true) (h : a + m ≤ n) (hI : RLooks w ao n cap l) :
    Calls Try.prog 60 #[refV ao n cap place, .int .i64 a, .int .i64 m] w fun e w' => e = .returned (.tuple #[.int .u64 (leVal ((l.drop a).take m)), .int .i64 0]) ∧ Keeps w w' (fun _ => False) := by
  have hm := (wideB_iff m).1 hw
  have hm8 : 0 < m ∧ m ≤ 8 := by omega
  obtain ⟨hm0, hm8⟩ := hm8
  obtain ⟨b, off, rfl, hc⟩ := hI.bytes (by omega)
  have hn := hI.form.1
  have hn2 := hI.form.2.1
  have hin : inB a m n = true := decide_eq_true (by omega)
  obtain ⟨sub, hsub⟩ : ∃ sub, sub = (l.drop a).take m := ⟨_, rfl⟩
  have hsl : sub.length = m := by rw [hsub, List.length_take, List.length_drop, hI.len]; omega
  have hsb : ∀ c ∈ sub, 0 ≤ c ∧ c < 256 := fun c hc' => hI.byte c (List.mem_of_mem_drop (List.mem_of_mem_take (by rw [hsub] at hc'; exact hc')))
  have hsc : ∀ j, j < m → w.cell? ⟨b, off + (a + j), none⟩ = some (.int .u8 (sub.getD j 0)) := by
    intro j hj
    rw [hc (a + j) (by omega), hsub]
    simp [List.getD, hj]
  rw [← hsub]
  have HS : Hid (sub.length = m ∧ (∀ c ∈ sub, 0 ≤ c ∧ c < 256) ∧ ∀ j, j < m → w.cell? ⟨b, off + (a + j), none⟩ = some (.int .u8 (sub.getD j 0))) := ⟨hsl, hsb, hsc⟩
  clear hI hc hsub hsl hsb hsc hm
  unfold refV
  go_enter Try.func60, Try.ntmps60
  go_wp2_with (first | (go_at_call 55; refine (wide_any _ _).mono ?_; rintro e w' ⟨rfl, rfl⟩) | (go_at_call 69; refine (inside_any a m n _ (by omega) (by omega) (by omega) (by omega) (by omega)).mono ?_; rintro e w' ⟨rfl, rfl⟩))
  obtain ⟨W, hW⟩ : ∃ W, W = w.alloc (.cells #[.slice (some ⟨b, off, none⟩) n cap, .int .i64 place] 91) := ⟨_, rfl⟩
  rw [← hW]
  have HK : Hid (Keeps w W (fun _ => False)) := by rw [hW]; exact (Keeps.refl _ _).alloc _
  obtain ⟨b0, b1⟩ := box2 (w := w) (w1 := W) (S := fun _ => False) (by rw [hW]; exact Keeps.refl _ _) id
  clear hW
  go_loop [9, 10] (fun x i => ∃ (k : Nat) (y : Int), k ≤ m ∧ i = .int .i64 ((k : Int) - 1) ∧ x = .int .u64 y ∧ Hid (y = leVal (sub.drop k))) (fun _ i => (intOf i + 1).toNat)
  case atStart => exact ⟨m, 0, Nat.le_refl _, rfl, rfl, by show _ = _; rw [List.drop_of_length_le (by rw [HS.out.1]; exact Nat.le_refl _)]; rfl⟩
  case round =>
    obtain ⟨k, y, hk, rfl, rfl, HY⟩ := hrel
    by_cases h0 : k = 0
    · subst h0
      have HE : Hid (y = leVal sub) := by rw [HY.out]; rfl
      go_wp2
      go_ret2
      exact ⟨ret_ii HE.out rfl, HK.out⟩
    · obtain ⟨j, rfl⟩ : ∃ j, k = j + 1 := ⟨k - 1, by omega⟩
      have ej : ((j + 1 : Nat) : Int) - 1 = (j : Int) := by omega
      rw [ej]
      have hjl : j < sub.length := by rw [HS.out.1]; omega
      have hyb := leVal_bd (sub.drop (j + 1)) (fun c hc => HS.out.2.1 c (List.mem_of_mem_drop hc))
      rw [← HY.out, List.length_drop, HS.out.1] at hyb
      have hp7 := pow256_le (m - (j + 1) + 1) (by omega)
      rw [Int.pow_succ] at hp7
      have hy7 : 0 ≤ y ∧ y < 72057594037927936 := by omega
      obtain ⟨hy0, hy1⟩ := hy7
      have hcj := HK.out.cell' (HS.out.2.2 j (by omega)) id
      obtain ⟨z, hz⟩ : ∃ z, z = sub.getD j 0 := ⟨_, rfl⟩
      rw [← hz] at hcj
      have hzb : 0 ≤ z ∧ z < 256 := by
        rw [hz]; simp only [List.getD, List.getElem?_eq_getElem hjl, Option.getD_some]; exact HS.out.2.1 _ (List.getElem_mem hjl)
      obtain ⟨hz0, hz1⟩ := hzb
      have HT : Hid (y * 256 + z = leVal (sub.drop j)) := by
        show _ = _
        rw [drop_cons sub j hjl, leVal_cons, ← HY.out, ← hz]; omega
      clear hyb hp7 hz ej hjl
      go_wp2
      go_round
      case rel => exact ⟨j, y * 256 + z, by omega, by go_num, by go_num, HT.out⟩
      case measure => simp [intOf]
end Go.Proofs.Ytomlndoffoeaiaa.Kit
