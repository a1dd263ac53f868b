import Derived.Test.YtomlndoffoeaiaaViewC
namespace Go.Proofs.Ytomlndoffoeaiaa.Kit
open Go.RowKit Go.Deep

/-- a number of so many bytes as a signed one -/
def signV (x : Int) (m : Nat) : Int := if x < 2 ^ (8 * m - 1) then x else x - 2 ^ (8 * m)

theorem signed_err (ao : Option Addr) (n cap : Nat) (place : Int) (q : Option Nat) (a width c : Int) (w : World) (hc : c ≠ 0)
    (h : ∀ w, Calls Try.prog 19 #[viewV ao n cap place q, .int .i64 a, .int .i64 width] w fun e w' => e = .returned (.tuple #[.int .u64 0, .int .i64 c]) ∧ Keeps w w' (fun _ => False)) :
    Calls Try.prog 20 #[viewV ao n cap place q, .int .i64 a, .int .i64 width] w fun e w' => e = .returned (.tuple #[.int .i64 0, .int .i64 c]) ∧ Keeps w w' (fun _ => False) := by
  have hc' : (c != 0) = true := by simpa using hc
  have HH : Hid (∀ w, Calls Try.prog 19 #[viewV ao n cap place q, .int .i64 a, .int .i64 width] w fun e w' => e = .returned (.tuple #[.int .u64 0, .int .i64 c]) ∧ Keeps w w' (fun _ => False)) := h
  clear h hc
  unfold viewV
  go_enter Try.func20, Try.ntmps20
  go_wp2_with fail
  go_at_call 19
  refine (HH.out _).mono ?_
  rintro e w2 ⟨rfl, K2⟩
  have HK : Hid (Keeps w w2 (fun _ => False)) := ((Keeps.refl w _).alloc _).trans K2 fun _ _ h => h
  clear K2
  go_wp2
  go_ret2
  exact ⟨rfl, HK.out⟩

theorem ret_ii {k k' : IntKind} {a b c d : Int} (h : a = b) (g : c = d) : Ending.returned (.tuple #[.int k a, .int k' c]) = .returned (.tuple #[.int k b, .int k' d]) := by rw [h, g]

set_option maxRecDepth 100000 in
set_option maxHeartbeats 1000000 in
theorem signed_in (ao : Option Addr) (n cap : Nat) (place : Int) (q gq : Option Nat) (rs : List (Int × Int)) (l : List Int) (a m : Nat) (w : World) (hw : wideB m = true) (h : a + m ≤ n) (hI : Looks w ao n cap place q gq rs l) :
    Calls Try.prog 20 #[viewV ao n cap place q, .int .i64 a, .int .i64 m] w fun e w' => e = .returned (.tuple #[.int .i64 (signV (leVal ((l.drop a).take m)) m), .int .i64 0]) ∧ WatDone w w' q gq (tellR q rs (place + a) (place + a + m)) := by
  have HI : Hid (Looks w ao n cap place q gq rs l) := hI
  have hm := (wideB_iff m).1 hw
  have hb := leVal_bd ((l.drop a).take m) (fun c hc => hI.byte c (List.mem_of_mem_drop (List.mem_of_mem_take hc)))
  rw [List.length_take, List.length_drop, hI.len, Nat.min_eq_left (by omega)] at hb
  obtain ⟨x, hx⟩ : ∃ x, x = leVal ((l.drop a).take m) := ⟨_, rfl⟩
  rw [← hx] at hb ⊢
  have HX : Hid (x = leVal ((l.drop a).take m)) := hx
  clear hI hx
  obtain ⟨hx0, hx1⟩ := hb
  have hm : m = 1 ∨ m = 2 ∨ m = 4 ∨ m = 8 := by omega
  unfold viewV
  rcases hm with rfl | rfl | rfl | rfl
  all_goals
    go_enter Try.func20, Try.ntmps20
    go_wp2_with fail
    go_at_call 19
    refine (load_in ao n cap place q gq rs l a _ _ hw h (HI.out.kept ((Keeps.refl w _).alloc _))).mono ?_
    rintro e w2 ⟨rfl, D2⟩
    have HD := WatDone.from ((Keeps.refl w _).alloc _) D2
    clear D2
    rw [← HX.out]
    go_wp2
    go_ret2
    refine ⟨ret_ii ?_ rfl, HD⟩
    simp only [signV]
    simp at hx1
    simp
    unfold wrap64
    split <;> omega

/-! ### there and back -/
def pickV (c n : Int) : Int := (if c < 0 then -(c + 1) else c) % n
theorem pickV_bd (c n : Int) (hn : 0 < n) : 0 ≤ pickV c n ∧ pickV c n < n := ⟨Int.emod_nonneg _ (by omega), Int.emod_lt_of_pos _ hn⟩
theorem pick_any (c n : Int) (w : World) (hc0 : -9223372036854775808 ≤ c) (hc1 : c ≤ 9223372036854775807) (hn : 0 < n) (hn1 : n ≤ 9223372036854775807) :
    Calls Try.prog 33 #[.int .i64 c, .int .i64 n] w fun e w' => e = .returned (.int .i64 (pickV c n)) ∧ w = w' := by
  have hn0 : (n == 0) = false := by simp; omega
  by_cases h : c < 0
  · have e : Hid (pickV c n = -(c + 1) % n) := by show _ = _; simp [pickV, h]
    have hx : 0 ≤ -(c + 1) := by omega
    go_enter Try.func33, Try.ntmps33
    go_wp2
    go_ret
    exact ⟨ret_int (by rw [e.out, ← Int.neg_tmod, Int.tmod_eq_emod_of_nonneg hx]), rfl⟩
  · have e : Hid (pickV c n = c % n) := by show _ = _; simp [pickV, h]
    go_enter Try.func33, Try.ntmps33
    go_wp2
    go_ret
    exact ⟨ret_int e.out.symm, rfl⟩
end Go.Proofs.Ytomlndoffoeaiaa.Kit
