import Derived.Test.YtomlndoffoeaiaaViewB
namespace Go.Proofs.Ytomlndoffoeaiaa.Kit
open Go.RowKit Go.Deep

/-- the bytes that a view looks at, apart from the watch -/
structure Looks (w : World) (ao : Option Addr) (n cap : Nat) (place : Int) (q gq : Option Nat) (rs : List (Int × Int)) (l : List Int) : Prop where
  form : SForm ao n cap
  bytes : BytesAt w ao n l
  len : l.length = n
  byte : ∀ c ∈ l, 0 ≤ c ∧ c < 256
  wat : Wat w q gq rs
  place : PlaceOk place n
  reads : rs.length ≤ 1000000000000
  apart : ∀ b off, ao = some ⟨b, off, none⟩ → 0 < n → q ≠ some b ∧ gq ≠ some b

theorem BytesAt.kept {w w' : World} {ao : Option Addr} {n : Nat} {l : List Int} {S : Nat → Prop} (h : BytesAt w ao n l) (hk : Keeps w w' S) (hS : ∀ b off, ao = some ⟨b, off, none⟩ → 0 < n → ¬ S b) : BytesAt w' ao n l := by
  intro hn
  obtain ⟨b, off, rfl, hc⟩ := h hn
  exact ⟨b, off, rfl, fun k hk' => hk.cell' (hc k hk') (hS b off rfl hn)⟩
theorem Looks.kept {w w' : World} {ao : Option Addr} {n cap : Nat} {place : Int} {q gq : Option Nat} {rs : List (Int × Int)} {l : List Int} (h : Looks w ao n cap place q gq rs l) (hk : Keeps w w' (fun _ => False)) : Looks w' ao n cap place q gq rs l :=
  { h with bytes := h.bytes.kept hk (fun _ _ _ _ => id), wat := h.wat.kept hk (fun _ _ => id) (fun _ _ => id) }
theorem Looks.bytes' {w w' : World} {ao : Option Addr} {n cap : Nat} {place : Int} {q gq : Option Nat} {rs rs' : List (Int × Int)} {l : List Int} (h : Looks w ao n cap place q gq rs l) (hd : WatDone w w' q gq rs') : BytesAt w' ao n l := by
  obtain ⟨g', i', k', b'⟩ := hd
  refine h.bytes.kept k' fun b off e hn x => ?_
  rcases x with x | x
  · exact (h.apart b off e hn).1 x
  · exact (h.apart b off e hn).2 x

theorem lowest_all (ao : Option Addr) (m cap : Nat) (l : List Int) (w : World) (hm0 : 0 < m) (hm : m ≤ 8) (hl : l.length = m) (hb : ∀ c ∈ l, 0 ≤ c ∧ c < 256) (h : BytesAt w ao m l) :
    Calls Try.prog 53 #[.slice ao m cap] w fun e w' => e = .returned (.int .u64 (leVal l)) ∧ w = w' := by
  obtain ⟨b, off, rfl, hc⟩ := h hm0
  exact lowest_some b off m cap l w hm hl hb hc

set_option maxRecDepth 100000 in
theorem of_any (ao : Option Addr) (n cap : Nat) (w : World) :
    Calls Try.prog 14 #[.slice ao n cap] w fun e w' => e = .returned (viewV ao n cap 0 none) ∧ Keeps w w' (fun _ => False) := by
  unfold viewV
  go_enter Try.func14, Try.ntmps14
  go_wp2
  exact bodyPost_ret (v := .agg #[.slice ao n cap, .int .i64 0, .pointer none]) (by simp [results, Try.results14, go_sem]) rfl ⟨rfl, (Keeps.refl _ _).alloc _⟩

theorem vlen_any (ao : Option Addr) (n cap : Nat) (place : Int) (q : Option Nat) (w : World) :
    Calls Try.prog 16 #[viewV ao n cap place q] w fun e w' => e = .returned (.int .i64 n) ∧ Keeps w w' (fun _ => False) := by
  unfold viewV
  go_enter Try.func16, Try.ntmps16
  go_wp2
  go_ret
  exact ⟨rfl, (Keeps.refl _ _).alloc _⟩

set_option maxRecDepth 100000 in
set_option maxHeartbeats 400000 in
theorem load_arg (ao : Option Addr) (n cap : Nat) (place : Int) (q : Option Nat) (a width : Int) (w : World) (hw : wideB width = false) :
    Calls Try.prog 19 #[viewV ao n cap place q, .int .i64 a, .int .i64 width] w fun e w' => e = .returned (.tuple #[.int .u64 0, .int .i64 1]) ∧ Keeps w w' (fun _ => False) := by
  unfold viewV
  go_enter Try.func19, Try.ntmps19
  go_wp2_with (first | (go_at_call 51; refine (isWidth_any _ _).mono ?_; rintro e w' ⟨rfl, rfl⟩))
  go_ret2
  exact ⟨rfl, (Keeps.refl _ _).alloc _⟩

set_option maxRecDepth 100000 in
set_option maxHeartbeats 400000 in
theorem load_out (ao : Option Addr) (n cap : Nat) (place : Int) (q : Option Nat) (a width : Int) (w : World) (hw : wideB width = true) (h : ¬ (0 ≤ a ∧ 0 ≤ width ∧ a + width ≤ n)) :
    Calls Try.prog 19 #[viewV ao n cap place q, .int .i64 a, .int .i64 width] w fun e w' => e = .returned (.tuple #[.int .u64 0, .int .i64 2]) ∧ Keeps w w' (fun _ => False) := by
  have HH : Hid (¬ (0 ≤ a ∧ 0 ≤ width ∧ a + width ≤ n)) := h
  clear h
  unfold viewV
  go_enter Try.func19, Try.ntmps19
  go_wp2_with (first | (go_at_call 51; refine (isWidth_any _ _).mono ?_; rintro e w' ⟨rfl, rfl⟩) | (go_at_call 52; refine (read_out ao n cap place q a width _ HH.out).mono ?_; rintro e w2 ⟨rfl, K2⟩))
  go_ret2
  exact ⟨rfl, ((Keeps.refl w _).alloc _).trans K2 fun _ _ h => h⟩

set_option maxRecDepth 100000 in
set_option maxHeartbeats 1000000 in
theorem load_in (ao : Option Addr) (n cap : Nat) (place : Int) (q gq : Option Nat) (rs : List (Int × Int)) (l : List Int) (a m : Nat) (w : World) (hw : wideB m = true) (h : a + m ≤ n) (hI : Looks w ao n cap place q gq rs l) :
    Calls Try.prog 19 #[viewV ao n cap place q, .int .i64 a, .int .i64 m] w fun e w' => e = .returned (.tuple #[.int .u64 (leVal ((l.drop a).take m)), .int .i64 0]) ∧ WatDone w w' q gq (tellR q rs (place + a) (place + a + m)) := by
  have HI : Hid (Looks w ao n cap place q gq rs l) := hI
  have hm := (wideB_iff m).1 hw
  have hm8 : 0 < m ∧ m ≤ 8 := by omega
  obtain ⟨hm0, hm8⟩ := hm8
  clear hI hm
  unfold viewV
  go_enter Try.func19, Try.ntmps19
  go_wp2_with fail
  go_at_call 51
  refine (isWidth_any _ _).mono ?_
  rintro e w' ⟨rfl, rfl⟩
  go_wp2_with fail
  go_at_call 52
  obtain ⟨W, hW⟩ : ∃ W, W = w.alloc (.cells #[.slice ao n cap, .int .i64 place, .pointer (q.map fun b => ⟨b, 0, none⟩)] 37) := ⟨_, rfl⟩
  rw [← hW]
  have HK : Hid (Keeps w W (fun _ => False)) := by rw [hW]; exact (Keeps.refl _ _).alloc _
  clear hW
  refine (read_in ao n cap place q gq rs a m W HI.out.form h (HI.out.kept HK.out).wat HI.out.place HI.out.reads).mono ?_
  rintro e w2 ⟨⟨ao', cap', rfl, hs', hsub⟩, D2⟩
  have HB : Hid (BytesAt w2 ao' m ((l.drop a).take m)) := hsub w2 l ((HI.out.kept HK.out).bytes' D2)
  have HD : Hid (WatDone w w2 q gq (tellR q rs (place + a) (place + a + m))) := WatDone.from HK.out D2
  clear hsub D2 hs'
  go_wp2_with (first | (go_at_call 53; refine (lowest_all ao' m cap' _ _ hm0 hm8 (by rw [List.length_take, List.length_drop, HI.out.len]; omega) (fun c hc => HI.out.byte c (List.mem_of_mem_drop (List.mem_of_mem_take hc))) HB.out).mono ?_; rintro e w3 ⟨rfl, rfl⟩))
  go_ret2
  exact ⟨rfl, HD.out⟩

theorem run_convert_bytes (w : World) (ao : Option Addr) (m cap : Nat) (l : List Int) (hs : SForm ao m cap) (hl : l.length = m) (h : BytesAt w ao m l) : (convert 22 9 (.slice ao m cap)).run Try.prog w = .ok (.string (strOf l)) w := by
  by_cases h0 : m = 0
  · subst h0
    obtain rfl : l = [] := List.eq_nil_of_length_eq_zero hl
    cases ao with
    | none => exact run_convert_nil w cap
    | some ad => exact run_convert_cells w ad 0 cap [] rfl (fun j u hj => by simp at hj)
  · obtain ⟨b, off, rfl, hc⟩ := h (by omega)
    refine run_convert_cells w _ m cap l hl fun j u hj => ?_
    rw [List.getElem?_map] at hj
    obtain ⟨z, hz, rfl⟩ := Option.map_eq_some_iff.1 hj
    have hj' := (List.getElem?_eq_some_iff.1 hz).1
    rw [Addr.add_lit, hc j (by omega)]
    simp [List.getD, hz]

set_option maxRecDepth 100000 in
set_option maxHeartbeats 1000000 in
theorem vtext_in (ao : Option Addr) (n cap : Nat) (place : Int) (q gq : Option Nat) (rs : List (Int × Int)) (l : List Int) (a m : Nat) (w : World) (h : a + m ≤ n) (hI : Looks w ao n cap place q gq rs l) :
    Calls Try.prog 34 #[viewV ao n cap place q, .int .i64 a, .int .i64 m] w fun e w' => e = .returned (.tuple #[.string (strOf ((l.drop a).take m)), .int .i64 0]) ∧ WatDone w w' q gq (tellR q rs (place + a) (place + a + m)) := by
  have HI : Hid (Looks w ao n cap place q gq rs l) := hI
  clear hI
  unfold viewV
  go_enter Try.func34, Try.ntmps34
  go_wp2_with fail
  go_at_call 52
  obtain ⟨W, hW⟩ : ∃ W, W = w.alloc (.cells #[.slice ao n cap, .int .i64 place, .pointer (q.map fun b => ⟨b, 0, none⟩)] 37) := ⟨_, rfl⟩
  rw [← hW]
  have HK : Hid (Keeps w W (fun _ => False)) := by rw [hW]; exact (Keeps.refl _ _).alloc _
  clear hW
  refine (read_in ao n cap place q gq rs a m W HI.out.form h (HI.out.kept HK.out).wat HI.out.place HI.out.reads).mono ?_
  rintro e w2 ⟨⟨ao', cap', rfl, hs', hsub⟩, D2⟩
  have hconv := run_convert_bytes w2 ao' m cap' ((l.drop a).take m) hs' (by rw [List.length_take, List.length_drop, HI.out.len]; omega) (hsub w2 l ((HI.out.kept HK.out).bytes' D2))
  have HD : Hid (WatDone w w2 q gq (tellR q rs (place + a) (place + a + m))) := WatDone.from HK.out D2
  clear hsub D2 hs'
  go_wp2
  go_ret2
  exact ⟨rfl, HD.out⟩
end Go.Proofs.Ytomlndoffoeaiaa.Kit
namespace Go.Proofs.Ytomlndoffoeaiaa.Kit
open Go.RowKit Go.Deep

/-- a number of so many bytes as a signed one -/
def signV (x : Int) (m : Nat) : Int := if x < 2 ^ (8 * m - 1) then x else x - 2 ^ (8 * m)

theorem signed_err (ao : Option Addr) (n cap : Nat) (place : Int) (q : Option Nat) (a width c : Int) (w : World) (hc : c ≠ 0)
    (h : ∀ w, Calls Try.prog 19 #[viewV ao n cap place q, .int .i64 a, .int .i64 width] w fun e w' => e = .returned (.tuple #[.int .u64 0, .int .i64 c]) ∧ Keeps w w' (fun _ => False)) :
    Calls Try.prog 20 #[viewV ao n cap place q, .int .i64 a, .int .i64 width] w fun e w' => e = .returned (.tuple #[.int .i64 0, .int .i64 c]) ∧ Keeps w w' (fun _ => False) := by
  have hc' : (c != 0) = true := by simpa using hc
  have HH : Hid (∀ w, Calls Try.prog 19 #[viewV ao n cap place q, .int .i64 a, .int .i64 width] w fun e w' => e = .returned (.tuple #[.int .u64 0, .int .i64 c]) ∧ Keeps w w' (fun _ => False)) := h
  clear h hc
  unfold viewV
  go_enter Try.func20, Try.ntmps20
  go_wp2_with fail
  go_at_call 19
  refine (HH.out _).mono ?_
  rintro e w2 ⟨rfl, K2⟩
  have HK : Hid (Keeps w w2 (fun _ => False)) := ((Keeps.refl w _).alloc _).trans K2 fun _ _ h => h
  clear K2
  go_wp2
  go_ret2
  exact ⟨rfl, HK.out⟩

theorem ret_ii {k k' : IntKind} {a b c d : Int} (h : a = b) (g : c = d) : Ending.returned (.tuple #[.int k a, .int k' c]) = .returned (.tuple #[.int k b, .int k' d]) := by rw [h, g]

set_option maxRecDepth 100000 in
set_option maxHeartbeats 1000000 in
theorem signed_in (ao : Option Addr) (n cap : Nat) (place : Int) (q gq : Option Nat) (rs : List (Int × Int)) (l : List Int) (a m : Nat) (w : World) (hw : wideB m = true) (h : a + m ≤ n) (hI : Looks w ao n cap place q gq rs l) :
    Calls Try.prog 20 #[viewV ao n cap place q, .int .i64 a, .int .i64 m] w fun e w' => e = .returned (.tuple #[.int .i64 (signV (leVal ((l.drop a).take m)) m), .int .i64 0]) ∧ WatDone w w' q gq (tellR q rs (place + a) (place + a + m)) := by
  have HI : Hid (Looks w ao n cap place q gq rs l) := hI
  have hm := (wideB_iff m).1 hw
  have hb := leVal_bd ((l.drop a).take m) (fun c hc => hI.byte c (List.mem_of_mem_drop (List.mem_of_mem_take hc)))
  rw [List.length_take, List.length_drop, hI.len, Nat.min_eq_left (by omega)] at hb
  obtain ⟨x, hx⟩ : ∃ x, x = leVal ((l.drop a).take m) := ⟨_, rfl⟩
  rw [← hx] at hb ⊢
  have HX : Hid (x = leVal ((l.drop a).take m)) := hx
  clear hI hx
  obtain ⟨hx0, hx1⟩ := hb
  have hm : m = 1 ∨ m = 2 ∨ m = 4 ∨ m = 8 := by omega
  unfold viewV
  rcases hm with rfl | rfl | rfl | rfl
  all_goals
    go_enter Try.func20, Try.ntmps20
    go_wp2_with fail
    go_at_call 19
    refine (load_in ao n cap place q gq rs l a _ _ hw h (HI.out.kept ((Keeps.refl w _).alloc _))).mono ?_
    rintro e w2 ⟨rfl, D2⟩
    have HD := WatDone.from ((Keeps.refl w _).alloc _) D2
    clear D2
    rw [← HX.out]
    go_wp2
    go_ret2
    refine ⟨ret_ii ?_ rfl, HD⟩
    simp only [signV]
    simp at hx1
    simp
    unfold wrap64
    split <;> omega

/-! ### there and back -/
def pickV (c n : Int) : Int := (if c < 0 then -(c + 1) else c) % n
theorem pickV_bd (c n : Int) (hn : 0 < n) : 0 ≤ pickV c n ∧ pickV c n < n := ⟨Int.emod_nonneg _ (by omega), Int.emod_lt_of_pos _ hn⟩
theorem pick_any (c n : Int) (w : World) (hc0 : -9223372036854775808 ≤ c) (hc1 : c ≤ 9223372036854775807) (hn : 0 < n) (hn1 : n ≤ 9223372036854775807) :
    Calls Try.prog 33 #[.int .i64 c, .int .i64 n] w fun e w' => e = .returned (.int .i64 (pickV c n)) ∧ w = w' := by
  have hn0 : (n == 0) = false := by simp; omega
  by_cases h : c < 0
  · have e : Hid (pickV c n = -(c + 1) % n) := by show _ = _; simp [pickV, h]
    have hx : 0 ≤ -(c + 1) := by omega
    go_enter Try.func33, Try.ntmps33
    go_wp2
    go_ret
    exact ⟨ret_int (by rw [e.out, ← Int.neg_tmod, Int.tmod_eq_emod_of_nonneg hx]), rfl⟩
  · have e : Hid (pickV c n = c % n) := by show _ = _; simp [pickV, h]
    go_enter Try.func33, Try.ntmps33
    go_wp2
    go_ret
    exact ⟨ret_int e.out.symm, rfl⟩
end Go.Proofs.Ytomlndoffoeaiaa.Kit
