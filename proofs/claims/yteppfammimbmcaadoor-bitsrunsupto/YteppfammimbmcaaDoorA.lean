import Derived.Test.YteppfammimbmcaaDoorProg
import Derived.Test.YteppfammimbmcaaDoorKit
import Derived.Test.YteppfammimbmcaaDoorData
namespace Go.Proofs.YteppfammimbmcaaDoor.Kit
open Go.RowKit Go.Deep

/-- the package's table in memory -/
def Tab (w : World) : Prop := ∀ k, k < 16 → w.cell? ⟨0, k, none⟩ = some (.int .u8 (cnt k : Nat))
theorem Tab.drewN {w : World} (h : Tab w) (q : Nat) : Tab (w.drewN q) := h
theorem Tab.kept {w w' : World} {S : Nat → Prop} (h : Tab w) (k : Keeps w w' S) (h0 : ¬ S 0) : Tab w' := fun j hj => k.cell' (h j hj) h0

theorem ones_any (c : Nat) (hc : c < 256) (w : World) (hT : Tab w) :
    Calls Tryd.prog 58 #[.int .u8 c] w fun e w' => e = .returned (.int .i64 (onesOf c : Nat)) ∧ ∃ q, w' = w.drewN q := by
  have h1 := hT (c % 16) (by omega)
  have h2 := hT (c / 16) (by omega)
  have e1 : bits .and .u8 (c : Int) 15 = ((c % 16 : Nat) : Int) := by
    have := bits_and8 c 15 hc (by decide)
    rw [show (15 : Nat) = 2 ^ 4 - 1 from rfl, Nat.and_two_pow_sub_one_eq_mod] at this
    exact this
  have l1 := cnt_le (c % 16)
  have l2 := cnt_le (c / 16)
  obtain ⟨x, hx⟩ : ∃ x, x = cnt (c % 16) := ⟨_, rfl⟩
  obtain ⟨y, hy⟩ : ∃ y, y = cnt (c / 16) := ⟨_, rfl⟩
  have e2 : onesOf c = x + y := by rw [hx, hy]; rfl
  rw [← hx] at h1 l1
  rw [← hy] at h2 l2
  rw [e2]
  have b1 : c % 16 < 16 := by omega
  have b2 : c / 16 < 16 := by omega
  clear hT hx hy e2
  go_enter Tryd.func58, Tryd.ntmps58
  go_wp2
  go_quiet (fail)
  go_wp2
  go_ret
  exact ⟨by simp, _, rfl⟩

theorem holds_any (c : Nat) (hc : c < 256) (on : Bool) (w : World) (hT : Tab w) :
    Calls Tryd.prog 57 #[.int .u8 c, .bool on] w fun e w' => e = .returned (.bool (hold c on)) ∧ ∃ q, w' = w.drewN q := by
  cases on
  · go_enter Tryd.func57, Tryd.ntmps57
    go_wp2_with (go_at_call 58; refine (ones_any c hc _ hT).mono ?_; rintro e w' ⟨rfl, q, rfl⟩)
    go_ret
    exact ⟨by simp [hold]; omega, _, rfl⟩
  · go_enter Tryd.func57, Tryd.ntmps57
    go_wp2_with (go_at_call 58; refine (ones_any c hc _ hT).mono ?_; rintro e w' ⟨rfl, q, rfl⟩)
    go_ret
    exact ⟨by simp [hold], _, rfl⟩

/-- a list of bytes somewhere in memory -/
def BytesAt (w : World) (ao : Option Addr) (l : List Nat) : Prop :=
  0 < l.length → ∃ b off, ao = some ⟨b, off, none⟩ ∧ ∀ k, k < l.length → w.cell? ⟨b, off + k, none⟩ = some (.int .u8 (l.getD k 0 : Nat))
theorem BytesAt.drewN {w : World} {ao : Option Addr} {l : List Nat} (h : BytesAt w ao l) (q : Nat) : BytesAt (w.drewN q) ao l := h
theorem BytesAt.kept {w w' : World} {ao : Option Addr} {l : List Nat} {S : Nat → Prop} (h : BytesAt w ao l) (k : Keeps w w' S) (hS : ∀ b, ao.map (·.block) = some b → ¬ S b) : BytesAt w' ao l := by
  intro hn
  obtain ⟨b, off, rfl, hc⟩ := h hn
  exact ⟨b, off, rfl, fun j hj => k.cell' (hc j hj) (hS b rfl)⟩
theorem BytesAt.kept0 {w w' : World} {ao : Option Addr} {l : List Nat} (h : BytesAt w ao l) (k : Keeps w w' (fun _ => False)) : BytesAt w' ao l := h.kept k fun _ _ => id

theorem isOn_any (ao : Option Addr) (ca : Nat) (l : List Nat) (hl : Bytes l) (hn : l.length ≤ 1152921504606846976) (i : Nat) (hi : i < 8 * l.length) (w : World) (hb : BytesAt w ao l) :
    Calls Tryd.prog 49 #[.slice ao l.length ca, .int .i64 i] w fun e w' => e = .returned (.bool (bitAt l i)) ∧ w = w' := by
  obtain ⟨b, off, rfl, hcs⟩ := hb (by omega)
  have hc := hcs (i / 8) (by omega)
  have hx := hl.get (i / 8)
  have e := on_bit (l.getD (i / 8) 0) (i % 8) hx
  have e' : bitAt l i = (l.getD (i / 8) 0).testBit (i % 8) := rfl
  obtain ⟨x, hx'⟩ : ∃ x, x = l.getD (i / 8) 0 := ⟨_, rfl⟩
  rw [← hx'] at hc hx e e'
  rw [e']
  have h8 : i / 8 < l.length := by omega
  clear hcs hx' e' hb hl
  go_enter Tryd.func49, Tryd.ntmps49
  go_wp2
  go_ret
  exact ⟨by simp, rfl⟩

theorem refused_neg (ao : Option Addr) (n ca : Nat) (fr m : Int) (w : World) (h : fr < 0 ∨ m < 0) :
    Calls Tryd.prog 44 #[.slice ao n ca, .int .i64 fr, .int .i64 m] w fun e w' => e = .returned (.int .i64 1) ∧ w = w' := by
  go_enter Tryd.func44, Tryd.ntmps44
  go_wp2
  all_goals first | (go_ret; exact ⟨rfl, rfl⟩) | (exfalso; simp at *; omega)
theorem refused_ok (ao : Option Addr) (n ca : Nat) (hn : n ≤ 1152921504606846975) (fr m : Nat) (h : fr + m ≤ 8 * n) (w : World) :
    Calls Tryd.prog 44 #[.slice ao n ca, .int .i64 fr, .int .i64 m] w fun e w' => e = .returned (.int .i64 0) ∧ w = w' := by
  go_enter Tryd.func44, Tryd.ntmps44
  go_wp2
  all_goals first | (go_ret; exact ⟨rfl, rfl⟩) | (exfalso; simp at *; omega)
theorem refused_range (ao : Option Addr) (n ca : Nat) (hn : n ≤ 1152921504606846975) (fr m : Nat) (hfr : fr ≤ 9223372036854775807) (hm : m ≤ 9223372036854775807) (h : 8 * n < fr + m) (w : World) :
    Calls Tryd.prog 44 #[.slice ao n ca, .int .i64 fr, .int .i64 m] w fun e w' => e = .returned (.int .i64 2) ∧ w = w' := by
  go_enter Tryd.func44, Tryd.ntmps44
  go_wp2
  all_goals first | (go_ret; exact ⟨rfl, rfl⟩) | (exfalso; simp at *; omega)
theorem need_neg (m : Int) (h : m ≤ 0) (w : World) : Calls Tryd.prog 22 #[.int .i64 m] w fun e w' => e = .returned (.int .i64 0) ∧ w = w' := by
  go_enter Tryd.func22, Tryd.ntmps22
  go_wp2
  all_goals first | (go_ret; exact ⟨rfl, rfl⟩) | (exfalso; simp at *; omega)
theorem need_pos (m : Nat) (h : m ≤ 9223372036854775807) (w : World) : Calls Tryd.prog 22 #[.int .i64 m] w fun e w' => e = .returned (.int .i64 (need m : Nat)) ∧ w = w' := by
  by_cases h0 : m = 0
  · subst h0; exact need_neg 0 (by omega) w
  · go_enter Tryd.func22, Tryd.ntmps22
    go_wp2
    all_goals first | (go_ret; exact ⟨by simp [need]; omega, rfl⟩) | (exfalso; simp at *; omega) | trace_state

set_option maxHeartbeats 1000000 in
theorem find_any (ao : Option Addr) (ca : Nat) (l : List Nat) (hl : Bytes l) (hn : l.length ≤ 1152921504606846) (at_ e : Nat) (on : Bool) (ha : at_ ≤ e) (he : e ≤ 8 * l.length) (w : World) (hT : Tab w) (hb : BytesAt w ao l) :
    Calls Tryd.prog 48 #[.slice ao l.length ca, .int .i64 at_, .int .i64 e, .bool on] w fun x w' => x = .returned (.int .i64 (fnd (bitAt l) on e at_ : Nat)) ∧ ∃ q, w' = w.drewN q := by
  go_enter Tryd.func48, Tryd.ntmps48
  go_wp2
  go_loopw [1] (fun i wr => ∃ k : Nat, k ≤ e + 7 ∧ i = .int .i64 k ∧ fnd (bitAt l) on e k = fnd (bitAt l) on e at_ ∧ ∃ q, wr = w.drewN q) (fun i _ => e + 7 - (intOf i).toNat)
  case atStart => exact ⟨at_, by omega, rfl, rfl, 0, rfl⟩
  case round =>
    obtain ⟨k, hk, rfl, hf, q, rfl⟩ := hrel
    by_cases hlt : k < e
    · obtain ⟨b, off, rfl, hcs⟩ := hb (by omega)
      have hc := hcs (k / 8) (by omega)
      have hx := hl.get (k / 8)
      have h8 : k / 8 < l.length := by omega
      have hsk : k % 8 = 0 → hold (l.getD (k / 8) 0) on = false → fnd (bitAt l) on e (k + 8) = fnd (bitAt l) on e k := fun h0 hh => fnd_skip fun j hj => by
        have := hold_none _ hx on hh j hj
        unfold bitAt
        rw [show (k + j) / 8 = k / 8 by omega, show (k + j) % 8 = j by omega]
        exact this
      have hb' : BytesAt w (some ⟨b, off, none⟩) l := hb
      obtain ⟨x, hx'⟩ : ∃ x, x = l.getD (k / 8) 0 := ⟨_, rfl⟩
      rw [← hx'] at hc hx hsk
      clear hcs hx' hb
      by_cases h0 : k % 8 = 0
      · cases hh : hold x on
        · have hs := (hsk h0 hh).trans hf
          clear hsk
          go_wp2_with (first | (go_at_call 57; refine (holds_any x hx on _ (hT.drewN q)).mono ?_; rintro e w' ⟨rfl, q1, rfl⟩) | (go_at_call 49; refine (isOn_any _ ca l hl (by omega) k (by omega) _ (hb'.drewN _)).mono ?_; rintro e w' ⟨rfl, rfl⟩))
          go_roundw
          case rel => exact ⟨k + 8, by omega, by go_num, hs, _, rfl⟩
          case measure => simp [intOf]; omega
        · clear hsk
          by_cases hbo : bitAt l k = on
          · have hr := fnd_here hlt hbo
            go_wp2_with (first | (go_at_call 57; refine (holds_any x hx on _ (hT.drewN q)).mono ?_; rintro e w' ⟨rfl, q1, rfl⟩) | (go_at_call 49; refine (isOn_any _ ca l hl (by omega) k (by omega) _ (hb'.drewN _)).mono ?_; rintro e w' ⟨rfl, rfl⟩))
            go_ret
            exact ⟨by rw [← hf, hr]; rfl, _, rfl⟩
          · have hr := (fnd_step (e := e) hbo).trans hf
            have hbo' : (bitAt l k == on) = false := by simpa using hbo
            go_wp2_with (first | (go_at_call 57; refine (holds_any x hx on _ (hT.drewN q)).mono ?_; rintro e w' ⟨rfl, q1, rfl⟩) | (go_at_call 49; refine (isOn_any _ ca l hl (by omega) k (by omega) _ (hb'.drewN _)).mono ?_; rintro e w' ⟨rfl, rfl⟩))
            go_roundw
            case rel => exact ⟨k + 1, by omega, by go_num, hr, _, rfl⟩
            case measure => simp [intOf]; omega
      · clear hsk
        by_cases hbo : bitAt l k = on
        · have hr := fnd_here hlt hbo
          go_wp2_with (first | (go_at_call 57; refine (holds_any x hx on _ (hT.drewN q)).mono ?_; rintro e w' ⟨rfl, q1, rfl⟩) | (go_at_call 49; refine (isOn_any _ ca l hl (by omega) k (by omega) _ (hb'.drewN _)).mono ?_; rintro e w' ⟨rfl, rfl⟩))
          go_ret
          exact ⟨by rw [← hf, hr]; rfl, _, rfl⟩
        · have hr := (fnd_step (e := e) hbo).trans hf
          have hbo' : (bitAt l k == on) = false := by simpa using hbo
          go_wp2_with (first | (go_at_call 57; refine (holds_any x hx on _ (hT.drewN q)).mono ?_; rintro e w' ⟨rfl, q1, rfl⟩) | (go_at_call 49; refine (isOn_any _ ca l hl (by omega) k (by omega) _ (hb'.drewN _)).mono ?_; rintro e w' ⟨rfl, rfl⟩))
          go_roundw
          case rel => exact ⟨k + 1, by omega, by go_num, hr, _, rfl⟩
          case measure => simp [intOf]; omega
    · clear hb hT
      have HF : Hid (e = fnd (bitAt l) on e at_) := by rw [fnd_end (a := k) (by omega)] at hf; exact hf
      clear hf
      go_wp2
      go_ret
      exact ⟨by rw [← HF.out]; rfl, _, rfl⟩

/-! ### Get, Next -/
theorem get_neg (ao : Option Addr) (n ca : Nat) (i : Int) (h : i < 0) (w : World) :
    Calls Tryd.prog 26 #[.slice ao n ca, .int .i64 i] w fun e w' => e = .returned (.tuple #[.bool false, .int .i64 1]) ∧ w = w' := by
  go_enter Tryd.func26, Tryd.ntmps26
  go_wp2_with (go_at_call 44; refine (refused_neg ao n ca i 1 _ (.inl h)).mono ?_; rintro e w' ⟨rfl, rfl⟩)
  go_ret2
  exact ⟨rfl, rfl⟩
theorem get_range (ao : Option Addr) (n ca : Nat) (hn : n ≤ 1152921504606846975) (i : Nat) (hi : i ≤ 9223372036854775807) (h : 8 * n ≤ i) (w : World) :
    Calls Tryd.prog 26 #[.slice ao n ca, .int .i64 i] w fun e w' => e = .returned (.tuple #[.bool false, .int .i64 2]) ∧ w = w' := by
  go_enter Tryd.func26, Tryd.ntmps26
  go_wp2_with (go_at_call 44; refine (refused_range ao n ca hn i 1 hi (by omega) (by omega) _).mono ?_; rintro e w' ⟨rfl, rfl⟩)
  go_ret2
  exact ⟨rfl, rfl⟩
theorem get_ok (ao : Option Addr) (ca : Nat) (l : List Nat) (hl : Bytes l) (hn : l.length ≤ 1152921504606846) (i : Nat) (h : i < 8 * l.length) (w : World) (hb : BytesAt w ao l) :
    Calls Tryd.prog 26 #[.slice ao l.length ca, .int .i64 i] w fun e w' => e = .returned (.tuple #[.bool (bitAt l i), .int .i64 0]) ∧ w = w' := by
  go_enter Tryd.func26, Tryd.ntmps26
  go_wp2_with (first | (go_at_call 44; refine (refused_ok ao l.length ca (by omega) i 1 (by omega) _).mono ?_; rintro e w' ⟨rfl, rfl⟩) | (go_at_call 49; refine (isOn_any _ ca l hl (by omega) i (by omega) _ hb).mono ?_; rintro e w' ⟨rfl, rfl⟩))
  go_ret2
  exact ⟨rfl, rfl⟩
theorem next_neg (ao : Option Addr) (n ca : Nat) (fr m : Int) (on : Bool) (h : fr < 0 ∨ m < 0) (w : World) :
    Calls Tryd.prog 21 #[.slice ao n ca, .int .i64 fr, .int .i64 m, .bool on] w fun e w' => e = .returned (.int .i64 (-1)) ∧ w = w' := by
  go_enter Tryd.func21, Tryd.ntmps21
  go_wp2_with (go_at_call 44; refine (refused_neg ao n ca fr m _ h).mono ?_; rintro e w' ⟨rfl, rfl⟩)
  go_ret
  exact ⟨rfl, rfl⟩
theorem next_range (ao : Option Addr) (n ca : Nat) (hn : n ≤ 1152921504606846975) (fr m : Nat) (on : Bool) (hfr : fr ≤ 9223372036854775807) (hm : m ≤ 9223372036854775807) (h : 8 * n < fr + m) (w : World) :
    Calls Tryd.prog 21 #[.slice ao n ca, .int .i64 fr, .int .i64 m, .bool on] w fun e w' => e = .returned (.int .i64 (-1)) ∧ w = w' := by
  go_enter Tryd.func21, Tryd.ntmps21
  go_wp2_with (go_at_call 44; refine (refused_range ao n ca hn fr m hfr hm h _).mono ?_; rintro e w' ⟨rfl, rfl⟩)
  go_ret
  exact ⟨rfl, rfl⟩
theorem next_ok (ao : Option Addr) (ca : Nat) (l : List Nat) (hl : Bytes l) (hn : l.length ≤ 1152921504606846) (fr m : Nat) (on : Bool) (h : fr + m ≤ 8 * l.length) (w : World) (hT : Tab w) (hb : BytesAt w ao l) :
    Calls Tryd.prog 21 #[.slice ao l.length ca, .int .i64 fr, .int .i64 m, .bool on] w fun e w' => e = .returned (.int .i64 (if fnd (bitAt l) on (fr + m) fr = fr + m then -1 else (fnd (bitAt l) on (fr + m) fr : Int) - fr)) ∧ ∃ q, w' = w.drewN q := by
  have hle := @fnd_le (bitAt l) on (fr + m) fr
  have hge := @fnd_ge (bitAt l) on (fr + m) fr (by omega)
  by_cases hend : fnd (bitAt l) on (fr + m) fr = fr + m
  · rw [if_pos hend]
    have hend' : ((fnd (bitAt l) on (fr + m) fr : Nat) : Int) = (fr : Int) + m := by omega
    go_enter Tryd.func21, Tryd.ntmps21
    go_wp2_with (first | (go_at_call 44; refine (refused_ok ao l.length ca (by omega) fr m (by omega) _).mono ?_; rintro e w' ⟨rfl, rfl⟩) | (go_at_call 48; refine (find_any _ ca l hl (by omega) fr (fr + m) on (by omega) h _ hT hb).mono ?_; rintro e w' ⟨rfl, q, rfl⟩))
    go_ret
    exact ⟨rfl, _, rfl⟩
  · rw [if_neg hend]
    have hend' : ¬ ((fnd (bitAt l) on (fr + m) fr : Nat) : Int) = (fr : Int) + m := by omega
    go_enter Tryd.func21, Tryd.ntmps21
    go_wp2_with (first | (go_at_call 44; refine (refused_ok ao l.length ca (by omega) fr m (by omega) _).mono ?_; rintro e w' ⟨rfl, rfl⟩) | (go_at_call 48; refine (find_any _ ca l hl (by omega) fr (fr + m) on (by omega) h _ hT hb).mono ?_; rintro e w' ⟨rfl, q, rfl⟩))
    go_ret
    exact ⟨rfl, _, rfl⟩
end Go.Proofs.YteppfammimbmcaaDoor.Kit
