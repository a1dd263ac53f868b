import Derived.Test.YteppfammimbmcaaDoorD
import Derived.Test.YteppfammimbmcaaDoorE
import Derived.Test.YteppfammimbmcaaDoorF
import Derived.Test.YteppfammimbmcaaDoorG
namespace Go.Proofs.YteppfammimbmcaaDoor.Kit
open Go.RowKit Go.Deep

theorem joined_neg (ao bo : Option Addr) (n ca n' cb : Nat) (m : Int) (jf : Value) (h : m < 0) (w : World) :
    Calls Tryd.prog 50 #[.slice ao n ca, .slice bo n' cb, .int .i64 m, jf] w fun e w' => e = .returned (.tuple #[.slice none 0 0, .int .i64 1]) ∧ w = w' := by
  have hi0 := idx0 ao bo n ca n' cb
  go_enter Tryd.func50, Tryd.ntmps50
  go_wp2
  refine wp_loop_rounds 1 ?_
  rw [rounds_succ]
  go_wp2_with (go_at_call 44; refine (refused_neg ao n ca 0 m _ (.inr h)).mono ?_; rintro e w' ⟨rfl, rfl⟩)
  go_ret2
  exact ⟨rfl, rfl⟩
theorem joined_rangeA (ao bo : Option Addr) (n ca n' cb : Nat) (hn : n ≤ 1152921504606846975) (m : Nat) (hm : m ≤ 9223372036854775807) (jf : Value) (h : 8 * n < m) (w : World) :
    Calls Tryd.prog 50 #[.slice ao n ca, .slice bo n' cb, .int .i64 m, jf] w fun e w' => e = .returned (.tuple #[.slice none 0 0, .int .i64 2]) ∧ w = w' := by
  have hi0 := idx0 ao bo n ca n' cb
  go_enter Tryd.func50, Tryd.ntmps50
  go_wp2
  refine wp_loop_rounds 1 ?_
  rw [rounds_succ]
  go_wp2_with (go_at_call 44; refine (refused_range ao n ca hn 0 m (by omega) hm (by omega) _).mono ?_; rintro e w' ⟨rfl, rfl⟩)
  go_ret2
  exact ⟨rfl, rfl⟩
theorem joined_rangeB (ao bo : Option Addr) (n ca n' cb : Nat) (hn : n ≤ 1152921504606846975) (hn' : n' ≤ 1152921504606846975) (m : Nat) (hm : m ≤ 9223372036854775807) (jf : Value) (h : m ≤ 8 * n) (h' : 8 * n' < m) (w : World) :
    Calls Tryd.prog 50 #[.slice ao n ca, .slice bo n' cb, .int .i64 m, jf] w fun e w' => e = .returned (.tuple #[.slice none 0 0, .int .i64 2]) ∧ w = w' := by
  have hi0 := idx0 ao bo n ca n' cb
  have hi1 := idx1 ao bo n ca n' cb
  go_enter Tryd.func50, Tryd.ntmps50
  go_wp2
  refine wp_loop_rounds 2 ?_
  rw [rounds_succ]
  go_wp2_with (go_at_call 44; refine (refused_ok ao n ca hn 0 m (by omega) _).mono ?_; rintro e w' ⟨rfl, rfl⟩)
  rw [rounds_succ]
  go_wp2_with (go_at_call 44; refine (refused_range bo n' cb hn' 0 m (by omega) hm (by omega) _).mono ?_; rintro e w' ⟨rfl, rfl⟩)
  go_ret2
  exact ⟨rfl, rfl⟩
theorem joined_range (ao bo : Option Addr) (n ca n' cb : Nat) (hn : n ≤ 1152921504606846975) (hn' : n' ≤ 1152921504606846975) (m : Nat) (hm : m ≤ 9223372036854775807) (jf : Value) (h : 8 * n < m ∨ 8 * n' < m) (w : World) :
    Calls Tryd.prog 50 #[.slice ao n ca, .slice bo n' cb, .int .i64 m, jf] w fun e w' => e = .returned (.tuple #[.slice none 0 0, .int .i64 2]) ∧ w = w' := by
  by_cases h1 : 8 * n < m
  · exact joined_rangeA ao bo n ca n' cb hn m hm jf h1 w
  · exact joined_rangeB ao bo n ca n' cb hn hn' m hm jf (by omega) (by omega) w

theorem and2_neg (ao bo : Option Addr) (n ca n' cb : Nat) (m : Int) (h : m < 0) (w : World) :
    Calls Tryd.prog 27 #[.slice ao n ca, .slice bo n' cb, .int .i64 m] w fun e w' => e = .returned (.tuple #[.slice none 0 0, .int .i64 1]) ∧ w = w' := by
  go_enter Tryd.func27, Tryd.ntmps27
  go_wp2_with (go_at_call 50; refine (joined_neg ao bo n ca n' cb m _ h _).mono ?_; rintro e w' ⟨rfl, rfl⟩)
  go_ret2
  exact ⟨rfl, rfl⟩
theorem and2_range (ao bo : Option Addr) (n ca n' cb : Nat) (hn : n ≤ 1152921504606846975) (hn' : n' ≤ 1152921504606846975) (m : Nat) (hm : m ≤ 9223372036854775807) (h : 8 * n < m ∨ 8 * n' < m) (w : World) :
    Calls Tryd.prog 27 #[.slice ao n ca, .slice bo n' cb, .int .i64 m] w fun e w' => e = .returned (.tuple #[.slice none 0 0, .int .i64 2]) ∧ w = w' := by
  go_enter Tryd.func27, Tryd.ntmps27
  go_wp2_with (go_at_call 50; refine (joined_range ao bo n ca n' cb hn hn' m hm _ h _).mono ?_; rintro e w' ⟨rfl, rfl⟩)
  go_ret2
  exact ⟨rfl, rfl⟩
theorem and2_ok (ao bo : Option Addr) (ca cb : Nat) (l r : List Nat) (hl : Bytes l) (hr : Bytes r) (hn : l.length ≤ 10000000) (hn' : r.length ≤ 10000000) (m : Nat) (h : m ≤ 8 * l.length) (h' : m ≤ 8 * r.length) (w : World) (ha : BytesAt w ao l) (hb : BytesAt w bo r) :
    Calls Tryd.prog 27 #[.slice ao l.length ca, .slice bo r.length cb, .int .i64 m] w fun e w' => ∃ v, e = .returned (.tuple #[v, .int .i64 0]) ∧ New w w' 5 v ((mk (fun k => bitAt l k && bitAt r k) m).map fun x : Nat => .int .u8 x) := by
  go_enter Tryd.func27, Tryd.ntmps27
  go_wp2_with fail
  go_at_call 50
  refine (joined_and ao bo ca cb l r hl hr hn hn' m h h' _ ha hb).mono ?_
  rintro e w1 ⟨v, rfl, hN⟩
  have HN : Hid (New w w1 5 v ((mk (fun k => bitAt l k && bitAt r k) m).map fun x : Nat => .int .u8 x)) := hN
  clear hN ha hb
  go_wp2
  go_ret2
  exact ⟨_, rfl, HN.out⟩

theorem or2_neg (ao bo : Option Addr) (n ca n' cb : Nat) (m : Int) (h : m < 0) (w : World) :
    Calls Tryd.prog 28 #[.slice ao n ca, .slice bo n' cb, .int .i64 m] w fun e w' => e = .returned (.tuple #[.slice none 0 0, .int .i64 1]) ∧ w = w' := by
  go_enter Tryd.func28, Tryd.ntmps28
  go_wp2_with (go_at_call 50; refine (joined_neg ao bo n ca n' cb m _ h _).mono ?_; rintro e w' ⟨rfl, rfl⟩)
  go_ret2
  exact ⟨rfl, rfl⟩
theorem or2_range (ao bo : Option Addr) (n ca n' cb : Nat) (hn : n ≤ 1152921504606846975) (hn' : n' ≤ 1152921504606846975) (m : Nat) (hm : m ≤ 9223372036854775807) (h : 8 * n < m ∨ 8 * n' < m) (w : World) :
    Calls Tryd.prog 28 #[.slice ao n ca, .slice bo n' cb, .int .i64 m] w fun e w' => e = .returned (.tuple #[.slice none 0 0, .int .i64 2]) ∧ w = w' := by
  go_enter Tryd.func28, Tryd.ntmps28
  go_wp2_with (go_at_call 50; refine (joined_range ao bo n ca n' cb hn hn' m hm _ h _).mono ?_; rintro e w' ⟨rfl, rfl⟩)
  go_ret2
  exact ⟨rfl, rfl⟩
theorem or2_ok (ao bo : Option Addr) (ca cb : Nat) (l r : List Nat) (hl : Bytes l) (hr : Bytes r) (hn : l.length ≤ 10000000) (hn' : r.length ≤ 10000000) (m : Nat) (h : m ≤ 8 * l.length) (h' : m ≤ 8 * r.length) (w : World) (ha : BytesAt w ao l) (hb : BytesAt w bo r) :
    Calls Tryd.prog 28 #[.slice ao l.length ca, .slice bo r.length cb, .int .i64 m] w fun e w' => ∃ v, e = .returned (.tuple #[v, .int .i64 0]) ∧ New w w' 5 v ((mk (fun k => bitAt l k || bitAt r k) m).map fun x : Nat => .int .u8 x) := by
  go_enter Tryd.func28, Tryd.ntmps28
  go_wp2_with fail
  go_at_call 50
  refine (joined_or ao bo ca cb l r hl hr hn hn' m h h' _ ha hb).mono ?_
  rintro e w1 ⟨v, rfl, hN⟩
  have HN : Hid (New w w1 5 v ((mk (fun k => bitAt l k || bitAt r k) m).map fun x : Nat => .int .u8 x)) := hN
  clear hN ha hb
  go_wp2
  go_ret2
  exact ⟨_, rfl, HN.out⟩

theorem xor2_neg (ao bo : Option Addr) (n ca n' cb : Nat) (m : Int) (h : m < 0) (w : World) :
    Calls Tryd.prog 29 #[.slice ao n ca, .slice bo n' cb, .int .i64 m] w fun e w' => e = .returned (.tuple #[.slice none 0 0, .int .i64 1]) ∧ w = w' := by
  go_enter Tryd.func29, Tryd.ntmps29
  go_wp2_with (go_at_call 50; refine (joined_neg ao bo n ca n' cb m _ h _).mono ?_; rintro e w' ⟨rfl, rfl⟩)
  go_ret2
  exact ⟨rfl, rfl⟩
theorem xor2_range (ao bo : Option Addr) (n ca n' cb : Nat) (hn : n ≤ 1152921504606846975) (hn' : n' ≤ 1152921504606846975) (m : Nat) (hm : m ≤ 9223372036854775807) (h : 8 * n < m ∨ 8 * n' < m) (w : World) :
    Calls Tryd.prog 29 #[.slice ao n ca, .slice bo n' cb, .int .i64 m] w fun e w' => e = .returned (.tuple #[.slice none 0 0, .int .i64 2]) ∧ w = w' := by
  go_enter Tryd.func29, Tryd.ntmps29
  go_wp2_with (go_at_call 50; refine (joined_range ao bo n ca n' cb hn hn' m hm _ h _).mono ?_; rintro e w' ⟨rfl, rfl⟩)
  go_ret2
  exact ⟨rfl, rfl⟩
theorem xor2_ok (ao bo : Option Addr) (ca cb : Nat) (l r : List Nat) (hl : Bytes l) (hr : Bytes r) (hn : l.length ≤ 10000000) (hn' : r.length ≤ 10000000) (m : Nat) (h : m ≤ 8 * l.length) (h' : m ≤ 8 * r.length) (w : World) (ha : BytesAt w ao l) (hb : BytesAt w bo r) :
    Calls Tryd.prog 29 #[.slice ao l.length ca, .slice bo r.length cb, .int .i64 m] w fun e w' => ∃ v, e = .returned (.tuple #[v, .int .i64 0]) ∧ New w w' 5 v ((mk (fun k => bitAt l k ^^ bitAt r k) m).map fun x : Nat => .int .u8 x) := by
  go_enter Tryd.func29, Tryd.ntmps29
  go_wp2_with fail
  go_at_call 50
  refine (joined_xor ao bo ca cb l r hl hr hn hn' m h h' _ ha hb).mono ?_
  rintro e w1 ⟨v, rfl, hN⟩
  have HN : Hid (New w w1 5 v ((mk (fun k => bitAt l k ^^ bitAt r k) m).map fun x : Nat => .int .u8 x)) := hN
  clear hN ha hb
  go_wp2
  go_ret2
  exact ⟨_, rfl, HN.out⟩

theorem not2_neg (ao : Option Addr) (n ca : Nat) (m : Int) (h : m < 0) (w : World) :
    Calls Tryd.prog 30 #[.slice ao n ca, .int .i64 m] w fun e w' => e = .returned (.tuple #[.slice none 0 0, .int .i64 1]) ∧ w = w' := by
  go_enter Tryd.func30, Tryd.ntmps30
  go_wp2_with (go_at_call 50; refine (joined_neg ao ao n ca n ca m _ h _).mono ?_; rintro e w' ⟨rfl, rfl⟩)
  go_ret2
  exact ⟨rfl, rfl⟩
theorem not2_range (ao : Option Addr) (n ca : Nat) (hn : n ≤ 1152921504606846975) (m : Nat) (hm : m ≤ 9223372036854775807) (h : 8 * n < m) (w : World) :
    Calls Tryd.prog 30 #[.slice ao n ca, .int .i64 m] w fun e w' => e = .returned (.tuple #[.slice none 0 0, .int .i64 2]) ∧ w = w' := by
  go_enter Tryd.func30, Tryd.ntmps30
  go_wp2_with (go_at_call 50; refine (joined_range ao ao n ca n ca hn hn m hm _ (.inl h) _).mono ?_; rintro e w' ⟨rfl, rfl⟩)
  go_ret2
  exact ⟨rfl, rfl⟩
theorem not2_ok (ao : Option Addr) (ca : Nat) (l : List Nat) (hl : Bytes l) (hn : l.length ≤ 10000000) (m : Nat) (h : m ≤ 8 * l.length) (w : World) (ha : BytesAt w ao l) :
    Calls Tryd.prog 30 #[.slice ao l.length ca, .int .i64 m] w fun e w' => ∃ v, e = .returned (.tuple #[v, .int .i64 0]) ∧ New w w' 5 v ((mk (fun k => !bitAt l k) m).map fun x : Nat => .int .u8 x) := by
  go_enter Tryd.func30, Tryd.ntmps30
  go_wp2_with fail
  go_at_call 50
  refine (joined_not ao ao ca ca l l hl hl hn hn m h h _ ha ha).mono ?_
  rintro e w1 ⟨v, rfl, hN⟩
  have HN : Hid (New w w1 5 v ((mk (fun k => !bitAt l k) m).map fun x : Nat => .int .u8 x)) := hN
  clear hN ha
  go_wp2
  go_ret2
  exact ⟨_, rfl, HN.out⟩
end Go.Proofs.YteppfammimbmcaaDoor.Kit
