import Derived.Test.YteppfammimbmcaaDoorB
namespace Go.Proofs.YteppfammimbmcaaDoor.Kit
open Go.RowKit Go.Deep

theorem cut_neg (ao : Option Addr) (n ca : Nat) (fr m : Int) (h : fr < 0 ∨ m < 0) (w : World) :
    Calls Tryd.prog 20 #[.slice ao n ca, .int .i64 fr, .int .i64 m] w fun e w' => e = .returned (.tuple #[.slice none 0 0, .int .i64 1]) ∧ w = w' := by
  go_enter Tryd.func20, Tryd.ntmps20
  go_wp2_with (go_at_call 18; refine (list_neg ao n ca fr m h _).mono ?_; rintro e w' ⟨rfl, rfl⟩)
  go_ret2
  exact ⟨rfl, rfl⟩
theorem cut_range (ao : Option Addr) (n ca : Nat) (hn : n ≤ 1152921504606846975) (fr m : Nat) (hfr : fr ≤ 9223372036854775807) (hm : m ≤ 9223372036854775807) (h : 8 * n < fr + m) (w : World) :
    Calls Tryd.prog 20 #[.slice ao n ca, .int .i64 fr, .int .i64 m] w fun e w' => e = .returned (.tuple #[.slice none 0 0, .int .i64 2]) ∧ w = w' := by
  go_enter Tryd.func20, Tryd.ntmps20
  go_wp2_with (go_at_call 18; refine (list_range ao n ca hn fr m hfr hm h _).mono ?_; rintro e w' ⟨rfl, rfl⟩)
  go_ret2
  exact ⟨rfl, rfl⟩
theorem bools_length (f : Nat → Bool) (fr n : Nat) : (bools f fr n).length = n := by simp [bools]
theorem New.bools {w w' : World} {v : Value} {f : Nat → Bool} {fr n : Nat} (h : New w w' 4 v (bools f fr n)) : ∃ ao cap, v = .slice ao n cap ∧ BoolsAt w' ao n (fun k => f (fr + k)) := by
  have h1 := h.1
  rw [bools_length] at h1
  rcases h1.2 with ⟨rfl, h0⟩ | ⟨g, cap, cur, rfl, hr⟩
  · exact ⟨none, 0, by rw [h0], fun hn => by omega⟩
  · refine ⟨_, cap, rfl, fun hn => ⟨g, 0, rfl, fun k hk => ?_⟩⟩
    rw [Nat.zero_add, h1.cellAt k (by omega)]
    simp [Kit.bools, hk]
theorem New.from {w w1 w' : World} {t : Nat} {v : Value} {xs : List Value} (k : Keeps w w1 (fun _ => False)) (h : New w1 w' t v xs) : New w w' t v xs :=
  ⟨h.1, fun g hg => Nat.le_trans k.size (h.2.1 g hg), k.trans h.2.2 fun _ _ h => h⟩
theorem cut_ok (ao : Option Addr) (ca : Nat) (l : List Nat) (hl : Bytes l) (hn : l.length ≤ 10000000) (fr m : Nat) (h : fr + m ≤ 8 * l.length) (w : World) (hb : BytesAt w ao l) :
    Calls Tryd.prog 20 #[.slice ao l.length ca, .int .i64 fr, .int .i64 m] w fun e w' => ∃ v, e = .returned (.tuple #[v, .int .i64 0]) ∧ New w w' 5 v ((mk (fun k => bitAt l (fr + k)) m).map fun x : Nat => .int .u8 x) := by
  go_enter Tryd.func20, Tryd.ntmps20
  go_wp2_with fail
  go_at_call 18
  refine (list_ok ao ca l hl hn fr m h _ hb).mono ?_
  rintro e w1 ⟨v, rfl, hN⟩
  have HK : Hid (Keeps w w1 (fun _ => False)) := hN.2.2
  obtain ⟨ao1, cap1, rfl, hb1⟩ := hN.bools
  clear hN hb
  go_wp2_with fail
  go_at_call 24
  refine (make_any ao1 m cap1 _ (by omega) _ hb1).mono ?_
  rintro e w2 ⟨v, rfl, hN⟩
  have HN : Hid (New w w2 5 v ((mk (fun k => bitAt l (fr + k)) m).map fun x : Nat => .int .u8 x)) := New.from HK.out hN
  clear hN HK hb1
  go_wp2
  go_ret2
  exact ⟨_, rfl, HN.out⟩

theorem and_any (x y : Nat) (hx : x < 256) (hy : y < 256) (w : World) : Calls Tryd.prog 51 #[.int .u8 x, .int .u8 y] w fun e w' => e = .returned (.int .u8 (x &&& y : Nat)) ∧ w = w' := by
  have e := bits_and8 x y hx hy
  go_enter Tryd.func51, Tryd.ntmps51
  go_wp2
  go_ret
  exact ⟨by simp, rfl⟩
theorem or_any (x y : Nat) (hx : x < 256) (hy : y < 256) (w : World) : Calls Tryd.prog 52 #[.int .u8 x, .int .u8 y] w fun e w' => e = .returned (.int .u8 (x ||| y : Nat)) ∧ w = w' := by
  have e := bits_or8 x y hx hy
  go_enter Tryd.func52, Tryd.ntmps52
  go_wp2
  go_ret
  exact ⟨by simp, rfl⟩
theorem xor_any (x y : Nat) (hx : x < 256) (hy : y < 256) (w : World) : Calls Tryd.prog 53 #[.int .u8 x, .int .u8 y] w fun e w' => e = .returned (.int .u8 (x ^^^ y : Nat)) ∧ w = w' := by
  have e := bits_xor8 x y hx hy
  go_enter Tryd.func53, Tryd.ntmps53
  go_wp2
  go_ret
  exact ⟨by simp, rfl⟩
theorem not8 : ∀ x : Nat, x < 256 → bits .xor .u8 IntKind.u8.max (x : Int) = ((255 - x : Nat) : Int) := by decide +kernel
theorem not_bit : ∀ x : Nat, x < 256 → ∀ k, k < 8 → (255 - x).testBit k = !x.testBit k := by decide +kernel
theorem idx0 (ao bo : Option Addr) (n ca m cb : Nat) (w : World) : (Instr.index 77 (.agg #[.slice ao n ca, .slice bo m cb]) (.int .i64 0)).run Tryd.prog w = .ok (.slice ao n ca) w := by kernel_rfl
theorem idx1 (ao bo : Option Addr) (n ca m cb : Nat) (w : World) : (Instr.index 77 (.agg #[.slice ao n ca, .slice bo m cb]) (.int .i64 1)).run Tryd.prog w = .ok (.slice bo m cb) w := by kernel_rfl
theorem not_any (x y : Nat) (hx : x < 256) (w : World) : Calls Tryd.prog 54 #[.int .u8 x, .int .u8 y] w fun e w' => e = .returned (.int .u8 (255 - x : Nat)) ∧ w = w' := by
  have e := not8 x hx
  have h0 : ¬ IntKind.u8.signed = true := by decide
  go_enter Tryd.func54, Tryd.ntmps54
  go_wp2
  go_ret
  exact ⟨by simp, rfl⟩

theorem jn_full {J : Nat → Nat → Nat} {op : Bool → Bool → Bool} (hJ : ∀ x y, x < 256 → y < 256 → J x y < 256 ∧ ∀ k, k < 8 → (J x y).testBit k = op (x.testBit k) (y.testBit k)) {l r : List Nat} (hl : Bytes l) (hr : Bytes r) {m j : Nat} (h : 8 * j + 8 ≤ m) :
    J (l.getD j 0) (r.getD j 0) = pb (fun k => op (bitAt l k) (bitAt r k)) m j := by
  have hb := hJ _ _ (hl.get j) (hr.get j)
  refine byteOf_ext hb.1 fun k hk => ?_
  rw [hb.2 k hk]
  simp only [bitAt]
  rw [show (8 * j + k) / 8 = j by omega, show (8 * j + k) % 8 = k by omega, decide_eq_true (show 8 * j + k < m by omega), Bool.true_and]
theorem jn_last {J : Nat → Nat → Nat} {op : Bool → Bool → Bool} (hJ : ∀ x y, x < 256 → y < 256 → J x y < 256 ∧ ∀ k, k < 8 → (J x y).testBit k = op (x.testBit k) (y.testBit k)) {l r : List Nat} (hl : Bytes l) (hr : Bytes r) {m : Nat} :
    J (l.getD (m / 8) 0) (r.getD (m / 8) 0) &&& (2 ^ (m % 8) - 1) = pb (fun k => op (bitAt l k) (bitAt r k)) m (m / 8) := by
  have hb := hJ _ _ (hl.get (m / 8)) (hr.get (m / 8))
  refine byteOf_ext (Nat.lt_of_le_of_lt Nat.and_le_left hb.1) fun k hk => ?_
  rw [Nat.testBit_and, hb.2 k hk, Nat.testBit_two_pow_sub_one]
  simp only [bitAt]
  rw [show (8 * (m / 8) + k) / 8 = m / 8 by omega, show (8 * (m / 8) + k) % 8 = k by omega, Bool.and_comm]
  congr 1
  simp; omega
theorem and8 (x k : Nat) (hx : x < 256) (hk : k < 8) : bits .and .u8 (x : Int) ((2 ^ k - 1) % 256) = ((x &&& (2 ^ k - 1) : Nat) : Int) := by
  have hp : 2 ^ k < 2 ^ 8 := Nat.pow_lt_pow_right (by decide) hk
  have hp0 : 0 < 2 ^ k := Nat.pow_pos (by decide)
  have e : (((2 : Int) ^ k - 1) % 256) = ((2 ^ k - 1 : Nat) : Int) := by
    have h1 : ((2 : Int) ^ k) = ((2 ^ k : Nat) : Int) := by simp
    rw [h1]
    generalize 2 ^ k = z at *
    omega
  rw [e, bits_and8 x (2 ^ k - 1) hx (by omega)]
end Go.Proofs.YteppfammimbmcaaDoor.Kit
