import Derived.WalkKit
import Derived.Laws.BitsLemmas
namespace Go.Proofs.YteppfammimbmcaaDoor.Kit
open Go.RowKit

/-! ### bits of bytes -/
def bitAt (l : List Nat) (i : Nat) : Bool := (l.getD (i / 8) 0).testBit (i % 8)
def Bytes (l : List Nat) : Prop := ∀ x ∈ l, x < 256
theorem Bytes.get {l : List Nat} (h : Bytes l) (k : Nat) : l.getD k 0 < 256 := by
  rw [List.getD_eq_getElem?_getD]
  cases e : l[k]? with
  | none => simp
  | some x => simpa using h x (List.mem_of_getElem? e)

theorem bits_and8 (a b : Nat) (ha : a < 256) (hb : b < 256) : bits .and .u8 (a : Int) (b : Int) = ((a &&& b : Nat) : Int) := (bits_nat .u8 8 (by decide) wraps_u8 a b (by simpa using ha) (by simpa using hb)).1
theorem bits_or8 (a b : Nat) (ha : a < 256) (hb : b < 256) : bits .or .u8 (a : Int) (b : Int) = ((a ||| b : Nat) : Int) := (bits_nat .u8 8 (by decide) wraps_u8 a b (by simpa using ha) (by simpa using hb)).2
theorem bits_xor8 (a b : Nat) (ha : a < 256) (hb : b < 256) : bits .xor .u8 (a : Int) (b : Int) = ((a ^^^ b : Nat) : Int) := by
  have ha' : a % 2 ^ IntKind.u8.bits = a := Nat.mod_eq_of_lt ha
  have hb' : b % 2 ^ IntKind.u8.bits = b := Nat.mod_eq_of_lt hb
  simp only [bits, BitVec.ofInt_natCast, BitVec.toNat_xor, BitVec.toNat_ofNat, ha', hb']
  have := Nat.xor_lt_two_pow (n := 8) ha hb
  exact wraps_u8 _ (Int.natCast_nonneg _) (by exact_mod_cast this)

/-- 'b >> k & 1 == 1' -/
theorem on_bit (x k : Nat) (hx : x < 256) : (bits .and .u8 ((x : Int) / 2 ^ k) 1 == 1) = x.testBit k := by
  have e : ((x : Int) / 2 ^ k) = ((x / 2 ^ k : Nat) : Int) := by simp
  have h2 : x / 2 ^ k < 256 := Nat.lt_of_le_of_lt (Nat.div_le_self _ _) hx
  rw [e, show (1 : Int) = ((1 : Nat) : Int) from rfl, bits_and8 _ 1 h2 (by decide), Nat.and_one_is_mod, Nat.testBit_eq_decide_div_mod_eq]
  have : ((x / 2 ^ k % 2 : Nat) : Int) = ((1 : Nat) : Int) ↔ x / 2 ^ k % 2 = 1 := by omega
  by_cases h : x / 2 ^ k % 2 = 1
  · simp [h]
  · have h0 : x / 2 ^ k % 2 = 0 := by omega
    simp [h0]

/-- the table of the halves -/
def cnt (k : Nat) : Nat := [0, 1, 1, 2, 1, 2, 2, 3, 1, 2, 2, 3, 2, 3, 3, 4].getD k 0
def onesOf (c : Nat) : Nat := cnt (c % 16) + cnt (c / 16)
def hold (c : Nat) (on : Bool) : Bool := if on then decide (0 < onesOf c) else decide (onesOf c < 8)
theorem hold_none : ∀ c, c < 256 → ∀ on : Bool, hold c on = false → ∀ k, k < 8 → c.testBit k = !on := by decide +kernel
theorem cnt_le (k : Nat) : cnt k ≤ 4 := by
  by_cases h : k < 16
  · revert k; decide
  · simp [cnt, List.getElem?_eq_none (show [0, 1, 1, 2, 1, 2, 2, 3, 1, 2, 2, 3, 2, 3, 3, 4].length ≤ k from by simp; omega)]

/-! ### the first bit that is so -/
def fnd (f : Nat → Bool) (on : Bool) (e at_ : Nat) : Nat := if at_ < e then (if f at_ = on then at_ else fnd f on e (at_ + 1)) else e
termination_by e - at_
theorem fnd_here {f : Nat → Bool} {on : Bool} {e a : Nat} (h : a < e) (hf : f a = on) : fnd f on e a = a := by rw [fnd, if_pos h, if_pos hf]
theorem fnd_end {f : Nat → Bool} {on : Bool} {e a : Nat} (h : e ≤ a) : fnd f on e a = e := by rw [fnd, if_neg (by omega)]
theorem fnd_step {f : Nat → Bool} {on : Bool} {e a : Nat} (hf : f a ≠ on) : fnd f on e (a + 1) = fnd f on e a := by
  by_cases h : a < e
  · conv => rhs; rw [fnd, if_pos h, if_neg hf]
  · rw [fnd_end (by omega), fnd_end (by omega)]
theorem fnd_skip {f : Nat → Bool} {on : Bool} {e a : Nat} (hf : ∀ k, k < 8 → f (a + k) = !on) : fnd f on e (a + 8) = fnd f on e a := by
  have g : ∀ k, k < 8 → f (a + k) ≠ on := fun k hk => by rw [hf k hk]; cases on <;> decide
  rw [fnd_step (a := a + 7) (g 7 (by decide)), fnd_step (a := a + 6) (g 6 (by decide)), fnd_step (a := a + 5) (g 5 (by decide)), fnd_step (a := a + 4) (g 4 (by decide)), fnd_step (a := a + 3) (g 3 (by decide)), fnd_step (a := a + 2) (g 2 (by decide)), fnd_step (a := a + 1) (g 1 (by decide)), fnd_step (a := a) (g 0 (by decide))]
theorem fnd_le {f : Nat → Bool} {on : Bool} {e a : Nat} : fnd f on e a ≤ e := by
  induction h : e - a generalizing a with
  | zero => rw [fnd_end (by omega)]; exact Nat.le_refl _
  | succ n ih =>
    by_cases hf : f a = on
    · rw [fnd_here (by omega) hf]; omega
    · rw [← fnd_step hf]; exact ih (by omega)
theorem fnd_ge {f : Nat → Bool} {on : Bool} {e a : Nat} (h : a ≤ e) : a ≤ fnd f on e a := by
  induction h' : e - a generalizing a with
  | zero => rw [fnd_end (by omega)]; exact h
  | succ n ih =>
    by_cases hf : f a = on
    · rw [fnd_here (by omega) hf]; exact Nat.le_refl _
    · rw [← fnd_step hf]; have := @ih (a + 1) (by omega) (by omega); omega
theorem fnd_at {f : Nat → Bool} {on : Bool} {e a : Nat} (h : fnd f on e a < e) : f (fnd f on e a) = on := by
  induction h' : e - a generalizing a with
  | zero => rw [fnd_end (by omega)] at h; omega
  | succ n ih =>
    by_cases hf : f a = on
    · rw [fnd_here (by omega) hf]; exact hf
    · rw [← fnd_step hf] at h ⊢; exact ih h (by omega)
theorem fnd_ahead {f : Nat → Bool} {on : Bool} {e a j : Nat} (h1 : a ≤ j) (h2 : j < fnd f on e a) : f j = !on := by
  induction h' : e - a generalizing a with
  | zero => rw [fnd_end (by omega)] at h2; omega
  | succ n ih =>
    by_cases hf : f a = on
    · rw [fnd_here (by omega) hf] at h2; omega
    · by_cases hj : j = a
      · subst hj; cases on <;> simpa using hf
      · rw [← fnd_step hf] at h2; exact ih (by omega) h2 (by omega)

/-! ### bytes out of bits -/
def byteOf (g : Nat → Bool) : Nat := (g 0).toNat + 2 * (g 1).toNat + 4 * (g 2).toNat + 8 * (g 3).toNat + 16 * (g 4).toNat + 32 * (g 5).toNat + 64 * (g 6).toNat + 128 * (g 7).toNat
theorem byteOf_bits : ∀ b0 b1 b2 b3 b4 b5 b6 b7 : Bool, ∀ k, k < 8 → (b0.toNat + 2 * b1.toNat + 4 * b2.toNat + 8 * b3.toNat + 16 * b4.toNat + 32 * b5.toNat + 64 * b6.toNat + 128 * b7.toNat).testBit k = [b0, b1, b2, b3, b4, b5, b6, b7].getD k false := by decide +kernel
theorem byteOf_lt (g : Nat → Bool) : byteOf g < 256 := by
  unfold byteOf
  have h : ∀ b : Bool, b.toNat ≤ 1 := by decide
  have := h (g 0); have := h (g 1); have := h (g 2); have := h (g 3); have := h (g 4); have := h (g 5); have := h (g 6); have := h (g 7)
  omega
theorem testBit_byteOf (g : Nat → Bool) (k : Nat) (hk : k < 8) : (byteOf g).testBit k = g k := by
  unfold byteOf
  rw [byteOf_bits _ _ _ _ _ _ _ _ k hk]
  match k, hk with
  | 0, _ => rfl
  | 1, _ => rfl
  | 2, _ => rfl
  | 3, _ => rfl
  | 4, _ => rfl
  | 5, _ => rfl
  | 6, _ => rfl
  | 7, _ => rfl
theorem byte_ext {x y : Nat} (hx : x < 256) (hy : y < 256) (h : ∀ k, k < 8 → x.testBit k = y.testBit k) : x = y := by
  apply Nat.eq_of_testBit_eq
  intro k
  by_cases hk : k < 8
  · exact h k hk
  · have e : (256 : Nat) ≤ 2 ^ k := Nat.pow_le_pow_right (n := 2) (by decide) (show 8 ≤ k by omega)
    rw [Nat.testBit_lt_two_pow (Nat.lt_of_lt_of_le hx e), Nat.testBit_lt_two_pow (Nat.lt_of_lt_of_le hy e)]
theorem byteOf_ext {x : Nat} {g : Nat → Bool} (hx : x < 256) (h : ∀ k, k < 8 → x.testBit k = g k) : x = byteOf g :=
  byte_ext hx (byteOf_lt g) fun k hk => by rw [h k hk, testBit_byteOf g k hk]
theorem byteOf_congr {g g' : Nat → Bool} (h : ∀ k, k < 8 → g k = g' k) : byteOf g = byteOf g' := by
  unfold byteOf
  rw [h 0 (by decide), h 1 (by decide), h 2 (by decide), h 3 (by decide), h 4 (by decide), h 5 (by decide), h 6 (by decide), h 7 (by decide)]

/-- byte j of a map of the bits f, the first i of which are laid -/
def pb (f : Nat → Bool) (i j : Nat) : Nat := byteOf fun k => decide (8 * j + k < i) && f (8 * j + k)
theorem pb_lt (f : Nat → Bool) (i j : Nat) : pb f i j < 256 := byteOf_lt _
theorem pb_zero (f : Nat → Bool) (j : Nat) : pb f 0 j = 0 := by simp [pb, byteOf]
theorem pb_bit (f : Nat → Bool) (i j k : Nat) (hk : k < 8) : (pb f i j).testBit k = (decide (8 * j + k < i) && f (8 * j + k)) := testBit_byteOf _ k hk
theorem pb_skip {f : Nat → Bool} {i : Nat} (h : f i = false) (j : Nat) : pb f (i + 1) j = pb f i j := byteOf_congr fun k _ => by
  by_cases e : 8 * j + k = i
  · rw [e, h]; simp
  · congr 1; simp; omega
theorem pb_other {f : Nat → Bool} {i j : Nat} (h : j ≠ i / 8) : pb f (i + 1) j = pb f i j := byteOf_congr fun k hk => by
  congr 1; simp; omega
theorem pb_or {f : Nat → Bool} {i : Nat} (h : f i = true) : pb f i (i / 8) ||| 2 ^ (i % 8) = pb f (i + 1) (i / 8) := by
  have hp : 2 ^ (i % 8) < 2 ^ 8 := Nat.pow_lt_pow_right (by decide) (by omega)
  refine byteOf_ext (Nat.or_lt_two_pow (n := 8) (pb_lt f i _) hp) fun k hk => ?_
  rw [Nat.testBit_or, pb_bit _ _ _ _ hk, Nat.testBit_two_pow]
  by_cases e : i % 8 = k
  · have : 8 * (i / 8) + k = i := by omega
    rw [this, h]; simp [e]
  · have : 8 * (i / 8) + k ≠ i := by omega
    simp only [e, decide_false, Bool.or_false]
    congr 1; simp; omega
theorem add_or : ∀ x, x < 256 → ∀ k, k < 8 → x.testBit k = false → x + 2 ^ k = x ||| 2 ^ k := by decide +kernel
theorem pb_add {f : Nat → Bool} {i : Nat} (h : f i = true) : pb f i (i / 8) + 2 ^ (i % 8) = pb f (i + 1) (i / 8) := by
  rw [add_or _ (pb_lt f i _) _ (by omega), pb_or h]
  rw [pb_bit _ _ _ _ (by omega)]
  simp; omega
def need (n : Nat) : Nat := (n + 7) / 8
/-- Make -/
def mk (f : Nat → Bool) (n : Nat) : List Nat := (List.range (need n)).map (pb f n)
theorem mk_length (f : Nat → Bool) (n : Nat) : (mk f n).length = need n := by simp [mk]
theorem mk_congr {f g : Nat → Bool} {n : Nat} (h : ∀ i, i < n → f i = g i) : mk f n = mk g n := by
  unfold mk
  apply List.map_congr_left
  intro j _
  exact byteOf_congr fun k _ => by
    by_cases e : 8 * j + k < n
    · rw [h _ e]
    · simp [e]
theorem mk_bytes (f : Nat → Bool) (n : Nat) : Bytes (mk f n) := by
  intro x hx
  obtain ⟨j, _, rfl⟩ := List.mem_map.1 hx
  exact pb_lt _ _ _
theorem mk_bit (f : Nat → Bool) (n i : Nat) (hi : i < n) : bitAt (mk f n) i = f i := by
  have h8 : i / 8 < need n := by unfold need; omega
  have hb := pb_bit f n (i / 8) (i % 8) (by omega)
  rw [show 8 * (i / 8) + i % 8 = i by omega] at hb
  simp only [bitAt, mk, List.getD_eq_getElem?_getD, List.getElem?_map, List.getElem?_range h8, Option.map_some, Option.getD_some, hb]
  simp [hi]

/-! ### how many, and which -/
def cn (f : Nat → Bool) : Nat → Nat
  | 0 => 0
  | n + 1 => cn f n + (f n).toNat
theorem cn_le (f : Nat → Bool) (n : Nat) : cn f n ≤ n := by
  induction n with
  | zero => exact Nat.le_refl _
  | succ n ih => have : (f n).toNat ≤ 1 := by cases f n <;> decide
                 simp only [cn]; omega
theorem cn_mono (f : Nat → Bool) {a b : Nat} (h : a ≤ b) : cn f a ≤ cn f b := by
  induction b with
  | zero => rw [show a = 0 by omega]; exact Nat.le_refl _
  | succ n ih =>
    by_cases e : a = n + 1
    · rw [e]; exact Nat.le_refl _
    · have := ih (by omega); simp only [cn]; omega
theorem cn_lt (f : Nat → Bool) {a b : Nat} (h : a < b) (hf : f a = true) : cn f a < cn f b := by
  have := cn_mono f (show a + 1 ≤ b from h)
  simp only [cn, hf, Bool.toNat_true] at this
  omega
/-- the place of the k-th 1 (m: none) -/
def pl (f : Nat → Bool) (k m : Nat) : Nat := fnd (fun r => f r && (cn f r == k)) true m 0
theorem fnd_eq {g : Nat → Bool} {m a r : Nat} (ha : a ≤ r) (hr : r < m) (hg : g r = true) (h : ∀ j, a ≤ j → j < r → g j = false) : fnd g true m a = r := by
  have h1 := @fnd_le g true m a
  by_cases hlt : fnd g true m a < r
  · have := fnd_at (f := g) (on := true) (e := m) (a := a) (by omega)
    rw [h _ (fnd_ge (by omega)) hlt] at this
    exact absurd this (by decide)
  · by_cases hgt : r < fnd g true m a
    · have := fnd_ahead (f := g) (on := true) (e := m) ha hgt
      rw [hg] at this
      exact absurd this (by decide)
    · omega
theorem fnd_none {g : Nat → Bool} {m a : Nat} (ha : a ≤ m) (h : ∀ j, a ≤ j → j < m → g j = false) : fnd g true m a = m := by
  have h1 := @fnd_le g true m a
  by_cases hlt : fnd g true m a < m
  · have := fnd_at (f := g) (on := true) (e := m) (a := a) hlt
    rw [h _ (fnd_ge ha) hlt] at this
    exact absurd this (by decide)
  · omega
theorem pl_eq {f : Nat → Bool} {k m r : Nat} (hr : r < m) (hf : f r = true) (hc : cn f r = k) : pl f k m = r :=
  fnd_eq (Nat.zero_le _) hr (by simp [hf, hc]) fun j _ hj => by
    by_cases e : f j = true
    · have := cn_lt f hj e
      simp [e]; omega
    · simp at e; simp [e]
theorem pl_none {f : Nat → Bool} {k m : Nat} (h : cn f m ≤ k) : pl f k m = m :=
  fnd_none (Nat.zero_le _) fun j _ hj => by
    by_cases e : f j = true
    · have := cn_lt f hj e
      simp [e]; omega
    · simp at e; simp [e]
theorem fnd_shift (f : Nat → Bool) (on : Bool) (fr m a : Nat) : fnd f on (fr + m) (fr + a) = fr + fnd (fun k => f (fr + k)) on m a := by
  induction h : m - a generalizing a with
  | zero => rw [fnd_end (by omega), fnd_end (by omega)]
  | succ n ih =>
    by_cases hf : f (fr + a) = on
    · rw [fnd_here (by omega) hf, fnd_here (f := fun k => f (fr + k)) (by omega) hf]
    · rw [← fnd_step hf, ← fnd_step (f := fun k => f (fr + k)) hf, Nat.add_assoc, ih (a + 1) (by omega)]
end Go.Proofs.YteppfammimbmcaaDoor.Kit
