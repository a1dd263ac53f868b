import Derived.Test.YteggcdhibcjneaaGreatDoorIkInkB
import Derived.Test.YteggcdhibcjneaaGreatDoorKit
import Derived.WalkKit
import Derived.Laws.BitsLemmas
import Derived.Test.YteggcdhibcjneaaGreatDoorProg
set_option maxRecDepth 100000
set_option maxHeartbeats 4000000
namespace Go.Proofs.YteggcdhibcjneaaGreatDoor.Ink
open Go.Proofs.YteggcdhibcjneaaGreatDoor.Kit
open Go.RowKit Go.Deep
/-- a row of cells that is the call's own -/
def OwnRow (w : World) (g : Nat) (t : TypeId) (L : List Value) : Prop := w.heap[g]? = some (.cells L.toArray t (0, 0))
theorem OwnRow.cell {w : World} {g t j : Nat} {L : List Value} {v : Value} (h : OwnRow w g t L) (hj : L[j]? = some v) : w.cell? ⟨g, j, none⟩ = some v := by
  rw [cell_of_row w g j _ t (0, 0) h]; simpa using hj
theorem OwnRow.frozen {w : World} {g t : Nat} {L : List Value} (h : OwnRow w g t L) (j : Nat) : w.frozen? ⟨g, j, none⟩ = false := frozen_of_row w g j _ t h
theorem OwnRow.set {w : World} {g t : Nat} {L : List Value} (h : OwnRow w g t L) (j : Nat) (v : Value) : OwnRow (w.setCell ⟨g, j, none⟩ v) g t (L.set j v) := by
  have := heap_setCell_same w g j _ t v h
  unfold OwnRow; rw [this]; simp
theorem OwnRow.lt {w : World} {g t : Nat} {L : List Value} (h : OwnRow w g t L) : g < w.heap.size := by
  unfold OwnRow at h; exact (Array.getElem?_eq_some_iff.1 h).1
theorem OwnRow.kept {w w' : World} {g t : Nat} {S : Nat → Prop} {L : List Value} (h : OwnRow w g t L) (hk : Keeps w w' S) (hS : ¬ S g) : OwnRow w' g t L := by
  unfold OwnRow; rw [hk.block g h.lt hS]; exact h

theorem splice_all {α : Type} (L cs : List α) (h : cs.length = L.length) : splice L 0 cs = cs := by
  simp [splice, ← h]

theorem ret_ptr {a b : Option Addr} (h : a = b) : Ending.returned (.pointer a) = .returned (.pointer b) := by rw [h]

def clamp (most : Int) : Int := if most < 0 then 0 else if 16777216 < most then 16777216 else most
theorem clamp_bd (most : Int) : 0 ≤ clamp most ∧ clamp most ≤ 16777216 := by unfold clamp; split <;> (try split) <;> omega

theorem newInk_any (most : Int) (w : World) :
    Calls Tryz.prog 301 #[.int .i64 most] w fun e w' => e = .returned (.pointer (some ⟨w.heap.size, 0, none⟩)) ∧ w' = w.alloc (.cells #[.slice none 0 0, .int .i64 (clamp most)] 416) := by
  by_cases h1 : most < 0
  · have e : Hid (clamp most = 0) := by show _ = _; simp [clamp, h1]
    go_enter Tryz.func301, Tryz.ntmps301
    go_wp2
    all_goals (go_ret; first | omega | exact ⟨rfl, by rw [e.out]⟩)
  · by_cases h2 : 16777216 < most
    · have e : Hid (clamp most = 16777216) := by show _ = _; simp [clamp, h1, h2]
      go_enter Tryz.func301, Tryz.ntmps301
      go_wp2
      all_goals (go_ret; first | omega | exact ⟨rfl, by rw [e.out]⟩)
    · have e : Hid (clamp most = most) := by show _ = _; simp [clamp, h1, h2]
      go_enter Tryz.func301, Tryz.ntmps301
      go_wp2
      all_goals (go_ret; first | omega | exact ⟨rfl, by rw [e.out]⟩)

/-- a new ink -/
theorem InkAt.new (w : World) (ty : Nat) (most : Int) : InkAt (w.alloc (.cells #[.slice none 0 0, .int .i64 most] ty)) ty w.heap.size none most [] :=
  ⟨.slice none 0 0, heap_alloc_new w _, World.ownsRow_nil _ _ _ _, rfl⟩

theorem bytes_any (p : Nat) (go : Option Nat) (most : Int) (bs : List Int) (w : World) (hI : InkAt w 416 p go most bs) (hbs : bs.length ≤ 16777216) :
    Calls Tryz.prog 303 #[.pointer (some ⟨p, 0, none⟩)] w fun e w' => e = .returned (.slice (some ⟨w.heap.size, 0, none⟩) bs.length bs.length) ∧ OwnRow w' w.heap.size 5 (bs.map (Value.int .u8)) ∧ Below w.heap.size w w' := by
  obtain ⟨ao, cap, HF, h0, h1, hf⟩ := hI.open
  have HL : Hid (p < w.heap.size) := hI.lt.1
  have h0a : ∀ o, (w.alloc o).cell? ⟨p, 0, none⟩ = some (.slice ao bs.length cap) := fun o => (((Keeps.refl w (fun _ => False)).alloc o).cell hI.lt.1 id).trans h0
  clear hI
  have hmk := run_make_row' (P := Tryz.prog) 43 5 (.int .u8 0) 1 Tryz.underlying43 info5 rfl .i64 .i64 bs.length (by omega) (by omega)
  obtain ⟨cs, hcs⟩ : ∃ cs : List Value, cs = bs.map (Value.int .u8) := ⟨_, rfl⟩
  have HC : Hid (cs = bs.map (Value.int .u8)) := hcs
  clear hcs
  obtain ⟨cur, hcur⟩ : ∃ cur : List Value, cur = (madeCells #[.int .u8 0] bs.length).toList := ⟨_, rfl⟩
  have HCur : Hid (cur = (madeCells #[.int .u8 0] bs.length).toList) := hcur
  clear hcur
  go_enter Tryz.func303, Tryz.ntmps303
  go_wp2_with (with_reducible show wpList Tryz.prog _ _ (Oper.mk (some 15) _ _ _ _ _ :: _) _ _; refine wpList_copy_splice rfl (.tmp 10) (.tmp 14) 43 43 rfl 5 Tryz.underlying43 size5 _ _ _ _ _ _ rfl rfl w.heap.size 0 cur 5 ?hg cs ?hn ?hpos ?hfit ?h1 w.heap.size w ?hb (Nat.le_refl _) ?_)
  case hg => rw [HCur.out]; simpa using heap_alloc_new w _
  case hn => rw [HC.out]; simp
  case hpos =>
    intro hp
    have hown := HF.out.2.1
    rw [HC.out]
    rcases hown.2 with ⟨h, h'⟩ | ⟨g, cap', cur', h, _⟩
    · rw [HC.out] at hp; simp [h'] at hp
    · simp only [Value.slice.injEq] at h
      refine ⟨⟨g, 0, none⟩, h.1, fun j v hj => ?_⟩
      have hc := hown.cells (g := g) (by simp [Value.ownBlock, h.1]) j v hj
      exact ((Keeps.refl w (fun _ => False)).alloc _).cell' hc id
  case hfit => rw [HC.out, HCur.out]; simp [size_madeCells]
  case h1 =>
    intro v hv
    rw [HC.out] at hv
    obtain ⟨z, _, rfl⟩ := List.mem_map.1 hv
    rfl
  case hb => exact (Below.refl _ _).alloc (Nat.le_refl _) _
  intro w1 HG1 hB1
  have HO : Hid (OwnRow w1 w.heap.size 5 (bs.map (Value.int .u8))) := by
    have := HG1.out
    rw [splice_all _ _ (by rw [HC.out, HCur.out]; simp [size_madeCells]), HC.out] at this
    exact this
  clear HG1
  go_wp2
  go_ret
  exact ⟨rfl, HO.out, hB1⟩

/-! ### what each call answers, as a function -/
def numR (most : Int) (bs : List Int) (x width : Int) : Int × List Int := if wideB width = false then (1, bs) else if most < (bs.length : Int) + width then (4, bs) else (0, bs ++ leB x width.toNat)
def textR (most : Int) (bs : List Int) (s : ByteArray) : Int × List Int := if most < (bs.length : Int) + s.size then (4, bs) else (0, bs ++ bytesOf s)
def fillR (most : Int) (bs : List Int) (n b : Int) : Int × List Int := if n < 0 then (1, bs) else if most < (bs.length : Int) + n then (4, bs) else (0, bs ++ List.replicate n.toNat b)
def padR (most : Int) (bs : List Int) (to : Int) : Int × List Int := if to < 1 ∨ 64 < to then (1, bs) else fillR most bs (-((bs.length : Int) % to) % to) 0

theorem InkDone.refl {w : World} {ty p : Nat} {go : Option Nat} {most : Int} {bs : List Int} (h : InkAt w ty p go most bs) : InkDone w w ty p go most bs := ⟨go, h, Keeps.refl _ _, .inl rfl⟩

/-- the bound holds -/
def InkOk (most : Int) (bs : List Int) : Prop := 0 ≤ most ∧ most ≤ 16777216 ∧ (bs.length : Int) ≤ most

theorem number_all (p : Nat) (go : Option Nat) (most : Int) (bs : List Int) (x width : Int) (w : World) (hI : InkAt w 416 p go most bs) (hok : InkOk most bs) :
    Calls Tryz.prog 302 #[.pointer (some ⟨p, 0, none⟩), .int .u64 x, .int .i64 width] w fun e w' => e = .returned (.int .i64 (numR most bs x width).1) ∧ InkDone w w' 416 p go most (numR most bs x width).2 := by
  obtain ⟨h1, h2, h3⟩ := hok
  unfold numR
  split
  · rename_i h
    refine (number_arg p x width w h).mono ?_
    rintro e w' ⟨rfl, rfl⟩
    exact ⟨rfl, InkDone.refl hI⟩
  · rename_i h
    have h : wideB width = true := by simpa using h
    have hw := (wideB_iff width).1 h
    split
    · exact number_no p go most bs x width w hI h1 h2 (by omega) (by omega) h
    · obtain ⟨k, rfl⟩ : ∃ k : Nat, width = k := ⟨width.toNat, by omega⟩
      exact number_yes p go most bs x k w hI h1 h2 (by omega) (by omega) h

end Go.Proofs.YteggcdhibcjneaaGreatDoor.Ink
namespace Go.Proofs.YteggcdhibcjneaaGreatDoor.Bits
open Go.Proofs.YteggcdhibcjneaaGreatDoor.Kit
open Go.RowKit
/-! ### bits of bytes -/
def bitAt (l : List Nat) (i : Nat) : Bool := (l.getD (i / 8) 0).testBit (i % 8)
def Bytes (l : List Nat) : Prop := ∀ x ∈ l, x < 256
theorem Bytes.get {l : List Nat} (h : Bytes l) (k : Nat) : l.getD k 0 < 256 := by
  rw [List.getD_eq_getElem?_getD]
  cases e : l[k]? with
  | none => simp
  | some x => simpa using h x (List.mem_of_getElem? e)

theorem bits_and8 (a b : Nat) (ha : a < 256) (hb : b < 256) : bits .and .u8 (a : Int) (b : Int) = ((a &&& b : Nat) : Int) := (bits_nat .u8 8 (by decide) wraps_u8 a b (by simpa using ha) (by simpa using hb)).1
theorem bits_or8 (a b : Nat) (ha : a < 256) (hb : b < 256) : bits .or .u8 (a : Int) (b : Int) = ((a ||| b : Nat) : Int) := (bits_nat .u8 8 (by decide) wraps_u8 a b (by simpa using ha) (by simpa using hb)).2
theorem bits_xor8 (a b : Nat) (ha : a < 256) (hb : b < 256) : bits .xor .u8 (a : Int) (b : Int) = ((a ^^^ b : Nat) : Int) := by
  have ha' : a % 2 ^ IntKind.u8.bits = a := Nat.mod_eq_of_lt ha
  have hb' : b % 2 ^ IntKind.u8.bits = b := Nat.mod_eq_of_lt hb
  simp only [bits, BitVec.ofInt_natCast, BitVec.toNat_xor, BitVec.toNat_ofNat, ha', hb']
  have := Nat.xor_lt_two_pow (n := 8) ha hb
  exact wraps_u8 _ (Int.natCast_nonneg _) (by exact_mod_cast this)

/-- 'b >> k & 1 == 1' -/
theorem on_bit (x k : Nat) (hx : x < 256) : (bits .and .u8 ((x : Int) / 2 ^ k) 1 == 1) = x.testBit k := by
  have e : ((x : Int) / 2 ^ k) = ((x / 2 ^ k : Nat) : Int) := by simp
  have h2 : x / 2 ^ k < 256 := Nat.lt_of_le_of_lt (Nat.div_le_self _ _) hx
  rw [e, show (1 : Int) = ((1 : Nat) : Int) from rfl, bits_and8 _ 1 h2 (by decide), Nat.and_one_is_mod, Nat.testBit_eq_decide_div_mod_eq]
  have : ((x / 2 ^ k % 2 : Nat) : Int) = ((1 : Nat) : Int) ↔ x / 2 ^ k % 2 = 1 := by omega
  by_cases h : x / 2 ^ k % 2 = 1
  · simp [h]
  · have h0 : x / 2 ^ k % 2 = 0 := by omega
    simp [h0]

/-- the table of the halves -/
def cnt (k : Nat) : Nat := [0, 1, 1, 2, 1, 2, 2, 3, 1, 2, 2, 3, 2, 3, 3, 4].getD k 0
def onesOf (c : Nat) : Nat := cnt (c % 16) + cnt (c / 16)
def hold (c : Nat) (on : Bool) : Bool := if on then decide (0 < onesOf c) else decide (onesOf c < 8)
theorem hold_none : ∀ c, c < 256 → ∀ on : Bool, hold c on = false → ∀ k, k < 8 → c.testBit k = !on := by decide +kernel
theorem cnt_le (k : Nat) : cnt k ≤ 4 := by
  by_cases h : k < 16
  · revert k; decide
  · simp [cnt, List.getElem?_eq_none (show [0, 1, 1, 2, 1, 2, 2, 3, 1, 2, 2, 3, 2, 3, 3, 4].length ≤ k from by simp; omega)]

/-! ### the first bit that is so -/
def fnd (f : Nat → Bool) (on : Bool) (e at_ : Nat) : Nat := if at_ < e then (if f at_ = on then at_ else fnd f on e (at_ + 1)) else e
termination_by e - at_
theorem fnd_here {f : Nat → Bool} {on : Bool} {e a : Nat} (h : a < e) (hf : f a = on) : fnd f on e a = a := by rw [fnd, if_pos h, if_pos hf]
theorem fnd_end {f : Nat → Bool} {on : Bool} {e a : Nat} (h : e ≤ a) : fnd f on e a = e := by rw [fnd, if_neg (by omega)]
theorem fnd_step {f : Nat → Bool} {on : Bool} {e a : Nat} (hf : f a ≠ on) : fnd f on e (a + 1) = fnd f on e a := by
  by_cases h : a < e
  · conv => rhs; rw [fnd, if_pos h, if_neg hf]
  · rw [fnd_end (by omega), fnd_end (by omega)]
theorem fnd_skip {f : Nat → Bool} {on : Bool} {e a : Nat} (hf : ∀ k, k < 8 → f (a + k) = !on) : fnd f on e (a + 8) = fnd f on e a := by
  have g : ∀ k, k < 8 → f (a + k) ≠ on := fun k hk => by rw [hf k hk]; cases on <;> decide
  rw [fnd_step (a := a + 7) (g 7 (by decide)), fnd_step (a := a + 6) (g 6 (by decide)), fnd_step (a := a + 5) (g 5 (by decide)), fnd_step (a := a + 4) (g 4 (by decide)), fnd_step (a := a + 3) (g 3 (by decide)), fnd_step (a := a + 2) (g 2 (by decide)), fnd_step (a := a + 1) (g 1 (by decide)), fnd_step (a := a) (g 0 (by decide))]
theorem fnd_le {f : Nat → Bool} {on : Bool} {e a : Nat} : fnd f on e a ≤ e := by
  induction h : e - a generalizing a with
  | zero => rw [fnd_end (by omega)]; exact Nat.le_refl _
  | succ n ih =>
    by_cases hf : f a = on
    · rw [fnd_here (by omega) hf]; omega
    · rw [← fnd_step hf]; exact ih (by omega)
theorem fnd_ge {f : Nat → Bool} {on : Bool} {e a : Nat} (h : a ≤ e) : a ≤ fnd f on e a := by
  induction h' : e - a generalizing a with
  | zero => rw [fnd_end (by omega)]; exact h
  | succ n ih =>
    by_cases hf : f a = on
    · rw [fnd_here (by omega) hf]; exact Nat.le_refl _
    · rw [← fnd_step hf]; have := @ih (a + 1) (by omega) (by omega); omega
theorem fnd_at {f : Nat → Bool} {on : Bool} {e a : Nat} (h : fnd f on e a < e) : f (fnd f on e a) = on := by
  induction h' : e - a generalizing a with
  | zero => rw [fnd_end (by omega)] at h; omega
  | succ n ih =>
    by_cases hf : f a = on
    · rw [fnd_here (by omega) hf]; exact hf
    · rw [← fnd_step hf] at h ⊢; exact ih h (by omega)
theorem fnd_ahead {f : Nat → Bool} {on : Bool} {e a j : Nat} (h1 : a ≤ j) (h2 : j < fnd f on e a) : f j = !on := by
  induction h' : e - a generalizing a with
  | zero => rw [fnd_end (by omega)] at h2; omega
  | succ n ih =>
    by_cases hf : f a = on
    · rw [fnd_here (by omega) hf] at h2; omega
    · by_cases hj : j = a
      · subst hj; cases on <;> simpa using hf
      · rw [← fnd_step hf] at h2; exact ih (by omega) h2 (by omega)

/-! ### bytes out of bits -/
def byteOf (g : Nat → Bool) : Nat := (g 0).toNat + 2 * (g 1).toNat + 4 * (g 2).toNat + 8 * (g 3).toNat + 16 * (g 4).toNat + 32 * (g 5).toNat + 64 * (g 6).toNat + 128 * (g 7).toNat
theorem byteOf_bits : ∀ b0 b1 b2 b3 b4 b5 b6 b7 : Bool, ∀ k, k < 8 → (b0.toNat + 2 * b1.toNat + 4 * b2.toNat + 8 * b3.toNat + 16 * b4.toNat + 32 * b5.toNat + 64 * b6.toNat + 128 * b7.toNat).testBit k = [b0, b1, b2, b3, b4, b5, b6, b7].getD k false := by decide +kernel
theorem byteOf_lt (g : Nat → Bool) : byteOf g < 256 := by
  unfold byteOf
  have h : ∀ b : Bool, b.toNat ≤ 1 := by decide
  have := h (g 0); have := h (g 1); have := h (g 2); have := h (g 3); have := h (g 4); have := h (g 5); have := h (g 6); have := h (g 7)
  omega
theorem testBit_byteOf (g : Nat → Bool) (k : Nat) (hk : k < 8) : (byteOf g).testBit k = g k := by
  unfold byteOf
  rw [byteOf_bits _ _ _ _ _ _ _ _ k hk]
  match k, hk with
  | 0, _ => rfl
  | 1, _ => rfl
  | 2, _ => rfl
  | 3, _ => rfl
  | 4, _ => rfl
  | 5, _ => rfl
  | 6, _ => rfl
  | 7, _ => rfl
theorem byte_ext {x y : Nat} (hx : x < 256) (hy : y < 256) (h : ∀ k, k < 8 → x.testBit k = y.testBit k) : x = y := by
  apply Nat.eq_of_testBit_eq
  intro k
  by_cases hk : k < 8
  · exact h k hk
  · have e : (256 : Nat) ≤ 2 ^ k := Nat.pow_le_pow_right (n := 2) (by decide) (show 8 ≤ k by omega)
    rw [Nat.testBit_lt_two_pow (Nat.lt_of_lt_of_le hx e), Nat.testBit_lt_two_pow (Nat.lt_of_lt_of_le hy e)]
theorem byteOf_ext {x : Nat} {g : Nat → Bool} (hx : x < 256) (h : ∀ k, k < 8 → x.testBit k = g k) : x = byteOf g :=
  byte_ext hx (byteOf_lt g) fun k hk => by rw [h k hk, testBit_byteOf g k hk]
theorem byteOf_congr {g g' : Nat → Bool} (h : ∀ k, k < 8 → g k = g' k) : byteOf g = byteOf g' := by
  unfold byteOf
  rw [h 0 (by decide), h 1 (by decide), h 2 (by decide), h 3 (by decide), h 4 (by decide), h 5 (by decide), h 6 (by decide), h 7 (by decide)]

/-- byte j of a map of the bits f, the first i of which are laid -/
def pb (f : Nat → Bool) (i j : Nat) : Nat := byteOf fun k => decide (8 * j + k < i) && f (8 * j + k)
theorem pb_lt (f : Nat → Bool) (i j : Nat) : pb f i j < 256 := byteOf_lt _
theorem pb_zero (f : Nat → Bool) (j : Nat) : pb f 0 j = 0 := by simp [pb, byteOf]
theorem pb_bit (f : Nat → Bool) (i j k : Nat) (hk : k < 8) : (pb f i j).testBit k = (decide (8 * j + k < i) && f (8 * j + k)) := testBit_byteOf _ k hk
theorem pb_skip {f : Nat → Bool} {i : Nat} (h : f i = false) (j : Nat) : pb f (i + 1) j = pb f i j := byteOf_congr fun k _ => by
  by_cases e : 8 * j + k = i
  · rw [e, h]; simp
  · congr 1; simp; omega
theorem pb_other {f : Nat → Bool} {i j : Nat} (h : j ≠ i / 8) : pb f (i + 1) j = pb f i j := byteOf_congr fun k hk => by
  congr 1; simp; omega
theorem pb_or {f : Nat → Bool} {i : Nat} (h : f i = true) : pb f i (i / 8) ||| 2 ^ (i % 8) = pb f (i + 1) (i / 8) := by
  have hp : 2 ^ (i % 8) < 2 ^ 8 := Nat.pow_lt_pow_right (by decide) (by omega)
  refine byteOf_ext (Nat.or_lt_two_pow (n := 8) (pb_lt f i _) hp) fun k hk => ?_
  rw [Nat.testBit_or, pb_bit _ _ _ _ hk, Nat.testBit_two_pow]
  by_cases e : i % 8 = k
  · have : 8 * (i / 8) + k = i := by omega
    rw [this, h]; simp [e]
  · have : 8 * (i / 8) + k ≠ i := by omega
    simp only [e, decide_false, Bool.or_false]
    congr 1; simp; omega
theorem add_or : ∀ x, x < 256 → ∀ k, k < 8 → x.testBit k = false → x + 2 ^ k = x ||| 2 ^ k := by decide +kernel
theorem pb_add {f : Nat → Bool} {i : Nat} (h : f i = true) : pb f i (i / 8) + 2 ^ (i % 8) = pb f (i + 1) (i / 8) := by
  rw [add_or _ (pb_lt f i _) _ (by omega), pb_or h]
  rw [pb_bit _ _ _ _ (by omega)]
  simp; omega
def need (n : Nat) : Nat := (n + 7) / 8
/-- Make -/
def mk (f : Nat → Bool) (n : Nat) : List Nat := (List.range (need n)).map (pb f n)
theorem mk_length (f : Nat → Bool) (n : Nat) : (mk f n).length = need n := by simp [mk]
theorem mk_congr {f g : Nat → Bool} {n : Nat} (h : ∀ i, i < n → f i = g i) : mk f n = mk g n := by
  unfold mk
  apply List.map_congr_left
  intro j _
  exact byteOf_congr fun k _ => by
    by_cases e : 8 * j + k < n
    · rw [h _ e]
    · simp [e]
theorem mk_bytes (f : Nat → Bool) (n : Nat) : Bytes (mk f n) := by
  intro x hx
  obtain ⟨j, _, rfl⟩ := List.mem_map.1 hx
  exact pb_lt _ _ _
theorem mk_bit (f : Nat → Bool) (n i : Nat) (hi : i < n) : bitAt (mk f n) i = f i := by
  have h8 : i / 8 < need n := by unfold need; omega
  have hb := pb_bit f n (i / 8) (i % 8) (by omega)
  rw [show 8 * (i / 8) + i % 8 = i by omega] at hb
  simp only [bitAt, mk, List.getD_eq_getElem?_getD, List.getElem?_map, List.getElem?_range h8, Option.map_some, Option.getD_some, hb]
  simp [hi]

/-! ### how many, and which -/
def cn (f : Nat → Bool) : Nat → Nat
  | 0 => 0
  | n + 1 => cn f n + (f n).toNat
theorem cn_le (f : Nat → Bool) (n : Nat) : cn f n ≤ n := by
  induction n with
  | zero => exact Nat.le_refl _
  | succ n ih => have : (f n).toNat ≤ 1 := by cases f n <;> decide
                 simp only [cn]; omega
theorem cn_mono (f : Nat → Bool) {a b : Nat} (h : a ≤ b) : cn f a ≤ cn f b := by
  induction b with
  | zero => rw [show a = 0 by omega]; exact Nat.le_refl _
  | succ n ih =>
    by_cases e : a = n + 1
    · rw [e]; exact Nat.le_refl _
    · have := ih (by omega); simp only [cn]; omega
theorem cn_lt (f : Nat → Bool) {a b : Nat} (h : a < b) (hf : f a = true) : cn f a < cn f b := by
  have := cn_mono f (show a + 1 ≤ b from h)
  simp only [cn, hf, Bool.toNat_true] at this
  omega
/-- the place of the k-th 1 (m: none) -/
def pl (f : Nat → Bool) (k m : Nat) : Nat := fnd (fun r => f r && (cn f r == k)) true m 0
theorem fnd_eq {g : Nat → Bool} {m a r : Nat} (ha : a ≤ r) (hr : r < m) (hg : g r = true) (h : ∀ j, a ≤ j → j < r → g j = false) : fnd g true m a = r := by
  have h1 := @fnd_le g true m a
  by_cases hlt : fnd g true m a < r
  · have := fnd_at (f := g) (on := true) (e := m) (a := a) (by omega)
    rw [h _ (fnd_ge (by omega)) hlt] at this
    exact absurd this (by decide)
  · by_cases hgt : r < fnd g true m a
    · have := fnd_ahead (f := g) (on := true) (e := m) ha hgt
      rw [hg] at this
      exact absurd this (by decide)
    · omega
theorem fnd_none {g : Nat → Bool} {m a : Nat} (ha : a ≤ m) (h : ∀ j, a ≤ j → j < m → g j = false) : fnd g true m a = m := by
  have h1 := @fnd_le g true m a
  by_cases hlt : fnd g true m a < m
  · have := fnd_at (f := g) (on := true) (e := m) (a := a) hlt
    rw [h _ (fnd_ge ha) hlt] at this
    exact absurd this (by decide)
  · omega
theorem pl_eq {f : Nat → Bool} {k m r : Nat} (hr : r < m) (hf : f r = true) (hc : cn f r = k) : pl f k m = r :=
  fnd_eq (Nat.zero_le _) hr (by simp [hf, hc]) fun j _ hj => by
    by_cases e : f j = true
    · have := cn_lt f hj e
      simp [e]; omega
    · simp at e; simp [e]
theorem pl_none {f : Nat → Bool} {k m : Nat} (h : cn f m ≤ k) : pl f k m = m :=
  fnd_none (Nat.zero_le _) fun j _ hj => by
    by_cases e : f j = true
    · have := cn_lt f hj e
      simp [e]; omega
    · simp at e; simp [e]
theorem fnd_shift (f : Nat → Bool) (on : Bool) (fr m a : Nat) : fnd f on (fr + m) (fr + a) = fr + fnd (fun k => f (fr + k)) on m a := by
  induction h : m - a generalizing a with
  | zero => rw [fnd_end (by omega), fnd_end (by omega)]
  | succ n ih =>
    by_cases hf : f (fr + a) = on
    · rw [fnd_here (by omega) hf, fnd_here (f := fun k => f (fr + k)) (by omega) hf]
    · rw [← fnd_step hf, ← fnd_step (f := fun k => f (fr + k)) hf, Nat.add_assoc, ih (a + 1) (by omega)]
end Go.Proofs.YteggcdhibcjneaaGreatDoor.Bits
namespace Go.Proofs.YteggcdhibcjneaaGreatDoor.Bits
open Go.Proofs.YteggcdhibcjneaaGreatDoor.Kit
open Go.RowKit Go.Deep
/-- the package's table in memory -/
def Tab (w : World) : Prop := ∀ k, k < 16 → w.cell? ⟨3, k, none⟩ = some (.int .u8 (cnt k : Nat))
theorem Tab.drewN {w : World} (h : Tab w) (q : Nat) : Tab (w.drewN q) := h
theorem Tab.kept {w w' : World} {S : Nat → Prop} (h : Tab w) (k : Keeps w w' S) (h0 : ¬ S 3) : Tab w' := fun j hj => k.cell' (h j hj) h0

theorem ones_any (c : Nat) (hc : c < 256) (w : World) (hT : Tab w) :
    Calls Tryz.prog 197 #[.int .u8 c] w fun e w' => e = .returned (.int .i64 (onesOf c : Nat)) ∧ ∃ q, w' = w.drewN q := by
  have h1 := hT (c % 16) (by omega)
  have h2 := hT (c / 16) (by omega)
  have e1 : bits .and .u8 (c : Int) 15 = ((c % 16 : Nat) : Int) := by
    have := bits_and8 c 15 hc (by decide)
    rw [show (15 : Nat) = 2 ^ 4 - 1 from rfl, Nat.and_two_pow_sub_one_eq_mod] at this
    exact this
  have l1 := cnt_le (c % 16)
  have l2 := cnt_le (c / 16)
  obtain ⟨x, hx⟩ : ∃ x, x = cnt (c % 16) := ⟨_, rfl⟩
  obtain ⟨y, hy⟩ : ∃ y, y = cnt (c / 16) := ⟨_, rfl⟩
  have e2 : onesOf c = x + y := by rw [hx, hy]; rfl
  rw [← hx] at h1 l1
  rw [← hy] at h2 l2
  rw [e2]
  have b1 : c % 16 < 16 := by omega
  have b2 : c / 16 < 16 := by omega
  clear hT hx hy e2
  go_enter Tryz.func197, Tryz.ntmps197
  go_wp2
  go_quiet (fail)
  go_wp2
  go_ret
  exact ⟨by simp, _, rfl⟩

theorem holds_any (c : Nat) (hc : c < 256) (on : Bool) (w : World) (hT : Tab w) :
    Calls Tryz.prog 191 #[.int .u8 c, .bool on] w fun e w' => e = .returned (.bool (hold c on)) ∧ ∃ q, w' = w.drewN q := by
  cases on
  · go_enter Tryz.func191, Tryz.ntmps191
    go_wp2_with (go_at_call 197; refine (ones_any c hc _ hT).mono ?_; rintro e w' ⟨rfl, q, rfl⟩)
    go_ret
    exact ⟨by simp [hold]; omega, _, rfl⟩
  · go_enter Tryz.func191, Tryz.ntmps191
    go_wp2_with (go_at_call 197; refine (ones_any c hc _ hT).mono ?_; rintro e w' ⟨rfl, q, rfl⟩)
    go_ret
    exact ⟨by simp [hold], _, rfl⟩

/-- a list of bytes somewhere in memory -/
def BytesAt (w : World) (ao : Option Addr) (l : List Nat) : Prop :=
  0 < l.length → ∃ b off, ao = some ⟨b, off, none⟩ ∧ ∀ k, k < l.length → w.cell? ⟨b, off + k, none⟩ = some (.int .u8 (l.getD k 0 : Nat))
theorem BytesAt.drewN {w : World} {ao : Option Addr} {l : List Nat} (h : BytesAt w ao l) (q : Nat) : BytesAt (w.drewN q) ao l := h
theorem BytesAt.kept {w w' : World} {ao : Option Addr} {l : List Nat} {S : Nat → Prop} (h : BytesAt w ao l) (k : Keeps w w' S) (hS : ∀ b, ao.map (·.block) = some b → ¬ S b) : BytesAt w' ao l := by
  intro hn
  obtain ⟨b, off, rfl, hc⟩ := h hn
  exact ⟨b, off, rfl, fun j hj => k.cell' (hc j hj) (hS b rfl)⟩
theorem BytesAt.kept0 {w w' : World} {ao : Option Addr} {l : List Nat} (h : BytesAt w ao l) (k : Keeps w w' (fun _ => False)) : BytesAt w' ao l := h.kept k fun _ _ => id

theorem isOn_any (ao : Option Addr) (ca : Nat) (l : List Nat) (hl : Bytes l) (hn : l.length ≤ 1152921504606846976) (i : Nat) (hi : i < 8 * l.length) (w : World) (hb : BytesAt w ao l) :
    Calls Tryz.prog 192 #[.slice ao l.length ca, .int .i64 i] w fun e w' => e = .returned (.bool (bitAt l i)) ∧ w = w' := by
  obtain ⟨b, off, rfl, hcs⟩ := hb (by omega)
  have hc := hcs (i / 8) (by omega)
  have hx := hl.get (i / 8)
  have e := on_bit (l.getD (i / 8) 0) (i % 8) hx
  have e' : bitAt l i = (l.getD (i / 8) 0).testBit (i % 8) := rfl
  obtain ⟨x, hx'⟩ : ∃ x, x = l.getD (i / 8) 0 := ⟨_, rfl⟩
  rw [← hx'] at hc hx e e'
  rw [e']
  have h8 : i / 8 < l.length := by omega
  clear hcs hx' e' hb hl
  go_enter Tryz.func192, Tryz.ntmps192
  go_wp2
  go_ret
  exact ⟨by simp, rfl⟩

theorem refused_neg (ao : Option Addr) (n ca : Nat) (fr m : Int) (w : World) (h : fr < 0 ∨ m < 0) :
    Calls Tryz.prog 169 #[.slice ao n ca, .int .i64 fr, .int .i64 m] w fun e w' => e = .returned (.int .i64 1) ∧ w = w' := by
  go_enter Tryz.func169, Tryz.ntmps169
  go_wp2
  all_goals first | (go_ret; exact ⟨rfl, rfl⟩) | (exfalso; simp at *; omega)
theorem refused_ok (ao : Option Addr) (n ca : Nat) (hn : n ≤ 1152921504606846975) (fr m : Nat) (h : fr + m ≤ 8 * n) (w : World) :
    Calls Tryz.prog 169 #[.slice ao n ca, .int .i64 fr, .int .i64 m] w fun e w' => e = .returned (.int .i64 0) ∧ w = w' := by
  go_enter Tryz.func169, Tryz.ntmps169
  go_wp2
  all_goals first | (go_ret; exact ⟨rfl, rfl⟩) | (exfalso; simp at *; omega)
theorem refused_range (ao : Option Addr) (n ca : Nat) (hn : n ≤ 1152921504606846975) (fr m : Nat) (hfr : fr ≤ 9223372036854775807) (hm : m ≤ 9223372036854775807) (h : 8 * n < fr + m) (w : World) :
    Calls Tryz.prog 169 #[.slice ao n ca, .int .i64 fr, .int .i64 m] w fun e w' => e = .returned (.int .i64 2) ∧ w = w' := by
  go_enter Tryz.func169, Tryz.ntmps169
  go_wp2
  all_goals first | (go_ret; exact ⟨rfl, rfl⟩) | (exfalso; simp at *; omega)
theorem need_neg (m : Int) (h : m ≤ 0) (w : World) : Calls Tryz.prog 137 #[.int .i64 m] w fun e w' => e = .returned (.int .i64 0) ∧ w = w' := by
  go_enter Tryz.func137, Tryz.ntmps137
  go_wp2
  all_goals first | (go_ret; exact ⟨rfl, rfl⟩) | (exfalso; simp at *; omega)
theorem need_pos (m : Nat) (h : m ≤ 9223372036854775807) (w : World) : Calls Tryz.prog 137 #[.int .i64 m] w fun e w' => e = .returned (.int .i64 (need m : Nat)) ∧ w = w' := by
  by_cases h0 : m = 0
  · subst h0; exact need_neg 0 (by omega) w
  · go_enter Tryz.func137, Tryz.ntmps137
    go_wp2
    all_goals first | (go_ret; exact ⟨by simp [need]; omega, rfl⟩) | (exfalso; simp at *; omega) | trace_state

theorem find_any (ao : Option Addr) (ca : Nat) (l : List Nat) (hl : Bytes l) (hn : l.length ≤ 1152921504606846) (at_ e : Nat) (on : Bool) (ha : at_ ≤ e) (he : e ≤ 8 * l.length) (w : World) (hT : Tab w) (hb : BytesAt w ao l) :
    Calls Tryz.prog 182 #[.slice ao l.length ca, .int .i64 at_, .int .i64 e, .bool on] w fun x w' => x = .returned (.int .i64 (fnd (bitAt l) on e at_ : Nat)) ∧ ∃ q, w' = w.drewN q := by
  go_enter Tryz.func182, Tryz.ntmps182
  go_wp2
  go_loopw [1] (fun i wr => ∃ k : Nat, k ≤ e + 7 ∧ i = .int .i64 k ∧ fnd (bitAt l) on e k = fnd (bitAt l) on e at_ ∧ ∃ q, wr = w.drewN q) (fun i _ => e + 7 - (intOf i).toNat)
  case atStart => exact ⟨at_, by omega, rfl, rfl, 0, rfl⟩
  case round =>
    obtain ⟨k, hk, rfl, hf, q, rfl⟩ := hrel
    by_cases hlt : k < e
    · obtain ⟨b, off, rfl, hcs⟩ := hb (by omega)
      have hc := hcs (k / 8) (by omega)
      have hx := hl.get (k / 8)
      have h8 : k / 8 < l.length := by omega
      have hsk : k % 8 = 0 → hold (l.getD (k / 8) 0) on = false → fnd (bitAt l) on e (k + 8) = fnd (bitAt l) on e k := fun h0 hh => fnd_skip fun j hj => by
        have := hold_none _ hx on hh j hj
        unfold bitAt
        rw [show (k + j) / 8 = k / 8 by omega, show (k + j) % 8 = j by omega]
        exact this
      have hb' : BytesAt w (some ⟨b, off, none⟩) l := hb
      obtain ⟨x, hx'⟩ : ∃ x, x = l.getD (k / 8) 0 := ⟨_, rfl⟩
      rw [← hx'] at hc hx hsk
      clear hcs hx' hb
      by_cases h0 : k % 8 = 0
      · cases hh : hold x on
        · have hs := (hsk h0 hh).trans hf
          clear hsk
          go_wp2_with (first | (go_at_call 191; refine (holds_any x hx on _ (hT.drewN q)).mono ?_; rintro e w' ⟨rfl, q1, rfl⟩) | (go_at_call 192; refine (isOn_any _ ca l hl (by omega) k (by omega) _ (hb'.drewN _)).mono ?_; rintro e w' ⟨rfl, rfl⟩))
          go_roundw
          case rel => exact ⟨k + 8, by omega, by go_num, hs, _, rfl⟩
          case measure => simp [intOf]; omega
        · clear hsk
          by_cases hbo : bitAt l k = on
          · have hr := fnd_here hlt hbo
            go_wp2_with (first | (go_at_call 191; refine (holds_any x hx on _ (hT.drewN q)).mono ?_; rintro e w' ⟨rfl, q1, rfl⟩) | (go_at_call 192; refine (isOn_any _ ca l hl (by omega) k (by omega) _ (hb'.drewN _)).mono ?_; rintro e w' ⟨rfl, rfl⟩))
            go_ret
            exact ⟨by rw [← hf, hr]; rfl, _, rfl⟩
          · have hr := (fnd_step (e := e) hbo).trans hf
            have hbo' : (bitAt l k == on) = false := by simpa using hbo
            go_wp2_with (first | (go_at_call 191; refine (holds_any x hx on _ (hT.drewN q)).mono ?_; rintro e w' ⟨rfl, q1, rfl⟩) | (go_at_call 192; refine (isOn_any _ ca l hl (by omega) k (by omega) _ (hb'.drewN _)).mono ?_; rintro e w' ⟨rfl, rfl⟩))
            go_roundw
            case rel => exact ⟨k + 1, by omega, by go_num, hr, _, rfl⟩
            case measure => simp [intOf]; omega
      · clear hsk
        by_cases hbo : bitAt l k = on
        · have hr := fnd_here hlt hbo
          go_wp2_with (first | (go_at_call 191; refine (holds_any x hx on _ (hT.drewN q)).mono ?_; rintro e w' ⟨rfl, q1, rfl⟩) | (go_at_call 192; refine (isOn_any _ ca l hl (by omega) k (by omega) _ (hb'.drewN _)).mono ?_; rintro e w' ⟨rfl, rfl⟩))
          go_ret
          exact ⟨by rw [← hf, hr]; rfl, _, rfl⟩
        · have hr := (fnd_step (e := e) hbo).trans hf
          have hbo' : (bitAt l k == on) = false := by simpa using hbo
          go_wp2_with (first | (go_at_call 191; refine (holds_any x hx on _ (hT.drewN q)).mono ?_; rintro e w' ⟨rfl, q1, rfl⟩) | (go_at_call 192; refine (isOn_any _ ca l hl (by omega) k (by omega) _ (hb'.drewN _)).mono ?_; rintro e w' ⟨rfl, rfl⟩))
          go_roundw
          case rel => exact ⟨k + 1, by omega, by go_num, hr, _, rfl⟩
          case measure => simp [intOf]; omega
    · clear hb hT
      have HF : Hid (e = fnd (bitAt l) on e at_) := by rw [fnd_end (a := k) (by omega)] at hf; exact hf
      clear hf
      go_wp2
      go_ret
      exact ⟨by rw [← HF.out]; rfl, _, rfl⟩

/-! ### Get, Next -/
end Go.Proofs.YteggcdhibcjneaaGreatDoor.Bits
