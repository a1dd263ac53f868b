import Derived.Test.YtdihbfjjddmbiaaGreatDoorRP
import Derived.Laws.BitsAllLaws
import Derived.Laws.BitsLemmas
import Derived.Lib.SlBytesConst
import Derived.Lib.BufferRead
import Derived.Laws.EntriesVeiled
set_option maxRecDepth 100000
set_option maxHeartbeats 4000000
namespace Go.Proofs.YtdihbfjjddmbiaaGreatDoor.Kit
open Go.RowKit Go.Shelf Go.Deep
set_option linter.unusedVariables false
def sumB (l : List Int) : Bool := l.all (fun x => decide (0 ≤ x)) && decide (l.sum ≤ 9223372036854775807)
def sumV (l : List Int) : Int := if sumB l = true then l.sum else 0
theorem sumB_iff (l : List Int) : sumB l = true ↔ (∀ x ∈ l, 0 ≤ x) ∧ l.sum ≤ 9223372036854775807 := by
  simp [sumB]
theorem sumB_iff' (l : List Int) : sumB l = false ↔ ¬ ((∀ x ∈ l, 0 ≤ x) ∧ l.sum ≤ 9223372036854775807) := by
  rw [← sumB_iff]; simp
theorem sum_nonneg : ∀ (l : List Int), (∀ x ∈ l, 0 ≤ x) → 0 ≤ l.sum
  | [], _ => by simp
  | x :: r, h => by
    have h1 := h x (by simp)
    have h2 := sum_nonneg r fun y hy => h y (by simp [hy])
    simp only [List.sum_cons]; omega
theorem take_succ_sum (l : List Int) (k : Nat) (hk : k < l.length) : (l.take (k + 1)).sum = (l.take k).sum + l.getD k 0 := by
  rw [List.take_succ_eq_append_getElem hk, List.sum_append]
  simp [List.getD, List.getElem?_eq_getElem hk]
theorem take_sum_le (l : List Int) (k : Nat) (h : ∀ x ∈ l, 0 ≤ x) : (l.take k).sum ≤ l.sum := by
  have e : l.sum = (l.take k).sum + (l.drop k).sum := by rw [← List.sum_append, List.take_append_drop]
  have := sum_nonneg (l.drop k) fun y hy => h y (List.mem_of_mem_drop hy)
  omega
theorem fail_neg (l : List Int) (k : Nat) (hk : k < l.length) (h : l.getD k 0 < 0) : sumB l = false := by
  rw [sumB_iff']; rintro ⟨a, _⟩
  have := a (l[k]) (List.getElem_mem hk)
  simp [List.getD, List.getElem?_eq_getElem hk] at h
  omega
theorem fail_big (l : List Int) (k : Nat) (hk : k < l.length) (h : 9223372036854775807 < (l.take k).sum + l.getD k 0) : sumB l = false := by
  rw [sumB_iff']; rintro ⟨a, b⟩
  have h1 := take_succ_sum l k hk
  have h2 := take_sum_le l (k + 1) a
  omega
theorem good_all (l : List Int) (h : ∀ j, j < l.length → 0 ≤ l.getD j 0) (hs : l.sum ≤ 9223372036854775807) : sumB l = true := by
  rw [sumB_iff]
  refine ⟨fun x hx => ?_, hs⟩
  obtain ⟨j, hj, rfl⟩ := List.getElem_of_mem hx
  have := h j hj
  simpa [List.getD, List.getElem?_eq_getElem hj] using this
theorem sumV_yes {l : List Int} (h : sumB l = true) : sumV l = l.sum := by simp [sumV, h]
theorem sumV_no {l : List Int} (h : sumB l = false) : sumV l = 0 := by simp [sumV, h]
theorem ret2 {k : IntKind} {a b : Int} {x y : Bool} (h : a = b) (g : x = y) : Ending.returned (.tuple #[.int k a, .bool x]) = .returned (.tuple #[.int k b, .bool y]) := by rw [h, g]
theorem sum_some (b off len cap : Nat) (l : List Int) (w : World) (hl : l.length = len) (hlen : len ≤ 9223372036854775807)
    (hc : ∀ k, k < len → w.cell? ⟨b, off + k, none⟩ = some (.int .i64 (l.getD k 0))) :
    Calls Tryz.prog 112 #[.slice (some ⟨b, off, none⟩) len cap] w fun e w' => e = .returned (.tuple #[.int .i64 (sumV l), .bool (sumB l)]) ∧ w' = w := by
  have HL : Hid (l.length = len) := hl
  clear hl
  go_enter Tryz.func112, Tryz.ntmps112
  go_wp2
  go_loop [4, 9] (fun s i => ∃ (k : Nat) (t : Int), k ≤ len ∧ i = .int .i64 k ∧ s = .int .i64 t ∧ 0 ≤ t ∧ t ≤ 9223372036854775807 ∧ Hid (t = (l.take k).sum) ∧ Hid (∀ j, j < k → 0 ≤ l.getD j 0)) (fun _ i => len - (intOf i).toNat)
  case atStart => exact ⟨0, 0, Nat.zero_le _, rfl, rfl, by omega, by omega, (by simp : (0 : Int) = _), fun j hj => absurd hj (by omega)⟩
  case round =>
    obtain ⟨k, t, hk, rfl, rfl, ht0, ht1, HT, HN⟩ := hrel
    by_cases hlt : k < len
    · have hx := hc k hlt
      obtain ⟨x, hxx⟩ : ∃ x, x = l.getD k 0 := ⟨_, rfl⟩
      rw [← hxx] at hx
      have HX : Hid (x = l.getD k 0) := hxx
      clear hxx hc
      by_cases h1 : x < 0
      · go_wp2
        go_ret2
        have e := fail_neg l k (by rw [HL.out]; exact hlt) (by rw [← HX.out]; exact h1)
        exact ⟨ret2 (sumV_no e).symm e.symm, rfl⟩
      by_cases h2 : 9223372036854775807 - t < x
      · go_wp2
        go_ret2
        have e := fail_big l k (by rw [HL.out]; exact hlt) (by rw [← HX.out, ← HT.out]; omega)
        exact ⟨ret2 (sumV_no e).symm e.symm, rfl⟩
      go_wp2
      go_round
      case rel =>
        refine ⟨k + 1, t + x, by omega, by go_num, by go_num, by omega, by omega, ?_, ?_⟩
        · show _ = _
          rw [take_succ_sum l k (by rw [HL.out]; exact hlt), ← HX.out, ← HT.out]
        intro j hj
        by_cases hjk : j = k
        · subst hjk; rw [← HX.out]; omega
        exact HN.out j (by omega)
      case measure => simp [intOf]; omega
    obtain rfl : k = len := by omega
    have e : sumB l = true := good_all l (by rw [HL.out]; exact HN.out) (by have := HT.out; rw [List.take_of_length_le (by rw [HL.out]; omega)] at this; omega)
    have ev : sumV l = t := by rw [sumV_yes e, HT.out, List.take_of_length_le (by rw [HL.out]; omega)]
    have HE : Hid (sumB l = true) := e
    have HEV : Hid (sumV l = t) := ev
    clear e ev
    go_wp2
    go_ret2
    exact ⟨ret2 HEV.out.symm HE.out.symm, rfl⟩
def viewV (ao : Option Addr) (n cap : Nat) (place : Int) (q : Option Nat) : Value := .agg #[.slice ao n cap, .int .i64 place, .pointer (q.map fun b => ⟨b, 0, none⟩)]
theorem sum_in (a b : Int) (ha : 0 ≤ a) (hb : 0 ≤ b) (h : a + b ≤ 9223372036854775807) : sumB [a, b] = true ∧ sumV [a, b] = a + b := by
  have e : sumB [a, b] = true := (sumB_iff _).2 ⟨by simp [ha, hb], by simp; omega⟩
  exact ⟨e, by rw [sumV_yes e]; simp⟩
theorem sum_pair (b off cap : Nat) (x y : Int) (w : World) (h0 : w.cell? ⟨b, off, none⟩ = some (.int .i64 x)) (h1 : w.cell? ⟨b, off + 1, none⟩ = some (.int .i64 y)) :
    Calls Tryz.prog 112 #[.slice (some ⟨b, off, none⟩) 2 cap] w fun e w' => e = .returned (.tuple #[.int .i64 (sumV [x, y]), .bool (sumB [x, y])]) ∧ w = w' := by
  refine (sum_some b off 2 cap [x, y] w rfl (by omega) ?_).mono fun e w' h => ⟨h.1, h.2.symm⟩
  intro k hk
  match k, hk with
  | 0, _ => simpa using h0
  | 1, _ => simpa using h1
theorem end_in (ao : Option Addr) (n cap : Nat) (place : Int) (q : Option Nat) (a b : Int) (w : World) (hn : n ≤ 9223372036854775807) (ha : 0 ≤ a) (hb : 0 ≤ b) (h : a + b ≤ n) :
    Calls Tryz.prog 110 #[viewV ao n cap place q, .int .i64 a, .int .i64 b] w fun e w' => e = .returned (.tuple #[.int .i64 (a + b), .bool true]) ∧ Keeps w w' (fun _ => False) := by
  obtain ⟨e1, e2⟩ := sum_in a b ha hb (by omega)
  unfold viewV
  go_enter Tryz.func110, Tryz.ntmps110
  go_wp2_with (first | (go_at_call 112; refine (sum_pair _ _ _ a b _ (by go_simp) (by go_simp)).mono ?_; rintro e w' ⟨rfl, rfl⟩))
  go_quiet (fail)
  go_wp2
  go_ret2
  exact ⟨rfl, (((Keeps.refl _ _).alloc _).alloc _).drewN _⟩
theorem tell_none (ao : Option Addr) (n cap : Nat) (place a b : Int) (w : World) :
    Calls Tryz.prog 111 #[viewV ao n cap place none, .int .i64 a, .int .i64 b] w fun e w' => e = .returned (.tuple #[]) ∧ Keeps w w' (fun _ => False) := by
  unfold viewV
  go_enter Tryz.func111, Tryz.ntmps111
  go_wp2
  go_end0
  exact ⟨rfl, (Keeps.refl _ _).alloc _⟩
def leVal (l : List Int) : Int := l.foldr (fun c r => c + 256 * r) 0
theorem leVal_append (a b : List Int) : leVal (a ++ b) = leVal a + 256 ^ a.length * leVal b := by
  induction a with
  | nil => simp [leVal]
  | cons c r ih =>
    have e : leVal (c :: r ++ b) = c + 256 * leVal (r ++ b) := rfl
    have e2 : leVal (c :: r) = c + 256 * leVal r := rfl
    rw [e, ih, e2, List.length_cons, Int.pow_succ, Int.mul_add, Int.add_assoc]
    congr 2
    rw [Int.mul_comm (256 ^ r.length) 256, Int.mul_assoc]
theorem leVal_bd (l : List Int) (h : ∀ c ∈ l, 0 ≤ c ∧ c < 256) : 0 ≤ leVal l ∧ leVal l < 256 ^ l.length := by
  induction l with
  | nil => simp [leVal]
  | cons c r ih =>
    have e2 : leVal (c :: r) = c + 256 * leVal r := rfl
    have h1 := h c (by simp)
    have h2 := ih fun d hd => h d (by simp [hd])
    rw [e2, List.length_cons, Int.pow_succ]
    generalize (256 : Int) ^ r.length = P at *
    omega
theorem pow256_le (k : Nat) (h : k ≤ 8) : (256 : Int) ^ k ≤ 18446744073709551616 := by
  have : k = 0 ∨ k = 1 ∨ k = 2 ∨ k = 3 ∨ k = 4 ∨ k = 5 ∨ k = 6 ∨ k = 7 ∨ k = 8 := by omega
  rcases this with rfl | rfl | rfl | rfl | rfl | rfl | rfl | rfl | rfl <;> decide
theorem or_step (y z : Int) (k : Nat) (hk : k < 8) (hy0 : 0 ≤ y) (hy1 : y < 256 ^ k) (hz0 : 0 ≤ z) (hz1 : z < 256) :
    bits BinOp.or IntKind.u64 y (IntKind.u64.wrap (IntKind.u64.wrap z * 2 ^ (8 * k))) = y + 256 ^ k * z := by
  have hp : (2 : Int) ^ (8 * k) = 256 ^ k := by rw [Int.pow_mul]; rfl
  have hP := pow256_le (k + 1) (by omega)
  have hP0 : (0 : Int) < 256 ^ k := Int.pow_pos (by decide)
  rw [Int.pow_succ] at hP
  have w1 : IntKind.u64.wrap z = z := by simp [IntKind.wrap, IntKind.bits, IntKind.signed]; omega
  have hb : 0 ≤ z * 256 ^ k ∧ z * 256 ^ k < 18446744073709551616 := by
    refine ⟨Int.mul_nonneg hz0 (by omega), ?_⟩
    have : z * 256 ^ k ≤ 255 * 256 ^ k := Int.mul_le_mul_of_nonneg_right (by omega) (by omega)
    omega
  have w2 : IntKind.u64.wrap (z * 256 ^ k) = z * 256 ^ k := by simp [IntKind.wrap, IntKind.bits, IntKind.signed]; omega
  rw [w1, hp, w2]
  obtain ⟨Y, rfl⟩ : ∃ Y : Nat, y = Y := ⟨y.toNat, by omega⟩
  obtain ⟨Z, rfl⟩ : ∃ Z : Nat, z = Z := ⟨z.toNat, by omega⟩
  have e : ((Z : Int) * 256 ^ k) = ((Z * 256 ^ k : Nat) : Int) := by rw [Int.natCast_mul, Int.natCast_pow]; rfl
  have hyn : Y < 256 ^ k := by
    have : ((256 ^ k : Nat) : Int) = (256 : Int) ^ k := by rw [Int.natCast_pow]; rfl
    omega
  rw [e, bits_or_u64_nat Y (Z * 256 ^ k) (by omega) (by omega)]
  have hyn' : Y < 2 ^ (8 * k) := by rw [Nat.pow_mul]; exact hyn
  have := Nat.two_pow_add_eq_or_of_lt hyn' Z
  have e3 : (2 : Nat) ^ (8 * k) = 256 ^ k := by rw [Nat.pow_mul]
  rw [e3] at this
  rw [Nat.or_comm, Nat.mul_comm, ← this, Int.natCast_add, Int.natCast_mul, Int.natCast_pow, Int.add_comm]
  rfl
theorem ret_int {k : IntKind} {a b : Int} (h : a = b) : Ending.returned (.int k a) = .returned (.int k b) := by rw [h]
theorem take_snoc_getD (l : List Int) (k : Nat) (h : k < l.length) : l.take (k + 1) = l.take k ++ [l.getD k 0] := by
  rw [List.take_succ_eq_append_getElem h]; simp [List.getD, List.getElem?_eq_getElem h]
theorem lowest_some (b off m cap : Nat) (l : List Int) (w : World) (hm : m ≤ 8) (hl : l.length = m) (hb : ∀ c ∈ l, 0 ≤ c ∧ c < 256) (hc : ∀ k, k < m → w.cell? ⟨b, off + k, none⟩ = some (.int .u8 (l.getD k 0))) :
    Calls Tryz.prog 106 #[.slice (some ⟨b, off, none⟩) m cap] w fun e w' => e = .returned (.int .u64 (leVal l)) ∧ w = w' := by
  have HL : Hid (l.length = m) := hl
  have HB : Hid (∀ c ∈ l, 0 ≤ c ∧ c < 256) := hb
  clear hl hb
  go_enter Tryz.func106, Tryz.ntmps106
  go_wp2
  go_loop [3, 8] (fun x i => ∃ (k : Nat) (y : Int), k ≤ m ∧ i = .int .i64 k ∧ x = .int .u64 y ∧ Hid (y = leVal (l.take k))) (fun _ i => m - (intOf i).toNat)
  case atStart => exact ⟨0, 0, Nat.zero_le _, rfl, rfl, rfl⟩
  case round =>
    obtain ⟨k, y, hk, rfl, rfl, HY⟩ := hrel
    by_cases hlt : k < m
    · have h1 := hc k hlt
      have hkl : k < l.length := by rw [HL.out]; exact hlt
      obtain ⟨z, hz⟩ : ∃ z, z = l.getD k 0 := ⟨_, rfl⟩
      rw [← hz] at h1
      have hz0 : 0 ≤ z ∧ z < 256 := by
        rw [hz]; simp only [List.getD, List.getElem?_eq_getElem hkl, Option.getD_some]; exact HB.out _ (List.getElem_mem hkl)
      have hy := leVal_bd (l.take k) (fun c hc => HB.out c (List.mem_of_mem_take hc))
      rw [← HY.out, List.length_take, Nat.min_eq_left (by omega)] at hy
      have hor := or_step y z k (by omega) hy.1 hy.2 hz0.1 hz0.2
      have HOR : Hid (bits BinOp.or IntKind.u64 y (IntKind.u64.wrap (IntKind.u64.wrap z * 2 ^ (8 * k))) = y + 256 ^ k * z) := hor
      have HT : Hid (leVal (l.take (k + 1)) = y + 256 ^ k * z) := by
        show _ = _
        rw [take_snoc_getD l k hkl, leVal_append, ← HY.out, List.length_take, Nat.min_eq_left (by omega), ← hz]
        simp [leVal]
      clear hc hz hz0 hy hor hkl
      go_wp2
      go_round
      case rel => exact ⟨k + 1, _, by omega, by go_num, rfl, (HOR.out.trans HT.out.symm)⟩
      case measure => simp [intOf]; omega
    obtain rfl : k = m := by omega
    go_wp2
    go_ret
    have HE : y = leVal l := by rw [HY.out, List.take_of_length_le (by rw [HL.out]; exact Nat.le_refl _)]
    exact ⟨ret_int HE, rfl⟩
theorem of_any (ao : Option Addr) (n cap : Nat) (w : World) :
    Calls Tryz.prog 47 #[.slice ao n cap] w fun e w' => e = .returned (viewV ao n cap 0 none) ∧ Keeps w w' (fun _ => False) := by
  unfold viewV
  go_enter Tryz.func47, Tryz.ntmps47
  go_wp2
  exact bodyPost_ret (v := .agg #[.slice ao n cap, .int .i64 0, .pointer none]) (by simp [results, Tryz.results47, go_sem]) rfl ⟨rfl, (Keeps.refl _ _).alloc _⟩
theorem sum_out (a b : Int) (n : Int) (h : ¬ (0 ≤ a ∧ 0 ≤ b ∧ a + b ≤ n)) : sumB [a, b] = false ∨ (sumB [a, b] = true ∧ n < sumV [a, b]) := by
  by_cases e : sumB [a, b] = true
  · refine .inr ⟨e, ?_⟩
    have := (sumB_iff _).1 e
    rw [sumV_yes e]
    simp at this ⊢
    omega
  exact .inl (by simpa using e)
theorem end_out (ao : Option Addr) (n cap : Nat) (place : Int) (q : Option Nat) (a b : Int) (w : World) (h : ¬ (0 ≤ a ∧ 0 ≤ b ∧ a + b ≤ n)) :
    Calls Tryz.prog 110 #[viewV ao n cap place q, .int .i64 a, .int .i64 b] w fun e w' => (∃ x, e = .returned (.tuple #[.int .i64 x, .bool false])) ∧ Keeps w w' (fun _ => False) := by
  unfold viewV
  rcases sum_out a b n h with e1 | ⟨e1, e2⟩
  · go_enter Tryz.func110, Tryz.ntmps110
    go_wp2_with (first | (go_at_call 112; refine (sum_pair _ _ _ a b _ (by go_simp) (by go_simp)).mono ?_; rintro e w' ⟨rfl, rfl⟩))
    go_quiet (fail)
    go_wp2
    go_ret2
    exact ⟨⟨_, rfl⟩, (((Keeps.refl _ _).alloc _).alloc _).drewN _⟩
  have e3 : (n : Int) < sumV [a, b] := e2
  go_enter Tryz.func110, Tryz.ntmps110
  go_wp2_with (first | (go_at_call 112; refine (sum_pair _ _ _ a b _ (by go_simp) (by go_simp)).mono ?_; rintro e w' ⟨rfl, rfl⟩))
  go_quiet (fail)
  go_wp2
  go_ret2
  exact ⟨⟨_, ret2 rfl (decide_eq_false (by omega))⟩, (((Keeps.refl _ _).alloc _).alloc _).drewN _⟩
theorem vlen_any (ao : Option Addr) (n cap : Nat) (place : Int) (q : Option Nat) (w : World) :
    Calls Tryz.prog 64 #[viewV ao n cap place q] w fun e w' => e = .returned (.int .i64 n) ∧ Keeps w w' (fun _ => False) := by
  unfold viewV
  go_enter Tryz.func64, Tryz.ntmps64
  go_wp2
  go_ret
  exact ⟨rfl, (Keeps.refl _ _).alloc _⟩
def SForm (ao : Option Addr) (n cap : Nat) : Prop := n ≤ cap ∧ cap ≤ 9223372036854775807 ∧ (cap = 0 ∨ ∃ b off, ao = some ⟨b, off, none⟩)
def ReadOk (e : Ending) (ao : Option Addr) (n a m : Nat) : Prop :=
  ∃ ao' cap', e = .returned (.tuple #[.slice ao' m cap', .bool true]) ∧ SForm ao' m cap' ∧ ∀ W l, l.length = n → BytesAt W ao l → BytesAt W ao' ((l.drop a).take m)
theorem readOk_some (b off n cap a m k : Nat) (hc : n ≤ cap) (hcap : cap ≤ 9223372036854775807) (h : a + m ≤ n) (hk : k = m) : ReadOk (.returned (.tuple #[.slice (some ⟨b, off + a, none⟩) k (cap - a), .bool true])) (some ⟨b, off, none⟩) n a m := by
  subst hk
  refine ⟨_, _, rfl, ⟨by omega, by omega, .inr ⟨b, off + a, rfl⟩⟩, fun W l hl hb hm => ?_⟩
  have hne : l ≠ [] := fun e => by subst e; simp at hm
  obtain ⟨b', off', e, hc'⟩ := hb hne
  simp only [Option.some.injEq, Addr.mk.injEq, and_true] at e
  obtain ⟨rfl, rfl⟩ := e
  refine ⟨b, off + a, rfl, fun i hi => ?_⟩
  have hi' : i < k := by have := hi; simp at this; omega
  have := hc' (a + i) (by omega)
  rw [← Nat.add_assoc] at this
  rw [this]
  simp
theorem readOk_end (ao : Option Addr) (n a cap : Nat) (hcap : cap ≤ 9223372036854775807) (hs : cap = 0 ∨ ∃ b off, ao = some ⟨b, off, none⟩) : ReadOk (.returned (.tuple #[.slice ao 0 cap, .bool true])) ao n a 0 :=
  ⟨_, _, rfl, ⟨Nat.zero_le _, hcap, hs⟩, fun _ _ _ _ h => absurd (by simp) h⟩
theorem ce3' {W : World} {B t : Nat} {x y z : Value} (h : W.heap[B]? = some (.cells #[x, y, z] t)) : W.cell? ⟨B, 0, none⟩ = some x ∧ W.cell? ⟨B, 1, none⟩ = some y ∧ W.cell? ⟨B, 2, none⟩ = some z := by simp [World.cell?, h]
theorem box3 {w w1 : World} {a b c : Value} {ty : Nat} {S : Nat → Prop} (hk : Keeps (w.alloc (.cells #[a, b, c] ty)) w1 S) (hS : ¬ S w.heap.size) :
    w1.cell? ⟨w.heap.size, 0, none⟩ = some a ∧ w1.cell? ⟨w.heap.size, 1, none⟩ = some b ∧ w1.cell? ⟨w.heap.size, 2, none⟩ = some c := by
  obtain ⟨c0, c1, c2⟩ := ce3' (heap_alloc_new w (.cells #[a, b, c] ty))
  exact ⟨hk.cell' c0 hS, hk.cell' c1 hS, hk.cell' c2 hS⟩
theorem read_some (b off n cap : Nat) (a m : Nat) (w : World) (hn : n ≤ 9223372036854775807) (hc : n ≤ cap) (hcap : cap ≤ 9223372036854775807) (h : a + m ≤ n) :
    Calls Tryz.prog 105 #[.agg #[.slice (some ⟨b, off, none⟩) n cap, .int .i64 0, .pointer none], .int .i64 a, .int .i64 m] w fun e w' => ReadOk e (some ⟨b, off, none⟩) n a m ∧ Gr w w' := by
  go_enter Tryz.func105, Tryz.ntmps105
  go_wp2_with fail
  go_at_call 110
  refine (end_in _ n cap 0 none a m _ hn (by omega) (by omega) (by omega)).mono ?_
  rintro e w1 ⟨rfl, K1⟩
  obtain ⟨b0, b1, b2⟩ := box3 K1 id
  have HK1 : Hid (Gr w w1) := ((Keeps.refl w _).alloc _).trans K1 fun _ _ h => h
  clear K1
  go_wp2_with fail
  go_at_call 111
  refine (tell_none _ n cap 0 a (a + m) _).mono ?_
  rintro e w2 ⟨rfl, K2⟩
  have b0' : w2.cell? ⟨w.heap.size, 0, none⟩ = some (.slice (some ⟨b, off, none⟩) n cap) := K2.cell' b0 id
  have HD := hidM (HK1.out.tr K2)
  clear K2 b0 b1 b2
  by_cases hca : cap = a
  · obtain rfl : m = 0 := by omega
    go_wp2
    go_ret2
    exact ⟨readOk_end _ n a 0 (by omega) (.inr ⟨b, off, rfl⟩), HD.out⟩
  go_wp2
  go_ret2
  exact ⟨readOk_some b off n cap a m _ hc hcap h (by omega), HD.out⟩
theorem read_zero (ao : Option Addr) (w : World) :
    Calls Tryz.prog 105 #[.agg #[.slice ao 0 0, .int .i64 0, .pointer none], .int .i64 0, .int .i64 0] w fun e w' => ReadOk e ao 0 0 0 ∧ Gr w w' := by
  go_enter Tryz.func105, Tryz.ntmps105
  go_wp2_with fail
  go_at_call 110
  refine (end_in _ 0 0 0 none 0 0 _ (by omega) (by omega) (by omega) (by omega)).mono ?_
  rintro e w1 ⟨rfl, K1⟩
  obtain ⟨b0, b1, b2⟩ := box3 K1 id
  have HK1 : Hid (Gr w w1) := ((Keeps.refl w _).alloc _).trans K1 fun _ _ h => h
  clear K1
  go_wp2_with fail
  go_at_call 111
  refine (tell_none _ 0 0 0 0 0 _).mono ?_
  rintro e w2 ⟨rfl, K2⟩
  have b0' : w2.cell? ⟨w.heap.size, 0, none⟩ = some (.slice ao 0 0) := K2.cell' b0 id
  have HD := hidM (HK1.out.tr K2)
  clear K2 b0 b1 b2
  cases ao with
  | none =>
    go_wp2
    go_ret2
    exact ⟨readOk_end _ 0 0 0 (by omega) (.inl rfl), HD.out⟩
  | some ad =>
    go_wp2
    go_ret2
    exact ⟨readOk_end _ 0 0 0 (by omega) (.inl rfl), HD.out⟩
theorem read_in (ao : Option Addr) (n cap : Nat) (a m : Nat) (w : World) (hs : SForm ao n cap) (h : a + m ≤ n) :
    Calls Tryz.prog 105 #[.agg #[.slice ao n cap, .int .i64 0, .pointer none], .int .i64 a, .int .i64 m] w fun e w' => ReadOk e ao n a m ∧ Gr w w' := by
  obtain ⟨h1, h2, h3⟩ := hs
  by_cases h0 : cap = 0
  · obtain rfl : n = 0 := by omega
    obtain rfl : a = 0 := by omega
    obtain rfl : m = 0 := by omega
    subst h0
    simpa using read_zero ao w
  obtain ⟨b, off, rfl⟩ := h3.resolve_left h0
  exact read_some b off n cap a m w (by omega) h1 h2 h
theorem read_out (ao : Option Addr) (n cap : Nat) (a m : Int) (w : World) (h : ¬ (0 ≤ a ∧ 0 ≤ m ∧ a + m ≤ n)) :
    Calls Tryz.prog 105 #[.agg #[.slice ao n cap, .int .i64 0, .pointer none], .int .i64 a, .int .i64 m] w fun e w' => e = .returned (.tuple #[.slice none 0 0, .bool false]) ∧ Gr w w' := by
  go_enter Tryz.func105, Tryz.ntmps105
  go_wp2_with fail
  go_at_call 110
  refine (end_out _ n cap 0 none a m _ h).mono ?_
  rintro e w1 ⟨⟨x, rfl⟩, K1⟩
  have HK1 : Hid (Gr w w1) := ((Keeps.refl w _).alloc _).trans K1 fun _ _ h => h
  clear K1
  go_wp2
  go_ret2
  exact ⟨rfl, HK1.out⟩
theorem leVal_leN : ∀ l : List UInt8, leVal (l.map fun b => (b.toNat : Int)) = (leN l : Int)
  | [] => rfl
  | b :: l => by
    have h := leVal_leN l
    have e : leVal ((b :: l).map fun b => (b.toNat : Int)) = (b.toNat : Int) + 256 * leVal (l.map fun b => (b.toNat : Int)) := rfl
    rw [e, h, leN]
    omega
theorem lowest_at {ao : Option Addr} {cap : Nat} {l : List UInt8} {w : World} (h0 : l ≠ []) (h8 : l.length ≤ 8) (h : BytesAt w ao l) :
    Calls Tryz.prog 106 #[.slice ao l.length cap] w fun e w' => e = .returned (.int .u64 (leN l : Int)) ∧ w = w' := by
  obtain ⟨b, off, rfl, hc⟩ := h h0
  refine (lowest_some b off l.length cap (l.map fun b => (b.toNat : Int)) w h8 (by simp) (fun c hc => ?_) (fun k hk => ?_)).mono ?_
  · obtain ⟨x, _, rfl⟩ := List.mem_map.1 hc
    have := x.toNat_lt
    omega
  · rw [hc k hk]; simp [List.getD, hk]
  rintro e w' ⟨rfl, rfl⟩
  exact ⟨by rw [leVal_leN], rfl⟩
theorem load_in {ao : Option Addr} {cap a k : Nat} {l : List UInt8} {w : World} (hs : SForm ao l.length cap) (hk : k = 1 ∨ k = 2 ∨ k = 4) (h : a + k ≤ l.length) (hb : BytesAt w ao l) :
    Calls Tryz.prog 93 #[.agg #[.slice ao l.length cap, .int .i64 0, .pointer none], .int .i64 a, .int .i64 k] w fun e w' => e = .returned (.tuple #[.int .u64 (leN ((l.drop a).take k) : Int), .int .i64 0]) ∧ Gr w w' := by
  have HW : Hid (∀ V, Calls Tryz.prog 71 #[.int .i64 k] V fun e w' => e = .returned (.bool true) ∧ V = w') := fun V => isWidth_any k hk V
  have hl : ((l.drop a).take k).length = k := by simp; omega
  have HR : Hid (∀ V, Calls Tryz.prog 105 #[.agg #[.slice ao l.length cap, .int .i64 0, .pointer none], .int .i64 a, .int .i64 k] V fun e w' => ReadOk e ao l.length a k ∧ Gr V w') := fun V => read_in ao l.length cap a k V hs h
  have HL : Hid (∀ V ao' c', BytesAt V ao' ((l.drop a).take k) → Calls Tryz.prog 106 #[.slice ao' k c'] V fun e w' => e = .returned (.int .u64 (leN ((l.drop a).take k) : Int)) ∧ V = w') := fun V ao' c' hb' => by
    have := lowest_at (cap := c') (l := (l.drop a).take k) (w := V) (fun e => by rw [e] at hl; simp at hl; omega) (by omega) hb'
    rwa [hl] at this
  have HB := hidM hb
  obtain ⟨x, hx⟩ : ∃ x : Int, x = (leN ((l.drop a).take k) : Int) := ⟨_, rfl⟩
  rw [← hx] at HL ⊢
  have G0 := hidM (gr_alloc w (.cells #[.slice ao l.length cap, .int .i64 0, .pointer none] 94))
  clear hs hb hx h
  go_enter Tryz.func93, Tryz.ntmps93
  go_wp2_with (go_at_call 71; refine Hid.out ?_)
  unfold Hid
  refine Calls.mono (HW.out _) ?_
  rintro e W1 ⟨rfl, rfl⟩
  go_wp2_with (go_at_call 105; refine Hid.out ?_)
  unfold Hid
  refine Calls.mono (HR.out _) ?_
  rintro e W2 ⟨⟨ao', c', rfl, -, hb'⟩, g2⟩
  have HG2 := hidM (G0.out.tr g2)
  have HB2 := hidM (hb' W2 l rfl (HB.out.gr HG2.out))
  clear g2 hb'
  go_wp2_with (go_at_call 106; refine Hid.out ?_)
  unfold Hid
  refine Calls.mono (HL.out _ _ _ HB2.out) ?_
  rintro e W3 ⟨rfl, rfl⟩
  go_wp2_with fail
  go_ret2
  exact ⟨rfl, HG2.out⟩
theorem load_out {ao : Option Addr} {cap a k n : Nat} {w : World} (hk : k = 1 ∨ k = 2 ∨ k = 4) (h : n < a + k) :
    Calls Tryz.prog 93 #[.agg #[.slice ao n cap, .int .i64 0, .pointer none], .int .i64 a, .int .i64 k] w fun e w' => e = .returned (.tuple #[.int .u64 0, .int .i64 2]) ∧ Gr w w' := by
  have HW : Hid (∀ V, Calls Tryz.prog 71 #[.int .i64 k] V fun e w' => e = .returned (.bool true) ∧ V = w') := fun V => isWidth_any k hk V
  have HR : Hid (∀ V, Calls Tryz.prog 105 #[.agg #[.slice ao n cap, .int .i64 0, .pointer none], .int .i64 a, .int .i64 k] V fun e w' => e = .returned (.tuple #[.slice none 0 0, .bool false]) ∧ Gr V w') := fun V => read_out ao n cap a k V (by omega)
  have G0 := hidM (gr_alloc w (.cells #[.slice ao n cap, .int .i64 0, .pointer none] 94))
  clear h
  go_enter Tryz.func93, Tryz.ntmps93
  go_wp2_with (go_at_call 71; refine Hid.out ?_)
  unfold Hid
  refine Calls.mono (HW.out _) ?_
  rintro e W1 ⟨rfl, rfl⟩
  go_wp2_with (go_at_call 105; refine Hid.out ?_)
  unfold Hid
  refine Calls.mono (HR.out _) ?_
  rintro e W2 ⟨rfl, g2⟩
  have HG2 := hidM (G0.out.tr g2)
  clear g2
  go_wp2_with fail
  go_ret2
  exact ⟨rfl, HG2.out⟩
theorem ne_nil {l : List UInt8} {i : Nat} (h : i < l.length) : l ≠ [] := fun e => by subst e; simp at h
theorem bytes_string {W : World} {vo : Option Addr} {vc : Nat} {bs : List UInt8} (h : BytesAt W vo bs) : (convert 30 9 (.slice vo bs.length vc)).run Tryz.prog W = .ok (.string ⟨bs.toArray⟩) W := by
  cases vo with
  | none =>
    have : bs = [] := by
      cases bs with
      | nil => rfl
      | cons x l => obtain ⟨b, o, e, -⟩ := h (by simp); cases e
    subst this
    exact Go.Lib.run_convert_nil_bytes W 30 9 5 vc Tryz.underlying30 Tryz.underlying5 Tryz.underlying9
  | some a =>
    refine run_convert_bytes_back W 30 9 5 a vc bs Tryz.underlying30 Tryz.underlying5 Tryz.underlying9 fun j hj => ?_
    obtain ⟨b, o, e, hc⟩ := h (ne_nil hj)
    cases e
    rw [show (⟨b, o, none⟩ : Addr).add j = ⟨b, o + j, none⟩ by simp [Addr.add]]
    exact hc j hj
theorem vtext_in {ao : Option Addr} {cap a k : Nat} {l : List UInt8} {w : World} (hs : SForm ao l.length cap) (h : a + k ≤ l.length) (hb : BytesAt w ao l) :
    Calls Tryz.prog 109 #[.agg #[.slice ao l.length cap, .int .i64 0, .pointer none], .int .i64 a, .int .i64 k] w fun e w' => e = .returned (.tuple #[.string ⟨((l.drop a).take k).toArray⟩, .int .i64 0]) ∧ Gr w w' := by
  have hl : ((l.drop a).take k).length = k := by simp; omega
  have HR : Hid (∀ V, Calls Tryz.prog 105 #[.agg #[.slice ao l.length cap, .int .i64 0, .pointer none], .int .i64 a, .int .i64 k] V fun e w' => ReadOk e ao l.length a k ∧ Gr V w') := fun V => read_in ao l.length cap a k V hs h
  have HB := hidM hb
  have HC : Hid (∀ V ao' c', BytesAt V ao' ((l.drop a).take k) → (convert 30 9 (.slice ao' k c')).run Tryz.prog V = .ok (.string ⟨((l.drop a).take k).toArray⟩) V) := fun V ao' c' hb' => by
    have := bytes_string (vc := c') hb'
    rwa [hl] at this
  obtain ⟨x, hx⟩ : ∃ x : ByteArray, x = ⟨((l.drop a).take k).toArray⟩ := ⟨_, rfl⟩
  rw [← hx] at HC ⊢
  have G0 := hidM (gr_alloc w (.cells #[.slice ao l.length cap, .int .i64 0, .pointer none] 94))
  clear hs hb hx h
  go_enter Tryz.func109, Tryz.ntmps109
  go_wp2_with (go_at_call 105; refine Hid.out ?_)
  unfold Hid
  refine Calls.mono (HR.out _) ?_
  rintro e W2 ⟨⟨ao', c', rfl, -, hb'⟩, g2⟩
  have HG2 := hidM (G0.out.tr g2)
  have hcv := HC.out W2 ao' c' (hb' W2 l rfl (HB.out.gr HG2.out))
  clear g2 hb'
  go_wp2_with fail
  go_ret2
  exact ⟨rfl, HG2.out⟩
theorem vtext_out {ao : Option Addr} {cap a k n : Nat} {w : World} (h : n < a + k) :
    Calls Tryz.prog 109 #[.agg #[.slice ao n cap, .int .i64 0, .pointer none], .int .i64 a, .int .i64 k] w fun e w' => e = .returned (.tuple #[.string ⟨#[]⟩, .int .i64 2]) ∧ Gr w w' := by
  have HR : Hid (∀ V, Calls Tryz.prog 105 #[.agg #[.slice ao n cap, .int .i64 0, .pointer none], .int .i64 a, .int .i64 k] V fun e w' => e = .returned (.tuple #[.slice none 0 0, .bool false]) ∧ Gr V w') := fun V => read_out ao n cap a k V (by omega)
  have G0 := hidM (gr_alloc w (.cells #[.slice ao n cap, .int .i64 0, .pointer none] 94))
  clear h
  go_enter Tryz.func109, Tryz.ntmps109
  go_wp2_with (go_at_call 105; refine Hid.out ?_)
  unfold Hid
  refine Calls.mono (HR.out _) ?_
  rintro e W2 ⟨rfl, g2⟩
  have HG2 := hidM (G0.out.tr g2)
  clear g2
  go_wp2_with fail
  go_ret2
  exact ⟨rfl, HG2.out⟩
end Go.Proofs.YtdihbfjjddmbiaaGreatDoor.Kit
