import Derived.Test.YtemleibpmaclmaaFA
import Derived.Test.YtemleibpmaclmaaFC
namespace Go.Proofs.Ytemleibpmaclmaa.Kit
open Go.RowKit Go.Shelf Go.Deep
set_option linter.unusedVariables false
def sumB (l : List Int) : Bool := l.all (fun x => decide (0 ≤ x)) && decide (l.sum ≤ 9223372036854775807)
def sumV (l : List Int) : Int := if sumB l = true then l.sum else 0

theorem sumB_iff (l : List Int) : sumB l = true ↔ (∀ x ∈ l, 0 ≤ x) ∧ l.sum ≤ 9223372036854775807 := by
  simp [sumB]
theorem sumB_iff' (l : List Int) : sumB l = false ↔ ¬ ((∀ x ∈ l, 0 ≤ x) ∧ l.sum ≤ 9223372036854775807) := by
  rw [← sumB_iff]; simp
theorem sum_nonneg : ∀ (l : List Int), (∀ x ∈ l, 0 ≤ x) → 0 ≤ l.sum
  | [], _ => by simp
  | x :: r, h => by
    have h1 := h x (by simp)
    have h2 := sum_nonneg r fun y hy => h y (by simp [hy])
    simp only [List.sum_cons]; omega
theorem take_succ_sum (l : List Int) (k : Nat) (hk : k < l.length) : (l.take (k + 1)).sum = (l.take k).sum + l.getD k 0 := by
  rw [List.take_succ_eq_append_getElem hk, List.sum_append]
  simp [List.getD, List.getElem?_eq_getElem hk]
theorem take_sum_le (l : List Int) (k : Nat) (h : ∀ x ∈ l, 0 ≤ x) : (l.take k).sum ≤ l.sum := by
  have e : l.sum = (l.take k).sum + (l.drop k).sum := by rw [← List.sum_append, List.take_append_drop]
  have := sum_nonneg (l.drop k) fun y hy => h y (List.mem_of_mem_drop hy)
  omega
theorem fail_neg (l : List Int) (k : Nat) (hk : k < l.length) (h : l.getD k 0 < 0) : sumB l = false := by
  rw [sumB_iff']; rintro ⟨a, _⟩
  have := a (l[k]) (List.getElem_mem hk)
  simp [List.getD, List.getElem?_eq_getElem hk] at h
  omega
theorem fail_big (l : List Int) (k : Nat) (hk : k < l.length) (h : 9223372036854775807 < (l.take k).sum + l.getD k 0) : sumB l = false := by
  rw [sumB_iff']; rintro ⟨a, b⟩
  have h1 := take_succ_sum l k hk
  have h2 := take_sum_le l (k + 1) a
  omega
theorem good_all (l : List Int) (h : ∀ j, j < l.length → 0 ≤ l.getD j 0) (hs : l.sum ≤ 9223372036854775807) : sumB l = true := by
  rw [sumB_iff]
  refine ⟨fun x hx => ?_, hs⟩
  obtain ⟨j, hj, rfl⟩ := List.getElem_of_mem hx
  have := h j hj
  simpa [List.getD, List.getElem?_eq_getElem hj] using this
theorem sumV_yes {l : List Int} (h : sumB l = true) : sumV l = l.sum := by simp [sumV, h]
theorem sumV_no {l : List Int} (h : sumB l = false) : sumV l = 0 := by simp [sumV, h]

theorem ret2 {k : IntKind} {a b : Int} {x y : Bool} (h : a = b) (g : x = y) : Ending.returned (.tuple #[.int k a, .bool x]) = .returned (.tuple #[.int k b, .bool y]) := by rw [h, g]

set_option maxHeartbeats 400000 in
/-- view.Sum, of a row that lies somewhere -/
theorem sum_some (b off len cap : Nat) (l : List Int) (w : World) (hl : l.length = len) (hlen : len ≤ 9223372036854775807)
    (hc : ∀ k, k < len → w.cell? ⟨b, off + k, none⟩ = some (.int .i64 (l.getD k 0))) :
    Calls Try.prog 74 #[.slice (some ⟨b, off, none⟩) len cap] w fun e w' => e = .returned (.tuple #[.int .i64 (sumV l), .bool (sumB l)]) ∧ w' = w := by
  have HL : Hid (l.length = len) := hl
  clear hl
  go_enter Try.func74, Try.ntmps74
  go_wp2
  go_loop [4, 9] (fun s i => ∃ (k : Nat) (t : Int), k ≤ len ∧ i = .int .i64 k ∧ s = .int .i64 t ∧ 0 ≤ t ∧ t ≤ 9223372036854775807 ∧ Hid (t = (l.take k).sum) ∧ Hid (∀ j, j < k → 0 ≤ l.getD j 0)) (fun _ i => len - (intOf i).toNat)
  case atStart => exact ⟨0, 0, Nat.zero_le _, rfl, rfl, by omega, by omega, (by simp : (0 : Int) = _), fun j hj => absurd hj (by omega)⟩
  case round =>
    obtain ⟨k, t, hk, rfl, rfl, ht0, ht1, HT, HN⟩ := hrel
    by_cases hlt : k < len
    · have hx := hc k hlt
      obtain ⟨x, hxx⟩ : ∃ x, x = l.getD k 0 := ⟨_, rfl⟩
      rw [← hxx] at hx
      have HX : Hid (x = l.getD k 0) := hxx
      clear hxx hc
      by_cases h1 : x < 0
      · go_wp2
        go_ret2
        have e := fail_neg l k (by rw [HL.out]; exact hlt) (by rw [← HX.out]; exact h1)
        exact ⟨ret2 (sumV_no e).symm e.symm, rfl⟩
      · by_cases h2 : 9223372036854775807 - t < x
        · go_wp2
          go_ret2
          have e := fail_big l k (by rw [HL.out]; exact hlt) (by rw [← HX.out, ← HT.out]; omega)
          exact ⟨ret2 (sumV_no e).symm e.symm, rfl⟩
        · go_wp2
          go_round
          case rel =>
            refine ⟨k + 1, t + x, by omega, by go_num, by go_num, by omega, by omega, ?_, ?_⟩
            · show _ = _
              rw [take_succ_sum l k (by rw [HL.out]; exact hlt), ← HX.out, ← HT.out]
            · intro j hj
              by_cases hjk : j = k
              · subst hjk; rw [← HX.out]; omega
              · exact HN.out j (by omega)
          case measure => simp [intOf]; omega
    · obtain rfl : k = len := by omega
      have e : sumB l = true := good_all l (by rw [HL.out]; exact HN.out) (by have := HT.out; rw [List.take_of_length_le (by rw [HL.out]; omega)] at this; omega)
      have ev : sumV l = t := by rw [sumV_yes e, HT.out, List.take_of_length_le (by rw [HL.out]; omega)]
      have HE : Hid (sumB l = true) := e
      have HEV : Hid (sumV l = t) := ev
      clear e ev
      go_wp2
      go_ret2
      exact ⟨ret2 HEV.out.symm HE.out.symm, rfl⟩

/-- a view as a value -/
def viewV (ao : Option Addr) (n cap : Nat) (place : Int) (q : Option Nat) : Value := .agg #[.slice ao n cap, .int .i64 place, .pointer (q.map fun b => ⟨b, 0, none⟩)]

theorem sum_in (a b : Int) (ha : 0 ≤ a) (hb : 0 ≤ b) (h : a + b ≤ 9223372036854775807) : sumB [a, b] = true ∧ sumV [a, b] = a + b := by
  have e : sumB [a, b] = true := (sumB_iff _).2 ⟨by simp [ha, hb], by simp; omega⟩
  exact ⟨e, by rw [sumV_yes e]; simp⟩
theorem sum_pair (b off cap : Nat) (x y : Int) (w : World) (h0 : w.cell? ⟨b, off, none⟩ = some (.int .i64 x)) (h1 : w.cell? ⟨b, off + 1, none⟩ = some (.int .i64 y)) :
    Calls Try.prog 74 #[.slice (some ⟨b, off, none⟩) 2 cap] w fun e w' => e = .returned (.tuple #[.int .i64 (sumV [x, y]), .bool (sumB [x, y])]) ∧ w = w' := by
  refine (sum_some b off 2 cap [x, y] w rfl (by omega) ?_).mono fun e w' h => ⟨h.1, h.2.symm⟩
  intro k hk
  match k, hk with
  | 0, _ => simpa using h0
  | 1, _ => simpa using h1

set_option maxRecDepth 100000 in
set_option maxHeartbeats 400000 in
theorem end_in (ao : Option Addr) (n cap : Nat) (place : Int) (q : Option Nat) (a b : Int) (w : World) (hn : n ≤ 9223372036854775807) (ha : 0 ≤ a) (hb : 0 ≤ b) (h : a + b ≤ n) :
    Calls Try.prog 72 #[viewV ao n cap place q, .int .i64 a, .int .i64 b] w fun e w' => e = .returned (.tuple #[.int .i64 (a + b), .bool true]) ∧ Keeps w w' (fun _ => False) := by
  obtain ⟨e1, e2⟩ := sum_in a b ha hb (by omega)
  unfold viewV
  go_enter Try.func72, Try.ntmps72
  go_wp2_with (first | (go_at_call 74; refine (sum_pair _ _ _ a b _ (by go_simp) (by go_simp)).mono ?_; rintro e w' ⟨rfl, rfl⟩))
  go_quiet (fail)
  go_wp2
  go_ret2
  exact ⟨rfl, (((Keeps.refl _ _).alloc _).alloc _).drewN _⟩

theorem tell_none (ao : Option Addr) (n cap : Nat) (place a b : Int) (w : World) :
    Calls Try.prog 73 #[viewV ao n cap place none, .int .i64 a, .int .i64 b] w fun e w' => e = .returned (.tuple #[]) ∧ Keeps w w' (fun _ => False) := by
  unfold viewV
  go_enter Try.func73, Try.ntmps73
  go_wp2
  go_end0
  exact ⟨rfl, (Keeps.refl _ _).alloc _⟩

/-- the number in bytes, the lowest first -/
def leVal (l : List Int) : Int := l.foldr (fun c r => c + 256 * r) 0
theorem leVal_append (a b : List Int) : leVal (a ++ b) = leVal a + 256 ^ a.length * leVal b := by
  induction a with
  | nil => simp [leVal]
  | cons c r ih =>
    have e : leVal (c :: r ++ b) = c + 256 * leVal (r ++ b) := rfl
    have e2 : leVal (c :: r) = c + 256 * leVal r := rfl
    rw [e, ih, e2, List.length_cons, Int.pow_succ, Int.mul_add, Int.add_assoc]
    congr 2
    rw [Int.mul_comm (256 ^ r.length) 256, Int.mul_assoc]
theorem leVal_bd (l : List Int) (h : ∀ c ∈ l, 0 ≤ c ∧ c < 256) : 0 ≤ leVal l ∧ leVal l < 256 ^ l.length := by
  induction l with
  | nil => simp [leVal]
  | cons c r ih =>
    have e2 : leVal (c :: r) = c + 256 * leVal r := rfl
    have h1 := h c (by simp)
    have h2 := ih fun d hd => h d (by simp [hd])
    rw [e2, List.length_cons, Int.pow_succ]
    generalize (256 : Int) ^ r.length = P at *
    omega
theorem pow256_le (k : Nat) (h : k ≤ 8) : (256 : Int) ^ k ≤ 18446744073709551616 := by
  have : k = 0 ∨ k = 1 ∨ k = 2 ∨ k = 3 ∨ k = 4 ∨ k = 5 ∨ k = 6 ∨ k = 7 ∨ k = 8 := by omega
  rcases this with rfl | rfl | rfl | rfl | rfl | rfl | rfl | rfl | rfl <;> decide
theorem or_step (y z : Int) (k : Nat) (hk : k < 8) (hy0 : 0 ≤ y) (hy1 : y < 256 ^ k) (hz0 : 0 ≤ z) (hz1 : z < 256) :
    bits BinOp.or IntKind.u64 y (IntKind.u64.wrap (IntKind.u64.wrap z * 2 ^ (8 * k))) = y + 256 ^ k * z := by
  have hp : (2 : Int) ^ (8 * k) = 256 ^ k := by rw [Int.pow_mul]; rfl
  have hP := pow256_le (k + 1) (by omega)
  have hP0 : (0 : Int) < 256 ^ k := Int.pow_pos (by decide)
  rw [Int.pow_succ] at hP
  have w1 : IntKind.u64.wrap z = z := by simp [IntKind.wrap, IntKind.bits, IntKind.signed]; omega
  have hb : 0 ≤ z * 256 ^ k ∧ z * 256 ^ k < 18446744073709551616 := by
    refine ⟨Int.mul_nonneg hz0 (by omega), ?_⟩
    have : z * 256 ^ k ≤ 255 * 256 ^ k := Int.mul_le_mul_of_nonneg_right (by omega) (by omega)
    omega
  have w2 : IntKind.u64.wrap (z * 256 ^ k) = z * 256 ^ k := by simp [IntKind.wrap, IntKind.bits, IntKind.signed]; omega
  rw [w1, hp, w2]
  obtain ⟨Y, rfl⟩ : ∃ Y : Nat, y = Y := ⟨y.toNat, by omega⟩
  obtain ⟨Z, rfl⟩ : ∃ Z : Nat, z = Z := ⟨z.toNat, by omega⟩
  have e : ((Z : Int) * 256 ^ k) = ((Z * 256 ^ k : Nat) : Int) := by rw [Int.natCast_mul, Int.natCast_pow]; rfl
  have hyn : Y < 256 ^ k := by
    have : ((256 ^ k : Nat) : Int) = (256 : Int) ^ k := by rw [Int.natCast_pow]; rfl
    omega
  rw [e, bits_or_u64_nat Y (Z * 256 ^ k) (by omega) (by omega)]
  have hyn' : Y < 2 ^ (8 * k) := by rw [Nat.pow_mul]; exact hyn
  have := Nat.two_pow_add_eq_or_of_lt hyn' Z
  have e3 : (2 : Nat) ^ (8 * k) = 256 ^ k := by rw [Nat.pow_mul]
  rw [e3] at this
  rw [Nat.or_comm, Nat.mul_comm, ← this, Int.natCast_add, Int.natCast_mul, Int.natCast_pow, Int.add_comm]
  rfl
theorem ret_int {k : IntKind} {a b : Int} (h : a = b) : Ending.returned (.int k a) = .returned (.int k b) := by rw [h]
theorem take_snoc_getD (l : List Int) (k : Nat) (h : k < l.length) : l.take (k + 1) = l.take k ++ [l.getD k 0] := by
  rw [List.take_succ_eq_append_getElem h]; simp [List.getD, List.getElem?_eq_getElem h]

set_option maxHeartbeats 1000000 in
theorem lowest_some (b off m cap : Nat) (l : List Int) (w : World) (hm : m ≤ 8) (hl : l.length = m) (hb : ∀ c ∈ l, 0 ≤ c ∧ c < 256) (hc : ∀ k, k < m → w.cell? ⟨b, off + k, none⟩ = some (.int .u8 (l.getD k 0))) :
    Calls Try.prog 71 #[.slice (some ⟨b, off, none⟩) m cap] w fun e w' => e = .returned (.int .u64 (leVal l)) ∧ w = w' := by
  have HL : Hid (l.length = m) := hl
  have HB : Hid (∀ c ∈ l, 0 ≤ c ∧ c < 256) := hb
  clear hl hb
  go_enter Try.func71, Try.ntmps71
  go_wp2
  go_loop [3, 8] (fun x i => ∃ (k : Nat) (y : Int), k ≤ m ∧ i = .int .i64 k ∧ x = .int .u64 y ∧ Hid (y = leVal (l.take k))) (fun _ i => m - (intOf i).toNat)
  case atStart => exact ⟨0, 0, Nat.zero_le _, rfl, rfl, rfl⟩
  case round =>
    obtain ⟨k, y, hk, rfl, rfl, HY⟩ := hrel
    by_cases hlt : k < m
    · have h1 := hc k hlt
      have hkl : k < l.length := by rw [HL.out]; exact hlt
      obtain ⟨z, hz⟩ : ∃ z, z = l.getD k 0 := ⟨_, rfl⟩
      rw [← hz] at h1
      have hz0 : 0 ≤ z ∧ z < 256 := by
        rw [hz]; simp only [List.getD, List.getElem?_eq_getElem hkl, Option.getD_some]; exact HB.out _ (List.getElem_mem hkl)
      have hy := leVal_bd (l.take k) (fun c hc => HB.out c (List.mem_of_mem_take hc))
      rw [← HY.out, List.length_take, Nat.min_eq_left (by omega)] at hy
      have hor := or_step y z k (by omega) hy.1 hy.2 hz0.1 hz0.2
      have HOR : Hid (bits BinOp.or IntKind.u64 y (IntKind.u64.wrap (IntKind.u64.wrap z * 2 ^ (8 * k))) = y + 256 ^ k * z) := hor
      have HT : Hid (leVal (l.take (k + 1)) = y + 256 ^ k * z) := by
        show _ = _
        rw [take_snoc_getD l k hkl, leVal_append, ← HY.out, List.length_take, Nat.min_eq_left (by omega), ← hz]
        simp [leVal]
      clear hc hz hz0 hy hor hkl
      go_wp2
      go_round
      case rel => exact ⟨k + 1, _, by omega, by go_num, rfl, (HOR.out.trans HT.out.symm)⟩
      case measure => simp [intOf]; omega
    · obtain rfl : k = m := by omega
      go_wp2
      go_ret
      have HE : y = leVal l := by rw [HY.out, List.take_of_length_le (by rw [HL.out]; exact Nat.le_refl _)]
      exact ⟨ret_int HE, rfl⟩
set_option maxRecDepth 100000 in
theorem of_any (ao : Option Addr) (n cap : Nat) (w : World) :
    Calls Try.prog 68 #[.slice ao n cap] w fun e w' => e = .returned (viewV ao n cap 0 none) ∧ Keeps w w' (fun _ => False) := by
  unfold viewV
  go_enter Try.func68, Try.ntmps68
  go_wp2
  exact bodyPost_ret (v := .agg #[.slice ao n cap, .int .i64 0, .pointer none]) (by simp [results, Try.results68, go_sem]) rfl ⟨rfl, (Keeps.refl _ _).alloc _⟩

def num4 (l : List UInt8) (a : Nat) : Nat := (l.getD a 0).toNat + 256 * (l.getD (a + 1) 0).toNat + 65536 * (l.getD (a + 2) 0).toNat + 16777216 * (l.getD (a + 3) 0).toNat
theorem num4_lt (l : List UInt8) (a : Nat) : num4 l a < 4294967296 := by
  have h0 := (l.getD a 0).toNat_lt
  have h1 := (l.getD (a + 1) 0).toNat_lt
  have h2 := (l.getD (a + 2) 0).toNat_lt
  have h3 := (l.getD (a + 3) 0).toNat_lt
  unfold num4
  omega
theorem ce3' {W : World} {B t : Nat} {x y z : Value} (h : W.heap[B]? = some (.cells #[x, y, z] t)) : W.cell? ⟨B, 0, none⟩ = some x ∧ W.cell? ⟨B, 1, none⟩ = some y ∧ W.cell? ⟨B, 2, none⟩ = some z := by simp [World.cell?, h]
set_option maxRecDepth 100000 in
set_option maxHeartbeats 2000000 in
theorem read4 (b off n cap a : Nat) (w : World) (hn : n ≤ 1000000) (hc : n ≤ cap) (hcap : cap ≤ 9223372036854775807) (h : a + 4 ≤ n) :
    Calls Try.prog 70 #[.agg #[.slice (some ⟨b, off, none⟩) n cap, .int .i64 0, .pointer none], .int .i64 (a : Int), .int .i64 4] w fun e w' => e = .returned (.tuple #[.slice (some ⟨b, off + a, none⟩) 4 (cap - a), .bool true]) ∧ Gr w w' := by
  have hbx := heap_alloc_new w (.cells #[.slice (some ⟨b, off, none⟩) n cap, .int .i64 0, .pointer none] 108)
  obtain ⟨b0, b1, b2⟩ := ce3' hbx
  have G0 := hidM (gr_alloc w (.cells #[.slice (some ⟨b, off, none⟩) n cap, .int .i64 0, .pointer none] 108))
  have H1 : Hid (∀ V, Calls Try.prog 72 #[.agg #[.slice (some ⟨b, off, none⟩) n cap, .int .i64 0, .pointer none], .int .i64 (a : Int), .int .i64 4] V fun e w' => e = .returned (.tuple #[.int .i64 ((a : Int) + 4), .bool true]) ∧ Gr V w') := fun V => end_in (some ⟨b, off, none⟩) n cap 0 none (a : Int) 4 V (by omega) (by omega) (by omega) (by omega)
  have H2 : Hid (∀ V, Calls Try.prog 73 #[.agg #[.slice (some ⟨b, off, none⟩) n cap, .int .i64 0, .pointer none], .int .i64 (a : Int), .int .i64 ((a : Int) + 4)] V fun e w' => e = .returned (.tuple #[]) ∧ Gr V w') := fun V => tell_none (some ⟨b, off, none⟩) n cap 0 (a : Int) ((a : Int) + 4) V
  have hca : ¬ cap = a := by omega
  have ha0 : (0 : Int) ≤ (a : Int) := by omega
  have ha4 : (a : Int) ≤ (a : Int) + 4 := by omega
  have ha5 : (a : Int) + 4 ≤ (cap : Int) := by omega
  clear hbx
  go_enter Try.func70, Try.ntmps70
  go_wp2_with (go_at_call 72; refine Hid.out ?_)
  unfold Hid
  refine Calls.mono (H1.out _) ?_
  rintro e W1 ⟨rfl, g1⟩
  have t0 := g1.cell' b0 id
  have t1 := g1.cell' b1 id
  have t2 := g1.cell' b2 id
  have HG1 := hidM (G0.out.trans g1 (fun _ _ h => h))
  clear g1 b0 b1 b2
  go_wp2_with (go_at_call 73; refine Hid.out ?_)
  unfold Hid
  refine Calls.mono (H2.out _) ?_
  rintro e W2 ⟨rfl, g2⟩
  have u0 := g2.cell' t0 id
  have HG2 := hidM (HG1.out.trans g2 (fun _ _ h => h))
  clear g2 t0 t1 t2
  go_wp2_with fail
  have e4 : ((a : Int) + 4 - (a : Int)).toNat = 4 := by omega
  refine bodyPost_ret (v := .tuple #[.slice (some ⟨b, off + a, none⟩) 4 (cap - a), .bool true]) ?_ rfl ⟨rfl, HG2.out⟩
  simp [results, Try.f70, go_sem]
set_option maxRecDepth 100000 in
set_option maxHeartbeats 2000000 in
theorem load4 {b off n cap a : Nat} {w : World} {l : List UInt8} (hl : l.length = n) (hn : n ≤ 1000000) (hc : n ≤ cap) (hcap : cap ≤ 9223372036854775807) (h : a + 4 ≤ n) (hb : BytesAt w (some ⟨b, off, none⟩) l) :
    Calls Try.prog 69 #[.agg #[.slice (some ⟨b, off, none⟩) n cap, .int .i64 0, .pointer none], .int .i64 (a : Int), .int .i64 4] w fun e w' => e = .returned (.tuple #[.int .u64 (num4 l a : Int), .int .i64 0]) ∧ Gr w w' := by
  have G0 := hidM (gr_alloc w (.cells #[.slice (some ⟨b, off, none⟩) n cap, .int .i64 0, .pointer none] 108))
  have hbx := heap_alloc_new w (.cells #[.slice (some ⟨b, off, none⟩) n cap, .int .i64 0, .pointer none] 108)
  obtain ⟨b0, b1, b2⟩ := ce3' hbx
  have HW : Hid (∀ V, Calls Try.prog 57 #[.int .i64 4] V fun e w' => e = .returned (.bool true) ∧ V = w') := fun V => isWidth_any 4 V
  have HR : Hid (∀ V, Calls Try.prog 70 #[.agg #[.slice (some ⟨b, off, none⟩) n cap, .int .i64 0, .pointer none], .int .i64 (a : Int), .int .i64 4] V fun e w' => e = .returned (.tuple #[.slice (some ⟨b, off + a, none⟩) 4 (cap - a), .bool true]) ∧ Gr V w') := fun V => read4 b off n cap a V hn hc hcap h
  have HL : Hid (∀ V, Gr w V → Calls Try.prog 71 #[.slice (some ⟨b, off + a, none⟩) 4 (cap - a)] V fun e w' => e = .returned (.int .u64 (num4 l a : Int)) ∧ V = w') := fun V g => by
    obtain ⟨b', o', e', hc'⟩ := (hb.gr g).at (ne_nil (i := a) (by omega))
    cases e'
    refine (lowest_some b (off + a) 4 (cap - a) [((l.getD a 0).toNat : Int), ((l.getD (a + 1) 0).toNat : Int), ((l.getD (a + 2) 0).toNat : Int), ((l.getD (a + 3) 0).toNat : Int)] V (by omega) rfl (fun c hc => ?_) (fun k hk => ?_)).mono ?_
    · simp only [List.mem_cons, List.not_mem_nil, or_false] at hc
      have h0 := (l.getD a 0).toNat_lt
      have h1 := (l.getD (a + 1) 0).toNat_lt
      have h2 := (l.getD (a + 2) 0).toNat_lt
      have h3 := (l.getD (a + 3) 0).toNat_lt
      omega
    · have := hc' (a + k) (by omega)
      rw [← Nat.add_assoc] at this
      rw [this]
      match k, hk with
      | 0, _ => rfl
      | 1, _ => rfl
      | 2, _ => rfl
      | 3, _ => rfl
    · rintro e w' ⟨rfl, rfl⟩
      refine ⟨ret_int ?_, rfl⟩
      simp only [leVal, List.foldr_cons, List.foldr_nil, num4]
      omega
  clear hbx b0 b1 b2 hb
  obtain ⟨x, hx⟩ : ∃ x : Int, x = (num4 l a : Int) := ⟨_, rfl⟩
  rw [← hx] at HL ⊢
  clear hx
  go_enter Try.func69, Try.ntmps69
  go_wp2_with (go_at_call 57; refine Hid.out ?_)
  unfold Hid
  refine Calls.mono (HW.out _) ?_
  rintro e W1 ⟨rfl, rfl⟩
  go_wp2_with (go_at_call 70; refine Hid.out ?_)
  unfold Hid
  refine Calls.mono (HR.out _) ?_
  rintro e W2 ⟨rfl, g2⟩
  have HG2 := hidM (G0.out.trans g2 (fun _ _ h => h))
  clear g2
  go_wp2_with (go_at_call 71; refine Hid.out ?_)
  unfold Hid
  refine Calls.mono (HL.out _ HG2.out) ?_
  rintro e W3 ⟨rfl, rfl⟩
  go_wp2_with fail
  refine bodyPost_ret (v := .tuple #[.int .u64 x, .int .i64 0]) ?_ rfl ⟨rfl, HG2.out⟩
  simp [results, Try.f69, go_sem]
set_option maxRecDepth 100000 in
set_option maxHeartbeats 2000000 in
theorem number_any {p : Nat} {ho : Option Addr} {hc n a : Nat} {w : World} {l : List UInt8} (hl : l.length = n) (hn : n ≤ 1000000) (hcc : n ≤ hc) (hcap : hc ≤ 9223372036854775807) (h : a + 4 ≤ n) (hb : BytesAt w ho l) (hp : w.cell? ⟨p, 4, none⟩ = some (.slice ho n hc)) :
    Calls Try.prog 66 #[.pointer (some ⟨p, 0, none⟩), .int .i64 (a : Int)] w fun e w' => e = .returned (.int .u32 (num4 l a : Int)) ∧ Gr w w' := by
  obtain ⟨b, off, rfl, -⟩ := hb (fun e => by rw [e] at hl; simp at hl; omega)
  have HO : Hid (∀ V, Calls Try.prog 68 #[.slice (some ⟨b, off, none⟩) n hc] V fun e w' => e = .returned (.agg #[.slice (some ⟨b, off, none⟩) n hc, .int .i64 0, .pointer none]) ∧ Gr V w') := fun V => of_any _ n hc V
  have HL : Hid (∀ V, Gr w V → Calls Try.prog 69 #[.agg #[.slice (some ⟨b, off, none⟩) n hc, .int .i64 0, .pointer none], .int .i64 (a : Int), .int .i64 4] V fun e w' => e = .returned (.tuple #[.int .u64 (num4 l a : Int), .int .i64 0]) ∧ Gr V w') := fun V g => load4 hl hn hcc hcap h (hb.gr g)
  have hlt := num4_lt l a
  obtain ⟨x, hx⟩ : ∃ x : Int, x = (num4 l a : Int) := ⟨_, rfl⟩
  have hw : IntKind.u32.wrap x = x := by rw [IntKind.wrap_u32]; omega
  rw [← hx] at HL ⊢
  clear hx hb hlt
  go_enter Try.func66, Try.ntmps66
  go_wp2_with (go_at_call 68; refine Hid.out ?_)
  unfold Hid
  refine Calls.mono (HO.out _) ?_
  rintro e W1 ⟨rfl, g1⟩
  have HG1 := hidM g1
  clear g1
  go_wp2_with (go_at_call 69; refine Hid.out ?_)
  unfold Hid
  refine Calls.mono (HL.out _ HG1.out) ?_
  rintro e W2 ⟨rfl, g2⟩
  have HG2 := hidM (HG1.out.trans g2 (fun _ _ h => h))
  clear g2
  go_wp2_with fail
  go_ret
  exact ⟨rfl, HG2.out⟩

end Go.Proofs.Ytemleibpmaclmaa.Kit
