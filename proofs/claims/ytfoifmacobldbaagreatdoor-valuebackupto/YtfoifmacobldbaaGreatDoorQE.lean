import Derived.Lib.ParseIntB
import Derived.Lib.ItoaNum
import Derived.Test.YtfoifmacobldbaaGreatDoorQB
import Derived.Test.YtfoifmacobldbaaGreatDoorQA
import Derived.Lib.ValidLaws
namespace Go.Proofs.YtfoifmacobldbaaGreatDoor.QC
open Go.Proofs.YtfoifmacobldbaaGreatDoor.Kit
open Go.Lib Go.Proofs.YtfoifmacobldbaaGreatDoor.QB
set_option linter.unusedVariables false
/-! ### numbers there and back -/
theorem parseM_append (M : Nat) : ∀ (l r : List UInt8) (a v : Nat), parseUintM M a l = .ok v → parseUintM M a (l ++ r) = parseUintM M v r
  | [], r, a, v, h => by
    simp only [parseUintM] at h
    injection h with h
    subst h
    rfl
  | c :: l, r, a, v, h => by
    simp only [parseUintM, List.cons_append] at h ⊢
    split at h
    · rename_i hc
      rw [if_pos hc]
      split at h
      · cases h
      · rename_i h1
        rw [if_neg h1]
        split at h
        · cases h
        · rename_i h2
          rw [if_neg h2]
          exact parseM_append M l r _ v h
    · cases h
theorem dig_val {d : Nat} (h : d < 10) : (UInt8.ofNat (48 + d)).toNat = 48 + d := by
  simp [UInt8.toNat_ofNat']
  omega
theorem parse_dec (M : Nat) (hM : M ≤ 18446744073709551615) : ∀ (u : Nat), u ≤ M → parseUintM M 0 (decDigits u) = .ok u := by
  intro u
  induction u using Nat.strongRecOn with
  | ind u ih =>
    intro hu
    rw [decDigits]
    split
    · rename_i h
      have hv := dig_val h
      simp only [parseUintM]
      rw [hv, if_pos (by omega), if_neg (by omega), if_neg (by omega)]
      congr 1
      omega
    · rename_i h
      have h1 := ih (u / 10) (by omega) (by omega)
      rw [parseM_append M _ _ _ _ h1]
      have hv := dig_val (show u % 10 < 10 by omega)
      simp only [parseUintM]
      rw [hv, if_pos (by omega), if_neg (by omega), if_neg (by omega)]
      congr 1
      omega
theorem dec_ne (u : Nat) : decDigits u ≠ [] := by
  rw [decDigits]
  split <;> simp
theorem dec_row : ∀ (u : Nat), ∀ c ∈ decDigits u, 48 ≤ c.toNat ∧ c.toNat ≤ 57 := by
  intro u
  induction u using Nat.strongRecOn with
  | ind u ih =>
    intro c hc
    rw [decDigits] at hc
    split at hc
    · rename_i h
      rw [List.mem_singleton] at hc
      subst hc
      have := dig_val h
      omega
    · rename_i h
      rcases List.mem_append.1 hc with hc | hc
      · exact ih (u / 10) (by omega) c hc
      · rw [List.mem_singleton] at hc
        subst hc
        have := dig_val (show u % 10 < 10 by omega)
        omega
theorem digit_rowB {c : UInt8} (h : 48 ≤ c.toNat ∧ c.toNat ≤ 57) : rowB c = true := by
  unfold rowB
  have h1 : 48 ≤ c := UInt8.le_iff_toNat_le.2 h.1
  have h2 : c ≤ 57 := UInt8.le_iff_toNat_le.2 h.2
  simp [h1, h2]
theorem uint_back (B u : Nat) (hB : 2 ^ B ≤ 18446744073709551616) (hu : u < 2 ^ B) : parseUintB B (decDigits u) = .ok u := by
  unfold parseUintB
  rw [if_neg (dec_ne u)]
  exact parse_dec _ (by omega) u (by omega)
theorem dec_head (u : Nat) : ∃ c r, decDigits u = c :: r ∧ 48 ≤ c.toNat ∧ c.toNat ≤ 57 := by
  cases h : decDigits u with
  | nil => exact absurd h (dec_ne u)
  | cons c r => exact ⟨c, r, rfl, dec_row u c (by rw [h]; simp)⟩
theorem int_back (B : Nat) (n : Int) (h1 : 1 ≤ B) (hB : 2 ^ B ≤ 18446744073709551616) (hn0 : -((2 ^ (B - 1) : Nat) : Int) ≤ n) (hn1 : n < ((2 ^ (B - 1) : Nat) : Int)) : parseIntB B (itoa n) = .ok n := by
  have hp : 2 ^ B = 2 * 2 ^ (B - 1) := by
    obtain ⟨k, rfl⟩ : ∃ k, B = k + 1 := ⟨B - 1, by omega⟩
    rw [Nat.pow_succ, Nat.mul_comm]
    rfl
  have hpos := Nat.two_pow_pos (B - 1)
  unfold itoa
  by_cases hneg : n < 0
  · rw [if_pos hneg]
    unfold parseIntB
    have hu := uint_back B n.natAbs hB (by omega)
    simp only [show (45 : UInt8).toNat = 45 from rfl, or_true, if_true, hu]
    rw [if_neg (by simp), if_neg (by simp; omega)]
    simp
    omega
  · rw [if_neg hneg]
    obtain ⟨c, r, e, hc⟩ := dec_head n.toNat
    have hu := uint_back B n.toNat hB (by omega)
    rw [e] at hu ⊢
    unfold parseIntB
    simp only
    rw [if_neg (show ¬ (c.toNat = 43 ∨ c.toNat = 45) by omega), hu]
    simp only
    rw [if_neg (by omega), if_neg (by omega), if_neg (by omega)]
    congr 1
    omega
theorem itoa_row (n : Int) : (∀ c ∈ itoa n, rowB c = true) ∧ ∃ c r, itoa n = c :: r ∧ c ≠ 93 ∧ c ≠ 110 := by
  unfold itoa
  split
  · refine ⟨fun c hc => ?_, _, _, rfl, by decide, by decide⟩
    rcases List.mem_cons.1 hc with rfl | hc
    · decide
    · exact digit_rowB (dec_row _ c hc)
  · refine ⟨fun c hc => digit_rowB (dec_row _ c hc), ?_⟩
    obtain ⟨c, r, e, hc⟩ := dec_head n.toNat
    refine ⟨c, r, e, fun h => ?_, fun h => ?_⟩ <;> (subst h; revert hc; decide)
/-! hexadecimal digits -/
def hexD (d : Nat) : UInt8 := if d < 10 then UInt8.ofNat (48 + d) else UInt8.ofNat (87 + d)
def hexT : Nat → Nat → List UInt8
  | 0, _ => []
  | n + 1, m => hexT n (m / 16) ++ [hexD (m % 16)]
/-- a digit's value -/
def hexV (c : UInt8) : Option Nat := if 48 ≤ c.toNat ∧ c.toNat ≤ 57 then some (c.toNat - 48) else if 97 ≤ c.toNat ∧ c.toNat ≤ 102 then some (c.toNat - 87) else none
theorem hexV_D {d : Nat} (h : d < 16) : hexV (hexD d) = some d := by
  have : d = 0 ∨ d = 1 ∨ d = 2 ∨ d = 3 ∨ d = 4 ∨ d = 5 ∨ d = 6 ∨ d = 7 ∨ d = 8 ∨ d = 9 ∨ d = 10 ∨ d = 11 ∨ d = 12 ∨ d = 13 ∨ d = 14 ∨ d = 15 := by omega
  rcases this with rfl | rfl | rfl | rfl | rfl | rfl | rfl | rfl | rfl | rfl | rfl | rfl | rfl | rfl | rfl | rfl <;> decide
theorem hexD_row {d : Nat} (h : d < 16) : rowB (hexD d) = true := by
  have : d = 0 ∨ d = 1 ∨ d = 2 ∨ d = 3 ∨ d = 4 ∨ d = 5 ∨ d = 6 ∨ d = 7 ∨ d = 8 ∨ d = 9 ∨ d = 10 ∨ d = 11 ∨ d = 12 ∨ d = 13 ∨ d = 14 ∨ d = 15 := by omega
  rcases this with rfl | rfl | rfl | rfl | rfl | rfl | rfl | rfl | rfl | rfl | rfl | rfl | rfl | rfl | rfl | rfl <;> decide
end Go.Proofs.YtfoifmacobldbaaGreatDoor.QC
namespace Go.Proofs.YtfoifmacobldbaaGreatDoor.QD
open Go.Proofs.YtfoifmacobldbaaGreatDoor.Kit
open Go.Lib Go.Proofs.YtfoifmacobldbaaGreatDoor.QB Go.Proofs.YtfoifmacobldbaaGreatDoor.QC Go.Proofs.YtfoifmacobldbaaGreatDoor.QA
set_option linter.unusedVariables false
/-! ### floating-point numbers there and back (b: the bits) -/
/-- the number cut at its first p -/
def cutP (l : List UInt8) : List UInt8 × List UInt8 := (l.takeWhile (fun c => c != 112), (l.dropWhile (fun c => c != 112)).drop 1)
/-- what ParseUint(.., 16, 52) answers, its error aside: digits up to 2^52 - 1 -/
def parseHex (M acc : Nat) : List UInt8 → NumEnd Nat
  | [] => .ok acc
  | c :: r => match hexV c with
    | none => .syntax
    | some d => if M < acc * 16 + d then .range else parseHex M (acc * 16 + d) r
def valU (M : Nat) : NumEnd Nat → Nat
  | .ok v => v
  | .syntax => 0
  | .range => M
def valI (lo hi : Int) (neg : Bool) : NumEnd Int → Int
  | .ok v => v
  | .syntax => 0
  | .range => if neg then lo else hi
def tzN : Nat → Nat → Nat
  | 0, _ => 0
  | n + 1, m => if m % 2 = 0 then tzN n (m / 2) + 1 else 0
theorem tz_dvd : ∀ (n m : Nat), m / 2 ^ tzN n m * 2 ^ tzN n m = m
  | 0, m => by simp [tzN]
  | n + 1, m => by
    unfold tzN
    split
    · rename_i h
      have ih := tz_dvd n (m / 2)
      rw [Nat.pow_succ, Nat.mul_comm (2 ^ tzN n (m / 2)) 2, ← Nat.div_div_eq_div_mul, Nat.mul_left_comm, ih]
      omega
    · simp
def fracP (b : Nat) : Nat := if 0 < b / 2 ^ 52 then b % 2 ^ 52 + 2 ^ 52 else b % 2 ^ 52
def powP (b : Nat) : Int := (if 0 < b / 2 ^ 52 then ((b / 2 ^ 52 : Nat) : Int) - 1 else 0) - 1074 + tzN 64 (fracP b)
def sizeT (b : Nat) : List UInt8 :=
  if b = 0 then [48, 112, 48]
  else if b / 2 ^ 52 = 2047 then (if b % 2 ^ 52 = 0 then [105, 110, 102] else [110, 97, 110] ++ hexT 13 (b % 2 ^ 52))
  else decDigits (fracP b / 2 ^ tzN 64 (fracP b)) ++ 112 :: itoa (powP b)
def sizeO (row : List UInt8) : Nat :=
  if row = [105, 110, 102] then 2047 * 2 ^ 52
  else if [110, 97, 110].isPrefixOf row = true then 2047 * 2 ^ 52 ||| valU (2 ^ 52 - 1) (if row.drop 3 = [] then .syntax else parseHex (2 ^ 52 - 1) 0 (row.drop 3))
  else scaledN (valU (2 ^ 53 - 1) (parseUintB 53 (cutP row).1)) (valI (-32768) 32767 ((cutP row).2.head? == some 45) (parseIntB 16 (cutP row).2))
theorem hexT_len : ∀ (n m : Nat), (hexT n m).length = n
  | 0, _ => rfl
  | n + 1, m => by simp [hexT, hexT_len n]
theorem parseHex_append (M : Nat) : ∀ (l r : List UInt8) (a v : Nat), parseHex M a l = .ok v → parseHex M a (l ++ r) = parseHex M v r
  | [], r, a, v, h => by
    simp only [parseHex] at h
    injection h with h
    subst h
    rfl
  | c :: l, r, a, v, h => by
    simp only [parseHex, List.cons_append] at h ⊢
    cases hh : hexV c with
    | none => rw [hh] at h; cases h
    | some d =>
      rw [hh] at h
      simp only at h ⊢
      split at h
      · cases h
      · rename_i h2
        rw [if_neg h2]
        exact parseHex_append M l r _ v h
theorem hex_back (M : Nat) : ∀ (n m : Nat), m < 16 ^ n → m ≤ M → parseHex M 0 (hexT n m) = .ok m
  | 0, m, h, _ => by
    have : m = 0 := by simpa using h
    subst this
    rfl
  | n + 1, m, h, hM => by
    have h1 := hex_back M n (m / 16) (by rw [Nat.pow_succ] at h; omega) (by omega)
    unfold hexT
    rw [parseHex_append M _ _ _ _ h1]
    simp only [parseHex, hexV_D (show m % 16 < 16 by omega)]
    rw [if_neg (by omega)]
    congr 1
    omega
theorem cut_there (a b : List UInt8) (h : ∀ c ∈ a, c ≠ 112) : cutP (a ++ 112 :: b) = (a, b) := by
  obtain ⟨h1, h2⟩ := tw_stop (p := fun c => c != 112) (a := a) (r := 112 :: b) (fun c hc => by simpa using h c hc) (fun c t e => by cases e; rfl)
  unfold cutP
  rw [h1, h2]
  rfl
theorem dig_ne {c : UInt8} (h : 48 ≤ c.toNat ∧ c.toNat ≤ 57) : c ≠ 112 ∧ c ≠ 110 ∧ c ≠ 105 := by
  refine ⟨fun e => ?_, fun e => ?_, fun e => ?_⟩ <;> (subst e; revert h; decide)
theorem dec_start (u : Nat) (r : List UInt8) : decDigits u ++ r ≠ [105, 110, 102] ∧ [110, 97, 110].isPrefixOf (decDigits u ++ r) = false := by
  obtain ⟨c, t, e, hc⟩ := dec_head u
  have hn := dig_ne hc
  rw [e]
  refine ⟨fun q => ?_, ?_⟩
  · simp only [List.cons_append, List.cons.injEq] at q
    exact hn.2.2 q.1
  · rw [List.cons_append]
    have : (110 == c) = false := by simpa using fun q => hn.2.1 q.symm
    simp [List.isPrefixOf, this]
theorem size_back (b : Nat) (hb : b < 2 ^ 63) : sizeO (sizeT b) = b := by
  unfold sizeT
  by_cases h0 : b = 0
  · rw [if_pos h0, h0]
    decide
  · rw [if_neg h0]
    have hd : b / 2 ^ 52 < 2048 := by omega
    have hdm := Nat.div_add_mod b (2 ^ 52)
    have hml := Nat.mod_lt b (Nat.two_pow_pos 52)
    by_cases hs : b / 2 ^ 52 = 2047
    · rw [if_pos hs]
      by_cases hm : b % 2 ^ 52 = 0
      · rw [if_pos hm]
        unfold sizeO
        rw [if_pos rfl]
        omega
      · rw [if_neg hm]
        unfold sizeO
        have hl := hexT_len 13 (b % 2 ^ 52)
        have hne : [110, 97, 110] ++ hexT 13 (b % 2 ^ 52) ≠ [105, 110, 102] := fun e => by simp at e
        have hdr : ([110, 97, 110] ++ hexT 13 (b % 2 ^ 52)).drop 3 = hexT 13 (b % 2 ^ 52) := rfl
        rw [if_neg hne, if_pos (by simp [List.isPrefixOf]), hdr, if_neg (fun e => by rw [e] at hl; simp at hl), hex_back _ 13 _ (Nat.lt_of_lt_of_le hml (by decide)) (by omega)]
        show 2047 * 2 ^ 52 ||| b % 2 ^ 52 = b
        rw [Nat.mul_comm, ← Nat.two_pow_add_eq_or_of_lt hml]
        omega
    · rw [if_neg hs]
      obtain ⟨s1, s2⟩ := dec_start (fracP b / 2 ^ tzN 64 (fracP b)) (112 :: itoa (powP b))
      unfold sizeO
      rw [if_neg s1, if_neg (by rw [s2]; simp), cut_there _ _ (fun c hc => (dig_ne (dec_row _ c hc)).1)]
      have hq := tz_dvd 64 (fracP b)
      have hfl : fracP b < 2 ^ 53 := by unfold fracP; split <;> omega
      have hf0 : fracP b ≠ 0 := by unfold fracP; split <;> omega
      have hql : fracP b / 2 ^ tzN 64 (fracP b) < 2 ^ 53 := Nat.lt_of_le_of_lt (Nat.div_le_self _ _) hfl
      have htz : tzN 64 (fracP b) ≤ 64 := by
        have : ∀ n m, tzN n m ≤ n := by
          intro n
          induction n with
          | zero => intro m; simp [tzN]
          | succ n ih => intro m; unfold tzN; split; have := ih (m / 2); omega; omega
        exact this 64 _
      simp only
      rw [uint_back 53 _ (by decide) hql, int_back 16 (powP b) (by omega) (by decide) (by unfold powP; split <;> omega) (by unfold powP; split <;> omega)]
      show scaledN _ (powP b) = b
      have := scaled_back b (fracP b / 2 ^ tzN 64 (fracP b)) (tzN 64 (fracP b)) h0 (by omega) hq
      exact this
end Go.Proofs.YtfoifmacobldbaaGreatDoor.QD
namespace Go.Proofs.YtfoifmacobldbaaGreatDoor.QE
open Go.Proofs.YtfoifmacobldbaaGreatDoor.Kit
open Go.Lib Go.Proofs.YtfoifmacobldbaaGreatDoor.QB Go.Proofs.YtfoifmacobldbaaGreatDoor.QC Go.Proofs.YtfoifmacobldbaaGreatDoor.QD
set_option linter.unusedVariables false
/-! ### a Text there and back -/
def rn (l : Bs) : Option Nat := if (l.getD 0 0).toNat < 128 then some 1 else checkN l.length (l.getD 1 0).toNat (l.getD 2 0).toNat (l.getD 3 0).toNat (firstT (l.getD 0 0).toNat % 8) (accLo (firstT (l.getD 0 0).toNat / 16)) (accHi (firstT (l.getD 0 0).toNat / 16))
theorem valid_rn (l : Bs) (hne : l ≠ []) : validD l = match rn l with | none => false | some k => validD (l.drop k) := by
  unfold rn
  by_cases h : (l.getD 0 0).toNat < 128
  · rw [if_pos h]
    cases l with
    | nil => exact absurd rfl hne
    | cons b t => exact validD_cons b t (by simpa using h)
  · rw [if_neg h]
    exact validD_lead l hne (by omega)
theorem lead_lo (b : Nat) (h : firstT b % 8 = 2 ∨ firstT b % 8 = 3 ∨ firstT b % 8 = 4) : 128 ≤ accLo (firstT b / 16) := by
  revert h
  unfold firstT
  repeat' split
  all_goals (intro h; first | (exfalso; omega) | decide)
theorem check_iff {n b1 b2 b3 sz lo hi k : Nat} : checkN n b1 b2 b3 sz lo hi = some k ↔ sz = k ∧ (k = 2 ∨ k = 3 ∨ k = 4) ∧ k ≤ n ∧ lo ≤ b1 ∧ b1 ≤ hi ∧ (3 ≤ k → 128 ≤ b2 ∧ b2 ≤ 191) ∧ (k = 4 → 128 ≤ b3 ∧ b3 ≤ 191) := by
  unfold checkN
  constructor
  · intro h
    repeat' split at h
    all_goals first | (cases h; done) | (injection h with h; subst h; omega)
  · rintro ⟨rfl, h1, h2, h3, h4, h5, h6⟩
    rcases h1 with rfl | rfl | rfl <;> simp <;> omega
theorem getD_take {l r : Bs} {k j : Nat} (hk : k ≤ l.length) (hj : j < k) : (l.take k ++ r).getD j 0 = l.getD j 0 := by
  have h1 : j < (l.take k).length := by simp; omega
  simp [List.getD, List.getElem?_append_left h1, hj]
theorem rn_take {l : Bs} (hne : l ≠ []) {k : Nat} (h : rn l = some k) (r : Bs) : 1 ≤ k ∧ k ≤ l.length ∧ rn (l.take k ++ r) = some k ∧ ∀ j, 1 ≤ j → j < k → 128 ≤ (l.getD j 0).toNat := by
  have hl : 0 < l.length := List.length_pos_iff.2 hne
  unfold rn at h ⊢
  by_cases h0 : (l.getD 0 0).toNat < 128
  · rw [if_pos h0] at h
    injection h with h
    subst h
    refine ⟨by omega, by omega, ?_, fun j h1 h2 => by omega⟩
    rw [getD_take (by omega) (by omega), if_pos h0]
  · rw [if_neg h0] at h
    obtain ⟨e, hk, hn, h1, h2, h3, h4⟩ := check_iff.1 h
    have hlo := lead_lo (l.getD 0 0).toNat (by omega)
    refine ⟨by omega, hn, ?_, fun j j1 j2 => ?_⟩
    · rw [getD_take hn (by omega), if_neg h0, check_iff]
      refine ⟨e, hk, by simp; omega, ?_, ?_, fun q => ?_, fun q => ?_⟩
      · rw [getD_take hn (by omega)]; exact h1
      · rw [getD_take hn (by omega)]; exact h2
      · rw [getD_take hn (by omega)]; exact h3 q
      · rw [getD_take hn (by omega)]; exact h4 q
    · have : j = 1 ∨ j = 2 ∨ j = 3 := by omega
      rcases this with rfl | rfl | rfl
      · omega
      · exact (h3 (by omega)).1
      · exact (h4 (by omega)).1
def plainB (c : UInt8) : Bool := decide (32 ≤ c.toNat) && c != 34 && c != 92 && c != 127
theorem plain_high {c : UInt8} (h : 128 ≤ c.toNat) : plainB c = true := by
  unfold plainB
  have h1 : c ≠ 34 := fun e => by subst e; revert h; decide
  have h2 : c ≠ 92 := fun e => by subst e; revert h; decide
  have h3 : c ≠ 127 := fun e => by subst e; revert h; decide
  simp [h1, h2, h3]
  omega
theorem plain_low {c : UInt8} (h : plainB c = false) : c.toNat < 128 := by
  by_cases hc : c.toNat < 128
  · exact hc
  · rw [plain_high (by omega)] at h
    cases h
def escaped (c : UInt8) : Bs := if c = 9 then [92, 116] else if c = 10 then [92, 110] else if c = 13 then [92, 114] else if c = 34 then [92, 34] else if c = 92 then [92, 92] else [92, 120, hexD (c.toNat / 16), hexD (c.toNat % 16)]
def esc (c : UInt8) : Bs := if plainB c = true then [c] else escaped c
def hx (l : Bs) : UInt8 := UInt8.ofNat (valU 255 (if l = [] then .syntax else parseHex 255 0 l))
def meant (s : Bs) : UInt8 := match s with
  | _ :: x :: r => if x = 116 then 9 else if x = 110 then 10 else if x = 114 then 13 else if x = 120 then hx (r.take 2) else x
  | _ => 0
theorem escaped_start (c : UInt8) : ∃ r, escaped c = 92 :: r := by
  unfold escaped
  repeat' split
  all_goals exact ⟨_, rfl⟩
theorem meant_back (c : UInt8) (r : Bs) : meant (escaped c ++ r) = c := by
  unfold escaped
  by_cases h1 : c = 9
  · rw [if_pos h1, h1]; rfl
  rw [if_neg h1]
  by_cases h2 : c = 10
  · rw [if_pos h2, h2]; rfl
  rw [if_neg h2]
  by_cases h3 : c = 13
  · rw [if_pos h3, h3]; rfl
  rw [if_neg h3]
  by_cases h4 : c = 34
  · rw [if_pos h4, h4]; rfl
  rw [if_neg h4]
  by_cases h5 : c = 92
  · rw [if_pos h5, h5]; rfl
  rw [if_neg h5]
  have hc := c.toNat_lt
  show hx [hexD (c.toNat / 16), hexD (c.toNat % 16)] = c
  unfold hx
  have e : parseHex 255 0 [hexD (c.toNat / 16), hexD (c.toNat % 16)] = .ok c.toNat := by
    simp only [parseHex, hexV_D (show c.toNat / 16 < 16 by omega), hexV_D (show c.toNat % 16 < 16 by omega)]
    rw [if_neg (by omega), if_neg (by omega)]
    congr 1
    omega
  rw [if_neg (by simp), e]
  simp [valU]
def escR (s : Bs) : Option (Bs × Nat) := if plainB (meant s) = false ∧ (escaped (meant s)).isPrefixOf s = true then some ([meant s], (escaped (meant s)).length) else none
def letterR (s : Bs) : Option (Bs × Nat) := match s with
  | [] => none
  | c :: r => if c = 92 then escR (c :: r) else match rn (c :: r) with
    | none => none
    | some k => if plainB c = true then some ((c :: r).take k, k) else none
def rdLet : Nat → Bs → Option (Bs × Bs)
  | 0, _ => none
  | n + 1, s => match takes [34] s with
    | some r => some ([], r)
    | none => match letterR s with
      | none => none
      | some (bs, k) => match rdLet n (s.drop k) with
        | none => none
        | some (l, r) => some (bs ++ l, r)
theorem esc_high {l : Bs} (h : ∀ c ∈ l, plainB c = true) : l.flatMap esc = l := by
  induction l with
  | nil => rfl
  | cons c l ih =>
    rw [List.flatMap_cons, ih fun x hx => h x (by simp [hx])]
    unfold esc
    rw [if_pos (h c (by simp))]
    rfl
theorem take_plain {c : UInt8} {r : Bs} {k : Nat} (hp : plainB c = true) (hk : rn (c :: r) = some k) : ∀ x ∈ (c :: r).take k, plainB x = true := by
  obtain ⟨h1, h2, -, h4⟩ := rn_take (by simp) hk []
  intro x hx
  obtain ⟨j, hj, e⟩ := List.mem_iff_getElem.1 hx
  have hjk : j < k := by simp at hj; omega
  cases j with
  | zero =>
    simp at e
    subst e
    exact hp
  | succ j =>
    have := h4 (j + 1) (by omega) hjk
    have e2 : (c :: r).getD (j + 1) 0 = x := by
      rw [← e]
      have hjl : j + 1 < (c :: r).length := by omega
      simp [List.getElem_take, List.getD, List.getElem?_eq_getElem (show j < r.length by simpa using hjl)]
    rw [e2] at this
    exact plain_high this
theorem let_there : ∀ (n : Nat) (l t : Bs), l.length < n → validD l = true → rdLet n (l.flatMap esc ++ 34 :: t) = some (l, t)
  | 0, l, t, h, _ => by omega
  | n + 1, [], t, _, _ => by simp [rdLet, takes_one]
  | n + 1, c :: r, t, hn, hv => by
    rw [valid_rn _ (by simp)] at hv
    cases hk : rn (c :: r) with
    | none => rw [hk] at hv; cases hv
    | some k =>
      rw [hk] at hv
      obtain ⟨h1, h2, -, -⟩ := rn_take (by simp) hk []
      by_cases hp : plainB c = true
      · have hpl := take_plain hp hk
        have es : (c :: r).flatMap esc = (c :: r).take k ++ ((c :: r).drop k).flatMap esc := by
          have := congrArg (List.flatMap esc) (List.take_append_drop k (c :: r))
          rw [List.flatMap_append, esc_high hpl] at this
          exact this.symm
        have hrt := (rn_take (by simp) hk (((c :: r).drop k).flatMap esc ++ 34 :: t)).2.2.1
        have hc34 : c ≠ 34 := fun e => by rw [e] at hp; revert hp; decide
        have hc92 : c ≠ 92 := fun e => by rw [e] at hp; revert hp; decide
        obtain ⟨k', rfl⟩ : ∃ k', k = k' + 1 := ⟨k - 1, by omega⟩
        rw [es, List.append_assoc]
        have hl : ((c :: r).take (k' + 1)).length = k' + 1 := by simp at h2 ⊢; omega
        have e1 : (c :: r).take (k' + 1) ++ (((c :: r).drop (k' + 1)).flatMap esc ++ 34 :: t) = c :: (r.take k' ++ (((c :: r).drop (k' + 1)).flatMap esc ++ 34 :: t)) := rfl
        have etk : ((c :: r).take (k' + 1) ++ (((c :: r).drop (k' + 1)).flatMap esc ++ 34 :: t)).take (k' + 1) = (c :: r).take (k' + 1) := by rw [List.take_append_of_le_length (by omega), List.take_of_length_le (by omega)]
        have edr : ((c :: r).take (k' + 1) ++ (((c :: r).drop (k' + 1)).flatMap esc ++ 34 :: t)).drop (k' + 1) = ((c :: r).drop (k' + 1)).flatMap esc ++ 34 :: t := by
          have := List.drop_left (l₁ := (c :: r).take (k' + 1)) (l₂ := ((c :: r).drop (k' + 1)).flatMap esc ++ 34 :: t)
          rwa [hl] at this
        have ih := let_there n ((c :: r).drop (k' + 1)) t (by simp at hn ⊢; omega) hv
        have hlt : letterR ((c :: r).take (k' + 1) ++ (((c :: r).drop (k' + 1)).flatMap esc ++ 34 :: t)) = some ((c :: r).take (k' + 1), k' + 1) := by
          rw [e1] at hrt etk ⊢
          unfold letterR
          simp only
          rw [if_neg hc92, hrt]
          simp only
          rw [if_pos hp, etk]
        unfold rdLet
        rw [show takes [34] ((c :: r).take (k' + 1) ++ (((c :: r).drop (k' + 1)).flatMap esc ++ 34 :: t)) = none from by rw [e1]; exact takes_ne (fun e => hc34 e.symm), hlt]
        simp only
        rw [edr, ih]
        simp [List.take_append_drop]
      · have hp' : plainB c = false := by simpa using hp
        have hlow := plain_low hp'
        have hk1 : k = 1 := by
          unfold rn at hk
          rw [if_pos (by simpa using hlow)] at hk
          injection hk with hk
          exact hk.symm
        subst hk1
        have e0 : (c :: r).flatMap esc ++ 34 :: t = escaped c ++ (r.flatMap esc ++ 34 :: t) := by
          rw [List.flatMap_cons]
          unfold esc
          rw [if_neg (by simp [hp']), List.append_assoc]
        rw [e0]
        obtain ⟨q, hq⟩ := escaped_start c
        have ih := let_there n r t (by simp at hn; omega) (by simpa using hv)
        have hm := meant_back c (r.flatMap esc ++ 34 :: t)
        have hlt : letterR (escaped c ++ (r.flatMap esc ++ 34 :: t)) = some ([c], (escaped c).length) := by
          have e2 : escaped c ++ (r.flatMap esc ++ 34 :: t) = 92 :: (q ++ (r.flatMap esc ++ 34 :: t)) := by rw [hq]; rfl
          have : letterR (escaped c ++ (r.flatMap esc ++ 34 :: t)) = escR (escaped c ++ (r.flatMap esc ++ 34 :: t)) := by
            rw [e2]
            rfl
          rw [this]
          unfold escR
          rw [hm, if_pos ⟨hp', by simp⟩]
        unfold rdLet
        rw [show takes [34] (escaped c ++ (r.flatMap esc ++ 34 :: t)) = none from by rw [hq]; exact takes_ne (by decide), hlt]
        simp only
        rw [List.drop_left, ih]
        rfl
theorem let_back : ∀ (n : Nat) (s l t : Bs), rdLet n s = some (l, t) → s = l.flatMap esc ++ 34 :: t ∧ validD l = true
  | 0, s, l, t, h => by cases h
  | n + 1, s, l, t, h => by
    unfold rdLet at h
    split at h
    · rename_i r e
      simp only [Option.some.injEq, Prod.mk.injEq] at h
      obtain ⟨rfl, rfl⟩ := h
      exact ⟨by rw [takes_some e]; rfl, validD_nil⟩
    · split at h
      · cases h
      · rename_i bs k e
        split at h
        · cases h
        · rename_i l' r e2
          simp only [Option.some.injEq, Prod.mk.injEq] at h
          obtain ⟨rfl, rfl⟩ := h
          obtain ⟨g1, g2⟩ := let_back n _ _ _ e2
          unfold letterR at e
          split at e
          · cases e
          · rename_i c r' htk
            split at e
            · rename_i hc
              unfold escR at e
              split at e
              · rename_i hh
                simp only [Option.some.injEq, Prod.mk.injEq] at e
                obtain ⟨rfl, rfl⟩ := e
                generalize meant (c :: r') = mm at *
                obtain ⟨q, hq⟩ := List.isPrefixOf_iff_prefix.1 hh.2
                have hlow := plain_low hh.1
                refine ⟨?_, ?_⟩
                · rw [← hq, List.drop_left] at g1
                  rw [← hq, g1]
                  have : esc mm = escaped mm := by
                    unfold esc
                    rw [if_neg (by simp [hh.1])]
                  show _ = (esc mm ++ l'.flatMap esc) ++ 34 :: r
                  rw [this, List.append_assoc]
                · rw [List.singleton_append, validD_cons _ _ hlow]
                  exact g2
              · cases e
            · split at e
              · cases e
              · rename_i k' hk
                split at e
                · rename_i hp
                  simp only [Option.some.injEq, Prod.mk.injEq] at e
                  obtain ⟨rfl, rfl⟩ := e
                  obtain ⟨h1, h2, h3, -⟩ := rn_take (by simp) hk l'
                  have hpl := take_plain hp hk
                  refine ⟨?_, ?_⟩
                  · rw [List.flatMap_append, esc_high hpl, List.append_assoc, ← g1, List.take_append_drop]
                  · have hl : ((c :: r').take k').length = k' := by simp at h2 ⊢; omega
                    rw [valid_rn _ (by intro e; have := congrArg List.length e; simp at this; omega), h3]
                    have := List.drop_left (l₁ := (c :: r').take k') (l₂ := l')
                    rw [hl] at this
                    simp only
                    rw [this]
                    exact g2
                · cases e
end Go.Proofs.YtfoifmacobldbaaGreatDoor.QE
