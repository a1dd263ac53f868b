import Derived.Test.YtcfdkadhclickaaDoorXM
import Derived.Test.YtcfdkadhclickaaDoorVE
namespace Go.Proofs.YtcfdkadhclickaaDoor.Kit
open Go.RowKit Go.Shelf Go.Deep
set_option linter.unusedVariables false

/-! ### order by two comparisons -/
theorem binOp_gtr_str (t : TypeId) (a b : ByteArray) : binOp .gtr t (.string a) (.string b) = pure (.bool !(Op.bytesLess a.toList b.toList || a.toList == b.toList)) := by
  simp [binOp, Op.stringOp]
theorem bytesLess_cmp : ∀ (a b : List UInt8), Op.bytesLess a b = decide (cmpT a b = -1) ∧ (a == b) = decide (cmpT a b = 0)
  | [], [] => by simp [Op.bytesLess, cmpT, cmpL]
  | [], _ :: _ => by simp [Op.bytesLess, cmpT, cmpL]
  | _ :: _, [] => by simp [Op.bytesLess, cmpT, cmpL]
  | x :: xs, y :: ys => by
    obtain ⟨h1, h2⟩ := bytesLess_cmp xs ys
    have hlt : (x < y) = ((x.toNat : Int) < (y.toNat : Int)) := by simp [UInt8.lt_iff_toNat_lt]
    have hxy : (x == y) = decide (x.toNat = y.toNat) := by
      rw [Bool.eq_iff_iff]
      simp [UInt8.toNat_inj]
    have hc : cmpT (x :: xs) (y :: ys) = if cmpI (x.toNat : Int) (y.toNat : Int) ≠ 0 then cmpI (x.toNat : Int) (y.toNat : Int) else cmpT xs ys := by
      show cmpL _ _ _ = _
      rw [cmpL]
      rfl
    have hl : (x :: xs == y :: ys) = ((x == y) && (xs == ys)) := rfl
    rw [Op.bytesLess, hl, h1, h2, hc, hxy]
    unfold cmpI
    by_cases g1 : x < y
    · have e := hlt ▸ g1
      rw [if_pos e]
      have : x.toNat ≠ y.toNat := by omega
      simp [g1, this]
    · have e : ¬ (x.toNat : Int) < (y.toNat : Int) := fun h => g1 (hlt.symm ▸ h)
      rw [if_neg e]
      by_cases g2 : (y.toNat : Int) < (x.toNat : Int)
      · rw [if_pos g2]
        have : x.toNat ≠ y.toNat := by omega
        simp [g1, this]
      · rw [if_neg g2]
        have : x.toNat = y.toNat := by omega
        simp [g1, this]
def sgn (a b : Bool) : Int := if a = true then -1 else if b = true then 1 else 0
theorem sgn_int (x y : Int) : sgn (decide (x < y)) (decide (y < x)) = cmpI x y := by
  unfold sgn cmpI
  simp only [decide_eq_true_eq]
theorem three_T (a b : List UInt8) : cmpT a b = -1 ∨ cmpT a b = 0 ∨ cmpT a b = 1 := by
  induction a generalizing b with
  | nil => cases b <;> simp [cmpT, cmpL]
  | cons x xs ih =>
    cases b with
    | nil => simp [cmpT, cmpL]
    | cons y ys =>
      have hc : cmpT (x :: xs) (y :: ys) = if cmpI (x.toNat : Int) (y.toNat : Int) ≠ 0 then cmpI (x.toNat : Int) (y.toNat : Int) else cmpT xs ys := by
        show cmpL _ _ _ = _
        rw [cmpL]
        rfl
      rw [hc]
      split
      · unfold cmpI
        split
        · simp
        · split <;> simp
      · exact ih ys
theorem sgn_text (a b : List UInt8) : sgn (Op.bytesLess a b) (!(Op.bytesLess a b || a == b)) = cmpT a b := by
  obtain ⟨h1, h2⟩ := bytesLess_cmp a b
  rw [h1, h2]
  unfold sgn
  rcases three_T a b with h | h | h <;> rw [h] <;> decide
theorem rank_place (x y : Int) : cmpI (placeOf x) (placeOf y) = cmpI (rankOf x) (rankOf y) := by
  unfold cmpI placeOf
  by_cases h : rankOf x < rankOf y
  · rw [if_pos h, if_pos (by omega)]
  · rw [if_neg h, if_neg (by omega)]
    by_cases h' : rankOf y < rankOf x
    · rw [if_pos h', if_pos (by omega)]
    · rw [if_neg h', if_neg (by omega)]
theorem sgn_null (a b : Bool) : sgn (a && !b) (b && !a) = if b = false then (if a = true then -1 else 0) else if a = false then 1 else 0 := by
  cases a <;> cases b <;> rfl
end Go.Proofs.YtcfdkadhclickaaDoor.Kit
