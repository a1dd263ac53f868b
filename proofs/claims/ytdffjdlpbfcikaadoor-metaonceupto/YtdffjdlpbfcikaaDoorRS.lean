import Derived.Test.YtdffjdlpbfcikaaDoorRQ
namespace Go.Proofs.YtdffjdlpbfcikaaDoor.Kit
open Go.RowKit Go.Shelf Go.Deep
set_option linter.unusedVariables false

/-! ### what MetaBack asks of Get, as data -/
/-- of all bytes: the head, or what is wrong; Y: whether the head that was read may be -/
def getR (Y : HD → Bool) (B : List UInt8) : Except (Int × Nat) HD :=
  match headR B (0, 0) with
  | .error er => .error er
  | .ok (h, s) => if s.1 < B.length then .error (52, s.1) else if Y h = false then .error (50, 0) else .ok h
theorem enc_zero {x : HD} {b more : List UInt8} {c : Nat} (hc : c ≤ 256) (h : Enc headR b x c) : headR (b ++ more) (0, 0) = .ok (x, (b.length, c)) := by
  have := h [] more 0 (by omega)
  simpa using this
/-- of just these bytes -/
theorem get_whole {Y : HD → Bool} {x : HD} {b : List UInt8} {c : Nat} (hc : c ≤ 256) (h : Enc headR b x c) (hY : Y x = true) : getR Y b = .ok x := by
  have e := enc_zero (more := []) hc h
  rw [List.append_nil] at e
  unfold getR
  rw [e]
  dsimp only
  rw [if_neg (Nat.lt_irrefl _), if_neg (by rw [hY]; decide)]
/-- of more -/
theorem get_more {Y : HD → Bool} {x : HD} {b more : List UInt8} {c : Nat} (hc : c ≤ 256) (h : Enc headR b x c) (hm : more ≠ []) : getR Y (b ++ more) = .error (52, b.length) := by
  unfold getR
  rw [enc_zero hc h]
  dsimp only
  rw [if_pos]
  have := List.length_pos_iff.2 hm
  rw [List.length_append]
  omega
/-- of a beginning -/
theorem get_cut {Y : HD → Bool} {x : HD} {b : List UInt8} {c n : Nat} (hc : c ≤ 256) (h : Enc headR b x c) (hn : n < b.length) : ∃ a, a ≤ n ∧ getR Y (b.take n) = .error (51, a) := by
  have e := enc_zero (more := []) hc h
  rw [List.append_nil] at e
  obtain ⟨a, ha, hb⟩ := (mon_head b n (0, 0) x (b.length, c) e (Nat.zero_le _) (by omega)).2.2 hn
  refine ⟨a, hb, ?_⟩
  unfold getR
  rw [ha]
end Go.Proofs.YtdffjdlpbfcikaaDoor.Kit
