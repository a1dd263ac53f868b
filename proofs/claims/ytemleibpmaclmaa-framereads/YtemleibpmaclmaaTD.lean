import Derived.Test.YtemleibpmaclmaaTC
namespace Go.Proofs.Ytemleibpmaclmaa.Kit
open Go.RowKit Go.Shelf Go.Deep
set_option linter.unusedVariables false

/-! ### a stream that is cut short -/
theorem feed_stays {s : Sc} (b : List UInt8) (h : Ok s) (he : s.e ≠ 0) : feedF s b = s := by
  rcases h with ⟨_, hw⟩ | h
  · unfold feedF; rw [if_pos he, hw]
  · exact absurd h.1.e0 he
theorem feed_front {s : Sc} (a b : List UInt8) (h : Ok s) (he : (feedF s (a ++ b)).e = 0) : (feedF s a).e = 0 := by
  by_cases c : (feedF s a).e = 0
  · exact c
  · rw [← feed_app a b h, feed_stays b (feed_ok a h).1 c] at he
    exact absurd he c
theorem tail_err {s : Sc} (b : List UInt8) (h : PreOk s) (hl : 0 < s.left) (h9 : s.st = 9) (hb : b ≠ []) : (feedF s b).e = 74 := by
  obtain ⟨n, hn⟩ : ∃ n, b.length = n + 1 := ⟨b.length - 1, by have := List.length_pos_iff.2 hb; omega⟩
  rw [feed_go b h, hn, takeF_succ, if_neg hb]
  have ho : oneF s b = (74, s) := by
    have hp : ∀ q, pieceF s q = (74, s) := fun q => by
      unfold pieceF
      rw [if_neg (by omega), if_neg (by omega), if_neg (by omega), if_neg (by omega), if_neg (by omega)]
    unfold oneF
    rw [hp, if_pos (by simp)]
  rw [ho, if_pos (by simp)]
  rfl
theorem feed_not9 {s : Sc} (a b : List UInt8) (h : Ok s) (hb : b ≠ []) (he : (feedF s (a ++ b)).e = 0) : (feedF s a).st ≠ 9 := by
  intro h9
  have e0 := feed_front a b h he
  rcases (feed_ok a h).1 with k | ⟨k1, k2⟩
  · exact absurd e0 k.1
  · rw [← feed_app a b h, tail_err b k1 k2 h9 hb] at he
    cases he
theorem short_piece {s : Sc} (a q : List UInt8) (h : PreOk s) (hl : a.length < s.left) (he : (pieceF s (a ++ q)).1 = 0) : (feedF s a).ms = s.ms := by
  have hp : (pieceF s a).1 = 0 := by
    by_cases c : (pieceF s a).1 = 0
    · exact c
    · exact absurd ((piece_err s a q c).symm.trans he) c
  by_cases ha : a = []
  · subst ha; rw [feed_nil (.inr ⟨h, by omega⟩)]
  · obtain ⟨n, hn⟩ : ∃ n, a.length = n + 1 := ⟨a.length - 1, by have := List.length_pos_iff.2 ha; omega⟩
    have hk : min s.left a.length = a.length := by omega
    rw [feed_go a h, hn, takeF_succ, if_neg ha, hk, List.drop_length, takeF_nil, one_short hl, if_neg (show ¬ (pieceF s a).1 ≠ 0 by simpa using hp), if_neg (by simp)]
    exact piece_ms s a
theorem Ch.short {s t : Sc} {ps : List (List UInt8)} (k : Ch s ps t) (h : PreOk s) (z : List UInt8) (hz : z.length = t.left) (hze : (pieceF t z).1 = 0) (ht : t.st ≤ 8) : ∀ a c, a ++ c = ps.flatten ++ z → c ≠ [] → (feedF (settleF s) a).ms = s.ms := by
  induction k with
  | nil s =>
    intro a c e hc
    have hcl : 0 < c.length := List.length_pos_iff.2 hc
    have hlen : a.length + c.length = z.length := by have := congrArg List.length e; simpa using this
    rw [settle_go (by omega)]
    exact short_piece a c h (by omega) (by rw [e]; exact hze)
  | @cons s t p ps hp hs he hr k ih =>
    intro a c e hc
    rw [List.flatten_cons, List.append_assoc] at e
    by_cases ca : p.length ≤ a.length
    · obtain ⟨a', ha'⟩ : ∃ a', a = p ++ a' := by
        refine ⟨a.drop p.length, ?_⟩
        have h1 : (a ++ c).take p.length = p := by rw [e]; simp
        rw [List.take_append_of_le_length ca] at h1
        conv => rhs; rw [← h1]
        rw [List.length_take, Nat.min_eq_left ca, List.take_append_drop]
      subst ha'
      rw [List.append_assoc, List.append_cancel_left_eq] at e
      obtain ⟨o1, o2, o3⟩ := over_ok h hp he
      obtain ⟨n1, n2, n3, n4⟩ := next_ok o1 rfl (by omega) (fun z => hr (by omega))
      rw [feed_fill _ h hp he (settle_ok h (by omega)), n4, ih n1 hz hze ht a' c e hc, n3, o3]
    · rw [settle_go (by omega)]
      have h1 : a ++ (p.drop a.length) = p := by
        have h1 : (a ++ c).take a.length = a := by simp
        rw [e, List.take_append_of_le_length (by omega)] at h1
        conv => lhs; lhs; rw [← h1]
        rw [List.take_append_drop]
      exact short_piece a (p.drop a.length) h (by omega) (by rw [h1]; exact he)
/-- a part of a frame tells no message -/
theorem frame_short {lm lb : Nat} (h1 : lm ≤ 100000000) (h2 : lb ≤ 100000000) {last : UInt8} {m b : List UInt8} (h : HeadOk lm lb last m.length b.length) (ms : List (List UInt8 × List UInt8)) (a c : List UInt8) (e : a ++ c = putB last m b) (hc : c ≠ []) :
    (feedF (startF lm lb ms) a).ms = ms := by
  have hm : m.length < 4294967296 := by have := h.1; omega
  have hb : b.length < 4294967296 := by have := h.2.1; omega
  have k := (head_ch h hm hb ms (sumU (sumU sum0 m) b).toNat).trans (body_ch ms (hd20 last m.length b.length (sumU (sumU sum0 m) b).toNat) m b)
  rw [putB_pieces] at e
  have := k.short (start_ok h1 h2 ms) (zs (up8 b.length - b.length)) (by show (zs _).length = up8 b.length - b.length; simp [zs]) (by show (if (zs _).all (· == 0) = true then (0 : Int) else 8) = 0; rw [if_pos (zs_all _)]) (by show 8 ≤ 8; omega) a c e hc
  rw [start_settled] at this
  exact this

/-! ### sums of bytes -/
theorem step_inj {x y : UInt32} (h : x * 16777619 = y * 16777619) : x = y := by
  have e : ∀ z : UInt32, z * 16777619 * 899433627 = z := fun z => by
    rw [UInt32.mul_assoc]
    have : (16777619 : UInt32) * 899433627 = 1 := by decide
    rw [this, UInt32.mul_one]
  rw [← e x, h, e y]
theorem xor_inj_l {x y z : UInt32} (h : x ^^^ z = y ^^^ z) : x = y := by
  have := congrArg (· ^^^ z) h
  simpa [UInt32.xor_assoc] using this
theorem xor_inj_r {x y z : UInt32} (h : z ^^^ x = z ^^^ y) : x = y := by
  rw [UInt32.xor_comm z x, UInt32.xor_comm z y] at h
  exact xor_inj_l h
theorem sumU_inj : ∀ (l : List UInt8) {x y : UInt32}, sumU x l = sumU y l → x = y
  | [], x, y, h => h
  | c :: l, x, y, h => xor_inj_l (step_inj (sumU_inj l (x := (x ^^^ c.toUInt32) * 16777619) (y := (y ^^^ c.toUInt32) * 16777619) h))
theorem u8_32 {x y : UInt8} (h : x.toUInt32 = y.toUInt32) : x = y := by
  have := congrArg UInt32.toNat h
  rw [UInt8.toNat_toUInt32, UInt8.toNat_toUInt32] at this
  exact UInt8.toNat_inj.1 this
/-- one byte another: another sum -/
theorem sumU_ne (h : UInt32) (a c : List UInt8) (x y : UInt8) (hxy : x ≠ y) : sumU h (a ++ x :: c) ≠ sumU h (a ++ y :: c) := by
  intro e
  rw [sumU_app, sumU_app] at e
  exact hxy (u8_32 (xor_inj_r (step_inj (sumU_inj c (x := (sumU h a ^^^ x.toUInt32) * 16777619) (y := (sumU h a ^^^ y.toUInt32) * 16777619) e))))
end Go.Proofs.Ytemleibpmaclmaa.Kit
