import Derived.Test.YtemleibpmaclmaaTP
namespace Go.Proofs.Ytemleibpmaclmaa.Kit
open Go.RowKit Go.Shelf Go.Deep
set_option linter.unusedVariables false

/-! ### judge: what the document says of the bytes from the beginning of a message on -/
def markedE (b : List UInt8) : Int := if marksB (b.take 4) = true then 0 else 70
def zerosB (b : List UInt8) (i j : Nat) : Bool := ((b.take j).drop i).all (· == 0)
def bodyN (b : List UInt8) : Nat := 24 + up8 (num4 b 4)
def allN (b : List UInt8) : Nat := bodyN b + up8 (num4 b 8)
def metaB (b : List UInt8) : List UInt8 := (b.drop 24).take (num4 b 4)
def dataB (b : List UInt8) : List UInt8 := (b.drop (bodyN b)).take (num4 b 8)
def judgeF (lm lb : Nat) (b : List UInt8) : Nat × Int :=
  if markedE b ≠ 0 ∨ b.length < 16 then (0, markedE b)
  else if num4 b 12 ≠ (sumU sum0 (b.take 12)).toNat then (0, 72)
  else if lm < num4 b 4 ∨ lb < num4 b 8 then (0, 71)
  else if b.getD 3 0 = 48 ∧ (num4 b 4 ≠ 0 ∨ num4 b 8 ≠ 0) then (0, 8)
  else if ¬ (zerosB b 20 24 = true ∧ zerosB b (24 + num4 b 4) (bodyN b) = true ∧ zerosB b (bodyN b + num4 b 8) (allN b) = true) then (0, 8)
  else if b.length < allN b then (0, 0)
  else if num4 b 16 ≠ (sumU (sumU sum0 (metaB b)) (dataB b)).toNat then (0, 72)
  else (allN b, 0)

/-! ### the bytes of a row, cut -/
theorem cutAt (b : List UInt8) (i k : Nat) : b.drop i = (b.drop i).take k ++ b.drop (i + k) := by
  conv => lhs; rw [← List.take_append_drop k (b.drop i)]
  rw [List.drop_drop]
theorem getD_drop (b : List UInt8) (i j : Nat) : (b.drop i).getD j 0 = b.getD (i + j) 0 := by
  simp [List.getD_eq_getElem?_getD, List.getElem?_drop]
theorem four_eq : ∀ (x : List UInt8), x.length = 4 → x = [x.getD 0 0, x.getD 1 0, x.getD 2 0, x.getD 3 0]
  | [a, b, c, d], _ => rfl
theorem le4_nums (a b c d : UInt8) : le4 (a.toNat + 256 * b.toNat + 65536 * c.toNat + 16777216 * d.toNat) = [a, b, c, d] := by
  have ha := a.toNat_lt
  have hb := b.toNat_lt
  have hc := c.toNat_lt
  have hd := d.toNat_lt
  have key : ∀ (x : UInt8) (n : Nat), n % 256 = x.toNat → UInt8.ofNat n = x := fun x n h => by
    apply UInt8.toNat_inj.1
    rw [UInt8.toNat_ofNat']
    exact h
  unfold le4
  rw [key a _ (by omega), key b _ (by omega), key c _ (by omega), key d _ (by omega)]
theorem le4_of (b : List UInt8) (i : Nat) (h : i + 4 ≤ b.length) : (b.drop i).take 4 = le4 (num4 b i) := by
  have hl : ((b.drop i).take 4).length = 4 := by rw [List.length_take, List.length_drop]; omega
  rw [four_eq _ hl]
  unfold num4
  rw [le4_nums]
  have e : ∀ j, j < 4 → ((b.drop i).take 4).getD j 0 = b.getD (i + j) 0 := fun j hj => by
    rw [List.getD_eq_getElem?_getD, List.getElem?_take_of_lt hj, ← List.getD_eq_getElem?_getD, getD_drop]
  rw [e 0 (by omega), e 1 (by omega), e 2 (by omega), e 3 (by omega)]
  rfl
theorem num4_take (b : List UInt8) (i k : Nat) (h : i + 4 ≤ k) : num4 (b.take k) i = num4 b i := by
  have e : ∀ j, j < k → (b.take k).getD j 0 = b.getD j 0 := fun j hj => by
    rw [List.getD_eq_getElem?_getD, List.getElem?_take_of_lt hj, ← List.getD_eq_getElem?_getD]
  unfold num4
  rw [e i (by omega), e (i + 1) (by omega), e (i + 2) (by omega), e (i + 3) (by omega)]
theorem all_zs : ∀ (x : List UInt8), x.all (· == 0) = true → x = zs x.length
  | [], _ => rfl
  | a :: x, h => by
    simp only [List.all_cons, Bool.and_eq_true, beq_iff_eq] at h
    rw [h.1, List.length_cons]
    have := all_zs x h.2
    unfold zs at this ⊢
    rw [List.replicate_succ, ← this]
theorem zeros_in (b : List UInt8) (i k : Nat) : zerosB b i (i + k) = ((b.drop i).take k).all (· == 0) := by
  unfold zerosB
  rw [List.drop_take, Nat.add_sub_cancel_left]
theorem zeros_out (b : List UInt8) (i j : Nat) (h : b.length ≤ i) : zerosB b i j = true := by
  unfold zerosB
  rw [List.drop_eq_nil_of_le (by rw [List.length_take]; omega)]
  rfl
theorem zs_of (b : List UInt8) (i k : Nat) (h : i + k ≤ b.length) (hz : zerosB b i (i + k) = true) : (b.drop i).take k = zs k := by
  rw [zeros_in] at hz
  have := all_zs _ hz
  rw [List.length_take, List.length_drop, Nat.min_eq_left (by omega)] at this
  exact this
theorem mark_of (b : List UInt8) (h : 4 ≤ b.length) (hm : marksB (b.take 4) = true) : b.take 4 = mark (b.getD 3 0) ∧ (b.getD 3 0 = 49 ∨ b.getD 3 0 = 48) := by
  match b, h with
  | a0 :: a1 :: a2 :: a3 :: r, _ =>
    simp only [List.take_succ_cons, List.take_zero] at hm ⊢
    unfold marksB mark at hm
    simp only [List.isPrefixOf, Bool.or_eq_true, Bool.and_eq_true, beq_iff_eq] at hm
    unfold mark
    simp only [List.getD_eq_getElem?_getD, List.getElem?_cons_succ, List.getElem?_cons_zero, Option.getD_some]
    rcases hm with ⟨h0, h1, h2, h3, _⟩ | ⟨h0, h1, h2, h3, _⟩
    · subst h0 h1 h2 h3; exact ⟨rfl, .inl rfl⟩
    · subst h0 h1 h2 h3; exact ⟨rfl, .inr rfl⟩
theorem cut4 (b : List UInt8) (i x : Nat) (h : i + 4 ≤ b.length) (hx : num4 b i = x) : b.drop i = le4 x ++ b.drop (i + 4) := by
  rw [← hx, ← le4_of b i h]; exact cutAt b i 4
theorem cutZ (b : List UInt8) (i j k : Nat) (hj : j = i + k) (h : i + k ≤ b.length) (hz : zerosB b i j = true) : b.drop i = zs k ++ b.drop j := by
  subst hj
  rw [← zs_of b i k h hz]; exact cutAt b i k
/-- what judge takes is a frame -/
theorem judge_takes {lm lb : Nat} {b : List UInt8} (h : (judgeF lm lb b).1 ≠ 0) :
    judgeF lm lb b = (allN b, 0) ∧ allN b ≤ b.length ∧ 24 ≤ allN b ∧ (metaB b).length = num4 b 4 ∧ (dataB b).length = num4 b 8 ∧ HeadOk lm lb (b.getD 3 0) (metaB b).length (dataB b).length ∧ b = putB (b.getD 3 0) (metaB b) (dataB b) ++ b.drop (allN b) := by
  unfold judgeF at h ⊢
  by_cases c0 : markedE b ≠ 0 ∨ b.length < 16
  · rw [if_pos c0] at h; exact absurd rfl h
  rw [if_neg c0] at h ⊢
  by_cases c1 : num4 b 12 ≠ (sumU sum0 (b.take 12)).toNat
  · rw [if_pos c1] at h; exact absurd rfl h
  rw [if_neg c1] at h ⊢
  by_cases c2 : lm < num4 b 4 ∨ lb < num4 b 8
  · rw [if_pos c2] at h; exact absurd rfl h
  rw [if_neg c2] at h ⊢
  by_cases c3 : b.getD 3 0 = 48 ∧ (num4 b 4 ≠ 0 ∨ num4 b 8 ≠ 0)
  · rw [if_pos c3] at h; exact absurd rfl h
  rw [if_neg c3] at h ⊢
  by_cases c4 : ¬ (zerosB b 20 24 = true ∧ zerosB b (24 + num4 b 4) (bodyN b) = true ∧ zerosB b (bodyN b + num4 b 8) (allN b) = true)
  · rw [if_pos c4] at h; exact absurd rfl h
  rw [if_neg c4] at h ⊢
  by_cases c5 : b.length < allN b
  · rw [if_pos c5] at h; exact absurd rfl h
  rw [if_neg c5] at h ⊢
  by_cases c6 : num4 b 16 ≠ (sumU (sumU sum0 (metaB b)) (dataB b)).toNat
  · rw [if_pos c6] at h; exact absurd rfl h
  rw [if_neg c6] at h ⊢
  obtain ⟨z1, z2, z3⟩ : zerosB b 20 24 = true ∧ zerosB b (24 + num4 b 4) (bodyN b) = true ∧ zerosB b (bodyN b + num4 b 8) (allN b) = true := Decidable.not_not.1 c4
  have hm0 : marksB (b.take 4) = true := by
    by_cases q : marksB (b.take 4) = true
    · exact q
    · exact absurd (.inl (by unfold markedE; rw [if_neg q]; decide)) c0
  have hb16 : 16 ≤ b.length := by omega
  have u1 := up8_ge (num4 b 4)
  have u2 := up8_ge (num4 b 8)
  have hbody : bodyN b = 24 + up8 (num4 b 4) := rfl
  have hall : allN b = bodyN b + up8 (num4 b 8) := rfl
  obtain ⟨k1, k2⟩ := mark_of b (by omega) hm0
  have hM : (metaB b).length = num4 b 4 := by unfold metaB; rw [List.length_take, List.length_drop]; omega
  have hD : (dataB b).length = num4 b 8 := by unfold dataB; rw [List.length_take, List.length_drop]; omega
  refine ⟨rfl, by omega, by omega, hM, hD, ⟨by omega, by omega, ?_⟩, ?_⟩
  · rcases k2 with k2 | k2
    · exact .inl k2
    · refine .inr ⟨k2, ?_⟩
      have : ¬ (num4 b 4 ≠ 0 ∨ num4 b 8 ≠ 0) := fun z => c3 ⟨k2, z⟩
      omega
  obtain ⟨last, hlast⟩ : ∃ x, b.getD 3 0 = x := ⟨_, rfl⟩
  rw [hlast] at k1 k2 ⊢
  have e0 : b = mark last ++ b.drop 4 := by rw [← k1]; exact (List.take_append_drop 4 b).symm
  have e1 := cut4 b 4 _ (by omega) rfl
  have e2 := cut4 b 8 _ (by omega) rfl
  have e12 : b.take 12 = head12 last (num4 b 4) (num4 b 8) := by
    have : b = (mark last ++ le4 (num4 b 4) ++ le4 (num4 b 8)) ++ b.drop 12 := by
      conv => lhs; rw [e0, e1, e2]
      simp [List.append_assoc]
    conv => lhs; rw [this]
    rfl
  have e3 := cut4 b 12 _ (by omega) (Decidable.not_not.1 c1)
  have e4 := cut4 b 16 _ (by omega) (Decidable.not_not.1 c6)
  have e5 := cutZ b 20 24 4 rfl (by omega) z1
  have e6 : b.drop 24 = metaB b ++ b.drop (24 + num4 b 4) := cutAt b 24 (num4 b 4)
  have e7 := cutZ b (24 + num4 b 4) (bodyN b) (up8 (num4 b 4) - num4 b 4) (by omega) (by omega) z2
  have e8 : b.drop (bodyN b) = dataB b ++ b.drop (bodyN b + num4 b 8) := cutAt b (bodyN b) (num4 b 8)
  have e9 := cutZ b (bodyN b + num4 b 8) (allN b) (up8 (num4 b 8) - num4 b 8) (by omega) (by omega) z3
  rw [e12] at e3
  unfold putB headB
  rw [hM, hD]
  unfold head12 at e3 ⊢
  simp only [List.append_assoc] at e3 ⊢
  rw [← e9, ← e8, ← e7, ← e6, ← e5, ← e4]
  have e3' : le4 (sumU sum0 (mark last ++ (le4 (num4 b 4) ++ le4 (num4 b 8)))).toNat ++ b.drop 16 = b.drop 12 := e3.symm
  rw [e3', ← e2, ← e1]
  exact e0
end Go.Proofs.Ytemleibpmaclmaa.Kit

namespace Go.Proofs.Ytemleibpmaclmaa.Kit
open Go.RowKit Go.Shelf Go.Deep
set_option linter.unusedVariables false

/-! ### what judge says, the scan says -/
def More (ms : List Msg) (t : Sc) : Prop := t.ms = ms ∧ t.e = 0 ∧ t.st ≠ 9
def Res (ms : List Msg) (t : Sc) (e : Int) : Prop := if e = 0 then More ms t else t = wrongF (startF 0 0 ms) e
theorem Res.more {ms : List Msg} {t : Sc} (h : More ms t) : Res ms t 0 := by unfold Res; rw [if_pos rfl]; exact h
theorem Res.bad {ms : List Msg} {s : Sc} {e : Int} (he : e ≠ 0) (hs : s.ms = ms) : Res ms (wrongF s e) e := by
  unfold Res; rw [if_neg he]; exact wrong_ms e hs
theorem feed_part {s : Sc} {b : List UInt8} (h : PreOk s) (h8 : s.st ≤ 8) (hb : b.length < s.left) (he : (pieceF s b).1 = 0) : More s.ms (feedF (settleF s) b) := by
  have e : feedF (settleF s) b = partF s b := by
    rw [settle_go (by omega), feed_go b h]
    by_cases h0 : b = []
    · subst h0
      rw [takeF_nil]
      unfold partF
      rw [piece_nil]
      rfl
    · obtain ⟨n, hn⟩ : ∃ n, b.length = n + 1 := ⟨b.length - 1, by have := List.length_pos_iff.2 h0; omega⟩
      have hk : min s.left b.length = b.length := by omega
      have ho : oneF s b = (0, partF s b) := by rw [one_short hb, if_neg (by simpa using he)]
      rw [hn, takeF_succ, if_neg h0, hk, ho, if_neg (by simp), List.drop_length, takeF_nil]
  obtain ⟨a1, a2, a3, a4, a5⟩ := piece_ok (q := b) h (by omega) he
  rw [e]
  refine ⟨a4, a2.e0, ?_⟩
  show (pieceF s b).2.st ≠ 9
  omega
theorem feed_over {s : Sc} {b : List UInt8} (h : PreOk s) (hl : 0 < s.left) (hb : s.left ≤ b.length) {e : Int} (he : (pieceF s (b.take s.left)).1 = e) (h0 : e ≠ 0) : feedF (settleF s) b = wrongF s e := by
  have hk : Ok s := .inr ⟨h, hl⟩
  rw [settle_go (by omega)]
  conv => lhs; rw [← List.take_append_drop s.left b]
  rw [← feed_app _ _ hk, feed_full h (by rw [List.length_take]; omega) hl, he, if_pos h0, feed_wrong _ _ _ h0]
  exact wrong_ms _ (piece_ms _ _)
theorem feed_under {s : Sc} {b : List UInt8} (h : PreOk s) (hb : b.length < s.left) (hn0 : b ≠ []) {e : Int} (he : (pieceF s b).1 = e) (h0 : e ≠ 0) : feedF (settleF s) b = wrongF s e := by
  rw [settle_go (by omega), feed_go b h]
  obtain ⟨n, hn⟩ : ∃ n, b.length = n + 1 := ⟨b.length - 1, by have := List.length_pos_iff.2 hn0; omega⟩
  have ho : oneF s b = pieceF s b := by rw [one_short hb, if_pos (by rw [he]; exact h0)]
  rw [hn, takeF_succ, if_neg hn0, ho, if_pos (by rw [he]; exact h0), he]
  exact wrong_ms _ (piece_ms _ _)
theorem at_go {s : Sc} {b : List UInt8} {i k : Nat} (h : PreOk s) (h7 : s.st ≤ 7) (hk : s.left = k) (hb : i + k ≤ b.length) (he : (pieceF s ((b.drop i).take k)).1 = 0) (hr : s.st = 2 → (readHeadF (overF s ((b.drop i).take k))).1 = 0) :
    PreOk (nextF (overF s ((b.drop i).take k))) ∧ feedF (settleF s) (b.drop i) = feedF (settleF (nextF (overF s ((b.drop i).take k)))) (b.drop (i + k)) := by
  subst hk
  have hp : ((b.drop i).take s.left).length = s.left := by rw [List.length_take, List.length_drop]; omega
  obtain ⟨o1, o2, o3⟩ := over_ok h hp he
  obtain ⟨n1, n2, n3, n4⟩ := next_ok o1 rfl (by omega) (fun z => hr (by omega))
  refine ⟨n1, ?_⟩
  have key := feed_fill (b.drop (i + s.left)) h hp he (settle_ok h (by omega))
  rw [← cutAt] at key
  rw [key, n4]
theorem at_part {s : Sc} {b : List UInt8} {i k : Nat} (h : PreOk s) (h8 : s.st ≤ 8) (hk : s.left = k) (hb : b.length < i + k) (hi : i ≤ b.length) (he : (pieceF s (b.drop i)).1 = 0) : More s.ms (feedF (settleF s) (b.drop i)) :=
  feed_part h h8 (by rw [List.length_drop]; omega) he
theorem head_of {s : Sc} {lm lb : Nat} {b : List UInt8} (h1 : s.lm = lm) (h2 : s.lb = lb) (h3 : s.hd = b.take 16) (hb : 16 ≤ b.length) (hm : marksB (b.take 4) = true) :
    readHeadF s = if num4 b 12 ≠ (sumU sum0 (b.take 12)).toNat then (72, s) else if lm < num4 b 4 ∨ lb < num4 b 8 then (71, s) else if b.getD 3 0 = 48 ∧ (num4 b 4 ≠ 0 ∨ num4 b 8 ≠ 0) then (8, s) else (0, { s with me := num4 b 4, bo := num4 b 8 }) := by
  have e12 : num4 s.hd 12 = num4 b 12 := by rw [h3]; exact num4_take b 12 16 (by omega)
  have e4 : num4 s.hd 4 = num4 b 4 := by rw [h3]; exact num4_take b 4 16 (by omega)
  have e8 : num4 s.hd 8 = num4 b 8 := by rw [h3]; exact num4_take b 8 16 (by omega)
  have et : s.hd.take 12 = b.take 12 := by rw [h3, List.take_take]; rfl
  have ee : (isEndF s = true) = (b.getD 3 0 = 48) := by
    unfold isEndF
    have : s.hd.take 4 = b.take 4 := by rw [h3, List.take_take]; rfl
    obtain ⟨k1, k2⟩ := mark_of b (by omega) hm
    rw [this, k1]
    rcases k2 with q | q
    · rw [q]; simp [mark]
    · rw [q]; simp [mark]
  unfold readHeadF
  rw [e12, e4, e8, et, h1, h2]
  simp only [ee]
theorem take16 (b : List UInt8) : (b.take 4 ++ (b.drop 4).take 8) ++ (b.drop 12).take 4 = b.take 16 := by
  have e1 : b.take 12 = b.take 4 ++ (b.drop 4).take 8 := List.take_add (i := 4) (j := 8) (l := b)
  have e2 : b.take 16 = b.take 12 ++ (b.drop 12).take 4 := List.take_add (i := 12) (j := 4) (l := b)
  rw [e2, e1]
theorem zeros_all (b : List UInt8) (i j : Nat) (h : b.length ≤ j) : zerosB b i j = (b.drop i).all (· == 0) := by
  unfold zerosB
  rw [List.take_of_length_le h]
theorem start_ok' {lm lb : Nat} (h1 : lm ≤ 65536) (h2 : lb ≤ 4194304) (ms : List Msg) : PreOk (startF lm lb ms) := start_ok (by omega) (by omega) ms
/-- the part behind the head -/
def tailJ (b : List UInt8) : Nat × Int :=
  if ¬ (zerosB b 20 24 = true ∧ zerosB b (24 + num4 b 4) (bodyN b) = true ∧ zerosB b (bodyN b + num4 b 8) (allN b) = true) then (0, 8)
  else if b.length < allN b then (0, 0)
  else if num4 b 16 ≠ (sumU (sumU sum0 (metaB b)) (dataB b)).toNat then (0, 72)
  else (allN b, 0)
theorem tail_more {b : List UInt8} (h1 : zerosB b 20 24 = true) (h2 : zerosB b (24 + num4 b 4) (bodyN b) = true) (h3 : zerosB b (bodyN b + num4 b 8) (allN b) = true) (h4 : b.length < allN b) : tailJ b = (0, 0) := by
  unfold tailJ
  rw [if_neg (fun z => z ⟨h1, h2, h3⟩), if_pos h4]
theorem tail_bad {b : List UInt8} (h : ¬ (zerosB b 20 24 = true ∧ zerosB b (24 + num4 b 4) (bodyN b) = true ∧ zerosB b (bodyN b + num4 b 8) (allN b) = true)) : tailJ b = (0, 8) := by
  unfold tailJ
  rw [if_pos h]
theorem zero_piece {s : Sc} (p : List UInt8) (h : s.st = 4 ∨ s.st = 6 ∨ s.st = 8) : (pieceF s p).1 = if p.all (· == 0) = true then 0 else 8 := by
  unfold pieceF
  rw [if_neg (by omega), if_neg (by omega), if_neg (by omega), if_neg (by omega), if_pos h]
/-- a state that wants zeros -/
theorem zero_at {s : Sc} {b : List UInt8} {i j k : Nat} (h : PreOk s) (hs : s.st = 4 ∨ s.st = 6 ∨ s.st = 8) (hk : s.left = k) (hj : j = i + k) (hi : i ≤ b.length) (hz : zerosB b i j ≠ true) : feedF (settleF s) (b.drop i) = wrongF s 8 := by
  subst hj
  by_cases c : b.length < i + k
  · rw [zeros_all b i _ (by omega)] at hz
    exact feed_under h (by rw [List.length_drop]; omega) (fun e => by rw [e] at hz; exact hz rfl) (by rw [zero_piece _ hs, if_neg hz]) (by decide)
  · rw [zeros_in] at hz
    have h0 : 0 < s.left := by
      rcases Nat.eq_zero_or_pos k with q | q
      · subst q; simp at hz
      · omega
    exact feed_over h h0 (by rw [List.length_drop]; omega) (by rw [hk, zero_piece _ hs, if_neg hz]) (by decide)
theorem zero_go {s : Sc} {b : List UInt8} {i j k : Nat} (h : PreOk s) (hs : s.st = 4 ∨ s.st = 6) (hk : s.left = k) (hj : j = i + k) (hb : i + k ≤ b.length) (hz : zerosB b i j = true) :
    PreOk (nextF (overF s ((b.drop i).take k))) ∧ feedF (settleF s) (b.drop i) = feedF (settleF (nextF (overF s ((b.drop i).take k)))) (b.drop j) := by
  subst hj
  rw [zeros_in] at hz
  exact at_go h (by omega) hk hb (by rw [zero_piece _ (by omega), if_pos hz]) (fun z => by omega)
theorem zero_part {s : Sc} {b : List UInt8} {i j k : Nat} (h : PreOk s) (hs : s.st = 4 ∨ s.st = 6 ∨ s.st = 8) (hk : s.left = k) (hj : j = i + k) (hb : b.length < i + k) (hi : i ≤ b.length) (hz : zerosB b i j = true) : More s.ms (feedF (settleF s) (b.drop i)) := by
  subst hj
  rw [zeros_all b i _ (by omega)] at hz
  exact at_part h (by omega) hk hb hi (by rw [zero_piece _ hs, if_pos hz])
/-- behind the head -/
theorem tail_feed {lm lb : Nat} (ms : List Msg) (b X : List UInt8) (h20 : 20 ≤ b.length) (hX : num4 X 16 = num4 b 16) (h : PreOk (atF lm lb ms 4 X (num4 b 4) (num4 b 8) sum0 [] [])) (hj : (tailJ b).1 = 0) :
    Res ms (feedF (settleF (atF lm lb ms 4 X (num4 b 4) (num4 b 8) sum0 [] [])) (b.drop 20)) (tailJ b).2 := by
  obtain ⟨m, hm⟩ : ∃ m, num4 b 4 = m := ⟨_, rfl⟩
  obtain ⟨n, hn⟩ : ∃ n, num4 b 8 = n := ⟨_, rfl⟩
  have u1 := up8_ge m
  have u2 := up8_ge n
  have hbody : bodyN b = 24 + up8 m := by unfold bodyN; rw [hm]
  have hall : allN b = bodyN b + up8 n := by unfold allN; rw [hn]
  rw [hm, hn] at h ⊢
  -- the four zeros
  by_cases z1 : zerosB b 20 24 = true
  rotate_left
  · rw [tail_bad (fun z => z1 z.1), zero_at h (.inl rfl) (k := 4) rfl (j := 24) rfl h20 z1]
    exact .bad (by decide) rfl
  by_cases c24 : b.length < 24
  · rw [tail_more z1 (zeros_out _ _ _ (by omega)) (zeros_out _ _ _ (by omega)) (by omega)]
    exact .more (zero_part h (.inl rfl) (k := 4) rfl (j := 24) rfl (by omega) h20 z1)
  obtain ⟨p5, e5⟩ := zero_go h (.inl rfl) (k := 4) rfl (j := 24) rfl (by omega) z1
  rw [e5]
  have s5 : nextF (overF (atF lm lb ms 4 X m n sum0 [] []) ((b.drop 20).take 4)) = atF lm lb ms 5 X m n sum0 [] [] := rfl
  rw [s5] at p5 ⊢
  clear e5 s5
  -- the meta bytes
  by_cases c5 : b.length < 24 + m
  · rw [tail_more z1 (zeros_out _ _ _ (by omega)) (zeros_out _ _ _ (by omega)) (by omega)]
    exact .more (at_part (k := m) p5 (by show 5 ≤ 8; omega) rfl c5 (by omega) rfl)
  obtain ⟨p6, e6⟩ := at_go (b := b) (i := 24) (k := m) p5 (by show 5 ≤ 7; omega) rfl (by omega) rfl (fun z => by cases z)
  rw [e6]
  have hM : (b.drop 24).take m = metaB b := by unfold metaB; rw [hm]
  have s6 : nextF (overF (atF lm lb ms 5 X m n sum0 [] []) ((b.drop 24).take m)) = atF lm lb ms 6 X m n (sumU sum0 (metaB b)) (metaB b) [] := by rw [hM]; rfl
  rw [s6] at p6 ⊢
  clear e6 s6
  -- their zeros
  by_cases z2 : zerosB b (24 + num4 b 4) (bodyN b) = true
  rotate_left
  · rw [tail_bad (fun z => z2 z.2.1)]
    rw [hm] at z2
    rw [zero_at p6 (.inr (.inl rfl)) (k := up8 m - m) rfl (j := bodyN b) (by omega) (by omega) z2]
    exact .bad (by decide) rfl
  by_cases c6 : b.length < bodyN b
  · rw [tail_more z1 z2 (zeros_out _ _ _ (by omega)) (by omega)]
    rw [hm] at z2
    exact .more (zero_part p6 (.inr (.inl rfl)) (k := up8 m - m) rfl (j := bodyN b) (by omega) (by omega) (by omega) z2)
  have z2' := z2
  rw [hm] at z2'
  obtain ⟨p7, e7⟩ := zero_go p6 (.inr rfl) (k := up8 m - m) rfl (j := bodyN b) (by omega) (by omega) z2'
  rw [e7]
  have s7 : nextF (overF (atF lm lb ms 6 X m n (sumU sum0 (metaB b)) (metaB b) []) ((b.drop (24 + m)).take (up8 m - m))) = atF lm lb ms 7 X m n (sumU sum0 (metaB b)) (metaB b) [] := rfl
  rw [s7] at p7 ⊢
  clear e7 s7
  -- the body
  by_cases c7 : b.length < bodyN b + n
  · rw [tail_more z1 z2 (zeros_out _ _ _ (by omega)) (by omega)]
    exact .more (at_part (k := n) p7 (by show 7 ≤ 8; omega) rfl c7 (by omega) rfl)
  obtain ⟨p8, e8⟩ := at_go (b := b) (i := bodyN b) (k := n) p7 (by show 7 ≤ 7; omega) rfl (by omega) rfl (fun z => by cases z)
  rw [e8]
  have hD : (b.drop (bodyN b)).take n = dataB b := by unfold dataB; rw [hn]
  have s8 : nextF (overF (atF lm lb ms 7 X m n (sumU sum0 (metaB b)) (metaB b) []) ((b.drop (bodyN b)).take n)) = atF lm lb ms 8 X m n (sumU (sumU sum0 (metaB b)) (dataB b)) (metaB b) (dataB b) := by rw [hD]; rfl
  rw [s8] at p8 ⊢
  clear e8 s8
  by_cases z3 : zerosB b (bodyN b + num4 b 8) (allN b) = true
  rotate_left
  · rw [tail_bad (fun z => z3 z.2.2)]
    rw [hn] at z3
    rw [zero_at p8 (.inr (.inr rfl)) (k := up8 n - n) rfl (j := allN b) (by omega) (by omega) z3]
    exact .bad (by decide) rfl
  by_cases c8 : b.length < allN b
  · rw [tail_more z1 z2 z3 c8]
    rw [hn] at z3
    exact .more (zero_part p8 (.inr (.inr rfl)) (k := up8 n - n) rfl (j := allN b) (by omega) (by omega) (by omega) z3)
  have hJ : tailJ b = if num4 b 16 ≠ (sumU (sumU sum0 (metaB b)) (dataB b)).toNat then (0, 72) else (allN b, 0) := by
    unfold tailJ
    rw [if_neg (fun z => z ⟨z1, z2, z3⟩), if_neg c8]
  by_cases c9 : num4 b 16 ≠ (sumU (sumU sum0 (metaB b)) (dataB b)).toNat
  rotate_left
  · rw [hJ, if_neg c9] at hj
    exact absurd hj (by show ¬ allN b = 0; omega)
  rw [hJ, if_pos c9]
  have z3' := z3
  rw [hn, show allN b = bodyN b + n + (up8 n - n) by omega, zeros_in] at z3'
  have hp : ((b.drop (bodyN b + n)).take (up8 n - n)).length = up8 n - n := by rw [List.length_take, List.length_drop]; omega
  have he : (pieceF (atF lm lb ms 8 X m n (sumU (sumU sum0 (metaB b)) (dataB b)) (metaB b) (dataB b)) ((b.drop (bodyN b + n)).take (up8 n - n))).1 = 0 := by
    rw [zero_piece _ (.inr (.inr rfl)), if_pos z3']
  have key := feed_fill (b.drop (bodyN b + n + (up8 n - n))) p8 hp he (settle_ok p8 (by show 8 ≤ 8; omega))
  rw [← cutAt] at key
  rw [key, settle_finish rfl rfl]
  have hf : finishF (overF (atF lm lb ms 8 X m n (sumU (sumU sum0 (metaB b)) (dataB b)) (metaB b) (dataB b)) ((b.drop (bodyN b + n)).take (up8 n - n))) = (72, overF (atF lm lb ms 8 X m n (sumU (sumU sum0 (metaB b)) (dataB b)) (metaB b) (dataB b)) ((b.drop (bodyN b + n)).take (up8 n - n))) := by
    unfold finishF
    rw [if_pos (by
      show num4 X 16 ≠ _
      rw [hX]
      exact c9)]
  rw [hf, if_pos (by show (72 : Int) ≠ 0; decide), feed_wrong _ _ _ (by show (72 : Int) ≠ 0; decide)]
  exact .bad (by show (72 : Int) ≠ 0; decide) rfl
/-- what judge doesn't take -/
theorem judge_feed {lm lb : Nat} (h1 : lm ≤ 65536) (h2 : lb ≤ 4194304) (ms : List Msg) (b : List UInt8) (hj : (judgeF lm lb b).1 = 0) : Res ms (feedF (startF lm lb ms) b) (judgeF lm lb b).2 := by
  have p0 := start_ok' h1 h2 ms
  rw [← start_settled]
  have hJ0 : b.length < 16 → judgeF lm lb b = (0, markedE b) := fun h => by unfold judgeF; rw [if_pos (.inr h)]
  by_cases c4 : b.length < 4
  · rw [hJ0 (by omega)]
    have et : b.take 4 = b := List.take_of_length_le (by omega)
    by_cases cm : marksB b = true
    · have : markedE b = 0 := by unfold markedE; rw [et, if_pos cm]
      rw [this]
      exact .more (feed_part p0 (by show 0 ≤ 8; omega) c4 (by show (if marksB ([] ++ b) = true then (0 : Int) else 70) = 0; rw [List.nil_append, if_pos cm]))
    · have : markedE b = 70 := by unfold markedE; rw [et, if_neg cm]
      rw [this, feed_under (e := 70) p0 c4 (fun z => by subst z; exact cm rfl) (by show (if marksB ([] ++ b) = true then (0 : Int) else 70) = 70; rw [List.nil_append, if_neg cm]) (by decide)]
      exact .bad (by decide) rfl
  by_cases cm : marksB (b.take 4) = true
  rotate_left
  · have : markedE b = 70 := by unfold markedE; rw [if_neg cm]
    have hJ : judgeF lm lb b = (0, 70) := by unfold judgeF; rw [if_pos (.inl (by rw [this]; decide)), this]
    rw [hJ, feed_over (e := 70) p0 (by show 0 < 4; omega) (by show 4 ≤ _; omega) (by show (if marksB ([] ++ b.take 4) = true then (0 : Int) else 70) = 70; rw [List.nil_append, if_neg cm]) (by decide)]
    exact .bad (by decide) rfl
  have hM0 : markedE b = 0 := by unfold markedE; rw [if_pos cm]
  obtain ⟨p1, e1⟩ := at_go (b := b) (i := 0) (k := 4) p0 (by show 0 ≤ 7; omega) rfl (by omega) (by show (if marksB ([] ++ (b.drop 0).take 4) = true then (0 : Int) else 70) = 0; rw [List.nil_append, List.drop_zero, if_pos cm]) (fun z => by cases z)
  rw [List.drop_zero] at e1 p1
  rw [e1]
  have s1 : nextF (overF (startF lm lb ms) (b.take 4)) = atF lm lb ms 1 (b.take 4) 0 0 sum0 [] [] := rfl
  rw [s1] at p1 ⊢
  rw [Nat.zero_add]
  clear e1 s1
  by_cases c12 : b.length < 12
  · rw [hJ0 (by omega), hM0]
    exact .more (at_part (k := 8) p1 (by show 1 ≤ 8; omega) rfl c12 (by omega) rfl)
  obtain ⟨p2, e2⟩ := at_go (b := b) (i := 4) (k := 8) p1 (by show 1 ≤ 7; omega) rfl (by omega) rfl (fun z => by cases z)
  rw [e2]
  have s2 : nextF (overF (atF lm lb ms 1 (b.take 4) 0 0 sum0 [] []) ((b.drop 4).take 8)) = atF lm lb ms 2 (b.take 4 ++ (b.drop 4).take 8) 0 0 sum0 [] [] := rfl
  rw [s2] at p2 ⊢
  clear e2 s2
  by_cases c16 : b.length < 16
  · rw [hJ0 c16, hM0]
    exact .more (at_part (k := 4) p2 (by show 2 ≤ 8; omega) rfl c16 (by omega) rfl)
  have hJ1 : judgeF lm lb b = if num4 b 12 ≠ (sumU sum0 (b.take 12)).toNat then (0, 72) else if lm < num4 b 4 ∨ lb < num4 b 8 then (0, 71) else if b.getD 3 0 = 48 ∧ (num4 b 4 ≠ 0 ∨ num4 b 8 ≠ 0) then (0, 8) else tailJ b := by
    unfold judgeF tailJ
    rw [if_neg (by rw [hM0]; omega)]
  obtain ⟨ov, hov⟩ : ∃ ov, overF (atF lm lb ms 2 (b.take 4 ++ (b.drop 4).take 8) 0 0 sum0 [] []) ((b.drop 12).take 4) = ov := ⟨_, rfl⟩
  have o1 : ov.lm = lm := by rw [← hov]; rfl
  have o2 : ov.lb = lb := by rw [← hov]; rfl
  have o3 : ov.hd = b.take 16 := by rw [← hov]; exact take16 b
  have o4 : ov.left = 0 := by rw [← hov]; rfl
  have o5 : ov.st = 2 := by rw [← hov]; rfl
  have o6 : ov.ms = ms := by rw [← hov]; rfl
  have hR := head_of o1 o2 o3 (by omega) cm
  have hp : ((b.drop 12).take 4).length = 4 := by rw [List.length_take, List.length_drop]; omega
  have bad : ∀ e, e ≠ 0 → (readHeadF ov).1 = e → feedF (settleF (atF lm lb ms 2 (b.take 4 ++ (b.drop 4).take 8) 0 0 sum0 [] [])) (b.drop 12) = wrongF ov e := fun e he hr => by
    have key := feed_fill (b.drop (12 + 4)) p2 hp rfl (settle_ok p2 (by show 2 ≤ 8; omega))
    rw [← cutAt] at key
    rw [key, hov, settle_head_err o4 o5 (by rw [hr]; exact he), hr, feed_wrong _ _ _ he]
  by_cases c1 : num4 b 12 ≠ (sumU sum0 (b.take 12)).toNat
  · rw [hJ1, if_pos c1, bad 72 (by decide) (by rw [hR, if_pos c1])]
    exact .bad (by decide) o6
  by_cases c2 : lm < num4 b 4 ∨ lb < num4 b 8
  · rw [hJ1, if_neg c1, if_pos c2, bad 71 (by decide) (by rw [hR, if_neg c1, if_pos c2])]
    exact .bad (by decide) o6
  by_cases c3 : b.getD 3 0 = 48 ∧ (num4 b 4 ≠ 0 ∨ num4 b 8 ≠ 0)
  · rw [hJ1, if_neg c1, if_neg c2, if_pos c3, bad 8 (by decide) (by rw [hR, if_neg c1, if_neg c2, if_pos c3])]
    exact .bad (by decide) o6
  rw [hJ1, if_neg c1, if_neg c2, if_neg c3] at hj ⊢
  have hR' : readHeadF ov = (0, { ov with me := num4 b 4, bo := num4 b 8 }) := by rw [hR, if_neg c1, if_neg c2, if_neg c3]
  obtain ⟨p3, e3⟩ := at_go (b := b) (i := 12) (k := 4) p2 (by show 2 ≤ 7; omega) rfl (by omega) rfl (fun _ => by rw [hov, hR'])
  rw [e3]
  have s3 : nextF (overF (atF lm lb ms 2 (b.take 4 ++ (b.drop 4).take 8) 0 0 sum0 [] []) ((b.drop 12).take 4)) = atF lm lb ms 3 (b.take 16) (num4 b 4) (num4 b 8) sum0 [] [] := by
    rw [hov]
    unfold nextF
    rw [if_pos o5, hR', ← hov]
    have := take16 b
    unfold stepF overF atF pieceF
    simp only [List.append_assoc] at this ⊢
    simp [this]
  rw [s3] at p3 ⊢
  clear e3 s3
  have u1 := up8_ge (num4 b 4)
  have u2 := up8_ge (num4 b 8)
  have hbody : bodyN b = 24 + up8 (num4 b 4) := rfl
  have hall : allN b = bodyN b + up8 (num4 b 8) := rfl
  by_cases c20 : b.length < 20
  · rw [tail_more (zeros_out _ _ _ (by omega)) (zeros_out _ _ _ (by omega)) (zeros_out _ _ _ (by omega)) (by omega)]
    exact .more (at_part (k := 4) p3 (by show 3 ≤ 8; omega) rfl c20 (by omega) rfl)
  obtain ⟨p4, e4⟩ := at_go (b := b) (i := 16) (k := 4) p3 (by show 3 ≤ 7; omega) rfl (by omega) rfl (fun z => by cases z)
  rw [e4]
  have s4 : nextF (overF (atF lm lb ms 3 (b.take 16) (num4 b 4) (num4 b 8) sum0 [] []) ((b.drop 16).take 4)) = atF lm lb ms 4 (b.take 20) (num4 b 4) (num4 b 8) sum0 [] [] := by
    have e : b.take 20 = b.take 16 ++ (b.drop 16).take 4 := List.take_add (i := 16) (j := 4) (l := b)
    rw [e]
    rfl
  rw [s4] at p4 ⊢
  exact tail_feed ms b (b.take 20) (by omega) (num4_take b 16 20 (by omega)) p4 hj
end Go.Proofs.Ytemleibpmaclmaa.Kit

namespace Go.Proofs.Ytemleibpmaclmaa.Kit
open Go.RowKit Go.Shelf Go.Deep
set_option linter.unusedVariables false

/-! ### the document's reader and the scan: how they stand -/
/-- the scan that has been fed what lies behind the document's place -/
def docS (lm lb : Nat) (last : Bool) (b : List UInt8) : Sc := if last = true then feedF (beginF (startF lm lb []) 9) b else feedF (startF lm lb []) b
/-- how the document's reader stands -/
def docN (lm lb : Nat) (last sh : Bool) (b : List UInt8) : Int × Int :=
  if last = true then (if b = [] then (3, 0) else (4, 74))
  else if (judgeF lm lb b).1 = 0 then (if (judgeF lm lb b).2 ≠ 0 then (4, (judgeF lm lb b).2) else if sh = true then (4, 73) else (1, 0))
  else if b.getD 3 0 = 48 then (if b.drop (allN b) = [] then (3, 0) else (4, 74))
  else (2, 0)
theorem begin9_ok {lm lb : Nat} (h1 : lm ≤ 65536) (h2 : lb ≤ 4194304) : PreOk (beginF (startF lm lb []) 9) := by
  constructor <;> first | (simp [beginF, startF]; done) | (simp [beginF, startF]; omega) | (show 1 ≤ 100000000; omega)
theorem last_feed {lm lb : Nat} (h1 : lm ≤ 65536) (h2 : lb ≤ 4194304) (b : List UInt8) : feedF (beginF (startF lm lb []) 9) b = if b = [] then beginF (startF lm lb []) 9 else wrongF (startF 0 0 []) 74 := by
  have p := begin9_ok h1 h2
  by_cases hb : b = []
  · rw [if_pos hb]; subst hb; exact feed_nil (.inr ⟨p, by show 0 < 1; omega⟩)
  · rw [if_neg hb, feed_go b p]
    obtain ⟨n, hn⟩ : ∃ n, b.length = n + 1 := ⟨b.length - 1, by have := List.length_pos_iff.2 hb; omega⟩
    have hp : ∀ q, pieceF (beginF (startF lm lb []) 9) q = (74, beginF (startF lm lb []) 9) := fun q => rfl
    have ho : oneF (beginF (startF lm lb []) 9) b = (74, beginF (startF lm lb []) 9) := by
      unfold oneF
      rw [hp, if_pos (by show (74 : Int) ≠ 0; decide)]
    rw [hn, takeF_succ, if_neg hb, ho, if_pos (by show (74 : Int) ≠ 0; decide)]
    rfl
/-- the scan stands as the document's reader -/
theorem stands_doc {lm lb : Nat} (h1 : lm ≤ 65536) (h2 : lb ≤ 4194304) (last sh : Bool) (b : List UInt8) : standsF (docS lm lb last b) sh = docN lm lb last sh b := by
  have lastN : ∀ q, standsF (feedF (beginF (startF lm lb []) 9) q) sh = if q = [] then (3, 0) else (4, 74) := fun q => by
    rw [last_feed h1 h2]
    by_cases c : q = []
    · rw [if_pos c, if_pos c]; rfl
    · rw [if_neg c, if_neg c]; rfl
  unfold docS docN
  cases last
  rotate_left
  · simp only [if_true]; exact lastN b
  simp only [Bool.false_eq_true, if_false]
  by_cases c : (judgeF lm lb b).1 = 0
  · rw [if_pos c]
    have r := judge_feed h1 h2 [] b c
    unfold Res at r
    by_cases e : (judgeF lm lb b).2 = 0
    · rw [if_pos e] at r
      rw [if_neg (by simpa using e)]
      obtain ⟨m1, m2, m3⟩ := r
      unfold standsF
      rw [m1, m2, if_neg (by simp), if_neg (by simp), if_neg m3]
    · rw [if_neg e] at r
      rw [if_pos e, r]
      unfold standsF
      rw [if_neg (by simp [wrongF, startF]), if_pos (by exact e)]
      rfl
  · rw [if_neg c]
    obtain ⟨j1, j2, j3, j4, j5, j6, j7⟩ := judge_takes c
    by_cases k : b.getD 3 0 = 48
    · rw [if_pos k]
      conv => lhs; rw [j7]
      rw [frame_end (by omega) (by omega) j6, if_pos k]
      exact lastN _
    · rw [if_neg k]
      conv => lhs; rw [j7]
      rw [frame_end (by omega) (by omega) j6, if_neg k]
      have e : startF lm lb ([] ++ [(metaB b, dataB b)]) = addMs [(metaB b, dataB b)] (startF lm lb []) := rfl
      rw [e, add_feed]
      unfold standsF
      rw [if_pos (by show 0 < ([(metaB b, dataB b)] ++ _).length; simp)]
/-- the end's frame gone through -/
theorem docS_end {lm lb : Nat} (h1 : lm ≤ 65536) (h2 : lb ≤ 4194304) {b : List UInt8} (c : (judgeF lm lb b).1 ≠ 0) (k : b.getD 3 0 = 48) : docS lm lb false b = docS lm lb true (b.drop (allN b)) := by
  obtain ⟨j1, j2, j3, j4, j5, j6, j7⟩ := judge_takes c
  unfold docS
  simp only [Bool.false_eq_true, if_false, if_true]
  conv => lhs; rw [j7]
  rw [frame_end (by omega) (by omega) j6, if_pos k]
/-- a message told -/
theorem docS_one {lm lb : Nat} (h1 : lm ≤ 65536) (h2 : lb ≤ 4194304) {b : List UInt8} (c : (judgeF lm lb b).1 ≠ 0) (k : b.getD 3 0 ≠ 48) : docS lm lb false b = addMs [(metaB b, dataB b)] (docS lm lb false (b.drop (allN b))) ∧ popF (docS lm lb false b) = docS lm lb false (b.drop (allN b)) ∧ sizeM (metaB b, dataB b) = allN b := by
  obtain ⟨j1, j2, j3, j4, j5, j6, j7⟩ := judge_takes c
  have e0 : docS lm lb false b = addMs [(metaB b, dataB b)] (docS lm lb false (b.drop (allN b))) := by
    unfold docS
    simp only [Bool.false_eq_true, if_false]
    conv => lhs; rw [j7]
    rw [frame_end (by omega) (by omega) j6, if_neg k]
    have e : startF lm lb ([] ++ [(metaB b, dataB b)]) = addMs [(metaB b, dataB b)] (startF lm lb []) := rfl
    rw [e, add_feed]
  refine ⟨e0, by rw [e0]; rfl, ?_⟩
  unfold sizeM allN bodyN
  rw [j4, j5]
/-- fed on -/
theorem docS_feed {lm lb : Nat} (h1 : lm ≤ 65536) (h2 : lb ≤ 4194304) (last : Bool) (F q : List UInt8) (at' : Nat) (h : at' ≤ F.length) : feedF (docS lm lb last (F.drop at')) q = docS lm lb last ((F ++ q).drop at') := by
  rw [List.drop_append_of_le_length h]
  unfold docS
  cases last
  · simp only [Bool.false_eq_true, if_false]
    exact feed_app _ _ (.inr ⟨start_ok' h1 h2 [], by show 0 < 4; omega⟩)
  · simp only [if_true]
    exact feed_app _ _ (.inr ⟨begin9_ok h1 h2, by show 0 < 1; omega⟩)
end Go.Proofs.Ytemleibpmaclmaa.Kit

namespace Go.Proofs.Ytemleibpmaclmaa.Kit
open Go.RowKit Go.Shelf Go.Deep
set_option linter.unusedVariables false

/-! ### the document's number, zeros, marked -/
set_option maxRecDepth 100000 in
set_option maxHeartbeats 2000000 in
theorem docNumber_at {B o L ca x0 x1 x2 x3 : Nat} {w : World} (hl : 4 ≤ L) (b0 : x0 < 256) (b1 : x1 < 256) (b2 : x2 < 256) (b3 : x3 < 256) (t0 : w.cell? ⟨B, o, none⟩ = some (.int .u8 (x0 : Int))) (t1 : w.cell? ⟨B, o + 1, none⟩ = some (.int .u8 (x1 : Int))) (t2 : w.cell? ⟨B, o + 2, none⟩ = some (.int .u8 (x2 : Int))) (t3 : w.cell? ⟨B, o + 3, none⟩ = some (.int .u8 (x3 : Int))) :
    Calls Try.prog 55 #[.slice (some ⟨B, o, none⟩) L ca] w fun e w' => e = .returned (.int .i64 ((x0 + 256 * x1 + 65536 * x2 + 16777216 * x3 : Nat) : Int)) ∧ Gr w w' := by
  have h0L : (0 : Int) < (L : Int) := by omega
  have h1L : (1 : Int) < (L : Int) := by omega
  have h2L : (2 : Int) < (L : Int) := by omega
  have h3L : (3 : Int) < (L : Int) := by omega
  have HY : Hid ((x0 : Int) + (x1 : Int) * 256 + (x2 : Int) * 65536 + (x3 : Int) * 16777216 = ((x0 + 256 * x1 + 65536 * x2 + 16777216 * x3 : Nat) : Int)) := by show _ = _; omega
  go_enter Try.func55, Try.ntmps55
  go_wp2_with fail
  go_quiet (fail)
  go_wp2_with fail
  go_ret
  exact ⟨by rw [← HY.out]; rfl, (Keeps.refl w _).drewN _⟩
/-- a number of the bytes -/
theorem docNumber_any {B o L ca i : Nat} {b : List UInt8} {w : World} (hb : BytesAt w (some ⟨B, o, none⟩) b) (hL : b.length = L) (hi : i + 4 ≤ L) :
    Calls Try.prog 55 #[.slice (some ⟨B, o + i, none⟩) (L - i) ca] w fun e w' => e = .returned (.int .i64 ((num4 b i : Nat) : Int)) ∧ Gr w w' := by
  obtain ⟨B', o', e, hc⟩ := hb.at (ne_nil (show i < b.length by omega))
  cases e
  have bd := fun x : UInt8 => x.toNat_lt
  have c1 := hc (i + 1) (by omega)
  have c2 := hc (i + 2) (by omega)
  have c3 := hc (i + 3) (by omega)
  rw [← Nat.add_assoc] at c1 c2 c3
  exact docNumber_at (by omega) (bd _) (bd _) (bd _) (bd _) (hc i (by omega)) c1 c2 c3
theorem zeros_step {b : List UInt8} {i j k : Nat} (hk : i ≤ k) (hkj : k < j) (hkl : k < b.length) (h : zerosB b i k = true) : zerosB b i (k + 1) = (b.getD k 0 == 0) := by
  have e : (b.take (k + 1)).drop i = (b.take k).drop i ++ [b[k]] := by
    rw [List.take_succ_eq_append_getElem hkl, List.drop_append_of_le_length (by rw [List.length_take]; omega)]
  unfold zerosB at h ⊢
  rw [e, List.all_append, h, Bool.true_and]
  simp [List.getD_eq_getElem?_getD, List.getElem?_eq_getElem hkl]
theorem zeros_no {b : List UInt8} {i j k : Nat} (hk : i ≤ k) (hkj : k < j) (hkl : k < b.length) (h : b.getD k 0 ≠ 0) : zerosB b i j = false := by
  unfold zerosB
  rw [Bool.eq_false_iff]
  intro hz
  rw [List.all_eq_true] at hz
  have hm : b[k] ∈ (b.take j).drop i := by
    rw [List.mem_iff_getElem?]
    refine ⟨k - i, ?_⟩
    rw [List.getElem?_drop, List.getElem?_take_of_lt (by omega), show i + (k - i) = k by omega, List.getElem?_eq_getElem hkl]
  have := hz _ hm
  apply h
  rw [List.getD_eq_getElem?_getD, List.getElem?_eq_getElem hkl]
  simpa using this
set_option maxRecDepth 100000 in
set_option maxHeartbeats 2000000 in
theorem docZeros_any {ao : Option Addr} {L ca i j : Nat} {b : List UInt8} {w : World} (hb : BytesAt w ao b) (hL : b.length = L) (hLm : L ≤ 140737488355328) (hij : i ≤ j) (hj : j ≤ 140737488355328) :
    Calls Try.prog 64 #[.slice ao L ca, .int .i64 (i : Int), .int .i64 (j : Int)] w fun e w' => e = .returned (.bool (zerosB b i j)) ∧ w' = w := by
  have HB := hidM hb
  have HL := hidM hL
  have hd : ∀ k, i ≤ k → ¬ (k < j ∧ k < L) → k ≤ j → zerosB b i k = true → zerosB b i j = true := fun k h1 h2 h3 h4 => by
    unfold zerosB at h4 ⊢
    by_cases c : k = j
    · subst c; exact h4
    · have : b.take j = b.take k := by rw [List.take_of_length_le (by omega), List.take_of_length_le (by omega)]
      rw [this]; exact h4
  have HD := hidM hd
  have H0 : Hid (zerosB b i i = true) := by show _ = _; unfold zerosB; rw [List.drop_eq_nil_of_le (by rw [List.length_take]; omega)]; rfl
  clear hb hL hd
  go_enter Try.func64, Try.ntmps64
  go_wp2_with fail
  go_loopw [7] (fun q wr => ∃ k : Nat, i ≤ k ∧ k ≤ j ∧ q = .int .i64 (k : Int) ∧ Hid (zerosB b i k = true) ∧ wr = w) (fun q _ => j - (intOf q).toNat)
  case atStart => exact ⟨i, Nat.le_refl _, hij, rfl, H0.out, rfl⟩
  case round =>
    obtain ⟨k, hk1, hk2, rfl, HZ, rfl⟩ := hrel
    clear H0
    have hk0 : (0 : Int) ≤ (k : Int) := by omega
    by_cases c1 : k < j
    rotate_left
    · have c1I : ¬ ((k : Int) < (j : Int)) := by omega
      have HE : Hid (zerosB b i j = true) := HD.out k hk1 (fun z => c1 z.1) hk2 HZ.out
      go_wp2_with fail
      go_ret
      exact ⟨by rw [HE.out]; rfl, rfl⟩
    have c1I : (k : Int) < (j : Int) := by omega
    by_cases c2 : k < L
    rotate_left
    · have c2I : ¬ ((k : Int) < (L : Int)) := by omega
      have HE : Hid (zerosB b i j = true) := HD.out k hk1 (fun z => c2 z.2) hk2 HZ.out
      go_wp2_with fail
      go_ret
      exact ⟨by rw [HE.out]; rfl, rfl⟩
    have c2I : (k : Int) < (L : Int) := by omega
    have hkl : k < b.length := by rw [HL.out]; exact c2
    obtain ⟨B, o, rfl, hc⟩ := HB.out.at (ne_nil hkl)
    have t := hc k hkl
    by_cases c3 : b.getD k 0 = 0
    · rw [c3] at t
      have t' : wr.cell? ⟨B, o + k, none⟩ = some (.int .u8 0) := t
      have HE : Hid (zerosB b i (k + 1) = true) := by show _ = _; rw [zeros_step hk1 c1 hkl HZ.out, c3]; rfl
      clear hc t hkl c3 HZ
      go_wp2_with fail
      go_roundw
      case rel => exact ⟨k + 1, by omega, by omega, by simp, HE.out, by trivial⟩
      case measure => simp [intOf]; omega
    · obtain ⟨z, hz⟩ : ∃ z : Int, z = ((b.getD k 0).toNat : Int) := ⟨_, rfl⟩
      have hz0 : ¬ z = 0 := fun q => c3 (UInt8.toNat_inj.1 (by show (b.getD k 0).toNat = 0; omega))
      rw [← hz] at t
      have HE : Hid (zerosB b i j = false) := zeros_no hk1 c1 hkl c3
      clear hc hkl c3 HZ hz
      go_wp2_with fail
      go_ret
      exact ⟨by rw [HE.out]; rfl, rfl⟩
def okAt (j : Nat) (x : UInt8) : Prop := if j = 0 then x = 67 else if j = 1 then x = 79 else if j = 2 then x = 76 else x = 48 ∨ x = 49
theorem all4 (P : Nat → Prop) (n : Nat) : (∀ j, j < 4 → j < n → P j) ↔ (0 < n → P 0) ∧ (1 < n → P 1) ∧ (2 < n → P 2) ∧ (3 < n → P 3) := by
  constructor
  · intro h
    exact ⟨h 0 (by omega), h 1 (by omega), h 2 (by omega), h 3 (by omega)⟩
  · rintro ⟨h0, h1, h2, h3⟩ j hj hn
    have : j = 0 ∨ j = 1 ∨ j = 2 ∨ j = 3 := by omega
    rcases this with rfl | rfl | rfl | rfl
    · exact h0 hn
    · exact h1 hn
    · exact h2 hn
    · exact h3 hn
theorem marks_iff (b : List UInt8) : marksB (b.take 4) = true ↔ ∀ j, j < 4 → j < b.length → okAt j (b.getD j 0) := by
  rw [all4]
  rcases b with _ | ⟨a0, _ | ⟨a1, _ | ⟨a2, _ | ⟨a3, r⟩⟩⟩⟩ <;> simp [marksB, mark, List.isPrefixOf, okAt]
  all_goals
    constructor
    · rintro (⟨h0, h1, h2, h3⟩ | ⟨h0, h1, h2, h3⟩)
      · exact ⟨h0, h1, h2, .inr h3⟩
      · exact ⟨h0, h1, h2, .inl h3⟩
    · rintro ⟨h0, h1, h2, h3 | h3⟩
      · exact .inr ⟨h0, h1, h2, h3⟩
      · exact .inl ⟨h0, h1, h2, h3⟩
theorem marked_no {b : List UInt8} {k : Nat} (h4 : k < 4) (hl : k < b.length) (h : ¬ okAt k (b.getD k 0)) : markedE b = 70 := by
  unfold markedE
  rw [if_neg (fun z => h ((marks_iff b).1 z k h4 hl))]
theorem marked_yes {b : List UInt8} {k : Nat} (hk : 4 ≤ k ∨ b.length ≤ k) (h : ∀ j, j < k → okAt j (b.getD j 0)) : markedE b = 0 := by
  unfold markedE
  rw [if_pos ((marks_iff b).2 fun j h1 h2 => h j (by omega))]
theorem grow_ok {b : List UInt8} {k : Nat} (h : ∀ j, j < k → okAt j (b.getD j 0)) (hk : okAt k (b.getD k 0)) : ∀ j, j < k + 1 → okAt j (b.getD j 0) := fun j hj => by
  by_cases c : j = k
  · subst c; exact hk
  · exact h j (by omega)
end Go.Proofs.Ytemleibpmaclmaa.Kit

namespace Go.Proofs.Ytemleibpmaclmaa.Kit
open Go.RowKit Go.Shelf Go.Deep
set_option linter.unusedVariables false

set_option maxRecDepth 100000 in
set_option maxHeartbeats 4000000 in
theorem docMarked_any {ao : Option Addr} {L ca : Nat} {b : List UInt8} {w : World} (hb : BytesAt w ao b) (hL : b.length = L) (hLm : L ≤ 140737488355328) :
    Calls Try.prog 63 #[.slice ao L ca] w fun e w' => e = .returned (.int .i64 (markedE b)) ∧ Gr w w' := by
  have HB := hidM hb
  have HL := hidM hL
  clear hb hL
  go_enter Try.func63, Try.ntmps63
  go_wp2_with fail
  go_loopw [4] (fun q wr => ∃ k : Nat, k ≤ 4 ∧ k ≤ L ∧ q = .int .i64 (k : Int) ∧ Hid (∀ j, j < k → okAt j (b.getD j 0)) ∧ Hid (Gr w wr)) (fun q _ => 4 - (intOf q).toNat)
  case atStart => exact ⟨0, by omega, by omega, rfl, fun j hj => absurd hj (by omega), Keeps.refl _ _⟩
  case round =>
    obtain ⟨k, hk1, hk2, rfl, HZ, HG⟩ := hrel
    by_cases c2 : k < L
    rotate_left
    · have c2I : ¬ ((k : Int) < (L : Int)) := by omega
      have HE : Hid (markedE b = 0) := marked_yes (.inr (by rw [HL.out]; omega)) HZ.out
      go_wp2_with fail
      go_ret
      exact ⟨by rw [HE.out]; rfl, HG.out⟩
    have c2I : (k : Int) < (L : Int) := by omega
    by_cases c1 : k < 4
    rotate_left
    · have c1I : ¬ ((k : Int) < 4) := by omega
      have HE : Hid (markedE b = 0) := marked_yes (.inl (by omega)) HZ.out
      go_wp2_with fail
      go_ret
      exact ⟨by rw [HE.out]; rfl, HG.out⟩
    have hkl : k < b.length := by rw [HL.out]; exact c2
    obtain ⟨B, o, rfl, hc⟩ := (HB.out.gr HG.out).at (ne_nil hkl)
    have t := hc k hkl
    have hgo := fun h => grow_ok (k := k) HZ.out h
    have hno := fun h => marked_no (k := k) c1 hkl h
    obtain ⟨x, hx⟩ : ∃ x, b.getD k 0 = x := ⟨_, rfl⟩
    rw [hx] at t hgo hno
    have HGo := hidM hgo
    have HNo := hidM hno
    clear hc hgo hno hkl hx HZ HB HL
    have hxb := x.toNat_lt
    have : k = 0 ∨ k = 1 ∨ k = 2 ∨ k = 3 := by omega
    rcases this with rfl | rfl | rfl | rfl
    · replace t : wr.cell? ⟨B, o, none⟩ = some (.int .u8 (x.toNat : Int)) := t
      replace c2I : (0 : Int) < (L : Int) := c2I
      rw [show ((0 : Nat) : Int) = 0 from rfl]
      by_cases d : x = 67
      · have dI : (x.toNat : Int) = 67 := by rw [d]; rfl
        have HE := hidM (HGo.out (by simpa [okAt] using d))
        rw [dI] at t
        have HIN := hidM t
        clear HGo HNo d dI hxb t
        go_wp2_with fail
        refine wp_region_held_drew (S := fun w' => w'.cell? ⟨B, o, none⟩ = some (.int .u8 67)) (by kernel_rfl) (HIN.out) (fun hHeld => ?_)
        refine wpAnyH_take (i := 0) (oi := { dst := some 15, op := Op.move (Operand.tmp 4), type := 3, pos := "ref.go:104", after := #[], guard := none }) (v := ?v0g01) rfl (by kernel_rfl) (by kernel_rfl) (by kernel_rfl) (fun _ _ _ h => h) (Or.inl ⟨by rfl, ?y0g01⟩) (by assumption) ?r0g01
        case y0g01 => (intro w hSw; obtain s1 := hSw; go_simp; (try with_reducible rfl))
        (try simp only [Act.put]); (try simp only [List.setIfInBounds_toArray]); (try simp only [List.set_cons_succ]); (try simp only [List.set_cons_zero])
        refine wpAnyH_take (i := 1) (oi := { dst := some 16, op := Op.binOp BinOp.lss 3 (Operand.tmp 15) (Operand.const (Value.int IntKind.i64 3)) 3, type := 4, pos := "ref.go:104", after := #[{ on := 0, ground := Ground.data }], guard := none }) (v := ?v1g02) rfl (by kernel_rfl) (by kernel_rfl) (by kernel_rfl) (fun _ _ _ h => h) (Or.inl ⟨by rfl, ?y1g02⟩) (by assumption) ?r1g02
        case y1g02 => (intro w hSw; obtain s1 := hSw; go_simp; (try with_reducible rfl))
        (try simp only [Act.put]); (try simp only [List.setIfInBounds_toArray]); (try simp only [List.set_cons_succ]); (try simp only [List.set_cons_zero])
        refine wpAnyH_take (i := 2) (oi := { dst := some 17, op := Op.move (Operand.tmp 16), type := 4, pos := "ref.go:104", after := #[{ on := 1, ground := Ground.data }], guard := none }) (v := ?v2g03) rfl (by kernel_rfl) (by kernel_rfl) (by kernel_rfl) (fun _ _ _ h => h) (Or.inl ⟨by rfl, ?y2g03⟩) (by assumption) ?r2g03
        case y2g03 => (intro w hSw; obtain s1 := hSw; go_simp; (try with_reducible rfl))
        (try simp only [Act.put]); (try simp only [List.setIfInBounds_toArray]); (try simp only [List.set_cons_succ]); (try simp only [List.set_cons_zero])
        refine wpAnyH_take (i := 3) (oi := { dst := some 18, op := Op.move (Operand.tmp 0), type := 22, pos := "ref.go:104", after := #[{ on := 2, ground := Ground.guard }], guard := some (2, true) }) (v := ?v3g04) rfl (by kernel_rfl) (by kernel_rfl) (by kernel_rfl) (fun _ _ _ h => h) (Or.inl ⟨by rfl, ?y3g04⟩) (by assumption) ?r3g04
        case y3g04 => (intro w hSw; obtain s1 := hSw; go_simp; (try with_reducible rfl))
        (try simp only [Act.put]); (try simp only [List.setIfInBounds_toArray]); (try simp only [List.set_cons_succ]); (try simp only [List.set_cons_zero])
        refine wpAnyH_take (i := 4) (oi := { dst := some 19, op := Op.move (Operand.tmp 4), type := 3, pos := "ref.go:104", after := #[{ on := 2, ground := Ground.guard }], guard := some (2, true) }) (v := ?v4g05) rfl (by kernel_rfl) (by kernel_rfl) (by kernel_rfl) (fun _ _ _ h => h) (Or.inl ⟨by rfl, ?y4g05⟩) (by assumption) ?r4g05
        case y4g05 => (intro w hSw; obtain s1 := hSw; go_simp; (try with_reducible rfl))
        (try simp only [Act.put]); (try simp only [List.setIfInBounds_toArray]); (try simp only [List.set_cons_succ]); (try simp only [List.set_cons_zero])
        refine wpAnyH_take (i := 5) (oi := { dst := some 20, op := Op.indexAddr 22 (Operand.tmp 18) (Operand.tmp 19), type := 0, pos := "ref.go:104", after := #[{ on := 3, ground := Ground.data }, { on := 4, ground := Ground.data }, { on := 2, ground := Ground.guard }], guard := some (2, true) }) (v := ?v5g06) rfl (by kernel_rfl) (by kernel_rfl) (by kernel_rfl) (fun _ _ _ h => h) (Or.inl ⟨by rfl, ?y5g06⟩) (by assumption) ?r5g06
        case y5g06 => (intro w hSw; obtain s1 := hSw; go_simp; (try with_reducible rfl))
        (try simp only [Act.put]); (try simp only [List.setIfInBounds_toArray]); (try simp only [List.set_cons_succ]); (try simp only [List.set_cons_zero])
        refine wpAnyH_take (i := 6) (oi := { dst := some 21, op := Op.load 5 (Operand.tmp 20), type := 5, pos := "ref.go:104", after := #[{ on := 5, ground := Ground.data }, { on := 2, ground := Ground.guard }], guard := some (2, true) }) (v := ?v6g07) rfl (by kernel_rfl) (by kernel_rfl) (by kernel_rfl) (fun _ _ _ h => h) (Or.inl ⟨by rfl, ?y6g07⟩) (by assumption) ?r6g07
        case y6g07 => (intro w hSw; obtain s1 := hSw; go_simp; (try with_reducible rfl))
        (try simp only [Act.put]); (try simp only [List.setIfInBounds_toArray]); (try simp only [List.set_cons_succ]); (try simp only [List.set_cons_zero])
        refine wpAnyH_take (i := 7) (oi := { dst := some 22, op := Op.move (Operand.tmp 3), type := 9, pos := "ref.go:104", after := #[{ on := 2, ground := Ground.guard }], guard := some (2, true) }) (v := ?v7g08) rfl (by kernel_rfl) (by kernel_rfl) (by kernel_rfl) (fun _ _ _ h => h) (Or.inl ⟨by rfl, ?y7g08⟩) (by assumption) ?r7g08
        case y7g08 => (intro w hSw; obtain s1 := hSw; go_simp; (try with_reducible rfl))
        (try simp only [Act.put]); (try simp only [List.setIfInBounds_toArray]); (try simp only [List.set_cons_succ]); (try simp only [List.set_cons_zero])
        refine wpAnyH_take (i := 8) (oi := { dst := some 23, op := Op.move (Operand.tmp 4), type := 3, pos := "ref.go:104", after := #[{ on := 2, ground := Ground.guard }], guard := some (2, true) }) (v := ?v8g09) rfl (by kernel_rfl) (by kernel_rfl) (by kernel_rfl) (fun _ _ _ h => h) (Or.inl ⟨by rfl, ?y8g09⟩) (by assumption) ?r8g09
        case y8g09 => (intro w hSw; obtain s1 := hSw; go_simp; (try with_reducible rfl))
        (try simp only [Act.put]); (try simp only [List.setIfInBounds_toArray]); (try simp only [List.set_cons_succ]); (try simp only [List.set_cons_zero])
        refine wpAnyH_take (i := 9) (oi := { dst := some 24, op := Op.index 9 (Operand.tmp 22) (Operand.tmp 23), type := 5, pos := "ref.go:104", after := #[{ on := 7, ground := Ground.data }, { on := 8, ground := Ground.data }, { on := 2, ground := Ground.guard }], guard := some (2, true) }) (v := ?v9g010) rfl (by kernel_rfl) (by kernel_rfl) (by kernel_rfl) (fun _ _ _ h => h) (Or.inl ⟨by rfl, ?y9g010⟩) (by assumption) ?r9g010
        case y9g010 => (intro w hSw; obtain s1 := hSw; go_simp; (try with_reducible rfl))
        (try simp only [Act.put]); (try simp only [List.setIfInBounds_toArray]); (try simp only [List.set_cons_succ]); (try simp only [List.set_cons_zero])
        refine wpAnyH_take (i := 10) (oi := { dst := some 25, op := Op.binOp BinOp.neq 5 (Operand.tmp 21) (Operand.tmp 24) 5, type := 4, pos := "ref.go:104", after := #[{ on := 6, ground := Ground.data }, { on := 9, ground := Ground.data }, { on := 2, ground := Ground.guard }], guard := some (2, true) }) (v := ?v10g011) rfl (by kernel_rfl) (by kernel_rfl) (by kernel_rfl) (fun _ _ _ h => h) (Or.inl ⟨by rfl, ?y10g011⟩) (by assumption) ?r10g011
        case y10g011 => (intro w hSw; obtain s1 := hSw; go_simp; (try with_reducible rfl))
        (try simp only [Act.put]); (try simp only [List.setIfInBounds_toArray]); (try simp only [List.set_cons_succ]); (try simp only [List.set_cons_zero])
        refine wpAnyH_take (i := 11) (oi := { dst := some 26, op := Op.pick (Operand.tmp 17) (Operand.tmp 25) (Operand.const (Value.bool false)), type := 4, pos := "ref.go:104", after := #[{ on := 2, ground := Ground.data }, { on := 10, ground := Ground.data }], guard := none }) (v := ?v11g012) rfl (by kernel_rfl) (by kernel_rfl) (by kernel_rfl) (fun _ _ _ h => h) (Or.inl ⟨by rfl, ?y11g012⟩) (by assumption) ?r11g012
        case y11g012 => (intro w hSw; obtain s1 := hSw; go_simp; (try with_reducible rfl))
        (try simp only [Act.put]); (try simp only [List.setIfInBounds_toArray]); (try simp only [List.set_cons_succ]); (try simp only [List.set_cons_zero])
        refine wpAnyH_take (i := 12) (oi := { dst := some 27, op := Op.move (Operand.tmp 26), type := 4, pos := "ref.go:104", after := #[{ on := 11, ground := Ground.data }, { on := 2, ground := Ground.chain }], guard := none }) (v := ?v12g013) rfl (by kernel_rfl) (by kernel_rfl) (by kernel_rfl) (fun _ _ _ h => h) (Or.inl ⟨by rfl, ?y12g013⟩) (by assumption) ?r12g013
        case y12g013 => (intro w hSw; obtain s1 := hSw; go_simp; (try with_reducible rfl))
        (try simp only [Act.put]); (try simp only [List.setIfInBounds_toArray]); (try simp only [List.set_cons_succ]); (try simp only [List.set_cons_zero])
        refine wpAnyH_take (i := 13) (oi := { dst := some 28, op := Op.move (Operand.tmp 4), type := 3, pos := "ref.go:104", after := #[{ on := 12, ground := Ground.guard }], guard := some (12, false) }) (v := ?v13g014) rfl (by kernel_rfl) (by kernel_rfl) (by kernel_rfl) (fun _ _ _ h => h) (Or.inl ⟨by rfl, ?y13g014⟩) (by assumption) ?r13g014
        case y13g014 => (intro w hSw; obtain s1 := hSw; go_simp; (try with_reducible rfl))
        (try simp only [Act.put]); (try simp only [List.setIfInBounds_toArray]); (try simp only [List.set_cons_succ]); (try simp only [List.set_cons_zero])
        refine wpAnyH_take (i := 14) (oi := { dst := some 29, op := Op.binOp BinOp.eql 3 (Operand.tmp 28) (Operand.const (Value.int IntKind.i64 3)) 3, type := 4, pos := "ref.go:104", after := #[{ on := 13, ground := Ground.data }, { on := 12, ground := Ground.guard }], guard := some (12, false) }) (v := ?v14g015) rfl (by kernel_rfl) (by kernel_rfl) (by kernel_rfl) (fun _ _ _ h => h) (Or.inl ⟨by rfl, ?y14g015⟩) (by assumption) ?r14g015
        case y14g015 => (intro w hSw; obtain s1 := hSw; go_simp; (try with_reducible rfl))
        (try simp only [Act.put]); (try simp only [List.setIfInBounds_toArray]); (try simp only [List.set_cons_succ]); (try simp only [List.set_cons_zero])
        refine wpAnyH_take (i := 15) (oi := { dst := some 30, op := Op.move (Operand.tmp 29), type := 4, pos := "ref.go:104", after := #[{ on := 14, ground := Ground.data }, { on := 12, ground := Ground.chain }, { on := 12, ground := Ground.guard }], guard := some (12, false) }) (v := ?v15g016) rfl (by kernel_rfl) (by kernel_rfl) (by kernel_rfl) (fun _ _ _ h => h) (Or.inl ⟨by rfl, ?y15g016⟩) (by assumption) ?r15g016
        case y15g016 => (intro w hSw; obtain s1 := hSw; go_simp; (try with_reducible rfl))
        (try simp only [Act.put]); (try simp only [List.setIfInBounds_toArray]); (try simp only [List.set_cons_succ]); (try simp only [List.set_cons_zero])
        refine wpAnyH_take (i := 16) (oi := { dst := some 31, op := Op.move (Operand.tmp 0), type := 22, pos := "ref.go:104", after := #[{ on := 15, ground := Ground.guard }], guard := some (15, true) }) (v := undef) rfl (by kernel_rfl) (by kernel_rfl) (by kernel_rfl) (fun _ _ _ h => h) (Or.inr ⟨by kernel_rfl, rfl⟩) (by assumption) ?r16g017
        (try simp only [Act.put]); (try simp only [List.setIfInBounds_toArray]); (try simp only [List.set_cons_succ]); (try simp only [List.set_cons_zero])
        refine wpAnyH_take (i := 17) (oi := { dst := some 32, op := Op.move (Operand.tmp 4), type := 3, pos := "ref.go:104", after := #[{ on := 15, ground := Ground.guard }], guard := some (15, true) }) (v := undef) rfl (by kernel_rfl) (by kernel_rfl) (by kernel_rfl) (fun _ _ _ h => h) (Or.inr ⟨by kernel_rfl, rfl⟩) (by assumption) ?r17g018
        (try simp only [Act.put]); (try simp only [List.setIfInBounds_toArray]); (try simp only [List.set_cons_succ]); (try simp only [List.set_cons_zero])
        refine wpAnyH_take (i := 18) (oi := { dst := some 33, op := Op.indexAddr 22 (Operand.tmp 31) (Operand.tmp 32), type := 0, pos := "ref.go:104", after := #[{ on := 16, ground := Ground.data }, { on := 17, ground := Ground.data }, { on := 15, ground := Ground.guard }], guard := some (15, true) }) (v := undef) rfl (by kernel_rfl) (by kernel_rfl) (by kernel_rfl) (fun _ _ _ h => h) (Or.inr ⟨by kernel_rfl, rfl⟩) (by assumption) ?r18g019
        (try simp only [Act.put]); (try simp only [List.setIfInBounds_toArray]); (try simp only [List.set_cons_succ]); (try simp only [List.set_cons_zero])
        refine wpAnyH_take (i := 19) (oi := { dst := some 34, op := Op.load 5 (Operand.tmp 33), type := 5, pos := "ref.go:104", after := #[{ on := 18, ground := Ground.data }, { on := 15, ground := Ground.guard }], guard := some (15, true) }) (v := undef) rfl (by kernel_rfl) (by kernel_rfl) (by kernel_rfl) (fun _ _ _ h => h) (Or.inr ⟨by kernel_rfl, rfl⟩) (by assumption) ?r19g020
        (try simp only [Act.put]); (try simp only [List.setIfInBounds_toArray]); (try simp only [List.set_cons_succ]); (try simp only [List.set_cons_zero])
        refine wpAnyH_take (i := 20) (oi := { dst := some 35, op := Op.binOp BinOp.neq 5 (Operand.tmp 34) (Operand.const (Value.int IntKind.u8 48)) 5, type := 4, pos := "ref.go:104", after := #[{ on := 19, ground := Ground.data }, { on := 15, ground := Ground.guard }], guard := some (15, true) }) (v := undef) rfl (by kernel_rfl) (by kernel_rfl) (by kernel_rfl) (fun _ _ _ h => h) (Or.inr ⟨by kernel_rfl, rfl⟩) (by assumption) ?r20g021
        (try simp only [Act.put]); (try simp only [List.setIfInBounds_toArray]); (try simp only [List.set_cons_succ]); (try simp only [List.set_cons_zero])
        refine wpAnyH_take (i := 21) (oi := { dst := some 36, op := Op.pick (Operand.tmp 30) (Operand.tmp 35) (Operand.const (Value.bool false)), type := 4, pos := "ref.go:104", after := #[{ on := 15, ground := Ground.data }, { on := 20, ground := Ground.data }, { on := 12, ground := Ground.guard }], guard := some (12, false) }) (v := ?v21g022) rfl (by kernel_rfl) (by kernel_rfl) (by kernel_rfl) (fun _ _ _ h => h) (Or.inl ⟨by rfl, ?y21g022⟩) (by assumption) ?r21g022
        case y21g022 => (intro w hSw; obtain s1 := hSw; go_simp; (try with_reducible rfl))
        (try simp only [Act.put]); (try simp only [List.setIfInBounds_toArray]); (try simp only [List.set_cons_succ]); (try simp only [List.set_cons_zero])
        refine wpAnyH_take (i := 22) (oi := { dst := some 37, op := Op.move (Operand.tmp 36), type := 4, pos := "ref.go:104", after := #[{ on := 21, ground := Ground.data }, { on := 15, ground := Ground.chain }, { on := 12, ground := Ground.guard }], guard := some (12, false) }) (v := ?v22g023) rfl (by kernel_rfl) (by kernel_rfl) (by kernel_rfl) (fun _ _ _ h => h) (Or.inl ⟨by rfl, ?y22g023⟩) (by assumption) ?r22g023
        case y22g023 => (intro w hSw; obtain s1 := hSw; go_simp; (try with_reducible rfl))
        (try simp only [Act.put]); (try simp only [List.setIfInBounds_toArray]); (try simp only [List.set_cons_succ]); (try simp only [List.set_cons_zero])
        refine wpAnyH_take (i := 23) (oi := { dst := some 38, op := Op.move (Operand.tmp 0), type := 22, pos := "ref.go:104", after := #[{ on := 22, ground := Ground.guard }], guard := some (22, true) }) (v := undef) rfl (by kernel_rfl) (by kernel_rfl) (by kernel_rfl) (fun _ _ _ h => h) (Or.inr ⟨by kernel_rfl, rfl⟩) (by assumption) ?r23g024
        (try simp only [Act.put]); (try simp only [List.setIfInBounds_toArray]); (try simp only [List.set_cons_succ]); (try simp only [List.set_cons_zero])
        refine wpAnyH_take (i := 24) (oi := { dst := some 39, op := Op.move (Operand.tmp 4), type := 3, pos := "ref.go:104", after := #[{ on := 22, ground := Ground.guard }], guard := some (22, true) }) (v := undef) rfl (by kernel_rfl) (by kernel_rfl) (by kernel_rfl) (fun _ _ _ h => h) (Or.inr ⟨by kernel_rfl, rfl⟩) (by assumption) ?r24g025
        (try simp only [Act.put]); (try simp only [List.setIfInBounds_toArray]); (try simp only [List.set_cons_succ]); (try simp only [List.set_cons_zero])
        refine wpAnyH_take (i := 25) (oi := { dst := some 40, op := Op.indexAddr 22 (Operand.tmp 38) (Operand.tmp 39), type := 0, pos := "ref.go:104", after := #[{ on := 23, ground := Ground.data }, { on := 24, ground := Ground.data }, { on := 22, ground := Ground.guard }], guard := some (22, true) }) (v := undef) rfl (by kernel_rfl) (by kernel_rfl) (by kernel_rfl) (fun _ _ _ h => h) (Or.inr ⟨by kernel_rfl, rfl⟩) (by assumption) ?r25g026
        (try simp only [Act.put]); (try simp only [List.setIfInBounds_toArray]); (try simp only [List.set_cons_succ]); (try simp only [List.set_cons_zero])
        refine wpAnyH_take (i := 26) (oi := { dst := some 41, op := Op.load 5 (Operand.tmp 40), type := 5, pos := "ref.go:104", after := #[{ on := 25, ground := Ground.data }, { on := 22, ground := Ground.guard }], guard := some (22, true) }) (v := undef) rfl (by kernel_rfl) (by kernel_rfl) (by kernel_rfl) (fun _ _ _ h => h) (Or.inr ⟨by kernel_rfl, rfl⟩) (by assumption) ?r26g027
        (try simp only [Act.put]); (try simp only [List.setIfInBounds_toArray]); (try simp only [List.set_cons_succ]); (try simp only [List.set_cons_zero])
        refine wpAnyH_take (i := 27) (oi := { dst := some 42, op := Op.binOp BinOp.neq 5 (Operand.tmp 41) (Operand.const (Value.int IntKind.u8 49)) 5, type := 4, pos := "ref.go:104", after := #[{ on := 26, ground := Ground.data }, { on := 22, ground := Ground.guard }], guard := some (22, true) }) (v := undef) rfl (by kernel_rfl) (by kernel_rfl) (by kernel_rfl) (fun _ _ _ h => h) (Or.inr ⟨by kernel_rfl, rfl⟩) (by assumption) ?r27g028
        (try simp only [Act.put]); (try simp only [List.setIfInBounds_toArray]); (try simp only [List.set_cons_succ]); (try simp only [List.set_cons_zero])
        refine wpAnyH_take (i := 28) (oi := { dst := some 43, op := Op.pick (Operand.tmp 37) (Operand.tmp 42) (Operand.const (Value.bool false)), type := 4, pos := "ref.go:104", after := #[{ on := 22, ground := Ground.data }, { on := 27, ground := Ground.data }, { on := 12, ground := Ground.guard }], guard := some (12, false) }) (v := ?v28g029) rfl (by kernel_rfl) (by kernel_rfl) (by kernel_rfl) (fun _ _ _ h => h) (Or.inl ⟨by rfl, ?y28g029⟩) (by assumption) ?r28g029
        case y28g029 => (intro w hSw; obtain s1 := hSw; go_simp; (try with_reducible rfl))
        (try simp only [Act.put]); (try simp only [List.setIfInBounds_toArray]); (try simp only [List.set_cons_succ]); (try simp only [List.set_cons_zero])
        refine wpAnyH_take (i := 29) (oi := { dst := some 44, op := Op.pick (Operand.tmp 27) (Operand.const (Value.bool true)) (Operand.tmp 43), type := 4, pos := "ref.go:104", after := #[{ on := 12, ground := Ground.data }, { on := 28, ground := Ground.data }], guard := none }) (v := ?v29g030) rfl (by kernel_rfl) (by kernel_rfl) (by kernel_rfl) (fun _ _ _ h => h) (Or.inl ⟨by rfl, ?y29g030⟩) (by assumption) ?r29g030
        case y29g030 => (intro w hSw; obtain s1 := hSw; go_simp; (try with_reducible rfl))
        (try simp only [Act.put]); (try simp only [List.setIfInBounds_toArray]); (try simp only [List.set_cons_succ]); (try simp only [List.set_cons_zero])
        refine wpAnyH_done (by kernel_rfl) ?_ _
        clear hHeld
        go_wp2_with fail
        go_roundw
        case rel => exact ⟨1, by omega, by omega, by simp, HE.out, HG.out.drewN _⟩
        case measure => simp [intOf]
      · have dI : ¬ (x.toNat : Int) = 67 := fun q => d (UInt8.toNat_inj.1 (by show x.toNat = 67; omega))
        have HE := hidM (HNo.out (by simpa [okAt] using d))
        obtain ⟨z, hz⟩ : ∃ z : Int, z = (x.toNat : Int) := ⟨_, rfl⟩
        rw [← hz] at t dI
        have HIN := hidM t
        clear HGo HNo d hxb hz t
        go_wp2_with fail
        refine wp_region_held_drew (S := fun w' => w'.cell? ⟨B, o, none⟩ = some (.int .u8 z)) (by kernel_rfl) (HIN.out) (fun hHeld => ?_)
        refine wpAnyH_take (i := 0) (oi := { dst := some 15, op := Op.move (Operand.tmp 4), type := 3, pos := "ref.go:104", after := #[], guard := none }) (v := ?v0b01) rfl (by kernel_rfl) (by kernel_rfl) (by kernel_rfl) (fun _ _ _ h => h) (Or.inl ⟨by rfl, ?y0b01⟩) (by assumption) ?r0b01
        case y0b01 => (intro w hSw; obtain s1 := hSw; go_simp; (try with_reducible rfl))
        (try simp only [Act.put]); (try simp only [List.setIfInBounds_toArray]); (try simp only [List.set_cons_succ]); (try simp only [List.set_cons_zero])
        refine wpAnyH_take (i := 1) (oi := { dst := some 16, op := Op.binOp BinOp.lss 3 (Operand.tmp 15) (Operand.const (Value.int IntKind.i64 3)) 3, type := 4, pos := "ref.go:104", after := #[{ on := 0, ground := Ground.data }], guard := none }) (v := ?v1b02) rfl (by kernel_rfl) (by kernel_rfl) (by kernel_rfl) (fun _ _ _ h => h) (Or.inl ⟨by rfl, ?y1b02⟩) (by assumption) ?r1b02
        case y1b02 => (intro w hSw; obtain s1 := hSw; go_simp; (try with_reducible rfl))
        (try simp only [Act.put]); (try simp only [List.setIfInBounds_toArray]); (try simp only [List.set_cons_succ]); (try simp only [List.set_cons_zero])
        refine wpAnyH_take (i := 2) (oi := { dst := some 17, op := Op.move (Operand.tmp 16), type := 4, pos := "ref.go:104", after := #[{ on := 1, ground := Ground.data }], guard := none }) (v := ?v2b03) rfl (by kernel_rfl) (by kernel_rfl) (by kernel_rfl) (fun _ _ _ h => h) (Or.inl ⟨by rfl, ?y2b03⟩) (by assumption) ?r2b03
        case y2b03 => (intro w hSw; obtain s1 := hSw; go_simp; (try with_reducible rfl))
        (try simp only [Act.put]); (try simp only [List.setIfInBounds_toArray]); (try simp only [List.set_cons_succ]); (try simp only [List.set_cons_zero])
        refine wpAnyH_take (i := 3) (oi := { dst := some 18, op := Op.move (Operand.tmp 0), type := 22, pos := "ref.go:104", after := #[{ on := 2, ground := Ground.guard }], guard := some (2, true) }) (v := ?v3b04) rfl (by kernel_rfl) (by kernel_rfl) (by kernel_rfl) (fun _ _ _ h => h) (Or.inl ⟨by rfl, ?y3b04⟩) (by assumption) ?r3b04
        case y3b04 => (intro w hSw; obtain s1 := hSw; go_simp; (try with_reducible rfl))
        (try simp only [Act.put]); (try simp only [List.setIfInBounds_toArray]); (try simp only [List.set_cons_succ]); (try simp only [List.set_cons_zero])
        refine wpAnyH_take (i := 4) (oi := { dst := some 19, op := Op.move (Operand.tmp 4), type := 3, pos := "ref.go:104", after := #[{ on := 2, ground := Ground.guard }], guard := some (2, true) }) (v := ?v4b05) rfl (by kernel_rfl) (by kernel_rfl) (by kernel_rfl) (fun _ _ _ h => h) (Or.inl ⟨by rfl, ?y4b05⟩) (by assumption) ?r4b05
        case y4b05 => (intro w hSw; obtain s1 := hSw; go_simp; (try with_reducible rfl))
        (try simp only [Act.put]); (try simp only [List.setIfInBounds_toArray]); (try simp only [List.set_cons_succ]); (try simp only [List.set_cons_zero])
        refine wpAnyH_take (i := 5) (oi := { dst := some 20, op := Op.indexAddr 22 (Operand.tmp 18) (Operand.tmp 19), type := 0, pos := "ref.go:104", after := #[{ on := 3, ground := Ground.data }, { on := 4, ground := Ground.data }, { on := 2, ground := Ground.guard }], guard := some (2, true) }) (v := ?v5b06) rfl (by kernel_rfl) (by kernel_rfl) (by kernel_rfl) (fun _ _ _ h => h) (Or.inl ⟨by rfl, ?y5b06⟩) (by assumption) ?r5b06
        case y5b06 => (intro w hSw; obtain s1 := hSw; go_simp; (try with_reducible rfl))
        (try simp only [Act.put]); (try simp only [List.setIfInBounds_toArray]); (try simp only [List.set_cons_succ]); (try simp only [List.set_cons_zero])
        refine wpAnyH_take (i := 6) (oi := { dst := some 21, op := Op.load 5 (Operand.tmp 20), type := 5, pos := "ref.go:104", after := #[{ on := 5, ground := Ground.data }, { on := 2, ground := Ground.guard }], guard := some (2, true) }) (v := ?v6b07) rfl (by kernel_rfl) (by kernel_rfl) (by kernel_rfl) (fun _ _ _ h => h) (Or.inl ⟨by rfl, ?y6b07⟩) (by assumption) ?r6b07
        case y6b07 => (intro w hSw; obtain s1 := hSw; go_simp; (try with_reducible rfl))
        (try simp only [Act.put]); (try simp only [List.setIfInBounds_toArray]); (try simp only [List.set_cons_succ]); (try simp only [List.set_cons_zero])
        refine wpAnyH_take (i := 7) (oi := { dst := some 22, op := Op.move (Operand.tmp 3), type := 9, pos := "ref.go:104", after := #[{ on := 2, ground := Ground.guard }], guard := some (2, true) }) (v := ?v7b08) rfl (by kernel_rfl) (by kernel_rfl) (by kernel_rfl) (fun _ _ _ h => h) (Or.inl ⟨by rfl, ?y7b08⟩) (by assumption) ?r7b08
        case y7b08 => (intro w hSw; obtain s1 := hSw; go_simp; (try with_reducible rfl))
        (try simp only [Act.put]); (try simp only [List.setIfInBounds_toArray]); (try simp only [List.set_cons_succ]); (try simp only [List.set_cons_zero])
        refine wpAnyH_take (i := 8) (oi := { dst := some 23, op := Op.move (Operand.tmp 4), type := 3, pos := "ref.go:104", after := #[{ on := 2, ground := Ground.guard }], guard := some (2, true) }) (v := ?v8b09) rfl (by kernel_rfl) (by kernel_rfl) (by kernel_rfl) (fun _ _ _ h => h) (Or.inl ⟨by rfl, ?y8b09⟩) (by assumption) ?r8b09
        case y8b09 => (intro w hSw; obtain s1 := hSw; go_simp; (try with_reducible rfl))
        (try simp only [Act.put]); (try simp only [List.setIfInBounds_toArray]); (try simp only [List.set_cons_succ]); (try simp only [List.set_cons_zero])
        refine wpAnyH_take (i := 9) (oi := { dst := some 24, op := Op.index 9 (Operand.tmp 22) (Operand.tmp 23), type := 5, pos := "ref.go:104", after := #[{ on := 7, ground := Ground.data }, { on := 8, ground := Ground.data }, { on := 2, ground := Ground.guard }], guard := some (2, true) }) (v := ?v9b010) rfl (by kernel_rfl) (by kernel_rfl) (by kernel_rfl) (fun _ _ _ h => h) (Or.inl ⟨by rfl, ?y9b010⟩) (by assumption) ?r9b010
        case y9b010 => (intro w hSw; obtain s1 := hSw; go_simp; (try with_reducible rfl))
        (try simp only [Act.put]); (try simp only [List.setIfInBounds_toArray]); (try simp only [List.set_cons_succ]); (try simp only [List.set_cons_zero])
        refine wpAnyH_take (i := 10) (oi := { dst := some 25, op := Op.binOp BinOp.neq 5 (Operand.tmp 21) (Operand.tmp 24) 5, type := 4, pos := "ref.go:104", after := #[{ on := 6, ground := Ground.data }, { on := 9, ground := Ground.data }, { on := 2, ground := Ground.guard }], guard := some (2, true) }) (v := .bool true) rfl (by kernel_rfl) (by kernel_rfl) (by kernel_rfl) (fun _ _ _ h => h) (Or.inl ⟨by rfl, ?y10b011⟩) (by assumption) ?r10b011
        case y10b011 => (intro w hSw; obtain s1 := hSw; go_simp; first | done | (simp [dI]; done) | (with_reducible rfl) | (exact dI))
        (try simp only [Act.put]); (try simp only [List.setIfInBounds_toArray]); (try simp only [List.set_cons_succ]); (try simp only [List.set_cons_zero])
        refine wpAnyH_take (i := 11) (oi := { dst := some 26, op := Op.pick (Operand.tmp 17) (Operand.tmp 25) (Operand.const (Value.bool false)), type := 4, pos := "ref.go:104", after := #[{ on := 2, ground := Ground.data }, { on := 10, ground := Ground.data }], guard := none }) (v := ?v11b012) rfl (by kernel_rfl) (by kernel_rfl) (by kernel_rfl) (fun _ _ _ h => h) (Or.inl ⟨by rfl, ?y11b012⟩) (by assumption) ?r11b012
        case y11b012 => (intro w hSw; obtain s1 := hSw; go_simp; (try with_reducible rfl))
        (try simp only [Act.put]); (try simp only [List.setIfInBounds_toArray]); (try simp only [List.set_cons_succ]); (try simp only [List.set_cons_zero])
        refine wpAnyH_take (i := 12) (oi := { dst := some 27, op := Op.move (Operand.tmp 26), type := 4, pos := "ref.go:104", after := #[{ on := 11, ground := Ground.data }, { on := 2, ground := Ground.chain }], guard := none }) (v := ?v12b013) rfl (by kernel_rfl) (by kernel_rfl) (by kernel_rfl) (fun _ _ _ h => h) (Or.inl ⟨by rfl, ?y12b013⟩) (by assumption) ?r12b013
        case y12b013 => (intro w hSw; obtain s1 := hSw; go_simp; (try with_reducible rfl))
        (try simp only [Act.put]); (try simp only [List.setIfInBounds_toArray]); (try simp only [List.set_cons_succ]); (try simp only [List.set_cons_zero])
        refine wpAnyH_take (i := 13) (oi := { dst := some 28, op := Op.move (Operand.tmp 4), type := 3, pos := "ref.go:104", after := #[{ on := 12, ground := Ground.guard }], guard := some (12, false) }) (v := undef) rfl (by kernel_rfl) (by kernel_rfl) (by kernel_rfl) (fun _ _ _ h => h) (Or.inr ⟨by kernel_rfl, rfl⟩) (by assumption) ?r13b014
        (try simp only [Act.put]); (try simp only [List.setIfInBounds_toArray]); (try simp only [List.set_cons_succ]); (try simp only [List.set_cons_zero])
        refine wpAnyH_take (i := 14) (oi := { dst := some 29, op := Op.binOp BinOp.eql 3 (Operand.tmp 28) (Operand.const (Value.int IntKind.i64 3)) 3, type := 4, pos := "ref.go:104", after := #[{ on := 13, ground := Ground.data }, { on := 12, ground := Ground.guard }], guard := some (12, false) }) (v := undef) rfl (by kernel_rfl) (by kernel_rfl) (by kernel_rfl) (fun _ _ _ h => h) (Or.inr ⟨by kernel_rfl, rfl⟩) (by assumption) ?r14b015
        (try simp only [Act.put]); (try simp only [List.setIfInBounds_toArray]); (try simp only [List.set_cons_succ]); (try simp only [List.set_cons_zero])
        refine wpAnyH_take (i := 15) (oi := { dst := some 30, op := Op.move (Operand.tmp 29), type := 4, pos := "ref.go:104", after := #[{ on := 14, ground := Ground.data }, { on := 12, ground := Ground.chain }, { on := 12, ground := Ground.guard }], guard := some (12, false) }) (v := undef) rfl (by kernel_rfl) (by kernel_rfl) (by kernel_rfl) (fun _ _ _ h => h) (Or.inr ⟨by kernel_rfl, rfl⟩) (by assumption) ?r15b016
        (try simp only [Act.put]); (try simp only [List.setIfInBounds_toArray]); (try simp only [List.set_cons_succ]); (try simp only [List.set_cons_zero])
        refine wpAnyH_take (i := 16) (oi := { dst := some 31, op := Op.move (Operand.tmp 0), type := 22, pos := "ref.go:104", after := #[{ on := 15, ground := Ground.guard }], guard := some (15, true) }) (v := undef) rfl (by kernel_rfl) (by kernel_rfl) (by kernel_rfl) (fun _ _ _ h => h) (Or.inr ⟨by kernel_rfl, rfl⟩) (by assumption) ?r16b017
        (try simp only [Act.put]); (try simp only [List.setIfInBounds_toArray]); (try simp only [List.set_cons_succ]); (try simp only [List.set_cons_zero])
        refine wpAnyH_take (i := 17) (oi := { dst := some 32, op := Op.move (Operand.tmp 4), type := 3, pos := "ref.go:104", after := #[{ on := 15, ground := Ground.guard }], guard := some (15, true) }) (v := undef) rfl (by kernel_rfl) (by kernel_rfl) (by kernel_rfl) (fun _ _ _ h => h) (Or.inr ⟨by kernel_rfl, rfl⟩) (by assumption) ?r17b018
        (try simp only [Act.put]); (try simp only [List.setIfInBounds_toArray]); (try simp only [List.set_cons_succ]); (try simp only [List.set_cons_zero])
        refine wpAnyH_take (i := 18) (oi := { dst := some 33, op := Op.indexAddr 22 (Operand.tmp 31) (Operand.tmp 32), type := 0, pos := "ref.go:104", after := #[{ on := 16, ground := Ground.data }, { on := 17, ground := Ground.data }, { on := 15, ground := Ground.guard }], guard := some (15, true) }) (v := undef) rfl (by kernel_rfl) (by kernel_rfl) (by kernel_rfl) (fun _ _ _ h => h) (Or.inr ⟨by kernel_rfl, rfl⟩) (by assumption) ?r18b019
        (try simp only [Act.put]); (try simp only [List.setIfInBounds_toArray]); (try simp only [List.set_cons_succ]); (try simp only [List.set_cons_zero])
        refine wpAnyH_take (i := 19) (oi := { dst := some 34, op := Op.load 5 (Operand.tmp 33), type := 5, pos := "ref.go:104", after := #[{ on := 18, ground := Ground.data }, { on := 15, ground := Ground.guard }], guard := some (15, true) }) (v := undef) rfl (by kernel_rfl) (by kernel_rfl) (by kernel_rfl) (fun _ _ _ h => h) (Or.inr ⟨by kernel_rfl, rfl⟩) (by assumption) ?r19b020
        (try simp only [Act.put]); (try simp only [List.setIfInBounds_toArray]); (try simp only [List.set_cons_succ]); (try simp only [List.set_cons_zero])
        refine wpAnyH_take (i := 20) (oi := { dst := some 35, op := Op.binOp BinOp.neq 5 (Operand.tmp 34) (Operand.const (Value.int IntKind.u8 48)) 5, type := 4, pos := "ref.go:104", after := #[{ on := 19, ground := Ground.data }, { on := 15, ground := Ground.guard }], guard := some (15, true) }) (v := undef) rfl (by kernel_rfl) (by kernel_rfl) (by kernel_rfl) (fun _ _ _ h => h) (Or.inr ⟨by kernel_rfl, rfl⟩) (by assumption) ?r20b021
        (try simp only [Act.put]); (try simp only [List.setIfInBounds_toArray]); (try simp only [List.set_cons_succ]); (try simp only [List.set_cons_zero])
        refine wpAnyH_take (i := 21) (oi := { dst := some 36, op := Op.pick (Operand.tmp 30) (Operand.tmp 35) (Operand.const (Value.bool false)), type := 4, pos := "ref.go:104", after := #[{ on := 15, ground := Ground.data }, { on := 20, ground := Ground.data }, { on := 12, ground := Ground.guard }], guard := some (12, false) }) (v := undef) rfl (by kernel_rfl) (by kernel_rfl) (by kernel_rfl) (fun _ _ _ h => h) (Or.inr ⟨by kernel_rfl, rfl⟩) (by assumption) ?r21b022
        (try simp only [Act.put]); (try simp only [List.setIfInBounds_toArray]); (try simp only [List.set_cons_succ]); (try simp only [List.set_cons_zero])
        refine wpAnyH_take (i := 22) (oi := { dst := some 37, op := Op.move (Operand.tmp 36), type := 4, pos := "ref.go:104", after := #[{ on := 21, ground := Ground.data }, { on := 15, ground := Ground.chain }, { on := 12, ground := Ground.guard }], guard := some (12, false) }) (v := undef) rfl (by kernel_rfl) (by kernel_rfl) (by kernel_rfl) (fun _ _ _ h => h) (Or.inr ⟨by kernel_rfl, rfl⟩) (by assumption) ?r22b023
        (try simp only [Act.put]); (try simp only [List.setIfInBounds_toArray]); (try simp only [List.set_cons_succ]); (try simp only [List.set_cons_zero])
        refine wpAnyH_take (i := 23) (oi := { dst := some 38, op := Op.move (Operand.tmp 0), type := 22, pos := "ref.go:104", after := #[{ on := 22, ground := Ground.guard }], guard := some (22, true) }) (v := undef) rfl (by kernel_rfl) (by kernel_rfl) (by kernel_rfl) (fun _ _ _ h => h) (Or.inr ⟨by kernel_rfl, rfl⟩) (by assumption) ?r23b024
        (try simp only [Act.put]); (try simp only [List.setIfInBounds_toArray]); (try simp only [List.set_cons_succ]); (try simp only [List.set_cons_zero])
        refine wpAnyH_take (i := 24) (oi := { dst := some 39, op := Op.move (Operand.tmp 4), type := 3, pos := "ref.go:104", after := #[{ on := 22, ground := Ground.guard }], guard := some (22, true) }) (v := undef) rfl (by kernel_rfl) (by kernel_rfl) (by kernel_rfl) (fun _ _ _ h => h) (Or.inr ⟨by kernel_rfl, rfl⟩) (by assumption) ?r24b025
        (try simp only [Act.put]); (try simp only [List.setIfInBounds_toArray]); (try simp only [List.set_cons_succ]); (try simp only [List.set_cons_zero])
        refine wpAnyH_take (i := 25) (oi := { dst := some 40, op := Op.indexAddr 22 (Operand.tmp 38) (Operand.tmp 39), type := 0, pos := "ref.go:104", after := #[{ on := 23, ground := Ground.data }, { on := 24, ground := Ground.data }, { on := 22, ground := Ground.guard }], guard := some (22, true) }) (v := undef) rfl (by kernel_rfl) (by kernel_rfl) (by kernel_rfl) (fun _ _ _ h => h) (Or.inr ⟨by kernel_rfl, rfl⟩) (by assumption) ?r25b026
        (try simp only [Act.put]); (try simp only [List.setIfInBounds_toArray]); (try simp only [List.set_cons_succ]); (try simp only [List.set_cons_zero])
        refine wpAnyH_take (i := 26) (oi := { dst := some 41, op := Op.load 5 (Operand.tmp 40), type := 5, pos := "ref.go:104", after := #[{ on := 25, ground := Ground.data }, { on := 22, ground := Ground.guard }], guard := some (22, true) }) (v := undef) rfl (by kernel_rfl) (by kernel_rfl) (by kernel_rfl) (fun _ _ _ h => h) (Or.inr ⟨by kernel_rfl, rfl⟩) (by assumption) ?r26b027
        (try simp only [Act.put]); (try simp only [List.setIfInBounds_toArray]); (try simp only [List.set_cons_succ]); (try simp only [List.set_cons_zero])
        refine wpAnyH_take (i := 27) (oi := { dst := some 42, op := Op.binOp BinOp.neq 5 (Operand.tmp 41) (Operand.const (Value.int IntKind.u8 49)) 5, type := 4, pos := "ref.go:104", after := #[{ on := 26, ground := Ground.data }, { on := 22, ground := Ground.guard }], guard := some (22, true) }) (v := undef) rfl (by kernel_rfl) (by kernel_rfl) (by kernel_rfl) (fun _ _ _ h => h) (Or.inr ⟨by kernel_rfl, rfl⟩) (by assumption) ?r27b028
        (try simp only [Act.put]); (try simp only [List.setIfInBounds_toArray]); (try simp only [List.set_cons_succ]); (try simp only [List.set_cons_zero])
        refine wpAnyH_take (i := 28) (oi := { dst := some 43, op := Op.pick (Operand.tmp 37) (Operand.tmp 42) (Operand.const (Value.bool false)), type := 4, pos := "ref.go:104", after := #[{ on := 22, ground := Ground.data }, { on := 27, ground := Ground.data }, { on := 12, ground := Ground.guard }], guard := some (12, false) }) (v := undef) rfl (by kernel_rfl) (by kernel_rfl) (by kernel_rfl) (fun _ _ _ h => h) (Or.inr ⟨by kernel_rfl, rfl⟩) (by assumption) ?r28b029
        (try simp only [Act.put]); (try simp only [List.setIfInBounds_toArray]); (try simp only [List.set_cons_succ]); (try simp only [List.set_cons_zero])
        refine wpAnyH_take (i := 29) (oi := { dst := some 44, op := Op.pick (Operand.tmp 27) (Operand.const (Value.bool true)) (Operand.tmp 43), type := 4, pos := "ref.go:104", after := #[{ on := 12, ground := Ground.data }, { on := 28, ground := Ground.data }], guard := none }) (v := ?v29b030) rfl (by kernel_rfl) (by kernel_rfl) (by kernel_rfl) (fun _ _ _ h => h) (Or.inl ⟨by rfl, ?y29b030⟩) (by assumption) ?r29b030
        case y29b030 => (intro w hSw; obtain s1 := hSw; go_simp; (try with_reducible rfl))
        (try simp only [Act.put]); (try simp only [List.setIfInBounds_toArray]); (try simp only [List.set_cons_succ]); (try simp only [List.set_cons_zero])
        refine wpAnyH_done (by kernel_rfl) ?_ _
        clear hHeld
        go_wp2_with fail
        go_ret
        exact ⟨by rw [HE.out]; rfl, HG.out.drewN _⟩
    · replace t : wr.cell? ⟨B, o + 1, none⟩ = some (.int .u8 (x.toNat : Int)) := t
      replace c2I : (1 : Int) < (L : Int) := c2I
      rw [show ((1 : Nat) : Int) = 1 from rfl]
      by_cases d : x = 79
      · have dI : (x.toNat : Int) = 79 := by rw [d]; rfl
        have HE := hidM (HGo.out (by simpa [okAt] using d))
        rw [dI] at t
        have HIN := hidM t
        clear HGo HNo d dI hxb t
        go_wp2_with fail
        refine wp_region_held_drew (S := fun w' => w'.cell? ⟨B, o + 1, none⟩ = some (.int .u8 79)) (by kernel_rfl) (HIN.out) (fun hHeld => ?_)
        refine wpAnyH_take (i := 0) (oi := { dst := some 15, op := Op.move (Operand.tmp 4), type := 3, pos := "ref.go:104", after := #[], guard := none }) (v := ?v0g11) rfl (by kernel_rfl) (by kernel_rfl) (by kernel_rfl) (fun _ _ _ h => h) (Or.inl ⟨by rfl, ?y0g11⟩) (by assumption) ?r0g11
        case y0g11 => (intro w hSw; obtain s1 := hSw; go_simp; (try with_reducible rfl))
        (try simp only [Act.put]); (try simp only [List.setIfInBounds_toArray]); (try simp only [List.set_cons_succ]); (try simp only [List.set_cons_zero])
        refine wpAnyH_take (i := 1) (oi := { dst := some 16, op := Op.binOp BinOp.lss 3 (Operand.tmp 15) (Operand.const (Value.int IntKind.i64 3)) 3, type := 4, pos := "ref.go:104", after := #[{ on := 0, ground := Ground.data }], guard := none }) (v := ?v1g12) rfl (by kernel_rfl) (by kernel_rfl) (by kernel_rfl) (fun _ _ _ h => h) (Or.inl ⟨by rfl, ?y1g12⟩) (by assumption) ?r1g12
        case y1g12 => (intro w hSw; obtain s1 := hSw; go_simp; (try with_reducible rfl))
        (try simp only [Act.put]); (try simp only [List.setIfInBounds_toArray]); (try simp only [List.set_cons_succ]); (try simp only [List.set_cons_zero])
        refine wpAnyH_take (i := 2) (oi := { dst := some 17, op := Op.move (Operand.tmp 16), type := 4, pos := "ref.go:104", after := #[{ on := 1, ground := Ground.data }], guard := none }) (v := ?v2g13) rfl (by kernel_rfl) (by kernel_rfl) (by kernel_rfl) (fun _ _ _ h => h) (Or.inl ⟨by rfl, ?y2g13⟩) (by assumption) ?r2g13
        case y2g13 => (intro w hSw; obtain s1 := hSw; go_simp; (try with_reducible rfl))
        (try simp only [Act.put]); (try simp only [List.setIfInBounds_toArray]); (try simp only [List.set_cons_succ]); (try simp only [List.set_cons_zero])
        refine wpAnyH_take (i := 3) (oi := { dst := some 18, op := Op.move (Operand.tmp 0), type := 22, pos := "ref.go:104", after := #[{ on := 2, ground := Ground.guard }], guard := some (2, true) }) (v := ?v3g14) rfl (by kernel_rfl) (by kernel_rfl) (by kernel_rfl) (fun _ _ _ h => h) (Or.inl ⟨by rfl, ?y3g14⟩) (by assumption) ?r3g14
        case y3g14 => (intro w hSw; obtain s1 := hSw; go_simp; (try with_reducible rfl))
        (try simp only [Act.put]); (try simp only [List.setIfInBounds_toArray]); (try simp only [List.set_cons_succ]); (try simp only [List.set_cons_zero])
        refine wpAnyH_take (i := 4) (oi := { dst := some 19, op := Op.move (Operand.tmp 4), type := 3, pos := "ref.go:104", after := #[{ on := 2, ground := Ground.guard }], guard := some (2, true) }) (v := ?v4g15) rfl (by kernel_rfl) (by kernel_rfl) (by kernel_rfl) (fun _ _ _ h => h) (Or.inl ⟨by rfl, ?y4g15⟩) (by assumption) ?r4g15
        case y4g15 => (intro w hSw; obtain s1 := hSw; go_simp; (try with_reducible rfl))
        (try simp only [Act.put]); (try simp only [List.setIfInBounds_toArray]); (try simp only [List.set_cons_succ]); (try simp only [List.set_cons_zero])
        refine wpAnyH_take (i := 5) (oi := { dst := some 20, op := Op.indexAddr 22 (Operand.tmp 18) (Operand.tmp 19), type := 0, pos := "ref.go:104", after := #[{ on := 3, ground := Ground.data }, { on := 4, ground := Ground.data }, { on := 2, ground := Ground.guard }], guard := some (2, true) }) (v := ?v5g16) rfl (by kernel_rfl) (by kernel_rfl) (by kernel_rfl) (fun _ _ _ h => h) (Or.inl ⟨by rfl, ?y5g16⟩) (by assumption) ?r5g16
        case y5g16 => (intro w hSw; obtain s1 := hSw; go_simp; (try with_reducible rfl))
        (try simp only [Act.put]); (try simp only [List.setIfInBounds_toArray]); (try simp only [List.set_cons_succ]); (try simp only [List.set_cons_zero])
        refine wpAnyH_take (i := 6) (oi := { dst := some 21, op := Op.load 5 (Operand.tmp 20), type := 5, pos := "ref.go:104", after := #[{ on := 5, ground := Ground.data }, { on := 2, ground := Ground.guard }], guard := some (2, true) }) (v := ?v6g17) rfl (by kernel_rfl) (by kernel_rfl) (by kernel_rfl) (fun _ _ _ h => h) (Or.inl ⟨by rfl, ?y6g17⟩) (by assumption) ?r6g17
        case y6g17 => (intro w hSw; obtain s1 := hSw; go_simp; (try with_reducible rfl))
        (try simp only [Act.put]); (try simp only [List.setIfInBounds_toArray]); (try simp only [List.set_cons_succ]); (try simp only [List.set_cons_zero])
        refine wpAnyH_take (i := 7) (oi := { dst := some 22, op := Op.move (Operand.tmp 3), type := 9, pos := "ref.go:104", after := #[{ on := 2, ground := Ground.guard }], guard := some (2, true) }) (v := ?v7g18) rfl (by kernel_rfl) (by kernel_rfl) (by kernel_rfl) (fun _ _ _ h => h) (Or.inl ⟨by rfl, ?y7g18⟩) (by assumption) ?r7g18
        case y7g18 => (intro w hSw; obtain s1 := hSw; go_simp; (try with_reducible rfl))
        (try simp only [Act.put]); (try simp only [List.setIfInBounds_toArray]); (try simp only [List.set_cons_succ]); (try simp only [List.set_cons_zero])
        refine wpAnyH_take (i := 8) (oi := { dst := some 23, op := Op.move (Operand.tmp 4), type := 3, pos := "ref.go:104", after := #[{ on := 2, ground := Ground.guard }], guard := some (2, true) }) (v := ?v8g19) rfl (by kernel_rfl) (by kernel_rfl) (by kernel_rfl) (fun _ _ _ h => h) (Or.inl ⟨by rfl, ?y8g19⟩) (by assumption) ?r8g19
        case y8g19 => (intro w hSw; obtain s1 := hSw; go_simp; (try with_reducible rfl))
        (try simp only [Act.put]); (try simp only [List.setIfInBounds_toArray]); (try simp only [List.set_cons_succ]); (try simp only [List.set_cons_zero])
        refine wpAnyH_take (i := 9) (oi := { dst := some 24, op := Op.index 9 (Operand.tmp 22) (Operand.tmp 23), type := 5, pos := "ref.go:104", after := #[{ on := 7, ground := Ground.data }, { on := 8, ground := Ground.data }, { on := 2, ground := Ground.guard }], guard := some (2, true) }) (v := ?v9g110) rfl (by kernel_rfl) (by kernel_rfl) (by kernel_rfl) (fun _ _ _ h => h) (Or.inl ⟨by rfl, ?y9g110⟩) (by assumption) ?r9g110
        case y9g110 => (intro w hSw; obtain s1 := hSw; go_simp; (try with_reducible rfl))
        (try simp only [Act.put]); (try simp only [List.setIfInBounds_toArray]); (try simp only [List.set_cons_succ]); (try simp only [List.set_cons_zero])
        refine wpAnyH_take (i := 10) (oi := { dst := some 25, op := Op.binOp BinOp.neq 5 (Operand.tmp 21) (Operand.tmp 24) 5, type := 4, pos := "ref.go:104", after := #[{ on := 6, ground := Ground.data }, { on := 9, ground := Ground.data }, { on := 2, ground := Ground.guard }], guard := some (2, true) }) (v := ?v10g111) rfl (by kernel_rfl) (by kernel_rfl) (by kernel_rfl) (fun _ _ _ h => h) (Or.inl ⟨by rfl, ?y10g111⟩) (by assumption) ?r10g111
        case y10g111 => (intro w hSw; obtain s1 := hSw; go_simp; (try with_reducible rfl))
        (try simp only [Act.put]); (try simp only [List.setIfInBounds_toArray]); (try simp only [List.set_cons_succ]); (try simp only [List.set_cons_zero])
        refine wpAnyH_take (i := 11) (oi := { dst := some 26, op := Op.pick (Operand.tmp 17) (Operand.tmp 25) (Operand.const (Value.bool false)), type := 4, pos := "ref.go:104", after := #[{ on := 2, ground := Ground.data }, { on := 10, ground := Ground.data }], guard := none }) (v := ?v11g112) rfl (by kernel_rfl) (by kernel_rfl) (by kernel_rfl) (fun _ _ _ h => h) (Or.inl ⟨by rfl, ?y11g112⟩) (by assumption) ?r11g112
        case y11g112 => (intro w hSw; obtain s1 := hSw; go_simp; (try with_reducible rfl))
        (try simp only [Act.put]); (try simp only [List.setIfInBounds_toArray]); (try simp only [List.set_cons_succ]); (try simp only [List.set_cons_zero])
        refine wpAnyH_take (i := 12) (oi := { dst := some 27, op := Op.move (Operand.tmp 26), type := 4, pos := "ref.go:104", after := #[{ on := 11, ground := Ground.data }, { on := 2, ground := Ground.chain }], guard := none }) (v := ?v12g113) rfl (by kernel_rfl) (by kernel_rfl) (by kernel_rfl) (fun _ _ _ h => h) (Or.inl ⟨by rfl, ?y12g113⟩) (by assumption) ?r12g113
        case y12g113 => (intro w hSw; obtain s1 := hSw; go_simp; (try with_reducible rfl))
        (try simp only [Act.put]); (try simp only [List.setIfInBounds_toArray]); (try simp only [List.set_cons_succ]); (try simp only [List.set_cons_zero])
        refine wpAnyH_take (i := 13) (oi := { dst := some 28, op := Op.move (Operand.tmp 4), type := 3, pos := "ref.go:104", after := #[{ on := 12, ground := Ground.guard }], guard := some (12, false) }) (v := ?v13g114) rfl (by kernel_rfl) (by kernel_rfl) (by kernel_rfl) (fun _ _ _ h => h) (Or.inl ⟨by rfl, ?y13g114⟩) (by assumption) ?r13g114
        case y13g114 => (intro w hSw; obtain s1 := hSw; go_simp; (try with_reducible rfl))
        (try simp only [Act.put]); (try simp only [List.setIfInBounds_toArray]); (try simp only [List.set_cons_succ]); (try simp only [List.set_cons_zero])
        refine wpAnyH_take (i := 14) (oi := { dst := some 29, op := Op.binOp BinOp.eql 3 (Operand.tmp 28) (Operand.const (Value.int IntKind.i64 3)) 3, type := 4, pos := "ref.go:104", after := #[{ on := 13, ground := Ground.data }, { on := 12, ground := Ground.guard }], guard := some (12, false) }) (v := ?v14g115) rfl (by kernel_rfl) (by kernel_rfl) (by kernel_rfl) (fun _ _ _ h => h) (Or.inl ⟨by rfl, ?y14g115⟩) (by assumption) ?r14g115
        case y14g115 => (intro w hSw; obtain s1 := hSw; go_simp; (try with_reducible rfl))
        (try simp only [Act.put]); (try simp only [List.setIfInBounds_toArray]); (try simp only [List.set_cons_succ]); (try simp only [List.set_cons_zero])
        refine wpAnyH_take (i := 15) (oi := { dst := some 30, op := Op.move (Operand.tmp 29), type := 4, pos := "ref.go:104", after := #[{ on := 14, ground := Ground.data }, { on := 12, ground := Ground.chain }, { on := 12, ground := Ground.guard }], guard := some (12, false) }) (v := ?v15g116) rfl (by kernel_rfl) (by kernel_rfl) (by kernel_rfl) (fun _ _ _ h => h) (Or.inl ⟨by rfl, ?y15g116⟩) (by assumption) ?r15g116
        case y15g116 => (intro w hSw; obtain s1 := hSw; go_simp; (try with_reducible rfl))
        (try simp only [Act.put]); (try simp only [List.setIfInBounds_toArray]); (try simp only [List.set_cons_succ]); (try simp only [List.set_cons_zero])
        refine wpAnyH_take (i := 16) (oi := { dst := some 31, op := Op.move (Operand.tmp 0), type := 22, pos := "ref.go:104", after := #[{ on := 15, ground := Ground.guard }], guard := some (15, true) }) (v := undef) rfl (by kernel_rfl) (by kernel_rfl) (by kernel_rfl) (fun _ _ _ h => h) (Or.inr ⟨by kernel_rfl, rfl⟩) (by assumption) ?r16g117
        (try simp only [Act.put]); (try simp only [List.setIfInBounds_toArray]); (try simp only [List.set_cons_succ]); (try simp only [List.set_cons_zero])
        refine wpAnyH_take (i := 17) (oi := { dst := some 32, op := Op.move (Operand.tmp 4), type := 3, pos := "ref.go:104", after := #[{ on := 15, ground := Ground.guard }], guard := some (15, true) }) (v := undef) rfl (by kernel_rfl) (by kernel_rfl) (by kernel_rfl) (fun _ _ _ h => h) (Or.inr ⟨by kernel_rfl, rfl⟩) (by assumption) ?r17g118
        (try simp only [Act.put]); (try simp only [List.setIfInBounds_toArray]); (try simp only [List.set_cons_succ]); (try simp only [List.set_cons_zero])
        refine wpAnyH_take (i := 18) (oi := { dst := some 33, op := Op.indexAddr 22 (Operand.tmp 31) (Operand.tmp 32), type := 0, pos := "ref.go:104", after := #[{ on := 16, ground := Ground.data }, { on := 17, ground := Ground.data }, { on := 15, ground := Ground.guard }], guard := some (15, true) }) (v := undef) rfl (by kernel_rfl) (by kernel_rfl) (by kernel_rfl) (fun _ _ _ h => h) (Or.inr ⟨by kernel_rfl, rfl⟩) (by assumption) ?r18g119
        (try simp only [Act.put]); (try simp only [List.setIfInBounds_toArray]); (try simp only [List.set_cons_succ]); (try simp only [List.set_cons_zero])
        refine wpAnyH_take (i := 19) (oi := { dst := some 34, op := Op.load 5 (Operand.tmp 33), type := 5, pos := "ref.go:104", after := #[{ on := 18, ground := Ground.data }, { on := 15, ground := Ground.guard }], guard := some (15, true) }) (v := undef) rfl (by kernel_rfl) (by kernel_rfl) (by kernel_rfl) (fun _ _ _ h => h) (Or.inr ⟨by kernel_rfl, rfl⟩) (by assumption) ?r19g120
        (try simp only [Act.put]); (try simp only [List.setIfInBounds_toArray]); (try simp only [List.set_cons_succ]); (try simp only [List.set_cons_zero])
        refine wpAnyH_take (i := 20) (oi := { dst := some 35, op := Op.binOp BinOp.neq 5 (Operand.tmp 34) (Operand.const (Value.int IntKind.u8 48)) 5, type := 4, pos := "ref.go:104", after := #[{ on := 19, ground := Ground.data }, { on := 15, ground := Ground.guard }], guard := some (15, true) }) (v := undef) rfl (by kernel_rfl) (by kernel_rfl) (by kernel_rfl) (fun _ _ _ h => h) (Or.inr ⟨by kernel_rfl, rfl⟩) (by assumption) ?r20g121
        (try simp only [Act.put]); (try simp only [List.setIfInBounds_toArray]); (try simp only [List.set_cons_succ]); (try simp only [List.set_cons_zero])
        refine wpAnyH_take (i := 21) (oi := { dst := some 36, op := Op.pick (Operand.tmp 30) (Operand.tmp 35) (Operand.const (Value.bool false)), type := 4, pos := "ref.go:104", after := #[{ on := 15, ground := Ground.data }, { on := 20, ground := Ground.data }, { on := 12, ground := Ground.guard }], guard := some (12, false) }) (v := ?v21g122) rfl (by kernel_rfl) (by kernel_rfl) (by kernel_rfl) (fun _ _ _ h => h) (Or.inl ⟨by rfl, ?y21g122⟩) (by assumption) ?r21g122
        case y21g122 => (intro w hSw; obtain s1 := hSw; go_simp; (try with_reducible rfl))
        (try simp only [Act.put]); (try simp only [List.setIfInBounds_toArray]); (try simp only [List.set_cons_succ]); (try simp only [List.set_cons_zero])
        refine wpAnyH_take (i := 22) (oi := { dst := some 37, op := Op.move (Operand.tmp 36), type := 4, pos := "ref.go:104", after := #[{ on := 21, ground := Ground.data }, { on := 15, ground := Ground.chain }, { on := 12, ground := Ground.guard }], guard := some (12, false) }) (v := ?v22g123) rfl (by kernel_rfl) (by kernel_rfl) (by kernel_rfl) (fun _ _ _ h => h) (Or.inl ⟨by rfl, ?y22g123⟩) (by assumption) ?r22g123
        case y22g123 => (intro w hSw; obtain s1 := hSw; go_simp; (try with_reducible rfl))
        (try simp only [Act.put]); (try simp only [List.setIfInBounds_toArray]); (try simp only [List.set_cons_succ]); (try simp only [List.set_cons_zero])
        refine wpAnyH_take (i := 23) (oi := { dst := some 38, op := Op.move (Operand.tmp 0), type := 22, pos := "ref.go:104", after := #[{ on := 22, ground := Ground.guard }], guard := some (22, true) }) (v := undef) rfl (by kernel_rfl) (by kernel_rfl) (by kernel_rfl) (fun _ _ _ h => h) (Or.inr ⟨by kernel_rfl, rfl⟩) (by assumption) ?r23g124
        (try simp only [Act.put]); (try simp only [List.setIfInBounds_toArray]); (try simp only [List.set_cons_succ]); (try simp only [List.set_cons_zero])
        refine wpAnyH_take (i := 24) (oi := { dst := some 39, op := Op.move (Operand.tmp 4), type := 3, pos := "ref.go:104", after := #[{ on := 22, ground := Ground.guard }], guard := some (22, true) }) (v := undef) rfl (by kernel_rfl) (by kernel_rfl) (by kernel_rfl) (fun _ _ _ h => h) (Or.inr ⟨by kernel_rfl, rfl⟩) (by assumption) ?r24g125
        (try simp only [Act.put]); (try simp only [List.setIfInBounds_toArray]); (try simp only [List.set_cons_succ]); (try simp only [List.set_cons_zero])
        refine wpAnyH_take (i := 25) (oi := { dst := some 40, op := Op.indexAddr 22 (Operand.tmp 38) (Operand.tmp 39), type := 0, pos := "ref.go:104", after := #[{ on := 23, ground := Ground.data }, { on := 24, ground := Ground.data }, { on := 22, ground := Ground.guard }], guard := some (22, true) }) (v := undef) rfl (by kernel_rfl) (by kernel_rfl) (by kernel_rfl) (fun _ _ _ h => h) (Or.inr ⟨by kernel_rfl, rfl⟩) (by assumption) ?r25g126
        (try simp only [Act.put]); (try simp only [List.setIfInBounds_toArray]); (try simp only [List.set_cons_succ]); (try simp only [List.set_cons_zero])
        refine wpAnyH_take (i := 26) (oi := { dst := some 41, op := Op.load 5 (Operand.tmp 40), type := 5, pos := "ref.go:104", after := #[{ on := 25, ground := Ground.data }, { on := 22, ground := Ground.guard }], guard := some (22, true) }) (v := undef) rfl (by kernel_rfl) (by kernel_rfl) (by kernel_rfl) (fun _ _ _ h => h) (Or.inr ⟨by kernel_rfl, rfl⟩) (by assumption) ?r26g127
        (try simp only [Act.put]); (try simp only [List.setIfInBounds_toArray]); (try simp only [List.set_cons_succ]); (try simp only [List.set_cons_zero])
        refine wpAnyH_take (i := 27) (oi := { dst := some 42, op := Op.binOp BinOp.neq 5 (Operand.tmp 41) (Operand.const (Value.int IntKind.u8 49)) 5, type := 4, pos := "ref.go:104", after := #[{ on := 26, ground := Ground.data }, { on := 22, ground := Ground.guard }], guard := some (22, true) }) (v := undef) rfl (by kernel_rfl) (by kernel_rfl) (by kernel_rfl) (fun _ _ _ h => h) (Or.inr ⟨by kernel_rfl, rfl⟩) (by assumption) ?r27g128
        (try simp only [Act.put]); (try simp only [List.setIfInBounds_toArray]); (try simp only [List.set_cons_succ]); (try simp only [List.set_cons_zero])
        refine wpAnyH_take (i := 28) (oi := { dst := some 43, op := Op.pick (Operand.tmp 37) (Operand.tmp 42) (Operand.const (Value.bool false)), type := 4, pos := "ref.go:104", after := #[{ on := 22, ground := Ground.data }, { on := 27, ground := Ground.data }, { on := 12, ground := Ground.guard }], guard := some (12, false) }) (v := ?v28g129) rfl (by kernel_rfl) (by kernel_rfl) (by kernel_rfl) (fun _ _ _ h => h) (Or.inl ⟨by rfl, ?y28g129⟩) (by assumption) ?r28g129
        case y28g129 => (intro w hSw; obtain s1 := hSw; go_simp; (try with_reducible rfl))
        (try simp only [Act.put]); (try simp only [List.setIfInBounds_toArray]); (try simp only [List.set_cons_succ]); (try simp only [List.set_cons_zero])
        refine wpAnyH_take (i := 29) (oi := { dst := some 44, op := Op.pick (Operand.tmp 27) (Operand.const (Value.bool true)) (Operand.tmp 43), type := 4, pos := "ref.go:104", after := #[{ on := 12, ground := Ground.data }, { on := 28, ground := Ground.data }], guard := none }) (v := ?v29g130) rfl (by kernel_rfl) (by kernel_rfl) (by kernel_rfl) (fun _ _ _ h => h) (Or.inl ⟨by rfl, ?y29g130⟩) (by assumption) ?r29g130
        case y29g130 => (intro w hSw; obtain s1 := hSw; go_simp; (try with_reducible rfl))
        (try simp only [Act.put]); (try simp only [List.setIfInBounds_toArray]); (try simp only [List.set_cons_succ]); (try simp only [List.set_cons_zero])
        refine wpAnyH_done (by kernel_rfl) ?_ _
        clear hHeld
        go_wp2_with fail
        go_roundw
        case rel => exact ⟨2, by omega, by omega, by simp, HE.out, HG.out.drewN _⟩
        case measure => simp [intOf]
      · have dI : ¬ (x.toNat : Int) = 79 := fun q => d (UInt8.toNat_inj.1 (by show x.toNat = 79; omega))
        have HE := hidM (HNo.out (by simpa [okAt] using d))
        obtain ⟨z, hz⟩ : ∃ z : Int, z = (x.toNat : Int) := ⟨_, rfl⟩
        rw [← hz] at t dI
        have HIN := hidM t
        clear HGo HNo d hxb hz t
        go_wp2_with fail
        refine wp_region_held_drew (S := fun w' => w'.cell? ⟨B, o + 1, none⟩ = some (.int .u8 z)) (by kernel_rfl) (HIN.out) (fun hHeld => ?_)
        refine wpAnyH_take (i := 0) (oi := { dst := some 15, op := Op.move (Operand.tmp 4), type := 3, pos := "ref.go:104", after := #[], guard := none }) (v := ?v0b11) rfl (by kernel_rfl) (by kernel_rfl) (by kernel_rfl) (fun _ _ _ h => h) (Or.inl ⟨by rfl, ?y0b11⟩) (by assumption) ?r0b11
        case y0b11 => (intro w hSw; obtain s1 := hSw; go_simp; (try with_reducible rfl))
        (try simp only [Act.put]); (try simp only [List.setIfInBounds_toArray]); (try simp only [List.set_cons_succ]); (try simp only [List.set_cons_zero])
        refine wpAnyH_take (i := 1) (oi := { dst := some 16, op := Op.binOp BinOp.lss 3 (Operand.tmp 15) (Operand.const (Value.int IntKind.i64 3)) 3, type := 4, pos := "ref.go:104", after := #[{ on := 0, ground := Ground.data }], guard := none }) (v := ?v1b12) rfl (by kernel_rfl) (by kernel_rfl) (by kernel_rfl) (fun _ _ _ h => h) (Or.inl ⟨by rfl, ?y1b12⟩) (by assumption) ?r1b12
        case y1b12 => (intro w hSw; obtain s1 := hSw; go_simp; (try with_reducible rfl))
        (try simp only [Act.put]); (try simp only [List.setIfInBounds_toArray]); (try simp only [List.set_cons_succ]); (try simp only [List.set_cons_zero])
        refine wpAnyH_take (i := 2) (oi := { dst := some 17, op := Op.move (Operand.tmp 16), type := 4, pos := "ref.go:104", after := #[{ on := 1, ground := Ground.data }], guard := none }) (v := ?v2b13) rfl (by kernel_rfl) (by kernel_rfl) (by kernel_rfl) (fun _ _ _ h => h) (Or.inl ⟨by rfl, ?y2b13⟩) (by assumption) ?r2b13
        case y2b13 => (intro w hSw; obtain s1 := hSw; go_simp; (try with_reducible rfl))
        (try simp only [Act.put]); (try simp only [List.setIfInBounds_toArray]); (try simp only [List.set_cons_succ]); (try simp only [List.set_cons_zero])
        refine wpAnyH_take (i := 3) (oi := { dst := some 18, op := Op.move (Operand.tmp 0), type := 22, pos := "ref.go:104", after := #[{ on := 2, ground := Ground.guard }], guard := some (2, true) }) (v := ?v3b14) rfl (by kernel_rfl) (by kernel_rfl) (by kernel_rfl) (fun _ _ _ h => h) (Or.inl ⟨by rfl, ?y3b14⟩) (by assumption) ?r3b14
        case y3b14 => (intro w hSw; obtain s1 := hSw; go_simp; (try with_reducible rfl))
        (try simp only [Act.put]); (try simp only [List.setIfInBounds_toArray]); (try simp only [List.set_cons_succ]); (try simp only [List.set_cons_zero])
        refine wpAnyH_take (i := 4) (oi := { dst := some 19, op := Op.move (Operand.tmp 4), type := 3, pos := "ref.go:104", after := #[{ on := 2, ground := Ground.guard }], guard := some (2, true) }) (v := ?v4b15) rfl (by kernel_rfl) (by kernel_rfl) (by kernel_rfl) (fun _ _ _ h => h) (Or.inl ⟨by rfl, ?y4b15⟩) (by assumption) ?r4b15
        case y4b15 => (intro w hSw; obtain s1 := hSw; go_simp; (try with_reducible rfl))
        (try simp only [Act.put]); (try simp only [List.setIfInBounds_toArray]); (try simp only [List.set_cons_succ]); (try simp only [List.set_cons_zero])
        refine wpAnyH_take (i := 5) (oi := { dst := some 20, op := Op.indexAddr 22 (Operand.tmp 18) (Operand.tmp 19), type := 0, pos := "ref.go:104", after := #[{ on := 3, ground := Ground.data }, { on := 4, ground := Ground.data }, { on := 2, ground := Ground.guard }], guard := some (2, true) }) (v := ?v5b16) rfl (by kernel_rfl) (by kernel_rfl) (by kernel_rfl) (fun _ _ _ h => h) (Or.inl ⟨by rfl, ?y5b16⟩) (by assumption) ?r5b16
        case y5b16 => (intro w hSw; obtain s1 := hSw; go_simp; (try with_reducible rfl))
        (try simp only [Act.put]); (try simp only [List.setIfInBounds_toArray]); (try simp only [List.set_cons_succ]); (try simp only [List.set_cons_zero])
        refine wpAnyH_take (i := 6) (oi := { dst := some 21, op := Op.load 5 (Operand.tmp 20), type := 5, pos := "ref.go:104", after := #[{ on := 5, ground := Ground.data }, { on := 2, ground := Ground.guard }], guard := some (2, true) }) (v := ?v6b17) rfl (by kernel_rfl) (by kernel_rfl) (by kernel_rfl) (fun _ _ _ h => h) (Or.inl ⟨by rfl, ?y6b17⟩) (by assumption) ?r6b17
        case y6b17 => (intro w hSw; obtain s1 := hSw; go_simp; (try with_reducible rfl))
        (try simp only [Act.put]); (try simp only [List.setIfInBounds_toArray]); (try simp only [List.set_cons_succ]); (try simp only [List.set_cons_zero])
        refine wpAnyH_take (i := 7) (oi := { dst := some 22, op := Op.move (Operand.tmp 3), type := 9, pos := "ref.go:104", after := #[{ on := 2, ground := Ground.guard }], guard := some (2, true) }) (v := ?v7b18) rfl (by kernel_rfl) (by kernel_rfl) (by kernel_rfl) (fun _ _ _ h => h) (Or.inl ⟨by rfl, ?y7b18⟩) (by assumption) ?r7b18
        case y7b18 => (intro w hSw; obtain s1 := hSw; go_simp; (try with_reducible rfl))
        (try simp only [Act.put]); (try simp only [List.setIfInBounds_toArray]); (try simp only [List.set_cons_succ]); (try simp only [List.set_cons_zero])
        refine wpAnyH_take (i := 8) (oi := { dst := some 23, op := Op.move (Operand.tmp 4), type := 3, pos := "ref.go:104", after := #[{ on := 2, ground := Ground.guard }], guard := some (2, true) }) (v := ?v8b19) rfl (by kernel_rfl) (by kernel_rfl) (by kernel_rfl) (fun _ _ _ h => h) (Or.inl ⟨by rfl, ?y8b19⟩) (by assumption) ?r8b19
        case y8b19 => (intro w hSw; obtain s1 := hSw; go_simp; (try with_reducible rfl))
        (try simp only [Act.put]); (try simp only [List.setIfInBounds_toArray]); (try simp only [List.set_cons_succ]); (try simp only [List.set_cons_zero])
        refine wpAnyH_take (i := 9) (oi := { dst := some 24, op := Op.index 9 (Operand.tmp 22) (Operand.tmp 23), type := 5, pos := "ref.go:104", after := #[{ on := 7, ground := Ground.data }, { on := 8, ground := Ground.data }, { on := 2, ground := Ground.guard }], guard := some (2, true) }) (v := ?v9b110) rfl (by kernel_rfl) (by kernel_rfl) (by kernel_rfl) (fun _ _ _ h => h) (Or.inl ⟨by rfl, ?y9b110⟩) (by assumption) ?r9b110
        case y9b110 => (intro w hSw; obtain s1 := hSw; go_simp; (try with_reducible rfl))
        (try simp only [Act.put]); (try simp only [List.setIfInBounds_toArray]); (try simp only [List.set_cons_succ]); (try simp only [List.set_cons_zero])
        refine wpAnyH_take (i := 10) (oi := { dst := some 25, op := Op.binOp BinOp.neq 5 (Operand.tmp 21) (Operand.tmp 24) 5, type := 4, pos := "ref.go:104", after := #[{ on := 6, ground := Ground.data }, { on := 9, ground := Ground.data }, { on := 2, ground := Ground.guard }], guard := some (2, true) }) (v := .bool true) rfl (by kernel_rfl) (by kernel_rfl) (by kernel_rfl) (fun _ _ _ h => h) (Or.inl ⟨by rfl, ?y10b111⟩) (by assumption) ?r10b111
        case y10b111 => (intro w hSw; obtain s1 := hSw; go_simp; first | done | (simp [dI]; done) | (with_reducible rfl) | (exact dI))
        (try simp only [Act.put]); (try simp only [List.setIfInBounds_toArray]); (try simp only [List.set_cons_succ]); (try simp only [List.set_cons_zero])
        refine wpAnyH_take (i := 11) (oi := { dst := some 26, op := Op.pick (Operand.tmp 17) (Operand.tmp 25) (Operand.const (Value.bool false)), type := 4, pos := "ref.go:104", after := #[{ on := 2, ground := Ground.data }, { on := 10, ground := Ground.data }], guard := none }) (v := ?v11b112) rfl (by kernel_rfl) (by kernel_rfl) (by kernel_rfl) (fun _ _ _ h => h) (Or.inl ⟨by rfl, ?y11b112⟩) (by assumption) ?r11b112
        case y11b112 => (intro w hSw; obtain s1 := hSw; go_simp; (try with_reducible rfl))
        (try simp only [Act.put]); (try simp only [List.setIfInBounds_toArray]); (try simp only [List.set_cons_succ]); (try simp only [List.set_cons_zero])
        refine wpAnyH_take (i := 12) (oi := { dst := some 27, op := Op.move (Operand.tmp 26), type := 4, pos := "ref.go:104", after := #[{ on := 11, ground := Ground.data }, { on := 2, ground := Ground.chain }], guard := none }) (v := ?v12b113) rfl (by kernel_rfl) (by kernel_rfl) (by kernel_rfl) (fun _ _ _ h => h) (Or.inl ⟨by rfl, ?y12b113⟩) (by assumption) ?r12b113
        case y12b113 => (intro w hSw; obtain s1 := hSw; go_simp; (try with_reducible rfl))
        (try simp only [Act.put]); (try simp only [List.setIfInBounds_toArray]); (try simp only [List.set_cons_succ]); (try simp only [List.set_cons_zero])
        refine wpAnyH_take (i := 13) (oi := { dst := some 28, op := Op.move (Operand.tmp 4), type := 3, pos := "ref.go:104", after := #[{ on := 12, ground := Ground.guard }], guard := some (12, false) }) (v := undef) rfl (by kernel_rfl) (by kernel_rfl) (by kernel_rfl) (fun _ _ _ h => h) (Or.inr ⟨by kernel_rfl, rfl⟩) (by assumption) ?r13b114
        (try simp only [Act.put]); (try simp only [List.setIfInBounds_toArray]); (try simp only [List.set_cons_succ]); (try simp only [List.set_cons_zero])
        refine wpAnyH_take (i := 14) (oi := { dst := some 29, op := Op.binOp BinOp.eql 3 (Operand.tmp 28) (Operand.const (Value.int IntKind.i64 3)) 3, type := 4, pos := "ref.go:104", after := #[{ on := 13, ground := Ground.data }, { on := 12, ground := Ground.guard }], guard := some (12, false) }) (v := undef) rfl (by kernel_rfl) (by kernel_rfl) (by kernel_rfl) (fun _ _ _ h => h) (Or.inr ⟨by kernel_rfl, rfl⟩) (by assumption) ?r14b115
        (try simp only [Act.put]); (try simp only [List.setIfInBounds_toArray]); (try simp only [List.set_cons_succ]); (try simp only [List.set_cons_zero])
        refine wpAnyH_take (i := 15) (oi := { dst := some 30, op := Op.move (Operand.tmp 29), type := 4, pos := "ref.go:104", after := #[{ on := 14, ground := Ground.data }, { on := 12, ground := Ground.chain }, { on := 12, ground := Ground.guard }], guard := some (12, false) }) (v := undef) rfl (by kernel_rfl) (by kernel_rfl) (by kernel_rfl) (fun _ _ _ h => h) (Or.inr ⟨by kernel_rfl, rfl⟩) (by assumption) ?r15b116
        (try simp only [Act.put]); (try simp only [List.setIfInBounds_toArray]); (try simp only [List.set_cons_succ]); (try simp only [List.set_cons_zero])
        refine wpAnyH_take (i := 16) (oi := { dst := some 31, op := Op.move (Operand.tmp 0), type := 22, pos := "ref.go:104", after := #[{ on := 15, ground := Ground.guard }], guard := some (15, true) }) (v := undef) rfl (by kernel_rfl) (by kernel_rfl) (by kernel_rfl) (fun _ _ _ h => h) (Or.inr ⟨by kernel_rfl, rfl⟩) (by assumption) ?r16b117
        (try simp only [Act.put]); (try simp only [List.setIfInBounds_toArray]); (try simp only [List.set_cons_succ]); (try simp only [List.set_cons_zero])
        refine wpAnyH_take (i := 17) (oi := { dst := some 32, op := Op.move (Operand.tmp 4), type := 3, pos := "ref.go:104", after := #[{ on := 15, ground := Ground.guard }], guard := some (15, true) }) (v := undef) rfl (by kernel_rfl) (by kernel_rfl) (by kernel_rfl) (fun _ _ _ h => h) (Or.inr ⟨by kernel_rfl, rfl⟩) (by assumption) ?r17b118
        (try simp only [Act.put]); (try simp only [List.setIfInBounds_toArray]); (try simp only [List.set_cons_succ]); (try simp only [List.set_cons_zero])
        refine wpAnyH_take (i := 18) (oi := { dst := some 33, op := Op.indexAddr 22 (Operand.tmp 31) (Operand.tmp 32), type := 0, pos := "ref.go:104", after := #[{ on := 16, ground := Ground.data }, { on := 17, ground := Ground.data }, { on := 15, ground := Ground.guard }], guard := some (15, true) }) (v := undef) rfl (by kernel_rfl) (by kernel_rfl) (by kernel_rfl) (fun _ _ _ h => h) (Or.inr ⟨by kernel_rfl, rfl⟩) (by assumption) ?r18b119
        (try simp only [Act.put]); (try simp only [List.setIfInBounds_toArray]); (try simp only [List.set_cons_succ]); (try simp only [List.set_cons_zero])
        refine wpAnyH_take (i := 19) (oi := { dst := some 34, op := Op.load 5 (Operand.tmp 33), type := 5, pos := "ref.go:104", after := #[{ on := 18, ground := Ground.data }, { on := 15, ground := Ground.guard }], guard := some (15, true) }) (v := undef) rfl (by kernel_rfl) (by kernel_rfl) (by kernel_rfl) (fun _ _ _ h => h) (Or.inr ⟨by kernel_rfl, rfl⟩) (by assumption) ?r19b120
        (try simp only [Act.put]); (try simp only [List.setIfInBounds_toArray]); (try simp only [List.set_cons_succ]); (try simp only [List.set_cons_zero])
        refine wpAnyH_take (i := 20) (oi := { dst := some 35, op := Op.binOp BinOp.neq 5 (Operand.tmp 34) (Operand.const (Value.int IntKind.u8 48)) 5, type := 4, pos := "ref.go:104", after := #[{ on := 19, ground := Ground.data }, { on := 15, ground := Ground.guard }], guard := some (15, true) }) (v := undef) rfl (by kernel_rfl) (by kernel_rfl) (by kernel_rfl) (fun _ _ _ h => h) (Or.inr ⟨by kernel_rfl, rfl⟩) (by assumption) ?r20b121
        (try simp only [Act.put]); (try simp only [List.setIfInBounds_toArray]); (try simp only [List.set_cons_succ]); (try simp only [List.set_cons_zero])
        refine wpAnyH_take (i := 21) (oi := { dst := some 36, op := Op.pick (Operand.tmp 30) (Operand.tmp 35) (Operand.const (Value.bool false)), type := 4, pos := "ref.go:104", after := #[{ on := 15, ground := Ground.data }, { on := 20, ground := Ground.data }, { on := 12, ground := Ground.guard }], guard := some (12, false) }) (v := undef) rfl (by kernel_rfl) (by kernel_rfl) (by kernel_rfl) (fun _ _ _ h => h) (Or.inr ⟨by kernel_rfl, rfl⟩) (by assumption) ?r21b122
        (try simp only [Act.put]); (try simp only [List.setIfInBounds_toArray]); (try simp only [List.set_cons_succ]); (try simp only [List.set_cons_zero])
        refine wpAnyH_take (i := 22) (oi := { dst := some 37, op := Op.move (Operand.tmp 36), type := 4, pos := "ref.go:104", after := #[{ on := 21, ground := Ground.data }, { on := 15, ground := Ground.chain }, { on := 12, ground := Ground.guard }], guard := some (12, false) }) (v := undef) rfl (by kernel_rfl) (by kernel_rfl) (by kernel_rfl) (fun _ _ _ h => h) (Or.inr ⟨by kernel_rfl, rfl⟩) (by assumption) ?r22b123
        (try simp only [Act.put]); (try simp only [List.setIfInBounds_toArray]); (try simp only [List.set_cons_succ]); (try simp only [List.set_cons_zero])
        refine wpAnyH_take (i := 23) (oi := { dst := some 38, op := Op.move (Operand.tmp 0), type := 22, pos := "ref.go:104", after := #[{ on := 22, ground := Ground.guard }], guard := some (22, true) }) (v := undef) rfl (by kernel_rfl) (by kernel_rfl) (by kernel_rfl) (fun _ _ _ h => h) (Or.inr ⟨by kernel_rfl, rfl⟩) (by assumption) ?r23b124
        (try simp only [Act.put]); (try simp only [List.setIfInBounds_toArray]); (try simp only [List.set_cons_succ]); (try simp only [List.set_cons_zero])
        refine wpAnyH_take (i := 24) (oi := { dst := some 39, op := Op.move (Operand.tmp 4), type := 3, pos := "ref.go:104", after := #[{ on := 22, ground := Ground.guard }], guard := some (22, true) }) (v := undef) rfl (by kernel_rfl) (by kernel_rfl) (by kernel_rfl) (fun _ _ _ h => h) (Or.inr ⟨by kernel_rfl, rfl⟩) (by assumption) ?r24b125
        (try simp only [Act.put]); (try simp only [List.setIfInBounds_toArray]); (try simp only [List.set_cons_succ]); (try simp only [List.set_cons_zero])
        refine wpAnyH_take (i := 25) (oi := { dst := some 40, op := Op.indexAddr 22 (Operand.tmp 38) (Operand.tmp 39), type := 0, pos := "ref.go:104", after := #[{ on := 23, ground := Ground.data }, { on := 24, ground := Ground.data }, { on := 22, ground := Ground.guard }], guard := some (22, true) }) (v := undef) rfl (by kernel_rfl) (by kernel_rfl) (by kernel_rfl) (fun _ _ _ h => h) (Or.inr ⟨by kernel_rfl, rfl⟩) (by assumption) ?r25b126
        (try simp only [Act.put]); (try simp only [List.setIfInBounds_toArray]); (try simp only [List.set_cons_succ]); (try simp only [List.set_cons_zero])
        refine wpAnyH_take (i := 26) (oi := { dst := some 41, op := Op.load 5 (Operand.tmp 40), type := 5, pos := "ref.go:104", after := #[{ on := 25, ground := Ground.data }, { on := 22, ground := Ground.guard }], guard := some (22, true) }) (v := undef) rfl (by kernel_rfl) (by kernel_rfl) (by kernel_rfl) (fun _ _ _ h => h) (Or.inr ⟨by kernel_rfl, rfl⟩) (by assumption) ?r26b127
        (try simp only [Act.put]); (try simp only [List.setIfInBounds_toArray]); (try simp only [List.set_cons_succ]); (try simp only [List.set_cons_zero])
        refine wpAnyH_take (i := 27) (oi := { dst := some 42, op := Op.binOp BinOp.neq 5 (Operand.tmp 41) (Operand.const (Value.int IntKind.u8 49)) 5, type := 4, pos := "ref.go:104", after := #[{ on := 26, ground := Ground.data }, { on := 22, ground := Ground.guard }], guard := some (22, true) }) (v := undef) rfl (by kernel_rfl) (by kernel_rfl) (by kernel_rfl) (fun _ _ _ h => h) (Or.inr ⟨by kernel_rfl, rfl⟩) (by assumption) ?r27b128
        (try simp only [Act.put]); (try simp only [List.setIfInBounds_toArray]); (try simp only [List.set_cons_succ]); (try simp only [List.set_cons_zero])
        refine wpAnyH_take (i := 28) (oi := { dst := some 43, op := Op.pick (Operand.tmp 37) (Operand.tmp 42) (Operand.const (Value.bool false)), type := 4, pos := "ref.go:104", after := #[{ on := 22, ground := Ground.data }, { on := 27, ground := Ground.data }, { on := 12, ground := Ground.guard }], guard := some (12, false) }) (v := undef) rfl (by kernel_rfl) (by kernel_rfl) (by kernel_rfl) (fun _ _ _ h => h) (Or.inr ⟨by kernel_rfl, rfl⟩) (by assumption) ?r28b129
        (try simp only [Act.put]); (try simp only [List.setIfInBounds_toArray]); (try simp only [List.set_cons_succ]); (try simp only [List.set_cons_zero])
        refine wpAnyH_take (i := 29) (oi := { dst := some 44, op := Op.pick (Operand.tmp 27) (Operand.const (Value.bool true)) (Operand.tmp 43), type := 4, pos := "ref.go:104", after := #[{ on := 12, ground := Ground.data }, { on := 28, ground := Ground.data }], guard := none }) (v := ?v29b130) rfl (by kernel_rfl) (by kernel_rfl) (by kernel_rfl) (fun _ _ _ h => h) (Or.inl ⟨by rfl, ?y29b130⟩) (by assumption) ?r29b130
        case y29b130 => (intro w hSw; obtain s1 := hSw; go_simp; (try with_reducible rfl))
        (try simp only [Act.put]); (try simp only [List.setIfInBounds_toArray]); (try simp only [List.set_cons_succ]); (try simp only [List.set_cons_zero])
        refine wpAnyH_done (by kernel_rfl) ?_ _
        clear hHeld
        go_wp2_with fail
        go_ret
        exact ⟨by rw [HE.out]; rfl, HG.out.drewN _⟩
    · replace t : wr.cell? ⟨B, o + 2, none⟩ = some (.int .u8 (x.toNat : Int)) := t
      replace c2I : (2 : Int) < (L : Int) := c2I
      rw [show ((2 : Nat) : Int) = 2 from rfl]
      by_cases d : x = 76
      · have dI : (x.toNat : Int) = 76 := by rw [d]; rfl
        have HE := hidM (HGo.out (by simpa [okAt] using d))
        rw [dI] at t
        have HIN := hidM t
        clear HGo HNo d dI hxb t
        go_wp2_with fail
        refine wp_region_held_drew (S := fun w' => w'.cell? ⟨B, o + 2, none⟩ = some (.int .u8 76)) (by kernel_rfl) (HIN.out) (fun hHeld => ?_)
        refine wpAnyH_take (i := 0) (oi := { dst := some 15, op := Op.move (Operand.tmp 4), type := 3, pos := "ref.go:104", after := #[], guard := none }) (v := ?v0g21) rfl (by kernel_rfl) (by kernel_rfl) (by kernel_rfl) (fun _ _ _ h => h) (Or.inl ⟨by rfl, ?y0g21⟩) (by assumption) ?r0g21
        case y0g21 => (intro w hSw; obtain s1 := hSw; go_simp; (try with_reducible rfl))
        (try simp only [Act.put]); (try simp only [List.setIfInBounds_toArray]); (try simp only [List.set_cons_succ]); (try simp only [List.set_cons_zero])
        refine wpAnyH_take (i := 1) (oi := { dst := some 16, op := Op.binOp BinOp.lss 3 (Operand.tmp 15) (Operand.const (Value.int IntKind.i64 3)) 3, type := 4, pos := "ref.go:104", after := #[{ on := 0, ground := Ground.data }], guard := none }) (v := ?v1g22) rfl (by kernel_rfl) (by kernel_rfl) (by kernel_rfl) (fun _ _ _ h => h) (Or.inl ⟨by rfl, ?y1g22⟩) (by assumption) ?r1g22
        case y1g22 => (intro w hSw; obtain s1 := hSw; go_simp; (try with_reducible rfl))
        (try simp only [Act.put]); (try simp only [List.setIfInBounds_toArray]); (try simp only [List.set_cons_succ]); (try simp only [List.set_cons_zero])
        refine wpAnyH_take (i := 2) (oi := { dst := some 17, op := Op.move (Operand.tmp 16), type := 4, pos := "ref.go:104", after := #[{ on := 1, ground := Ground.data }], guard := none }) (v := ?v2g23) rfl (by kernel_rfl) (by kernel_rfl) (by kernel_rfl) (fun _ _ _ h => h) (Or.inl ⟨by rfl, ?y2g23⟩) (by assumption) ?r2g23
        case y2g23 => (intro w hSw; obtain s1 := hSw; go_simp; (try with_reducible rfl))
        (try simp only [Act.put]); (try simp only [List.setIfInBounds_toArray]); (try simp only [List.set_cons_succ]); (try simp only [List.set_cons_zero])
        refine wpAnyH_take (i := 3) (oi := { dst := some 18, op := Op.move (Operand.tmp 0), type := 22, pos := "ref.go:104", after := #[{ on := 2, ground := Ground.guard }], guard := some (2, true) }) (v := ?v3g24) rfl (by kernel_rfl) (by kernel_rfl) (by kernel_rfl) (fun _ _ _ h => h) (Or.inl ⟨by rfl, ?y3g24⟩) (by assumption) ?r3g24
        case y3g24 => (intro w hSw; obtain s1 := hSw; go_simp; (try with_reducible rfl))
        (try simp only [Act.put]); (try simp only [List.setIfInBounds_toArray]); (try simp only [List.set_cons_succ]); (try simp only [List.set_cons_zero])
        refine wpAnyH_take (i := 4) (oi := { dst := some 19, op := Op.move (Operand.tmp 4), type := 3, pos := "ref.go:104", after := #[{ on := 2, ground := Ground.guard }], guard := some (2, true) }) (v := ?v4g25) rfl (by kernel_rfl) (by kernel_rfl) (by kernel_rfl) (fun _ _ _ h => h) (Or.inl ⟨by rfl, ?y4g25⟩) (by assumption) ?r4g25
        case y4g25 => (intro w hSw; obtain s1 := hSw; go_simp; (try with_reducible rfl))
        (try simp only [Act.put]); (try simp only [List.setIfInBounds_toArray]); (try simp only [List.set_cons_succ]); (try simp only [List.set_cons_zero])
        refine wpAnyH_take (i := 5) (oi := { dst := some 20, op := Op.indexAddr 22 (Operand.tmp 18) (Operand.tmp 19), type := 0, pos := "ref.go:104", after := #[{ on := 3, ground := Ground.data }, { on := 4, ground := Ground.data }, { on := 2, ground := Ground.guard }], guard := some (2, true) }) (v := ?v5g26) rfl (by kernel_rfl) (by kernel_rfl) (by kernel_rfl) (fun _ _ _ h => h) (Or.inl ⟨by rfl, ?y5g26⟩) (by assumption) ?r5g26
        case y5g26 => (intro w hSw; obtain s1 := hSw; go_simp; (try with_reducible rfl))
        (try simp only [Act.put]); (try simp only [List.setIfInBounds_toArray]); (try simp only [List.set_cons_succ]); (try simp only [List.set_cons_zero])
        refine wpAnyH_take (i := 6) (oi := { dst := some 21, op := Op.load 5 (Operand.tmp 20), type := 5, pos := "ref.go:104", after := #[{ on := 5, ground := Ground.data }, { on := 2, ground := Ground.guard }], guard := some (2, true) }) (v := ?v6g27) rfl (by kernel_rfl) (by kernel_rfl) (by kernel_rfl) (fun _ _ _ h => h) (Or.inl ⟨by rfl, ?y6g27⟩) (by assumption) ?r6g27
        case y6g27 => (intro w hSw; obtain s1 := hSw; go_simp; (try with_reducible rfl))
        (try simp only [Act.put]); (try simp only [List.setIfInBounds_toArray]); (try simp only [List.set_cons_succ]); (try simp only [List.set_cons_zero])
        refine wpAnyH_take (i := 7) (oi := { dst := some 22, op := Op.move (Operand.tmp 3), type := 9, pos := "ref.go:104", after := #[{ on := 2, ground := Ground.guard }], guard := some (2, true) }) (v := ?v7g28) rfl (by kernel_rfl) (by kernel_rfl) (by kernel_rfl) (fun _ _ _ h => h) (Or.inl ⟨by rfl, ?y7g28⟩) (by assumption) ?r7g28
        case y7g28 => (intro w hSw; obtain s1 := hSw; go_simp; (try with_reducible rfl))
        (try simp only [Act.put]); (try simp only [List.setIfInBounds_toArray]); (try simp only [List.set_cons_succ]); (try simp only [List.set_cons_zero])
        refine wpAnyH_take (i := 8) (oi := { dst := some 23, op := Op.move (Operand.tmp 4), type := 3, pos := "ref.go:104", after := #[{ on := 2, ground := Ground.guard }], guard := some (2, true) }) (v := ?v8g29) rfl (by kernel_rfl) (by kernel_rfl) (by kernel_rfl) (fun _ _ _ h => h) (Or.inl ⟨by rfl, ?y8g29⟩) (by assumption) ?r8g29
        case y8g29 => (intro w hSw; obtain s1 := hSw; go_simp; (try with_reducible rfl))
        (try simp only [Act.put]); (try simp only [List.setIfInBounds_toArray]); (try simp only [List.set_cons_succ]); (try simp only [List.set_cons_zero])
        refine wpAnyH_take (i := 9) (oi := { dst := some 24, op := Op.index 9 (Operand.tmp 22) (Operand.tmp 23), type := 5, pos := "ref.go:104", after := #[{ on := 7, ground := Ground.data }, { on := 8, ground := Ground.data }, { on := 2, ground := Ground.guard }], guard := some (2, true) }) (v := ?v9g210) rfl (by kernel_rfl) (by kernel_rfl) (by kernel_rfl) (fun _ _ _ h => h) (Or.inl ⟨by rfl, ?y9g210⟩) (by assumption) ?r9g210
        case y9g210 => (intro w hSw; obtain s1 := hSw; go_simp; (try with_reducible rfl))
        (try simp only [Act.put]); (try simp only [List.setIfInBounds_toArray]); (try simp only [List.set_cons_succ]); (try simp only [List.set_cons_zero])
        refine wpAnyH_take (i := 10) (oi := { dst := some 25, op := Op.binOp BinOp.neq 5 (Operand.tmp 21) (Operand.tmp 24) 5, type := 4, pos := "ref.go:104", after := #[{ on := 6, ground := Ground.data }, { on := 9, ground := Ground.data }, { on := 2, ground := Ground.guard }], guard := some (2, true) }) (v := ?v10g211) rfl (by kernel_rfl) (by kernel_rfl) (by kernel_rfl) (fun _ _ _ h => h) (Or.inl ⟨by rfl, ?y10g211⟩) (by assumption) ?r10g211
        case y10g211 => (intro w hSw; obtain s1 := hSw; go_simp; (try with_reducible rfl))
        (try simp only [Act.put]); (try simp only [List.setIfInBounds_toArray]); (try simp only [List.set_cons_succ]); (try simp only [List.set_cons_zero])
        refine wpAnyH_take (i := 11) (oi := { dst := some 26, op := Op.pick (Operand.tmp 17) (Operand.tmp 25) (Operand.const (Value.bool false)), type := 4, pos := "ref.go:104", after := #[{ on := 2, ground := Ground.data }, { on := 10, ground := Ground.data }], guard := none }) (v := ?v11g212) rfl (by kernel_rfl) (by kernel_rfl) (by kernel_rfl) (fun _ _ _ h => h) (Or.inl ⟨by rfl, ?y11g212⟩) (by assumption) ?r11g212
        case y11g212 => (intro w hSw; obtain s1 := hSw; go_simp; (try with_reducible rfl))
        (try simp only [Act.put]); (try simp only [List.setIfInBounds_toArray]); (try simp only [List.set_cons_succ]); (try simp only [List.set_cons_zero])
        refine wpAnyH_take (i := 12) (oi := { dst := some 27, op := Op.move (Operand.tmp 26), type := 4, pos := "ref.go:104", after := #[{ on := 11, ground := Ground.data }, { on := 2, ground := Ground.chain }], guard := none }) (v := ?v12g213) rfl (by kernel_rfl) (by kernel_rfl) (by kernel_rfl) (fun _ _ _ h => h) (Or.inl ⟨by rfl, ?y12g213⟩) (by assumption) ?r12g213
        case y12g213 => (intro w hSw; obtain s1 := hSw; go_simp; (try with_reducible rfl))
        (try simp only [Act.put]); (try simp only [List.setIfInBounds_toArray]); (try simp only [List.set_cons_succ]); (try simp only [List.set_cons_zero])
        refine wpAnyH_take (i := 13) (oi := { dst := some 28, op := Op.move (Operand.tmp 4), type := 3, pos := "ref.go:104", after := #[{ on := 12, ground := Ground.guard }], guard := some (12, false) }) (v := ?v13g214) rfl (by kernel_rfl) (by kernel_rfl) (by kernel_rfl) (fun _ _ _ h => h) (Or.inl ⟨by rfl, ?y13g214⟩) (by assumption) ?r13g214
        case y13g214 => (intro w hSw; obtain s1 := hSw; go_simp; (try with_reducible rfl))
        (try simp only [Act.put]); (try simp only [List.setIfInBounds_toArray]); (try simp only [List.set_cons_succ]); (try simp only [List.set_cons_zero])
        refine wpAnyH_take (i := 14) (oi := { dst := some 29, op := Op.binOp BinOp.eql 3 (Operand.tmp 28) (Operand.const (Value.int IntKind.i64 3)) 3, type := 4, pos := "ref.go:104", after := #[{ on := 13, ground := Ground.data }, { on := 12, ground := Ground.guard }], guard := some (12, false) }) (v := ?v14g215) rfl (by kernel_rfl) (by kernel_rfl) (by kernel_rfl) (fun _ _ _ h => h) (Or.inl ⟨by rfl, ?y14g215⟩) (by assumption) ?r14g215
        case y14g215 => (intro w hSw; obtain s1 := hSw; go_simp; (try with_reducible rfl))
        (try simp only [Act.put]); (try simp only [List.setIfInBounds_toArray]); (try simp only [List.set_cons_succ]); (try simp only [List.set_cons_zero])
        refine wpAnyH_take (i := 15) (oi := { dst := some 30, op := Op.move (Operand.tmp 29), type := 4, pos := "ref.go:104", after := #[{ on := 14, ground := Ground.data }, { on := 12, ground := Ground.chain }, { on := 12, ground := Ground.guard }], guard := some (12, false) }) (v := ?v15g216) rfl (by kernel_rfl) (by kernel_rfl) (by kernel_rfl) (fun _ _ _ h => h) (Or.inl ⟨by rfl, ?y15g216⟩) (by assumption) ?r15g216
        case y15g216 => (intro w hSw; obtain s1 := hSw; go_simp; (try with_reducible rfl))
        (try simp only [Act.put]); (try simp only [List.setIfInBounds_toArray]); (try simp only [List.set_cons_succ]); (try simp only [List.set_cons_zero])
        refine wpAnyH_take (i := 16) (oi := { dst := some 31, op := Op.move (Operand.tmp 0), type := 22, pos := "ref.go:104", after := #[{ on := 15, ground := Ground.guard }], guard := some (15, true) }) (v := undef) rfl (by kernel_rfl) (by kernel_rfl) (by kernel_rfl) (fun _ _ _ h => h) (Or.inr ⟨by kernel_rfl, rfl⟩) (by assumption) ?r16g217
        (try simp only [Act.put]); (try simp only [List.setIfInBounds_toArray]); (try simp only [List.set_cons_succ]); (try simp only [List.set_cons_zero])
        refine wpAnyH_take (i := 17) (oi := { dst := some 32, op := Op.move (Operand.tmp 4), type := 3, pos := "ref.go:104", after := #[{ on := 15, ground := Ground.guard }], guard := some (15, true) }) (v := undef) rfl (by kernel_rfl) (by kernel_rfl) (by kernel_rfl) (fun _ _ _ h => h) (Or.inr ⟨by kernel_rfl, rfl⟩) (by assumption) ?r17g218
        (try simp only [Act.put]); (try simp only [List.setIfInBounds_toArray]); (try simp only [List.set_cons_succ]); (try simp only [List.set_cons_zero])
        refine wpAnyH_take (i := 18) (oi := { dst := some 33, op := Op.indexAddr 22 (Operand.tmp 31) (Operand.tmp 32), type := 0, pos := "ref.go:104", after := #[{ on := 16, ground := Ground.data }, { on := 17, ground := Ground.data }, { on := 15, ground := Ground.guard }], guard := some (15, true) }) (v := undef) rfl (by kernel_rfl) (by kernel_rfl) (by kernel_rfl) (fun _ _ _ h => h) (Or.inr ⟨by kernel_rfl, rfl⟩) (by assumption) ?r18g219
        (try simp only [Act.put]); (try simp only [List.setIfInBounds_toArray]); (try simp only [List.set_cons_succ]); (try simp only [List.set_cons_zero])
        refine wpAnyH_take (i := 19) (oi := { dst := some 34, op := Op.load 5 (Operand.tmp 33), type := 5, pos := "ref.go:104", after := #[{ on := 18, ground := Ground.data }, { on := 15, ground := Ground.guard }], guard := some (15, true) }) (v := undef) rfl (by kernel_rfl) (by kernel_rfl) (by kernel_rfl) (fun _ _ _ h => h) (Or.inr ⟨by kernel_rfl, rfl⟩) (by assumption) ?r19g220
        (try simp only [Act.put]); (try simp only [List.setIfInBounds_toArray]); (try simp only [List.set_cons_succ]); (try simp only [List.set_cons_zero])
        refine wpAnyH_take (i := 20) (oi := { dst := some 35, op := Op.binOp BinOp.neq 5 (Operand.tmp 34) (Operand.const (Value.int IntKind.u8 48)) 5, type := 4, pos := "ref.go:104", after := #[{ on := 19, ground := Ground.data }, { on := 15, ground := Ground.guard }], guard := some (15, true) }) (v := undef) rfl (by kernel_rfl) (by kernel_rfl) (by kernel_rfl) (fun _ _ _ h => h) (Or.inr ⟨by kernel_rfl, rfl⟩) (by assumption) ?r20g221
        (try simp only [Act.put]); (try simp only [List.setIfInBounds_toArray]); (try simp only [List.set_cons_succ]); (try simp only [List.set_cons_zero])
        refine wpAnyH_take (i := 21) (oi := { dst := some 36, op := Op.pick (Operand.tmp 30) (Operand.tmp 35) (Operand.const (Value.bool false)), type := 4, pos := "ref.go:104", after := #[{ on := 15, ground := Ground.data }, { on := 20, ground := Ground.data }, { on := 12, ground := Ground.guard }], guard := some (12, false) }) (v := ?v21g222) rfl (by kernel_rfl) (by kernel_rfl) (by kernel_rfl) (fun _ _ _ h => h) (Or.inl ⟨by rfl, ?y21g222⟩) (by assumption) ?r21g222
        case y21g222 => (intro w hSw; obtain s1 := hSw; go_simp; (try with_reducible rfl))
        (try simp only [Act.put]); (try simp only [List.setIfInBounds_toArray]); (try simp only [List.set_cons_succ]); (try simp only [List.set_cons_zero])
        refine wpAnyH_take (i := 22) (oi := { dst := some 37, op := Op.move (Operand.tmp 36), type := 4, pos := "ref.go:104", after := #[{ on := 21, ground := Ground.data }, { on := 15, ground := Ground.chain }, { on := 12, ground := Ground.guard }], guard := some (12, false) }) (v := ?v22g223) rfl (by kernel_rfl) (by kernel_rfl) (by kernel_rfl) (fun _ _ _ h => h) (Or.inl ⟨by rfl, ?y22g223⟩) (by assumption) ?r22g223
        case y22g223 => (intro w hSw; obtain s1 := hSw; go_simp; (try with_reducible rfl))
        (try simp only [Act.put]); (try simp only [List.setIfInBounds_toArray]); (try simp only [List.set_cons_succ]); (try simp only [List.set_cons_zero])
        refine wpAnyH_take (i := 23) (oi := { dst := some 38, op := Op.move (Operand.tmp 0), type := 22, pos := "ref.go:104", after := #[{ on := 22, ground := Ground.guard }], guard := some (22, true) }) (v := undef) rfl (by kernel_rfl) (by kernel_rfl) (by kernel_rfl) (fun _ _ _ h => h) (Or.inr ⟨by kernel_rfl, rfl⟩) (by assumption) ?r23g224
        (try simp only [Act.put]); (try simp only [List.setIfInBounds_toArray]); (try simp only [List.set_cons_succ]); (try simp only [List.set_cons_zero])
        refine wpAnyH_take (i := 24) (oi := { dst := some 39, op := Op.move (Operand.tmp 4), type := 3, pos := "ref.go:104", after := #[{ on := 22, ground := Ground.guard }], guard := some (22, true) }) (v := undef) rfl (by kernel_rfl) (by kernel_rfl) (by kernel_rfl) (fun _ _ _ h => h) (Or.inr ⟨by kernel_rfl, rfl⟩) (by assumption) ?r24g225
        (try simp only [Act.put]); (try simp only [List.setIfInBounds_toArray]); (try simp only [List.set_cons_succ]); (try simp only [List.set_cons_zero])
        refine wpAnyH_take (i := 25) (oi := { dst := some 40, op := Op.indexAddr 22 (Operand.tmp 38) (Operand.tmp 39), type := 0, pos := "ref.go:104", after := #[{ on := 23, ground := Ground.data }, { on := 24, ground := Ground.data }, { on := 22, ground := Ground.guard }], guard := some (22, true) }) (v := undef) rfl (by kernel_rfl) (by kernel_rfl) (by kernel_rfl) (fun _ _ _ h => h) (Or.inr ⟨by kernel_rfl, rfl⟩) (by assumption) ?r25g226
        (try simp only [Act.put]); (try simp only [List.setIfInBounds_toArray]); (try simp only [List.set_cons_succ]); (try simp only [List.set_cons_zero])
        refine wpAnyH_take (i := 26) (oi := { dst := some 41, op := Op.load 5 (Operand.tmp 40), type := 5, pos := "ref.go:104", after := #[{ on := 25, ground := Ground.data }, { on := 22, ground := Ground.guard }], guard := some (22, true) }) (v := undef) rfl (by kernel_rfl) (by kernel_rfl) (by kernel_rfl) (fun _ _ _ h => h) (Or.inr ⟨by kernel_rfl, rfl⟩) (by assumption) ?r26g227
        (try simp only [Act.put]); (try simp only [List.setIfInBounds_toArray]); (try simp only [List.set_cons_succ]); (try simp only [List.set_cons_zero])
        refine wpAnyH_take (i := 27) (oi := { dst := some 42, op := Op.binOp BinOp.neq 5 (Operand.tmp 41) (Operand.const (Value.int IntKind.u8 49)) 5, type := 4, pos := "ref.go:104", after := #[{ on := 26, ground := Ground.data }, { on := 22, ground := Ground.guard }], guard := some (22, true) }) (v := undef) rfl (by kernel_rfl) (by kernel_rfl) (by kernel_rfl) (fun _ _ _ h => h) (Or.inr ⟨by kernel_rfl, rfl⟩) (by assumption) ?r27g228
        (try simp only [Act.put]); (try simp only [List.setIfInBounds_toArray]); (try simp only [List.set_cons_succ]); (try simp only [List.set_cons_zero])
        refine wpAnyH_take (i := 28) (oi := { dst := some 43, op := Op.pick (Operand.tmp 37) (Operand.tmp 42) (Operand.const (Value.bool false)), type := 4, pos := "ref.go:104", after := #[{ on := 22, ground := Ground.data }, { on := 27, ground := Ground.data }, { on := 12, ground := Ground.guard }], guard := some (12, false) }) (v := ?v28g229) rfl (by kernel_rfl) (by kernel_rfl) (by kernel_rfl) (fun _ _ _ h => h) (Or.inl ⟨by rfl, ?y28g229⟩) (by assumption) ?r28g229
        case y28g229 => (intro w hSw; obtain s1 := hSw; go_simp; (try with_reducible rfl))
        (try simp only [Act.put]); (try simp only [List.setIfInBounds_toArray]); (try simp only [List.set_cons_succ]); (try simp only [List.set_cons_zero])
        refine wpAnyH_take (i := 29) (oi := { dst := some 44, op := Op.pick (Operand.tmp 27) (Operand.const (Value.bool true)) (Operand.tmp 43), type := 4, pos := "ref.go:104", after := #[{ on := 12, ground := Ground.data }, { on := 28, ground := Ground.data }], guard := none }) (v := ?v29g230) rfl (by kernel_rfl) (by kernel_rfl) (by kernel_rfl) (fun _ _ _ h => h) (Or.inl ⟨by rfl, ?y29g230⟩) (by assumption) ?r29g230
        case y29g230 => (intro w hSw; obtain s1 := hSw; go_simp; (try with_reducible rfl))
        (try simp only [Act.put]); (try simp only [List.setIfInBounds_toArray]); (try simp only [List.set_cons_succ]); (try simp only [List.set_cons_zero])
        refine wpAnyH_done (by kernel_rfl) ?_ _
        clear hHeld
        go_wp2_with fail
        go_roundw
        case rel => exact ⟨3, by omega, by omega, by simp, HE.out, HG.out.drewN _⟩
        case measure => simp [intOf]
      · have dI : ¬ (x.toNat : Int) = 76 := fun q => d (UInt8.toNat_inj.1 (by show x.toNat = 76; omega))
        have HE := hidM (HNo.out (by simpa [okAt] using d))
        obtain ⟨z, hz⟩ : ∃ z : Int, z = (x.toNat : Int) := ⟨_, rfl⟩
        rw [← hz] at t dI
        have HIN := hidM t
        clear HGo HNo d hxb hz t
        go_wp2_with fail
        refine wp_region_held_drew (S := fun w' => w'.cell? ⟨B, o + 2, none⟩ = some (.int .u8 z)) (by kernel_rfl) (HIN.out) (fun hHeld => ?_)
        refine wpAnyH_take (i := 0) (oi := { dst := some 15, op := Op.move (Operand.tmp 4), type := 3, pos := "ref.go:104", after := #[], guard := none }) (v := ?v0b21) rfl (by kernel_rfl) (by kernel_rfl) (by kernel_rfl) (fun _ _ _ h => h) (Or.inl ⟨by rfl, ?y0b21⟩) (by assumption) ?r0b21
        case y0b21 => (intro w hSw; obtain s1 := hSw; go_simp; (try with_reducible rfl))
        (try simp only [Act.put]); (try simp only [List.setIfInBounds_toArray]); (try simp only [List.set_cons_succ]); (try simp only [List.set_cons_zero])
        refine wpAnyH_take (i := 1) (oi := { dst := some 16, op := Op.binOp BinOp.lss 3 (Operand.tmp 15) (Operand.const (Value.int IntKind.i64 3)) 3, type := 4, pos := "ref.go:104", after := #[{ on := 0, ground := Ground.data }], guard := none }) (v := ?v1b22) rfl (by kernel_rfl) (by kernel_rfl) (by kernel_rfl) (fun _ _ _ h => h) (Or.inl ⟨by rfl, ?y1b22⟩) (by assumption) ?r1b22
        case y1b22 => (intro w hSw; obtain s1 := hSw; go_simp; (try with_reducible rfl))
        (try simp only [Act.put]); (try simp only [List.setIfInBounds_toArray]); (try simp only [List.set_cons_succ]); (try simp only [List.set_cons_zero])
        refine wpAnyH_take (i := 2) (oi := { dst := some 17, op := Op.move (Operand.tmp 16), type := 4, pos := "ref.go:104", after := #[{ on := 1, ground := Ground.data }], guard := none }) (v := ?v2b23) rfl (by kernel_rfl) (by kernel_rfl) (by kernel_rfl) (fun _ _ _ h => h) (Or.inl ⟨by rfl, ?y2b23⟩) (by assumption) ?r2b23
        case y2b23 => (intro w hSw; obtain s1 := hSw; go_simp; (try with_reducible rfl))
        (try simp only [Act.put]); (try simp only [List.setIfInBounds_toArray]); (try simp only [List.set_cons_succ]); (try simp only [List.set_cons_zero])
        refine wpAnyH_take (i := 3) (oi := { dst := some 18, op := Op.move (Operand.tmp 0), type := 22, pos := "ref.go:104", after := #[{ on := 2, ground := Ground.guard }], guard := some (2, true) }) (v := ?v3b24) rfl (by kernel_rfl) (by kernel_rfl) (by kernel_rfl) (fun _ _ _ h => h) (Or.inl ⟨by rfl, ?y3b24⟩) (by assumption) ?r3b24
        case y3b24 => (intro w hSw; obtain s1 := hSw; go_simp; (try with_reducible rfl))
        (try simp only [Act.put]); (try simp only [List.setIfInBounds_toArray]); (try simp only [List.set_cons_succ]); (try simp only [List.set_cons_zero])
        refine wpAnyH_take (i := 4) (oi := { dst := some 19, op := Op.move (Operand.tmp 4), type := 3, pos := "ref.go:104", after := #[{ on := 2, ground := Ground.guard }], guard := some (2, true) }) (v := ?v4b25) rfl (by kernel_rfl) (by kernel_rfl) (by kernel_rfl) (fun _ _ _ h => h) (Or.inl ⟨by rfl, ?y4b25⟩) (by assumption) ?r4b25
        case y4b25 => (intro w hSw; obtain s1 := hSw; go_simp; (try with_reducible rfl))
        (try simp only [Act.put]); (try simp only [List.setIfInBounds_toArray]); (try simp only [List.set_cons_succ]); (try simp only [List.set_cons_zero])
        refine wpAnyH_take (i := 5) (oi := { dst := some 20, op := Op.indexAddr 22 (Operand.tmp 18) (Operand.tmp 19), type := 0, pos := "ref.go:104", after := #[{ on := 3, ground := Ground.data }, { on := 4, ground := Ground.data }, { on := 2, ground := Ground.guard }], guard := some (2, true) }) (v := ?v5b26) rfl (by kernel_rfl) (by kernel_rfl) (by kernel_rfl) (fun _ _ _ h => h) (Or.inl ⟨by rfl, ?y5b26⟩) (by assumption) ?r5b26
        case y5b26 => (intro w hSw; obtain s1 := hSw; go_simp; (try with_reducible rfl))
        (try simp only [Act.put]); (try simp only [List.setIfInBounds_toArray]); (try simp only [List.set_cons_succ]); (try simp only [List.set_cons_zero])
        refine wpAnyH_take (i := 6) (oi := { dst := some 21, op := Op.load 5 (Operand.tmp 20), type := 5, pos := "ref.go:104", after := #[{ on := 5, ground := Ground.data }, { on := 2, ground := Ground.guard }], guard := some (2, true) }) (v := ?v6b27) rfl (by kernel_rfl) (by kernel_rfl) (by kernel_rfl) (fun _ _ _ h => h) (Or.inl ⟨by rfl, ?y6b27⟩) (by assumption) ?r6b27
        case y6b27 => (intro w hSw; obtain s1 := hSw; go_simp; (try with_reducible rfl))
        (try simp only [Act.put]); (try simp only [List.setIfInBounds_toArray]); (try simp only [List.set_cons_succ]); (try simp only [List.set_cons_zero])
        refine wpAnyH_take (i := 7) (oi := { dst := some 22, op := Op.move (Operand.tmp 3), type := 9, pos := "ref.go:104", after := #[{ on := 2, ground := Ground.guard }], guard := some (2, true) }) (v := ?v7b28) rfl (by kernel_rfl) (by kernel_rfl) (by kernel_rfl) (fun _ _ _ h => h) (Or.inl ⟨by rfl, ?y7b28⟩) (by assumption) ?r7b28
        case y7b28 => (intro w hSw; obtain s1 := hSw; go_simp; (try with_reducible rfl))
        (try simp only [Act.put]); (try simp only [List.setIfInBounds_toArray]); (try simp only [List.set_cons_succ]); (try simp only [List.set_cons_zero])
        refine wpAnyH_take (i := 8) (oi := { dst := some 23, op := Op.move (Operand.tmp 4), type := 3, pos := "ref.go:104", after := #[{ on := 2, ground := Ground.guard }], guard := some (2, true) }) (v := ?v8b29) rfl (by kernel_rfl) (by kernel_rfl) (by kernel_rfl) (fun _ _ _ h => h) (Or.inl ⟨by rfl, ?y8b29⟩) (by assumption) ?r8b29
        case y8b29 => (intro w hSw; obtain s1 := hSw; go_simp; (try with_reducible rfl))
        (try simp only [Act.put]); (try simp only [List.setIfInBounds_toArray]); (try simp only [List.set_cons_succ]); (try simp only [List.set_cons_zero])
        refine wpAnyH_take (i := 9) (oi := { dst := some 24, op := Op.index 9 (Operand.tmp 22) (Operand.tmp 23), type := 5, pos := "ref.go:104", after := #[{ on := 7, ground := Ground.data }, { on := 8, ground := Ground.data }, { on := 2, ground := Ground.guard }], guard := some (2, true) }) (v := ?v9b210) rfl (by kernel_rfl) (by kernel_rfl) (by kernel_rfl) (fun _ _ _ h => h) (Or.inl ⟨by rfl, ?y9b210⟩) (by assumption) ?r9b210
        case y9b210 => (intro w hSw; obtain s1 := hSw; go_simp; (try with_reducible rfl))
        (try simp only [Act.put]); (try simp only [List.setIfInBounds_toArray]); (try simp only [List.set_cons_succ]); (try simp only [List.set_cons_zero])
        refine wpAnyH_take (i := 10) (oi := { dst := some 25, op := Op.binOp BinOp.neq 5 (Operand.tmp 21) (Operand.tmp 24) 5, type := 4, pos := "ref.go:104", after := #[{ on := 6, ground := Ground.data }, { on := 9, ground := Ground.data }, { on := 2, ground := Ground.guard }], guard := some (2, true) }) (v := .bool true) rfl (by kernel_rfl) (by kernel_rfl) (by kernel_rfl) (fun _ _ _ h => h) (Or.inl ⟨by rfl, ?y10b211⟩) (by assumption) ?r10b211
        case y10b211 => (intro w hSw; obtain s1 := hSw; go_simp; first | done | (simp [dI]; done) | (with_reducible rfl) | (exact dI))
        (try simp only [Act.put]); (try simp only [List.setIfInBounds_toArray]); (try simp only [List.set_cons_succ]); (try simp only [List.set_cons_zero])
        refine wpAnyH_take (i := 11) (oi := { dst := some 26, op := Op.pick (Operand.tmp 17) (Operand.tmp 25) (Operand.const (Value.bool false)), type := 4, pos := "ref.go:104", after := #[{ on := 2, ground := Ground.data }, { on := 10, ground := Ground.data }], guard := none }) (v := ?v11b212) rfl (by kernel_rfl) (by kernel_rfl) (by kernel_rfl) (fun _ _ _ h => h) (Or.inl ⟨by rfl, ?y11b212⟩) (by assumption) ?r11b212
        case y11b212 => (intro w hSw; obtain s1 := hSw; go_simp; (try with_reducible rfl))
        (try simp only [Act.put]); (try simp only [List.setIfInBounds_toArray]); (try simp only [List.set_cons_succ]); (try simp only [List.set_cons_zero])
        refine wpAnyH_take (i := 12) (oi := { dst := some 27, op := Op.move (Operand.tmp 26), type := 4, pos := "ref.go:104", after := #[{ on := 11, ground := Ground.data }, { on := 2, ground := Ground.chain }], guard := none }) (v := ?v12b213) rfl (by kernel_rfl) (by kernel_rfl) (by kernel_rfl) (fun _ _ _ h => h) (Or.inl ⟨by rfl, ?y12b213⟩) (by assumption) ?r12b213
        case y12b213 => (intro w hSw; obtain s1 := hSw; go_simp; (try with_reducible rfl))
        (try simp only [Act.put]); (try simp only [List.setIfInBounds_toArray]); (try simp only [List.set_cons_succ]); (try simp only [List.set_cons_zero])
        refine wpAnyH_take (i := 13) (oi := { dst := some 28, op := Op.move (Operand.tmp 4), type := 3, pos := "ref.go:104", after := #[{ on := 12, ground := Ground.guard }], guard := some (12, false) }) (v := undef) rfl (by kernel_rfl) (by kernel_rfl) (by kernel_rfl) (fun _ _ _ h => h) (Or.inr ⟨by kernel_rfl, rfl⟩) (by assumption) ?r13b214
        (try simp only [Act.put]); (try simp only [List.setIfInBounds_toArray]); (try simp only [List.set_cons_succ]); (try simp only [List.set_cons_zero])
        refine wpAnyH_take (i := 14) (oi := { dst := some 29, op := Op.binOp BinOp.eql 3 (Operand.tmp 28) (Operand.const (Value.int IntKind.i64 3)) 3, type := 4, pos := "ref.go:104", after := #[{ on := 13, ground := Ground.data }, { on := 12, ground := Ground.guard }], guard := some (12, false) }) (v := undef) rfl (by kernel_rfl) (by kernel_rfl) (by kernel_rfl) (fun _ _ _ h => h) (Or.inr ⟨by kernel_rfl, rfl⟩) (by assumption) ?r14b215
        (try simp only [Act.put]); (try simp only [List.setIfInBounds_toArray]); (try simp only [List.set_cons_succ]); (try simp only [List.set_cons_zero])
        refine wpAnyH_take (i := 15) (oi := { dst := some 30, op := Op.move (Operand.tmp 29), type := 4, pos := "ref.go:104", after := #[{ on := 14, ground := Ground.data }, { on := 12, ground := Ground.chain }, { on := 12, ground := Ground.guard }], guard := some (12, false) }) (v := undef) rfl (by kernel_rfl) (by kernel_rfl) (by kernel_rfl) (fun _ _ _ h => h) (Or.inr ⟨by kernel_rfl, rfl⟩) (by assumption) ?r15b216
        (try simp only [Act.put]); (try simp only [List.setIfInBounds_toArray]); (try simp only [List.set_cons_succ]); (try simp only [List.set_cons_zero])
        refine wpAnyH_take (i := 16) (oi := { dst := some 31, op := Op.move (Operand.tmp 0), type := 22, pos := "ref.go:104", after := #[{ on := 15, ground := Ground.guard }], guard := some (15, true) }) (v := undef) rfl (by kernel_rfl) (by kernel_rfl) (by kernel_rfl) (fun _ _ _ h => h) (Or.inr ⟨by kernel_rfl, rfl⟩) (by assumption) ?r16b217
        (try simp only [Act.put]); (try simp only [List.setIfInBounds_toArray]); (try simp only [List.set_cons_succ]); (try simp only [List.set_cons_zero])
        refine wpAnyH_take (i := 17) (oi := { dst := some 32, op := Op.move (Operand.tmp 4), type := 3, pos := "ref.go:104", after := #[{ on := 15, ground := Ground.guard }], guard := some (15, true) }) (v := undef) rfl (by kernel_rfl) (by kernel_rfl) (by kernel_rfl) (fun _ _ _ h => h) (Or.inr ⟨by kernel_rfl, rfl⟩) (by assumption) ?r17b218
        (try simp only [Act.put]); (try simp only [List.setIfInBounds_toArray]); (try simp only [List.set_cons_succ]); (try simp only [List.set_cons_zero])
        refine wpAnyH_take (i := 18) (oi := { dst := some 33, op := Op.indexAddr 22 (Operand.tmp 31) (Operand.tmp 32), type := 0, pos := "ref.go:104", after := #[{ on := 16, ground := Ground.data }, { on := 17, ground := Ground.data }, { on := 15, ground := Ground.guard }], guard := some (15, true) }) (v := undef) rfl (by kernel_rfl) (by kernel_rfl) (by kernel_rfl) (fun _ _ _ h => h) (Or.inr ⟨by kernel_rfl, rfl⟩) (by assumption) ?r18b219
        (try simp only [Act.put]); (try simp only [List.setIfInBounds_toArray]); (try simp only [List.set_cons_succ]); (try simp only [List.set_cons_zero])
        refine wpAnyH_take (i := 19) (oi := { dst := some 34, op := Op.load 5 (Operand.tmp 33), type := 5, pos := "ref.go:104", after := #[{ on := 18, ground := Ground.data }, { on := 15, ground := Ground.guard }], guard := some (15, true) }) (v := undef) rfl (by kernel_rfl) (by kernel_rfl) (by kernel_rfl) (fun _ _ _ h => h) (Or.inr ⟨by kernel_rfl, rfl⟩) (by assumption) ?r19b220
        (try simp only [Act.put]); (try simp only [List.setIfInBounds_toArray]); (try simp only [List.set_cons_succ]); (try simp only [List.set_cons_zero])
        refine wpAnyH_take (i := 20) (oi := { dst := some 35, op := Op.binOp BinOp.neq 5 (Operand.tmp 34) (Operand.const (Value.int IntKind.u8 48)) 5, type := 4, pos := "ref.go:104", after := #[{ on := 19, ground := Ground.data }, { on := 15, ground := Ground.guard }], guard := some (15, true) }) (v := undef) rfl (by kernel_rfl) (by kernel_rfl) (by kernel_rfl) (fun _ _ _ h => h) (Or.inr ⟨by kernel_rfl, rfl⟩) (by assumption) ?r20b221
        (try simp only [Act.put]); (try simp only [List.setIfInBounds_toArray]); (try simp only [List.set_cons_succ]); (try simp only [List.set_cons_zero])
        refine wpAnyH_take (i := 21) (oi := { dst := some 36, op := Op.pick (Operand.tmp 30) (Operand.tmp 35) (Operand.const (Value.bool false)), type := 4, pos := "ref.go:104", after := #[{ on := 15, ground := Ground.data }, { on := 20, ground := Ground.data }, { on := 12, ground := Ground.guard }], guard := some (12, false) }) (v := undef) rfl (by kernel_rfl) (by kernel_rfl) (by kernel_rfl) (fun _ _ _ h => h) (Or.inr ⟨by kernel_rfl, rfl⟩) (by assumption) ?r21b222
        (try simp only [Act.put]); (try simp only [List.setIfInBounds_toArray]); (try simp only [List.set_cons_succ]); (try simp only [List.set_cons_zero])
        refine wpAnyH_take (i := 22) (oi := { dst := some 37, op := Op.move (Operand.tmp 36), type := 4, pos := "ref.go:104", after := #[{ on := 21, ground := Ground.data }, { on := 15, ground := Ground.chain }, { on := 12, ground := Ground.guard }], guard := some (12, false) }) (v := undef) rfl (by kernel_rfl) (by kernel_rfl) (by kernel_rfl) (fun _ _ _ h => h) (Or.inr ⟨by kernel_rfl, rfl⟩) (by assumption) ?r22b223
        (try simp only [Act.put]); (try simp only [List.setIfInBounds_toArray]); (try simp only [List.set_cons_succ]); (try simp only [List.set_cons_zero])
        refine wpAnyH_take (i := 23) (oi := { dst := some 38, op := Op.move (Operand.tmp 0), type := 22, pos := "ref.go:104", after := #[{ on := 22, ground := Ground.guard }], guard := some (22, true) }) (v := undef) rfl (by kernel_rfl) (by kernel_rfl) (by kernel_rfl) (fun _ _ _ h => h) (Or.inr ⟨by kernel_rfl, rfl⟩) (by assumption) ?r23b224
        (try simp only [Act.put]); (try simp only [List.setIfInBounds_toArray]); (try simp only [List.set_cons_succ]); (try simp only [List.set_cons_zero])
        refine wpAnyH_take (i := 24) (oi := { dst := some 39, op := Op.move (Operand.tmp 4), type := 3, pos := "ref.go:104", after := #[{ on := 22, ground := Ground.guard }], guard := some (22, true) }) (v := undef) rfl (by kernel_rfl) (by kernel_rfl) (by kernel_rfl) (fun _ _ _ h => h) (Or.inr ⟨by kernel_rfl, rfl⟩) (by assumption) ?r24b225
        (try simp only [Act.put]); (try simp only [List.setIfInBounds_toArray]); (try simp only [List.set_cons_succ]); (try simp only [List.set_cons_zero])
        refine wpAnyH_take (i := 25) (oi := { dst := some 40, op := Op.indexAddr 22 (Operand.tmp 38) (Operand.tmp 39), type := 0, pos := "ref.go:104", after := #[{ on := 23, ground := Ground.data }, { on := 24, ground := Ground.data }, { on := 22, ground := Ground.guard }], guard := some (22, true) }) (v := undef) rfl (by kernel_rfl) (by kernel_rfl) (by kernel_rfl) (fun _ _ _ h => h) (Or.inr ⟨by kernel_rfl, rfl⟩) (by assumption) ?r25b226
        (try simp only [Act.put]); (try simp only [List.setIfInBounds_toArray]); (try simp only [List.set_cons_succ]); (try simp only [List.set_cons_zero])
        refine wpAnyH_take (i := 26) (oi := { dst := some 41, op := Op.load 5 (Operand.tmp 40), type := 5, pos := "ref.go:104", after := #[{ on := 25, ground := Ground.data }, { on := 22, ground := Ground.guard }], guard := some (22, true) }) (v := undef) rfl (by kernel_rfl) (by kernel_rfl) (by kernel_rfl) (fun _ _ _ h => h) (Or.inr ⟨by kernel_rfl, rfl⟩) (by assumption) ?r26b227
        (try simp only [Act.put]); (try simp only [List.setIfInBounds_toArray]); (try simp only [List.set_cons_succ]); (try simp only [List.set_cons_zero])
        refine wpAnyH_take (i := 27) (oi := { dst := some 42, op := Op.binOp BinOp.neq 5 (Operand.tmp 41) (Operand.const (Value.int IntKind.u8 49)) 5, type := 4, pos := "ref.go:104", after := #[{ on := 26, ground := Ground.data }, { on := 22, ground := Ground.guard }], guard := some (22, true) }) (v := undef) rfl (by kernel_rfl) (by kernel_rfl) (by kernel_rfl) (fun _ _ _ h => h) (Or.inr ⟨by kernel_rfl, rfl⟩) (by assumption) ?r27b228
        (try simp only [Act.put]); (try simp only [List.setIfInBounds_toArray]); (try simp only [List.set_cons_succ]); (try simp only [List.set_cons_zero])
        refine wpAnyH_take (i := 28) (oi := { dst := some 43, op := Op.pick (Operand.tmp 37) (Operand.tmp 42) (Operand.const (Value.bool false)), type := 4, pos := "ref.go:104", after := #[{ on := 22, ground := Ground.data }, { on := 27, ground := Ground.data }, { on := 12, ground := Ground.guard }], guard := some (12, false) }) (v := undef) rfl (by kernel_rfl) (by kernel_rfl) (by kernel_rfl) (fun _ _ _ h => h) (Or.inr ⟨by kernel_rfl, rfl⟩) (by assumption) ?r28b229
        (try simp only [Act.put]); (try simp only [List.setIfInBounds_toArray]); (try simp only [List.set_cons_succ]); (try simp only [List.set_cons_zero])
        refine wpAnyH_take (i := 29) (oi := { dst := some 44, op := Op.pick (Operand.tmp 27) (Operand.const (Value.bool true)) (Operand.tmp 43), type := 4, pos := "ref.go:104", after := #[{ on := 12, ground := Ground.data }, { on := 28, ground := Ground.data }], guard := none }) (v := ?v29b230) rfl (by kernel_rfl) (by kernel_rfl) (by kernel_rfl) (fun _ _ _ h => h) (Or.inl ⟨by rfl, ?y29b230⟩) (by assumption) ?r29b230
        case y29b230 => (intro w hSw; obtain s1 := hSw; go_simp; (try with_reducible rfl))
        (try simp only [Act.put]); (try simp only [List.setIfInBounds_toArray]); (try simp only [List.set_cons_succ]); (try simp only [List.set_cons_zero])
        refine wpAnyH_done (by kernel_rfl) ?_ _
        clear hHeld
        go_wp2_with fail
        go_ret
        exact ⟨by rw [HE.out]; rfl, HG.out.drewN _⟩
    · replace t : wr.cell? ⟨B, o + 3, none⟩ = some (.int .u8 (x.toNat : Int)) := t
      replace c2I : (3 : Int) < (L : Int) := c2I
      rw [show ((3 : Nat) : Int) = 3 from rfl]
      by_cases d : x = 48 ∨ x = 49
      · have HE := hidM (HGo.out (by simpa [okAt] using d))
        clear HGo HNo
        rcases d with rfl | rfl
        · have HIN : Hid (wr.cell? ⟨B, o + 3, none⟩ = some (.int .u8 48)) := t
          clear t hxb
          go_wp2_with fail
          refine wp_region_held_drew (S := fun w' => w'.cell? ⟨B, o + 3, none⟩ = some (.int .u8 48)) (by kernel_rfl) (HIN.out) (fun hHeld => ?_)
          refine wpAnyH_take (i := 0) (oi := { dst := some 15, op := Op.move (Operand.tmp 4), type := 3, pos := "ref.go:104", after := #[], guard := none }) (v := ?v0g481) rfl (by kernel_rfl) (by kernel_rfl) (by kernel_rfl) (fun _ _ _ h => h) (Or.inl ⟨by rfl, ?y0g481⟩) (by assumption) ?r0g481
          case y0g481 => (intro w hSw; obtain s1 := hSw; go_simp; (try with_reducible rfl))
          (try simp only [Act.put]); (try simp only [List.setIfInBounds_toArray]); (try simp only [List.set_cons_succ]); (try simp only [List.set_cons_zero])
          refine wpAnyH_take (i := 1) (oi := { dst := some 16, op := Op.binOp BinOp.lss 3 (Operand.tmp 15) (Operand.const (Value.int IntKind.i64 3)) 3, type := 4, pos := "ref.go:104", after := #[{ on := 0, ground := Ground.data }], guard := none }) (v := ?v1g482) rfl (by kernel_rfl) (by kernel_rfl) (by kernel_rfl) (fun _ _ _ h => h) (Or.inl ⟨by rfl, ?y1g482⟩) (by assumption) ?r1g482
          case y1g482 => (intro w hSw; obtain s1 := hSw; go_simp; (try with_reducible rfl))
          (try simp only [Act.put]); (try simp only [List.setIfInBounds_toArray]); (try simp only [List.set_cons_succ]); (try simp only [List.set_cons_zero])
          refine wpAnyH_take (i := 2) (oi := { dst := some 17, op := Op.move (Operand.tmp 16), type := 4, pos := "ref.go:104", after := #[{ on := 1, ground := Ground.data }], guard := none }) (v := ?v2g483) rfl (by kernel_rfl) (by kernel_rfl) (by kernel_rfl) (fun _ _ _ h => h) (Or.inl ⟨by rfl, ?y2g483⟩) (by assumption) ?r2g483
          case y2g483 => (intro w hSw; obtain s1 := hSw; go_simp; (try with_reducible rfl))
          (try simp only [Act.put]); (try simp only [List.setIfInBounds_toArray]); (try simp only [List.set_cons_succ]); (try simp only [List.set_cons_zero])
          refine wpAnyH_take (i := 3) (oi := { dst := some 18, op := Op.move (Operand.tmp 0), type := 22, pos := "ref.go:104", after := #[{ on := 2, ground := Ground.guard }], guard := some (2, true) }) (v := undef) rfl (by kernel_rfl) (by kernel_rfl) (by kernel_rfl) (fun _ _ _ h => h) (Or.inr ⟨by kernel_rfl, rfl⟩) (by assumption) ?r3g484
          (try simp only [Act.put]); (try simp only [List.setIfInBounds_toArray]); (try simp only [List.set_cons_succ]); (try simp only [List.set_cons_zero])
          refine wpAnyH_take (i := 4) (oi := { dst := some 19, op := Op.move (Operand.tmp 4), type := 3, pos := "ref.go:104", after := #[{ on := 2, ground := Ground.guard }], guard := some (2, true) }) (v := undef) rfl (by kernel_rfl) (by kernel_rfl) (by kernel_rfl) (fun _ _ _ h => h) (Or.inr ⟨by kernel_rfl, rfl⟩) (by assumption) ?r4g485
          (try simp only [Act.put]); (try simp only [List.setIfInBounds_toArray]); (try simp only [List.set_cons_succ]); (try simp only [List.set_cons_zero])
          refine wpAnyH_take (i := 5) (oi := { dst := some 20, op := Op.indexAddr 22 (Operand.tmp 18) (Operand.tmp 19), type := 0, pos := "ref.go:104", after := #[{ on := 3, ground := Ground.data }, { on := 4, ground := Ground.data }, { on := 2, ground := Ground.guard }], guard := some (2, true) }) (v := undef) rfl (by kernel_rfl) (by kernel_rfl) (by kernel_rfl) (fun _ _ _ h => h) (Or.inr ⟨by kernel_rfl, rfl⟩) (by assumption) ?r5g486
          (try simp only [Act.put]); (try simp only [List.setIfInBounds_toArray]); (try simp only [List.set_cons_succ]); (try simp only [List.set_cons_zero])
          refine wpAnyH_take (i := 6) (oi := { dst := some 21, op := Op.load 5 (Operand.tmp 20), type := 5, pos := "ref.go:104", after := #[{ on := 5, ground := Ground.data }, { on := 2, ground := Ground.guard }], guard := some (2, true) }) (v := undef) rfl (by kernel_rfl) (by kernel_rfl) (by kernel_rfl) (fun _ _ _ h => h) (Or.inr ⟨by kernel_rfl, rfl⟩) (by assumption) ?r6g487
          (try simp only [Act.put]); (try simp only [List.setIfInBounds_toArray]); (try simp only [List.set_cons_succ]); (try simp only [List.set_cons_zero])
          refine wpAnyH_take (i := 7) (oi := { dst := some 22, op := Op.move (Operand.tmp 3), type := 9, pos := "ref.go:104", after := #[{ on := 2, ground := Ground.guard }], guard := some (2, true) }) (v := undef) rfl (by kernel_rfl) (by kernel_rfl) (by kernel_rfl) (fun _ _ _ h => h) (Or.inr ⟨by kernel_rfl, rfl⟩) (by assumption) ?r7g488
          (try simp only [Act.put]); (try simp only [List.setIfInBounds_toArray]); (try simp only [List.set_cons_succ]); (try simp only [List.set_cons_zero])
          refine wpAnyH_take (i := 8) (oi := { dst := some 23, op := Op.move (Operand.tmp 4), type := 3, pos := "ref.go:104", after := #[{ on := 2, ground := Ground.guard }], guard := some (2, true) }) (v := undef) rfl (by kernel_rfl) (by kernel_rfl) (by kernel_rfl) (fun _ _ _ h => h) (Or.inr ⟨by kernel_rfl, rfl⟩) (by assumption) ?r8g489
          (try simp only [Act.put]); (try simp only [List.setIfInBounds_toArray]); (try simp only [List.set_cons_succ]); (try simp only [List.set_cons_zero])
          refine wpAnyH_take (i := 9) (oi := { dst := some 24, op := Op.index 9 (Operand.tmp 22) (Operand.tmp 23), type := 5, pos := "ref.go:104", after := #[{ on := 7, ground := Ground.data }, { on := 8, ground := Ground.data }, { on := 2, ground := Ground.guard }], guard := some (2, true) }) (v := undef) rfl (by kernel_rfl) (by kernel_rfl) (by kernel_rfl) (fun _ _ _ h => h) (Or.inr ⟨by kernel_rfl, rfl⟩) (by assumption) ?r9g4810
          (try simp only [Act.put]); (try simp only [List.setIfInBounds_toArray]); (try simp only [List.set_cons_succ]); (try simp only [List.set_cons_zero])
          refine wpAnyH_take (i := 10) (oi := { dst := some 25, op := Op.binOp BinOp.neq 5 (Operand.tmp 21) (Operand.tmp 24) 5, type := 4, pos := "ref.go:104", after := #[{ on := 6, ground := Ground.data }, { on := 9, ground := Ground.data }, { on := 2, ground := Ground.guard }], guard := some (2, true) }) (v := undef) rfl (by kernel_rfl) (by kernel_rfl) (by kernel_rfl) (fun _ _ _ h => h) (Or.inr ⟨by kernel_rfl, rfl⟩) (by assumption) ?r10g4811
          (try simp only [Act.put]); (try simp only [List.setIfInBounds_toArray]); (try simp only [List.set_cons_succ]); (try simp only [List.set_cons_zero])
          refine wpAnyH_take (i := 11) (oi := { dst := some 26, op := Op.pick (Operand.tmp 17) (Operand.tmp 25) (Operand.const (Value.bool false)), type := 4, pos := "ref.go:104", after := #[{ on := 2, ground := Ground.data }, { on := 10, ground := Ground.data }], guard := none }) (v := ?v11g4812) rfl (by kernel_rfl) (by kernel_rfl) (by kernel_rfl) (fun _ _ _ h => h) (Or.inl ⟨by rfl, ?y11g4812⟩) (by assumption) ?r11g4812
          case y11g4812 => (intro w hSw; obtain s1 := hSw; go_simp; (try with_reducible rfl))
          (try simp only [Act.put]); (try simp only [List.setIfInBounds_toArray]); (try simp only [List.set_cons_succ]); (try simp only [List.set_cons_zero])
          refine wpAnyH_take (i := 12) (oi := { dst := some 27, op := Op.move (Operand.tmp 26), type := 4, pos := "ref.go:104", after := #[{ on := 11, ground := Ground.data }, { on := 2, ground := Ground.chain }], guard := none }) (v := ?v12g4813) rfl (by kernel_rfl) (by kernel_rfl) (by kernel_rfl) (fun _ _ _ h => h) (Or.inl ⟨by rfl, ?y12g4813⟩) (by assumption) ?r12g4813
          case y12g4813 => (intro w hSw; obtain s1 := hSw; go_simp; (try with_reducible rfl))
          (try simp only [Act.put]); (try simp only [List.setIfInBounds_toArray]); (try simp only [List.set_cons_succ]); (try simp only [List.set_cons_zero])
          refine wpAnyH_take (i := 13) (oi := { dst := some 28, op := Op.move (Operand.tmp 4), type := 3, pos := "ref.go:104", after := #[{ on := 12, ground := Ground.guard }], guard := some (12, false) }) (v := ?v13g4814) rfl (by kernel_rfl) (by kernel_rfl) (by kernel_rfl) (fun _ _ _ h => h) (Or.inl ⟨by rfl, ?y13g4814⟩) (by assumption) ?r13g4814
          case y13g4814 => (intro w hSw; obtain s1 := hSw; go_simp; (try with_reducible rfl))
          (try simp only [Act.put]); (try simp only [List.setIfInBounds_toArray]); (try simp only [List.set_cons_succ]); (try simp only [List.set_cons_zero])
          refine wpAnyH_take (i := 14) (oi := { dst := some 29, op := Op.binOp BinOp.eql 3 (Operand.tmp 28) (Operand.const (Value.int IntKind.i64 3)) 3, type := 4, pos := "ref.go:104", after := #[{ on := 13, ground := Ground.data }, { on := 12, ground := Ground.guard }], guard := some (12, false) }) (v := ?v14g4815) rfl (by kernel_rfl) (by kernel_rfl) (by kernel_rfl) (fun _ _ _ h => h) (Or.inl ⟨by rfl, ?y14g4815⟩) (by assumption) ?r14g4815
          case y14g4815 => (intro w hSw; obtain s1 := hSw; go_simp; (try with_reducible rfl))
          (try simp only [Act.put]); (try simp only [List.setIfInBounds_toArray]); (try simp only [List.set_cons_succ]); (try simp only [List.set_cons_zero])
          refine wpAnyH_take (i := 15) (oi := { dst := some 30, op := Op.move (Operand.tmp 29), type := 4, pos := "ref.go:104", after := #[{ on := 14, ground := Ground.data }, { on := 12, ground := Ground.chain }, { on := 12, ground := Ground.guard }], guard := some (12, false) }) (v := ?v15g4816) rfl (by kernel_rfl) (by kernel_rfl) (by kernel_rfl) (fun _ _ _ h => h) (Or.inl ⟨by rfl, ?y15g4816⟩) (by assumption) ?r15g4816
          case y15g4816 => (intro w hSw; obtain s1 := hSw; go_simp; (try with_reducible rfl))
          (try simp only [Act.put]); (try simp only [List.setIfInBounds_toArray]); (try simp only [List.set_cons_succ]); (try simp only [List.set_cons_zero])
          refine wpAnyH_take (i := 16) (oi := { dst := some 31, op := Op.move (Operand.tmp 0), type := 22, pos := "ref.go:104", after := #[{ on := 15, ground := Ground.guard }], guard := some (15, true) }) (v := ?v16g4817) rfl (by kernel_rfl) (by kernel_rfl) (by kernel_rfl) (fun _ _ _ h => h) (Or.inl ⟨by rfl, ?y16g4817⟩) (by assumption) ?r16g4817
          case y16g4817 => (intro w hSw; obtain s1 := hSw; go_simp; (try with_reducible rfl))
          (try simp only [Act.put]); (try simp only [List.setIfInBounds_toArray]); (try simp only [List.set_cons_succ]); (try simp only [List.set_cons_zero])
          refine wpAnyH_take (i := 17) (oi := { dst := some 32, op := Op.move (Operand.tmp 4), type := 3, pos := "ref.go:104", after := #[{ on := 15, ground := Ground.guard }], guard := some (15, true) }) (v := ?v17g4818) rfl (by kernel_rfl) (by kernel_rfl) (by kernel_rfl) (fun _ _ _ h => h) (Or.inl ⟨by rfl, ?y17g4818⟩) (by assumption) ?r17g4818
          case y17g4818 => (intro w hSw; obtain s1 := hSw; go_simp; (try with_reducible rfl))
          (try simp only [Act.put]); (try simp only [List.setIfInBounds_toArray]); (try simp only [List.set_cons_succ]); (try simp only [List.set_cons_zero])
          refine wpAnyH_take (i := 18) (oi := { dst := some 33, op := Op.indexAddr 22 (Operand.tmp 31) (Operand.tmp 32), type := 0, pos := "ref.go:104", after := #[{ on := 16, ground := Ground.data }, { on := 17, ground := Ground.data }, { on := 15, ground := Ground.guard }], guard := some (15, true) }) (v := ?v18g4819) rfl (by kernel_rfl) (by kernel_rfl) (by kernel_rfl) (fun _ _ _ h => h) (Or.inl ⟨by rfl, ?y18g4819⟩) (by assumption) ?r18g4819
          case y18g4819 => (intro w hSw; obtain s1 := hSw; go_simp; (try with_reducible rfl))
          (try simp only [Act.put]); (try simp only [List.setIfInBounds_toArray]); (try simp only [List.set_cons_succ]); (try simp only [List.set_cons_zero])
          refine wpAnyH_take (i := 19) (oi := { dst := some 34, op := Op.load 5 (Operand.tmp 33), type := 5, pos := "ref.go:104", after := #[{ on := 18, ground := Ground.data }, { on := 15, ground := Ground.guard }], guard := some (15, true) }) (v := ?v19g4820) rfl (by kernel_rfl) (by kernel_rfl) (by kernel_rfl) (fun _ _ _ h => h) (Or.inl ⟨by rfl, ?y19g4820⟩) (by assumption) ?r19g4820
          case y19g4820 => (intro w hSw; obtain s1 := hSw; go_simp; (try with_reducible rfl))
          (try simp only [Act.put]); (try simp only [List.setIfInBounds_toArray]); (try simp only [List.set_cons_succ]); (try simp only [List.set_cons_zero])
          refine wpAnyH_take (i := 20) (oi := { dst := some 35, op := Op.binOp BinOp.neq 5 (Operand.tmp 34) (Operand.const (Value.int IntKind.u8 48)) 5, type := 4, pos := "ref.go:104", after := #[{ on := 19, ground := Ground.data }, { on := 15, ground := Ground.guard }], guard := some (15, true) }) (v := ?v20g4821) rfl (by kernel_rfl) (by kernel_rfl) (by kernel_rfl) (fun _ _ _ h => h) (Or.inl ⟨by rfl, ?y20g4821⟩) (by assumption) ?r20g4821
          case y20g4821 => (intro w hSw; obtain s1 := hSw; go_simp; (try with_reducible rfl))
          (try simp only [Act.put]); (try simp only [List.setIfInBounds_toArray]); (try simp only [List.set_cons_succ]); (try simp only [List.set_cons_zero])
          refine wpAnyH_take (i := 21) (oi := { dst := some 36, op := Op.pick (Operand.tmp 30) (Operand.tmp 35) (Operand.const (Value.bool false)), type := 4, pos := "ref.go:104", after := #[{ on := 15, ground := Ground.data }, { on := 20, ground := Ground.data }, { on := 12, ground := Ground.guard }], guard := some (12, false) }) (v := ?v21g4822) rfl (by kernel_rfl) (by kernel_rfl) (by kernel_rfl) (fun _ _ _ h => h) (Or.inl ⟨by rfl, ?y21g4822⟩) (by assumption) ?r21g4822
          case y21g4822 => (intro w hSw; obtain s1 := hSw; go_simp; (try with_reducible rfl))
          (try simp only [Act.put]); (try simp only [List.setIfInBounds_toArray]); (try simp only [List.set_cons_succ]); (try simp only [List.set_cons_zero])
          refine wpAnyH_take (i := 22) (oi := { dst := some 37, op := Op.move (Operand.tmp 36), type := 4, pos := "ref.go:104", after := #[{ on := 21, ground := Ground.data }, { on := 15, ground := Ground.chain }, { on := 12, ground := Ground.guard }], guard := some (12, false) }) (v := ?v22g4823) rfl (by kernel_rfl) (by kernel_rfl) (by kernel_rfl) (fun _ _ _ h => h) (Or.inl ⟨by rfl, ?y22g4823⟩) (by assumption) ?r22g4823
          case y22g4823 => (intro w hSw; obtain s1 := hSw; go_simp; (try with_reducible rfl))
          (try simp only [Act.put]); (try simp only [List.setIfInBounds_toArray]); (try simp only [List.set_cons_succ]); (try simp only [List.set_cons_zero])
          refine wpAnyH_take (i := 23) (oi := { dst := some 38, op := Op.move (Operand.tmp 0), type := 22, pos := "ref.go:104", after := #[{ on := 22, ground := Ground.guard }], guard := some (22, true) }) (v := undef) rfl (by kernel_rfl) (by kernel_rfl) (by kernel_rfl) (fun _ _ _ h => h) (Or.inr ⟨by kernel_rfl, rfl⟩) (by assumption) ?r23g4824
          (try simp only [Act.put]); (try simp only [List.setIfInBounds_toArray]); (try simp only [List.set_cons_succ]); (try simp only [List.set_cons_zero])
          refine wpAnyH_take (i := 24) (oi := { dst := some 39, op := Op.move (Operand.tmp 4), type := 3, pos := "ref.go:104", after := #[{ on := 22, ground := Ground.guard }], guard := some (22, true) }) (v := undef) rfl (by kernel_rfl) (by kernel_rfl) (by kernel_rfl) (fun _ _ _ h => h) (Or.inr ⟨by kernel_rfl, rfl⟩) (by assumption) ?r24g4825
          (try simp only [Act.put]); (try simp only [List.setIfInBounds_toArray]); (try simp only [List.set_cons_succ]); (try simp only [List.set_cons_zero])
          refine wpAnyH_take (i := 25) (oi := { dst := some 40, op := Op.indexAddr 22 (Operand.tmp 38) (Operand.tmp 39), type := 0, pos := "ref.go:104", after := #[{ on := 23, ground := Ground.data }, { on := 24, ground := Ground.data }, { on := 22, ground := Ground.guard }], guard := some (22, true) }) (v := undef) rfl (by kernel_rfl) (by kernel_rfl) (by kernel_rfl) (fun _ _ _ h => h) (Or.inr ⟨by kernel_rfl, rfl⟩) (by assumption) ?r25g4826
          (try simp only [Act.put]); (try simp only [List.setIfInBounds_toArray]); (try simp only [List.set_cons_succ]); (try simp only [List.set_cons_zero])
          refine wpAnyH_take (i := 26) (oi := { dst := some 41, op := Op.load 5 (Operand.tmp 40), type := 5, pos := "ref.go:104", after := #[{ on := 25, ground := Ground.data }, { on := 22, ground := Ground.guard }], guard := some (22, true) }) (v := undef) rfl (by kernel_rfl) (by kernel_rfl) (by kernel_rfl) (fun _ _ _ h => h) (Or.inr ⟨by kernel_rfl, rfl⟩) (by assumption) ?r26g4827
          (try simp only [Act.put]); (try simp only [List.setIfInBounds_toArray]); (try simp only [List.set_cons_succ]); (try simp only [List.set_cons_zero])
          refine wpAnyH_take (i := 27) (oi := { dst := some 42, op := Op.binOp BinOp.neq 5 (Operand.tmp 41) (Operand.const (Value.int IntKind.u8 49)) 5, type := 4, pos := "ref.go:104", after := #[{ on := 26, ground := Ground.data }, { on := 22, ground := Ground.guard }], guard := some (22, true) }) (v := undef) rfl (by kernel_rfl) (by kernel_rfl) (by kernel_rfl) (fun _ _ _ h => h) (Or.inr ⟨by kernel_rfl, rfl⟩) (by assumption) ?r27g4828
          (try simp only [Act.put]); (try simp only [List.setIfInBounds_toArray]); (try simp only [List.set_cons_succ]); (try simp only [List.set_cons_zero])
          refine wpAnyH_take (i := 28) (oi := { dst := some 43, op := Op.pick (Operand.tmp 37) (Operand.tmp 42) (Operand.const (Value.bool false)), type := 4, pos := "ref.go:104", after := #[{ on := 22, ground := Ground.data }, { on := 27, ground := Ground.data }, { on := 12, ground := Ground.guard }], guard := some (12, false) }) (v := ?v28g4829) rfl (by kernel_rfl) (by kernel_rfl) (by kernel_rfl) (fun _ _ _ h => h) (Or.inl ⟨by rfl, ?y28g4829⟩) (by assumption) ?r28g4829
          case y28g4829 => (intro w hSw; obtain s1 := hSw; go_simp; (try with_reducible rfl))
          (try simp only [Act.put]); (try simp only [List.setIfInBounds_toArray]); (try simp only [List.set_cons_succ]); (try simp only [List.set_cons_zero])
          refine wpAnyH_take (i := 29) (oi := { dst := some 44, op := Op.pick (Operand.tmp 27) (Operand.const (Value.bool true)) (Operand.tmp 43), type := 4, pos := "ref.go:104", after := #[{ on := 12, ground := Ground.data }, { on := 28, ground := Ground.data }], guard := none }) (v := ?v29g4830) rfl (by kernel_rfl) (by kernel_rfl) (by kernel_rfl) (fun _ _ _ h => h) (Or.inl ⟨by rfl, ?y29g4830⟩) (by assumption) ?r29g4830
          case y29g4830 => (intro w hSw; obtain s1 := hSw; go_simp; (try with_reducible rfl))
          (try simp only [Act.put]); (try simp only [List.setIfInBounds_toArray]); (try simp only [List.set_cons_succ]); (try simp only [List.set_cons_zero])
          refine wpAnyH_done (by kernel_rfl) ?_ _
          clear hHeld
          go_wp2_with fail
          go_roundw
          case rel => exact ⟨4, by omega, by omega, by simp, HE.out, HG.out.drewN _⟩
          case measure => simp [intOf]
        · have HIN : Hid (wr.cell? ⟨B, o + 3, none⟩ = some (.int .u8 49)) := t
          clear t hxb
          go_wp2_with fail
          refine wp_region_held_drew (S := fun w' => w'.cell? ⟨B, o + 3, none⟩ = some (.int .u8 49)) (by kernel_rfl) (HIN.out) (fun hHeld => ?_)
          refine wpAnyH_take (i := 0) (oi := { dst := some 15, op := Op.move (Operand.tmp 4), type := 3, pos := "ref.go:104", after := #[], guard := none }) (v := ?v0g491) rfl (by kernel_rfl) (by kernel_rfl) (by kernel_rfl) (fun _ _ _ h => h) (Or.inl ⟨by rfl, ?y0g491⟩) (by assumption) ?r0g491
          case y0g491 => (intro w hSw; obtain s1 := hSw; go_simp; (try with_reducible rfl))
          (try simp only [Act.put]); (try simp only [List.setIfInBounds_toArray]); (try simp only [List.set_cons_succ]); (try simp only [List.set_cons_zero])
          refine wpAnyH_take (i := 1) (oi := { dst := some 16, op := Op.binOp BinOp.lss 3 (Operand.tmp 15) (Operand.const (Value.int IntKind.i64 3)) 3, type := 4, pos := "ref.go:104", after := #[{ on := 0, ground := Ground.data }], guard := none }) (v := ?v1g492) rfl (by kernel_rfl) (by kernel_rfl) (by kernel_rfl) (fun _ _ _ h => h) (Or.inl ⟨by rfl, ?y1g492⟩) (by assumption) ?r1g492
          case y1g492 => (intro w hSw; obtain s1 := hSw; go_simp; (try with_reducible rfl))
          (try simp only [Act.put]); (try simp only [List.setIfInBounds_toArray]); (try simp only [List.set_cons_succ]); (try simp only [List.set_cons_zero])
          refine wpAnyH_take (i := 2) (oi := { dst := some 17, op := Op.move (Operand.tmp 16), type := 4, pos := "ref.go:104", after := #[{ on := 1, ground := Ground.data }], guard := none }) (v := ?v2g493) rfl (by kernel_rfl) (by kernel_rfl) (by kernel_rfl) (fun _ _ _ h => h) (Or.inl ⟨by rfl, ?y2g493⟩) (by assumption) ?r2g493
          case y2g493 => (intro w hSw; obtain s1 := hSw; go_simp; (try with_reducible rfl))
          (try simp only [Act.put]); (try simp only [List.setIfInBounds_toArray]); (try simp only [List.set_cons_succ]); (try simp only [List.set_cons_zero])
          refine wpAnyH_take (i := 3) (oi := { dst := some 18, op := Op.move (Operand.tmp 0), type := 22, pos := "ref.go:104", after := #[{ on := 2, ground := Ground.guard }], guard := some (2, true) }) (v := undef) rfl (by kernel_rfl) (by kernel_rfl) (by kernel_rfl) (fun _ _ _ h => h) (Or.inr ⟨by kernel_rfl, rfl⟩) (by assumption) ?r3g494
          (try simp only [Act.put]); (try simp only [List.setIfInBounds_toArray]); (try simp only [List.set_cons_succ]); (try simp only [List.set_cons_zero])
          refine wpAnyH_take (i := 4) (oi := { dst := some 19, op := Op.move (Operand.tmp 4), type := 3, pos := "ref.go:104", after := #[{ on := 2, ground := Ground.guard }], guard := some (2, true) }) (v := undef) rfl (by kernel_rfl) (by kernel_rfl) (by kernel_rfl) (fun _ _ _ h => h) (Or.inr ⟨by kernel_rfl, rfl⟩) (by assumption) ?r4g495
          (try simp only [Act.put]); (try simp only [List.setIfInBounds_toArray]); (try simp only [List.set_cons_succ]); (try simp only [List.set_cons_zero])
          refine wpAnyH_take (i := 5) (oi := { dst := some 20, op := Op.indexAddr 22 (Operand.tmp 18) (Operand.tmp 19), type := 0, pos := "ref.go:104", after := #[{ on := 3, ground := Ground.data }, { on := 4, ground := Ground.data }, { on := 2, ground := Ground.guard }], guard := some (2, true) }) (v := undef) rfl (by kernel_rfl) (by kernel_rfl) (by kernel_rfl) (fun _ _ _ h => h) (Or.inr ⟨by kernel_rfl, rfl⟩) (by assumption) ?r5g496
          (try simp only [Act.put]); (try simp only [List.setIfInBounds_toArray]); (try simp only [List.set_cons_succ]); (try simp only [List.set_cons_zero])
          refine wpAnyH_take (i := 6) (oi := { dst := some 21, op := Op.load 5 (Operand.tmp 20), type := 5, pos := "ref.go:104", after := #[{ on := 5, ground := Ground.data }, { on := 2, ground := Ground.guard }], guard := some (2, true) }) (v := undef) rfl (by kernel_rfl) (by kernel_rfl) (by kernel_rfl) (fun _ _ _ h => h) (Or.inr ⟨by kernel_rfl, rfl⟩) (by assumption) ?r6g497
          (try simp only [Act.put]); (try simp only [List.setIfInBounds_toArray]); (try simp only [List.set_cons_succ]); (try simp only [List.set_cons_zero])
          refine wpAnyH_take (i := 7) (oi := { dst := some 22, op := Op.move (Operand.tmp 3), type := 9, pos := "ref.go:104", after := #[{ on := 2, ground := Ground.guard }], guard := some (2, true) }) (v := undef) rfl (by kernel_rfl) (by kernel_rfl) (by kernel_rfl) (fun _ _ _ h => h) (Or.inr ⟨by kernel_rfl, rfl⟩) (by assumption) ?r7g498
          (try simp only [Act.put]); (try simp only [List.setIfInBounds_toArray]); (try simp only [List.set_cons_succ]); (try simp only [List.set_cons_zero])
          refine wpAnyH_take (i := 8) (oi := { dst := some 23, op := Op.move (Operand.tmp 4), type := 3, pos := "ref.go:104", after := #[{ on := 2, ground := Ground.guard }], guard := some (2, true) }) (v := undef) rfl (by kernel_rfl) (by kernel_rfl) (by kernel_rfl) (fun _ _ _ h => h) (Or.inr ⟨by kernel_rfl, rfl⟩) (by assumption) ?r8g499
          (try simp only [Act.put]); (try simp only [List.setIfInBounds_toArray]); (try simp only [List.set_cons_succ]); (try simp only [List.set_cons_zero])
          refine wpAnyH_take (i := 9) (oi := { dst := some 24, op := Op.index 9 (Operand.tmp 22) (Operand.tmp 23), type := 5, pos := "ref.go:104", after := #[{ on := 7, ground := Ground.data }, { on := 8, ground := Ground.data }, { on := 2, ground := Ground.guard }], guard := some (2, true) }) (v := undef) rfl (by kernel_rfl) (by kernel_rfl) (by kernel_rfl) (fun _ _ _ h => h) (Or.inr ⟨by kernel_rfl, rfl⟩) (by assumption) ?r9g4910
          (try simp only [Act.put]); (try simp only [List.setIfInBounds_toArray]); (try simp only [List.set_cons_succ]); (try simp only [List.set_cons_zero])
          refine wpAnyH_take (i := 10) (oi := { dst := some 25, op := Op.binOp BinOp.neq 5 (Operand.tmp 21) (Operand.tmp 24) 5, type := 4, pos := "ref.go:104", after := #[{ on := 6, ground := Ground.data }, { on := 9, ground := Ground.data }, { on := 2, ground := Ground.guard }], guard := some (2, true) }) (v := undef) rfl (by kernel_rfl) (by kernel_rfl) (by kernel_rfl) (fun _ _ _ h => h) (Or.inr ⟨by kernel_rfl, rfl⟩) (by assumption) ?r10g4911
          (try simp only [Act.put]); (try simp only [List.setIfInBounds_toArray]); (try simp only [List.set_cons_succ]); (try simp only [List.set_cons_zero])
          refine wpAnyH_take (i := 11) (oi := { dst := some 26, op := Op.pick (Operand.tmp 17) (Operand.tmp 25) (Operand.const (Value.bool false)), type := 4, pos := "ref.go:104", after := #[{ on := 2, ground := Ground.data }, { on := 10, ground := Ground.data }], guard := none }) (v := ?v11g4912) rfl (by kernel_rfl) (by kernel_rfl) (by kernel_rfl) (fun _ _ _ h => h) (Or.inl ⟨by rfl, ?y11g4912⟩) (by assumption) ?r11g4912
          case y11g4912 => (intro w hSw; obtain s1 := hSw; go_simp; (try with_reducible rfl))
          (try simp only [Act.put]); (try simp only [List.setIfInBounds_toArray]); (try simp only [List.set_cons_succ]); (try simp only [List.set_cons_zero])
          refine wpAnyH_take (i := 12) (oi := { dst := some 27, op := Op.move (Operand.tmp 26), type := 4, pos := "ref.go:104", after := #[{ on := 11, ground := Ground.data }, { on := 2, ground := Ground.chain }], guard := none }) (v := ?v12g4913) rfl (by kernel_rfl) (by kernel_rfl) (by kernel_rfl) (fun _ _ _ h => h) (Or.inl ⟨by rfl, ?y12g4913⟩) (by assumption) ?r12g4913
          case y12g4913 => (intro w hSw; obtain s1 := hSw; go_simp; (try with_reducible rfl))
          (try simp only [Act.put]); (try simp only [List.setIfInBounds_toArray]); (try simp only [List.set_cons_succ]); (try simp only [List.set_cons_zero])
          refine wpAnyH_take (i := 13) (oi := { dst := some 28, op := Op.move (Operand.tmp 4), type := 3, pos := "ref.go:104", after := #[{ on := 12, ground := Ground.guard }], guard := some (12, false) }) (v := ?v13g4914) rfl (by kernel_rfl) (by kernel_rfl) (by kernel_rfl) (fun _ _ _ h => h) (Or.inl ⟨by rfl, ?y13g4914⟩) (by assumption) ?r13g4914
          case y13g4914 => (intro w hSw; obtain s1 := hSw; go_simp; (try with_reducible rfl))
          (try simp only [Act.put]); (try simp only [List.setIfInBounds_toArray]); (try simp only [List.set_cons_succ]); (try simp only [List.set_cons_zero])
          refine wpAnyH_take (i := 14) (oi := { dst := some 29, op := Op.binOp BinOp.eql 3 (Operand.tmp 28) (Operand.const (Value.int IntKind.i64 3)) 3, type := 4, pos := "ref.go:104", after := #[{ on := 13, ground := Ground.data }, { on := 12, ground := Ground.guard }], guard := some (12, false) }) (v := ?v14g4915) rfl (by kernel_rfl) (by kernel_rfl) (by kernel_rfl) (fun _ _ _ h => h) (Or.inl ⟨by rfl, ?y14g4915⟩) (by assumption) ?r14g4915
          case y14g4915 => (intro w hSw; obtain s1 := hSw; go_simp; (try with_reducible rfl))
          (try simp only [Act.put]); (try simp only [List.setIfInBounds_toArray]); (try simp only [List.set_cons_succ]); (try simp only [List.set_cons_zero])
          refine wpAnyH_take (i := 15) (oi := { dst := some 30, op := Op.move (Operand.tmp 29), type := 4, pos := "ref.go:104", after := #[{ on := 14, ground := Ground.data }, { on := 12, ground := Ground.chain }, { on := 12, ground := Ground.guard }], guard := some (12, false) }) (v := ?v15g4916) rfl (by kernel_rfl) (by kernel_rfl) (by kernel_rfl) (fun _ _ _ h => h) (Or.inl ⟨by rfl, ?y15g4916⟩) (by assumption) ?r15g4916
          case y15g4916 => (intro w hSw; obtain s1 := hSw; go_simp; (try with_reducible rfl))
          (try simp only [Act.put]); (try simp only [List.setIfInBounds_toArray]); (try simp only [List.set_cons_succ]); (try simp only [List.set_cons_zero])
          refine wpAnyH_take (i := 16) (oi := { dst := some 31, op := Op.move (Operand.tmp 0), type := 22, pos := "ref.go:104", after := #[{ on := 15, ground := Ground.guard }], guard := some (15, true) }) (v := ?v16g4917) rfl (by kernel_rfl) (by kernel_rfl) (by kernel_rfl) (fun _ _ _ h => h) (Or.inl ⟨by rfl, ?y16g4917⟩) (by assumption) ?r16g4917
          case y16g4917 => (intro w hSw; obtain s1 := hSw; go_simp; (try with_reducible rfl))
          (try simp only [Act.put]); (try simp only [List.setIfInBounds_toArray]); (try simp only [List.set_cons_succ]); (try simp only [List.set_cons_zero])
          refine wpAnyH_take (i := 17) (oi := { dst := some 32, op := Op.move (Operand.tmp 4), type := 3, pos := "ref.go:104", after := #[{ on := 15, ground := Ground.guard }], guard := some (15, true) }) (v := ?v17g4918) rfl (by kernel_rfl) (by kernel_rfl) (by kernel_rfl) (fun _ _ _ h => h) (Or.inl ⟨by rfl, ?y17g4918⟩) (by assumption) ?r17g4918
          case y17g4918 => (intro w hSw; obtain s1 := hSw; go_simp; (try with_reducible rfl))
          (try simp only [Act.put]); (try simp only [List.setIfInBounds_toArray]); (try simp only [List.set_cons_succ]); (try simp only [List.set_cons_zero])
          refine wpAnyH_take (i := 18) (oi := { dst := some 33, op := Op.indexAddr 22 (Operand.tmp 31) (Operand.tmp 32), type := 0, pos := "ref.go:104", after := #[{ on := 16, ground := Ground.data }, { on := 17, ground := Ground.data }, { on := 15, ground := Ground.guard }], guard := some (15, true) }) (v := ?v18g4919) rfl (by kernel_rfl) (by kernel_rfl) (by kernel_rfl) (fun _ _ _ h => h) (Or.inl ⟨by rfl, ?y18g4919⟩) (by assumption) ?r18g4919
          case y18g4919 => (intro w hSw; obtain s1 := hSw; go_simp; (try with_reducible rfl))
          (try simp only [Act.put]); (try simp only [List.setIfInBounds_toArray]); (try simp only [List.set_cons_succ]); (try simp only [List.set_cons_zero])
          refine wpAnyH_take (i := 19) (oi := { dst := some 34, op := Op.load 5 (Operand.tmp 33), type := 5, pos := "ref.go:104", after := #[{ on := 18, ground := Ground.data }, { on := 15, ground := Ground.guard }], guard := some (15, true) }) (v := ?v19g4920) rfl (by kernel_rfl) (by kernel_rfl) (by kernel_rfl) (fun _ _ _ h => h) (Or.inl ⟨by rfl, ?y19g4920⟩) (by assumption) ?r19g4920
          case y19g4920 => (intro w hSw; obtain s1 := hSw; go_simp; (try with_reducible rfl))
          (try simp only [Act.put]); (try simp only [List.setIfInBounds_toArray]); (try simp only [List.set_cons_succ]); (try simp only [List.set_cons_zero])
          refine wpAnyH_take (i := 20) (oi := { dst := some 35, op := Op.binOp BinOp.neq 5 (Operand.tmp 34) (Operand.const (Value.int IntKind.u8 48)) 5, type := 4, pos := "ref.go:104", after := #[{ on := 19, ground := Ground.data }, { on := 15, ground := Ground.guard }], guard := some (15, true) }) (v := ?v20g4921) rfl (by kernel_rfl) (by kernel_rfl) (by kernel_rfl) (fun _ _ _ h => h) (Or.inl ⟨by rfl, ?y20g4921⟩) (by assumption) ?r20g4921
          case y20g4921 => (intro w hSw; obtain s1 := hSw; go_simp; (try with_reducible rfl))
          (try simp only [Act.put]); (try simp only [List.setIfInBounds_toArray]); (try simp only [List.set_cons_succ]); (try simp only [List.set_cons_zero])
          refine wpAnyH_take (i := 21) (oi := { dst := some 36, op := Op.pick (Operand.tmp 30) (Operand.tmp 35) (Operand.const (Value.bool false)), type := 4, pos := "ref.go:104", after := #[{ on := 15, ground := Ground.data }, { on := 20, ground := Ground.data }, { on := 12, ground := Ground.guard }], guard := some (12, false) }) (v := ?v21g4922) rfl (by kernel_rfl) (by kernel_rfl) (by kernel_rfl) (fun _ _ _ h => h) (Or.inl ⟨by rfl, ?y21g4922⟩) (by assumption) ?r21g4922
          case y21g4922 => (intro w hSw; obtain s1 := hSw; go_simp; (try with_reducible rfl))
          (try simp only [Act.put]); (try simp only [List.setIfInBounds_toArray]); (try simp only [List.set_cons_succ]); (try simp only [List.set_cons_zero])
          refine wpAnyH_take (i := 22) (oi := { dst := some 37, op := Op.move (Operand.tmp 36), type := 4, pos := "ref.go:104", after := #[{ on := 21, ground := Ground.data }, { on := 15, ground := Ground.chain }, { on := 12, ground := Ground.guard }], guard := some (12, false) }) (v := ?v22g4923) rfl (by kernel_rfl) (by kernel_rfl) (by kernel_rfl) (fun _ _ _ h => h) (Or.inl ⟨by rfl, ?y22g4923⟩) (by assumption) ?r22g4923
          case y22g4923 => (intro w hSw; obtain s1 := hSw; go_simp; (try with_reducible rfl))
          (try simp only [Act.put]); (try simp only [List.setIfInBounds_toArray]); (try simp only [List.set_cons_succ]); (try simp only [List.set_cons_zero])
          refine wpAnyH_take (i := 23) (oi := { dst := some 38, op := Op.move (Operand.tmp 0), type := 22, pos := "ref.go:104", after := #[{ on := 22, ground := Ground.guard }], guard := some (22, true) }) (v := ?v23g4924) rfl (by kernel_rfl) (by kernel_rfl) (by kernel_rfl) (fun _ _ _ h => h) (Or.inl ⟨by rfl, ?y23g4924⟩) (by assumption) ?r23g4924
          case y23g4924 => (intro w hSw; obtain s1 := hSw; go_simp; (try with_reducible rfl))
          (try simp only [Act.put]); (try simp only [List.setIfInBounds_toArray]); (try simp only [List.set_cons_succ]); (try simp only [List.set_cons_zero])
          refine wpAnyH_take (i := 24) (oi := { dst := some 39, op := Op.move (Operand.tmp 4), type := 3, pos := "ref.go:104", after := #[{ on := 22, ground := Ground.guard }], guard := some (22, true) }) (v := ?v24g4925) rfl (by kernel_rfl) (by kernel_rfl) (by kernel_rfl) (fun _ _ _ h => h) (Or.inl ⟨by rfl, ?y24g4925⟩) (by assumption) ?r24g4925
          case y24g4925 => (intro w hSw; obtain s1 := hSw; go_simp; (try with_reducible rfl))
          (try simp only [Act.put]); (try simp only [List.setIfInBounds_toArray]); (try simp only [List.set_cons_succ]); (try simp only [List.set_cons_zero])
          refine wpAnyH_take (i := 25) (oi := { dst := some 40, op := Op.indexAddr 22 (Operand.tmp 38) (Operand.tmp 39), type := 0, pos := "ref.go:104", after := #[{ on := 23, ground := Ground.data }, { on := 24, ground := Ground.data }, { on := 22, ground := Ground.guard }], guard := some (22, true) }) (v := ?v25g4926) rfl (by kernel_rfl) (by kernel_rfl) (by kernel_rfl) (fun _ _ _ h => h) (Or.inl ⟨by rfl, ?y25g4926⟩) (by assumption) ?r25g4926
          case y25g4926 => (intro w hSw; obtain s1 := hSw; go_simp; (try with_reducible rfl))
          (try simp only [Act.put]); (try simp only [List.setIfInBounds_toArray]); (try simp only [List.set_cons_succ]); (try simp only [List.set_cons_zero])
          refine wpAnyH_take (i := 26) (oi := { dst := some 41, op := Op.load 5 (Operand.tmp 40), type := 5, pos := "ref.go:104", after := #[{ on := 25, ground := Ground.data }, { on := 22, ground := Ground.guard }], guard := some (22, true) }) (v := ?v26g4927) rfl (by kernel_rfl) (by kernel_rfl) (by kernel_rfl) (fun _ _ _ h => h) (Or.inl ⟨by rfl, ?y26g4927⟩) (by assumption) ?r26g4927
          case y26g4927 => (intro w hSw; obtain s1 := hSw; go_simp; (try with_reducible rfl))
          (try simp only [Act.put]); (try simp only [List.setIfInBounds_toArray]); (try simp only [List.set_cons_succ]); (try simp only [List.set_cons_zero])
          refine wpAnyH_take (i := 27) (oi := { dst := some 42, op := Op.binOp BinOp.neq 5 (Operand.tmp 41) (Operand.const (Value.int IntKind.u8 49)) 5, type := 4, pos := "ref.go:104", after := #[{ on := 26, ground := Ground.data }, { on := 22, ground := Ground.guard }], guard := some (22, true) }) (v := ?v27g4928) rfl (by kernel_rfl) (by kernel_rfl) (by kernel_rfl) (fun _ _ _ h => h) (Or.inl ⟨by rfl, ?y27g4928⟩) (by assumption) ?r27g4928
          case y27g4928 => (intro w hSw; obtain s1 := hSw; go_simp; (try with_reducible rfl))
          (try simp only [Act.put]); (try simp only [List.setIfInBounds_toArray]); (try simp only [List.set_cons_succ]); (try simp only [List.set_cons_zero])
          refine wpAnyH_take (i := 28) (oi := { dst := some 43, op := Op.pick (Operand.tmp 37) (Operand.tmp 42) (Operand.const (Value.bool false)), type := 4, pos := "ref.go:104", after := #[{ on := 22, ground := Ground.data }, { on := 27, ground := Ground.data }, { on := 12, ground := Ground.guard }], guard := some (12, false) }) (v := ?v28g4929) rfl (by kernel_rfl) (by kernel_rfl) (by kernel_rfl) (fun _ _ _ h => h) (Or.inl ⟨by rfl, ?y28g4929⟩) (by assumption) ?r28g4929
          case y28g4929 => (intro w hSw; obtain s1 := hSw; go_simp; (try with_reducible rfl))
          (try simp only [Act.put]); (try simp only [List.setIfInBounds_toArray]); (try simp only [List.set_cons_succ]); (try simp only [List.set_cons_zero])
          refine wpAnyH_take (i := 29) (oi := { dst := some 44, op := Op.pick (Operand.tmp 27) (Operand.const (Value.bool true)) (Operand.tmp 43), type := 4, pos := "ref.go:104", after := #[{ on := 12, ground := Ground.data }, { on := 28, ground := Ground.data }], guard := none }) (v := ?v29g4930) rfl (by kernel_rfl) (by kernel_rfl) (by kernel_rfl) (fun _ _ _ h => h) (Or.inl ⟨by rfl, ?y29g4930⟩) (by assumption) ?r29g4930
          case y29g4930 => (intro w hSw; obtain s1 := hSw; go_simp; (try with_reducible rfl))
          (try simp only [Act.put]); (try simp only [List.setIfInBounds_toArray]); (try simp only [List.set_cons_succ]); (try simp only [List.set_cons_zero])
          refine wpAnyH_done (by kernel_rfl) ?_ _
          clear hHeld
          go_wp2_with fail
          go_roundw
          case rel => exact ⟨4, by omega, by omega, by simp, HE.out, HG.out.drewN _⟩
          case measure => simp [intOf]
      · have dI : ¬ (x.toNat : Int) = 48 := fun q => d (.inl (UInt8.toNat_inj.1 (by show x.toNat = 48; omega)))
        have dJ : ¬ (x.toNat : Int) = 49 := fun q => d (.inr (UInt8.toNat_inj.1 (by show x.toNat = 49; omega)))
        have HE := hidM (HNo.out (by simpa [okAt] using d))
        obtain ⟨z, hz⟩ : ∃ z : Int, z = (x.toNat : Int) := ⟨_, rfl⟩
        rw [← hz] at t dI dJ
        have HIN := hidM t
        clear HGo HNo d hxb hz t
        go_wp2_with fail
        refine wp_region_held_drew (S := fun w' => w'.cell? ⟨B, o + 3, none⟩ = some (.int .u8 z)) (by kernel_rfl) (HIN.out) (fun hHeld => ?_)
        refine wpAnyH_take (i := 0) (oi := { dst := some 15, op := Op.move (Operand.tmp 4), type := 3, pos := "ref.go:104", after := #[], guard := none }) (v := ?v0b31) rfl (by kernel_rfl) (by kernel_rfl) (by kernel_rfl) (fun _ _ _ h => h) (Or.inl ⟨by rfl, ?y0b31⟩) (by assumption) ?r0b31
        case y0b31 => (intro w hSw; obtain s1 := hSw; go_simp; (try with_reducible rfl))
        (try simp only [Act.put]); (try simp only [List.setIfInBounds_toArray]); (try simp only [List.set_cons_succ]); (try simp only [List.set_cons_zero])
        refine wpAnyH_take (i := 1) (oi := { dst := some 16, op := Op.binOp BinOp.lss 3 (Operand.tmp 15) (Operand.const (Value.int IntKind.i64 3)) 3, type := 4, pos := "ref.go:104", after := #[{ on := 0, ground := Ground.data }], guard := none }) (v := ?v1b32) rfl (by kernel_rfl) (by kernel_rfl) (by kernel_rfl) (fun _ _ _ h => h) (Or.inl ⟨by rfl, ?y1b32⟩) (by assumption) ?r1b32
        case y1b32 => (intro w hSw; obtain s1 := hSw; go_simp; (try with_reducible rfl))
        (try simp only [Act.put]); (try simp only [List.setIfInBounds_toArray]); (try simp only [List.set_cons_succ]); (try simp only [List.set_cons_zero])
        refine wpAnyH_take (i := 2) (oi := { dst := some 17, op := Op.move (Operand.tmp 16), type := 4, pos := "ref.go:104", after := #[{ on := 1, ground := Ground.data }], guard := none }) (v := ?v2b33) rfl (by kernel_rfl) (by kernel_rfl) (by kernel_rfl) (fun _ _ _ h => h) (Or.inl ⟨by rfl, ?y2b33⟩) (by assumption) ?r2b33
        case y2b33 => (intro w hSw; obtain s1 := hSw; go_simp; (try with_reducible rfl))
        (try simp only [Act.put]); (try simp only [List.setIfInBounds_toArray]); (try simp only [List.set_cons_succ]); (try simp only [List.set_cons_zero])
        refine wpAnyH_take (i := 3) (oi := { dst := some 18, op := Op.move (Operand.tmp 0), type := 22, pos := "ref.go:104", after := #[{ on := 2, ground := Ground.guard }], guard := some (2, true) }) (v := undef) rfl (by kernel_rfl) (by kernel_rfl) (by kernel_rfl) (fun _ _ _ h => h) (Or.inr ⟨by kernel_rfl, rfl⟩) (by assumption) ?r3b34
        (try simp only [Act.put]); (try simp only [List.setIfInBounds_toArray]); (try simp only [List.set_cons_succ]); (try simp only [List.set_cons_zero])
        refine wpAnyH_take (i := 4) (oi := { dst := some 19, op := Op.move (Operand.tmp 4), type := 3, pos := "ref.go:104", after := #[{ on := 2, ground := Ground.guard }], guard := some (2, true) }) (v := undef) rfl (by kernel_rfl) (by kernel_rfl) (by kernel_rfl) (fun _ _ _ h => h) (Or.inr ⟨by kernel_rfl, rfl⟩) (by assumption) ?r4b35
        (try simp only [Act.put]); (try simp only [List.setIfInBounds_toArray]); (try simp only [List.set_cons_succ]); (try simp only [List.set_cons_zero])
        refine wpAnyH_take (i := 5) (oi := { dst := some 20, op := Op.indexAddr 22 (Operand.tmp 18) (Operand.tmp 19), type := 0, pos := "ref.go:104", after := #[{ on := 3, ground := Ground.data }, { on := 4, ground := Ground.data }, { on := 2, ground := Ground.guard }], guard := some (2, true) }) (v := undef) rfl (by kernel_rfl) (by kernel_rfl) (by kernel_rfl) (fun _ _ _ h => h) (Or.inr ⟨by kernel_rfl, rfl⟩) (by assumption) ?r5b36
        (try simp only [Act.put]); (try simp only [List.setIfInBounds_toArray]); (try simp only [List.set_cons_succ]); (try simp only [List.set_cons_zero])
        refine wpAnyH_take (i := 6) (oi := { dst := some 21, op := Op.load 5 (Operand.tmp 20), type := 5, pos := "ref.go:104", after := #[{ on := 5, ground := Ground.data }, { on := 2, ground := Ground.guard }], guard := some (2, true) }) (v := undef) rfl (by kernel_rfl) (by kernel_rfl) (by kernel_rfl) (fun _ _ _ h => h) (Or.inr ⟨by kernel_rfl, rfl⟩) (by assumption) ?r6b37
        (try simp only [Act.put]); (try simp only [List.setIfInBounds_toArray]); (try simp only [List.set_cons_succ]); (try simp only [List.set_cons_zero])
        refine wpAnyH_take (i := 7) (oi := { dst := some 22, op := Op.move (Operand.tmp 3), type := 9, pos := "ref.go:104", after := #[{ on := 2, ground := Ground.guard }], guard := some (2, true) }) (v := undef) rfl (by kernel_rfl) (by kernel_rfl) (by kernel_rfl) (fun _ _ _ h => h) (Or.inr ⟨by kernel_rfl, rfl⟩) (by assumption) ?r7b38
        (try simp only [Act.put]); (try simp only [List.setIfInBounds_toArray]); (try simp only [List.set_cons_succ]); (try simp only [List.set_cons_zero])
        refine wpAnyH_take (i := 8) (oi := { dst := some 23, op := Op.move (Operand.tmp 4), type := 3, pos := "ref.go:104", after := #[{ on := 2, ground := Ground.guard }], guard := some (2, true) }) (v := undef) rfl (by kernel_rfl) (by kernel_rfl) (by kernel_rfl) (fun _ _ _ h => h) (Or.inr ⟨by kernel_rfl, rfl⟩) (by assumption) ?r8b39
        (try simp only [Act.put]); (try simp only [List.setIfInBounds_toArray]); (try simp only [List.set_cons_succ]); (try simp only [List.set_cons_zero])
        refine wpAnyH_take (i := 9) (oi := { dst := some 24, op := Op.index 9 (Operand.tmp 22) (Operand.tmp 23), type := 5, pos := "ref.go:104", after := #[{ on := 7, ground := Ground.data }, { on := 8, ground := Ground.data }, { on := 2, ground := Ground.guard }], guard := some (2, true) }) (v := undef) rfl (by kernel_rfl) (by kernel_rfl) (by kernel_rfl) (fun _ _ _ h => h) (Or.inr ⟨by kernel_rfl, rfl⟩) (by assumption) ?r9b310
        (try simp only [Act.put]); (try simp only [List.setIfInBounds_toArray]); (try simp only [List.set_cons_succ]); (try simp only [List.set_cons_zero])
        refine wpAnyH_take (i := 10) (oi := { dst := some 25, op := Op.binOp BinOp.neq 5 (Operand.tmp 21) (Operand.tmp 24) 5, type := 4, pos := "ref.go:104", after := #[{ on := 6, ground := Ground.data }, { on := 9, ground := Ground.data }, { on := 2, ground := Ground.guard }], guard := some (2, true) }) (v := undef) rfl (by kernel_rfl) (by kernel_rfl) (by kernel_rfl) (fun _ _ _ h => h) (Or.inr ⟨by kernel_rfl, rfl⟩) (by assumption) ?r10b311
        (try simp only [Act.put]); (try simp only [List.setIfInBounds_toArray]); (try simp only [List.set_cons_succ]); (try simp only [List.set_cons_zero])
        refine wpAnyH_take (i := 11) (oi := { dst := some 26, op := Op.pick (Operand.tmp 17) (Operand.tmp 25) (Operand.const (Value.bool false)), type := 4, pos := "ref.go:104", after := #[{ on := 2, ground := Ground.data }, { on := 10, ground := Ground.data }], guard := none }) (v := ?v11b312) rfl (by kernel_rfl) (by kernel_rfl) (by kernel_rfl) (fun _ _ _ h => h) (Or.inl ⟨by rfl, ?y11b312⟩) (by assumption) ?r11b312
        case y11b312 => (intro w hSw; obtain s1 := hSw; go_simp; (try with_reducible rfl))
        (try simp only [Act.put]); (try simp only [List.setIfInBounds_toArray]); (try simp only [List.set_cons_succ]); (try simp only [List.set_cons_zero])
        refine wpAnyH_take (i := 12) (oi := { dst := some 27, op := Op.move (Operand.tmp 26), type := 4, pos := "ref.go:104", after := #[{ on := 11, ground := Ground.data }, { on := 2, ground := Ground.chain }], guard := none }) (v := ?v12b313) rfl (by kernel_rfl) (by kernel_rfl) (by kernel_rfl) (fun _ _ _ h => h) (Or.inl ⟨by rfl, ?y12b313⟩) (by assumption) ?r12b313
        case y12b313 => (intro w hSw; obtain s1 := hSw; go_simp; (try with_reducible rfl))
        (try simp only [Act.put]); (try simp only [List.setIfInBounds_toArray]); (try simp only [List.set_cons_succ]); (try simp only [List.set_cons_zero])
        refine wpAnyH_take (i := 13) (oi := { dst := some 28, op := Op.move (Operand.tmp 4), type := 3, pos := "ref.go:104", after := #[{ on := 12, ground := Ground.guard }], guard := some (12, false) }) (v := ?v13b314) rfl (by kernel_rfl) (by kernel_rfl) (by kernel_rfl) (fun _ _ _ h => h) (Or.inl ⟨by rfl, ?y13b314⟩) (by assumption) ?r13b314
        case y13b314 => (intro w hSw; obtain s1 := hSw; go_simp; (try with_reducible rfl))
        (try simp only [Act.put]); (try simp only [List.setIfInBounds_toArray]); (try simp only [List.set_cons_succ]); (try simp only [List.set_cons_zero])
        refine wpAnyH_take (i := 14) (oi := { dst := some 29, op := Op.binOp BinOp.eql 3 (Operand.tmp 28) (Operand.const (Value.int IntKind.i64 3)) 3, type := 4, pos := "ref.go:104", after := #[{ on := 13, ground := Ground.data }, { on := 12, ground := Ground.guard }], guard := some (12, false) }) (v := ?v14b315) rfl (by kernel_rfl) (by kernel_rfl) (by kernel_rfl) (fun _ _ _ h => h) (Or.inl ⟨by rfl, ?y14b315⟩) (by assumption) ?r14b315
        case y14b315 => (intro w hSw; obtain s1 := hSw; go_simp; (try with_reducible rfl))
        (try simp only [Act.put]); (try simp only [List.setIfInBounds_toArray]); (try simp only [List.set_cons_succ]); (try simp only [List.set_cons_zero])
        refine wpAnyH_take (i := 15) (oi := { dst := some 30, op := Op.move (Operand.tmp 29), type := 4, pos := "ref.go:104", after := #[{ on := 14, ground := Ground.data }, { on := 12, ground := Ground.chain }, { on := 12, ground := Ground.guard }], guard := some (12, false) }) (v := ?v15b316) rfl (by kernel_rfl) (by kernel_rfl) (by kernel_rfl) (fun _ _ _ h => h) (Or.inl ⟨by rfl, ?y15b316⟩) (by assumption) ?r15b316
        case y15b316 => (intro w hSw; obtain s1 := hSw; go_simp; (try with_reducible rfl))
        (try simp only [Act.put]); (try simp only [List.setIfInBounds_toArray]); (try simp only [List.set_cons_succ]); (try simp only [List.set_cons_zero])
        refine wpAnyH_take (i := 16) (oi := { dst := some 31, op := Op.move (Operand.tmp 0), type := 22, pos := "ref.go:104", after := #[{ on := 15, ground := Ground.guard }], guard := some (15, true) }) (v := ?v16b317) rfl (by kernel_rfl) (by kernel_rfl) (by kernel_rfl) (fun _ _ _ h => h) (Or.inl ⟨by rfl, ?y16b317⟩) (by assumption) ?r16b317
        case y16b317 => (intro w hSw; obtain s1 := hSw; go_simp; (try with_reducible rfl))
        (try simp only [Act.put]); (try simp only [List.setIfInBounds_toArray]); (try simp only [List.set_cons_succ]); (try simp only [List.set_cons_zero])
        refine wpAnyH_take (i := 17) (oi := { dst := some 32, op := Op.move (Operand.tmp 4), type := 3, pos := "ref.go:104", after := #[{ on := 15, ground := Ground.guard }], guard := some (15, true) }) (v := ?v17b318) rfl (by kernel_rfl) (by kernel_rfl) (by kernel_rfl) (fun _ _ _ h => h) (Or.inl ⟨by rfl, ?y17b318⟩) (by assumption) ?r17b318
        case y17b318 => (intro w hSw; obtain s1 := hSw; go_simp; (try with_reducible rfl))
        (try simp only [Act.put]); (try simp only [List.setIfInBounds_toArray]); (try simp only [List.set_cons_succ]); (try simp only [List.set_cons_zero])
        refine wpAnyH_take (i := 18) (oi := { dst := some 33, op := Op.indexAddr 22 (Operand.tmp 31) (Operand.tmp 32), type := 0, pos := "ref.go:104", after := #[{ on := 16, ground := Ground.data }, { on := 17, ground := Ground.data }, { on := 15, ground := Ground.guard }], guard := some (15, true) }) (v := ?v18b319) rfl (by kernel_rfl) (by kernel_rfl) (by kernel_rfl) (fun _ _ _ h => h) (Or.inl ⟨by rfl, ?y18b319⟩) (by assumption) ?r18b319
        case y18b319 => (intro w hSw; obtain s1 := hSw; go_simp; (try with_reducible rfl))
        (try simp only [Act.put]); (try simp only [List.setIfInBounds_toArray]); (try simp only [List.set_cons_succ]); (try simp only [List.set_cons_zero])
        refine wpAnyH_take (i := 19) (oi := { dst := some 34, op := Op.load 5 (Operand.tmp 33), type := 5, pos := "ref.go:104", after := #[{ on := 18, ground := Ground.data }, { on := 15, ground := Ground.guard }], guard := some (15, true) }) (v := ?v19b320) rfl (by kernel_rfl) (by kernel_rfl) (by kernel_rfl) (fun _ _ _ h => h) (Or.inl ⟨by rfl, ?y19b320⟩) (by assumption) ?r19b320
        case y19b320 => (intro w hSw; obtain s1 := hSw; go_simp; (try with_reducible rfl))
        (try simp only [Act.put]); (try simp only [List.setIfInBounds_toArray]); (try simp only [List.set_cons_succ]); (try simp only [List.set_cons_zero])
        refine wpAnyH_take (i := 20) (oi := { dst := some 35, op := Op.binOp BinOp.neq 5 (Operand.tmp 34) (Operand.const (Value.int IntKind.u8 48)) 5, type := 4, pos := "ref.go:104", after := #[{ on := 19, ground := Ground.data }, { on := 15, ground := Ground.guard }], guard := some (15, true) }) (v := .bool true) rfl (by kernel_rfl) (by kernel_rfl) (by kernel_rfl) (fun _ _ _ h => h) (Or.inl ⟨by rfl, ?y20b321⟩) (by assumption) ?r20b321
        case y20b321 => (intro w hSw; obtain s1 := hSw; go_simp; first | done | (simp [dI]; done) | (with_reducible rfl) | (exact dI))
        (try simp only [Act.put]); (try simp only [List.setIfInBounds_toArray]); (try simp only [List.set_cons_succ]); (try simp only [List.set_cons_zero])
        refine wpAnyH_take (i := 21) (oi := { dst := some 36, op := Op.pick (Operand.tmp 30) (Operand.tmp 35) (Operand.const (Value.bool false)), type := 4, pos := "ref.go:104", after := #[{ on := 15, ground := Ground.data }, { on := 20, ground := Ground.data }, { on := 12, ground := Ground.guard }], guard := some (12, false) }) (v := ?v21b322) rfl (by kernel_rfl) (by kernel_rfl) (by kernel_rfl) (fun _ _ _ h => h) (Or.inl ⟨by rfl, ?y21b322⟩) (by assumption) ?r21b322
        case y21b322 => (intro w hSw; obtain s1 := hSw; go_simp; (try with_reducible rfl))
        (try simp only [Act.put]); (try simp only [List.setIfInBounds_toArray]); (try simp only [List.set_cons_succ]); (try simp only [List.set_cons_zero])
        refine wpAnyH_take (i := 22) (oi := { dst := some 37, op := Op.move (Operand.tmp 36), type := 4, pos := "ref.go:104", after := #[{ on := 21, ground := Ground.data }, { on := 15, ground := Ground.chain }, { on := 12, ground := Ground.guard }], guard := some (12, false) }) (v := ?v22b323) rfl (by kernel_rfl) (by kernel_rfl) (by kernel_rfl) (fun _ _ _ h => h) (Or.inl ⟨by rfl, ?y22b323⟩) (by assumption) ?r22b323
        case y22b323 => (intro w hSw; obtain s1 := hSw; go_simp; (try with_reducible rfl))
        (try simp only [Act.put]); (try simp only [List.setIfInBounds_toArray]); (try simp only [List.set_cons_succ]); (try simp only [List.set_cons_zero])
        refine wpAnyH_take (i := 23) (oi := { dst := some 38, op := Op.move (Operand.tmp 0), type := 22, pos := "ref.go:104", after := #[{ on := 22, ground := Ground.guard }], guard := some (22, true) }) (v := ?v23b324) rfl (by kernel_rfl) (by kernel_rfl) (by kernel_rfl) (fun _ _ _ h => h) (Or.inl ⟨by rfl, ?y23b324⟩) (by assumption) ?r23b324
        case y23b324 => (intro w hSw; obtain s1 := hSw; go_simp; (try with_reducible rfl))
        (try simp only [Act.put]); (try simp only [List.setIfInBounds_toArray]); (try simp only [List.set_cons_succ]); (try simp only [List.set_cons_zero])
        refine wpAnyH_take (i := 24) (oi := { dst := some 39, op := Op.move (Operand.tmp 4), type := 3, pos := "ref.go:104", after := #[{ on := 22, ground := Ground.guard }], guard := some (22, true) }) (v := ?v24b325) rfl (by kernel_rfl) (by kernel_rfl) (by kernel_rfl) (fun _ _ _ h => h) (Or.inl ⟨by rfl, ?y24b325⟩) (by assumption) ?r24b325
        case y24b325 => (intro w hSw; obtain s1 := hSw; go_simp; (try with_reducible rfl))
        (try simp only [Act.put]); (try simp only [List.setIfInBounds_toArray]); (try simp only [List.set_cons_succ]); (try simp only [List.set_cons_zero])
        refine wpAnyH_take (i := 25) (oi := { dst := some 40, op := Op.indexAddr 22 (Operand.tmp 38) (Operand.tmp 39), type := 0, pos := "ref.go:104", after := #[{ on := 23, ground := Ground.data }, { on := 24, ground := Ground.data }, { on := 22, ground := Ground.guard }], guard := some (22, true) }) (v := ?v25b326) rfl (by kernel_rfl) (by kernel_rfl) (by kernel_rfl) (fun _ _ _ h => h) (Or.inl ⟨by rfl, ?y25b326⟩) (by assumption) ?r25b326
        case y25b326 => (intro w hSw; obtain s1 := hSw; go_simp; (try with_reducible rfl))
        (try simp only [Act.put]); (try simp only [List.setIfInBounds_toArray]); (try simp only [List.set_cons_succ]); (try simp only [List.set_cons_zero])
        refine wpAnyH_take (i := 26) (oi := { dst := some 41, op := Op.load 5 (Operand.tmp 40), type := 5, pos := "ref.go:104", after := #[{ on := 25, ground := Ground.data }, { on := 22, ground := Ground.guard }], guard := some (22, true) }) (v := ?v26b327) rfl (by kernel_rfl) (by kernel_rfl) (by kernel_rfl) (fun _ _ _ h => h) (Or.inl ⟨by rfl, ?y26b327⟩) (by assumption) ?r26b327
        case y26b327 => (intro w hSw; obtain s1 := hSw; go_simp; (try with_reducible rfl))
        (try simp only [Act.put]); (try simp only [List.setIfInBounds_toArray]); (try simp only [List.set_cons_succ]); (try simp only [List.set_cons_zero])
        refine wpAnyH_take (i := 27) (oi := { dst := some 42, op := Op.binOp BinOp.neq 5 (Operand.tmp 41) (Operand.const (Value.int IntKind.u8 49)) 5, type := 4, pos := "ref.go:104", after := #[{ on := 26, ground := Ground.data }, { on := 22, ground := Ground.guard }], guard := some (22, true) }) (v := .bool true) rfl (by kernel_rfl) (by kernel_rfl) (by kernel_rfl) (fun _ _ _ h => h) (Or.inl ⟨by rfl, ?y27b328⟩) (by assumption) ?r27b328
        case y27b328 => (intro w hSw; obtain s1 := hSw; go_simp; first | done | (simp [dJ]; done) | (with_reducible rfl) | (exact dJ))
        (try simp only [Act.put]); (try simp only [List.setIfInBounds_toArray]); (try simp only [List.set_cons_succ]); (try simp only [List.set_cons_zero])
        refine wpAnyH_take (i := 28) (oi := { dst := some 43, op := Op.pick (Operand.tmp 37) (Operand.tmp 42) (Operand.const (Value.bool false)), type := 4, pos := "ref.go:104", after := #[{ on := 22, ground := Ground.data }, { on := 27, ground := Ground.data }, { on := 12, ground := Ground.guard }], guard := some (12, false) }) (v := ?v28b329) rfl (by kernel_rfl) (by kernel_rfl) (by kernel_rfl) (fun _ _ _ h => h) (Or.inl ⟨by rfl, ?y28b329⟩) (by assumption) ?r28b329
        case y28b329 => (intro w hSw; obtain s1 := hSw; go_simp; (try with_reducible rfl))
        (try simp only [Act.put]); (try simp only [List.setIfInBounds_toArray]); (try simp only [List.set_cons_succ]); (try simp only [List.set_cons_zero])
        refine wpAnyH_take (i := 29) (oi := { dst := some 44, op := Op.pick (Operand.tmp 27) (Operand.const (Value.bool true)) (Operand.tmp 43), type := 4, pos := "ref.go:104", after := #[{ on := 12, ground := Ground.data }, { on := 28, ground := Ground.data }], guard := none }) (v := ?v29b330) rfl (by kernel_rfl) (by kernel_rfl) (by kernel_rfl) (fun _ _ _ h => h) (Or.inl ⟨by rfl, ?y29b330⟩) (by assumption) ?r29b330
        case y29b330 => (intro w hSw; obtain s1 := hSw; go_simp; (try with_reducible rfl))
        (try simp only [Act.put]); (try simp only [List.setIfInBounds_toArray]); (try simp only [List.set_cons_succ]); (try simp only [List.set_cons_zero])
        refine wpAnyH_done (by kernel_rfl) ?_ _
        clear hHeld
        go_wp2_with fail
        go_ret
        exact ⟨by rw [HE.out]; rfl, HG.out.drewN _⟩
end Go.Proofs.Ytemleibpmaclmaa.Kit
