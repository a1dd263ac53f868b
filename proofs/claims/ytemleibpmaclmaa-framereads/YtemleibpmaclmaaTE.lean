import Derived.Test.YtemleibpmaclmaaTD
namespace Go.Proofs.Ytemleibpmaclmaa.Kit
open Go.RowKit Go.Shelf Go.Deep
set_option linter.unusedVariables false

/-! ### one byte is another one -/
/-- two lists that differ in one byte -/
def Dif (l l' : List UInt8) : Prop := ∃ a x y c, x ≠ y ∧ l = a ++ x :: c ∧ l' = a ++ y :: c
theorem Dif.len {l l' : List UInt8} (h : Dif l l') : l'.length = l.length := by
  obtain ⟨a, x, y, c, _, rfl, rfl⟩ := h
  simp
/-- in which of two parts -/
theorem Dif.parts {p q l' : List UInt8} (h : Dif (p ++ q) l') : (∃ p', Dif p p' ∧ l' = p' ++ q) ∨ (∃ q', Dif q q' ∧ l' = p ++ q') := by
  obtain ⟨a, x, y, c, hn, e, rfl⟩ := h
  rw [List.append_eq_append_iff] at e
  rcases e with ⟨k, rfl, e⟩ | ⟨k, rfl, e⟩
  · exact .inr ⟨k ++ y :: c, ⟨k, x, y, c, hn, e, rfl⟩, by rw [List.append_assoc]⟩
  · cases k with
    | nil =>
      rw [List.nil_append] at e
      exact .inr ⟨y :: c, ⟨[], x, y, c, hn, e.symm, rfl⟩, by simp⟩
    | cons u k =>
      rw [List.cons_append, List.cons.injEq] at e
      obtain ⟨rfl, rfl⟩ := e
      exact .inl ⟨a ++ y :: k, ⟨a, x, y, k, hn, rfl, rfl⟩, by simp⟩
theorem Dif.sum {l l' : List UInt8} (h : Dif l l') (s : UInt32) : sumU s l' ≠ sumU s l := by
  obtain ⟨a, x, y, c, hn, rfl, rfl⟩ := h
  exact (sumU_ne s a c x y hn).symm
theorem Dif.zeros {n : Nat} {l' : List UInt8} (h : Dif (zs n) l') : l'.all (· == 0) = false := by
  obtain ⟨a, x, y, c, hn, e, rfl⟩ := h
  have : x ∈ zs n := by rw [e]; simp
  have hx : x = 0 := List.eq_of_mem_replicate this
  rw [List.all_eq_false]
  exact ⟨y, by simp, by simpa using fun z : y = 0 => hn (hx.trans z.symm)⟩
theorem num4_inj {a b c d a' b' c' d' : UInt8} (h : a.toNat + 256 * b.toNat + 65536 * c.toNat + 16777216 * d.toNat = a'.toNat + 256 * b'.toNat + 65536 * c'.toNat + 16777216 * d'.toNat) : a = a' ∧ b = b' ∧ c = c' ∧ d = d' := by
  have := a.toNat_lt; have := b.toNat_lt; have := c.toNat_lt; have := d.toNat_lt
  have := a'.toNat_lt; have := b'.toNat_lt; have := c'.toNat_lt; have := d'.toNat_lt
  exact ⟨UInt8.toNat_inj.1 (by omega), UInt8.toNat_inj.1 (by omega), UInt8.toNat_inj.1 (by omega), UInt8.toNat_inj.1 (by omega)⟩
def num (l : List UInt8) : Nat := num4 l 0
theorem le4_num (x : List UInt8) (h : x.length = 4) : x = le4 (num x) ∧ num x < 4294967296 := by
  match x, h with
  | [a, b, c, d], _ =>
    have h1 := num4_lt [a, b, c, d] 0
    refine ⟨?_, h1⟩
    have e := num4_le4 (num [a, b, c, d]) h1
    have e' : num [a, b, c, d] = a.toNat + 256 * b.toNat + 65536 * c.toNat + 16777216 * d.toNat := rfl
    obtain ⟨k1, k2, k3, k4⟩ := num4_inj (e.trans e')
    unfold le4
    rw [k1, k2, k3, k4]
theorem num_le4 (x : Nat) (h : x < 4294967296) : num (le4 x) = x := by
  have := num4_at [] [] x 0 h rfl
  show num4 (le4 x) 0 = x
  simpa using this
theorem Dif.ne {l l' : List UInt8} (h : Dif l l') : l' ≠ l := by
  obtain ⟨a, x, y, c, hn, rfl, rfl⟩ := h
  simpa using fun z => hn z.symm
theorem Dif.le4 {x : Nat} {l' : List UInt8} (hx : x < 4294967296) (h : Dif (le4 x) l') : ∃ y, l' = Kit.le4 y ∧ y < 4294967296 ∧ y ≠ x := by
  obtain ⟨e, hl⟩ := le4_num l' (h.len.trans rfl)
  exact ⟨num l', e, hl, fun z => h.ne (by rw [e, z])⟩
/-- wrong, and no more told -/
def Bad (ms : List (List UInt8 × List UInt8)) (s : Sc) : Prop := ∃ t e, e ≠ 0 ∧ s = wrongF t e ∧ t.ms = ms
theorem Bad.feed {ms : List (List UInt8 × List UInt8)} {s : Sc} (h : Bad ms s) (b : List UInt8) : Bad ms (feedF s b) := by
  obtain ⟨t, e, he, rfl, hm⟩ := h
  exact ⟨t, e, he, feed_wrong t e b he, hm⟩
theorem Bad.e {ms : List (List UInt8 × List UInt8)} {s : Sc} (h : Bad ms s) : s.e ≠ 0 ∧ s.ms = ms ∧ Ok s := by
  obtain ⟨t, e, he, rfl, hm⟩ := h
  exact ⟨he, hm, .inl ⟨he, rfl⟩⟩
/-- a piece that is refused -/
theorem feed_bad {s : Sc} {p : List UInt8} (rest : List UInt8) (h : PreOk s) (hp : p.length = s.left) (hl : 0 < s.left) (he : (pieceF s p).1 ≠ 0) : Bad s.ms (feedF (settleF s) (p ++ rest)) := by
  rw [settle_go (by omega), ← feed_app p rest (.inr ⟨h, hl⟩), feed_full h hp hl, if_pos he]
  exact Bad.feed ⟨_, _, he, rfl, piece_ms s p⟩ rest
/-- zeros that are not -/
theorem pad_bad {s : Sc} {n : Nat} {p : List UInt8} (rest : List UInt8) (h : PreOk s) (hs : s.st = 4 ∨ s.st = 6 ∨ s.st = 8) (hn : n = s.left) (hd : Dif (zs n) p) : Bad s.ms (feedF (settleF s) (p ++ rest)) := by
  have hpl : p.length = n := by rw [hd.len]; simp [zs]
  have h0 : 0 < n := by
    obtain ⟨a, x, y, c, _, e, _⟩ := hd
    have := congrArg List.length e
    simp [zs] at this
    omega
  refine feed_bad rest h (by omega) (by omega) ?_
  have hz := hd.zeros
  unfold pieceF
  rw [if_neg (by omega), if_neg (by omega), if_neg (by omega), if_neg (by omega), if_pos hs, if_neg (by rw [hz]; simp)]
  simp
/-- sixteen bytes whose sum is not told in them -/
theorem head_bad {lm lb : Nat} (h1 : lm ≤ 100000000) (h2 : lb ≤ 100000000) (ms : List (List UInt8 × List UInt8)) (x y z rest : List UInt8) (hx : x.length = 4) (hy : y.length = 8) (hz : z.length = 4) (hn : num z ≠ (sumU sum0 (x ++ y)).toNat) :
    Bad ms (feedF (startF lm lb ms) (x ++ (y ++ (z ++ rest)))) := by
  have hs := start_ok h1 h2 ms
  rw [← start_settled]
  by_cases hmk : marksB x = true
  · have he : (pieceF (startF lm lb ms) x).1 = 0 := by show (if marksB ([] ++ x) = true then (0 : Int) else 70) = 0; rw [List.nil_append, if_pos hmk]
    have k : Ch (startF lm lb ms) [x, y] (atF lm lb ms 2 (x ++ y) 0 0 sum0 [] []) := by
      refine .cons hx (by show 0 ≤ 7; omega) he (fun z => by cases z) ?_
      have e1 : nextF (overF (startF lm lb ms) x) = atF lm lb ms 1 x 0 0 sum0 [] [] := rfl
      rw [e1]
      refine .cons hy (by show 1 ≤ 7; omega) rfl (fun z => by cases z) ?_
      exact .nil _
    obtain ⟨k1, k2, k3, k4⟩ := k.feed hs
    have e : x ++ (y ++ (z ++ rest)) = [x, y].flatten ++ (z ++ rest) := by simp
    rw [e, k4, feed_fill rest k1 hz rfl (settle_ok k1 (by show 2 ≤ 8; omega))]
    refine Bad.feed ?_ rest
    have hr : (readHeadF (overF (atF lm lb ms 2 (x ++ y) 0 0 sum0 [] []) z)).1 = 72 := by
      unfold readHeadF
      have a1 : (overF (atF lm lb ms 2 (x ++ y) 0 0 sum0 [] []) z).hd = (x ++ y) ++ z := rfl
      obtain ⟨w1, w2⟩ := le4_num z hz
      have a2 : num4 ((x ++ y) ++ z) 12 = num z := by
        conv => lhs; rw [w1]
        have := num4_at (x ++ y) [] (num z) 12 w2 (by rw [List.length_append]; omega)
        simpa using this
      have a3 : ((x ++ y) ++ z).take 12 = x ++ y := by
        rw [List.take_append_of_le_length (by rw [List.length_append]; omega), List.take_of_length_le (by rw [List.length_append]; omega)]
      rw [a1, a2, a3, if_pos hn]
    rw [settle_head_err rfl rfl (by rw [hr]; simp), hr]
    exact ⟨_, 72, by simp, rfl, rfl⟩
  · refine feed_bad _ hs hx (by show 0 < 4; omega) ?_
    show (if marksB ([] ++ x) = true then (0 : Int) else 70) ≠ 0
    rw [List.nil_append, if_neg hmk]
    simp
/-- a frame whose sum is another one -/
theorem sum_bad {lm lb : Nat} (h1 : lm ≤ 100000000) (h2 : lb ≤ 100000000) {last : UInt8} {m b : List UInt8} (h : HeadOk lm lb last m.length b.length) (ms : List (List UInt8 × List UInt8)) (c : Nat) (hc4 : c < 4294967296) (hc : c ≠ (sumU (sumU sum0 m) b).toNat) (rest : List UInt8) :
    Bad ms (feedF (startF lm lb ms) ((frameP last m b c).flatten ++ (zs (up8 b.length - b.length) ++ rest))) := by
  have hm : m.length < 4294967296 := by have := h.1; omega
  have hb : b.length < 4294967296 := by have := h.2.1; omega
  have k := (head_ch h hm hb ms c).trans (body_ch ms (hd20 last m.length b.length c) m b)
  obtain ⟨k1, k2, k3, k4⟩ := k.feed (start_ok h1 h2 ms)
  rw [← start_settled]
  unfold frameP
  rw [k4]
  have he : (pieceF (atF lm lb ms 8 (hd20 last m.length b.length c) m.length b.length (sumU (sumU sum0 m) b) m b) (zs (up8 b.length - b.length))).1 = 0 := by
    show (if (zs _).all (· == 0) = true then (0 : Int) else 8) = 0
    rw [if_pos (zs_all _)]
  rw [feed_fill _ k1 (by show (zs _).length = up8 b.length - b.length; simp [zs]) he (settle_ok k1 (by show 8 ≤ 8; omega))]
  refine Bad.feed ?_ rest
  rw [settle_finish rfl rfl]
  have hf : finishF (overF (atF lm lb ms 8 (hd20 last m.length b.length c) m.length b.length (sumU (sumU sum0 m) b) m b) (zs (up8 b.length - b.length))) = (72, overF (atF lm lb ms 8 (hd20 last m.length b.length c) m.length b.length (sumU (sumU sum0 m) b) m b) (zs (up8 b.length - b.length))) := by
    unfold finishF
    have e1 : num4 (overF (atF lm lb ms 8 (hd20 last m.length b.length c) m.length b.length (sumU (sumU sum0 m) b) m b) (zs (up8 b.length - b.length))).hd 16 = c := end_num _ _ _ _ hc4
    have e3 : (overF (atF lm lb ms 8 (hd20 last m.length b.length c) m.length b.length (sumU (sumU sum0 m) b) m b) (zs (up8 b.length - b.length))).sum = sumU (sumU sum0 m) b := rfl
    rw [e1, e3, if_pos hc]
  rw [hf, if_pos (by simp)]
  exact ⟨_, 72, by simp, rfl, rfl⟩
theorem Dif.left {p p' : List UInt8} (h : Dif p p') (q : List UInt8) : Dif (p ++ q) (p' ++ q) := by
  obtain ⟨a, x, y, c, hn, rfl, rfl⟩ := h
  exact ⟨a, x, y, c ++ q, hn, by simp, by simp⟩
theorem Dif.right {p p' : List UInt8} (h : Dif p p') (q : List UInt8) : Dif (q ++ p) (q ++ p') := by
  obtain ⟨a, x, y, c, hn, rfl, rfl⟩ := h
  exact ⟨q ++ a, x, y, c, hn, by simp, by simp⟩
theorem Ch.split : ∀ {ps qs : List (List UInt8)} {s t : Sc}, Ch s (ps ++ qs) t → ∃ u, Ch s ps u ∧ Ch u qs t
  | [], qs, s, t, h => ⟨s, .nil s, h⟩
  | p :: ps, qs, s, t, h => by
    rw [List.cons_append] at h
    cases h with
    | cons hp hs he hr h =>
      obtain ⟨u, k1, k2⟩ := Ch.split h
      exact ⟨u, .cons hp hs he hr k1, k2⟩
theorem Ch.first {p : List UInt8} {qs : List (List UInt8)} {s t : Sc} (h : Ch s (p :: qs) t) : p.length = s.left := by
  cases h with
  | cons hp hs he hr h => exact hp
theorem toNat_ne {x y : UInt32} (h : x ≠ y) : x.toNat ≠ y.toNat := fun z => h (UInt32.toNat_inj.1 z)
/-- a frame with one byte another: wrong, and nothing told -/
theorem dif_bad {lm lb : Nat} (h1 : lm ≤ 100000000) (h2 : lb ≤ 100000000) {last : UInt8} {m b : List UInt8} (h : HeadOk lm lb last m.length b.length) (ms : List (List UInt8 × List UInt8)) (x rest : List UInt8) (hd : Dif (putB last m b) x) :
    Bad ms (feedF (startF lm lb ms) (x ++ rest)) := by
  have hm : m.length < 4294967296 := by have := h.1; omega
  have hb : b.length < 4294967296 := by have := h.2.1; omega
  have hs := start_ok h1 h2 ms
  have hhs : hsum last m.length b.length < 4294967296 := UInt32.toNat_lt _
  have hh : hsum last m.length b.length = (sumU sum0 (mark last ++ (le4 m.length ++ le4 b.length))).toNat := by
    unfold hsum head12; rw [List.append_assoc]
  obtain ⟨c, hc⟩ : ∃ c, (sumU (sumU sum0 m) b).toNat = c := ⟨_, rfl⟩
  have hc4 : c < 4294967296 := by rw [← hc]; exact UInt32.toNat_lt _
  have k := (head_ch h hm hb ms c).trans (body_ch ms (hd20 last m.length b.length c) m b)
  have e : putB last m b = mark last ++ ((le4 m.length ++ le4 b.length) ++ (le4 (hsum last m.length b.length) ++ (le4 c ++ (zs 4 ++ (m ++ (zs (up8 m.length - m.length) ++ (b ++ zs (up8 b.length - b.length)))))))) := by
    rw [putB_pieces, hc]
    unfold frameP headP
    simp [List.append_assoc]
  rw [e] at hd
  rcases hd.parts with ⟨p, d, rfl⟩ | ⟨r, hd1, rfl⟩
  · have := head_bad h1 h2 ms p (le4 m.length ++ le4 b.length) (le4 (hsum last m.length b.length)) ((le4 c ++ (zs 4 ++ (m ++ (zs (up8 m.length - m.length) ++ (b ++ zs (up8 b.length - b.length)))))) ++ rest) (d.len.trans rfl) rfl rfl (by
      rw [num_le4 _ hhs, hh]
      exact toNat_ne ((d.left _).sum sum0).symm)
    simpa only [List.append_assoc] using this
  rcases hd1.parts with ⟨p, d, rfl⟩ | ⟨r, hd2, rfl⟩
  · have := head_bad h1 h2 ms (mark last) p (le4 (hsum last m.length b.length)) ((le4 c ++ (zs 4 ++ (m ++ (zs (up8 m.length - m.length) ++ (b ++ zs (up8 b.length - b.length)))))) ++ rest) rfl (d.len.trans rfl) rfl (by
      rw [num_le4 _ hhs, hh]
      exact toNat_ne ((d.right _).sum sum0).symm)
    simpa only [List.append_assoc] using this
  rcases hd2.parts with ⟨p, d, rfl⟩ | ⟨r, hd3, rfl⟩
  · obtain ⟨y, rfl, hy4, hy⟩ := d.le4 hhs
    have := head_bad h1 h2 ms (mark last) (le4 m.length ++ le4 b.length) (le4 y) ((le4 c ++ (zs 4 ++ (m ++ (zs (up8 m.length - m.length) ++ (b ++ zs (up8 b.length - b.length)))))) ++ rest) rfl rfl rfl (by
      rw [num_le4 _ hy4, ← hh]
      exact hy)
    simpa only [List.append_assoc] using this
  rcases hd3.parts with ⟨p, d, rfl⟩ | ⟨r, hd4, rfl⟩
  · obtain ⟨y, rfl, hy4, hy⟩ := d.le4 hc4
    have := sum_bad h1 h2 h ms y hy4 (by rw [hc]; exact hy) rest
    simpa [frameP, headP, List.append_assoc] using this
  rcases hd4.parts with ⟨p, d, rfl⟩ | ⟨r, hd5, rfl⟩
  · have e : headP last m.length b.length c ++ [m, zs (up8 m.length - m.length), b] = [mark last, le4 m.length ++ le4 b.length, le4 (hsum last m.length b.length), le4 c] ++ (zs 4 :: [m, zs (up8 m.length - m.length), b]) := rfl
    rw [e] at k
    obtain ⟨u, k1, k2⟩ := k.split
    obtain ⟨f1, f2, f3, f4⟩ := k1.feed hs
    have := pad_bad ((m ++ (zs (up8 m.length - m.length) ++ (b ++ zs (up8 b.length - b.length)))) ++ rest) f1 (.inl f2) k2.first d
    rw [← f4, f3, start_settled] at this
    simpa [List.append_assoc, startF] using this
  rcases hd5.parts with ⟨p, d, rfl⟩ | ⟨r, hd6, rfl⟩
  · have h' : HeadOk lm lb last p.length b.length := by rw [d.len]; exact h
    have := sum_bad h1 h2 h' ms c hc4 (by
      rw [← hc, ← sumU_app, ← sumU_app]
      exact toNat_ne ((d.left b).sum sum0).symm) rest
    simpa [frameP, headP, List.append_assoc, d.len] using this
  rcases hd6.parts with ⟨p, d, rfl⟩ | ⟨r, hd7, rfl⟩
  · have e : headP last m.length b.length c ++ [m, zs (up8 m.length - m.length), b] = [mark last, le4 m.length ++ le4 b.length, le4 (hsum last m.length b.length), le4 c, zs 4, m] ++ (zs (up8 m.length - m.length) :: [b]) := rfl
    rw [e] at k
    obtain ⟨u, k1, k2⟩ := k.split
    obtain ⟨f1, f2, f3, f4⟩ := k1.feed hs
    have hz := k2.first
    have := pad_bad ((b ++ zs (up8 b.length - b.length)) ++ rest) f1 (.inr (.inl f2)) (by rw [← hz]; simp [zs]) d
    rw [← f4, f3, start_settled] at this
    simpa [List.append_assoc, startF] using this
  rcases hd7.parts with ⟨p, d, rfl⟩ | ⟨r, hd8, rfl⟩
  · have h' : HeadOk lm lb last m.length p.length := by rw [d.len]; exact h
    have := sum_bad h1 h2 h' ms c hc4 (by
      rw [← hc]
      exact toNat_ne (d.sum _).symm) rest
    simpa [frameP, headP, List.append_assoc, d.len] using this
  · obtain ⟨f1, f2, f3, f4⟩ := k.feed hs
    have := pad_bad rest f1 (.inr (.inr f2)) rfl hd8
    rw [← f4, f3, start_settled] at this
    simpa [frameP, headP, List.append_assoc, startF] using this
end Go.Proofs.Ytemleibpmaclmaa.Kit
