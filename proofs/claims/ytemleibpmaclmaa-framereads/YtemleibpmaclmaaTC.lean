import Derived.Test.YtemleibpmaclmaaTB
namespace Go.Proofs.Ytemleibpmaclmaa.Kit
open Go.RowKit Go.Shelf Go.Deep
set_option linter.unusedVariables false

/-! ### the bytes of a frame, fed -/
theorem num4_le4 (x : Nat) (hx : x < 4294967296) : (UInt8.ofNat x).toNat + 256 * (UInt8.ofNat (x / 256)).toNat + 65536 * (UInt8.ofNat (x / 65536)).toNat + 16777216 * (UInt8.ofNat (x / 16777216)).toNat = x := by
  simp only [UInt8.toNat_ofNat']
  omega
theorem num4_at (a c : List UInt8) (x n : Nat) (hx : x < 4294967296) (hn : a.length = n) : num4 (a ++ (le4 x ++ c)) n = x := by
  subst hn
  unfold num4
  refine Eq.trans ?_ (num4_le4 x hx)
  simp [le4, List.getD_eq_getElem?_getD]
/-- a scan at the beginning of a frame -/
def startF (lm lb : Nat) (ms : List (List UInt8 × List UInt8)) : Sc := { lm := lm, lb := lb, st := 0, left := 4, hd := [], me := 0, bo := 0, sum := sum0, md := [], bd := [], ms := ms, e := 0 }
/-- a scan in a frame -/
def atF (lm lb : Nat) (ms : List (List UInt8 × List UInt8)) (st : Nat) (hd : List UInt8) (me bo : Nat) (sum : UInt32) (md bd : List UInt8) : Sc := { lm := lm, lb := lb, st := st, left := wantsF me bo st, hd := hd, me := me, bo := bo, sum := sum, md := md, bd := bd, ms := ms, e := 0 }
def hsum (last : UInt8) (m b : Nat) : Nat := (sumU sum0 (head12 last m b)).toNat
def headP (last : UInt8) (m b : Nat) (c : Nat) : List (List UInt8) := [mark last, le4 m ++ le4 b, le4 (hsum last m b), le4 c, zs 4]
def hd20 (last : UInt8) (m b : Nat) (c : Nat) : List UInt8 := mark last ++ (le4 m ++ (le4 b ++ (le4 (hsum last m b) ++ le4 c)))
/-- which heads are read: of a message, or of the end -/
def HeadOk (lm lb : Nat) (last : UInt8) (m b : Nat) : Prop := m ≤ lm ∧ b ≤ lb ∧ (last = 49 ∨ (last = 48 ∧ m = 0 ∧ b = 0))
theorem headR {lm lb : Nat} {last : UInt8} {m b : Nat} (h : HeadOk lm lb last m b) (hm : m < 4294967296) (hb : b < 4294967296) (s : Sc) (h1 : s.lm = lm) (h2 : s.lb = lb) (h3 : s.hd = mark last ++ (le4 m ++ (le4 b ++ le4 (hsum last m b)))) : readHeadF s = (0, { s with me := m, bo := b }) := by
  have e12 : num4 s.hd 12 = hsum last m b := by
    rw [h3]
    have := num4_at (mark last ++ (le4 m ++ le4 b)) [] (hsum last m b) 12 (UInt32.toNat_lt _) rfl
    simpa [List.append_assoc] using this
  have e4 : num4 s.hd 4 = m := by
    rw [h3]; exact num4_at (mark last) _ m 4 hm rfl
  have e8 : num4 s.hd 8 = b := by
    rw [h3]
    have := num4_at (mark last ++ le4 m) (le4 (hsum last m b)) b 8 hb rfl
    simpa [List.append_assoc] using this
  have ht : s.hd.take 12 = head12 last m b := by rw [h3]; rfl
  have ht4 : s.hd.take 4 = mark last := by rw [h3]; rfl
  obtain ⟨q1, q2, q3⟩ := h
  unfold readHeadF
  rw [e12, e4, e8, ht]
  rw [if_neg (by simp [hsum]), if_neg (by omega), if_neg (by
    unfold isEndF
    rw [ht4]
    rcases q3 with q | q
    · subst q; rintro ⟨z, _⟩; simp [mark] at z
    · omega)]
theorem head_ch {lm lb : Nat} {last : UInt8} {m b : Nat} (h : HeadOk lm lb last m b) (hm : m < 4294967296) (hb : b < 4294967296) (ms : List (List UInt8 × List UInt8)) (c : Nat) : Ch (startF lm lb ms) (headP last m b c) (atF lm lb ms 5 (hd20 last m b c) m b sum0 [] []) := by
  unfold headP
  have hmk : marksB (mark last) = true := by
    rcases h.2.2 with q | q
    · rw [q]; rfl
    · rw [q.1]; rfl
  refine .cons rfl (by show 0 ≤ 7; omega) (by show (if marksB ([] ++ mark last) = true then (0 : Int) else 70) = 0; rw [List.nil_append, if_pos hmk]) (fun z => by cases z) ?_
  have e1 : nextF (overF (startF lm lb ms) (mark last)) = atF lm lb ms 1 (mark last) 0 0 sum0 [] [] := rfl
  rw [e1]
  refine .cons rfl (by show 1 ≤ 7; omega) rfl (fun z => by cases z) ?_
  have e2 : nextF (overF (atF lm lb ms 1 (mark last) 0 0 sum0 [] []) (le4 m ++ le4 b)) = atF lm lb ms 2 (mark last ++ (le4 m ++ le4 b)) 0 0 sum0 [] [] := rfl
  rw [e2]
  have hr := headR h hm hb (overF (atF lm lb ms 2 (mark last ++ (le4 m ++ le4 b)) 0 0 sum0 [] []) (le4 (hsum last m b))) rfl rfl (by show (mark last ++ (le4 m ++ le4 b)) ++ _ = _; simp [List.append_assoc])
  refine .cons rfl (by show 2 ≤ 7; omega) rfl (fun _ => by rw [hr]) ?_
  have e3 : nextF (overF (atF lm lb ms 2 (mark last ++ (le4 m ++ le4 b)) 0 0 sum0 [] []) (le4 (hsum last m b))) = atF lm lb ms 3 ((mark last ++ (le4 m ++ le4 b)) ++ le4 (hsum last m b)) m b sum0 [] [] := by
    unfold nextF
    rw [hr]
    rfl
  rw [e3]
  refine .cons rfl (by show 3 ≤ 7; omega) rfl (fun z => by cases z) ?_
  have e4 : nextF (overF (atF lm lb ms 3 ((mark last ++ (le4 m ++ le4 b)) ++ le4 (hsum last m b)) m b sum0 [] []) (le4 c)) = atF lm lb ms 4 (hd20 last m b c) m b sum0 [] [] := rfl
  rw [e4]
  refine .cons rfl (by show 4 ≤ 7; omega) rfl (fun z => by cases z) ?_
  exact .nil _
/-- zeros are all zero -/
theorem zs_all (n : Nat) : (zs n).all (· == 0) = true := by simp [zs]
theorem body_ch {lm lb : Nat} (ms : List (List UInt8 × List UInt8)) (hd m b : List UInt8) : Ch (atF lm lb ms 5 hd m.length b.length sum0 [] []) [m, zs (up8 m.length - m.length), b] (atF lm lb ms 8 hd m.length b.length (sumU (sumU sum0 m) b) m b) := by
  refine .cons rfl (by show 5 ≤ 7; omega) rfl (fun z => by cases z) ?_
  have e1 : nextF (overF (atF lm lb ms 5 hd m.length b.length sum0 [] []) m) = atF lm lb ms 6 hd m.length b.length (sumU sum0 m) m [] := rfl
  rw [e1]
  refine .cons (by show (zs _).length = up8 m.length - m.length; simp [zs]) (by show 6 ≤ 7; omega) (by show (if (zs _).all (· == 0) = true then (0 : Int) else 8) = 0; rw [if_pos (zs_all _)]) (fun z => by cases z) ?_
  have e2 : nextF (overF (atF lm lb ms 6 hd m.length b.length (sumU sum0 m) m []) (zs (up8 m.length - m.length))) = atF lm lb ms 7 hd m.length b.length (sumU sum0 m) m [] := rfl
  rw [e2]
  refine .cons rfl (by show 7 ≤ 7; omega) rfl (fun z => by cases z) ?_
  exact .nil _
theorem Ch.trans {s t u : Sc} {ps qs : List (List UInt8)} (h : Ch s ps t) (k : Ch t qs u) : Ch s (ps ++ qs) u := by
  induction h with
  | nil s => exact k
  | cons hp hs he hr h ih => exact .cons hp hs he hr (ih k)
/-- the pieces of a frame but for the last zeros -/
def frameP (last : UInt8) (m b : List UInt8) (c : Nat) : List (List UInt8) := headP last m.length b.length c ++ [m, zs (up8 m.length - m.length), b]
theorem putB_pieces (last : UInt8) (m b : List UInt8) : putB last m b = (frameP last m b (sumU (sumU sum0 m) b).toNat).flatten ++ zs (up8 b.length - b.length) := by
  unfold putB headB frameP headP hsum head12
  simp [List.append_assoc]
theorem start_ok {lm lb : Nat} (h1 : lm ≤ 100000000) (h2 : lb ≤ 100000000) (ms : List (List UInt8 × List UInt8)) : PreOk (startF lm lb ms) := by
  constructor <;> simp [startF, h1, h2]
theorem start_settled (lm lb : Nat) (ms : List (List UInt8 × List UInt8)) : settleF (startF lm lb ms) = startF lm lb ms := settle_go (by show 4 ≠ 0; omega)
theorem end_num (last : UInt8) (m b c : Nat) (hc : c < 4294967296) : num4 (hd20 last m b c) 16 = c := by
  have := num4_at (mark last ++ (le4 m ++ (le4 b ++ le4 (hsum last m b)))) [] c 16 hc rfl
  simpa [hd20, List.append_assoc] using this
theorem end_take (last : UInt8) (m b c : Nat) : (hd20 last m b c).take 4 = mark last := rfl
/-- what a frame's last zeros end in -/
theorem frame_end {lm lb : Nat} (h1 : lm ≤ 100000000) (h2 : lb ≤ 100000000) {last : UInt8} {m b : List UInt8} (h : HeadOk lm lb last m.length b.length) (ms : List (List UInt8 × List UInt8)) (rest : List UInt8) :
    feedF (startF lm lb ms) (putB last m b ++ rest) = feedF (if last = 48 then beginF (startF lm lb ms) 9 else startF lm lb (ms ++ [(m, b)])) rest := by
  have hm : m.length < 4294967296 := by have := h.1; omega
  have hb : b.length < 4294967296 := by have := h.2.1; omega
  obtain ⟨c, hc⟩ : ∃ c, (sumU (sumU sum0 m) b).toNat = c := ⟨_, rfl⟩
  have hc4 : c < 4294967296 := by rw [← hc]; exact UInt32.toNat_lt _
  have k := (head_ch h hm hb ms c).trans (body_ch ms (hd20 last m.length b.length c) m b)
  obtain ⟨k1, k2, k3, k4⟩ := k.feed (start_ok h1 h2 ms)
  rw [putB_pieces, hc, List.append_assoc, ← start_settled]
  refine (k4 _).trans ?_
  have he : (pieceF (atF lm lb ms 8 (hd20 last m.length b.length c) m.length b.length (sumU (sumU sum0 m) b) m b) (zs (up8 b.length - b.length))).1 = 0 := by
    show (if (zs _).all (· == 0) = true then (0 : Int) else 8) = 0
    rw [if_pos (zs_all _)]
  rw [feed_fill _ k1 (by show (zs _).length = up8 b.length - b.length; simp [zs]) he (settle_ok k1 (by show 8 ≤ 8; omega))]
  congr 1
  rw [settle_finish rfl rfl]
  have hf : finishF (overF (atF lm lb ms 8 (hd20 last m.length b.length c) m.length b.length (sumU (sumU sum0 m) b) m b) (zs (up8 b.length - b.length))) = (0, if last = 48 then beginF (startF lm lb ms) 9 else startF lm lb (ms ++ [(m, b)])) := by
    unfold finishF
    have e1 : num4 (overF (atF lm lb ms 8 (hd20 last m.length b.length c) m.length b.length (sumU (sumU sum0 m) b) m b) (zs (up8 b.length - b.length))).hd 16 = c := end_num _ _ _ _ hc4
    have e2 : isEndF (overF (atF lm lb ms 8 (hd20 last m.length b.length c) m.length b.length (sumU (sumU sum0 m) b) m b) (zs (up8 b.length - b.length))) = (mark last == mark 48) := rfl
    rw [e1, e2]
    have e3 : (overF (atF lm lb ms 8 (hd20 last m.length b.length c) m.length b.length (sumU (sumU sum0 m) b) m b) (zs (up8 b.length - b.length))).sum = sumU (sumU sum0 m) b := rfl
    rw [e3, hc, if_neg (by simp)]
    rcases h.2.2 with q | q
    · subst q; rfl
    · obtain ⟨q, _⟩ := q; subst q; rfl
  rw [hf, if_neg (by simp)]
  rw [start_settled]
/-- a message's frame is told -/
theorem feed_put {lm lb : Nat} (h1 : lm ≤ 100000000) (h2 : lb ≤ 100000000) {m b : List UInt8} (hm : m.length ≤ lm) (hb : b.length ≤ lb) (ms : List (List UInt8 × List UInt8)) (rest : List UInt8) :
    feedF (startF lm lb ms) (putB 49 m b ++ rest) = feedF (startF lm lb (ms ++ [(m, b)])) rest := frame_end h1 h2 ⟨hm, hb, .inl rfl⟩ ms rest
/-- the end is told -/
theorem feed_close {lm lb : Nat} (h1 : lm ≤ 100000000) (h2 : lb ≤ 100000000) (ms : List (List UInt8 × List UInt8)) (rest : List UInt8) :
    feedF (startF lm lb ms) (putB 48 [] [] ++ rest) = feedF (beginF (startF lm lb ms) 9) rest := frame_end h1 h2 ⟨Nat.zero_le _, Nat.zero_le _, .inr ⟨rfl, rfl, rfl⟩⟩ ms rest
/-- messages, one behind the other -/
theorem feed_puts {lm lb : Nat} (h1 : lm ≤ 100000000) (h2 : lb ≤ 100000000) : ∀ (l : List (List UInt8 × List UInt8)) (ms : List (List UInt8 × List UInt8)) (rest : List UInt8), (∀ x ∈ l, x.1.length ≤ lm ∧ x.2.length ≤ lb) →
    feedF (startF lm lb ms) ((l.map fun x => putB 49 x.1 x.2).flatten ++ rest) = feedF (startF lm lb (ms ++ l)) rest
  | [], ms, rest, _ => by simp
  | x :: l, ms, rest, h => by
    have hx := h x (by simp)
    rw [List.map_cons, List.flatten_cons, List.append_assoc, feed_put h1 h2 hx.1 hx.2, feed_puts h1 h2 l _ rest (fun y hy => h y (by simp [hy])), List.append_assoc]
    rfl
end Go.Proofs.Ytemleibpmaclmaa.Kit
