import Derived.Test.YtemleibpmaclmaaTH
import Derived.Test.YtemleibpmaclmaaTJ
namespace Go.Proofs.Ytemleibpmaclmaa.Kit
open Go.RowKit Go.Shelf Go.Deep
set_option linter.unusedVariables false

/-! ### what a reader of the widest limits tells of a stream -/
def fedF (a : List UInt8) : Sc := feedF (startF 65536 4194304 []) a
theorem new_start (lm lb : Nat) : newF lm lb = startF lm lb [] := rfl
theorem startw_ok (ms : List Msg) : Ok (startF 65536 4194304 ms) := .inr ⟨start_ok (by omega) (by omega) ms, by show 0 < 4; omega⟩
theorem fed_ok (a : List UInt8) : Ok (fedF a) := (feed_ok a (startw_ok [])).1
theorem fed_app (a b : List UInt8) : feedF (fedF a) b = fedF (a ++ b) := feed_app a b (startw_ok [])
theorem fed_size (a : List UInt8) : szs (fedF a).ms ≤ a.length := by
  have := feed_size a (startw_ok [])
  have e : szs (startF 65536 4194304 []).ms + inF (startF 65536 4194304 []) = 0 := by simp [szs, inF, startF]
  unfold fedF
  omega
theorem szs_len (ms : List Msg) : 24 * ms.length ≤ szs ms := by
  induction ms with
  | nil => exact Nat.le_refl _
  | cons x ms ih =>
    simp only [szs, List.map_cons, List.sum_cons, List.length_cons, sizeM] at ih ⊢
    omega
theorem fed_many (a : List UInt8) : (fedF a).ms.length ≤ a.length / 24 := by
  have := fed_size a
  have := szs_len (fedF a).ms
  omega
/-- a feed behind what was taken out -/
theorem fed_drop (a b : List UInt8) (j : Nat) (hj : j ≤ (fedF a).ms.length) : feedF { fedF a with ms := (fedF a).ms.drop j } b = { fedF (a ++ b) with ms := (fedF (a ++ b)).ms.drop j } ∧ (fedF (a ++ b)).ms.take j = (fedF a).ms.take j ∧ (fedF a).ms.length ≤ (fedF (a ++ b)).ms.length := by
  obtain ⟨new, h⟩ := feed_ms (fedF a) b
  obtain ⟨h1, h2⟩ := h ((fedF a).ms.drop j)
  rw [fed_app] at h1 h2
  rw [h1, h2]
  refine ⟨?_, List.take_append_of_le_length hj, by rw [List.length_append]; omega⟩
  rw [List.drop_append_of_le_length hj]
theorem fit_all {l : List Msg} (h : fitB l = true) (x : Msg) (hx : x ∈ l) : x.1.length ≤ 65536 ∧ x.2.length ≤ 4194304 := by
  unfold fitB at h
  rw [List.all_eq_true] at h
  simpa using h x hx
/-- the whole -/
theorem fed_whole {l : List Msg} (h : fitB l = true) : fedF (strB l) = beginF (startF 65536 4194304 l) 9 := by
  unfold fedF strB putsB
  rw [feed_puts (by omega) (by omega) l [] _ (fit_all h)]
  have := feed_close (lm := 65536) (lb := 4194304) (by omega) (by omega) l []
  rw [List.append_nil] at this
  rw [List.nil_append, this]
  exact feed_nil (.inr ⟨(start_ok (by omega) (by omega) l).begin.1, by show 0 < 1; omega⟩)
/-- the frame behind the first n -/
def nth (l : List Msg) (n : Nat) : List UInt8 := if h : n < l.length then putB 49 l[n].1 l[n].2 else putB 48 [] []
theorem str_cut (l : List Msg) (n : Nat) (hn : n ≤ l.length) : ∃ rest, strB l = putsB (l.take n) ++ (nth l n ++ rest) := by
  unfold strB nth
  by_cases c : n < l.length
  · rw [dif_pos c]
    refine ⟨putsB (l.drop (n + 1)) ++ putB 48 [] [], ?_⟩
    have e : l = l.take n ++ (l[n] :: l.drop (n + 1)) := by rw [← List.drop_eq_getElem_cons c, List.take_append_drop]
    conv => lhs; rw [e]
    unfold putsB
    rw [List.map_append, List.flatten_append, List.map_cons, List.flatten_cons]
    simp only [List.append_assoc]
  · rw [dif_neg c]
    exact ⟨[], by rw [List.take_of_length_le (by omega), List.append_nil]⟩
theorem nth_head {l : List Msg} (h : fitB l = true) (n : Nat) (hn : n ≤ l.length) (a c : List UInt8) (e : a ++ c = nth l n) (hc : c ≠ []) : (feedF (startF 65536 4194304 (l.take n)) a).ms = l.take n := by
  unfold nth at e
  by_cases k : n < l.length
  · rw [dif_pos k] at e
    obtain ⟨f1, f2⟩ := fit_at h n k
    exact frame_short (by omega) (by omega) (last := 49) (m := l[n].1) (b := l[n].2) ⟨f1, f2, .inl rfl⟩ _ a c e hc
  · rw [dif_neg k] at e
    exact frame_short (by omega) (by omega) (last := 48) (m := []) (b := []) ⟨Nat.zero_le _, Nat.zero_le _, .inr ⟨rfl, rfl, rfl⟩⟩ _ a c e hc
theorem nth_bad {l : List Msg} (h : fitB l = true) (n : Nat) (hn : n ≤ l.length) (x rest : List UInt8) (hd : Dif (nth l n) x) : Bad (l.take n) (feedF (startF 65536 4194304 (l.take n)) (x ++ rest)) := by
  unfold nth at hd
  by_cases k : n < l.length
  · rw [dif_pos k] at hd
    obtain ⟨f1, f2⟩ := fit_at h n k
    exact dif_bad (by omega) (by omega) (last := 49) (m := l[n].1) (b := l[n].2) ⟨f1, f2, .inl rfl⟩ _ x rest hd
  · rw [dif_neg k] at hd
    exact dif_bad (by omega) (by omega) (last := 48) (m := []) (b := []) ⟨Nat.zero_le _, Nat.zero_le _, .inr ⟨rfl, rfl, rfl⟩⟩ _ x rest hd
theorem fed_first {l : List Msg} (h : fitB l = true) (n : Nat) (a : List UInt8) : fedF (putsB (l.take n) ++ a) = feedF (startF 65536 4194304 (l.take n)) a := by
  unfold fedF putsB
  rw [feed_puts (by omega) (by omega) (l.take n) [] a (fun x hx => fit_all h x (List.mem_of_mem_take hx)), List.nil_append]
/-- where a place of the stream lies -/
def Lies (l : List Msg) (n at' : Nat) : Prop := n ≤ l.length ∧ (putsB (l.take n)).length ≤ at' ∧ at' < (putsB (l.take n)).length + (nth l n).length
/-- cut short: the first so many, and no end -/
theorem fed_short {l : List Msg} (h : fitB l = true) (n k : Nat) (hk : Lies l n k) : (fedF ((strB l).take k)).ms = l.take n ∧ (fedF ((strB l).take k)).e = 0 ∧ (fedF ((strB l).take k)).st ≠ 9 := by
  obtain ⟨hn, k1, k2⟩ := hk
  obtain ⟨rest, hs⟩ := str_cut l n hn
  have hlen : k < (strB l).length := by rw [hs]; simp only [List.length_append]; omega
  have hw : (fedF ((strB l).take k ++ (strB l).drop k)).e = 0 := by rw [List.take_append_drop, fed_whole h]; rfl
  have hne : (strB l).drop k ≠ [] := by
    intro z
    have := congrArg List.length z
    rw [List.length_drop] at this
    simp at this
    omega
  refine ⟨?_, feed_front _ _ (startw_ok []) hw, feed_not9 _ _ (startw_ok []) hne hw⟩
  have e : (strB l).take k = putsB (l.take n) ++ (nth l n).take (k - (putsB (l.take n)).length) := by
    rw [hs, List.take_append, List.take_of_length_le k1, List.take_append_of_le_length (by omega)]
  rw [e, fed_first h]
  refine nth_head h n hn _ ((nth l n).drop (k - (putsB (l.take n)).length)) (List.take_append_drop _ _) ?_
  intro z
  have := congrArg List.length z
  rw [List.length_drop] at this
  simp at this
  omega
/-- one byte another: the first so many, and wrong -/
theorem fed_byte {l : List Msg} (h : fitB l = true) (n k : Nat) (hk : Lies l n k) (y : UInt8) (hy : ∀ hb : k < (strB l).length, (strB l)[k] ≠ y) : (fedF ((strB l).set k y)).ms = l.take n ∧ (fedF ((strB l).set k y)).e ≠ 0 := by
  obtain ⟨hn, k1, k2⟩ := hk
  obtain ⟨rest, hs⟩ := str_cut l n hn
  obtain ⟨A, hA⟩ : ∃ A, putsB (l.take n) = A := ⟨_, rfl⟩
  obtain ⟨X, hX⟩ : ∃ X, nth l n = X := ⟨_, rfl⟩
  rw [hA, hX] at hs
  rw [hA] at k1
  rw [hA, hX] at k2
  have hlen : k < (strB l).length := by rw [hs]; simp only [List.length_append]; omega
  have hj : k - A.length < X.length := by omega
  have hx : X[k - A.length] ≠ y := by
    have := hy hlen
    simp only [hs] at this
    rw [List.getElem_append_right k1, List.getElem_append_left hj] at this
    exact this
  have e : (strB l).set k y = A ++ (X.set (k - A.length) y ++ rest) := by
    rw [hs, List.set_append_right _ _ k1, List.set_append_left _ _ hj]
  have hd : Dif X (X.set (k - A.length) y) := by
    refine ⟨X.take (k - A.length), X[k - A.length], y, X.drop (k - A.length + 1), hx, ?_, ?_⟩
    · rw [← List.drop_eq_getElem_cons hj, List.take_append_drop]
    · rw [List.set_eq_take_append_cons_drop, if_pos hj]
  have ef : fedF (A ++ (X.set (k - A.length) y ++ rest)) = feedF (startF 65536 4194304 (l.take n)) (X.set (k - A.length) y ++ rest) := by
    have := fed_first h n (X.set (k - A.length) y ++ rest)
    rw [hA] at this
    exact this
  rw [e, ef]
  have := nth_bad h n hn _ rest (by rw [hX]; exact hd)
  exact ⟨this.e.2.1, this.e.1⟩
end Go.Proofs.Ytemleibpmaclmaa.Kit
