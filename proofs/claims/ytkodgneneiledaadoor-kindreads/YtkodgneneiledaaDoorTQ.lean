import Derived.Test.YtkodgneneiledaaDoorTP
import Derived.Test.YtkodgneneiledaaDoorSF
namespace Go.Proofs.YtkodgneneiledaaDoor.Kit
open Go.RowKit Go.Shelf Go.Deep
set_option linter.unusedVariables false

/-! ### there and back: numbers, kinds -/
theorem dec_form {n : Nat} (h : n < 100) : (n < 10 ∧ Lib.decDigits n = [UInt8.ofNat (48 + n)]) ∨ (10 ≤ n ∧ Lib.decDigits n = [UInt8.ofNat (48 + n / 10), UInt8.ofNat (48 + n % 10)]) := by
  by_cases h1 : n < 10
  · exact .inl ⟨h1, by rw [Lib.decDigits, dif_pos h1]⟩
  · exact .inr ⟨by omega, by rw [Lib.decDigits, dif_neg h1, Lib.decDigits, dif_pos (by omega)]; rfl⟩
set_option maxRecDepth 100000 in
theorem num_one : ∀ a : Fin 10, numO ⟨#[UInt8.ofNat (48 + a.val)]⟩ = (a.val : Int) ∧ wordB (UInt8.ofNat (48 + a.val)).toNat = true := by decide +kernel
set_option maxRecDepth 100000 in
theorem num_two : ∀ a b : Fin 10, 0 < a.val → numO ⟨#[UInt8.ofNat (48 + a.val), UInt8.ofNat (48 + b.val)]⟩ = (10 * a.val + b.val : Int) := by decide +kernel
theorem num_dec {n : Nat} (h : n < 100) : numO (⟨(Lib.decDigits n).toArray⟩) = (n : Int) := by
  rcases dec_form h with ⟨h1, e⟩ | ⟨h1, e⟩
  · rw [e]; exact (num_one ⟨n, h1⟩).1
  · rw [e]
    have := num_two ⟨n / 10, by omega⟩ ⟨n % 10, by omega⟩ (by simp only; omega)
    refine this.trans ?_
    simp only
    omega
theorem wd_dec {n : Nat} (h : n < 100) : Wd (Lib.decDigits n) := by
  have k : ∀ m, m < 10 → wordB (UInt8.ofNat (48 + m)).toNat = true := fun m hm => (num_one ⟨m, hm⟩).2
  rcases dec_form h with ⟨h1, e⟩ | ⟨h1, e⟩
  · rw [e]; exact ⟨by simp, fun b hb => by rw [List.mem_singleton.1 hb]; exact k n h1⟩
  · rw [e]
    refine ⟨by simp, fun b hb => ?_⟩
    rcases List.mem_cons.1 hb with rfl | hb
    · exact k _ (by omega)
    · rw [List.mem_singleton.1 hb]; exact k _ (by omega)
set_option maxRecDepth 100000 in
theorem kind_word : ∀ k : Fin 21, 0 < k.val → kindO ⟨(wordK k.val).toArray⟩ = (k.val : Int) ∧ wordK k.val ≠ [] ∧ (∀ b ∈ wordK k.val, wordB b.toNat = true) := by decide +kernel
theorem wd_kind {k : Nat} (h0 : 0 < k) (h : k < 21) : Wd (wordK k) := ⟨(kind_word ⟨k, h⟩ h0).2.1, (kind_word ⟨k, h⟩ h0).2.2⟩
theorem kind_back {k : Nat} (h0 : 0 < k) (h : k < 21) : kindO ⟨(wordK k).toArray⟩ = (k : Int) := (kind_word ⟨k, h⟩ h0).1
theorem index_back {k : Nat} (h0 : 3 ≤ k) (h : k ≤ 10) : indexO ⟨(wordK k).toArray⟩ = (k : Int) := by
  have e := kind_back (k := k) (by omega) (by omega)
  unfold indexO
  rw [e, if_pos]
  unfold indexB
  simp only [Bool.and_eq_true, decide_eq_true_eq]
  omega
/-! quoted texts -/
theorem next_at {T l : List UInt8} {a : Nat} {c : UInt8} (g : List Nat) (h : T.drop a = c :: l) : nextP T (a, g) = .ok (c, (a + 1, g)) ∧ T.drop (a + 1) = l := by
  have e : T[a]? = some c := by rw [← List.head?_drop, h]; rfl
  refine ⟨by unfold nextP; rw [e], ?_⟩
  rw [← List.drop_drop, h]; rfl
set_option maxRecDepth 100000 in
theorem hex_back : ∀ n : Fin 16, hexV (hxB n.val) = some n.val := by decide +kernel
theorem digit_at {T l : List UInt8} {a n : Nat} (hn : n < 16) (o : Nat) (g : List Nat) (h : T.drop a = hxB n :: l) : digitP T o (a, g) = .ok (n, (a + 1, g)) ∧ T.drop (a + 1) = l := by
  obtain ⟨e, h'⟩ := next_at g h
  refine ⟨(Pr.bind_ok e).trans ?_, h'⟩
  show (match hexV (hxB n) with | none => Except.error o | some n => Except.ok (n, ((a + 1, g) : Ps))) = _
  rw [hex_back ⟨n, hn⟩]
theorem quo_nextP {T acc : List UInt8} {n a : Nat} {g : List Nat} {c : UInt8} {s : Ps} (e : nextP T (a, g) = .ok (c, s)) : quoP T (n + 1) acc (a, g) = (if c = 34 then Pr.pure ⟨acc.toArray⟩
      else if c = 92 then (escP T a).bind fun b => quoP T n (acc ++ [b])
      else if plainB c then quoP T n (acc ++ [c])
      else fun _ => .error a) s := Pr.bind_ok e
theorem quo_at {T m : List UInt8} (g : List Nat) : ∀ (bs acc : List UInt8) (n a : Nat), bs.length < n → T.drop a = bs.flatMap qb ++ 34 :: m → ∃ a', quoP T n acc (a, g) = .ok (⟨(acc ++ bs).toArray⟩, (a', g)) ∧ T.drop a' = m
  | [], acc, 0, a, hn, h => absurd hn (by simp)
  | _ :: _, acc, 0, a, hn, h => absurd hn (by simp)
  | [], acc, n + 1, a, hn, h => by
    obtain ⟨e, h'⟩ := next_at g (show T.drop a = 34 :: m from h)
    refine ⟨a + 1, ?_, h'⟩
    rw [quo_nextP e, if_pos rfl, List.append_nil]; rfl
  | b :: bs, acc, n + 1, a, hn, h => by
    rw [List.length_cons] at hn
    have hn' : bs.length < n := by omega
    have ea : ∀ x : UInt8, x = b → acc ++ [x] ++ bs = acc ++ b :: bs := fun x hx => by rw [hx]; simp
    rw [List.flatMap_cons, List.append_assoc] at h
    unfold qb at h
    by_cases h1 : b.toNat = 34 ∨ b.toNat = 92
    · rw [if_pos h1] at h
      obtain ⟨e, h2⟩ := next_at g (show T.drop a = 92 :: b :: (bs.flatMap qb ++ 34 :: m) from h)
      obtain ⟨e2, h3⟩ := next_at g h2
      obtain ⟨a', e3, h4⟩ := quo_at g bs (acc ++ [b]) n (a + 1 + 1) hn' h3
      refine ⟨a', ?_, h4⟩
      have hb : b = 34 ∨ b = 92 := h1.imp (fun h => UInt8.toNat_inj.1 h) (fun h => UInt8.toNat_inj.1 h)
      have es : escP T a (a + 1, g) = .ok (b, (a + 1 + 1, g)) := by rw [escP, Pr.bind_ok e2, if_pos hb]; rfl
      rw [quo_nextP e, if_neg (by decide), if_pos rfl, Pr.bind_ok es, e3, ea b rfl]
    · rw [if_neg h1] at h
      by_cases h2 : 32 ≤ b.toNat ∧ b.toNat ≤ 126
      · rw [if_pos h2] at h
        obtain ⟨e, h3⟩ := next_at g (show T.drop a = b :: (bs.flatMap qb ++ 34 :: m) from h)
        obtain ⟨a', e3, h4⟩ := quo_at g bs (acc ++ [b]) n (a + 1) hn' h3
        refine ⟨a', ?_, h4⟩
        rw [quo_nextP e, if_neg (fun h => h1 (.inl (by rw [h]; rfl))), if_neg (fun h => h1 (.inr (by rw [h]; rfl))), if_pos (by unfold plainB; simp [h2.1, h2.2]), e3, ea b rfl]
      · rw [if_neg h2] at h
        have hl := b.toNat_lt
        obtain ⟨e, h3⟩ := next_at g (show T.drop a = 92 :: 120 :: hxB (b.toNat / 16) :: hxB (b.toNat % 16) :: (bs.flatMap qb ++ 34 :: m) from h)
        obtain ⟨e2, h4⟩ := next_at g h3
        obtain ⟨e3, h5⟩ := digit_at (n := b.toNat / 16) (by omega) a g h4
        obtain ⟨e4, h6⟩ := digit_at (n := b.toNat % 16) (by omega) a g h5
        obtain ⟨a', e5, h7⟩ := quo_at g bs (acc ++ [b]) n (a + 1 + 1 + 1 + 1) hn' h6
        refine ⟨a', ?_, h7⟩
        have eb : UInt8.ofNat (16 * (b.toNat / 16) + b.toNat % 16) = b := by
          rw [show 16 * (b.toNat / 16) + b.toNat % 16 = b.toNat from by omega]
          exact UInt8.toNat_inj.1 (by rw [UInt8.toNat_ofNat']; omega)
        have es : escP T a (a + 1, g) = .ok (b, (a + 1 + 1 + 1 + 1, g)) := by
          rw [escP, Pr.bind_ok e2, if_neg (by decide), if_pos rfl, Pr.bind_ok e3, Pr.bind_ok e4, eb]; rfl
        rw [quo_nextP e, if_neg (by decide), if_pos rfl, Pr.bind_ok es, e5, ea b rfl]
theorem qt_list (s : ByteArray) : (qtB s).data.toList = 34 :: (s.data.toList.flatMap qb ++ [34]) := by
  show (qP s s.size ++ [34]) = _
  unfold qP
  rw [List.take_of_length_le (by show s.data.toList.length ≤ s.data.size; simp)]
  simp
theorem rds_quoted {T m : List UInt8} (s : ByteArray) (hs : s.size < D0) : Rds T (quotedP T) s ((qtB s).data.toList ++ m) m := fun a g h => by
  rw [qt_list] at h
  have hb : blankB 34 = false := by decide
  obtain ⟨a', e, h'⟩ := peek_at g h
  have ee : (34 :: (s.data.toList.flatMap qb ++ [34]) ++ m : List UInt8) = 34 :: (s.data.toList.flatMap qb ++ 34 :: m) := by simp
  rw [ee, sk_of hb] at e h'
  have em : mustP T 34 (a, g) = .ok ((), (a' + 1, g)) := by
    unfold mustP takesP
    rw [Pr.bind_ok ((Pr.bind_ok e).trans (if_pos rfl)), if_pos rfl]
  obtain ⟨a2, e2, h2⟩ := quo_at g s.data.toList [] D0 (a' + 1) (by show s.data.toList.length < D0; simpa using hs) (next_at g h').2
  exact ⟨a2, g, (Pr.bind_ok em).trans (by rw [e2]; simp), by rw [h2]⟩
end Go.Proofs.YtkodgneneiledaaDoor.Kit
