import Derived.Test.YtkodgneneiledaaGreatDoorTP
import Derived.Test.YtkodgneneiledaaGreatDoorSF
namespace Go.Proofs.YtkodgneneiledaaGreatDoor.Kit
open Go.RowKit Go.Shelf Go.Deep
set_option linter.unusedVariables false

/-! ### there and back: numbers, kinds -/
theorem dec_form {n : Nat} (h : n < 100) : (n < 10 ∧ Lib.decDigits n = [UInt8.ofNat (48 + n)]) ∨ (10 ≤ n ∧ Lib.decDigits n = [UInt8.ofNat (48 + n / 10), UInt8.ofNat (48 + n % 10)]) := by
  by_cases h1 : n < 10
  · exact .inl ⟨h1, by rw [Lib.decDigits, dif_pos h1]⟩
  · exact .inr ⟨by omega, by rw [Lib.decDigits, dif_neg h1, Lib.decDigits, dif_pos (by omega)]; rfl⟩
set_option maxRecDepth 100000 in
theorem num_one : ∀ a : Fin 10, numO ⟨#[UInt8.ofNat (48 + a.val)]⟩ = (a.val : Int) ∧ wordB (UInt8.ofNat (48 + a.val)).toNat = true := by decide +kernel
set_option maxRecDepth 100000 in
theorem num_two : ∀ a b : Fin 10, 0 < a.val → numO ⟨#[UInt8.ofNat (48 + a.val), UInt8.ofNat (48 + b.val)]⟩ = (10 * a.val + b.val : Int) := by decide +kernel
theorem num_dec {n : Nat} (h : n < 100) : numO (⟨(Lib.decDigits n).toArray⟩) = (n : Int) := by
  rcases dec_form h with ⟨h1, e⟩ | ⟨h1, e⟩
  · rw [e]; exact (num_one ⟨n, h1⟩).1
  · rw [e]
    have := num_two ⟨n / 10, by omega⟩ ⟨n % 10, by omega⟩ (by simp only; omega)
    refine this.trans ?_
    simp only
    omega
theorem wd_dec {n : Nat} (h : n < 100) : Wd (Lib.decDigits n) := by
  have k : ∀ m, m < 10 → wordB (UInt8.ofNat (48 + m)).toNat = true := fun m hm => (num_one ⟨m, hm⟩).2
  rcases dec_form h with ⟨h1, e⟩ | ⟨h1, e⟩
  · rw [e]; exact ⟨by simp, fun b hb => by rw [List.mem_singleton.1 hb]; exact k n h1⟩
  · rw [e]
    refine ⟨by simp, fun b hb => ?_⟩
    rcases List.mem_cons.1 hb with rfl | hb
    · exact k _ (by omega)
    · rw [List.mem_singleton.1 hb]; exact k _ (by omega)
set_option maxRecDepth 100000 in
theorem kind_word : ∀ k : Fin 21, 0 < k.val → kindO ⟨(wordK k.val).toArray⟩ = (k.val : Int) ∧ wordK k.val ≠ [] ∧ (∀ b ∈ wordK k.val, wordB b.toNat = true) := by decide +kernel
theorem wd_kind {k : Nat} (h0 : 0 < k) (h : k < 21) : Wd (wordK k) := ⟨(kind_word ⟨k, h⟩ h0).2.1, (kind_word ⟨k, h⟩ h0).2.2⟩
theorem kind_back {k : Nat} (h0 : 0 < k) (h : k < 21) : kindO ⟨(wordK k).toArray⟩ = (k : Int) := (kind_word ⟨k, h⟩ h0).1
theorem index_back {k : Nat} (h0 : 3 ≤ k) (h : k ≤ 10) : indexO ⟨(wordK k).toArray⟩ = (k : Int) := by
  have e := kind_back (k := k) (by omega) (by omega)
  unfold indexO
  rw [e, if_pos]
  unfold indexB
  simp only [Bool.and_eq_true, decide_eq_true_eq]
  omega
/-! quoted texts -/
theorem next_at {T l : List UInt8} {a : Nat} {c : UInt8} (g : List Nat) (h : T.drop a = c :: l) : nextP T (a, g) = .ok (c, (a + 1, g)) ∧ T.drop (a + 1) = l := by
  have e : T[a]? = some c := by rw [← List.head?_drop, h]; rfl
  refine ⟨by unfold nextP; rw [e], ?_⟩
  rw [← List.drop_drop, h]; rfl
set_option maxRecDepth 100000 in
theorem hex_back : ∀ n : Fin 16, hexV (hxB n.val) = some n.val := by decide +kernel
theorem digit_at {T l : List UInt8} {a n : Nat} (hn : n < 16) (o : Nat) (g : List Nat) (h : T.drop a = hxB n :: l) : digitP T o (a, g) = .ok (n, (a + 1, g)) ∧ T.drop (a + 1) = l := by
  obtain ⟨e, h'⟩ := next_at g h
  refine ⟨(Pr.bind_ok e).trans ?_, h'⟩
  show (match hexV (hxB n) with | none => Except.error o | some n => Except.ok (n, ((a + 1, g) : Ps))) = _
  rw [hex_back ⟨n, hn⟩]
theorem quo_nextP {T acc : List UInt8} {n a : Nat} {g : List Nat} {c : UInt8} {s : Ps} (e : nextP T (a, g) = .ok (c, s)) : quoP T (n + 1) acc (a, g) = (if c = 34 then Pr.pure ⟨acc.toArray⟩
      else if c = 92 then (escP T a).bind fun b => quoP T n (acc ++ [b])
      else if plainB c then quoP T n (acc ++ [c])
      else fun _ => .error a) s := Pr.bind_ok e
theorem quo_at {T m : List UInt8} (g : List Nat) : ∀ (bs acc : List UInt8) (n a : Nat), bs.length < n → T.drop a = bs.flatMap qb ++ 34 :: m → ∃ a', quoP T n acc (a, g) = .ok (⟨(acc ++ bs).toArray⟩, (a', g)) ∧ T.drop a' = m
  | [], acc, 0, a, hn, h => absurd hn (by simp)
  | _ :: _, acc, 0, a, hn, h => absurd hn (by simp)
  | [], acc, n + 1, a, hn, h => by
    obtain ⟨e, h'⟩ := next_at g (show T.drop a = 34 :: m from h)
    refine ⟨a + 1, ?_, h'⟩
    rw [quo_nextP e, if_pos rfl, List.append_nil]; rfl
  | b :: bs, acc, n + 1, a, hn, h => by
    rw [List.length_cons] at hn
    have hn' : bs.length < n := by omega
    have ea : ∀ x : UInt8, x = b → acc ++ [x] ++ bs = acc ++ b :: bs := fun x hx => by rw [hx]; simp
    rw [List.flatMap_cons, List.append_assoc] at h
    unfold qb at h
    by_cases h1 : b.toNat = 34 ∨ b.toNat = 92
    · rw [if_pos h1] at h
      obtain ⟨e, h2⟩ := next_at g (show T.drop a = 92 :: b :: (bs.flatMap qb ++ 34 :: m) from h)
      obtain ⟨e2, h3⟩ := next_at g h2
      obtain ⟨a', e3, h4⟩ := quo_at g bs (acc ++ [b]) n (a + 1 + 1) hn' h3
      refine ⟨a', ?_, h4⟩
      have hb : b = 34 ∨ b = 92 := h1.imp (fun h => UInt8.toNat_inj.1 h) (fun h => UInt8.toNat_inj.1 h)
      have es : escP T a (a + 1, g) = .ok (b, (a + 1 + 1, g)) := by rw [escP, Pr.bind_ok e2, if_pos hb]; rfl
      rw [quo_nextP e, if_neg (by decide), if_pos rfl, Pr.bind_ok es, e3, ea b rfl]
    · rw [if_neg h1] at h
      by_cases h2 : 32 ≤ b.toNat ∧ b.toNat ≤ 126
      · rw [if_pos h2] at h
        obtain ⟨e, h3⟩ := next_at g (show T.drop a = b :: (bs.flatMap qb ++ 34 :: m) from h)
        obtain ⟨a', e3, h4⟩ := quo_at g bs (acc ++ [b]) n (a + 1) hn' h3
        refine ⟨a', ?_, h4⟩
        rw [quo_nextP e, if_neg (fun h => h1 (.inl (by rw [h]; rfl))), if_neg (fun h => h1 (.inr (by rw [h]; rfl))), if_pos (by unfold plainB; simp [h2.1, h2.2]), e3, ea b rfl]
      · rw [if_neg h2] at h
        have hl := b.toNat_lt
        obtain ⟨e, h3⟩ := next_at g (show T.drop a = 92 :: 120 :: hxB (b.toNat / 16) :: hxB (b.toNat % 16) :: (bs.flatMap qb ++ 34 :: m) from h)
        obtain ⟨e2, h4⟩ := next_at g h3
        obtain ⟨e3, h5⟩ := digit_at (n := b.toNat / 16) (by omega) a g h4
        obtain ⟨e4, h6⟩ := digit_at (n := b.toNat % 16) (by omega) a g h5
        obtain ⟨a', e5, h7⟩ := quo_at g bs (acc ++ [b]) n (a + 1 + 1 + 1 + 1) hn' h6
        refine ⟨a', ?_, h7⟩
        have eb : UInt8.ofNat (16 * (b.toNat / 16) + b.toNat % 16) = b := by
          rw [show 16 * (b.toNat / 16) + b.toNat % 16 = b.toNat from by omega]
          exact UInt8.toNat_inj.1 (by rw [UInt8.toNat_ofNat']; omega)
        have es : escP T a (a + 1, g) = .ok (b, (a + 1 + 1 + 1 + 1, g)) := by
          rw [escP, Pr.bind_ok e2, if_neg (by decide), if_pos rfl, Pr.bind_ok e3, Pr.bind_ok e4, eb]; rfl
        rw [quo_nextP e, if_neg (by decide), if_pos rfl, Pr.bind_ok es, e5, ea b rfl]
theorem qt_list (s : ByteArray) : (qtB s).data.toList = 34 :: (s.data.toList.flatMap qb ++ [34]) := by
  show (qP s s.size ++ [34]) = _
  unfold qP
  rw [List.take_of_length_le (by show s.data.toList.length ≤ s.data.size; simp)]
  simp
theorem rds_quoted {T m : List UInt8} (s : ByteArray) (hs : s.size < D0) : Rds T (quotedP T) s ((qtB s).data.toList ++ m) m := fun a g h => by
  rw [qt_list] at h
  have hb : blankB 34 = false := by decide
  obtain ⟨a', e, h'⟩ := peek_at g h
  have ee : (34 :: (s.data.toList.flatMap qb ++ [34]) ++ m : List UInt8) = 34 :: (s.data.toList.flatMap qb ++ 34 :: m) := by simp
  rw [ee, sk_of hb] at e h'
  have em : mustP T 34 (a, g) = .ok ((), (a' + 1, g)) := by
    unfold mustP takesP
    rw [Pr.bind_ok ((Pr.bind_ok e).trans (if_pos rfl)), if_pos rfl]
  obtain ⟨a2, e2, h2⟩ := quo_at g s.data.toList [] D0 (a' + 1) (by show s.data.toList.length < D0; simpa using hs) (next_at g h').2
  exact ⟨a2, g, (Pr.bind_ok em).trans (by rw [e2]; simp), by rw [h2]⟩
end Go.Proofs.YtkodgneneiledaaGreatDoor.Kit
namespace Go.Proofs.YtkodgneneiledaaGreatDoor.Kit
open Go.RowKit Go.Shelf Go.Deep
set_option linter.unusedVariables false

/-! ### there and back: lists, types, fields, schemas -/
theorem Rds.cong {α : Type} {T : List UInt8} {r : Pr α} {x : α} {l l' m : List UInt8} (h : Rds T r x l m) (e : sk l' = sk l) : Rds T r x l' m := fun a g h' => h a g (h'.trans e)
/-- what may stand behind a field -/
structure Fol (m : List UInt8) : Prop where
  nw : NW m
  nq : (sk m).headD 0 ≠ 63
theorem fol_of {c : UInt8} (m : List UInt8) (h1 : wordB c.toNat = false) (h2 : blankB c = false) (h3 : c ≠ 63) : Fol (c :: m) :=
  ⟨fun d hd => by cases hd; exact h1, by rw [sk_of h2]; exact h3⟩
theorem nw_of {c : UInt8} (m : List UInt8) (h1 : wordB c.toNat = false) : NW (c :: m) := fun d hd => by cases hd; exact h1
theorem rds_note {T m : List UInt8} (k t : ByteArray) (hk : k.size < D0) (ht : t.size < D0) : Rds T (noteP T) (k, t) ((qtB k).data.toList ++ 32 :: ((qtB t).data.toList ++ m)) m :=
  (rds_quoted k hk).bind (((rds_quoted t ht).cong (sk_blank _)).bind (Rds.pure _ _))
theorem joinTail_cons (x : List UInt8) (r : List (List UInt8)) : Lib.joinTail [44, 32] (x :: r) = 44 :: 32 :: (x ++ Lib.joinTail [44, 32] r) := by
  unfold Lib.joinTail; simp
theorem rds_com {α : Type} {T m : List UInt8} {item : Pr α} {tx : α → List UInt8} (hm : Fol m) (h44 : (sk m).headD 0 ≠ 44) : ∀ (xs acc : List α) (n : Nat), (∀ x ∈ xs, ∀ post, Fol post → Rds T item x (tx x ++ post) post) → xs.length < n →
    Rds T (comP T item n acc) (acc ++ xs) (Lib.joinTail [44, 32] (xs.map tx) ++ m) m
  | _, acc, 0, _, hn => absurd hn (by simp)
  | [], acc, n + 1, hi, hn => by
    rw [comP]
    have := (rds_takes_no (T := T) h44).bind (f := fun b => if b then item.bind fun x => comP T item n (acc ++ [x]) else Pr.pure acc) (Rds.pure acc m)
    simpa [Lib.joinTail] using this
  | x :: xs, acc, n + 1, hi, hn => by
    rw [comP, List.map_cons, joinTail_cons]
    have hf : Fol (Lib.joinTail [44, 32] (xs.map tx) ++ m) := by
      cases xs with
      | nil => simpa [Lib.joinTail] using hm
      | cons y ys => rw [List.map_cons, joinTail_cons]; exact fol_of _ (by decide) (by decide) (by decide)
    have h1 := hi x (by simp) _ hf
    have h2 := rds_com hm h44 xs (acc ++ [x]) n (fun y hy => hi y (by simp [hy])) (by simpa using hn)
    rw [List.append_assoc, List.singleton_append] at h2
    have h3 : Rds T (item.bind fun x => comP T item n (acc ++ [x])) (acc ++ x :: xs) (32 :: (tx x ++ (Lib.joinTail [44, 32] (xs.map tx) ++ m))) m := (h1.cong (sk_blank _)).bind h2
    have h4 := (rds_takes (T := T) (c := 44) (by decide) (32 :: (tx x ++ (Lib.joinTail [44, 32] (xs.map tx) ++ m)))).bind (f := fun b => if b then item.bind fun x => comP T item n (acc ++ [x]) else Pr.pure acc) h3
    simpa using h4
theorem rds_many {α : Type} {T m : List UInt8} {item : Pr α} {tx : α → List UInt8} (xs : List α) (hne : xs ≠ []) (hi : ∀ x ∈ xs, ∀ post, Fol post → Rds T item x (tx x ++ post) post) (hm : Fol m) (h44 : (sk m).headD 0 ≠ 44) (hn : xs.length < D0) :
    Rds T (manyP T item) xs (Lib.join (xs.map tx) [44, 32] ++ m) m := by
  cases xs with
  | nil => exact absurd rfl hne
  | cons x xs =>
    rw [List.map_cons, Lib.join_cons, List.append_assoc]
    have hf : Fol (Lib.joinTail [44, 32] (xs.map tx) ++ m) := by
      cases xs with
      | nil => simpa [Lib.joinTail] using hm
      | cons y ys => rw [List.map_cons, joinTail_cons]; exact fol_of _ (by decide) (by decide) (by decide)
    rw [List.length_cons] at hn
    exact (hi x (by simp) _ hf).bind (rds_com hm h44 xs [x] D0 (fun y hy => hi y (by simp [hy])) (by omega))
theorem brack_list (k : Nat) (ts : List ByteArray) : (brackB k ts).data.toList = wordK k ++ 40 :: (Lib.join (ts.map (·.data.toList)) [44, 32] ++ [41]) := by
  unfold brackB joinB
  simp [ByteArray.data_append]
theorem table_parts {f : FT} (ht : tableB f = true) : (0 < f.kind ∧ f.kind < 21) ∧ leastK f.kind.toNat ≤ (f.kids.length : Int) ∧ (f.kids.length : Int) ≤ mostK f.kind.toNat ∧
    ((f.kind = 14 → 1 ≤ f.width ∧ f.width ≤ 16) ∧ (f.kind = 16 → 1 ≤ f.width ∧ f.width ≤ 64) ∧ (f.kind ≠ 14 → f.kind ≠ 16 → f.width = 0)) ∧
    ((f.kind = 19 → (0 ≤ f.id ∧ f.id < 32) ∧ 3 ≤ f.index ∧ f.index ≤ 10) ∧ (f.kind ≠ 19 → f.id = 0 ∧ f.index = 0)) := by
  unfold tableB kindB widthB dictB indexB at ht
  simp only [Bool.and_eq_true, decide_eq_true_eq] at ht
  obtain ⟨hk, ⟨⟨hl, hu⟩, hw⟩, hd⟩ := ht
  refine ⟨hk, hl, hu, ⟨fun e => ?_, fun e => ?_, fun e e' => ?_⟩, fun e => ?_, fun e => ?_⟩
  · rw [if_pos e] at hw; simpa using hw
  · rw [if_neg (by omega), if_pos e] at hw; simpa using hw
  · rw [if_neg e, if_neg e'] at hw; simpa using hw
  · rw [if_pos e] at hd; simpa using hd
  · rw [if_neg e] at hd; simpa using hd
theorem rds_inner {T m : List UInt8} {rec : Pr FT} {tx : FT → ByteArray} (f : FT) (ht : tableB f = true) (h14 : 14 ≤ f.kind)
    (hi : ∀ x ∈ f.kids, ∀ post, Fol post → Rds T rec x ((tx x).data.toList ++ post) post) (hw : ∀ x ∈ f.kids, ∃ c r, (tx x).data.toList = c :: r ∧ wordB c.toNat = true) (hm : Fol m) (h44 : (sk m).headD 0 ≠ 44) (h41 : (sk m).headD 0 = 41) :
    Rds T (innP T rec f.kind) ⟨f.width, f.id, f.index, f.kids⟩ (Lib.join ((numsB f ++ f.kids.map tx).map (·.data.toList)) [44, 32] ++ m) m := by
  obtain ⟨⟨k0, k1⟩, hl, hu, ⟨w14, w16, w0⟩, d19, d0⟩ := table_parts ht
  clear ht
  obtain ⟨nm, nu, kd, wd, di, ix, ks⟩ := f
  simp only [FT.kind, FT.width, FT.id, FT.index, FT.kids] at h14 hi hw k0 k1 hl hu w14 w16 w0 d19 d0 ⊢
  have nd : ∀ n : Nat, n < 100 → Wd (Lib.decDigits n) := fun n h => wd_dec h
  have kk : kd = 14 ∨ kd = 15 ∨ kd = 16 ∨ kd = 17 ∨ kd = 18 ∨ kd = 19 ∨ kd = 20 := by omega
  have one : leastK kd.toNat = 1 → mostK kd.toNat = 1 → ∃ x, ks = [x] := fun a b => by
    rw [a] at hl; rw [b] at hu
    have : ks.length = 1 := by omega
    exact List.length_eq_one_iff.1 this
  have dec : ∀ z : Int, 0 ≤ z → z < 100 → numO ⟨(Lib.decDigits z.toNat).toArray⟩ = z := fun z h1 h2 => by rw [num_dec (by omega)]; omega
  rcases kk with rfl | rfl | rfl | rfl | rfl | rfl | rfl
  · -- fixed
    have e0 : ks = [] := List.eq_nil_of_length_eq_zero (by have : mostK (14 : Int).toNat = 0 := rfl; rw [this] at hu; omega)
    subst e0
    obtain ⟨rfl, rfl⟩ := d0 (by decide)
    have hwid := w14 rfl
    have h := (rds_mean (T := T) (nd wd.toNat (by omega)) hm.nw numO (by rw [dec wd (by omega) (by omega)]; omega)).last fun x => (⟨x, 0, 0, []⟩ : TP)
    rw [dec wd (by omega) (by omega)] at h
    simpa [innP, numsB, FT.kind, FT.width, decB, Lib.join_one] using h
  · obtain ⟨x, rfl⟩ := one rfl rfl
    obtain ⟨rfl, rfl⟩ := d0 (by decide)
    obtain rfl := w0 (by decide) (by decide)
    have h := (hi x (by simp) m hm).last fun f => (⟨0, 0, 0, [f]⟩ : TP)
    simpa [innP, numsB, FT.kind, Lib.join_one] using h
  · obtain ⟨x, rfl⟩ := one rfl rfl
    obtain ⟨rfl, rfl⟩ := d0 (by decide)
    have hwid := w16 rfl
    have h := (rds_mean (T := T) (m := 44 :: 32 :: ((tx x).data.toList ++ m)) (nd wd.toNat (by omega)) (nw_of _ (by decide)) numO (by rw [dec wd (by omega) (by omega)]; omega)).bind
      (f := fun y => (mustP T 44).bind fun _ => rec.bind fun f => Pr.pure (TP.mk y 0 0 [f])) ((rds_must (by decide) _).bind (((hi x (by simp) m hm).cong (sk_blank _)).last fun f => TP.mk (numO ⟨(Lib.decDigits wd.toNat).toArray⟩) 0 0 [f]))
    rw [dec wd (by omega) (by omega)] at h
    simpa [innP, numsB, FT.kind, FT.width, decB, Lib.join_cons, joinTail_cons, Lib.joinTail] using h
  · skip
    obtain ⟨rfl, rfl⟩ := d0 (by decide)
    obtain rfl := w0 (by decide) (by decide)
    have hu' : (ks.length : Int) ≤ 32 := hu
    by_cases e0 : ks = []
    · subst e0
      have h := (rds_peek (T := T) m).bind (f := fun c => if c = 41 then Pr.pure (TP.mk 0 0 0 []) else (manyP T rec).bind fun l => Pr.pure (TP.mk 0 0 0 l)) (by rw [h41, if_pos rfl]; exact Rds.pure (⟨0, 0, 0, []⟩ : TP) m)
      simpa [innP, numsB, FT.kind, Lib.join_nil] using h
    · have hM := (rds_many (tx := fun x => (tx x).data.toList) ks e0 hi hm h44 (by unfold D0; omega)).last fun l => (⟨0, 0, 0, l⟩ : TP)
      have hp : (sk (Lib.join (ks.map fun x => (tx x).data.toList) [44, 32] ++ m)).headD 0 ≠ 41 := by
        cases ks with
        | nil => exact absurd rfl e0
        | cons x xs =>
          obtain ⟨c, r, e, hc⟩ := hw x (by simp)
          rw [List.map_cons, Lib.join_cons, e, List.cons_append, List.cons_append, sk_of (wordB_blank hc)]
          intro h
          have h : c = 41 := h
          rw [h] at hc
          exact absurd hc (by decide)
      have h := (rds_peek (T := T) _).bind (f := fun c => if c = 41 then Pr.pure (TP.mk 0 0 0 []) else (manyP T rec).bind fun l => Pr.pure (TP.mk 0 0 0 l)) (by rw [if_neg hp]; exact hM)
      simpa [innP, numsB, FT.kind, Function.comp_def] using h
  · skip
    obtain ⟨rfl, rfl⟩ := d0 (by decide)
    obtain rfl := w0 (by decide) (by decide)
    have hu' : (ks.length : Int) ≤ 32 := hu
    have hl' : (1 : Int) ≤ ks.length := hl
    have h := (rds_many (tx := fun x => (tx x).data.toList) ks (fun h => by rw [h] at hl'; exact absurd hl' (by decide)) hi hm h44 (by unfold D0; omega)).last fun l => (⟨0, 0, 0, l⟩ : TP)
    simpa [innP, numsB, FT.kind, Function.comp_def] using h
  · obtain ⟨x, rfl⟩ := one rfl rfl
    obtain rfl := w0 (by decide) (by decide)
    obtain ⟨⟨d0, d1⟩, i0, i1⟩ := d19 rfl
    have ei : indexO ⟨(wordK ix.toNat).toArray⟩ = ix := by rw [index_back (by omega) (by omega)]; omega
    have h2 := (rds_mean (T := T) (m := 44 :: 32 :: ((tx x).data.toList ++ m)) (wd_kind (k := ix.toNat) (by omega) (by omega)) (nw_of _ (by decide)) indexO (by rw [ei]; omega)).bind
      (f := fun y => (mustP T 44).bind fun _ => rec.bind fun f => Pr.pure (TP.mk 0 di y [f])) ((rds_must (by decide) _).bind (((hi x (by simp) m hm).cong (sk_blank _)).last fun f => TP.mk 0 di (indexO ⟨(wordK ix.toNat).toArray⟩) [f]))
    rw [ei] at h2
    have h := (rds_mean (T := T) (m := 44 :: 32 :: (wordK ix.toNat ++ 44 :: 32 :: ((tx x).data.toList ++ m))) (nd di.toNat (by omega)) (nw_of _ (by decide)) numO (by rw [dec di (by omega) (by omega)]; omega)).bind
      (f := fun x => (mustP T 44).bind fun _ => (meanP T indexO).bind fun y => (mustP T 44).bind fun _ => rec.bind fun f => Pr.pure (TP.mk 0 x y [f])) ((rds_must (by decide) _).bind ((h2.cong (sk_blank _)).cong (by rfl) |> fun h => by rw [dec di (by omega) (by omega)]; exact h))
    simpa [innP, numsB, FT.kind, FT.id, FT.index, decB, wdB, Lib.join_cons, joinTail_cons, Lib.joinTail] using h
  · obtain ⟨x, rfl⟩ := one rfl rfl
    obtain ⟨rfl, rfl⟩ := d0 (by decide)
    obtain rfl := w0 (by decide) (by decide)
    have h := (hi x (by simp) m hm).last fun f => (⟨0, 0, 0, [f]⟩ : TP)
    simpa [innP, numsB, FT.kind, Lib.join_one] using h
end Go.Proofs.YtkodgneneiledaaGreatDoor.Kit
