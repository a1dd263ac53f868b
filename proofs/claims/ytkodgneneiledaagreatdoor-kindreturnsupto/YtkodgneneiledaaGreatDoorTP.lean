import Derived.Test.YtkodgneneiledaaGreatDoorFF
namespace Go.Proofs.YtkodgneneiledaaGreatDoor.Kit
open Go.RowKit Go.Shelf Go.Deep
set_option linter.unusedVariables false

/-! ### the parser, as a function of the text: where it stands, and where the fields' names begin -/
def blankB (b : UInt8) : Bool := b == 32 || b == 9 || b == 10
def sk (l : List UInt8) : List UInt8 := l.dropWhile blankB
def skN (l : List UInt8) : Nat := (l.takeWhile blankB).length
/-- more than a text may have of bytes -/
def D0 : Nat := 65537
abbrev Ps := Nat × List Nat
abbrev Pr (α : Type) := Ps → Except Nat (α × Ps)
def Pr.bind {α β : Type} (r : Pr α) (f : α → Pr β) : Pr β := fun s =>
  match r s with
  | .ok (a, s') => f a s'
  | .error e => .error e
def Pr.pure {α : Type} (a : α) : Pr α := fun s => .ok (a, s)
theorem Pr.bind_ok {α β : Type} {r : Pr α} {f : α → Pr β} {s s' : Ps} {a : α} (h : r s = .ok (a, s')) : r.bind f s = f a s' := by
  unfold Pr.bind; rw [h]
theorem Pr.bind_err {α β : Type} {r : Pr α} {f : α → Pr β} {s : Ps} {e : Nat} (h : r s = .error e) : r.bind f s = .error e := by
  unfold Pr.bind; rw [h]
def peekP (T : List UInt8) : Pr UInt8 := fun s => .ok ((sk (T.drop s.1)).headD 0, (s.1 + skN (T.drop s.1), s.2))
def takesP (T : List UInt8) (c : UInt8) : Pr Bool := (peekP T).bind fun x s => if x = c then .ok (true, (s.1 + 1, s.2)) else .ok (false, s)
def mustP (T : List UInt8) (c : UInt8) : Pr Unit := (takesP T c).bind fun b s => if b then .ok ((), s) else .error s.1
def endP (T : List UInt8) : Pr Unit := (peekP T).bind fun _ s => if s.1 < T.length then .error s.1 else .ok ((), s)
def wordsB (l : List UInt8) : List UInt8 := l.takeWhile fun b => wordB b.toNat
def wordP (T : List UInt8) : Pr (ByteArray × Nat) := (peekP T).bind fun _ s => .ok ((⟨(wordsB (T.drop s.1)).toArray⟩, s.1), (s.1 + (wordsB (T.drop s.1)).length, s.2))
def meanP (T : List UInt8) (of : ByteArray → Int) : Pr Int := (wordP T).bind fun x s => if of x.1 < 0 then .error x.2 else .ok (of x.1, s)
def nameP (T : List UInt8) : Pr ByteArray := (wordP T).bind fun x s => if x.1.size = 0 then .error x.2 else .ok (x.1, (s.1, s.2 ++ [x.2]))
/-! words: kinds and numbers -/
def kindO (x : ByteArray) : Int := ((List.range 21).find? fun k => decide (0 < k) && decide (x.data.toList = wordK k)).elim (-1) fun k => (k : Int)
def indexO (x : ByteArray) : Int := if indexB (kindO x) then kindO x else -1
def decN (l : List UInt8) : Nat := l.foldl (fun n b => 10 * n + (b.toNat - 48)) 0
def numO (x : ByteArray) : Int :=
  if x.size < 1 ∨ 4 < x.size ∨ (x.data.toList.headD 0 = 48 ∧ 1 < x.size) then -1
  else if x.data.toList.all (fun b => digitB b.toNat) then (decN x.data.toList : Int) else -1
/-! quoted texts -/
def nextP (T : List UInt8) : Pr UInt8 := fun s => match T[s.1]? with | none => .error s.1 | some c => .ok (c, (s.1 + 1, s.2))
def hexV (c : UInt8) : Option Nat := if 48 ≤ c.toNat ∧ c.toNat ≤ 57 then some (c.toNat - 48) else if 97 ≤ c.toNat ∧ c.toNat ≤ 102 then some (c.toNat - 87) else none
def digitP (T : List UInt8) (o : Nat) : Pr Nat := (nextP T).bind fun c s => match hexV c with | none => .error o | some n => .ok (n, s)
def escP (T : List UInt8) (o : Nat) : Pr UInt8 := (nextP T).bind fun c =>
  if c = 34 ∨ c = 92 then Pr.pure c
  else if c = 120 then (digitP T o).bind fun h => (digitP T o).bind fun l => Pr.pure (UInt8.ofNat (16 * h + l))
  else fun _ => .error o
def plainB (c : UInt8) : Bool := decide (32 ≤ c.toNat) && decide (c.toNat ≤ 126)
def quoP (T : List UInt8) : Nat → List UInt8 → Pr ByteArray
  | 0, _ => fun s => .error s.1
  | n + 1, acc => fun s => (nextP T).bind (fun c =>
      if c = 34 then Pr.pure ⟨acc.toArray⟩
      else if c = 92 then (escP T s.1).bind fun b => quoP T n (acc ++ [b])
      else if plainB c then quoP T n (acc ++ [c])
      else fun _ => .error s.1) s
def quotedP (T : List UInt8) : Pr ByteArray := (mustP T 34).bind fun _ => quoP T D0 []
def noteP (T : List UInt8) : Pr (ByteArray × ByteArray) := (quotedP T).bind fun k => (quotedP T).bind fun t => Pr.pure (k, t)
/-! lists, fields, schemas -/
def comP {α : Type} (T : List UInt8) (item : Pr α) : Nat → List α → Pr (List α)
  | 0, acc => Pr.pure acc
  | n + 1, acc => (takesP T 44).bind fun b => if b then item.bind fun x => comP T item n (acc ++ [x]) else Pr.pure acc
def manyP {α : Type} (T : List UInt8) (item : Pr α) : Pr (List α) := item.bind fun x => comP T item D0 [x]
structure TP where
  width : Int
  id : Int
  index : Int
  kids : List FT
def innP (T : List UInt8) (rec : Pr FT) (k : Int) : Pr TP :=
  if k = 14 then (meanP T numO).bind fun x => Pr.pure ⟨x, 0, 0, []⟩
  else if k = 15 ∨ k = 20 then rec.bind fun f => Pr.pure ⟨0, 0, 0, [f]⟩
  else if k = 16 then (meanP T numO).bind fun x => (mustP T 44).bind fun _ => rec.bind fun f => Pr.pure ⟨x, 0, 0, [f]⟩
  else if k = 17 then (peekP T).bind fun c => if c = 41 then Pr.pure ⟨0, 0, 0, []⟩ else (manyP T rec).bind fun l => Pr.pure ⟨0, 0, 0, l⟩
  else if k = 18 then (manyP T rec).bind fun l => Pr.pure ⟨0, 0, 0, l⟩
  else if k = 19 then (meanP T numO).bind fun x => (mustP T 44).bind fun _ => (meanP T indexO).bind fun y => (mustP T 44).bind fun _ => rec.bind fun f => Pr.pure ⟨0, x, y, [f]⟩
  else Pr.pure ⟨0, 0, 0, []⟩
def typP (T : List UInt8) (rec : Pr FT) : Pr (Int × TP) := (meanP T kindO).bind fun k =>
  if k < 14 then Pr.pure (k, ⟨0, 0, 0, []⟩) else (mustP T 40).bind fun _ => (innP T rec k).bind fun t => (mustP T 41).bind fun _ => Pr.pure (k, t)
def fieldP (T : List UInt8) : Nat → Pr FT
  | 0 => fun s => .error s.1
  | d + 1 => (nameP T).bind fun nm => (typP T (fieldP T d)).bind fun t => (takesP T 63).bind fun b => Pr.pure (.mk nm b t.1 t.2.width t.2.id t.2.index t.2.kids)
def notesP (T : List UInt8) (l : List FT) : Pr (List FT × List (ByteArray × ByteArray)) :=
  (takesP T 124).bind fun b => if b then (manyP T (noteP T)).bind fun ns => Pr.pure (l, ns) else Pr.pure (l, [])
def schP (T : List UInt8) : Pr (List FT × List (ByteArray × ByteArray)) := (peekP T).bind fun c s =>
  if c ≠ 124 ∧ s.1 < T.length then (manyP T (fieldP T D0)).bind (notesP T) s else notesP T [] s
def parseP (T : List UInt8) : Pr (List FT × List (ByteArray × ByteArray)) := (schP T).bind fun x => (endP T).bind fun _ => Pr.pure x
def parseFP (T : List UInt8) : Pr FT := (fieldP T D0).bind fun x => (endP T).bind fun _ => Pr.pure x

/-! ### there and back -/
theorem drop_skN (l : List UInt8) : l.drop (skN l) = sk l := by
  unfold skN sk
  induction l with
  | nil => rfl
  | cons x l ih =>
    by_cases h : blankB x = true
    · rw [List.takeWhile_cons_of_pos h, List.dropWhile_cons_of_pos h, List.length_cons, List.drop_succ_cons, ih]
    · rw [List.takeWhile_cons_of_neg h, List.dropWhile_cons_of_neg h]; rfl
theorem drop_sk (T : List UInt8) (a : Nat) : T.drop (a + skN (T.drop a)) = sk (T.drop a) := by rw [← List.drop_drop, drop_skN]
theorem sk_of {c : UInt8} {l : List UInt8} (h : blankB c = false) : sk (c :: l) = c :: l := by
  unfold sk; rw [List.dropWhile_cons_of_neg (by simp [h])]
theorem sk_blank (l : List UInt8) : sk (32 :: l) = sk l := by
  unfold sk; rw [List.dropWhile_cons_of_pos (by decide)]
theorem sk_sk (l : List UInt8) : sk (sk l) = sk l := by
  induction l with
  | nil => rfl
  | cons x l ih =>
    by_cases h : blankB x = true
    · have e : sk (x :: l) = sk l := by unfold sk; rw [List.dropWhile_cons_of_pos h]
      rw [e, ih]
    · have e := sk_of (l := l) (Bool.eq_false_iff.2 h)
      rw [e, e]
/-- what is read out of a text that goes on, behind blanks, with `l`: then it goes on with `m` -/
def Rds {α : Type} (T : List UInt8) (r : Pr α) (x : α) (l m : List UInt8) : Prop :=
  ∀ a g, sk (T.drop a) = sk l → ∃ a' g', r (a, g) = .ok (x, (a', g')) ∧ sk (T.drop a') = sk m
theorem Rds.pure {α : Type} {T : List UInt8} (x : α) (l : List UInt8) : Rds T (Pr.pure x) x l l := fun a g h => ⟨a, g, rfl, h⟩
theorem Rds.bind {α β : Type} {T : List UInt8} {r : Pr α} {f : α → Pr β} {x : α} {y : β} {l m n : List UInt8} (h1 : Rds T r x l m) (h2 : Rds T (f x) y m n) : Rds T (r.bind f) y l n := fun a g h => by
  obtain ⟨a', g', e, h'⟩ := h1 a g h
  obtain ⟨a2, g2, e2, h2'⟩ := h2 a' g' h'
  exact ⟨a2, g2, (Pr.bind_ok e).trans e2, h2'⟩
theorem Rds.last {α β : Type} {T : List UInt8} {r : Pr α} {x : α} {l m : List UInt8} (h1 : Rds T r x l m) (f : α → β) : Rds T (r.bind fun z => Pr.pure (f z)) (f x) l m := h1.bind (Rds.pure _ _)
theorem peek_at {T : List UInt8} {l : List UInt8} {a : Nat} (g : List Nat) (h : sk (T.drop a) = sk l) : ∃ a', peekP T (a, g) = .ok ((sk l).headD 0, (a', g)) ∧ T.drop a' = sk l :=
  ⟨a + skN (T.drop a), by unfold peekP; rw [h], by rw [drop_sk, h]⟩
theorem rds_peek {T : List UInt8} (l : List UInt8) : Rds T (peekP T) ((sk l).headD 0) l l := fun a g h => by
  obtain ⟨a', e, h'⟩ := peek_at g h
  exact ⟨a', g, e, by rw [h', sk_sk]⟩
theorem rds_takes {T : List UInt8} {c : UInt8} (hc : blankB c = false) (m : List UInt8) : Rds T (takesP T c) true (c :: m) m := fun a g h => by
  obtain ⟨a', e, h'⟩ := peek_at g h
  rw [sk_of hc] at e h'
  refine ⟨a' + 1, g, (Pr.bind_ok e).trans (if_pos rfl), ?_⟩
  rw [← List.drop_drop, h']; rfl
theorem rds_takes_no {T : List UInt8} {c : UInt8} {l : List UInt8} (hc : (sk l).headD 0 ≠ c) : Rds T (takesP T c) false l l := fun a g h => by
  obtain ⟨a', e, h'⟩ := peek_at g h
  exact ⟨a', g, (Pr.bind_ok e).trans (if_neg hc), by rw [h', sk_sk]⟩
theorem rds_must {T : List UInt8} {c : UInt8} (hc : blankB c = false) (m : List UInt8) : Rds T (mustP T c) () (c :: m) m := fun a g h => by
  obtain ⟨a', g', e, h'⟩ := rds_takes hc m a g h
  exact ⟨a', g', (Pr.bind_ok e).trans (if_pos rfl), h'⟩
/-- a word, and what stands behind it is none -/
structure Wd (w : List UInt8) : Prop where
  ne : w ≠ []
  all : ∀ b ∈ w, wordB b.toNat = true
def NW (m : List UInt8) : Prop := ∀ c, m.head? = some c → wordB c.toNat = false
theorem wordB_blank {c : UInt8} (h : wordB c.toNat = true) : blankB c = false := by
  by_cases hb : blankB c = true
  · unfold blankB at hb
    simp only [Bool.or_eq_true, beq_iff_eq] at hb
    rcases hb with (rfl | rfl) | rfl <;> exact absurd h (by decide)
  · exact Bool.eq_false_iff.2 hb
theorem words_app {w m : List UInt8} (h : ∀ b ∈ w, wordB b.toNat = true) (hm : NW m) : wordsB (w ++ m) = w := by
  unfold wordsB
  rw [List.takeWhile_append_of_pos h]
  cases m with
  | nil => simp
  | cons c m => rw [List.takeWhile_cons_of_neg (by simp [hm c rfl]), List.append_nil]
theorem Wd.sk {w : List UInt8} (h : Wd w) (m : List UInt8) : sk (w ++ m) = w ++ m := by
  cases w with
  | nil => exact absurd rfl h.ne
  | cons c w => exact sk_of (wordB_blank (h.all c (by simp)))
theorem word_at {T w m : List UInt8} (hw : Wd w) (hm : NW m) {a : Nat} (g : List Nat) (h : Kit.sk (T.drop a) = Kit.sk (w ++ m)) : ∃ a' o, wordP T (a, g) = .ok ((⟨w.toArray⟩, o), (a', g)) ∧ T.drop a' = m := by
  obtain ⟨a', e, h'⟩ := peek_at g h
  rw [hw.sk] at h'
  refine ⟨a' + w.length, a', (Pr.bind_ok e).trans ?_, ?_⟩
  · show Except.ok _ = _
    simp only [h', words_app hw.all hm]
  · rw [← List.drop_drop, h', List.drop_left]
theorem rds_mean {T w m : List UInt8} (hw : Wd w) (hm : NW m) (of : ByteArray → Int) (h0 : 0 ≤ of ⟨w.toArray⟩) : Rds T (meanP T of) (of ⟨w.toArray⟩) (w ++ m) m := fun a g h => by
  obtain ⟨a', o, e, h'⟩ := word_at hw hm g h
  exact ⟨a', g, (Pr.bind_ok e).trans (if_neg (Int.not_lt.2 h0)), by rw [h']⟩
theorem rds_name {T w m : List UInt8} (hw : Wd w) (hm : NW m) : Rds T (nameP T) ⟨w.toArray⟩ (w ++ m) m := fun a g h => by
  obtain ⟨a', o, e, h'⟩ := word_at hw hm g h
  refine ⟨a', g ++ [o], (Pr.bind_ok e).trans (if_neg ?_), by rw [h']⟩
  show ¬ w.toArray.size = 0
  rw [List.size_toArray]
  exact fun h0 => hw.ne (List.eq_nil_of_length_eq_zero h0)
end Go.Proofs.YtkodgneneiledaaGreatDoor.Kit
