import Derived.Test.YtkodgneneiledaaGreatDoorTP
import Derived.Test.YtkodgneneiledaaGreatDoorMB
namespace Go.Proofs.YtkodgneneiledaaGreatDoor.Kit
open Go.RowKit Go.Shelf Go.Deep
set_option linter.unusedVariables false

/-! ### how far the parser goes, and how many names it keeps -/
theorem Pr.inv {α β : Type} {r : Pr α} {f : α → Pr β} {s s2 : Ps} {y : β} (h : r.bind f s = .ok (y, s2)) : ∃ x s1, r s = .ok (x, s1) ∧ f x s1 = .ok (y, s2) := by
  unfold Pr.bind at h
  cases e : r s with
  | error o => rw [e] at h; cases h
  | ok q => obtain ⟨x, s1⟩ := q; rw [e] at h; exact ⟨x, s1, rfl, h⟩
def Fw {α : Type} (r : Pr α) : Prop := ∀ s x s1, r s = .ok (x, s1) → s.1 ≤ s1.1 ∧ s1.2 = s.2
theorem Fw.bind {α β : Type} {r : Pr α} {f : α → Pr β} (h : Fw r) (k : ∀ x, Fw (f x)) : Fw (r.bind f) := fun s y s2 e => by
  obtain ⟨x, s1, e1, e2⟩ := Pr.inv e
  have a := h s x s1 e1
  have b := k x s1 y s2 e2
  exact ⟨Nat.le_trans a.1 b.1, b.2.trans a.2⟩
theorem fw_pure {α : Type} (x : α) : Fw (Pr.pure x) := fun s y s1 e => by cases e; exact ⟨Nat.le_refl _, rfl⟩
theorem fw_err {α : Type} (o : Ps → Nat) : Fw (fun s => .error (o s) : Pr α) := fun s y s1 e => by cases e
theorem fw_ite {α : Type} {c : Prop} [Decidable c] {r t : Pr α} (h : Fw r) (k : Fw t) : Fw (if c then r else t) := by split <;> assumption
theorem fw_peek (T : List UInt8) : Fw (peekP T) := fun s y s1 e => by cases e; exact ⟨Nat.le_add_right _ _, rfl⟩
theorem fw_takes (T : List UInt8) (c : UInt8) : Fw (takesP T c) := (fw_peek T).bind fun x s y s1 e => by
  (try dsimp only at e)
  split at e
  · cases e; exact ⟨Nat.le_succ _, rfl⟩
  · cases e; exact ⟨Nat.le_refl _, rfl⟩
theorem fw_must (T : List UInt8) (c : UInt8) : Fw (mustP T c) := (fw_takes T c).bind fun x s y s1 e => by
  (try dsimp only at e)
  split at e
  · cases e; exact ⟨Nat.le_refl _, rfl⟩
  · cases e
theorem fw_end (T : List UInt8) : Fw (endP T) := (fw_peek T).bind fun x s y s1 e => by
  (try dsimp only at e)
  split at e
  · cases e
  · cases e; exact ⟨Nat.le_refl _, rfl⟩
theorem fw_word (T : List UInt8) : Fw (wordP T) := (fw_peek T).bind fun x s y s1 e => by cases e; exact ⟨Nat.le_add_right _ _, rfl⟩
theorem fw_mean (T : List UInt8) (of : ByteArray → Int) : Fw (meanP T of) := (fw_word T).bind fun x s y s1 e => by
  (try dsimp only at e)
  split at e
  · cases e
  · cases e; exact ⟨Nat.le_refl _, rfl⟩
theorem fw_next (T : List UInt8) : Fw (nextP T) := fun s y s1 e => by
  unfold nextP at e
  split at e
  · cases e
  · cases e; exact ⟨Nat.le_succ _, rfl⟩
theorem fw_digit (T : List UInt8) (o : Nat) : Fw (digitP T o) := (fw_next T).bind fun x s y s1 e => by
  (try dsimp only at e)
  split at e
  · cases e
  · cases e; exact ⟨Nat.le_refl _, rfl⟩
theorem fw_esc (T : List UInt8) (o : Nat) : Fw (escP T o) := (fw_next T).bind fun c => fw_ite (fw_pure _) (fw_ite ((fw_digit T o).bind fun _ => (fw_digit T o).bind fun _ => fw_pure _) (fw_err _))
theorem fw_quo (T : List UInt8) : ∀ n acc, Fw (quoP T n acc)
  | 0, acc => fw_err _
  | n + 1, acc => fun s y s2 e => by
    rw [quoP] at e
    have h : Fw ((nextP T).bind fun c => if c = 34 then Pr.pure (⟨acc.toArray⟩ : ByteArray) else if c = 92 then (escP T s.1).bind fun b => quoP T n (acc ++ [b]) else if plainB c then quoP T n (acc ++ [c]) else fun _ => .error s.1) :=
      (fw_next T).bind fun c => fw_ite (fw_pure _) (fw_ite ((fw_esc T _).bind fun b => fw_quo T n _) (fw_ite (fw_quo T n _) (fw_err _)))
    exact h s y s2 e
theorem fw_quoted (T : List UInt8) : Fw (quotedP T) := (fw_must T 34).bind fun _ => fw_quo T _ _
theorem fw_note (T : List UInt8) : Fw (noteP T) := (fw_quoted T).bind fun _ => (fw_quoted T).bind fun _ => fw_pure _
theorem fw_com {α : Type} {T : List UInt8} {item : Pr α} (h : Fw item) : ∀ n acc, Fw (comP T item n acc)
  | 0, acc => fw_pure _
  | n + 1, acc => (fw_takes T 44).bind fun b => fw_ite (h.bind fun x => fw_com h n _) (fw_pure _)
theorem fw_many {α : Type} {T : List UInt8} {item : Pr α} (h : Fw item) : Fw (manyP T item) := h.bind fun x => fw_com h _ _
/-- so many names more -/
def Fn {α : Type} (c : α → Nat) (r : Pr α) : Prop := ∀ s x s1, r s = .ok (x, s1) → s.1 ≤ s1.1 ∧ s1.2.length = s.2.length + c x
theorem Fw.bindN {α β : Type} {r : Pr α} {f : α → Pr β} {c : β → Nat} (h : Fw r) (k : ∀ x, Fn c (f x)) : Fn c (r.bind f) := fun s y s2 e => by
  obtain ⟨x, s1, e1, e2⟩ := Pr.inv e
  have a := h s x s1 e1
  have b := k x s1 y s2 e2
  exact ⟨Nat.le_trans a.1 b.1, by rw [b.2, a.2]⟩
theorem Fn.bindW {α β : Type} {r : Pr α} {f : α → Pr β} {c : α → Nat} {e : β → Nat} (h : Fn c r) (k : ∀ x s y s1, f x s = .ok (y, s1) → s.1 ≤ s1.1 ∧ s1.2 = s.2 ∧ e y = c x) : Fn e (r.bind f) := fun s y s2 q => by
  obtain ⟨x, s1, e1, e2⟩ := Pr.inv q
  have a := h s x s1 e1
  have b := k x s1 y s2 e2
  exact ⟨Nat.le_trans a.1 b.1, by rw [b.2.1, a.2, b.2.2]⟩
theorem fn_err {α : Type} {c : α → Nat} (o : Ps → Nat) : Fn c (fun s => .error (o s) : Pr α) := fun s y s1 e => by cases e
theorem fn_ite {α : Type} {c : α → Nat} {p : Prop} [Decidable p] {r t : Pr α} (h : Fn c r) (k : Fn c t) : Fn c (if p then r else t) := by split <;> assumption
theorem fn_pure {α : Type} {c : α → Nat} {x : α} (h : c x = 0) : Fn c (Pr.pure x) := fun s y s1 e => by cases e; exact ⟨Nat.le_refl _, by rw [h]; rfl⟩
def nP (d : Nat) (l : List FT) : Nat := (pre d l).length
theorem nP_nil (d : Nat) : nP d [] = 0 := by cases d <;> rfl
theorem nP_app (d : Nat) (l m : List FT) : nP d (l ++ m) = nP d l + nP d m := by
  cases d with
  | zero => rfl
  | succ d => unfold nP; rw [pre, pre, pre, List.flatMap_append, List.length_append]
theorem nP_one (d : Nat) (f : FT) : nP (d + 1) [f] = 1 + nP d f.kids := by
  unfold nP; rw [pre]; simp; omega
theorem fn_com {T : List UInt8} {item : Pr FT} {d : Nat} (h : Fn (fun f => nP d [f]) item) : ∀ n acc s y s1, comP T item n acc s = .ok (y, s1) → s.1 ≤ s1.1 ∧ s1.2.length + nP d acc = s.2.length + nP d y
  | 0, acc, s, y, s1, e => by cases e; exact ⟨Nat.le_refl _, rfl⟩
  | n + 1, acc, s, y, s1, e => by
    rw [comP] at e
    obtain ⟨b, s2, e1, e2⟩ := Pr.inv e
    have a := fw_takes T 44 s b s2 e1
    (try dsimp only at e2)
    split at e2
    · obtain ⟨x, s3, e3, e4⟩ := Pr.inv e2
      have b := h s2 x s3 e3
      have c := fn_com h n (acc ++ [x]) s3 y s1 e4
      have b2 : s3.2.length = s2.2.length + nP d [x] := b.2
      have c2 : s1.2.length + nP d (acc ++ [x]) = s3.2.length + nP d y := c.2
      rw [nP_app] at c2
      have a2 : s2.2.length = s.2.length := by rw [a.2]
      exact ⟨Nat.le_trans a.1 (Nat.le_trans b.1 c.1), by omega⟩
    · cases e2; exact ⟨a.1, by rw [a.2]⟩
theorem fn_many {T : List UInt8} {item : Pr FT} {d : Nat} (h : Fn (fun f => nP d [f]) item) : Fn (fun l => nP d l) (manyP T item) := fun s y s1 e => by
  obtain ⟨x, s2, e1, e2⟩ := Pr.inv e
  have a := h s x s2 e1
  have b := fn_com h D0 [x] s2 y s1 e2
  have a2 : s2.2.length = s.2.length + nP d [x] := a.2
  exact ⟨Nat.le_trans a.1 b.1, by have := b.2; show s1.2.length = s.2.length + nP d y; omega⟩
theorem fn_inn {T : List UInt8} {rec : Pr FT} {d : Nat} (h : Fn (fun f => nP d [f]) rec) (k : Int) : Fn (fun t : TP => nP d t.kids) (innP T rec k) := by
  have h0 : ∀ x y z, nP d (TP.mk x y z []).kids = 0 := fun _ _ _ => nP_nil d
  have h1 : ∀ x y z, Fn (fun t : TP => nP d t.kids) (rec.bind fun f => Pr.pure (⟨x, y, z, [f]⟩ : TP)) := fun x y z => h.bindW fun f s t s1 e => by cases e; exact ⟨Nat.le_refl _, rfl, rfl⟩
  have h2 : ∀ x y z, Fn (fun t : TP => nP d t.kids) ((manyP T rec).bind fun l => Pr.pure (⟨x, y, z, l⟩ : TP)) := fun x y z => (fn_many h).bindW fun f s t s1 e => by cases e; exact ⟨Nat.le_refl _, rfl, rfl⟩
  unfold innP
  refine fn_ite ((fw_mean T _).bindN fun x => fn_pure (h0 _ _ _)) (fn_ite (h1 _ _ _) (fn_ite ((fw_mean T _).bindN fun x => (fw_must T _).bindN fun _ => h1 _ _ _) (fn_ite ((fw_peek T).bindN fun c => fn_ite (fn_pure (h0 _ _ _)) (h2 _ _ _)) (fn_ite (h2 _ _ _) (fn_ite ((fw_mean T _).bindN fun x => (fw_must T _).bindN fun _ => (fw_mean T _).bindN fun y => (fw_must T _).bindN fun _ => h1 _ _ _) (fn_pure (h0 _ _ _)))))))
theorem fn_typ {T : List UInt8} {rec : Pr FT} {d : Nat} (h : Fn (fun f => nP d [f]) rec) : Fn (fun t : Int × TP => nP d t.2.kids) (typP T rec) :=
  (fw_mean T _).bindN fun k => fn_ite (fn_pure (nP_nil d)) ((fw_must T _).bindN fun _ => (fn_inn h k).bindW fun t s y s1 e => by
    obtain ⟨u, s2, e1, e2⟩ := Pr.inv e
    have a := fw_must T 41 s u s2 e1
    cases e2
    exact ⟨a.1, a.2, rfl⟩)
theorem name_fw {T : List UInt8} {s s1 : Ps} {x : ByteArray} (h : nameP T s = .ok (x, s1)) : s.1 < s1.1 ∧ s1.2.length = s.2.length + 1 ∧ x.size ≠ 0 := by
  unfold nameP at h
  obtain ⟨y, s2, e1, e2⟩ := Pr.inv h
  have a := fw_peek T
  unfold wordP at e1
  obtain ⟨c, s3, e3, e4⟩ := Pr.inv e1
  have a := fw_peek T s c s3 e3
  cases e4
  (try dsimp only at e2)
  split at e2
  · cases e2
  · rename_i hz
    cases e2
    have hz' : (wordsB (T.drop s3.1)).length ≠ 0 := by simpa [ByteArray.size] using hz
    refine ⟨?_, ?_, hz⟩
    · show s.1 < s3.1 + _; have := a.1; omega
    · show (s3.2 ++ _).length = _; rw [List.length_append, a.2]; rfl
theorem field_fn {T : List UInt8} : ∀ d s x s1, fieldP T d s = .ok (x, s1) → s.1 < s1.1 ∧ s1.2.length = s.2.length + nP d [x]
  | 0, s, x, s1, e => by cases e
  | d + 1, s, x, s1, e => by
    rw [fieldP] at e
    obtain ⟨nm, s2, e1, e2⟩ := Pr.inv e
    obtain ⟨t, s3, e3, e4⟩ := Pr.inv e2
    obtain ⟨b, s4, e5, e6⟩ := Pr.inv e4
    have a1 := name_fw e1
    have a3 := fn_typ (T := T) (d := d) (rec := fieldP T d) (fun s x s1 e => ⟨Nat.le_of_lt (field_fn d s x s1 e).1, (field_fn d s x s1 e).2⟩) s2 t s3 e3
    have a5 := fw_takes T 63 s3 b s4 e5
    cases e6
    refine ⟨by have := a1.1; have := a3.1; have := a5.1; omega, ?_⟩
    have a32 : s3.2.length = s2.2.length + nP d t.2.kids := a3.2
    rw [nP_one, a5.2, a32, a1.2.1]
    show _ = _ + (1 + nP d t.2.kids)
    omega
theorem fn_field {T : List UInt8} (d : Nat) : Fn (fun f => nP d [f]) (fieldP T d) := fun s x s1 e => ⟨Nat.le_of_lt (field_fn d s x s1 e).1, (field_fn d s x s1 e).2⟩
theorem fn_sch (T : List UInt8) : Fn (fun x : List FT × List (ByteArray × ByteArray) => nP D0 x.1) (schP T) := by
  have hn : ∀ (l : List FT) s (y : List FT × List (ByteArray × ByteArray)) s1, notesP T l s = .ok (y, s1) → s.1 ≤ s1.1 ∧ s1.2 = s.2 ∧ nP D0 y.1 = nP D0 l := fun l s y s1 e => by
    unfold notesP at e
    obtain ⟨b, s2, e1, e2⟩ := Pr.inv e
    have a := fw_takes T 124 s b s2 e1
    (try dsimp only at e2)
    split at e2
    · obtain ⟨z, s3, e3, e4⟩ := Pr.inv e2
      have c := fw_many (T := T) (fw_note T) s2 z s3 e3
      cases e4
      exact ⟨Nat.le_trans a.1 c.1, c.2.trans a.2, rfl⟩
    · cases e2; exact ⟨a.1, a.2, rfl⟩
  refine (fw_peek T).bindN fun c s y s1 e => ?_
  (try dsimp only at e)
  split at e
  · exact ((fn_many (fn_field D0)).bindW fun l => hn l) s y s1 e
  · have a := hn [] s y s1 e
    exact ⟨a.1, by rw [a.2.1, a.2.2]; exact congrArg (_ + ·) (nP_nil D0).symm⟩
end Go.Proofs.YtkodgneneiledaaGreatDoor.Kit
