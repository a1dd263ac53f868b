import Derived.WalkKit
import Derived.Test.YtcfdkadhclickaaDoorDA
namespace Go.Proofs.YtcfdkadhclickaaDoor.Kit
set_option linter.unusedVariables false

/-! ### orders of all, as functions of data -/
structure IsOrd {α : Type} (S : α → Prop) (c : α → α → Int) : Prop where
  anti : ∀ a b, S a → S b → c b a = - c a b
  trans : ∀ a b d, S a → S b → S d → c a b ≤ 0 → c b d ≤ 0 → c a d ≤ 0
  zero : ∀ a b, S a → S b → (c a b = 0 ↔ a = b)
namespace IsOrd
variable {α β : Type} {S : α → Prop} {c : α → α → Int}
theorem self (h : IsOrd S c) {a : α} (ha : S a) : c a a = 0 := (h.zero a a ha ha).2 rfl
theorem lt_le (h : IsOrd S c) {a b d : α} (ha : S a) (hb : S b) (hd : S d) (h1 : c a b < 0) (h2 : c b d ≤ 0) : c a d < 0 := by
  have h3 := h.trans a b d ha hb hd (by omega) h2
  by_cases e : c a d = 0
  · have := (h.zero a d ha hd).1 e
    subst this
    have := h.anti a b ha hb
    omega
  · omega
theorem le_lt (h : IsOrd S c) {a b d : α} (ha : S a) (hb : S b) (hd : S d) (h1 : c a b ≤ 0) (h2 : c b d < 0) : c a d < 0 := by
  have h3 := h.trans a b d ha hb hd h1 (by omega)
  by_cases e : c a d = 0
  · have := (h.zero a d ha hd).1 e
    subst this
    have := h.anti a b ha hb
    omega
  · omega
/-- the other way round -/
theorem trans_ge (h : IsOrd S c) {a b d : α} (ha : S a) (hb : S b) (hd : S d) (h1 : 0 ≤ c a b) (h2 : 0 ≤ c b d) : 0 ≤ c a d := by
  have e1 := h.anti a b ha hb
  have e2 := h.anti b d hb hd
  have e3 := h.anti a d ha hd
  have := h.trans d b a hd hb ha (by omega) (by omega)
  omega
theorem mono (h : IsOrd S c) {T : α → Prop} (hT : ∀ a, T a → S a) : IsOrd T c :=
  ⟨fun a b ha hb => h.anti a b (hT a ha) (hT b hb), fun a b d ha hb hd => h.trans a b d (hT a ha) (hT b hb) (hT d hd), fun a b ha hb => h.zero a b (hT a ha) (hT b hb)⟩
/-- by a part that tells all -/
theorem comap (h : IsOrd S c) {T : β → Prop} (g : β → α) (hT : ∀ a, T a → S (g a)) (inj : ∀ a b, T a → T b → g a = g b → a = b) : IsOrd T (fun a b => c (g a) (g b)) :=
  ⟨fun a b ha hb => h.anti _ _ (hT a ha) (hT b hb), fun a b d ha hb hd => h.trans _ _ _ (hT a ha) (hT b hb) (hT d hd), fun a b ha hb =>
    ⟨fun e => inj a b ha hb ((h.zero _ _ (hT a ha) (hT b hb)).1 e), fun e => by subst e; exact h.self (hT a ha)⟩⟩
theorem congr (h : IsOrd S c) {c' : α → α → Int} (e : ∀ a b, S a → S b → c' a b = c a b) : IsOrd S c' :=
  ⟨fun a b ha hb => by rw [e b a hb ha, e a b ha hb]; exact h.anti a b ha hb, fun a b d ha hb hd => by rw [e a b ha hb, e b d hb hd, e a d ha hd]; exact h.trans a b d ha hb hd, fun a b ha hb => by rw [e a b ha hb]; exact h.zero a b ha hb⟩
end IsOrd
/-- of whole numbers -/
def cmpI (x y : Int) : Int := if x < y then -1 else if y < x then 1 else 0
theorem cmpI_ord : IsOrd (fun _ : Int => True) cmpI := by
  refine ⟨fun a b _ _ => ?_, fun a b d _ _ _ => ?_, fun a b _ _ => ?_⟩ <;> unfold cmpI
  · split <;> split <;> (try split) <;> omega
  · intro h1 h2
    split <;> omega
  · split
    · exact ⟨fun h => by omega, fun h => by omega⟩
    split
    · exact ⟨fun h => by omega, fun h => by omega⟩
    · exact ⟨fun _ => by omega, fun _ => rfl⟩
/-- nulls ahead -/
def cmpN {α : Type} (nul : α → Bool) (c : α → α → Int) (a b : α) : Int :=
  if nul a = true ∨ nul b = true then (if nul b = false then -1 else if nul a = false then 1 else 0) else c a b
theorem cmpN_ord {α : Type} {S T : α → Prop} {c : α → α → Int} {nul : α → Bool} (h : IsOrd S c) (hT : ∀ a, T a → nul a = false → S a) (hn : ∀ a b, T a → T b → nul a = true → nul b = true → a = b) : IsOrd T (cmpN nul c) := by
  refine ⟨fun a b ha hb => ?_, fun a b d ha hb hd => ?_, fun a b ha hb => ?_⟩ <;> unfold cmpN
  · cases ea : nul a <;> cases eb : nul b <;> simp
    exact h.anti a b (hT a ha ea) (hT b hb eb)
  · cases ea : nul a <;> cases eb : nul b <;> cases ed : nul d <;> simp
    exact h.trans a b d (hT a ha ea) (hT b hb eb) (hT d hd ed)
  · cases ea : nul a <;> cases eb : nul b <;> simp
    · exact h.zero a b (hT a ha ea) (hT b hb eb)
    · intro e; subst e; rw [ea] at eb; cases eb
    · intro e; subst e; rw [ea] at eb; cases eb
    · exact hn a b ha hb ea eb
/-- list by list -/
def cmpL {α : Type} (c : α → α → Int) : List α → List α → Int
  | [], [] => 0
  | [], _ :: _ => -1
  | _ :: _, [] => 1
  | x :: xs, y :: ys => if c x y ≠ 0 then c x y else cmpL c xs ys
theorem cmpL_ord {α : Type} {S : α → Prop} {c : α → α → Int} (h : IsOrd S c) : IsOrd (fun l : List α => ∀ x ∈ l, S x) (cmpL c) := by
  refine ⟨fun a => ?_, fun a => ?_, fun a => ?_⟩
  · induction a with
    | nil => intro b _ _; cases b <;> simp [cmpL]
    | cons x xs ih =>
      intro b ha hb
      cases b with
      | nil => simp [cmpL]
      | cons y ys =>
        have hx := ha x (by simp)
        have hy := hb y (by simp)
        have e := h.anti x y hx hy
        unfold cmpL
        by_cases q : c x y = 0
        · rw [if_neg (by omega), if_neg (by omega)]
          exact ih ys (fun z hz => ha z (by simp [hz])) (fun z hz => hb z (by simp [hz]))
        · rw [if_pos (by omega), if_pos q]
          exact e
  · induction a with
    | nil => intro b d _ _ _ _ _; cases d <;> simp [cmpL]
    | cons x xs ih =>
      intro b d ha hb hd h1 h2
      cases b with
      | nil => simp [cmpL] at h1
      | cons y ys =>
        cases d with
        | nil => simp [cmpL] at h2
        | cons z zs =>
          have hx := ha x (by simp)
          have hy := hb y (by simp)
          have hz := hd z (by simp)
          unfold cmpL at h1 h2 ⊢
          by_cases q1 : c x y = 0
          · rw [if_neg (by omega)] at h1
            have exy := (h.zero x y hx hy).1 q1
            subst exy
            by_cases q2 : c x z = 0
            · rw [if_neg (by omega)] at h2 ⊢
              exact ih ys zs (fun u hu => ha u (by simp [hu])) (fun u hu => hb u (by simp [hu])) (fun u hu => hd u (by simp [hu])) h1 h2
            · rw [if_pos q2] at h2 ⊢
              exact h2
          · rw [if_pos q1] at h1
            by_cases q2 : c y z = 0
            · have eyz := (h.zero y z hy hz).1 q2
              subst eyz
              rw [if_pos q1]
              exact h1
            · rw [if_pos q2] at h2
              have := h.lt_le hx hy hz (by omega) h2
              rw [if_pos (by omega)]
              omega
  · induction a with
    | nil => intro b _ _; cases b <;> simp [cmpL]
    | cons x xs ih =>
      intro b ha hb
      cases b with
      | nil => simp [cmpL]
      | cons y ys =>
        have hx := ha x (by simp)
        have hy := hb y (by simp)
        unfold cmpL
        by_cases q : c x y = 0
        · rw [if_neg (by omega), ih ys (fun z hz => ha z (by simp [hz])) (fun z hz => hb z (by simp [hz]))]
          have := (h.zero x y hx hy).1 q
          subst this
          simp
        · rw [if_pos q]
          refine ⟨fun e => absurd e q, fun e => ?_⟩
          cases e
          exact absurd (h.self hx) q
/-- part by part: a comparison each -/
def cmpP {α : Type} : List (α → α → Int) → List α → List α → Int
  | c :: cs, x :: xs, y :: ys => if c x y ≠ 0 then c x y else cmpP cs xs ys
  | _, _, _ => 0
/-- a row with a part of each -/
def Parts {α : Type} : List (α → Prop) → List α → Prop
  | [], l => l = []
  | S :: Ss, l => ∃ x xs, l = x :: xs ∧ S x ∧ Parts Ss xs
def Ords {α : Type} : List (α → Prop) → List (α → α → Int) → Prop
  | [], cs => cs = []
  | S :: Ss, cs => ∃ c cs', cs = c :: cs' ∧ IsOrd S c ∧ Ords Ss cs'
theorem cmpP_ord {α : Type} : ∀ {Ss : List (α → Prop)} {cs : List (α → α → Int)}, Ords Ss cs → IsOrd (Parts Ss) (cmpP cs)
  | [], cs, h => by
    cases h
    refine ⟨fun a b ha hb => ?_, fun a b d ha hb hd _ _ => ?_, fun a b ha hb => ?_⟩
    · simp [cmpP]
    · simp [cmpP]
    · have h1 : a = [] := ha
      have h2 : b = [] := hb
      subst h1 h2
      simp [cmpP]
  | S :: Ss, cs, h => by
    obtain ⟨c, cs', rfl, h, hr⟩ := h
    have ih := cmpP_ord hr
    refine ⟨fun a b ha hb => ?_, fun a b d ha hb hd h1 h2 => ?_, fun a b ha hb => ?_⟩
    · obtain ⟨x, xs, rfl, hx, hxs⟩ := ha
      obtain ⟨y, ys, rfl, hy, hys⟩ := hb
      have e := h.anti x y hx hy
      unfold cmpP
      by_cases q : c x y = 0
      · rw [if_neg (by omega), if_neg (by omega)]
        exact ih.anti xs ys hxs hys
      · rw [if_pos (by omega), if_pos q]
        exact e
    · obtain ⟨x, xs, rfl, hx, hxs⟩ := ha
      obtain ⟨y, ys, rfl, hy, hys⟩ := hb
      obtain ⟨z, zs, rfl, hz, hzs⟩ := hd
      unfold cmpP at h1 h2 ⊢
      by_cases q1 : c x y = 0
      · rw [if_neg (by omega)] at h1
        have exy := (h.zero x y hx hy).1 q1
        subst exy
        by_cases q2 : c x z = 0
        · rw [if_neg (by omega)] at h2 ⊢
          exact ih.trans xs ys zs hxs hys hzs h1 h2
        · rw [if_pos q2] at h2 ⊢
          exact h2
      · rw [if_pos q1] at h1
        by_cases q2 : c y z = 0
        · have eyz := (h.zero y z hy hz).1 q2
          subst eyz
          rw [if_pos q1]
          exact h1
        · rw [if_pos q2] at h2
          have := h.lt_le hx hy hz (by omega) h2
          rw [if_pos (by omega)]
          omega
    · obtain ⟨x, xs, rfl, hx, hxs⟩ := ha
      obtain ⟨y, ys, rfl, hy, hys⟩ := hb
      unfold cmpP
      by_cases q : c x y = 0
      · rw [if_neg (by omega), ih.zero xs ys hxs hys]
        have := (h.zero x y hx hy).1 q
        subst this
        simp
      · rw [if_pos q]
        refine ⟨fun e => absurd e q, fun e => ?_⟩
        cases e
        exact absurd (h.self hx) q
/-- by a number, then by what the number asks -/
def cmpC {α : Type} (key : α → Int) (c : Int → α → α → Int) (a b : α) : Int := if key a = key b then c (key a) a b else cmpI (key a) (key b)
theorem cmpC_ord {α : Type} {S : α → Prop} {key : α → Int} {c : Int → α → α → Int} (h : ∀ k, IsOrd (fun a => S a ∧ key a = k) (c k)) : IsOrd S (cmpC key c) := by
  have hi := cmpI_ord
  have hne : ∀ x y : Int, x ≠ y → cmpI x y ≠ 0 := fun x y hxy e => hxy ((hi.zero x y trivial trivial).1 e)
  refine ⟨fun a b ha hb => ?_, fun a b d ha hb hd h1 h2 => ?_, fun a b ha hb => ?_⟩
  · unfold cmpC
    by_cases e : key a = key b
    · rw [if_pos e, if_pos e.symm, ← e]
      exact (h (key a)).anti a b ⟨ha, rfl⟩ ⟨hb, e.symm⟩
    · rw [if_neg e, if_neg (fun q => e q.symm)]
      exact hi.anti _ _ trivial trivial
  · unfold cmpC at h1 h2 ⊢
    by_cases e1 : key a = key b
    · rw [if_pos e1] at h1
      by_cases e2 : key b = key d
      · rw [if_pos e2] at h2
        rw [if_pos (e1.trans e2)]
        rw [← e1] at h2
        exact (h (key a)).trans a b d ⟨ha, rfl⟩ ⟨hb, e1.symm⟩ ⟨hd, (e1.trans e2).symm⟩ h1 h2
      · rw [if_neg e2] at h2
        rw [if_neg (fun q => e2 (e1.symm.trans q)), e1]
        exact h2
    · rw [if_neg e1] at h1
      have n1 := hne _ _ e1
      by_cases e2 : key b = key d
      · rw [if_neg (fun q => e1 (q.trans e2.symm)), ← e2]
        exact h1
      · rw [if_neg e2] at h2
        have := hi.lt_le (a := key a) (b := key b) (d := key d) trivial trivial trivial (by omega) h2
        have n3 : key a ≠ key d := fun q => by rw [q, hi.self trivial] at this; omega
        rw [if_neg n3]
        omega
  · unfold cmpC
    by_cases e : key a = key b
    · rw [if_pos e]
      exact (h (key a)).zero a b ⟨ha, rfl⟩ ⟨hb, e.symm⟩
    · rw [if_neg e]
      exact ⟨fun q => absurd q (hne _ _ e), fun q => by subst q; exact absurd rfl e⟩
/-- a key that tells two of S apart -/
theorem cmpK_ord {α : Type} {S : α → Prop} (key : α → Int) (inj : ∀ a b, S a → S b → key a = key b → a = b) : IsOrd S (fun a b => cmpI (key a) (key b)) :=
  cmpI_ord.comap key (fun _ _ => trivial) inj
/-- bytes -/
def cmpT (a b : List UInt8) : Int := cmpL (fun x y : UInt8 => cmpI (x.toNat : Int) (y.toNat : Int)) a b
theorem cmpT_ord : IsOrd (fun _ : List UInt8 => True) cmpT := by
  have h : IsOrd (fun _ : UInt8 => True) (fun x y : UInt8 => cmpI (x.toNat : Int) (y.toNat : Int)) := cmpK_ord (S := fun _ : UInt8 => True) (fun x => (x.toNat : Int)) (fun a b _ _ e => UInt8.toNat_inj.1 (by omega))
  exact (cmpL_ord h).mono (fun _ _ _ _ => trivial)
end Go.Proofs.YtcfdkadhclickaaDoor.Kit
namespace Go.Proofs.YtcfdkadhclickaaDoor.Kit
set_option linter.unusedVariables false
/-! ### values as trees, their shape and their order -/
inductive VT where
  | mk (nul : Bool) (num : Int) (text : ByteArray) (list : List VT)
deriving Inhabited
namespace VT
def nul : VT → Bool | mk n _ _ _ => n
def num : VT → Int | mk _ n _ _ => n
def text : VT → ByteArray | mk _ _ t _ => t
def list : VT → List VT | mk _ _ _ l => l
theorem ext' {a b : VT} (h1 : a.nul = b.nul) (h2 : a.num = b.num) (h3 : a.text = b.text) (h4 : a.list = b.list) : a = b := by
  cases a; cases b
  simp only [nul, num, text, list] at h1 h2 h3 h4
  subst h1 h2 h3 h4
  rfl
end VT
def u64Of (n : Int) : Int := if n < 0 then n + 18446744073709551616 else n
/-- a number that rises as floating-point numbers do -/
def rankOf (n : Int) : Int := if n < 0 then -9223372036854775809 - n else n
def is64 (n : Int) : Prop := -9223372036854775808 ≤ n ∧ n ≤ 9223372036854775807
theorem u64Of_inj {a b : Int} (ha : is64 a) (hb : is64 b) (h : u64Of a = u64Of b) : a = b := by
  unfold u64Of at h
  unfold is64 at ha hb
  split at h <;> split at h <;> omega
theorem rankOf_inj {a b : Int} (ha : is64 a) (hb : is64 b) (h : rankOf a = rankOf b) : a = b := by
  unfold rankOf at h
  unfold is64 at ha hb
  split at h <;> split at h <;> omega
/-- what kinds ask of a value that is not null -/
def shapeB (sh : FT → VT → Prop) (f : FT) (v : VT) : Prop :=
  if f.kind = 12 ∨ f.kind = 13 ∨ f.kind = 14 then v.num = 0 ∧ v.list = []
  else if f.kind = 15 ∨ f.kind = 16 then v.num = 0 ∧ v.text = ⟨#[]⟩ ∧ ∀ x ∈ v.list, sh f.kids.head! x
  else if f.kind = 17 then v.num = 0 ∧ v.text = ⟨#[]⟩ ∧ Parts (f.kids.map sh) v.list
  else if f.kind = 18 then v.text = ⟨#[]⟩ ∧ ∃ x, v.list = [x] ∧ sh (f.kids.getD v.num.toNat default) x
  else if f.kind = 19 ∨ f.kind = 20 then sh f.kids.head! v ∧ v.nul = false
  else v.text = ⟨#[]⟩ ∧ v.list = [] ∧ is64 v.num
/-- what a value that fits is made of (its weight and the bounds of its numbers aside) -/
def shape : Nat → FT → VT → Prop
  | 0, _, _ => False
  | n + 1, f, v => (v.nul = true → v.num = 0 ∧ v.text = ⟨#[]⟩ ∧ v.list = []) ∧ (v.nul = false → shapeB (shape n) f v)
def cmpB (c : FT → VT → VT → Int) (f : FT) (a b : VT) : Int :=
  if f.kind = 12 ∨ f.kind = 13 ∨ f.kind = 14 then cmpT a.text.data.toList b.text.data.toList
  else if f.kind = 15 ∨ f.kind = 16 then cmpL (c f.kids.head!) a.list b.list
  else if f.kind = 17 then cmpP (f.kids.map c) a.list b.list
  else if f.kind = 18 then cmpC VT.num (fun k a b => c (f.kids.getD k.toNat default) a.list.head! b.list.head!) a b
  else if f.kind = 19 ∨ f.kind = 20 then c f.kids.head! a b
  else if f.kind = 10 then cmpI (u64Of a.num) (u64Of b.num)
  else if f.kind = 11 then cmpI (rankOf a.num) (rankOf b.num)
  else cmpI a.num b.num
def cmpV : Nat → FT → VT → VT → Int
  | 0, _, _, _ => 0
  | n + 1, f, a, b => cmpN VT.nul (cmpB (cmpV n) f) a b
theorem ords_map {sh : FT → VT → Prop} {c : FT → VT → VT → Int} (h : ∀ f, IsOrd (sh f) (c f)) : ∀ l : List FT, Ords (l.map sh) (l.map c)
  | [] => rfl
  | f :: l => ⟨_, _, rfl, h f, ords_map h l⟩
theorem bytes_ext {a b : ByteArray} (h : a.data.toList = b.data.toList) : a = b := by
  cases a; cases b
  simp at h
  rw [h]
theorem cmpB_ord {sh : FT → VT → Prop} {c : FT → VT → VT → Int} (h : ∀ f, IsOrd (sh f) (c f)) (f : FT) : IsOrd (fun v => v.nul = false ∧ shapeB sh f v) (cmpB c f) := by
  unfold cmpB shapeB
  by_cases k1 : f.kind = 12 ∨ f.kind = 13 ∨ f.kind = 14
  · simp only [if_pos k1]
    exact cmpT_ord.comap (fun v : VT => v.text.data.toList) (fun _ _ => trivial) (fun a b ha hb e => VT.ext' (ha.1.trans hb.1.symm) (ha.2.1.trans hb.2.1.symm) (bytes_ext e) (ha.2.2.trans hb.2.2.symm))
  simp only [if_neg k1]
  by_cases k2 : f.kind = 15 ∨ f.kind = 16
  · simp only [if_pos k2]
    exact (cmpL_ord (h f.kids.head!)).comap VT.list (fun a ha => ha.2.2.2) (fun a b ha hb e => VT.ext' (ha.1.trans hb.1.symm) (ha.2.1.trans hb.2.1.symm) (ha.2.2.1.trans hb.2.2.1.symm) e)
  simp only [if_neg k2]
  by_cases k3 : f.kind = 17
  · simp only [if_pos k3]
    exact (cmpP_ord (ords_map h f.kids)).comap VT.list (fun a ha => ha.2.2.2) (fun a b ha hb e => VT.ext' (ha.1.trans hb.1.symm) (ha.2.1.trans hb.2.1.symm) (ha.2.2.1.trans hb.2.2.1.symm) e)
  simp only [if_neg k3]
  by_cases k4 : f.kind = 18
  · simp only [if_pos k4]
    refine cmpC_ord (fun k => ?_)
    refine (h (f.kids.getD k.toNat default)).comap (fun v : VT => v.list.head!) (fun a ha => ?_) (fun a b ha hb e => ?_)
    · obtain ⟨⟨h1, h2, x, h3, h4⟩, rfl⟩ := ha
      simp only [h3]
      exact h4
    · obtain ⟨⟨h1, h2, x, h3, h4⟩, h5⟩ := ha
      obtain ⟨⟨g1, g2, y, g3, g4⟩, g5⟩ := hb
      simp only [h3, g3] at e
      have e' : x = y := e
      subst e'
      exact VT.ext' (h1.trans g1.symm) (h5.trans g5.symm) (h2.trans g2.symm) (h3.trans g3.symm)
  simp only [if_neg k4]
  by_cases k5 : f.kind = 19 ∨ f.kind = 20
  · simp only [if_pos k5]
    exact (h f.kids.head!).mono (fun a ha => ha.2.1)
  simp only [if_neg k5]
  by_cases k6 : f.kind = 10
  · simp only [if_pos k6]
    exact cmpK_ord (fun v : VT => u64Of v.num) (fun a b ha hb e => VT.ext' (ha.1.trans hb.1.symm) (u64Of_inj ha.2.2.2 hb.2.2.2 e) (ha.2.1.trans hb.2.1.symm) (ha.2.2.1.trans hb.2.2.1.symm))
  simp only [if_neg k6]
  by_cases k7 : f.kind = 11
  · simp only [if_pos k7]
    exact cmpK_ord (fun v : VT => rankOf v.num) (fun a b ha hb e => VT.ext' (ha.1.trans hb.1.symm) (rankOf_inj ha.2.2.2 hb.2.2.2 e) (ha.2.1.trans hb.2.1.symm) (ha.2.2.1.trans hb.2.2.1.symm))
  simp only [if_neg k7]
  exact cmpK_ord (fun v : VT => v.num) (fun a b ha hb e => VT.ext' (ha.1.trans hb.1.symm) e (ha.2.1.trans hb.2.1.symm) (ha.2.2.1.trans hb.2.2.1.symm))
/-- the order of the values that fit a field is one of all -/
theorem cmpV_ord : ∀ (n : Nat) (f : FT), IsOrd (shape n f) (cmpV n f)
  | 0, f => ⟨fun a b ha => ha.elim, fun a b d ha => ha.elim, fun a b ha => ha.elim⟩
  | n + 1, f => cmpN_ord (S := fun v => v.nul = false ∧ shapeB (shape n) f v) (cmpB_ord (cmpV_ord n) f) (fun a ha hn => ⟨hn, ha.2 hn⟩)
    (fun a b ha hb na nb => by
      obtain ⟨a1, a2, a3⟩ := ha.1 na
      obtain ⟨b1, b2, b3⟩ := hb.1 nb
      exact VT.ext' (na.trans nb.symm) (a1.trans b1.symm) (a2.trans b2.symm) (a3.trans b3.symm))
/-- a null stands ahead -/
theorem cmpV_null {n : Nat} {f : FT} {a b : VT} (h : a.nul = true) : cmpV n f a b ≤ 0 := by
  cases n with
  | zero => exact Int.le_refl _
  | succ n =>
    show cmpN VT.nul _ a b ≤ 0
    unfold cmpN
    rw [if_pos (.inl h), h]
    split
    · omega
    · simp
end Go.Proofs.YtcfdkadhclickaaDoor.Kit
