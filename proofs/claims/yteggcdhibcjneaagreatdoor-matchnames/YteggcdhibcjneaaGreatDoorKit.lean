import Derived.WalkKit
import Derived.WalkSmall
import Derived.Outline
import Derived.Deep.AppendSrc
import Derived.Deep.RegionLaw
import Derived.Deep.OwnRows
import Derived.Deep.QuietTactic
import Derived.BigQuiet
import Derived.Laws.CopyOwn
namespace Go.Proofs.YteggcdhibcjneaaGreatDoor.Kit
set_option linter.unusedVariables false
/-! ### orders of all, as functions of data -/
structure IsOrd {α : Type} (S : α → Prop) (c : α → α → Int) : Prop where
  anti : ∀ a b, S a → S b → c b a = - c a b
  trans : ∀ a b d, S a → S b → S d → c a b ≤ 0 → c b d ≤ 0 → c a d ≤ 0
  zero : ∀ a b, S a → S b → (c a b = 0 ↔ a = b)
namespace IsOrd
variable {α β : Type} {S : α → Prop} {c : α → α → Int}
theorem self (h : IsOrd S c) {a : α} (ha : S a) : c a a = 0 := (h.zero a a ha ha).2 rfl
theorem lt_le (h : IsOrd S c) {a b d : α} (ha : S a) (hb : S b) (hd : S d) (h1 : c a b < 0) (h2 : c b d ≤ 0) : c a d < 0 := by
  have h3 := h.trans a b d ha hb hd (by omega) h2
  by_cases e : c a d = 0
  · have := (h.zero a d ha hd).1 e
    subst this
    have := h.anti a b ha hb
    omega
  · omega
theorem le_lt (h : IsOrd S c) {a b d : α} (ha : S a) (hb : S b) (hd : S d) (h1 : c a b ≤ 0) (h2 : c b d < 0) : c a d < 0 := by
  have h3 := h.trans a b d ha hb hd h1 (by omega)
  by_cases e : c a d = 0
  · have := (h.zero a d ha hd).1 e
    subst this
    have := h.anti a b ha hb
    omega
  · omega
/-- the other way round -/
theorem trans_ge (h : IsOrd S c) {a b d : α} (ha : S a) (hb : S b) (hd : S d) (h1 : 0 ≤ c a b) (h2 : 0 ≤ c b d) : 0 ≤ c a d := by
  have e1 := h.anti a b ha hb
  have e2 := h.anti b d hb hd
  have e3 := h.anti a d ha hd
  have := h.trans d b a hd hb ha (by omega) (by omega)
  omega
theorem mono (h : IsOrd S c) {T : α → Prop} (hT : ∀ a, T a → S a) : IsOrd T c :=
  ⟨fun a b ha hb => h.anti a b (hT a ha) (hT b hb), fun a b d ha hb hd => h.trans a b d (hT a ha) (hT b hb) (hT d hd), fun a b ha hb => h.zero a b (hT a ha) (hT b hb)⟩
/-- by a part that tells all -/
theorem comap (h : IsOrd S c) {T : β → Prop} (g : β → α) (hT : ∀ a, T a → S (g a)) (inj : ∀ a b, T a → T b → g a = g b → a = b) : IsOrd T (fun a b => c (g a) (g b)) :=
  ⟨fun a b ha hb => h.anti _ _ (hT a ha) (hT b hb), fun a b d ha hb hd => h.trans _ _ _ (hT a ha) (hT b hb) (hT d hd), fun a b ha hb =>
    ⟨fun e => inj a b ha hb ((h.zero _ _ (hT a ha) (hT b hb)).1 e), fun e => by subst e; exact h.self (hT a ha)⟩⟩
theorem congr (h : IsOrd S c) {c' : α → α → Int} (e : ∀ a b, S a → S b → c' a b = c a b) : IsOrd S c' :=
  ⟨fun a b ha hb => by rw [e b a hb ha, e a b ha hb]; exact h.anti a b ha hb, fun a b d ha hb hd => by rw [e a b ha hb, e b d hb hd, e a d ha hd]; exact h.trans a b d ha hb hd, fun a b ha hb => by rw [e a b ha hb]; exact h.zero a b ha hb⟩
end IsOrd
/-- of whole numbers -/
def cmpI (x y : Int) : Int := if x < y then -1 else if y < x then 1 else 0
theorem cmpI_ord : IsOrd (fun _ : Int => True) cmpI := by
  refine ⟨fun a b _ _ => ?_, fun a b d _ _ _ => ?_, fun a b _ _ => ?_⟩ <;> unfold cmpI
  · split <;> split <;> (try split) <;> omega
  · intro h1 h2
    split <;> omega
  · split
    · exact ⟨fun h => by omega, fun h => by omega⟩
    split
    · exact ⟨fun h => by omega, fun h => by omega⟩
    · exact ⟨fun _ => by omega, fun _ => rfl⟩
/-- nulls ahead -/
def cmpN {α : Type} (nul : α → Bool) (c : α → α → Int) (a b : α) : Int :=
  if nul a = true ∨ nul b = true then (if nul b = false then -1 else if nul a = false then 1 else 0) else c a b
theorem cmpN_ord {α : Type} {S T : α → Prop} {c : α → α → Int} {nul : α → Bool} (h : IsOrd S c) (hT : ∀ a, T a → nul a = false → S a) (hn : ∀ a b, T a → T b → nul a = true → nul b = true → a = b) : IsOrd T (cmpN nul c) := by
  refine ⟨fun a b ha hb => ?_, fun a b d ha hb hd => ?_, fun a b ha hb => ?_⟩ <;> unfold cmpN
  · cases ea : nul a <;> cases eb : nul b <;> simp
    exact h.anti a b (hT a ha ea) (hT b hb eb)
  · cases ea : nul a <;> cases eb : nul b <;> cases ed : nul d <;> simp
    exact h.trans a b d (hT a ha ea) (hT b hb eb) (hT d hd ed)
  · cases ea : nul a <;> cases eb : nul b <;> simp
    · exact h.zero a b (hT a ha ea) (hT b hb eb)
    · intro e; subst e; rw [ea] at eb; cases eb
    · intro e; subst e; rw [ea] at eb; cases eb
    · exact hn a b ha hb ea eb
/-- list by list -/
def cmpL {α : Type} (c : α → α → Int) : List α → List α → Int
  | [], [] => 0
  | [], _ :: _ => -1
  | _ :: _, [] => 1
  | x :: xs, y :: ys => if c x y ≠ 0 then c x y else cmpL c xs ys
theorem cmpL_ord {α : Type} {S : α → Prop} {c : α → α → Int} (h : IsOrd S c) : IsOrd (fun l : List α => ∀ x ∈ l, S x) (cmpL c) := by
  refine ⟨fun a => ?_, fun a => ?_, fun a => ?_⟩
  · induction a with
    | nil => intro b _ _; cases b <;> simp [cmpL]
    | cons x xs ih =>
      intro b ha hb
      cases b with
      | nil => simp [cmpL]
      | cons y ys =>
        have hx := ha x (by simp)
        have hy := hb y (by simp)
        have e := h.anti x y hx hy
        unfold cmpL
        by_cases q : c x y = 0
        · rw [if_neg (by omega), if_neg (by omega)]
          exact ih ys (fun z hz => ha z (by simp [hz])) (fun z hz => hb z (by simp [hz]))
        · rw [if_pos (by omega), if_pos q]
          exact e
  · induction a with
    | nil => intro b d _ _ _ _ _; cases d <;> simp [cmpL]
    | cons x xs ih =>
      intro b d ha hb hd h1 h2
      cases b with
      | nil => simp [cmpL] at h1
      | cons y ys =>
        cases d with
        | nil => simp [cmpL] at h2
        | cons z zs =>
          have hx := ha x (by simp)
          have hy := hb y (by simp)
          have hz := hd z (by simp)
          unfold cmpL at h1 h2 ⊢
          by_cases q1 : c x y = 0
          · rw [if_neg (by omega)] at h1
            have exy := (h.zero x y hx hy).1 q1
            subst exy
            by_cases q2 : c x z = 0
            · rw [if_neg (by omega)] at h2 ⊢
              exact ih ys zs (fun u hu => ha u (by simp [hu])) (fun u hu => hb u (by simp [hu])) (fun u hu => hd u (by simp [hu])) h1 h2
            · rw [if_pos q2] at h2 ⊢
              exact h2
          · rw [if_pos q1] at h1
            by_cases q2 : c y z = 0
            · have eyz := (h.zero y z hy hz).1 q2
              subst eyz
              rw [if_pos q1]
              exact h1
            · rw [if_pos q2] at h2
              have := h.lt_le hx hy hz (by omega) h2
              rw [if_pos (by omega)]
              omega
  · induction a with
    | nil => intro b _ _; cases b <;> simp [cmpL]
    | cons x xs ih =>
      intro b ha hb
      cases b with
      | nil => simp [cmpL]
      | cons y ys =>
        have hx := ha x (by simp)
        have hy := hb y (by simp)
        unfold cmpL
        by_cases q : c x y = 0
        · rw [if_neg (by omega), ih ys (fun z hz => ha z (by simp [hz])) (fun z hz => hb z (by simp [hz]))]
          have := (h.zero x y hx hy).1 q
          subst this
          simp
        · rw [if_pos q]
          refine ⟨fun e => absurd e q, fun e => ?_⟩
          cases e
          exact absurd (h.self hx) q
/-- part by part: a comparison each -/
def cmpP {α : Type} : List (α → α → Int) → List α → List α → Int
  | c :: cs, x :: xs, y :: ys => if c x y ≠ 0 then c x y else cmpP cs xs ys
  | _, _, _ => 0
/-- a row with a part of each -/
def Parts {α : Type} : List (α → Prop) → List α → Prop
  | [], l => l = []
  | S :: Ss, l => ∃ x xs, l = x :: xs ∧ S x ∧ Parts Ss xs
def Ords {α : Type} : List (α → Prop) → List (α → α → Int) → Prop
  | [], cs => cs = []
  | S :: Ss, cs => ∃ c cs', cs = c :: cs' ∧ IsOrd S c ∧ Ords Ss cs'
theorem cmpP_ord {α : Type} : ∀ {Ss : List (α → Prop)} {cs : List (α → α → Int)}, Ords Ss cs → IsOrd (Parts Ss) (cmpP cs)
  | [], cs, h => by
    cases h
    refine ⟨fun a b ha hb => ?_, fun a b d ha hb hd _ _ => ?_, fun a b ha hb => ?_⟩
    · simp [cmpP]
    · simp [cmpP]
    · have h1 : a = [] := ha
      have h2 : b = [] := hb
      subst h1 h2
      simp [cmpP]
  | S :: Ss, cs, h => by
    obtain ⟨c, cs', rfl, h, hr⟩ := h
    have ih := cmpP_ord hr
    refine ⟨fun a b ha hb => ?_, fun a b d ha hb hd h1 h2 => ?_, fun a b ha hb => ?_⟩
    · obtain ⟨x, xs, rfl, hx, hxs⟩ := ha
      obtain ⟨y, ys, rfl, hy, hys⟩ := hb
      have e := h.anti x y hx hy
      unfold cmpP
      by_cases q : c x y = 0
      · rw [if_neg (by omega), if_neg (by omega)]
        exact ih.anti xs ys hxs hys
      · rw [if_pos (by omega), if_pos q]
        exact e
    · obtain ⟨x, xs, rfl, hx, hxs⟩ := ha
      obtain ⟨y, ys, rfl, hy, hys⟩ := hb
      obtain ⟨z, zs, rfl, hz, hzs⟩ := hd
      unfold cmpP at h1 h2 ⊢
      by_cases q1 : c x y = 0
      · rw [if_neg (by omega)] at h1
        have exy := (h.zero x y hx hy).1 q1
        subst exy
        by_cases q2 : c x z = 0
        · rw [if_neg (by omega)] at h2 ⊢
          exact ih.trans xs ys zs hxs hys hzs h1 h2
        · rw [if_pos q2] at h2 ⊢
          exact h2
      · rw [if_pos q1] at h1
        by_cases q2 : c y z = 0
        · have eyz := (h.zero y z hy hz).1 q2
          subst eyz
          rw [if_pos q1]
          exact h1
        · rw [if_pos q2] at h2
          have := h.lt_le hx hy hz (by omega) h2
          rw [if_pos (by omega)]
          omega
    · obtain ⟨x, xs, rfl, hx, hxs⟩ := ha
      obtain ⟨y, ys, rfl, hy, hys⟩ := hb
      unfold cmpP
      by_cases q : c x y = 0
      · rw [if_neg (by omega), ih.zero xs ys hxs hys]
        have := (h.zero x y hx hy).1 q
        subst this
        simp
      · rw [if_pos q]
        refine ⟨fun e => absurd e q, fun e => ?_⟩
        cases e
        exact absurd (h.self hx) q
/-- by a number, then by what the number asks -/
def cmpC {α : Type} (key : α → Int) (c : Int → α → α → Int) (a b : α) : Int := if key a = key b then c (key a) a b else cmpI (key a) (key b)
theorem cmpC_ord {α : Type} {S : α → Prop} {key : α → Int} {c : Int → α → α → Int} (h : ∀ k, IsOrd (fun a => S a ∧ key a = k) (c k)) : IsOrd S (cmpC key c) := by
  have hi := cmpI_ord
  have hne : ∀ x y : Int, x ≠ y → cmpI x y ≠ 0 := fun x y hxy e => hxy ((hi.zero x y trivial trivial).1 e)
  refine ⟨fun a b ha hb => ?_, fun a b d ha hb hd h1 h2 => ?_, fun a b ha hb => ?_⟩
  · unfold cmpC
    by_cases e : key a = key b
    · rw [if_pos e, if_pos e.symm, ← e]
      exact (h (key a)).anti a b ⟨ha, rfl⟩ ⟨hb, e.symm⟩
    · rw [if_neg e, if_neg (fun q => e q.symm)]
      exact hi.anti _ _ trivial trivial
  · unfold cmpC at h1 h2 ⊢
    by_cases e1 : key a = key b
    · rw [if_pos e1] at h1
      by_cases e2 : key b = key d
      · rw [if_pos e2] at h2
        rw [if_pos (e1.trans e2)]
        rw [← e1] at h2
        exact (h (key a)).trans a b d ⟨ha, rfl⟩ ⟨hb, e1.symm⟩ ⟨hd, (e1.trans e2).symm⟩ h1 h2
      · rw [if_neg e2] at h2
        rw [if_neg (fun q => e2 (e1.symm.trans q)), e1]
        exact h2
    · rw [if_neg e1] at h1
      have n1 := hne _ _ e1
      by_cases e2 : key b = key d
      · rw [if_neg (fun q => e1 (q.trans e2.symm)), ← e2]
        exact h1
      · rw [if_neg e2] at h2
        have := hi.lt_le (a := key a) (b := key b) (d := key d) trivial trivial trivial (by omega) h2
        have n3 : key a ≠ key d := fun q => by rw [q, hi.self trivial] at this; omega
        rw [if_neg n3]
        omega
  · unfold cmpC
    by_cases e : key a = key b
    · rw [if_pos e]
      exact (h (key a)).zero a b ⟨ha, rfl⟩ ⟨hb, e.symm⟩
    · rw [if_neg e]
      exact ⟨fun q => absurd q (hne _ _ e), fun q => by subst q; exact absurd rfl e⟩
/-- a key that tells two of S apart -/
theorem cmpK_ord {α : Type} {S : α → Prop} (key : α → Int) (inj : ∀ a b, S a → S b → key a = key b → a = b) : IsOrd S (fun a b => cmpI (key a) (key b)) :=
  cmpI_ord.comap key (fun _ _ => trivial) inj
/-- bytes -/
def cmpT (a b : List UInt8) : Int := cmpL (fun x y : UInt8 => cmpI (x.toNat : Int) (y.toNat : Int)) a b
theorem cmpT_ord : IsOrd (fun _ : List UInt8 => True) cmpT := by
  have h : IsOrd (fun _ : UInt8 => True) (fun x y : UInt8 => cmpI (x.toNat : Int) (y.toNat : Int)) := cmpK_ord (S := fun _ : UInt8 => True) (fun x => (x.toNat : Int)) (fun a b _ _ e => UInt8.toNat_inj.1 (by omega))
  exact (cmpL_ord h).mono (fun _ _ _ _ => trivial)
end Go.Proofs.YteggcdhibcjneaaGreatDoor.Kit
namespace Go.Proofs.YteggcdhibcjneaaGreatDoor.Kit
open Go.RowKit Go.Deep
/-! ### what a call may touch: all blocks that were there, but those of S, are as they were -/
structure Keeps (w w' : World) (S : Nat → Prop) : Prop where
  os : w'.os = w.os
  tape : w'.tape = w.tape
  output : w'.output = w.output
  size : w.heap.size ≤ w'.heap.size
  block : ∀ k, k < w.heap.size → ¬ S k → w'.heap[k]? = w.heap[k]?

theorem Keeps.refl (w : World) (S : Nat → Prop) : Keeps w w S := ⟨rfl, rfl, rfl, Nat.le_refl _, fun _ _ _ => rfl⟩
theorem Keeps.mono {w w' : World} {S T : Nat → Prop} (h : Keeps w w' S) (k : ∀ b, b < w.heap.size → S b → T b) : Keeps w w' T :=
  ⟨h.os, h.tape, h.output, h.size, fun b hb hn => h.block b hb fun hs => hn (k b hb hs)⟩
theorem Keeps.trans {a b c : World} {S T : Nat → Prop} (h : Keeps a b S) (k : Keeps b c T) (hT : ∀ j, j < a.heap.size → T j → S j) : Keeps a c S :=
  ⟨k.os.trans h.os, k.tape.trans h.tape, k.output.trans h.output, Nat.le_trans h.size k.size,
   fun j hj hn => (k.block j (Nat.lt_of_lt_of_le hj h.size) fun ht => hn (hT j hj ht)).trans (h.block j hj hn)⟩
theorem Keeps.alloc {a w : World} {S : Nat → Prop} (h : Keeps a w S) (o : Obj) : Keeps a (w.alloc o) S :=
  h.trans (T := fun _ => False) ⟨rfl, rfl, rfl, by simp, fun k hk _ => Below.heap_alloc w o k hk⟩ (fun _ _ h => h.elim)
theorem Keeps.drew {a w : World} {S : Nat → Prop} (h : Keeps a w S) : Keeps a w.drew S := ⟨h.os, h.tape, h.output, h.size, h.block⟩
theorem Keeps.drewN {a w : World} {S : Nat → Prop} (h : Keeps a w S) (n : Nat) : Keeps a (w.drewN n) S := ⟨h.os, h.tape, h.output, h.size, h.block⟩
theorem Keeps.setCell {a w : World} {S : Nat → Prop} (h : Keeps a w S) {p : Addr} (hp : p.block < a.heap.size → S p.block) (u : Value) : Keeps a (w.setCell p u) S :=
  h.trans (T := fun k => k = p.block) ⟨rfl, rfl, rfl, by simp [World.setCell], fun k _ hk => heap_setCell_other w p k u hk⟩ (fun j hj e => by subst e; exact hp hj)
theorem Keeps.ofGrown {w w' : World} {row : Option Nat} (h : w.grownBy w' row) : Keeps w w' (fun k => row = some k) :=
  ⟨h.os, h.tape, h.output, h.size, fun k hk hn => h.block k hk fun e => hn e.symm⟩
theorem Keeps.ofBelow {w w' : World} {B : Nat} (h : Below B w w') : Keeps w w' (fun k => B ≤ k) :=
  ⟨h.os, h.tape, h.output, h.size, fun k _ hn => h.block k (by omega)⟩
theorem Keeps.below {w w' : World} {S : Nat → Prop} (h : Keeps w w' S) {B : Nat} (hS : ∀ k, k < w.heap.size → S k → B ≤ k) (hB : B ≤ w.heap.size) : Below B w w' :=
  ⟨h.os, h.tape, h.output, h.size, fun k hk => h.block k (by omega) fun hs => by have := hS k (by omega) hs; omega⟩
theorem Keeps.cell {w w' : World} {S : Nat → Prop} (h : Keeps w w' S) {p : Addr} (hp : p.block < w.heap.size) (hn : ¬ S p.block) : w'.cell? p = w.cell? p := World.cell?_of_block (w := w) (h.block p.block hp hn)
theorem Keeps.cell' {w w' : World} {S : Nat → Prop} (h : Keeps w w' S) {p : Addr} {v : Value} (hc : w.cell? p = some v) (hn : ¬ S p.block) : w'.cell? p = some v :=
  (h.cell (block_lt_of_cell hc) hn).trans hc

/-! ### append onto a row of the call's own, from whatever source: the very row, or a new one -/
section
variable {P : Program} (w : World)

theorem run_append_room_row (t tx ty e : TypeId) (i : TypeInfo) (ht : P.underlying t = some (.slice e)) (hi : P.info? e = some i)
    (g sLen sCap : Nat) (cur : Array Value) (hg : w.heap[g]? = some (.cells cur e (0, 0))) (x : Value) (m : Nat) (news : List Value) (hs : Src P i.size tx x m news w)
    (hroom : sLen + m ≤ sCap) (hfit : sLen * i.size + news.length ≤ cur.size) :
    (Builtin.append_ #[t, tx] ty #[.slice (some ⟨g, 0, none⟩) sLen sCap, x]).run P w =
      .ok (.slice (some ⟨g, 0, none⟩) (sLen + m) sCap) (w.setRow g (cur.toList.take (sLen * i.size) ++ news ++ cur.toList.drop (sLen * i.size + news.length)).toArray) := by
  have hst := run_storeCells_at P g (sLen * i.size) e news 0 cur w hg (by simpa using hfit) hs.one
  simp only [Nat.add_zero] at hst
  rcases hs.kind with ⟨e', hk⟩ | hk <;> simp [Builtin.append_, run_underlying ht, run_underlying hk, sizeOf, typeInfo, hi, hs.len, hroom, hs.cells, Addr.add_lit, hst]

theorem run_append_any (t tx ty e : TypeId) (i : TypeInfo) (z : Value) (bytes : Nat) (ht : P.underlying t = some (.slice e)) (hi : P.info? e = some i) (hz : i.zero = some z) (hsize : i.size = 1) (hby : i.bytes = bytes) (hzs : z.cells.size = 1)
    (v : Value) (n : Nat) (xs : List Value) (hown : w.ownsRow 0 e 1 v n xs) (x : Value) (m : Nat) (news : List Value) (hs : Src P 1 tx x m news w)
    (h63 : n + m ≤ 9223372036854775807) (hbytes : (n + m) * bytes ≤ 140737488355328) :
    ∃ v' w', (Builtin.append_ #[t, tx] ty #[v, x]).run P w = .ok v' w' ∧ w'.ownsRow 0 e 1 v' (n + m) (xs ++ news) ∧ w.grownBy w' v.ownBlock ∧
      (v'.ownBlock = v.ownBlock ∨ ∀ g, v'.ownBlock = some g → w.heap.size ≤ g) := by
  subst hby
  have hlen : (xs ++ news).length = (n + m) * 1 := by rw [List.length_append, hown.1, hs.newsLen, Nat.add_mul]
  have grown : ∀ (old : Nat), old < n + m → ∀ (row : Option Nat),
      (w.drew.alloc (.cells ((xs ++ news).toArray ++ Builtin.zeroCells z.cells (grownCap w (n + m) old e - (n + m))) e)).ownsRow 0 e 1
        (.slice (some ⟨w.heap.size, 0, none⟩) (n + m) (grownCap w (n + m) old e)) (n + m) (xs ++ news) ∧
      w.grownBy (w.drew.alloc (.cells ((xs ++ news).toArray ++ Builtin.zeroCells z.cells (grownCap w (n + m) old e - (n + m))) e)) row := by
    intro old ho row
    have hge := grownCap_ge w (n + m) old e
    have hcm : grownCap w (n + m) old e ≤ maxLen := grownCap_le_maxLen w (n + m) old e h63
    refine ⟨⟨hlen, .inr ⟨w.heap.size, _, _, rfl, Nat.zero_le _, heap_alloc_new w.drew _, hge, hcm, ?_, ?_⟩⟩, ⟨rfl, rfl, rfl, by simp, fun k hk _ => Below.heap_alloc w.drew _ k hk⟩⟩
    · simp only [Array.size_append, List.size_toArray, size_zeroCells, hzs, hlen]
      omega
    · simp only [Array.toList_append]
      rw [← hlen]
      exact List.take_left
  rcases hown.2 with ⟨rfl, rfl⟩ | ⟨g, cap, cur, rfl, hbg, hg, hnc, hcm, hcs, htake⟩
  · have hx : xs = [] := List.eq_nil_of_length_eq_zero (by simpa using hown.1)
    subst hx
    by_cases hm : m = 0
    · subst hm
      have hn : news = [] := List.eq_nil_of_length_eq_zero (by simpa using hs.newsLen)
      subst hn
      refine ⟨.slice none 0 0, w, ?_, World.ownsRow_nil w 0 e 1, ⟨rfl, rfl, rfl, Nat.le_refl _, fun _ _ _ => rfl⟩, .inl rfl⟩
      have hc := hs.cells
      have hl := hs.len
      rcases hs.kind with ⟨e', hk⟩ | hk <;> simp [Builtin.append_, run_underlying ht, run_underlying hk, sizeOf, typeInfo, hi, hsize, hl, hc]
    · have hr := run_append_grow_src (P := P) w t tx ty e i z ht hi hz none 0 0 [] (by simpa using run_firstCells_none w.drew i.size 0 0 0) x m news (by rw [hsize]; exact hs) (by omega) (by omega) (growslice_fits (by omega) hbytes)
      have hgr := grown 0 (by omega) (Value.ownBlock (.slice none 0 0))
      exact ⟨_, _, hr, hgr.1, hgr.2, .inr fun g hg => by simp [Value.ownBlock] at hg; omega⟩
  · by_cases hroom : n + m ≤ cap
    · have hl := hs.newsLen
      have hfit : n * i.size + news.length ≤ cur.size := by rw [hl, hcs, hsize, ← Nat.add_mul]; exact Nat.mul_le_mul_right _ hroom
      have hr := run_append_room_row (P := P) w t tx ty e i ht hi g n cap cur hg x m news (by rw [hsize]; exact hs) hroom hfit
      rw [hsize] at hr hfit
      refine ⟨_, _, hr, ⟨hlen, .inr ⟨g, cap, _, rfl, hbg, setRow_heap w g cur _ e _ hg, hroom, hcm, ?_, ?_⟩⟩, ⟨rfl, rfl, rfl, by simp, fun k _ hk => setRow_other w g k _ (fun e => hk (by simp [Value.ownBlock, e]))⟩, .inl rfl⟩
      · simp only [List.size_toArray, List.length_append, List.length_take, List.length_drop, Array.length_toList]
        omega
      · rw [htake, ← hlen]
        exact List.take_left
    · have holds : ∀ j u, xs[j]? = some u → w.cell? ((⟨g, 0, none⟩ : Addr).add j) = some u := hown.cells (g := g) rfl
      have hr := run_append_grow_src (P := P) w t tx ty e i z ht hi hz (some ⟨g, 0, none⟩) n cap xs (run_firstCells_some w.drew i.size n ⟨g, 0, none⟩ n cap xs (by rw [hsize]; exact hown.1) (by simpa using holds)) x m news (by rw [hsize]; exact hs) (by omega) (by omega) (growslice_fits (by omega) hbytes)
      have hgr := grown cap (by omega) (Value.ownBlock (.slice (some ⟨g, 0, none⟩) n cap))
      exact ⟨_, _, hr, hgr.1, hgr.2, .inr fun g' hg' => by simp [Value.ownBlock] at hg'; omega⟩

/-- as a law for the walk -/
theorem wpList_append_any {ops : Array Oper} {rest : List Oper} {o : Oper} {a : Act} {Q : Exit → Act → World → Prop} (hgd : o.guard = none) (s x : Operand) (t tx : TypeId)
    (ho : o.op = .call { callee := .builtin .append, args := #[s, x], argTypes := #[t, tx] })
    (e : TypeId) (z : Value) (bytes : Nat) (ht : P.underlying t = some (.slice e)) (hinfo : (P.info? e).map (fun i => (i.zero, i.size, i.bytes)) = some (some z, 1, bytes)) (hzs : z.cells.size = 1)
    (v : Value) (n : Nat) (xs : List Value) (hv : a.eval s = v) (hown : w.ownsRow 0 e 1 v n xs) (y : Value) (m : Nat) (news : List Value) (hx : a.eval x = y) (hs : Src P 1 tx y m news w)
    (h63 : n + m ≤ 9223372036854775807) (hbytes : (n + m) * bytes ≤ 140737488355328)
    (h : ∀ v' w', w'.ownsRow 0 e 1 v' (n + m) (xs ++ news) → w.grownBy w' v.ownBlock → (v'.ownBlock = v.ownBlock ∨ ∀ g, v'.ownBlock = some g → w.heap.size ≤ g) → wpList P ops Q rest (a.put o.dst v') w') :
    wpList P ops Q (o :: rest) a w := by
  refine wpList_plain hgd fun K hK' => ?_
  obtain ⟨i, hi, hzz⟩ := Option.map_eq_some_iff.1 hinfo
  simp only [Prod.mk.injEq] at hzz
  obtain ⟨hz, hsz, hb⟩ := hzz
  obtain ⟨v', w', hr, h2, h3, h4⟩ := run_append_any (P := P) w t tx o.type e i z bytes ht hi hz hsz hb hzs v n xs hown y m news hs h63 hbytes
  unfold Oper.wp
  simp [execOp, ho, resolve, invoke, builtin, hv, hx, hr, Result.andThen]
  exact hK' _ _ (h v' w' h2 h3 h4)

/-- as one step of a region that draws its order -/
theorem step_append_any {ops : Array Oper} {o : Oper} {a : Act} {K : Act → World → Prop} {Q : Exit → Act → World → Prop} {E : Prop} (hgd : o.guard = none) (s x : Operand) (t tx : TypeId)
    (ho : o.op = .call { callee := .builtin .append, args := #[s, x], argTypes := #[t, tx] })
    (e : TypeId) (z : Value) (bytes : Nat) (ht : P.underlying t = some (.slice e)) (hinfo : (P.info? e).map (fun i => (i.zero, i.size, i.bytes)) = some (some z, 1, bytes)) (hzs : z.cells.size = 1)
    (v : Value) (n : Nat) (xs : List Value) (hv : a.eval s = v) (hown : w.ownsRow 0 e 1 v n xs) (y : Value) (m : Nat) (news : List Value) (hx : a.eval x = y) (hs : Src P 1 tx y m news w)
    (h63 : n + m ≤ 9223372036854775807) (hbytes : (n + m) * bytes ≤ 140737488355328)
    (h : ∀ v' w', w'.ownsRow 0 e 1 v' (n + m) (xs ++ news) → w.grownBy w' v.ownBlock → (v'.ownBlock = v.ownBlock ∨ ∀ g, v'.ownBlock = some g → w.heap.size ≤ g) → K (a.put o.dst v') w') :
    if Region.wanted o (yielded ops a.tmps) = true then Oper.wp P o a w K Q else E := by
  have hw : Region.wanted o (yielded ops a.tmps) = true := by simp [Region.wanted, hgd]
  rw [if_pos hw]
  obtain ⟨i, hi, hzz⟩ := Option.map_eq_some_iff.1 hinfo
  simp only [Prod.mk.injEq] at hzz
  obtain ⟨hz, hsz, hb⟩ := hzz
  obtain ⟨v', w', hr, h2, h3, h4⟩ := run_append_any (P := P) w t tx o.type e i z bytes ht hi hz hsz hb hzs v n xs hown y m news hs h63 hbytes
  unfold Oper.wp
  simp [execOp, ho, resolve, invoke, builtin, hv, hx, hr, Result.andThen]
  exact h v' w' h2 h3 h4
end
end Go.Proofs.YteggcdhibcjneaaGreatDoor.Kit
