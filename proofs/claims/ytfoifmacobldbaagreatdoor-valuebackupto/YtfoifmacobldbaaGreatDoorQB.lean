import Derived.Test.YtfoifmacobldbaaGreatDoorEA
namespace Go.Proofs.YtfoifmacobldbaaGreatDoor.QB
open Go.Proofs.YtfoifmacobldbaaGreatDoor.Kit
set_option linter.unusedVariables false
/-! ### the text of a value, and back: lists, structs, choices -/
abbrev Bs := List UInt8
def rowB (c : UInt8) : Bool := (48 ≤ c && c ≤ 57) || (97 ≤ c && c ≤ 122) || c == 45
def aloneB (c : UInt8) : Bool := (65 ≤ c && c ≤ 90) || c == 95
def nameBt (c : UInt8) : Bool := (rowB c && c != 45) || aloneB c
def nullT : Bs := [110, 117, 108, 108]
def isNullB (s : Bs) : Bool := s.takeWhile rowB == nullT && (match s.dropWhile rowB with | [] => true | c :: _ => c != 40 && !aloneB c)
def takes (p s : Bs) : Option Bs := if p.isPrefixOf s then some (s.drop p.length) else none
def joinC : List Bs → Bs
  | [] => []
  | [a] => a
  | a :: b :: r => a ++ 44 :: joinC (b :: r)
def nm (f : FT) : Bs := f.name.data.toList
section
variable (leafT : FT → VT → Bs) (leafR : FT → Bs → Option (VT × Bs))
def prB (r : FT → VT → Bs) (f : FT) (v : VT) : Bs :=
  if v.nul = true then nullT
  else if f.kind = 15 ∨ f.kind = 16 then 91 :: (joinC (v.list.map (r f.kids.head!)) ++ [93])
  else if f.kind = 17 then 123 :: (joinC (List.zipWith (fun g x => nm g ++ 58 :: r g x) f.kids v.list) ++ [125])
  else if f.kind = 18 then nm (f.kids.getD v.num.toNat default) ++ 40 :: (r (f.kids.getD v.num.toNat default) v.list.head! ++ [41])
  else if f.kind = 19 ∨ f.kind = 20 then r f.kids.head! v
  else leafT f v
def prV : Nat → FT → VT → Bs
  | 0, _, _ => []
  | d + 1, f, v => prB leafT (prV d) f v
def nullV : VT := .mk true 0 ⟨#[]⟩ []
def listV (l : List VT) : VT := .mk false 0 ⟨#[]⟩ l
def rdItems (r : Bs → Option (VT × Bs)) : Nat → Bs → Option (List VT × Bs)
  | 0, _ => none
  | n + 1, s => match r s with
    | none => none
    | some (v, s1) => match takes [93] s1 with
      | some s2 => some ([v], s2)
      | none => match takes [44] s1 with
        | none => none
        | some s2 => match rdItems r n s2 with
          | none => none
          | some (vs, s3) => some (v :: vs, s3)
def rdSpan (r : Bs → Option (VT × Bs)) : Nat → Bs → Bs → Option (List VT × Bs)
  | 0, _, s => match takes [93] s with
    | none => none
    | some s1 => some ([], s1)
  | n + 1, ahead, s => match takes ahead s with
    | none => none
    | some s1 => match r s1 with
      | none => none
      | some (v, s2) => match rdSpan r n [44] s2 with
        | none => none
        | some (vs, s3) => some (v :: vs, s3)
def rdParts (r : FT → Bs → Option (VT × Bs)) : List FT → Bs → Bs → Option (List VT × Bs)
  | [], _, s => match takes [125] s with
    | none => none
    | some s1 => some ([], s1)
  | g :: gs, ahead, s => match takes ahead s with
    | none => none
    | some s1 => match takes (nm g ++ [58]) s1 with
      | none => none
      | some s2 => match r g s2 with
        | none => none
        | some (v, s3) => match rdParts r gs [44] s3 with
          | none => none
          | some (vs, s4) => some (v :: vs, s4)
def idxN (n : Bs) : List FT → Option Nat
  | [] => none
  | g :: gs => if nm g = n then some 0 else (idxN n gs).map (· + 1)
def rdChoice (r : FT → Bs → Option (VT × Bs)) (kids : List FT) (s : Bs) : Option (VT × Bs) :=
  match idxN (s.takeWhile nameBt) kids with
  | none => none
  | some i => match takes [40] (s.dropWhile nameBt) with
    | none => none
    | some s1 => match r (kids.getD i default) s1 with
      | none => none
      | some (v, s2) => match takes [41] s2 with
        | none => none
        | some s3 => some (.mk false i ⟨#[]⟩ [v], s3)
def lst : Option (List VT × Bs) → Option (VT × Bs)
  | none => none
  | some (l, s) => some (listV l, s)
def rdB (r : FT → Bs → Option (VT × Bs)) (f : FT) (s : Bs) : Option (VT × Bs) :=
  if f.nul = true ∧ isNullB s = true then some (nullV, s.drop 4)
  else if f.kind = 15 then match takes [91] s with
    | none => none
    | some s1 => match takes [93] s1 with
      | some s2 => some (listV [], s2)
      | none => lst (rdItems (r f.kids.head!) 4096 s1)
  else if f.kind = 16 then lst (rdSpan (r f.kids.head!) f.width.toNat [91] s)
  else if f.kind = 17 then match takes [123] s with
    | none => none
    | some s1 => lst (rdParts r f.kids [] s1)
  else if f.kind = 18 then rdChoice r f.kids s
  else if f.kind = 19 ∨ f.kind = 20 then r f.kids.head! s
  else leafR f s
def rdV : Nat → FT → Bs → Option (VT × Bs)
  | 0, _, _ => none
  | d + 1, f, s => rdB leafR (rdV d) f s
end
/-! what is taken -/
theorem takes_app (p r : Bs) : takes p (p ++ r) = some r := by
  unfold takes
  rw [if_pos (by simp), List.drop_left]
theorem takes_some {p s r : Bs} (h : takes p s = some r) : s = p ++ r := by
  unfold takes at h
  split at h
  · rename_i hp
    obtain ⟨t, e⟩ := List.isPrefixOf_iff_prefix.1 hp
    subst e
    simp only [Option.some.injEq, List.drop_left] at h
    rw [h]
  · cases h
theorem takes_one (c : UInt8) (r : Bs) : takes [c] (c :: r) = some r := takes_app [c] r
theorem takes_ne {c x : UInt8} {r : Bs} (h : c ≠ x) : takes [c] (x :: r) = none := by
  unfold takes
  rw [if_neg (by simp [h])]
/-- a value's text ends here -/
def Stop (r : Bs) : Prop := ∀ c t, r = c :: t → c = 44 ∨ c = 93 ∨ c = 125 ∨ c = 41
theorem stop_nil : Stop [] := fun c t e => by cases e
theorem stop_c {c : UInt8} {t : Bs} (h : c = 44 ∨ c = 93 ∨ c = 125 ∨ c = 41) : Stop (c :: t) := fun c' t' e => by cases e; exact h
theorem tw_stop {p : UInt8 → Bool} {a r : Bs} (ha : ∀ c ∈ a, p c = true) (hr : ∀ c t, r = c :: t → p c = false) : (a ++ r).takeWhile p = a ∧ (a ++ r).dropWhile p = r := by
  induction a with
  | nil =>
    cases r with
    | nil => exact ⟨rfl, rfl⟩
    | cons c t => simp [hr c t rfl]
  | cons x a ih =>
    have := ih fun c hc => ha c (by simp [hc])
    simp [ha x (by simp), this]

/-! what fits -/
def All2 (r : FT → VT → Prop) : List FT → List VT → Prop
  | [], [] => True
  | g :: gs, x :: xs => r g x ∧ All2 r gs xs
  | _, _ => False
theorem All2.len {r : FT → VT → Prop} : ∀ {gs : List FT} {xs : List VT}, All2 r gs xs → xs.length = gs.length
  | [], [], _ => rfl
  | g :: gs, x :: xs, h => by simp [All2.len h.2]
  | [], _ :: _, h => h.elim
  | _ :: _, [], h => h.elim
def fitB (lf : FT → VT → Prop) (r : FT → VT → Prop) (f : FT) (v : VT) : Prop :=
  if v.nul = true then f.nul = true ∧ v = nullV
  else if f.kind = 15 then v = listV v.list ∧ v.list.length ≤ 4096 ∧ ∀ x ∈ v.list, r f.kids.head! x
  else if f.kind = 16 then v = listV v.list ∧ v.list.length = f.width.toNat ∧ ∀ x ∈ v.list, r f.kids.head! x
  else if f.kind = 17 then v = listV v.list ∧ All2 r f.kids v.list
  else if f.kind = 18 then ∃ i x, v = .mk false (i : Nat) ⟨#[]⟩ [x] ∧ i < f.kids.length ∧ r (f.kids.getD i default) x
  else if f.kind = 19 ∨ f.kind = 20 then r f.kids.head! v
  else lf f v
def fitV (lf : FT → VT → Prop) : Nat → FT → VT → Prop
  | 0, _, _ => False
  | d + 1, f, v => fitB lf (fitV lf d) f v
/-- what is asked of the fields -/
def okk : Nat → FT → Prop
  | 0, _ => False
  | d + 1, f => (f.kind = 16 → 1 ≤ f.width) ∧ (f.kind = 18 → (f.kids.map nm).Nodup ∧ (∀ g ∈ f.kids, ∀ c ∈ nm g, nameBt c = true)) ∧ (f.kind = 18 → f.nul = false) ∧ (f.kind = 19 ∨ f.kind = 20 → f.kids ≠ [] ∧ (f.kids.head!.nul = true → f.nul = true)) ∧ (f.kind = 15 ∨ f.kind = 16 → f.kids ≠ []) ∧ (15 ≤ f.kind → ∀ g ∈ f.kids, okk d g)
theorem head_mem {l : List FT} (h : l ≠ []) : l.head! ∈ l := by
  cases l with
  | nil => exact absurd rfl h
  | cons x r => exact List.mem_cons_self
theorem getD_mem {l : List FT} {i : Nat} (h : i < l.length) : l.getD i default ∈ l := by
  simp [List.getElem?_eq_getElem h]
theorem null_text {s : Bs} (h : isNullB s = true) : s = nullT ++ s.drop 4 := by
  unfold isNullB at h
  simp only [Bool.and_eq_true, beq_iff_eq] at h
  have e := List.takeWhile_append_dropWhile (p := rowB) (l := s)
  rw [h.1] at e
  rw [← e]
  rfl
section
variable {leafT : FT → VT → Bs} {leafR : FT → Bs → Option (VT × Bs)} {lf : FT → VT → Prop}
theorem items_back {r : Bs → Option (VT × Bs)} {p : VT → Bs} {q : VT → Prop} (h : ∀ s x t, r s = some (x, t) → s = p x ++ t ∧ q x) : ∀ (n : Nat) (s : Bs) (l : List VT) (t : Bs), rdItems r n s = some (l, t) → s = joinC (l.map p) ++ 93 :: t ∧ l ≠ [] ∧ l.length ≤ n ∧ ∀ x ∈ l, q x
  | 0, s, l, t, e => by cases e
  | n + 1, s, l, t, e => by
    unfold rdItems at e
    split at e
    · cases e
    · rename_i v s1 e1
      obtain ⟨h1, h2⟩ := h _ _ _ e1
      split at e
      · rename_i s2 e2
        simp only [Option.some.injEq, Prod.mk.injEq] at e
        obtain ⟨rfl, rfl⟩ := e
        have := takes_some e2
        subst this
        exact ⟨by rw [h1]; simp [joinC], by simp, by simp, by simpa using h2⟩
      · split at e
        · cases e
        · rename_i s2 e2
          split at e
          · cases e
          · rename_i vs s3 e3
            simp only [Option.some.injEq, Prod.mk.injEq] at e
            obtain ⟨rfl, rfl⟩ := e
            obtain ⟨g1, g2, g3, g4⟩ := items_back h n _ _ _ e3
            have := takes_some e2
            subst this
            refine ⟨?_, by simp, by simp; omega, fun x hx => ?_⟩
            · rw [h1, g1]
              cases vs with
              | nil => exact absurd rfl g2
              | cons y ys => simp [joinC]
            · rcases List.mem_cons.1 hx with rfl | hx
              · exact h2
              · exact g4 x hx
theorem span_back {r : Bs → Option (VT × Bs)} {p : VT → Bs} {q : VT → Prop} (h : ∀ s x t, r s = some (x, t) → s = p x ++ t ∧ q x) : ∀ (n : Nat) (ah s : Bs) (l : List VT) (t : Bs), rdSpan r n ah s = some (l, t) → l.length = n ∧ (∀ x ∈ l, q x) ∧ s = (if n = 0 then [] else ah) ++ joinC (l.map p) ++ 93 :: t
  | 0, ah, s, l, t, e => by
    unfold rdSpan at e
    split at e
    · cases e
    · rename_i s1 e1
      simp only [Option.some.injEq, Prod.mk.injEq] at e
      obtain ⟨rfl, rfl⟩ := e
      exact ⟨rfl, by simp, by rw [takes_some e1]; simp [joinC]⟩
  | n + 1, ah, s, l, t, e => by
    unfold rdSpan at e
    split at e
    · cases e
    · rename_i s1 e1
      split at e
      · cases e
      · rename_i v s2 e2
        split at e
        · cases e
        · rename_i vs s3 e3
          simp only [Option.some.injEq, Prod.mk.injEq] at e
          obtain ⟨rfl, rfl⟩ := e
          obtain ⟨h1, h2⟩ := h _ _ _ e2
          obtain ⟨g1, g2, g3⟩ := span_back h n _ _ _ _ e3
          refine ⟨by simp [g1], fun x hx => ?_, ?_⟩
          · rcases List.mem_cons.1 hx with rfl | hx
            · exact h2
            · exact g2 x hx
          · rw [takes_some e1, h1, g3, if_neg (show ¬ n + 1 = 0 by omega)]
            cases vs with
            | nil => simp at g1; subst g1; simp [joinC]
            | cons y ys =>
              have : n ≠ 0 := by rintro rfl; simp at g1
              rw [if_neg this]
              simp [joinC]
theorem parts_back {r : FT → Bs → Option (VT × Bs)} {p : FT → VT → Bs} {q : FT → VT → Prop} : ∀ (gs : List FT) (h : ∀ g ∈ gs, ∀ s x t, r g s = some (x, t) → s = p g x ++ t ∧ q g x) (ah s : Bs) (l : List VT) (t : Bs), rdParts r gs ah s = some (l, t) → All2 q gs l ∧ s = (if gs = [] then [] else ah) ++ joinC (List.zipWith (fun g x => nm g ++ 58 :: p g x) gs l) ++ 125 :: t
  | [], h, ah, s, l, t, e => by
    unfold rdParts at e
    split at e
    · cases e
    · rename_i s1 e1
      simp only [Option.some.injEq, Prod.mk.injEq] at e
      obtain ⟨rfl, rfl⟩ := e
      exact ⟨trivial, by rw [takes_some e1]; simp [joinC]⟩
  | g :: gs, h, ah, s, l, t, e => by
    unfold rdParts at e
    split at e
    · cases e
    · rename_i s1 e1
      split at e
      · cases e
      · rename_i s2 e2
        split at e
        · cases e
        · rename_i v s3 e3
          split at e
          · cases e
          · rename_i vs s4 e4
            simp only [Option.some.injEq, Prod.mk.injEq] at e
            obtain ⟨rfl, rfl⟩ := e
            obtain ⟨h1, h2⟩ := h g (by simp) _ _ _ e3
            obtain ⟨g1, g2⟩ := parts_back gs (fun g' hg => h g' (by simp [hg])) _ _ _ _ e4
            refine ⟨⟨h2, g1⟩, ?_⟩
            rw [takes_some e1, takes_some e2, h1, g2, if_neg (show ¬ (g :: gs = []) by simp)]
            cases gs with
            | nil =>
              cases vs with
              | nil => simp [joinC]
              | cons y ys => exact g1.elim
            | cons g' gs' =>
              cases vs with
              | nil => exact g1.elim
              | cons y ys => simp [joinC]
theorem idx_some {n : Bs} : ∀ {l : List FT} {i : Nat}, idxN n l = some i → i < l.length ∧ nm (l.getD i default) = n
  | [], i, e => by cases e
  | g :: gs, i, e => by
    unfold idxN at e
    split at e
    · rename_i hg
      simp only [Option.some.injEq] at e
      subst e
      exact ⟨by simp, by simpa using hg⟩
    · cases hh : idxN n gs with
      | none => rw [hh] at e; cases e
      | some j =>
        rw [hh] at e
        simp only [Option.map_some, Option.some.injEq] at e
        subst e
        obtain ⟨h1, h2⟩ := idx_some hh
        exact ⟨by simp; omega, by simpa using h2⟩
/-- what is read is a value whose text stood there -/
theorem rd_back (hL : ∀ f s x t, leafR f s = some (x, t) → s = leafT f x ++ t ∧ x.nul = false ∧ lf f x) : ∀ (d : Nat) (f : FT) (s : Bs) (x : VT) (t : Bs), okk d f → rdV leafR d f s = some (x, t) → (s = prV leafT d f x ++ t ∧ fitV lf d f x) ∧ (x.nul = true → f.nul = true ∧ isNullB s = true)
  | 0, f, s, x, t, ho, e => ho.elim
  | d + 1, f, s, x, t, ho, e => by
    obtain ⟨o1, o2, o3, o4, o5, o6⟩ := ho
    have e' : rdB leafR (rdV leafR d) f s = some (x, t) := e
    show (s = prB leafT (prV leafT d) f x ++ t ∧ fitB lf (fitV lf d) f x) ∧ _
    unfold rdB at e'
    have kid : 15 ≤ f.kind → ∀ g ∈ f.kids, ∀ s x t, rdV leafR d g s = some (x, t) → s = prV leafT d g x ++ t ∧ fitV lf d g x := fun h15 g hg s x t e => (rd_back hL d g s x t (o6 h15 g hg) e).1
    split at e'
    · rename_i hn
      simp only [Option.some.injEq, Prod.mk.injEq] at e'
      obtain ⟨rfl, rfl⟩ := e'
      refine ⟨⟨?_, ?_⟩, fun _ => hn⟩
      · unfold prB
        rw [if_pos (show nullV.nul = true from rfl)]
        exact null_text hn.2
      · unfold fitB
        rw [if_pos (show nullV.nul = true from rfl)]
        exact ⟨hn.1, rfl⟩
    · rename_i hn
      unfold prB fitB
      split at e'
      · rename_i k15
        have h15 := kid (by omega) f.kids.head! (head_mem (o5 (.inl k15)))
        split at e'
        · cases e'
        · rename_i s1 e1
          split at e'
          · rename_i s2 e2
            simp only [Option.some.injEq, Prod.mk.injEq] at e'
            obtain ⟨rfl, rfl⟩ := e'
            refine ⟨⟨?_, ?_⟩, fun h => by cases h⟩
            · rw [if_neg (by simp [listV, VT.nul]), if_pos (.inl k15), takes_some e1, takes_some e2]
              rfl
            · rw [if_neg (by simp [listV, VT.nul]), if_pos k15]
              exact ⟨rfl, by simp [listV, VT.list], by simp [listV, VT.list]⟩
          · cases hh : rdItems (rdV leafR d f.kids.head!) 4096 s1 with
            | none => rw [hh] at e'; cases e'
            | some y =>
              obtain ⟨l, t'⟩ := y
              rw [hh] at e'
              simp only [lst, Option.some.injEq, Prod.mk.injEq] at e'
              obtain ⟨rfl, rfl⟩ := e'
              obtain ⟨g1, g2, g3, g4⟩ := items_back h15 _ _ _ _ hh
              refine ⟨⟨?_, ?_⟩, fun h => by cases h⟩
              · rw [if_neg (by simp [listV, VT.nul]), if_pos (.inl k15), takes_some e1, g1]
                simp [listV, VT.list]
              · rw [if_neg (by simp [listV, VT.nul]), if_pos k15]
                exact ⟨rfl, g3, g4⟩
      · rename_i k15
        split at e'
        · rename_i k16
          have h16 := kid (by omega) f.kids.head! (head_mem (o5 (.inr k16)))
          cases hh : rdSpan (rdV leafR d f.kids.head!) f.width.toNat [91] s with
          | none => rw [hh] at e'; cases e'
          | some y =>
            obtain ⟨l, t'⟩ := y
            rw [hh] at e'
            simp only [lst, Option.some.injEq, Prod.mk.injEq] at e'
            obtain ⟨rfl, rfl⟩ := e'
            obtain ⟨g1, g2, g3⟩ := span_back h16 _ _ _ _ _ hh
            have hw := o1 k16
            refine ⟨⟨?_, ?_⟩, fun h => by cases h⟩
            · rw [if_neg (by simp [listV, VT.nul]), if_pos (.inr k16), g3, if_neg (by omega)]
              simp [listV, VT.list]
            · rw [if_neg (by simp [listV, VT.nul]), if_neg k15, if_pos k16]
              exact ⟨rfl, g1, g2⟩
        · rename_i k16
          split at e'
          · rename_i k17
            split at e'
            · cases e'
            · rename_i s1 e1
              cases hh : rdParts (rdV leafR d) f.kids [] s1 with
              | none => rw [hh] at e'; cases e'
              | some y =>
                obtain ⟨l, t'⟩ := y
                rw [hh] at e'
                simp only [lst, Option.some.injEq, Prod.mk.injEq] at e'
                obtain ⟨rfl, rfl⟩ := e'
                obtain ⟨g1, g2⟩ := parts_back f.kids (kid (by omega)) _ _ _ _ hh
                refine ⟨⟨?_, ?_⟩, fun h => by cases h⟩
                · rw [if_neg (by simp [listV, VT.nul]), if_neg (by omega), if_pos k17, takes_some e1, g2]
                  simp [listV, VT.list]
                · rw [if_neg (by simp [listV, VT.nul]), if_neg k15, if_neg k16, if_pos k17]
                  exact ⟨rfl, g1⟩
          · rename_i k17
            split at e'
            · rename_i k18
              unfold rdChoice at e'
              split at e'
              · cases e'
              · rename_i i ei
                obtain ⟨hi, hnm⟩ := idx_some ei
                split at e'
                · cases e'
                · rename_i s1 e1
                  split at e'
                  · cases e'
                  · rename_i v s2 e2
                    split at e'
                    · cases e'
                    · rename_i s3 e3
                      simp only [Option.some.injEq, Prod.mk.injEq] at e'
                      obtain ⟨rfl, rfl⟩ := e'
                      obtain ⟨g1, g2⟩ := kid (by omega) _ (getD_mem hi) _ _ _ e2
                      refine ⟨⟨?_, ?_⟩, fun h => by cases h⟩
                      · rw [if_neg (by simp [VT.nul]), if_neg (by omega), if_neg k17, if_pos k18]
                        have es := List.takeWhile_append_dropWhile (p := nameBt) (l := s)
                        rw [takes_some e1, g1, takes_some e3, ← hnm] at es
                        rw [← es]
                        simp [VT.num, VT.list]
                        rfl
                      · rw [if_neg (by simp [VT.nul]), if_neg k15, if_neg k16, if_neg k17, if_pos k18]
                        exact ⟨i, v, rfl, hi, g2⟩
            · rename_i k18
              split at e'
              · rename_i k19
                obtain ⟨hk1, hk2⟩ := o4 k19
                have hok := o6 (by omega) _ (head_mem hk1)
                obtain ⟨⟨g1, g2⟩, g3⟩ := rd_back hL d _ _ _ _ hok e'
                have hxn : x.nul = false := by
                  cases hx : x.nul with
                  | false => rfl
                  | true => exact absurd ⟨hk2 (g3 hx).1, (g3 hx).2⟩ hn
                refine ⟨⟨?_, ?_⟩, fun h => by rw [hxn] at h; cases h⟩
                · rw [if_neg (by simp [hxn]), if_neg (by omega), if_neg k17, if_neg k18, if_pos k19]
                  exact g1
                · rw [if_neg (by simp [hxn]), if_neg k15, if_neg k16, if_neg k17, if_neg k18, if_pos k19]
                  exact g2
              · rename_i k19
                obtain ⟨g1, g2, g3⟩ := hL _ _ _ _ e'
                refine ⟨⟨?_, ?_⟩, fun h => by rw [g2] at h; cases h⟩
                · rw [if_neg (by simp [g2]), if_neg (by omega), if_neg k17, if_neg k18, if_neg k19]
                  exact g1
                · rw [if_neg (by simp [g2]), if_neg k15, if_neg k16, if_neg k17, if_neg k18, if_neg k19]
                  exact g3
/-! there and back -/
theorem stop_row {t : Bs} (h : Stop t) : ∀ c r, t = c :: r → rowB c = false ∧ aloneB c = false ∧ nameBt c = false ∧ c ≠ 40 := fun c r e => by
  rcases h c r e with rfl | rfl | rfl | rfl <;> decide
theorem null_stop {t : Bs} (h : Stop t) : isNullB (nullT ++ t) = true := by
  obtain ⟨h1, h2⟩ := tw_stop (p := rowB) (a := nullT) (r := t) (by decide) (fun c r e => (stop_row h c r e).1)
  unfold isNullB
  rw [h1, h2]
  cases t with
  | nil => rfl
  | cons c r =>
    have := stop_row h c r rfl
    simp [this.2.1, this.2.2.2]
theorem idx_at {l : List FT} (hn : (l.map nm).Nodup) : ∀ {i : Nat}, i < l.length → idxN (nm (l.getD i default)) l = some i := by
  induction l with
  | nil => intro i hi; simp at hi
  | cons g gs ih =>
    intro i hi
    simp only [List.map_cons, List.nodup_cons] at hn
    cases i with
    | zero => simp [idxN]
    | succ i =>
      have hi' : i < gs.length := by simpa using hi
      have hm : nm (gs.getD i default) ∈ gs.map nm := List.mem_map_of_mem (getD_mem hi')
      have hne : nm g ≠ nm (gs.getD i default) := fun e => hn.1 (e ▸ hm)
      have := ih hn.2 hi'
      show (if nm g = nm (gs.getD i default) then some 0 else (idxN (nm (gs.getD i default)) gs).map (· + 1)) = _
      rw [if_neg hne, this]
      rfl
theorem items_there {r : Bs → Option (VT × Bs)} {p : VT → Bs} : ∀ (l : List VT) (n : Nat) (t : Bs), (∀ x ∈ l, ∀ t, Stop t → r (p x ++ t) = some (x, t)) → l ≠ [] → l.length ≤ n → rdItems r n (joinC (l.map p) ++ 93 :: t) = some (l, t)
  | [], _, _, _, h, _ => absurd rfl h
  | [x], n + 1, t, h, _, _ => by
    show rdItems r (n + 1) (p x ++ 93 :: t) = _
    unfold rdItems
    rw [h x (by simp) _ (stop_c (.inr (.inl rfl)))]
    simp [takes_one]
  | x :: y :: l, n + 1, t, h, _, hl => by
    have ih := items_there (y :: l) n t (fun z hz => h z (by simp [hz])) (by simp) (by simpa using hl)
    show rdItems r (n + 1) (p x ++ 44 :: joinC ((y :: l).map p) ++ 93 :: t) = _
    rw [List.append_assoc, List.cons_append]
    unfold rdItems
    rw [h x (by simp) _ (stop_c (.inl rfl))]
    simp only [takes_ne (show (93 : UInt8) ≠ 44 by decide), takes_one, ih]
  | x :: l, 0, t, _, _, hl => by simp at hl
theorem span_there {r : Bs → Option (VT × Bs)} {p : VT → Bs} : ∀ (l : List VT) (ah t : Bs), (∀ x ∈ l, ∀ t, Stop t → r (p x ++ t) = some (x, t)) → rdSpan r l.length ah ((if l = [] then [] else ah) ++ joinC (l.map p) ++ 93 :: t) = some (l, t)
  | [], ah, t, _ => by simp [rdSpan, joinC, takes_one]
  | [x], ah, t, h => by
    have : rdSpan r 1 ah (ah ++ (p x ++ 93 :: t)) = some ([x], t) := by
      unfold rdSpan
      rw [takes_app]
      simp only
      rw [h x (by simp) _ (stop_c (.inr (.inl rfl)))]
      simp [rdSpan, takes_one]
    simpa [joinC] using this
  | x :: y :: l, ah, t, h => by
    have ih := span_there (y :: l) [44] t (fun z hz => h z (by simp [hz]))
    rw [if_neg (by simp)] at ih
    have : rdSpan r ((y :: l).length + 1) ah (ah ++ (p x ++ ([44] ++ joinC ((y :: l).map p) ++ 93 :: t))) = some (x :: y :: l, t) := by
      unfold rdSpan
      rw [takes_app]
      simp only
      rw [h x (by simp) ([44] ++ joinC ((y :: l).map p) ++ 93 :: t) (stop_c (.inl rfl))]
      simp only
      rw [ih]
    rw [if_neg (by simp)]
    simpa [joinC] using this
theorem parts_there {r : FT → Bs → Option (VT × Bs)} {p : FT → VT → Bs} {q : FT → VT → Prop} : ∀ (gs : List FT) (l : List VT) (ah t : Bs), All2 q gs l → (∀ g ∈ gs, ∀ x, q g x → ∀ t, Stop t → r g (p g x ++ t) = some (x, t)) → rdParts r gs ah ((if gs = [] then [] else ah) ++ joinC (List.zipWith (fun g x => nm g ++ 58 :: p g x) gs l) ++ 125 :: t) = some (l, t)
  | [], [], ah, t, _, _ => by simp [rdParts, joinC, takes_one]
  | [g], [x], ah, t, ha, h => by
    have : rdParts r [g] ah (ah ++ ((nm g ++ [58]) ++ (p g x ++ 125 :: t))) = some ([x], t) := by
      unfold rdParts
      rw [takes_app]
      simp only
      rw [takes_app]
      simp only
      rw [h g (by simp) x ha.1 _ (stop_c (.inr (.inr (.inl rfl))))]
      simp [rdParts, takes_one]
    simpa [joinC] using this
  | g :: g' :: gs, x :: y :: l, ah, t, ha, h => by
    have ih := parts_there (g' :: gs) (y :: l) [44] t ha.2 (fun z hz => h z (by simp [hz]))
    rw [if_neg (by simp)] at ih
    have : rdParts r (g :: g' :: gs) ah (ah ++ ((nm g ++ [58]) ++ (p g x ++ ([44] ++ joinC (List.zipWith (fun g x => nm g ++ 58 :: p g x) (g' :: gs) (y :: l)) ++ 125 :: t)))) = some (x :: y :: l, t) := by
      unfold rdParts
      rw [takes_app]
      simp only
      rw [takes_app]
      simp only
      rw [h g (by simp) x ha.1 ([44] ++ joinC (List.zipWith (fun g x => nm g ++ 58 :: p g x) (g' :: gs) (y :: l)) ++ 125 :: t) (stop_c (.inl rfl))]
      simp only
      rw [ih]
    rw [if_neg (by simp)]
    simpa [joinC] using this
  | [g], x :: y :: l, _, _, ha, _ => ha.2.elim
  | g :: g' :: gs, [x], _, _, ha, _ => ha.2.elim
  | [], _ :: _, _, _, ha, _ => ha.elim
  | _ :: _, [], _, _, ha, _ => ha.elim
/-- a first byte that no null begins with -/
theorem not_null {c : UInt8} {s : Bs} (h : c ≠ 110) : isNullB (c :: s) = false := by
  unfold isNullB
  have : (c :: s).takeWhile rowB ≠ nullT := by
    intro e
    rw [List.takeWhile_cons] at e
    split at e
    · simp only [nullT, List.cons.injEq] at e
      exact h e.1
    · cases e
  simp [this]
theorem choice_not_null : ∀ (n r : Bs), (∀ c ∈ n, nameBt c = true) → (match (n ++ 40 :: r).dropWhile rowB with | [] => true | c :: _ => c != 40 && !aloneB c) = false
  | [], r, _ => by
    have : rowB 40 = false := by decide
    simp [this]
  | c :: n, r, h => by
    have ih := choice_not_null n r fun x hx => h x (by simp [hx])
    by_cases hc : rowB c = true
    · rw [List.cons_append, List.dropWhile_cons, if_pos hc]
      exact ih
    · have ha : aloneB c = true := by
        have := h c (by simp)
        unfold nameBt at this
        simpa [hc] using this
      rw [List.cons_append, List.dropWhile_cons, if_neg hc]
      simp [ha]
/-- a text begins with a sign that ends no list -/
def Fst (s : Bs) : Prop := ∃ c r, s = c :: r ∧ c ≠ 93
theorem pr_fst (hF : ∀ f x, lf f x → Fst (leafT f x)) : ∀ (d : Nat) (f : FT) (x : VT), okk d f → fitV lf d f x → Fst (prV leafT d f x)
  | 0, _, _, ho, _ => ho.elim
  | d + 1, f, x, ho, hf => by
    obtain ⟨o1, o2, o3, o4, o5, o6⟩ := ho
    have hf' : fitB lf (fitV lf d) f x := hf
    show Fst (prB leafT (prV leafT d) f x)
    unfold fitB at hf'
    unfold prB
    split at hf'
    · rename_i hn
      rw [if_pos hn]
      exact ⟨_, _, rfl, by decide⟩
    · rename_i hn
      rw [if_neg hn]
      by_cases k15 : f.kind = 15 ∨ f.kind = 16
      · rw [if_pos k15]
        exact ⟨_, _, rfl, by decide⟩
      · rw [if_neg k15]
        rw [if_neg (fun h => k15 (.inl h)), if_neg (fun h => k15 (.inr h))] at hf'
        by_cases k17 : f.kind = 17
        · rw [if_pos k17]
          exact ⟨_, _, rfl, by decide⟩
        · rw [if_neg k17] at hf' ⊢
          by_cases k18 : f.kind = 18
          · rw [if_pos k18] at hf' ⊢
            obtain ⟨i, y, rfl, hi, _⟩ := hf'
            have hnm := (o2 k18).2 _ (getD_mem hi)
            show Fst (nm (f.kids.getD i default) ++ 40 :: _)
            cases hh : nm (f.kids.getD i default) with
            | nil => exact ⟨_, _, rfl, by decide⟩
            | cons c r =>
              have := hnm c (by rw [hh]; simp)
              exact ⟨c, _, rfl, fun e => by rw [e] at this; revert this; decide⟩
          · rw [if_neg k18] at hf' ⊢
            by_cases k19 : f.kind = 19 ∨ f.kind = 20
            · rw [if_pos k19] at hf' ⊢
              exact pr_fst hF d _ _ (o6 (by omega) _ (head_mem (o4 k19).1)) hf'
            · rw [if_neg k19] at hf' ⊢
              exact hF _ _ hf'
/-- what is written is read again, whatever ends it -/
theorem rd_there (hF : ∀ f x, lf f x → Fst (leafT f x)) (hL : ∀ f x t, lf f x → Stop t → leafR f (leafT f x ++ t) = some (x, t) ∧ isNullB (leafT f x ++ t) = false) : ∀ (d : Nat) (f : FT) (x : VT) (t : Bs), okk d f → fitV lf d f x → Stop t → rdV leafR d f (prV leafT d f x ++ t) = some (x, t) ∧ (x.nul = false → isNullB (prV leafT d f x ++ t) = false)
  | 0, f, x, t, ho, _, _ => ho.elim
  | d + 1, f, x, t, ho, hf, hs => by
    have ho' := ho
    obtain ⟨o1, o2, o3, o4, o5, o6⟩ := ho
    have hf' : fitB lf (fitV lf d) f x := hf
    show rdB leafR (rdV leafR d) f (prB leafT (prV leafT d) f x ++ t) = _ ∧ (_ → isNullB (prB leafT (prV leafT d) f x ++ t) = false)
    unfold fitB at hf'
    have kid : 15 ≤ f.kind → ∀ g ∈ f.kids, ∀ x, fitV lf d g x → ∀ t, Stop t → rdV leafR d g (prV leafT d g x ++ t) = some (x, t) := fun h15 g hg x hx t ht => (rd_there hF hL d g x t (o6 h15 g hg) hx ht).1
    split at hf'
    · rename_i hn
      obtain ⟨h1, rfl⟩ := hf'
      refine ⟨?_, fun h => by cases h⟩
      unfold prB rdB
      rw [if_pos (show nullV.nul = true from rfl), if_pos ⟨h1, null_stop hs⟩]
      rfl
    · rename_i hn
      unfold prB
      rw [if_neg hn]
      split at hf'
      · rename_i k15
        obtain ⟨h1, h2, h3⟩ := hf'
        have hkm := head_mem (o5 (.inl k15))
        have hk := kid (by omega) f.kids.head! hkm
        rw [if_pos (.inl k15)]
        have hnn := not_null (s := joinC (x.list.map (prV leafT d f.kids.head!)) ++ [93] ++ t) (show (91 : UInt8) ≠ 110 by decide)
        refine ⟨?_, fun _ => hnn⟩
        unfold rdB
        rw [if_neg (fun h => by rw [List.cons_append, hnn] at h; cases h.2), if_pos k15, List.cons_append, takes_one]
        simp only
        have e1 : x = listV x.list := h1
        rw [List.append_assoc]
        cases hl : x.list with
        | nil => rw [e1, hl]; simp [joinC, takes_one]
        | cons y ys =>
          rw [hl] at h2 h3
          have hit := items_there (y :: ys) 4096 t (fun z hz t ht => hk z (h3 z hz) t ht) (by simp) h2
          have hno : takes [93] (joinC ((y :: ys).map (prV leafT d f.kids.head!)) ++ ([93] ++ t)) = none := by
            obtain ⟨c, r, ec, hc⟩ := pr_fst hF d f.kids.head! y (o6 (by omega) _ hkm) (h3 y (by simp))
            cases ys with
            | nil => simp only [List.map_cons, List.map_nil, joinC, ec, List.cons_append]; exact takes_ne (fun e => hc e.symm)
            | cons z zs => simp only [List.map_cons, joinC, ec, List.cons_append]; exact takes_ne (fun e => hc e.symm)
          rw [hno]
          simp only
          rw [show ([93] ++ t : Bs) = 93 :: t from rfl, hit, e1, hl]
          rfl
      · rename_i k15
        split at hf'
        · rename_i k16
          obtain ⟨h1, h2, h3⟩ := hf'
          have hk := kid (by omega) f.kids.head! (head_mem (o5 (.inr k16)))
          rw [if_pos (.inr k16)]
          have hnn := not_null (s := joinC (x.list.map (prV leafT d f.kids.head!)) ++ [93] ++ t) (show (91 : UInt8) ≠ 110 by decide)
          refine ⟨?_, fun _ => hnn⟩
          unfold rdB
          rw [if_neg (fun h => by rw [List.cons_append, hnn] at h; cases h.2), if_neg k15, if_pos k16, ← h2]
          have hsp := span_there x.list [91] t (fun z hz t ht => hk z (h3 z hz) t ht)
          have hw := o1 k16
          rw [if_neg (fun e => by rw [e] at h2; simp at h2; omega)] at hsp
          have e2 : 91 :: (joinC (x.list.map (prV leafT d f.kids.head!)) ++ [93]) ++ t = [91] ++ joinC (x.list.map (prV leafT d f.kids.head!)) ++ 93 :: t := by simp
          rw [e2, hsp]
          show some (listV x.list, t) = _
          rw [← h1]
        · rename_i k16
          rw [if_neg (by omega)]
          split at hf'
          · rename_i k17
            obtain ⟨h1, h2⟩ := hf'
            rw [if_pos k17]
            have hnn := not_null (s := joinC (List.zipWith (fun g x => nm g ++ 58 :: prV leafT d g x) f.kids x.list) ++ [125] ++ t) (show (123 : UInt8) ≠ 110 by decide)
            refine ⟨?_, fun _ => hnn⟩
            unfold rdB
            rw [if_neg (fun h => by rw [List.cons_append, hnn] at h; cases h.2), if_neg k15, if_neg k16, if_pos k17, List.cons_append, takes_one]
            simp only
            have hpt := parts_there f.kids x.list [] t h2 (fun g hg y hy t ht => kid (by omega) g hg y hy t ht)
            have e2 : joinC (List.zipWith (fun g x => nm g ++ 58 :: prV leafT d g x) f.kids x.list) ++ [125] ++ t = (if f.kids = [] then [] else []) ++ joinC (List.zipWith (fun g x => nm g ++ 58 :: prV leafT d g x) f.kids x.list) ++ 125 :: t := by
              split <;> simp
            rw [e2, hpt]
            show some (listV x.list, t) = _
            rw [← h1]
          · rename_i k17
            rw [if_neg k17]
            split at hf'
            · rename_i k18
              obtain ⟨i, y, rfl, hi, h2⟩ := hf'
              rw [if_pos k18]
              obtain ⟨n1, n2⟩ := o2 k18
              have hnm := n2 _ (getD_mem hi)
              have e2 : nm (f.kids.getD i default) ++ 40 :: (prV leafT d (f.kids.getD i default) y ++ [41]) ++ t = nm (f.kids.getD i default) ++ 40 :: (prV leafT d (f.kids.getD i default) y ++ 41 :: t) := by simp
              show rdB leafR (rdV leafR d) f (nm (f.kids.getD i default) ++ 40 :: (prV leafT d (f.kids.getD i default) y ++ [41]) ++ t) = _ ∧ (_ → isNullB (nm (f.kids.getD i default) ++ 40 :: (prV leafT d (f.kids.getD i default) y ++ [41]) ++ t) = false)
              rw [e2]
              have hnn : isNullB (nm (f.kids.getD i default) ++ 40 :: (prV leafT d (f.kids.getD i default) y ++ 41 :: t)) = false := by
                unfold isNullB
                rw [choice_not_null _ _ hnm, Bool.and_false]
              refine ⟨?_, fun _ => hnn⟩
              obtain ⟨t1, t2⟩ := tw_stop (p := nameBt) (r := 40 :: (prV leafT d (f.kids.getD i default) y ++ 41 :: t)) hnm (fun c r e => by cases e; decide)
              unfold rdB
              rw [if_neg (fun h => by rw [hnn] at h; cases h.2), if_neg k15, if_neg k16, if_neg k17, if_pos k18]
              unfold rdChoice
              rw [t1, t2, idx_at n1 hi]
              simp only [takes_one]
              rw [kid (by omega) _ (getD_mem hi) y h2 _ (stop_c (.inr (.inr (.inr rfl))))]
              simp only [takes_one]
            · rename_i k18
              rw [if_neg k18]
              split at hf'
              · rename_i k19
                rw [if_pos k19]
                obtain ⟨g1, g2⟩ := rd_there hF hL d f.kids.head! x t (o6 (by omega) _ (head_mem (o4 k19).1)) hf' hs
                have hxn : x.nul = false := by simpa using hn
                have hnn := g2 hxn
                refine ⟨?_, fun _ => hnn⟩
                unfold rdB
                rw [if_neg (fun h => by rw [hnn] at h; cases h.2), if_neg k15, if_neg k16, if_neg k17, if_neg k18, if_pos k19]
                exact g1
              · rename_i k19
                rw [if_neg k19]
                obtain ⟨g1, g2⟩ := hL f x t hf' hs
                refine ⟨?_, fun _ => g2⟩
                unfold rdB
                rw [if_neg (fun h => by rw [g2] at h; cases h.2), if_neg k15, if_neg k16, if_neg k17, if_neg k18, if_neg k19]
                exact g1
end
end Go.Proofs.YtfoifmacobldbaaGreatDoor.QB
