import Derived.Test.YtkodgneneiledaaGreatDoorTR
import Derived.Test.YtkodgneneiledaaGreatDoorSH
namespace Go.Proofs.YtkodgneneiledaaGreatDoor.Kit
open Go.RowKit Go.Shelf Go.Deep
set_option linter.unusedVariables false

/-! ### there and back: types, fields, schemas -/
theorem fol_nil : Fol [] := ⟨fun c hc => (by cases hc), by decide⟩
theorem rds_typ {T m : List UInt8} {rec : Pr FT} {tx : FT → ByteArray} (f : FT) (ht : tableB f = true)
    (hi : ∀ x ∈ f.kids, ∀ post, Fol post → Rds T rec x ((tx x).data.toList ++ post) post) (hw : ∀ x ∈ f.kids, ∃ c r, (tx x).data.toList = c :: r ∧ wordB c.toNat = true) (hm : NW m) :
    Rds T (typP T rec) (f.kind, ⟨f.width, f.id, f.index, f.kids⟩) ((tyB f (f.kids.map tx)).data.toList ++ m) m := by
  obtain ⟨⟨k0, k1⟩, hl, hu, ⟨w14, w16, w0⟩, d19, d0⟩ := table_parts ht
  have ek : kindO ⟨(wordK f.kind.toNat).toArray⟩ = f.kind := by rw [kind_back (by omega) (by omega)]; omega
  have hk : Wd (wordK f.kind.toNat) := wd_kind (by omega) (by omega)
  unfold tyB typP
  by_cases h14 : f.kind < 14
  · rw [if_pos h14]
    have e0 : f.kids = [] := List.eq_nil_of_length_eq_zero (by
      have : mostK f.kind.toNat = 0 := by
        obtain ⟨k, hk⟩ : ∃ k : Nat, f.kind = (k : Int) := ⟨f.kind.toNat, by omega⟩
        rw [hk, Int.toNat_natCast]
        have : k < 14 := by omega
        unfold mostK
        split <;> first | omega | rfl
      rw [this] at hu; omega)
    have h := (rds_mean (T := T) hk hm kindO (by rw [ek]; omega)).bind
      (f := fun k => if k < 14 then Pr.pure (k, TP.mk 0 0 0 []) else (mustP T 40).bind fun _ => (innP T rec k).bind fun t => (mustP T 41).bind fun _ => Pr.pure (k, t)) (by
        rw [ek, if_pos h14]; exact Rds.pure _ _)
    rw [w0 (by omega) (by omega), (d0 (by omega)).1, (d0 (by omega)).2, e0]
    exact h
  · rw [if_neg h14, brack_list]
    have hin := rds_inner (T := T) (m := 41 :: m) (rec := rec) (tx := tx) f ht (by omega) hi hw (fol_of _ (by decide) (by decide) (by decide)) (by rw [sk_of (by decide)]; exact (by decide : (41 : UInt8) ≠ 44)) (by rw [sk_of (by decide)]; rfl)
    have h := (rds_mean (T := T) (m := 40 :: (Lib.join ((numsB f ++ f.kids.map tx).map (·.data.toList)) [44, 32] ++ 41 :: m)) hk (nw_of _ (by decide)) kindO (by rw [ek]; omega)).bind
      (f := fun k => if k < 14 then Pr.pure (k, TP.mk 0 0 0 []) else (mustP T 40).bind fun _ => (innP T rec k).bind fun t => (mustP T 41).bind fun _ => Pr.pure (k, t)) (by
        rw [ek, if_neg h14]
        exact (rds_must (by decide) _).bind (hin.bind ((rds_must (by decide) _).bind (Rds.pure _ _))))
    simpa using h
/-- a field that may be printed, and all within -/
def OkT : Nat → FT → Prop
  | 0, f => Wd f.name.data.toList ∧ tableB f = true ∧ f.kids = []
  | d + 1, f => Wd f.name.data.toList ∧ tableB f = true ∧ ∀ x ∈ f.kids, OkT d x
theorem OkT.wd {d : Nat} {f : FT} (h : OkT d f) : Wd f.name.data.toList := by cases d <;> exact h.1
theorem OkT.tab {d : Nat} {f : FT} (h : OkT d f) : tableB f = true := by cases d <;> exact h.2.1
theorem fd_list (f : FT) (t : ByteArray) : (fdB f t).data.toList = f.name.data.toList ++ 32 :: (t.data.toList ++ (if f.nul then [63] else [])) := by
  unfold fdB
  split <;> simp [ByteArray.data_append]
theorem tx_first {d : Nat} {f : FT} (h : OkT d f) : ∃ c r, (txF d f).data.toList = c :: r ∧ wordB c.toNat = true := by
  have hw := h.wd
  obtain ⟨c, r, e⟩ := List.exists_cons_of_ne_nil hw.ne
  have hc := hw.all c (by rw [e]; simp)
  cases d <;> · rw [txF, fd_list, e]; exact ⟨c, _, rfl, hc⟩
theorem rds_field {T : List UInt8} : ∀ (d n : Nat) (f : FT), d < n → OkT d f → ∀ m, Fol m → Rds T (fieldP T n) f ((txF d f).data.toList ++ m) m := by
  have step : ∀ (n : Nat) (f : FT) (tx : FT → ByteArray), Wd f.name.data.toList → tableB f = true → (∀ x ∈ f.kids, ∀ post, Fol post → Rds T (fieldP T n) x ((tx x).data.toList ++ post) post) →
      (∀ x ∈ f.kids, ∃ c r, (tx x).data.toList = c :: r ∧ wordB c.toNat = true) → ∀ m, Fol m → Rds T (fieldP T (n + 1)) f ((fdB f (tyB f (f.kids.map tx))).data.toList ++ m) m := by
    intro n f tx hn ht hi hw m hm
    rw [fd_list, fieldP]
    have hf : f = .mk ⟨f.name.data.toList.toArray⟩ f.nul f.kind f.width f.id f.index f.kids := by obtain ⟨nm, nu, kd, wd, di, ix, ks⟩ := f; rfl
    have hq : Rds T ((takesP T 63).bind fun b => Pr.pure (FT.mk ⟨f.name.data.toList.toArray⟩ b f.kind f.width f.id f.index f.kids)) f ((if f.nul then [63] else []) ++ m) m := by
      cases hnu : f.nul with
      | true =>
        have := (rds_takes (T := T) (c := 63) (by decide) m).last fun b => FT.mk ⟨f.name.data.toList.toArray⟩ b f.kind f.width f.id f.index f.kids
        rw [hnu] at hf; rw [← hf] at this; exact this
      | false =>
        have := (rds_takes_no (T := T) (c := 63) hm.nq).last fun b => FT.mk ⟨f.name.data.toList.toArray⟩ b f.kind f.width f.id f.index f.kids
        rw [hnu] at hf; rw [← hf] at this; exact this
    have hnw : NW ((if f.nul then [63] else []) ++ m) := by
      cases f.nul
      · exact hm.nw
      · exact nw_of _ (by decide)
    have ht' := rds_typ (T := T) (rec := fieldP T n) f ht hi hw hnw
    have h := (rds_name (T := T) (m := 32 :: ((tyB f (f.kids.map tx)).data.toList ++ ((if f.nul then [63] else []) ++ m))) hn (nw_of _ (by decide))).bind
      (f := fun nm => (typP T (fieldP T n)).bind fun t => (takesP T 63).bind fun b => Pr.pure (FT.mk nm b t.1 t.2.width t.2.id t.2.index t.2.kids)) ((ht'.cong (sk_blank _)).bind hq)
    simpa using h
  intro d
  induction d with
  | zero =>
    intro n f hd hf m hm
    obtain ⟨n, rfl⟩ : ∃ k, n = k + 1 := ⟨n - 1, by omega⟩
    obtain ⟨h1, h2, h3⟩ := hf
    have := step n f (txF 0) h1 h2 (by rw [h3]; intro x hx; cases hx) (by rw [h3]; intro x hx; cases hx) m hm
    rw [h3] at this
    exact this
  | succ d ih =>
    intro n f hd hf m hm
    obtain ⟨n, rfl⟩ : ∃ k, n = k + 1 := ⟨n - 1, by omega⟩
    exact step n f (txF d) hf.1 hf.2.1 (fun x hx post hp => ih n x (by omega) (hf.2.2 x hx) post hp) (fun x hx => tx_first (hf.2.2 x hx)) m hm
theorem rds_end {T : List UInt8} : Rds T (endP T) () [] [] := fun a g h => by
  obtain ⟨a', e, h'⟩ := peek_at g h
  refine ⟨a', g, (Pr.bind_ok e).trans (if_neg ?_), by rw [h']; rfl⟩
  have h' : T.drop a' = [] := h'
  exact Nat.not_lt.2 (List.drop_eq_nil_iff.1 h')
theorem nt_list (n : ByteArray × ByteArray) : (ntB n).data.toList = (qtB n.1).data.toList ++ 32 :: (qtB n.2).data.toList := by
  unfold ntB; simp [ByteArray.data_append]
/-- the text of a schema, as bytes -/
def schL (d : Nat) (l : List FT) (ns : List (ByteArray × ByteArray)) : List UInt8 :=
  Lib.join (l.map fun f => (txF d f).data.toList) [44, 32] ++ (if ns = [] then [] else (if l = [] then [] else [32]) ++ 124 :: 32 :: Lib.join (ns.map fun n => (ntB n).data.toList) [44, 32])
theorem rds_notes {T : List UInt8} (l : List FT) (ns : List (ByteArray × ByteArray)) (hn : ∀ n ∈ ns, n.1.size < D0 ∧ n.2.size < D0) (hl : ns.length < D0) :
    Rds T (notesP T l) (l, ns) (if ns = [] then [] else 124 :: 32 :: Lib.join (ns.map fun n => (ntB n).data.toList) [44, 32]) [] := by
  unfold notesP
  by_cases h0 : ns = []
  · rw [if_pos h0, h0]
    have := (rds_takes_no (T := T) (c := 124) (l := []) (by decide)).bind (f := fun b => if b then (manyP T (noteP T)).bind fun ns => Pr.pure (l, ns) else Pr.pure (l, [])) (Rds.pure (l, []) [])
    exact this
  · rw [if_neg h0]
    have hM := (rds_many (T := T) (m := []) (item := noteP T) (tx := fun n => (ntB n).data.toList) ns h0 (fun n h post hp => by
      have := rds_note (T := T) (m := post) n.1 n.2 (hn n h).1 (hn n h).2
      simpa [nt_list] using this) fol_nil (by decide) hl).last fun ns => (l, ns)
    rw [List.append_nil] at hM
    exact (rds_takes (T := T) (c := 124) (by decide) _).bind (f := fun b => if b then (manyP T (noteP T)).bind fun ns => Pr.pure (l, ns) else Pr.pure (l, [])) (hM.cong (sk_blank _))
theorem rds_sch {T : List UInt8} {d : Nat} (hd : d < D0) (l : List FT) (ns : List (ByteArray × ByteArray)) (hf : ∀ f ∈ l, OkT d f) (hfl : l.length < D0) (hn : ∀ n ∈ ns, n.1.size < D0 ∧ n.2.size < D0) (hl : ns.length < D0) :
    Rds T (schP T) (l, ns) (schL d l ns) [] := fun a g h => by
  have hN := rds_notes (T := T) l ns hn hl
  obtain ⟨a1, e, h1⟩ := peek_at g h
  have h1' : sk (T.drop a1) = sk (schL d l ns) := by rw [h1, sk_sk]
  unfold schP
  rw [Pr.bind_ok e]
  by_cases h0 : l = []
  · subst h0
    have ex : schL d [] ns = if ns = [] then [] else 124 :: 32 :: Lib.join (ns.map fun n => (ntB n).data.toList) [44, 32] := by
      unfold schL; simp [Lib.join_nil]
    rw [← ex] at hN
    rw [if_neg]
    · exact hN a1 g h1'
    · rintro ⟨hc, ha⟩
      by_cases h2 : ns = []
      · rw [ex, if_pos h2] at h1
        exact absurd ha (Nat.not_lt.2 (List.drop_eq_nil_iff.1 h1))
      · rw [ex, if_neg h2, sk_of (by decide)] at hc
        exact hc rfl
  · have hfo : Fol (if ns = [] then [] else (if l = [] then [] else [32]) ++ 124 :: 32 :: Lib.join (ns.map fun n => (ntB n).data.toList) [44, 32]) ∧ (sk (if ns = [] then [] else (if l = [] then [] else [32]) ++ 124 :: 32 :: Lib.join (ns.map fun n => (ntB n).data.toList) [44, 32])).headD 0 ≠ 44 := by
      by_cases h2 : ns = []
      · rw [if_pos h2]; exact ⟨fol_nil, by decide⟩
      · rw [if_neg h2, if_neg h0]
        have es : sk ([32] ++ 124 :: 32 :: Lib.join (ns.map fun n => (ntB n).data.toList) [44, 32]) = 124 :: 32 :: Lib.join (ns.map fun n => (ntB n).data.toList) [44, 32] := (sk_blank _).trans (sk_of (by decide))
        exact ⟨⟨nw_of _ (by decide), by rw [es]; exact (by decide : (124 : UInt8) ≠ 63)⟩, by rw [es]; exact (by decide : (124 : UInt8) ≠ 44)⟩
    have hM := rds_many (T := T) (item := fieldP T D0) (tx := fun f => (txF d f).data.toList) l h0 (fun f hm post hp => rds_field d D0 f hd (hf f hm) post hp) hfo.1 hfo.2 hfl
    obtain ⟨f, r, el⟩ := List.exists_cons_of_ne_nil h0
    obtain ⟨c, t, ec, hc⟩ := tx_first (hf f (by rw [el]; simp))
    have eS : ∃ t', schL d l ns = c :: t' := by
      unfold schL
      rw [el, List.map_cons, Lib.join_cons, ec]
      exact ⟨_, rfl⟩
    obtain ⟨t', eS⟩ := eS
    rw [if_pos]
    · have h2 := hM.bind (hN.cong (l' := if ns = [] then [] else (if l = [] then [] else [32]) ++ 124 :: 32 :: Lib.join (ns.map fun n => (ntB n).data.toList) [44, 32]) (by
        by_cases h2 : ns = []
        · rw [if_pos h2, if_pos h2]
        · rw [if_neg h2, if_neg h2, if_neg h0]; exact sk_blank _))
      exact h2 a1 g h1'
    · rw [eS, sk_of (wordB_blank hc)] at h1 ⊢
      refine ⟨fun h => ?_, ?_⟩
      · have h : c = 124 := h
        rw [h] at hc; exact absurd hc (by decide)
      · exact Nat.lt_of_not_le fun hle => by
          have hx : T.drop a1 = [] := List.drop_eq_nil_iff.2 hle
          rw [h1] at hx; cases hx
/-- THERE AND BACK -/
theorem parse_back {d : Nat} (hd : d < D0) (l : List FT) (ns : List (ByteArray × ByteArray)) (hf : ∀ f ∈ l, OkT d f) (hfl : l.length < D0) (hn : ∀ n ∈ ns, n.1.size < D0 ∧ n.2.size < D0) (hl : ns.length < D0) :
    ∃ a g, parseP (schL d l ns) (0, []) = .ok ((l, ns), (a, g)) := by
  obtain ⟨a, g, e, _⟩ := ((rds_sch (T := schL d l ns) hd l ns hf hfl hn hl).bind (f := fun x => (endP (schL d l ns)).bind fun _ => Pr.pure x) (rds_end.bind (Rds.pure (l, ns) []))) 0 [] rfl
  exact ⟨a, g, e⟩
theorem parseF_back {d : Nat} (hd : d < D0) (f : FT) (hf : OkT d f) : ∃ a g, parseFP (txF d f).data.toList (0, []) = .ok (f, (a, g)) := by
  have h := rds_field (T := (txF d f).data.toList) d D0 f hd hf [] fol_nil
  rw [List.append_nil] at h
  obtain ⟨a, g, e, _⟩ := (h.bind (f := fun x => (endP (txF d f).data.toList).bind fun _ => Pr.pure x) (rds_end.bind (Rds.pure f []))) 0 [] rfl
  exact ⟨a, g, e⟩
end Go.Proofs.YtkodgneneiledaaGreatDoor.Kit
