import Derived.Test.YtdffjdlpbfcikaaDoorRS
import Derived.Test.YtdffjdlpbfcikaaDoorSJ
namespace Go.Proofs.YtdffjdlpbfcikaaDoor.Kit
open Go.RowKit Go.Shelf Go.Deep
set_option linter.unusedVariables false

/-! ### what is read is what is laid -/
/-- what is read lies there as P says; what is wrong lies within -/
def Dec {α : Type} (R : List UInt8 → Rd α) (P : α → List UInt8 → Prop) : Prop :=
  ∀ (B : List UInt8) (s : St), s.1 ≤ B.length → (∀ x s', R B s = .ok (x, s') → s'.1 ≤ B.length ∧ ∃ b, B.drop s.1 = b ++ B.drop s'.1 ∧ P x b) ∧ (∀ e, R B s = .error e → e.2 ≤ B.length ∧ (e.1 = 8 ∨ e.1 = 50 ∨ e.1 = 51))
theorem Dec.mono {α : Type} {R : List UInt8 → Rd α} {P Q : α → List UInt8 → Prop} (h : Dec R P) (hPQ : ∀ x b, P x b → Q x b) : Dec R Q := fun B s hs =>
  ⟨fun x s' e => by
    obtain ⟨h1, b, h2, h3⟩ := (h B s hs).1 x s' e
    exact ⟨h1, b, h2, hPQ x b h3⟩, (h B s hs).2⟩
theorem Dec.bind {α β : Type} {R : List UInt8 → Rd α} {f : List UInt8 → α → Rd β} {P : α → List UInt8 → Prop} {Q : α → β → List UInt8 → Prop} (h1 : Dec R P) (h2 : ∀ x, Dec (fun B => f B x) (Q x)) : Dec (fun B => (R B).bind (f B)) (fun y b => ∃ x b1 b2, b = b1 ++ b2 ∧ P x b1 ∧ Q x y b2) := by
  intro B s hs
  cases hr : R B s with
  | error er =>
    have e := Rd.bind_err (f := f B) hr
    refine ⟨fun x s' h => ?_, fun e' h => ?_⟩
    · dsimp only at h; rw [e] at h; cases h
    · dsimp only at h; rw [e] at h; cases h; exact (h1 B s hs).2 er hr
  | ok q =>
    obtain ⟨x, t⟩ := q
    have e := Rd.bind_ok (f := f B) hr
    obtain ⟨ht, b1, hb1, hP⟩ := (h1 B s hs).1 x t hr
    refine ⟨fun y s' h => ?_, fun e' h => ?_⟩
    · dsimp only at h
      rw [e] at h
      obtain ⟨h3, b2, hb2, hQ⟩ := (h2 x B t ht).1 y s' h
      exact ⟨h3, b1 ++ b2, by rw [hb1, hb2, List.append_assoc], x, b1, b2, rfl, hP, hQ⟩
    · dsimp only at h
      rw [e] at h
      exact (h2 x B t ht).2 e' h
theorem Dec.pure {α : Type} (x : α) : Dec (fun _ => Rd.pure x) (fun y b => y = x ∧ b = []) := fun B s hs => by
  refine ⟨fun y s' h => ?_, fun e h => by cases h⟩
  unfold Rd.pure at h
  cases h
  exact ⟨hs, [], rfl, rfl, rfl⟩
/-- a reader, then a function of what it read -/
theorem Dec.last {α β : Type} {R : List UInt8 → Rd α} {f : α → β} {P : α → List UInt8 → Prop} (h : Dec R P) : Dec (fun B => (R B).bind fun y => Rd.pure (f y)) (fun y b => ∃ x, y = f x ∧ P x b) :=
  (h.bind (f := fun _ y => Rd.pure (f y)) fun x => Dec.pure (f x)).mono fun y b ⟨x, b1, b2, e, hP, hy, hb⟩ => ⟨x, hy, by rw [e, hb, List.append_nil]; exact hP⟩
theorem numB_cons (b : UInt8) (n : Nat) : ∀ k, numB (b.toNat + 256 * n) (k + 1) = b :: numB n k
  | 0 => by
    have h := b.toNat_lt
    simp only [numB, List.nil_append, Nat.pow_zero, Nat.div_one]
    have : (b.toNat + 256 * n) % 256 = b.toNat := by omega
    rw [this, UInt8.ofNat_toNat]
  | k + 1 => by
    have ih := numB_cons b n k
    have h := b.toNat_lt
    rw [numB, ih, numB]
    have : (b.toNat + 256 * n) / 256 ^ (k + 1) = n / 256 ^ k := by
      rw [Nat.pow_succ', ← Nat.div_div_eq_div_mul]
      congr 1
      omega
    rw [this]
    rfl
theorem numB_leN : ∀ l : List UInt8, numB (leN l) l.length = l
  | [] => rfl
  | b :: l => by rw [leN, List.length_cons, numB_cons, numB_leN l]
theorem drop_split (B : List UInt8) (a k : Nat) : B.drop a = (B.drop a).take k ++ B.drop (a + k) := by
  rw [← List.drop_drop, List.take_append_drop]
theorem dec_num (k : Nat) : Dec (fun B => numR B k) (fun x b => b = numB x k ∧ x < 256 ^ k) := fun B s hs => by
  refine ⟨fun x s' h => ?_, fun e h => ?_⟩ <;> dsimp only at h <;> unfold numR at h <;> by_cases c : s.1 + k ≤ B.length
  · rw [if_pos c] at h
    cases h
    have hl : ((B.drop s.1).take k).length = k := by simp; omega
    refine ⟨c, (B.drop s.1).take k, drop_split B s.1 k, ?_, ?_⟩
    · have := numB_leN ((B.drop s.1).take k)
      rw [hl] at this
      exact this.symm
    · have := leN_lt ((B.drop s.1).take k)
      rwa [hl] at this
  · rw [if_neg c] at h; cases h
  · rw [if_pos c] at h; cases h
  · rw [if_neg c] at h; cases h; exact ⟨hs, .inr (.inr rfl)⟩
theorem dec_among (lo hi : Nat) : Dec (fun B => amongR B lo hi) (fun x b => b = numB x 1 ∧ x < 256 ∧ lo ≤ x ∧ x ≤ hi) := fun B s hs => by
  have key : amongR B lo hi s = (numR B 1).bind (fun n s' => if n < lo ∨ hi < n then .error (8, s.1) else .ok (n, s')) s := rfl
  cases hr : numR B 1 s with
  | error er =>
    have e := Rd.bind_err (f := fun n s' => if n < lo ∨ hi < n then .error (8, s.1) else .ok (n, s')) hr
    refine ⟨fun x s' h => ?_, fun e' h => ?_⟩
    · dsimp only at h; rw [key, e] at h; cases h
    · dsimp only at h; rw [key, e] at h; cases h; exact (dec_num 1 B s hs).2 er hr
  | ok q =>
    obtain ⟨y, t⟩ := q
    have e := Rd.bind_ok (f := fun n s' => if n < lo ∨ hi < n then (.error (8, s.1) : Except (Int × Nat) (Nat × St)) else .ok (n, s')) hr
    obtain ⟨ht, b, hb, hP, hx⟩ := (dec_num 1 B s hs).1 y t hr
    by_cases c : y < lo ∨ hi < y
    · rw [if_pos c] at e
      refine ⟨fun x s' h => ?_, fun e' h => ?_⟩
      · dsimp only at h; rw [key, e] at h; cases h
      · dsimp only at h; rw [key, e] at h; cases h; exact ⟨hs, .inl rfl⟩
    · rw [if_neg c] at e
      refine ⟨fun x s' h => ?_, fun e' h => ?_⟩
      · dsimp only at h; rw [key, e] at h; cases h; exact ⟨ht, b, hb, hP, by simpa using hx, by omega, by omega⟩
      · dsimp only at h; rw [key, e] at h; cases h
theorem dec_flag : Dec flagR (fun x b => b = flgB x) :=
  ((dec_among 0 1).last (f := fun n => n == 1)).mono fun y b ⟨x, hy, hb, _, _, hx⟩ => by
    rw [hb, hy]
    have : x = 0 ∨ x = 1 := by omega
    rcases this with rfl | rfl <;> rfl
theorem dec_bytes (n : Nat) : Dec (fun B => bytesR B n) (fun x b => b = x.data.toList ∧ x.size = n) := fun B s hs => by
  refine ⟨fun x s' h => ?_, fun e h => ?_⟩ <;> dsimp only at h <;> unfold bytesR at h <;> by_cases c : s.1 + n ≤ B.length
  · rw [if_pos c] at h
    cases h
    refine ⟨c, (B.drop s.1).take n, drop_split B s.1 n, rfl, ?_⟩
    show ((B.drop s.1).take n).toArray.size = n
    simp
    omega
  · rw [if_neg c] at h; cases h
  · rw [if_pos c] at h; cases h
  · rw [if_neg c] at h; cases h; exact ⟨hs, .inr (.inr rfl)⟩
theorem dec_text (k : Nat) : Dec (fun B => textR B k) (fun x b => b = txtB x k) :=
  ((dec_num k).bind (f := bytesR) dec_bytes).mono fun y b ⟨n, b1, b2, e, h1, h2⟩ => by
    rw [e, h1.1, h2.1, ← h2.2]; rfl
theorem dec_node : Dec nodeR (fun x b => b = ndM x) :=
  ((dec_num 4).bind (f := fun B (x : Nat) => (numR B 4).bind fun y => Rd.pure ((x : Int), (y : Int))) fun x => (dec_num 4).last (f := fun y : Nat => ((x : Int), (y : Int)))).mono fun y b ⟨x, b1, b2, e, h1, z, hy, h2⟩ => by
    rw [e, h1.1, h2.1, hy]; rfl
theorem dec_slot : Dec slotR (fun x b => b = slM x) :=
  ((dec_num 4).bind (f := fun B (x : Nat) => (numR B 4).bind fun y => (numR B 4).bind fun z => Rd.pure ((x : Int), (y : Int), (z : Int))) fun x =>
    (dec_num 4).bind (f := fun B (y : Nat) => (numR B 4).bind fun z => Rd.pure ((x : Int), (y : Int), (z : Int))) fun y => (dec_num 4).last (f := fun z : Nat => ((x : Int), (y : Int), (z : Int)))).mono fun y b ⟨x, b1, b2, e, h1, z, b3, b4, e2, h2, u, hy, h3⟩ => by
    rw [e, e2, h1.1, h2.1, h3.1, hy, ← List.append_assoc]; rfl
theorem dec_note : Dec noteR (fun x b => b = ntM x) :=
  ((dec_text 2).bind (f := fun B x => (textR B 2).bind fun y => Rd.pure (x, y)) fun x => (dec_text 2).last (f := fun y => (x, y))).mono fun y b ⟨x, b1, b2, e, h1, z, hy, h2⟩ => by
    rw [e, h1, h2, hy]; rfl
theorem dec_sevK {α : Type} {R : List UInt8 → Rd α} {P : α → List UInt8 → Prop} {enc : α → List UInt8} {Q : α → Prop} (h : Dec R P) (hP : ∀ x b, P x b → b = enc x ∧ Q x) : ∀ (n : Nat) (acc : List α), Dec (fun B => sevK (R B) n acc) (fun l b => ∃ l', l = acc ++ l' ∧ l'.length = n ∧ b = l'.flatMap enc ∧ ∀ x ∈ l', Q x)
  | 0, acc => (Dec.pure acc).mono fun l b ⟨hl, hb⟩ => ⟨[], by rw [hl, List.append_nil], rfl, hb, fun x hx => by cases hx⟩
  | n + 1, acc => (h.bind (f := fun B x => sevK (R B) n (acc ++ [x])) fun x => dec_sevK h hP n (acc ++ [x])).mono fun l b ⟨x, b1, b2, e, h1, l', hl, hn, hb, hq⟩ => by
    obtain ⟨g1, g2⟩ := hP x b1 h1
    refine ⟨x :: l', by rw [hl]; simp, by simp [hn], by rw [e, g1, hb]; rfl, fun y hy => ?_⟩
    rcases List.mem_cons.1 hy with rfl | hy
    · exact g2
    · exact hq y hy
theorem dec_sev {α : Type} {R : List UInt8 → Rd α} {P : α → List UInt8 → Prop} {enc : α → List UInt8} {Q : α → Prop} (h : Dec R P) (hP : ∀ x b, P x b → b = enc x ∧ Q x) (n : Nat) : Dec (fun B => sevR n (R B)) (fun l b => l.length = n ∧ b = l.flatMap enc ∧ ∀ x ∈ l, Q x) :=
  (dec_sevK h hP n []).mono fun l b ⟨l', e, hn, hb, hq⟩ => by
    rw [List.nil_append] at e
    subst e
    exact ⟨hn, hb, hq⟩
end Go.Proofs.YtdffjdlpbfcikaaDoor.Kit
namespace Go.Proofs.YtdffjdlpbfcikaaDoor.Kit
open Go.RowKit Go.Shelf Go.Deep
set_option linter.unusedVariables false

/-! ### a field, a schema, a head that is read is what is laid -/
def extT (k w i x n : Nat) : List UInt8 := if k = 14 ∨ k = 16 then numB w 2 else if k = 19 then numB i 2 ++ numB x 1 else if k = 17 ∨ k = 18 then numB n 1 else []
theorem dec_ext (k : Nat) : Dec (fun B => extR B k) (fun e b => b = extT k e.1 e.2.1 e.2.2.1 e.2.2.2) := by
  unfold extR extT
  by_cases c1 : k = 14
  · simp only [c1, if_true, true_or]
    exact ((dec_num 2).last (f := fun x => (x, 0, 0, 0))).mono fun y b ⟨x, hy, hb⟩ => by rw [hy, hb.1]
  simp only [if_neg c1]
  by_cases c2 : k = 16
  · simp only [c2, if_true, or_true]
    exact ((dec_num 2).last (f := fun x => (x, 0, 0, 1))).mono fun y b ⟨x, hy, hb⟩ => by rw [hy, hb.1]
  simp only [if_neg c2, if_neg (show ¬ (k = 14 ∨ k = 16) by omega)]
  by_cases c3 : k = 19
  · simp only [c3, if_true]
    exact ((dec_num 2).bind (f := fun B x => (numR B 1).bind fun y => Rd.pure (0, x, y, 1)) fun x => (dec_num 1).last (f := fun y => (0, x, y, 1))).mono fun y b ⟨x, b1, b2, e, h1, z, hy, h2⟩ => by rw [e, h1.1, h2.1, hy]
  simp only [if_neg c3]
  by_cases c4 : k = 15 ∨ k = 20
  · simp only [if_pos c4, if_neg (show ¬ (k = 17 ∨ k = 18) by omega)]
    exact (Dec.pure _).mono fun y b h => h.2
  simp only [if_neg c4]
  by_cases c5 : k = 17 ∨ k = 18
  · simp only [if_pos c5]
    exact ((dec_num 1).last (f := fun x => (0, 0, 0, x))).mono fun y b ⟨x, hy, hb⟩ => by rw [hy, hb.1]
  simp only [if_neg c5]
  exact (Dec.pure _).mono fun y b h => h.2
theorem dec_typ {R : List UInt8 → Rd FT} {enc : FT → List UInt8} {Q : FT → Prop} (h : Dec R (fun x b => b = enc x ∧ Q x)) : Dec (fun B => typR B (R B)) (fun t b => b = numB t.kind 1 ++ extT t.kind t.width t.id t.index t.kids.length ++ t.kids.flatMap enc ∧ ∀ x ∈ t.kids, Q x) := by
  have d3 := fun (k : Nat) (e : Nat × Nat × Nat × Nat) => (dec_sev h (fun _ _ h => h) e.2.2.2).last (f := fun l => TD.mk k e.1 e.2.1 e.2.2.1 l)
  have d2 := fun (k : Nat) => (dec_ext k).bind (f := fun B e => (sevR e.2.2.2 (R B)).bind fun l => Rd.pure (TD.mk k e.1 e.2.1 e.2.2.1 l)) (d3 k)
  have d1 := (dec_among 1 20).bind (f := fun B k => (extR B k).bind fun e => (sevR e.2.2.2 (R B)).bind fun l => Rd.pure (TD.mk k e.1 e.2.1 e.2.2.1 l)) d2
  refine d1.mono ?_
  rintro t b ⟨k, b1, b2, hb, h1, e, b3, b4, hb2, h2, l, ht, h3, h4, h5⟩
  rw [ht]
  refine ⟨?_, h5⟩
  rw [hb, hb2, h1.1, h2, h4, h3, List.append_assoc]
theorem extB_mk (nm : ByteArray) (nu : Bool) (k w i x : Nat) (l : List FT) : extB (.mk nm nu (k : Int) (w : Int) (i : Int) (x : Int) l) = extT k w i x l.length := by
  show (if (k : Int) = 14 ∨ (k : Int) = 16 then numB (w : Int).toNat 2 else if (k : Int) = 19 then numB (i : Int).toNat 2 ++ numB (x : Int).toNat 1 else if (k : Int) = 17 ∨ (k : Int) = 18 then numB l.length 1 else []) = (if k = 14 ∨ k = 16 then numB w 2 else if k = 19 then numB i 2 ++ numB x 1 else if k = 17 ∨ k = 18 then numB l.length 1 else [])
  simp only [Int.toNat_natCast]
  by_cases c1 : k = 14 ∨ k = 16
  · rw [if_pos c1, if_pos (by omega)]
  rw [if_neg c1, if_neg (show ¬ ((k : Int) = 14 ∨ (k : Int) = 16) by omega)]
  by_cases c2 : k = 19
  · rw [if_pos c2, if_pos (by omega)]
  rw [if_neg c2, if_neg (show ¬ ((k : Int) = 19) by omega)]
  by_cases c3 : k = 17 ∨ k = 18
  · rw [if_pos c3, if_pos (by omega)]
  rw [if_neg c3, if_neg (by omega)]
theorem dec_step {d : Nat} {enc : FT → List UInt8} {Q : FT → Prop} (h : Dec (fun B => fieldR B d) (fun x b => b = enc x ∧ Q x)) : Dec (fun B => fieldR B (d + 1)) (fun f b => b = hdB f ++ f.kids.flatMap enc ∧ ∀ x ∈ f.kids, Q x) := by
  have key : Dec (fun B => (textR B 1).bind fun nm => (flagR B).bind fun nu => (typR B (fieldR B d)).bind fun t => Rd.pure (FT.mk nm nu t.kind t.width t.id t.index t.kids)) (fun f b => b = hdB f ++ f.kids.flatMap enc ∧ ∀ x ∈ f.kids, Q x) := by
    have d3 := fun (nm : ByteArray) (nu : Bool) => (dec_typ h).last (f := fun t => FT.mk nm nu t.kind t.width t.id t.index t.kids)
    have d2 := fun (nm : ByteArray) => dec_flag.bind (f := fun B nu => (typR B (fieldR B d)).bind fun t => Rd.pure (FT.mk nm nu t.kind t.width t.id t.index t.kids)) (d3 nm)
    have d1 := (dec_text 1).bind (f := fun B nm => (flagR B).bind fun nu => (typR B (fieldR B d)).bind fun t => Rd.pure (FT.mk nm nu t.kind t.width t.id t.index t.kids)) d2
    refine d1.mono ?_
    rintro f b ⟨nm, b1, b2, hb, h1, nu, b3, b4, hb2, h2, t, ht, h3, h4⟩
    rw [ht]
    refine ⟨?_, h4⟩
    rw [hb, hb2, h1, h2, h3]
    unfold hdB
    rw [extB_mk]
    simp only [FT.name, FT.nul, FT.kind, FT.kids, Int.toNat_natCast, List.append_assoc]
  intro B s hs
  by_cases c : s.2 = 256
  · have e : fieldR B (d + 1) s = .error (50, s.1) := by rw [fieldR]; exact if_pos c
    refine ⟨fun x s' hx => ?_, fun e' hx => ?_⟩
    · dsimp only at hx; rw [e] at hx; cases hx
    · dsimp only at hx; rw [e] at hx; cases hx; exact ⟨hs, .inr (.inl rfl)⟩
  · have e : fieldR B (d + 1) s = ((textR B 1).bind fun nm => (flagR B).bind fun nu => (typR B (fieldR B d)).bind fun t => Rd.pure (FT.mk nm nu t.kind t.width t.id t.index t.kids)) (s.1, s.2 + 1) := by rw [fieldR]; exact if_neg c
    have hk := key B (s.1, s.2 + 1) hs
    refine ⟨fun x s' hx => ?_, fun e' hx => ?_⟩
    · dsimp only at hx; rw [e] at hx; exact hk.1 x s' hx
    · dsimp only at hx; rw [e] at hx; exact hk.2 e' hx
theorem dec_field : ∀ d : Nat, Dec (fun B => fieldR B (d + 1)) (fun f b => b = fldB d f ∧ deep d f.kids)
  | 0 => by
    have h0 : Dec (fun B => fieldR B 0) (fun (x : FT) b => b = (fun _ => ([] : List UInt8)) x ∧ False) := fun B s hs => by
      refine ⟨fun x s' h => ?_, fun e h => ?_⟩ <;> dsimp only at h <;> rw [fieldR] at h <;> cases h
      exact ⟨hs, .inr (.inl rfl)⟩
    refine (dec_step (Q := fun _ => False) h0).mono fun f b ⟨hb, hq⟩ => ?_
    have e : f.kids = [] := by
      cases hk : f.kids with
      | nil => rfl
      | cons a l => exact (hq a (by rw [hk]; exact List.mem_cons_self)).elim
    refine ⟨?_, e⟩
    rw [hb, e, fldB]
    simp
  | d + 1 => (dec_step (dec_field d)).mono fun f b ⟨hb, hq⟩ => ⟨hb, hq⟩
theorem dec_sch : Dec schR (fun p b => b = schB (fldB 63) p.1 p.2 ∧ deep 64 p.1 ∧ p.1.length < 65536 ∧ p.2.length < 65536) :=
  ((dec_num 2).bind (f := fun B n => (sevR n (fieldR B 64)).bind fun fs => (numR B 2).bind fun m => (sevR m (noteR B)).bind fun ns => Rd.pure (fs, ns)) fun n =>
    (dec_sev (dec_field 63) (fun _ _ h => h) n).bind (f := fun B fs => (numR B 2).bind fun m => (sevR m (noteR B)).bind fun ns => Rd.pure (fs, ns)) fun fs =>
      (dec_num 2).bind (f := fun B m => (sevR m (noteR B)).bind fun ns => Rd.pure (fs, ns)) fun m =>
        (dec_sev (Q := fun _ => True) dec_note (fun _ _ h => ⟨h, trivial⟩) m).last (f := fun ns => (fs, ns))).mono fun p b ⟨n, b1, b2, e1, h1, fs, b3, b4, e2, h2, m, b5, b6, e3, h3, ns, hp, h4⟩ => by
    rw [hp]
    refine ⟨?_, h2.2.2, by have := h1.2; have := h2.1; show fs.length < 65536; omega, by have := h3.2; have := h4.1; show ns.length < 65536; omega⟩
    rw [e1, e2, e3, h1.1, h2.2.1, h3.1, h4.2.1, ← h2.1, ← h4.1]
    unfold schB
    simp only [List.append_assoc]
theorem dec_body (k id : Nat) (dl : Bool) : Dec (fun B => bodyR B k id dl) (fun x b => x.kind = k ∧ x.id = id ∧ x.delta = dl ∧ x.fs = [] ∧ x.ns = [] ∧ b = bdyB x.rows x.press x.nds x.sls ∧ x.nds.length < 65536 ∧ x.sls.length < 65536) :=
  ((dec_num 4).bind (f := fun B rows => (numR B 1).bind fun pr => (numR B 2).bind fun n => (sevR n (nodeR B)).bind fun nds => (numR B 2).bind fun m => (sevR m (slotR B)).bind fun sls => Rd.pure (HD.mk k [] [] id dl rows pr nds sls)) fun rows =>
    (dec_num 1).bind (f := fun B pr => (numR B 2).bind fun n => (sevR n (nodeR B)).bind fun nds => (numR B 2).bind fun m => (sevR m (slotR B)).bind fun sls => Rd.pure (HD.mk k [] [] id dl rows pr nds sls)) fun pr =>
      (dec_num 2).bind (f := fun B n => (sevR n (nodeR B)).bind fun nds => (numR B 2).bind fun m => (sevR m (slotR B)).bind fun sls => Rd.pure (HD.mk k [] [] id dl rows pr nds sls)) fun n =>
        (dec_sev (Q := fun _ => True) dec_node (fun _ _ h => ⟨h, trivial⟩) n).bind (f := fun B nds => (numR B 2).bind fun m => (sevR m (slotR B)).bind fun sls => Rd.pure (HD.mk k [] [] id dl rows pr nds sls)) fun nds =>
          (dec_num 2).bind (f := fun B m => (sevR m (slotR B)).bind fun sls => Rd.pure (HD.mk k [] [] id dl rows pr nds sls)) fun m =>
            (dec_sev (Q := fun _ => True) dec_slot (fun _ _ h => ⟨h, trivial⟩) m).last (f := fun sls => HD.mk k [] [] id dl rows pr nds sls)).mono fun x b ⟨rows, b1, c1, e1, h1, pr, b2, c2, e2, h2, n, b3, c3, e3, h3, nds, b4, c4, e4, h4, m, b5, c5, e5, h5, sls, hx, h6⟩ => by
    rw [hx]
    refine ⟨rfl, rfl, rfl, rfl, rfl, ?_, by have := h3.2; have := h4.1; show nds.length < 65536; omega, by have := h5.2; have := h6.1; show sls.length < 65536; omega⟩
    rw [e1, e2, e3, e4, e5, h1.1, h2.1, h3.1, h4.2.1, h5.1, h6.2.1, ← h4.1, ← h6.1]
    unfold bdyB
    simp only [Int.toNat_natCast, List.append_assoc]
/-- what is known of a head that was read -/
structure HRd (x : HD) : Prop where
  dp : deep 64 x.fs
  l1 : x.fs.length < 65536
  l2 : x.ns.length < 65536
  l3 : x.nds.length < 65536
  l4 : x.sls.length < 65536
theorem hd4_num (k : Nat) (h : k < 256) : hd4 (k : Int) = numB k 1 ++ numB 1 1 ++ numB 0 1 ++ numB 0 1 := by
  unfold hd4
  simp only [numB, Nat.pow_zero, Nat.div_one, List.nil_append, Int.toNat_natCast]
  rw [Nat.mod_eq_of_lt h]
  rfl
theorem dec_head : Dec headR (fun x b => b = wholeB 64 (x.kind : Int) x.fs x.ns (x.id : Int) x.delta (x.rows : Int) (x.press : Int) x.nds x.sls ∧ HRd x) := by
  have inner : ∀ k : Nat, Dec (fun B => if k = 1 then (schR B).bind fun p => Rd.pure (HD.mk k p.1 p.2 0 false 0 0 [] []) else if k = 2 then (numR B 2).bind fun i => (flagR B).bind fun d => bodyR B k i d else bodyR B k 0 false) (fun x b => x.kind = k ∧ HRd x ∧ b = if k = 1 then schB (fldB 63) x.fs x.ns else if k = 2 then numB x.id 2 ++ flgB x.delta ++ bdyB x.rows x.press x.nds x.sls else bdyB x.rows x.press x.nds x.sls) := by
    intro k
    by_cases c1 : k = 1
    · simp only [if_pos c1]
      refine (dec_sch.last (f := fun p => HD.mk k p.1 p.2 0 false 0 0 [] [])).mono ?_
      rintro x b ⟨p, hx, hb, h1, h2, h3⟩
      rw [hx]
      exact ⟨rfl, ⟨h1, h2, h3, by show 0 < 65536; omega, by show 0 < 65536; omega⟩, hb⟩
    simp only [if_neg c1]
    by_cases c2 : k = 2
    · simp only [if_pos c2]
      have d2 := fun (i : Nat) => dec_flag.bind (f := fun B d => bodyR B k i d) (fun d => dec_body k i d)
      have d1 := (dec_num 2).bind (f := fun B i => (flagR B).bind fun d => bodyR B k i d) d2
      refine d1.mono ?_
      rintro x b ⟨i, b1, b2, e1, h1, d, b3, b4, e2, h2, g1, g2, g3, g4, g5, g6, g7, g8⟩
      refine ⟨g1, ⟨(by rw [g4]; intro f hf; exact (List.not_mem_nil hf).elim), (by rw [g4]; simp), (by rw [g5]; simp), g7, g8⟩, ?_⟩
      rw [e1, e2, h1.1, h2, g6, g2, g3, List.append_assoc]
    simp only [if_neg c2]
    refine (dec_body k 0 false).mono ?_
    rintro x b ⟨g1, g2, g3, g4, g5, g6, g7, g8⟩
    exact ⟨g1, ⟨(by rw [g4]; intro f hf; exact (List.not_mem_nil hf).elim), (by rw [g4]; simp), (by rw [g5]; simp), g7, g8⟩, g6⟩
  have d4 := fun (k : Nat) => (dec_among 0 0).bind (f := fun B _ => if k = 1 then (schR B).bind fun p => Rd.pure (HD.mk k p.1 p.2 0 false 0 0 [] []) else if k = 2 then (numR B 2).bind fun i => (flagR B).bind fun d => bodyR B k i d else bodyR B k 0 false) (fun _ => inner k)
  have d3 := fun (k : Nat) => (dec_among 0 0).bind (f := fun B _ => (amongR B 0 0).bind fun _ => if k = 1 then (schR B).bind fun p => Rd.pure (HD.mk k p.1 p.2 0 false 0 0 [] []) else if k = 2 then (numR B 2).bind fun i => (flagR B).bind fun d => bodyR B k i d else bodyR B k 0 false) (fun _ => d4 k)
  have d2 := fun (k : Nat) => (dec_among 1 1).bind (f := fun B _ => (amongR B 0 0).bind fun _ => (amongR B 0 0).bind fun _ => if k = 1 then (schR B).bind fun p => Rd.pure (HD.mk k p.1 p.2 0 false 0 0 [] []) else if k = 2 then (numR B 2).bind fun i => (flagR B).bind fun d => bodyR B k i d else bodyR B k 0 false) (fun _ => d3 k)
  have d1 := (dec_among 1 3).bind (f := fun B k => (amongR B 1 1).bind fun _ => (amongR B 0 0).bind fun _ => (amongR B 0 0).bind fun _ => if k = 1 then (schR B).bind fun p => Rd.pure (HD.mk k p.1 p.2 0 false 0 0 [] []) else if k = 2 then (numR B 2).bind fun i => (flagR B).bind fun d => bodyR B k i d else bodyR B k 0 false) d2
  refine d1.mono ?_
  rintro x b ⟨k, b1, c1, e1, ⟨hb1, hk, hk1, hk3⟩, x1, b2, c2, e2, ⟨hb2, _, h21, h22⟩, x2, b3, c3, e3, ⟨hb3, _, h31, h32⟩, x3, b4, c4, e4, ⟨hb4, _, h41, h42⟩, hkind, hrd, hc⟩
  refine ⟨?_, hrd⟩
  have y1 : x1 = 1 := by omega
  have y2 : x2 = 0 := by omega
  have y3 : x3 = 0 := by omega
  subst y1 y2 y3
  have hh : b = hd4 (k : Int) ++ c4 := by rw [hd4_num k hk, e1, e2, e3, e4, hb1, hb2, hb3, hb4]; simp
  rw [hh, hc, hkind]
  unfold wholeB
  by_cases c1 : k = 1
  · rw [if_pos c1, if_pos (by omega)]
  rw [if_neg c1, if_neg (show ¬ (k : Int) = 1 by omega)]
  by_cases c2 : k = 2
  · rw [if_pos c2, if_pos (by omega)]
    simp only [Int.toNat_natCast, List.append_assoc]
  rw [if_neg c2, if_neg (show ¬ (k : Int) = 2 by omega)]
end Go.Proofs.YtdffjdlpbfcikaaDoor.Kit
namespace Go.Proofs.YtdffjdlpbfcikaaDoor.Kit
open Go.RowKit Go.Shelf Go.Deep
set_option linter.unusedVariables false

/-! ### Get of any bytes -/
theorem flatMap_same {α β : Type} {l : List α} {f g : α → List β} (h : ∀ x ∈ l, f x = g x) : l.flatMap f = l.flatMap g := by
  rw [List.flatMap_def, List.flatMap_def, List.map_congr_left h]
theorem fldB_more : ∀ (d : Nat) (f : FT) (d' : Nat), deep d f.kids → d ≤ d' → fldB d' f = fldB d f
  | 0, f, d', h, _ => by
    have e : f.kids = [] := h
    rw [fldB_eq, fldB_eq, e]
    cases d' <;> simp [kidB]
  | d + 1, f, 0, _, h => absurd h (by omega)
  | d + 1, f, d' + 1, h, hd => by
    show hdB f ++ f.kids.flatMap (fldB d') = hdB f ++ f.kids.flatMap (fldB d)
    congr 1
    exact flatMap_same fun x hx => fldB_more d x d' (h x hx) (by omega)
theorem whole_more {k : Int} {fs : List FT} {ns : List (ByteArray × ByteArray)} {di : Int} {dl : Bool} {rows pr : Int} {nds : List (Int × Int)} {sls : List (Int × Int × Int)} (h : deep 64 fs) : wholeB 65 k fs ns di dl rows pr nds sls = wholeB 64 k fs ns di dl rows pr nds sls := by
  unfold wholeB schB
  have e : fs.flatMap (fldB (65 - 1)) = fs.flatMap (fldB (64 - 1)) := flatMap_same fun x hx => fldB_more 63 x 64 (h x hx) (by omega)
  rw [e]
/-- when the head that was read may be -/
noncomputable def Yh (x : HD) : Bool := @decide (HOk (Yes 65 x.fs x.ns) (x.kind : Int) x.fs.length x.ns.length (x.id : Int) x.delta (x.rows : Int) (x.press : Int) x.nds x.sls) (Classical.propDecidable _)
theorem Yh_iff (x : HD) : HOk (Yes 65 x.fs x.ns) (x.kind : Int) x.fs.length x.ns.length (x.id : Int) x.delta (x.rows : Int) (x.press : Int) x.nds x.sls ↔ Yh x = true := by
  unfold Yh
  exact (@decide_eq_true_iff _ (Classical.propDecidable _)).symm
theorem head_read {B : List UInt8} {x : HD} {s : St} (h : headR B (0, 0) = .ok (x, s)) : HRd x ∧ s.1 ≤ B.length ∧ B = wholeB 65 (x.kind : Int) x.fs x.ns (x.id : Int) x.delta (x.rows : Int) (x.press : Int) x.nds x.sls ++ B.drop s.1 := by
  obtain ⟨h1, b, h2, h3, h4⟩ := (dec_head B (0, 0) (Nat.zero_le _)).1 x s h
  refine ⟨h4, h1, ?_⟩
  rw [whole_more h4.dp, ← h3]
  simpa using h2
theorem get_wrong {Y : HD → Bool} {B : List UInt8} {e : Int × Nat} (h : getR Y B = .error e) : e.2 ≤ B.length ∧ (e.1 = 8 ∨ e.1 = 50 ∨ e.1 = 51 ∨ e.1 = 52) := by
  unfold getR at h
  cases hr : headR B (0, 0) with
  | error er =>
    rw [hr] at h
    dsimp only at h
    cases h
    obtain ⟨h1, h2⟩ := (dec_head B (0, 0) (Nat.zero_le _)).2 _ hr
    refine ⟨h1, by omega⟩
  | ok q =>
    obtain ⟨x, s⟩ := q
    rw [hr] at h
    dsimp only at h
    have hs := (head_read hr).2.1
    by_cases c : s.1 < B.length
    · rw [if_pos c] at h; cases h; exact ⟨hs, by omega⟩
    rw [if_neg c] at h
    by_cases c2 : Y x = false
    · rw [if_pos c2] at h; cases h; exact ⟨Nat.zero_le _, by omega⟩
    · rw [if_neg c2] at h; cases h
theorem get_right {Y : HD → Bool} {B : List UInt8} {x : HD} (h : getR Y B = .ok x) : HRd x ∧ Y x = true ∧ B = wholeB 65 (x.kind : Int) x.fs x.ns (x.id : Int) x.delta (x.rows : Int) (x.press : Int) x.nds x.sls := by
  unfold getR at h
  cases hr : headR B (0, 0) with
  | error er => rw [hr] at h; cases h
  | ok q =>
    obtain ⟨y, s⟩ := q
    rw [hr] at h
    dsimp only at h
    obtain ⟨h1, h2, h3⟩ := head_read hr
    by_cases c : s.1 < B.length
    · rw [if_pos c] at h; cases h
    rw [if_neg c] at h
    by_cases c2 : Y y = false
    · rw [if_pos c2] at h; cases h
    rw [if_neg c2] at h
    cases h
    refine ⟨h1, by simpa using c2, ?_⟩
    rw [List.drop_of_length_le (by omega), List.append_nil] at h3
    exact h3
theorem hd_eta (x : HD) : hdOf (x.kind : Int) x.fs x.ns (x.id : Int) x.delta (x.rows : Int) (x.press : Int) x.nds x.sls = x := by
  obtain ⟨a, b, c, d, e, f, g, h, i⟩ := x
  simp [hdOf]
theorem HV9.headx {U V : World} {x : HD} {v : Value} (hv : HV9 U V x v) (hT : Tab V) (h : HRd x) : ∃ fo no vo uo cf cn vc uc, v = .agg #[.int .i64 (x.kind : Int), .slice fo x.fs.length cf, .slice no x.ns.length cn, .int .i64 (x.id : Int), .bool x.delta, .int .i64 (x.rows : Int), .int .i64 (x.press : Int), .slice vo x.nds.length vc, .slice uo x.sls.length uc] ∧ HeadAt (fun b => b < V.heap.size) 65 V fo no vo uo cf x.fs x.ns x.nds x.sls := by
  rw [← hd_eta x] at hv
  have := h.l2
  have := h.l3
  have := h.l4
  exact hv.head hT (Nat.le_refl _) (by decide) (by unfold big; omega) (by unfold big; omega) (by unfold big; omega) (by omega) (by omega) (by omega) (by omega)
/-- Get of any bytes -/
theorem get_any {V : World} (hT : Tab V) {bo : Option Addr} {B : List UInt8} {bc : Nat} (hb : BytesAt V bo B) (hf : SForm bo B.length bc) (hlen : B.length ≤ 1000000000000) (hlow : ∀ b o, bo = some ⟨b, o, none⟩ → b < V.heap.size) :
    Calls Tryd.prog 6 #[.slice bo B.length bc] V (GetQ V (getR Yh B)) := by
  refine get6 bo B bc Yh V hb hf hlen hlow fun U V' hd s v hr gU gV hv => ?_
  obtain ⟨fo, no, vo, uo, cf, cn, vc, uc, rfl, hH⟩ := hv.headx ((hT.gr gU).gr gV) (head_read hr).1
  exact both_may8 hH (Yh hd) (Yh_iff hd) V' (Keeps.refl _ _)
end Go.Proofs.YtdffjdlpbfcikaaDoor.Kit
