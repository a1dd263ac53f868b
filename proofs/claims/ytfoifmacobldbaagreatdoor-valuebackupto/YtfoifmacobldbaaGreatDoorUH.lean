import Derived.Test.YtfoifmacobldbaaGreatDoorUG
namespace Go.Proofs.YtfoifmacobldbaaGreatDoor.Kit
open Go.RowKit Go.Shelf Go.Deep
set_option linter.unusedVariables false
set_option linter.unusedSimpArgs false
/-! ### what the calls of the law come to, as data -/
def txt (D : Nat) (f : FT) (v : VT) : List UInt8 := QB.prV QF.leafT (D + 1) f v
theorem fitVB_fit {D : Nat} {f : FT} {v : VT} (g : Good D f) (h : fitVB D f v = true) : QB.fitV (QF.lf numB) (D + 1) f v ∧ (txt D f v).length < 90000000000 ∧ 0 < (txt D f v).length := by
  unfold fitVB at h
  cases e : weigh (fitsT (D + 1) f) v 4194304 with
  | none => rw [e] at h; cases h
  | some l' =>
    unfold weigh at e
    split at e
    · rename_i hl
      obtain ⟨h1, h2⟩ := fits_fit (D + 1) f v _ l' g.okF g.okNm e
      have h3 := falls_fits (D + 1) f v _ l' (by omega) e
      obtain ⟨c, r, e1, _⟩ := QB.pr_fst (leafT := QF.leafT) (lf := QF.lf numB) (fun f x h => QF.leaf_fst f x h) (D + 1) f v g.okk h1
      have h4 : 0 < (QB.prV QF.leafT (D + 1) f v).length := by rw [e1]; simp
      exact ⟨h1, by show (QB.prV QF.leafT (D + 1) f v).length < _; omega, h4⟩
    · cases e
theorem numB2 (n : Int) (h : numB 2 n = true) : n = 0 ∨ n = 1 := by
  unfold numB at h
  simpa using h
/-- what is written is read -/
theorem par_there {D : Nat} {f : FT} {v : VT} (g : Good D f) (h : fitVB D f v = true) (hl : (txt D f v).length ≤ 65536) : parR true D f ⟨(txt D f v).toArray⟩ = some v := by
  obtain ⟨h1, _, _⟩ := fitVB_fit g h
  have h2 := (QB.rd_there (leafT := QF.leafT) (leafR := QF.leafR numB) (lf := QF.lf numB) (fun f x h => QF.leaf_fst f x h) (fun f x t h ht => QF.leaf_there numB2 f x t h ht) (D + 1) f v [] g.okk h1 QB.stop_nil).1
  unfold parR
  rw [if_pos ⟨rfl, by rw [ba_len]; exact hl⟩]
  rw [List.append_nil] at h2
  rw [show ((⟨(txt D f v).toArray⟩ : ByteArray).data.toList) = QB.prV QF.leafT (D + 1) f v by simp [txt], h2]
/-- what is read is what is written -/
theorem par_back {mb : Bool} {D : Nat} {f : FT} {x : VT} {s : ByteArray} (g : mb = true → Good D f) (h : parR mb D f s = some x) : mb = true ∧ fitVB D f x = true ∧ txt D f x = s.data.toList ∧ s.size ≤ 65536 := by
  unfold parR at h
  split at h
  · rename_i c
    have G := g c.1
    cases e : QB.rdV (QF.leafR numB) (D + 1) f s.data.toList with
    | none => rw [e] at h; cases h
    | some p =>
      obtain ⟨v, t⟩ := p
      rw [e] at h
      cases t with
      | cons a b => cases h
      | nil =>
        cases h
        obtain ⟨⟨h1, h2⟩, _⟩ := QB.rd_back (leafT := QF.leafT) (leafR := QF.leafR numB) (lf := QF.lf numB) (fun f s x t h => QF.leaf_back f s x t h) (D + 1) f s.data.toList x [] G.okk e
        rw [List.append_nil] at h1
        refine ⟨c.1, ?_, h1.symm, c.2⟩
        have hw := QG.weight (leafT' := QF.leafT) (lf' := QF.lf numB) (fun f x e h => QG.leaf_weight f x e h) (D + 1) f x (D + 1) G.okk h2
        rw [← h1, tx_len] at hw
        have hge := wS_ge (D + 1) x
        have hc := c.2
        unfold fitVB weigh
        rw [if_pos (by omega), fit_fits (D + 1) (D + 1) f x _ (Nat.le_refl _) G.okF h2 (by omega)]
        rfl
  · cases h
theorem par_len {D : Nat} {f : FT} (g : Good D f) (s : ByteArray) : ∀ v t, QB.rdV (QF.leafR numB) (D + 1) f s.data.toList = some (v, t) → t.length ≤ s.size := fun v t e => by
  obtain ⟨⟨h1, _⟩, _⟩ := QB.rd_back (leafT := QF.leafT) (leafR := QF.leafR numB) (lf := QF.lf numB) (fun f s x t h => QF.leaf_back f s x t h) (D + 1) f s.data.toList v t g.okk e
  have := congrArg List.length h1
  rw [tx_len, List.length_append] at this
  omega

/-! ### the calls, at a field that lies in memory -/
structure Cx (D : Nat) (w : World) (f : FT) (ao : Option Addr) (ca : Nat) (mb : Bool) : Prop where
  h9 : 9 ≤ w.heap.size
  tb : Tbs w
  ut : Lib.Utf8Tabs 0 1 w
  row : RowAt (fun b => b < w.heap.size) w D ao f.kids
  len : f.kids.length ≤ ca
  may : ∀ W, Gr w W → Calls Tryz.prog 21 #[.agg #[.string f.name, .bool f.nul, .int .i64 f.kind, .int .i64 f.width, .int .i64 f.id, .int .i64 f.index, .slice ao f.kids.length ca]] W fun e w' => e = .returned (.bool mb) ∧ Gr W w'
  good : mb = true → Good D f
section
variable {D d : Nat} {w : World} {f : FT} {ao : Option Addr} {ca : Nat} {mb : Bool}
theorem Cx.gr (h : Cx D w f ao ca mb) {U : World} (g : Gr w U) : Cx D U f ao ca mb :=
  ⟨Nat.le_trans h.h9 g.size, h.tb.gr g, Utf8Tabs_below h.ut (Keeps.below g (fun _ _ h => h.elim) (Nat.le_refl _)), (h.row.kept fun b hb => g.block b hb id).mono fun b hb => Nat.lt_of_lt_of_le hb g.size, h.len, fun W k => h.may W (g.trans k (fun _ _ h => h)), h.good⟩
theorem Cx.parse (h : Cx D w f ao ca mb) (s : ByteArray) : Calls Tryz.prog 12 #[.agg #[.string f.name, .bool f.nul, .int .i64 f.kind, .int .i64 f.width, .int .i64 f.id, .int .i64 f.index, .slice ao f.kids.length ca], .string s] w (ParA w s (D + 1) (parR mb D f s)) := by
  cases mb with
  | true => exact parse12 _ f ao ca s w D true h.h9 (fun _ h => h) h.tb h.ut h.row h.len (fun e => (h.good e).okR) (par_len (h.good rfl) s) h.may
  | false => exact parse12_no f ao ca s w D false h.may (.inl rfl)
theorem Cx.fits (h : Cx D w f ao ca mb) {v : VT} {vo : Option Addr} {vc : Nat} (hok : VOk v) (hv : VRow (fun b => b < w.heap.size) w d vo v.list) :
    Calls Tryz.prog 16 #[.agg #[.string f.name, .bool f.nul, .int .i64 f.kind, .int .i64 f.width, .int .i64 f.id, .int .i64 f.index, .slice ao f.kids.length ca], .agg #[.bool v.nul, .int .i64 v.num, .string v.text, .slice vo v.list.length vc]] w fun e w' => e = .returned (.int .i64 (fitE mb (fitVB D f v))) ∧ Gr w w' :=
  val6 h.ut h.row (fun _ h => h) h.may (fun e => (h.good e).okF) hok hv w (Keeps.refl _ _)
theorem Cx.print (h : Cx D w f ao ca mb) {v : VT} {vo : Option Addr} {vc : Nat} (hok : VOk v) (hv : VRow (fun b => b < w.heap.size) w d vo v.list) :
    Calls Tryz.prog 7 #[.agg #[.string f.name, .bool f.nul, .int .i64 f.kind, .int .i64 f.width, .int .i64 f.id, .int .i64 f.index, .slice ao f.kids.length ca], .agg #[.bool v.nul, .int .i64 v.num, .string v.text, .slice vo v.list.length vc]] w fun e W' => e = .returned (.tuple #[.string ⟨(prS mb (fitVB D f v) (txt D f v)).toArray⟩, .int .i64 (prE mb (fitVB D f v) (txt D f v))]) ∧ Gr w W' :=
  print7 f ao ca v vo vc w mb (fitVB D f v) (txt D f v) h.may (fun e => val25 h.ut h.row (fun _ h => h) (h.good e).okF hok hv)
    (fun e1 e2 => by
      have G := h.good e1
      obtain ⟨h1, h2, h3⟩ := fitVB_fit G e2
      refine ⟨⟨h2, h3⟩, fun W g => ?_⟩
      have k : KpOf (fun b => b < w.heap.size) w W := fun b hb => g.block b hb id
      exact val23 (fun b => b < w.heap.size) W (fun b hb => ⟨Nat.lt_of_lt_of_le hb g.size, fun hi => by have := hi.1; have := g.size; omega⟩) (h.tb.gr g) D f ao ca (h.row.kept k) h.len G.okF G.okNm v vo vc d hok (hv.kept k) h1) w (Keeps.refl _ _)
theorem same17 {S : Nat → Prop} {v : VT} {vo xo : Option Addr} {vc xc : Nat} (hS : ∀ b, S b → b < w.heap.size) (hv : VRow S w d vo v.list) (hx : VRow S w d xo v.list) :
    Calls Tryz.prog 17 #[.agg #[.bool v.nul, .int .i64 v.num, .string v.text, .slice vo v.list.length vc], .agg #[.bool v.nul, .int .i64 v.num, .string v.text, .slice xo v.list.length xc]] w fun e w' => e = .returned (.bool true) ∧ Gr w w' := by
  have h := same_walk v.nul v.nul v.num v.num v.text v.text vo xo v.list.length vc v.list.length xc _ w (same_any S d w vo xo vc xc v.list v.list hv hx hS) w (Keeps.refl _ _)
  rw [← sameV_eq, (same_iff d v v hv.deep hv.deep).2 rfl] at h
  exact h
end
/-- the field of the law's first call: a text -/
def fieldA : FT := .mk ⟨#[97]⟩ false 12 0 0 0 []
def wordA : ByteArray := ⟨#[34, 98, 34]⟩
theorem allA : AllR (nodes (0 + 1) [fieldA] [] false) := by
  intro k hk
  have : k = 0 := by simp [nodes] at hk; omega
  subst this
  show wrongE ⟨[fieldA], [0], false⟩ 0 (tkL []) = 0
  kernel_rfl
theorem parA : parR true 0 fieldA wordA = some (.mk false 0 ⟨#[98]⟩ []) := by kernel_rfl
end Go.Proofs.YtfoifmacobldbaaGreatDoor.Kit
