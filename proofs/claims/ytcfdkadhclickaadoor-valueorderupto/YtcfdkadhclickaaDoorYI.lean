import Derived.Test.YtcfdkadhclickaaDoorYH
import Derived.Test.YtcfdkadhclickaaDoorWJ
import Derived.Test.YtcfdkadhclickaaDoorXJ
import Derived.Test.YtcfdkadhclickaaDoorXH
import Derived.Test.YtcfdkadhclickaaDoorXS
namespace Go.Proofs.YtcfdkadhclickaaDoor.Kit
open Go.RowKit Go.Shelf Go.Deep
set_option linter.unusedVariables false

/-! ### ValueOrder, of all fields and values in memory -/
/-- a field, as the calls see it -/
structure FldB (w : World) (D : Nat) (f : FT) (ao : Option Addr) (ca : Nat) (mb : Bool) : Prop where
  utf : Lib.Utf8Tabs 1 2 w
  row : RowAt (fun b => b < w.heap.size) w D ao f.kids
  c24 : ∀ W, Gr w W → Calls Tryd.prog 24 #[.agg #[.string f.name, .bool f.nul, .int .i64 f.kind, .int .i64 f.width, .int .i64 f.id, .int .i64 f.index, .slice ao f.kids.length ca]] W fun e w' => e = .returned (.bool mb) ∧ Gr W w'
  c26 : Ans 26 #[.agg #[.string f.name, .bool f.nul, .int .i64 f.kind, .int .i64 f.width, .int .i64 f.id, .int .i64 f.index, .slice ao f.kids.length ca]] mb w
  ok : mb = true → okF (D + 1) f ∧ okN (D + 1) f
theorem FldB.gr {w V : World} {D : Nat} {f : FT} {ao : Option Addr} {ca : Nat} {mb : Bool} (h : FldB w D f ao ca mb) (g : Gr w V) : FldB V D f ao ca mb :=
  ⟨Utf8Tabs_below h.utf (Keeps.below g (fun _ _ h => h.elim) (Nat.le_refl _)), (h.row.kept fun b hb => g.block b hb id).mono (fun b hb => Nat.lt_of_lt_of_le hb g.size), fun W k => h.c24 W (g.trans k (fun _ _ h => h)), h.c26.gr g, h.ok⟩
theorem fld_both {D : Nat} {w : World} {f : FT} {ao : Option Addr} {ca : Nat} (hT : Tab w) (hU : Lib.Utf8Tabs 1 2 w) (hf : RowAt (fun b => b < w.heap.size) w D ao f.kids) (hca : f.kids.length ≤ ca) (hD : D + 1 ≤ big) :
    ∃ mb : Bool, FldB w D f ao ca mb ∧ (AllR (nodes (D + 1) [f] [] false) → mb = true) := by
  have hS : ∀ b, (fun b => b < w.heap.size) b → b < w.heap.size := fun _ h => h
  obtain ⟨er, p, tt, hF⟩ := fault_is (0, 0) (nodes (D + 1) [f] [] false)
  have h46 : Tells w 46 (.agg #[.string f.name, .bool f.nul, .int .i64 f.kind, .int .i64 f.width, .int .i64 f.id, .int .i64 f.index, .slice ao f.kids.length ca]) er p.tail tt := fun W g => by
    refine Calls.mono (checkField_any _ D f ao ca W (hT.gr g) (hf.kept fun b hb => g.block b (hS b hb) id) hca hD (fun b hb => by have := hS b hb; have := g.size; omega)) ?_
    rintro e w' ⟨er', p', vo, vc, tt', rfl, hg, h1, h2⟩
    obtain ⟨rfl, rfl, rfl⟩ := hF.one h1
    exact ⟨vo, vc, rfl, hg, h2⟩
  have h48 : Tells w 48 (.agg #[.string f.name, .bool f.nul, .int .i64 f.kind, .int .i64 f.width, .int .i64 f.id, .int .i64 f.index, .slice ao f.kids.length ca]) er p.tail tt := fun W g => by
    refine Calls.mono (checkFieldR_any _ D f ao ca W (hf.kept fun b hb => g.block b (hS b hb) id) hca (fun b hb => by have := hS b hb; have := g.size; omega)) ?_
    rintro e w' ⟨er', p', vo, vc, tt', rfl, hg, h1, h2⟩
    obtain ⟨rfl, rfl, rfl⟩ := hF.cut.one h1
    exact ⟨vo, vc, rfl, hg, h2⟩
  refine ⟨er == 0, ⟨hU, hf, mayBe_any h46, right26 h48, fun h => ?_⟩, fun h => ?_⟩
  · rcases hF with ⟨h0, _⟩ | ⟨_, hA, _⟩ | ⟨_, L, x, _, _, hne, he, _⟩
    · exact absurd rfl h0
    · exact ⟨hA.okF hf.deep, hA.okN hf.deep⟩
    · exact absurd (by rw [← he]; exact beq_iff_eq.1 h) hne
  · obtain ⟨rfl, _⟩ := hF.one (.inr (.inl ⟨rfl, h, rfl, rfl, rfl⟩))
    rfl
/-- a value, as the calls see it -/
structure ValB (w : World) (d : Nat) (v : VT) (vo : Option Addr) : Prop where
  ok : VOk v
  row : VRow (fun b => b < w.heap.size) w d vo v.list
theorem ValB.gr {w V : World} {d : Nat} {v : VT} {vo : Option Addr} (h : ValB w d v vo) (g : Gr w V) : ValB V d v vo :=
  ⟨h.ok, (h.row.kept fun b hb => g.block b hb id).wide (fun b hb => Nat.lt_of_lt_of_le hb g.size)⟩
theorem ValB.more {w : World} {d e : Nat} {v : VT} {vo : Option Addr} (h : ValB w d v vo) (hd : d ≤ e) : ValB w e v vo := ⟨h.ok, h.row.more hd⟩
section
variable {w : World} {D d : Nat} {f : FT} {ao : Option Addr} {ca : Nat} {mb : Bool} {a b : VT} {uo vo : Option Addr} {uc vc : Nat}
/-- what Compare answers -/
def ansR (D : Nat) (f : FT) (mb : Bool) (a b : VT) : Int × Int := cmpR mb (fitB D f a) (fitB D f b) (cmpV (D + 1) f a b)
theorem FldB.cmpC (h : FldB w D f ao ca mb) (ha : ValB w d a uo) (hb : ValB w d b vo) : CmpC w (.agg #[.string f.name, .bool f.nul, .int .i64 f.kind, .int .i64 f.width, .int .i64 f.id, .int .i64 f.index, .slice ao f.kids.length ca]) (.agg #[.bool a.nul, .int .i64 a.num, .string a.text, .slice uo a.list.length uc]) (.agg #[.bool b.nul, .int .i64 b.num, .string b.text, .slice vo b.list.length vc]) (ansR D f mb a b) :=
  valC h.utf h.row (fun _ h => h) h.c24 (fun e => (h.ok e).1) ha.ok hb.ok ha.row hb.row
theorem FldB.fits7 (h : FldB w D f ao ca mb) (ha : ValB w d a uo) : ∀ W, Gr w W → Calls Tryd.prog 7 #[.agg #[.string f.name, .bool f.nul, .int .i64 f.kind, .int .i64 f.width, .int .i64 f.id, .int .i64 f.index, .slice ao f.kids.length ca], .agg #[.bool a.nul, .int .i64 a.num, .string a.text, .slice uo a.list.length uc]] W fun e w' => e = .returned (.int .i64 (fitE mb (fitB D f a))) ∧ Gr W w' :=
  fits7_walk _ _ _ _ _ _ _ _ _ _ _ _ _ _ _ w mb (fitB D f a) h.c26 (fun e => fits27_any (fun _ h => h) h.row (h.ok e).1 (h.ok e).2 ha.ok ha.row)
theorem FldB.cmpD (h : FldB w D f ao ca mb) (ha : ValB w d a uo) (hb : ValB w d b vo) : CmpD w (.agg #[.string f.name, .bool f.nul, .int .i64 f.kind, .int .i64 f.width, .int .i64 f.id, .int .i64 f.index, .slice ao f.kids.length ca]) (.agg #[.bool a.nul, .int .i64 a.num, .string a.text, .slice uo a.list.length uc]) (.agg #[.bool b.nul, .int .i64 b.num, .string b.text, .slice vo b.list.length vc]) (ansR D f mb a b) :=
  compare19_walk _ _ _ _ _ _ _ _ _ _ _ _ _ _ _ _ _ _ _ _ _ w mb _ _ _ (h.fits7 ha) (h.fits7 hb)
    (fun e h1 h2 => ord_any _ d w (fun _ h => h) D f ao ca h.row (h.ok e).1 a b uo vo uc vc ha.ok hb.ok ha.row hb.row (fitB_fit h1) (fitB_fit h2))
theorem ValB.same20 (ha : ValB w d a uo) (hb : ValB w d b vo) : Ans 20 #[.agg #[.bool a.nul, .int .i64 a.num, .string a.text, .slice uo a.list.length uc], .agg #[.bool b.nul, .int .i64 b.num, .string b.text, .slice vo b.list.length vc]] (sameV d a b) w := by
  have hs := same_walk a.nul b.nul a.num b.num a.text b.text uo vo a.list.length uc b.list.length vc _ w (same_any _ d w uo vo uc vc a.list b.list ha.row hb.row (fun _ h => h))
  rw [← sameV_eq] at hs
  exact hs
theorem ValB.same14 (ha : ValB w d a uo) (hb : ValB w d b vo) : Ans 14 #[.agg #[.bool a.nul, .int .i64 a.num, .string a.text, .slice uo a.list.length uc], .agg #[.bool b.nul, .int .i64 b.num, .string b.text, .slice vo b.list.length vc]] (sameV d a b) w := same14_any _ w (fun _ h => h) d a b uo vo uc vc ha.row hb.row
theorem ValB.h21 (ha : ValB w d a uo) : HAns 21 #[.agg #[.bool a.nul, .int .i64 a.num, .string a.text, .slice uo a.list.length uc]] (hV d a 14695981039346656037) w := hash21 (hash_any _ w (fun _ h => h) d a uo uc _ ha.ok ha.row)
theorem ValB.h22 (ha : ValB w d a uo) : HAns 22 #[.agg #[.bool a.nul, .int .i64 a.num, .string a.text, .slice uo a.list.length uc]] (hV d a 14695981039346656037) w := hash22 (hashed_any _ w (fun _ h => h) d a uo uc _ ha.ok ha.row)
theorem ValB.heavy (ha : ValB w d a uo) : Ans 8 #[.agg #[.bool a.nul, .int .i64 a.num, .string a.text, .slice uo a.list.length uc]] (decide (2147483647 < capW 2147483647 (wS d a))) w := heavy8 _ _ _ _ _ _ w _ (weight_any _ w (fun _ h => h) d a uo uc 2147483647 (by decide) (by decide) ha.ok ha.row)
end
/-- a twin, as the calls see it -/
theorem twin_val {V : World} {d lo hi : Nat} {v : VT} {o : Option Addr} (h : TRow V d lo hi o v.list) (hh : hi ≤ V.heap.size) (hok : VOk v) : ValB V d v o := ⟨hok, h.row.wide fun b hb => by omega⟩
theorem turned_val {V : World} {d lo hi : Nat} {v : VT} {l' : List VT} {o : Option Addr} (h : VRow (fun z => lo ≤ z ∧ z < hi) V d o l') (hh : hi ≤ V.heap.size) (hok : VOk v) : ValB V d (.mk v.nul v.num v.text l') o := ⟨hok, h.wide fun b hb => by omega⟩
section
variable {w : World} {D d : Nat} {f : FT} {ao : Option Addr} {ca : Nat} {mb : Bool}
theorem phase3 {V : World} (h : FldB V D f ao ca mb) {c e : VT} {co dq : Option Addr} {cc cd : Nat} (hc : ValB V d c co) (hd : ValB V d e dq) : Ph3 V (.agg #[.string f.name, .bool f.nul, .int .i64 f.kind, .int .i64 f.width, .int .i64 f.id, .int .i64 f.index, .slice ao f.kids.length ca]) (.agg #[.bool c.nul, .int .i64 c.num, .string c.text, .slice co c.list.length cc]) (.agg #[.bool e.nul, .int .i64 e.num, .string e.text, .slice dq e.list.length cd]) :=
  ⟨⟨_, h.cmpD hc hd, h.cmpC hc hd⟩, ⟨_, hc.same20 hd, hc.same14 hd⟩⟩
theorem phase2 {V : World} (h : FldB V D f ao ca mb) {a b : VT} {co dq : Nat} {l' : List VT} {lo hi lo' hi' : Nat} (hok : VOk a) (hokb : VOk b) (hl : l'.length = a.list.length) (hc : VRow (fun z => lo ≤ z ∧ z < hi) V (d + 1) (some ⟨co, 0, none⟩) l') (hd : TRow V (d + 1) lo' hi' (some ⟨dq, 0, none⟩) b.list)
    (hlo : w.heap.size ≤ lo') (hhl : hi ≤ lo') (hh : hi' ≤ V.heap.size) (hw : FldB w D f ao ca mb) (hg : Gr w V) :
    Ph2 V (.agg #[.string f.name, .bool f.nul, .int .i64 f.kind, .int .i64 f.width, .int .i64 f.id, .int .i64 f.index, .slice ao f.kids.length ca]) (.agg #[.bool a.nul, .int .i64 a.num, .string a.text, .slice (some ⟨co, 0, none⟩) a.list.length (a.list.length + 2)]) (.agg #[.bool b.nul, .int .i64 b.num, .string b.text, .slice (some ⟨dq, 0, none⟩) b.list.length (b.list.length + 2)]) lo' hi' (.slice (some ⟨dq, 0, none⟩) b.list.length (b.list.length + 2)) := by
  have hlt := hd.lt
  have hc' : ValB V (d + 1) (.mk a.nul a.num a.text l') (some ⟨co, 0, none⟩) := turned_val hc (by omega) hok
  have hd' : ValB V (d + 1) b (some ⟨dq, 0, none⟩) := twin_val hd hh hokb
  rw [← hl]
  have e1 := hc'.h21 (uc := l'.length + 2)
  have e2 := hc'.h22 (uc := l'.length + 2)
  obtain ⟨z, hz⟩ : ∃ z, z = hV (d + 1) (.mk a.nul a.num a.text l') 14695981039346656037 := ⟨_, rfl⟩
  rw [← hz] at e1 e2
  have m1 := h.cmpD (uc := l'.length + 2) (vc := b.list.length + 2) hc' hd'
  have m2 := h.cmpC (uc := l'.length + 2) (vc := b.list.length + 2) hc' hd'
  obtain ⟨r, hr⟩ : ∃ r, r = ansR D f mb (.mk a.nul a.num a.text l') b := ⟨_, rfl⟩
  rw [← hr] at m1 m2
  clear hr hz
  refine ⟨⟨z, e1, e2⟩, ⟨r, m1, m2⟩, fun W g => ?_⟩
  have hgs := g.size
  refine Calls.mono (turn_any (d + 1) W lo' hi' _ _ (hd.kept fun c _ h2 => g.block c (by omega) id) (by omega)) ?_
  rintro e w' ⟨rfl, hk, m', hm, hr⟩
  refine ⟨rfl, hk, ?_⟩
  have hks := hk.size
  have gw : Gr w w' := (hg.trans g (fun _ _ h => h)).trans hk (fun j hj h => by omega)
  have hcw : VRow (fun z => lo ≤ z ∧ z < hi) w' (d + 1) (some ⟨co, 0, none⟩) l' := (hc.kept fun c hc => g.block c (by omega) id).kept fun c hc => hk.block c (by omega) (by omega)
  have h1 : ValB w' (d + 1) (.mk a.nul a.num a.text l') (some ⟨co, 0, none⟩) := turned_val hcw (by omega) hok
  have h2 : ValB w' (d + 1) (.mk b.nul b.num b.text m') (some ⟨dq, 0, none⟩) := turned_val hr (by omega) hokb
  have h3 := phase3 (cc := l'.length + 2) (cd := m'.length + 2) (hw.gr gw) h1 h2
  rw [← hm]
  exact h3
theorem phase1 {a b : VT} {uo vo : Option Addr} {uc vc : Nat} (hw : FldB w D f ao ca mb) (ha : ValB w d a uo) (hb : ValB w d b vo) (V : World) (co dq lo hi lo' hi' : Nat) (hg : Gr w V) (hlo : w.heap.size ≤ lo) (hhl : hi ≤ lo') (hh : hi' ≤ V.heap.size) (hc : TRow V (d + 1) lo hi (some ⟨co, 0, none⟩) a.list) (hd : TRow V (d + 1) lo' hi' (some ⟨dq, 0, none⟩) b.list) :
    Ph1 V (.agg #[.string f.name, .bool f.nul, .int .i64 f.kind, .int .i64 f.width, .int .i64 f.id, .int .i64 f.index, .slice ao f.kids.length ca]) (.agg #[.bool a.nul, .int .i64 a.num, .string a.text, .slice uo a.list.length uc]) (.agg #[.bool b.nul, .int .i64 b.num, .string b.text, .slice vo b.list.length vc]) (.agg #[.bool a.nul, .int .i64 a.num, .string a.text, .slice (some ⟨co, 0, none⟩) a.list.length (a.list.length + 2)]) (.agg #[.bool b.nul, .int .i64 b.num, .string b.text, .slice (some ⟨dq, 0, none⟩) b.list.length (b.list.length + 2)]) (ansR D f mb a b) (ansR D f mb b a) lo hi lo' hi' (.slice (some ⟨co, 0, none⟩) a.list.length (a.list.length + 2)) (.slice (some ⟨dq, 0, none⟩) b.list.length (b.list.length + 2)) := by
  have hlt := hd.lt
  have hV := hw.gr hg
  have haV := ha.gr hg
  have hbV := hb.gr hg
  have haM := haV.more (Nat.le_succ d)
  have hbM := hbV.more (Nat.le_succ d)
  have hcV : ValB V (d + 1) a (some ⟨co, 0, none⟩) := twin_val hc (by omega) ha.ok
  have hdV : ValB V (d + 1) b (some ⟨dq, 0, none⟩) := twin_val hd hh hb.ok
  refine ⟨hV.cmpC hcV hdV, hV.cmpC hdV hcV, ⟨_, hcV.same20 hdV, haM.same14 hbM⟩, ?_, ⟨_, hdV.h21, hbM.h22⟩, ⟨_, hcV.h21, haM.h22⟩, ?_, ?_, fun W g => ?_⟩
  · have := hcV.same20 (uc := a.list.length + 2) (vc := uc) haM
    rwa [(same_iff (d + 1) a a haM.row.deep haM.row.deep).2 rfl] at this
  · exact stays_any _ V (fun _ h => h) d a lo hi _ uo uc hc haV.row
  · exact stays_any _ V (fun _ h => h) d b lo' hi' _ vo vc hd hbV.row
  · have hgs := g.size
    refine Calls.mono (turn_any (d + 1) W lo hi _ _ (hc.kept fun c _ h2 => g.block c (by omega) id) (by omega)) ?_
    rintro e w' ⟨rfl, hk, l', hl, hr⟩
    refine ⟨rfl, hk, ?_⟩
    have hks := hk.size
    have gw : Gr w w' := (hg.trans g (fun _ _ h => h)).trans hk (fun j hj h => by omega)
    exact phase2 (w := w) (hw.gr gw) ha.ok hb.ok hl hr ((hd.kept fun c _ h2 => g.block c (by omega) id).kept fun c h1 h2 => hk.block c (by omega) (by omega)) (by have := hc.lt; omega) hhl (by omega) hw gw
def boolF : FT := .mk ⟨#[97]⟩ false 2 0 0 0 []
theorem bool_all : AllR (nodes (0 + 1) [boolF] [] false) := by
  intro k hk
  have h1 : k = 0 := by
    have : (nodes (0 + 1) [boolF] [] false).length = 1 := rfl
    omega
  subst h1
  have hx : idxOf [boolF] boolF.name = (0 : Nat) := idxOf_some (k := 0) (by simp) (fun i h h' => by omega) (by simp [sEq])
  show wr 1 0 (nameB boolF.name) (idxOf [boolF] boolF.name) ((0 : Nat) : Int) (tableB boolF) (nullB boolF) false 2 (kid0 boolF) _ = 0
  rw [hx]
  have h2 : nameB boolF.name = true := by decide
  have h3 : tableB boolF = true := by decide
  have h4 : nullB boolF = true := by decide
  rw [h2, h3, h4]
  rfl
theorem order_any {a b : VT} {uo vo : Option Addr} {uc vc : Nat} (hT : Tab w) (hU : Lib.Utf8Tabs 1 2 w) (hf : RowAt (fun b => b < w.heap.size) w D ao f.kids) (hca : f.kids.length ≤ ca) (hD : D + 1 ≤ big) (ha : ValB w d a uo) (hb : ValB w d b vo) :
    Calls Tryd.prog 4 #[.agg #[.string f.name, .bool f.nul, .int .i64 f.kind, .int .i64 f.width, .int .i64 f.id, .int .i64 f.index, .slice ao f.kids.length ca], .agg #[.bool a.nul, .int .i64 a.num, .string a.text, .slice uo a.list.length uc], .agg #[.bool b.nul, .int .i64 b.num, .string b.text, .slice vo b.list.length vc]] w fun e w' => e = .returned (.bool true) ∧ Gr w w' := by
  obtain ⟨mb, hF, _⟩ := fld_both (ca := ca) hT hU hf hca hD
  have hf0 : RowAt (fun b => b < w.heap.size) w 0 none boolF.kids := rfl
  obtain ⟨mk, hK, kA⟩ := fld_both (ca := 0) hT hU hf0 (by decide) (by decide)
  obtain rfl : mk = true := kA bool_all
  have o0 : ValB w 0 (.mk false 0 ⟨#[]⟩ []) none := ⟨⟨by decide, by decide⟩, rfl⟩
  have o1 : ValB w 0 (.mk false 1 ⟨#[]⟩ []) none := ⟨⟨by decide, by decide⟩, rfl⟩
  have K1 := hK.cmpC (uc := 0) (vc := 0) o0 o1
  rw [show ansR 0 boolF true (.mk false 0 ⟨#[]⟩ []) (.mk false 1 ⟨#[]⟩ []) = (-1, 0) by decide +kernel] at K1
  exact order_walk _ _ _ _ _ _ _ _ _ _ _ _ _ _ _ _ _ _ _ _ _ w a.list b.list rfl rfl (d + 1) _ _ _ _ _ _ K1 (hF.cmpD ha hb) (hF.cmpD hb ha) ha.heavy hb.heavy (hF.cmpC ha hb)
    (twin_any _ w (fun _ h => h) d a uo uc ha.row) (twin_any _ w (fun _ h => h) d b vo vc hb.row) (fun V co dq lo hi lo' hi' g h1 h2 h3 t1 t2 => phase1 hF ha hb V co dq lo hi lo' hi' g h1 h2 h3 t1 t2)
end
end Go.Proofs.YtcfdkadhclickaaDoor.Kit
