import Derived.Test.YtcfdkadhclickaaDoorYF
import Derived.Test.YtcfdkadhclickaaDoorYG
import Derived.Test.YtcfdkadhclickaaDoorWJ
import Derived.Test.YtcfdkadhclickaaDoorXJ
import Derived.Test.YtcfdkadhclickaaDoorXS
namespace Go.Proofs.YtcfdkadhclickaaDoor.Kit
open Go.RowKit Go.Shelf Go.Deep
set_option linter.unusedVariables false

/-! ### ValueOrder, of all fields and values in memory -/
/-- a field, as the calls see it -/
structure FldB (w : World) (D : Nat) (f : FT) (ao : Option Addr) (ca : Nat) (mb : Bool) : Prop where
  utf : Lib.Utf8Tabs 1 2 w
  row : RowAt (fun b => b < w.heap.size) w D ao f.kids
  c24 : ∀ W, Gr w W → Calls Tryd.prog 24 #[.agg #[.string f.name, .bool f.nul, .int .i64 f.kind, .int .i64 f.width, .int .i64 f.id, .int .i64 f.index, .slice ao f.kids.length ca]] W fun e w' => e = .returned (.bool mb) ∧ Gr W w'
  c26 : Ans 26 #[.agg #[.string f.name, .bool f.nul, .int .i64 f.kind, .int .i64 f.width, .int .i64 f.id, .int .i64 f.index, .slice ao f.kids.length ca]] mb w
  ok : mb = true → okF (D + 1) f ∧ okN (D + 1) f
theorem FldB.gr {w V : World} {D : Nat} {f : FT} {ao : Option Addr} {ca : Nat} {mb : Bool} (h : FldB w D f ao ca mb) (g : Gr w V) : FldB V D f ao ca mb :=
  ⟨Utf8Tabs_below h.utf (Keeps.below g (fun _ _ h => h.elim) (Nat.le_refl _)), (h.row.kept fun b hb => g.block b hb id).mono (fun b hb => Nat.lt_of_lt_of_le hb g.size), fun W k => h.c24 W (g.trans k (fun _ _ h => h)), h.c26.gr g, h.ok⟩
theorem fld_both {D : Nat} {w : World} {f : FT} {ao : Option Addr} {ca : Nat} (hT : Tab w) (hU : Lib.Utf8Tabs 1 2 w) (hf : RowAt (fun b => b < w.heap.size) w D ao f.kids) (hca : f.kids.length ≤ ca) (hD : D + 1 ≤ big) :
    ∃ mb : Bool, FldB w D f ao ca mb ∧ (AllR (nodes (D + 1) [f] [] false) → mb = true) := by
  have hS : ∀ b, (fun b => b < w.heap.size) b → b < w.heap.size := fun _ h => h
  obtain ⟨er, p, tt, hF⟩ := fault_is (0, 0) (nodes (D + 1) [f] [] false)
  have h46 : Tells w 46 (.agg #[.string f.name, .bool f.nul, .int .i64 f.kind, .int .i64 f.width, .int .i64 f.id, .int .i64 f.index, .slice ao f.kids.length ca]) er p.tail tt := fun W g => by
    refine Calls.mono (checkField_any _ D f ao ca W (hT.gr g) (hf.kept fun b hb => g.block b (hS b hb) id) hca hD (fun b hb => by have := hS b hb; have := g.size; omega)) ?_
    rintro e w' ⟨er', p', vo, vc, tt', rfl, hg, h1, h2⟩
    obtain ⟨rfl, rfl, rfl⟩ := hF.one h1
    exact ⟨vo, vc, rfl, hg, h2⟩
  have h48 : Tells w 48 (.agg #[.string f.name, .bool f.nul, .int .i64 f.kind, .int .i64 f.width, .int .i64 f.id, .int .i64 f.index, .slice ao f.kids.length ca]) er p.tail tt := fun W g => by
    refine Calls.mono (checkFieldR_any _ D f ao ca W (hf.kept fun b hb => g.block b (hS b hb) id) hca (fun b hb => by have := hS b hb; have := g.size; omega)) ?_
    rintro e w' ⟨er', p', vo, vc, tt', rfl, hg, h1, h2⟩
    obtain ⟨rfl, rfl, rfl⟩ := hF.cut.one h1
    exact ⟨vo, vc, rfl, hg, h2⟩
  refine ⟨er == 0, ⟨hU, hf, mayBe_any h46, right26 h48, fun h => ?_⟩, fun h => ?_⟩
  · rcases hF with ⟨h0, _⟩ | ⟨_, hA, _⟩ | ⟨_, L, x, _, _, hne, he, _⟩
    · exact absurd rfl h0
    · exact ⟨hA.okF hf.deep, hA.okN hf.deep⟩
    · exact absurd (by rw [← he]; exact beq_iff_eq.1 h) hne
  · obtain ⟨rfl, _⟩ := hF.one (.inr (.inl ⟨rfl, h, rfl, rfl, rfl⟩))
    rfl
/-- a value, as the calls see it -/
structure ValB (w : World) (d : Nat) (v : VT) (vo : Option Addr) : Prop where
  ok : VOk v
  row : VRow (fun b => b < w.heap.size) w d vo v.list
theorem ValB.gr {w V : World} {d : Nat} {v : VT} {vo : Option Addr} (h : ValB w d v vo) (g : Gr w V) : ValB V d v vo :=
  ⟨h.ok, (h.row.kept fun b hb => g.block b hb id).wide (fun b hb => Nat.lt_of_lt_of_le hb g.size)⟩
theorem ValB.more {w : World} {d e : Nat} {v : VT} {vo : Option Addr} (h : ValB w d v vo) (hd : d ≤ e) : ValB w e v vo := ⟨h.ok, h.row.more hd⟩
section
variable {w : World} {D d : Nat} {f : FT} {ao : Option Addr} {ca : Nat} {mb : Bool} {a b : VT} {uo vo : Option Addr} {uc vc : Nat}
theorem FldB.fits7 (h : FldB w D f ao ca mb) (ha : ValB w d a uo) : ∀ W, Gr w W → Calls Tryd.prog 7 #[.agg #[.string f.name, .bool f.nul, .int .i64 f.kind, .int .i64 f.width, .int .i64 f.id, .int .i64 f.index, .slice ao f.kids.length ca], .agg #[.bool a.nul, .int .i64 a.num, .string a.text, .slice uo a.list.length uc]] W fun e w' => e = .returned (.int .i64 (fitE mb (fitB D f a))) ∧ Gr W w' :=
  fits7_walk _ _ _ _ _ _ _ _ _ _ _ _ _ _ _ w mb (fitB D f a) h.c26 (fun e => fits27_any (fun _ h => h) h.row (h.ok e).1 (h.ok e).2 ha.ok ha.row)
theorem ValB.same14 (ha : ValB w d a uo) (hb : ValB w d b vo) : Ans 14 #[.agg #[.bool a.nul, .int .i64 a.num, .string a.text, .slice uo a.list.length uc], .agg #[.bool b.nul, .int .i64 b.num, .string b.text, .slice vo b.list.length vc]] (sameV d a b) w := same14_any _ w (fun _ h => h) d a b uo vo uc vc ha.row hb.row
theorem ValB.heavy (ha : ValB w d a uo) : Ans 8 #[.agg #[.bool a.nul, .int .i64 a.num, .string a.text, .slice uo a.list.length uc]] (decide (2147483647 < capW 2147483647 (wS d a))) w := heavy8 _ _ _ _ _ _ w _ (weight_any _ w (fun _ h => h) d a uo uc 2147483647 (by decide) (by decide) ha.ok ha.row)
end
/-- a twin, as the calls see it -/
theorem twin_val {V : World} {d lo hi : Nat} {v : VT} {o : Option Addr} (h : TRow V d lo hi o v.list) (hh : hi ≤ V.heap.size) (hok : VOk v) : ValB V d v o := ⟨hok, h.row.wide fun b hb => by omega⟩
theorem turned_val {V : World} {d lo hi : Nat} {v : VT} {l' : List VT} {o : Option Addr} (h : VRow (fun z => lo ≤ z ∧ z < hi) V d o l') (hh : hi ≤ V.heap.size) (hok : VOk v) : ValB V d (.mk v.nul v.num v.text l') o := ⟨hok, h.wide fun b hb => by omega⟩
section
variable {w : World} {D d : Nat} {f : FT} {ao : Option Addr} {ca : Nat} {mb : Bool}
def boolF : FT := .mk ⟨#[97]⟩ false 2 0 0 0 []
theorem bool_all : AllR (nodes (0 + 1) [boolF] [] false) := by
  intro k hk
  have h1 : k = 0 := by
    have : (nodes (0 + 1) [boolF] [] false).length = 1 := rfl
    omega
  subst h1
  have hx : idxOf [boolF] boolF.name = (0 : Nat) := idxOf_some (k := 0) (by simp) (fun i h h' => by omega) (by simp [sEq])
  show wr 1 0 (nameB boolF.name) (idxOf [boolF] boolF.name) ((0 : Nat) : Int) (tableB boolF) (nullB boolF) false 2 (kid0 boolF) _ = 0
  rw [hx]
  have h2 : nameB boolF.name = true := by decide
  have h3 : tableB boolF = true := by decide
  have h4 : nullB boolF = true := by decide
  rw [h2, h3, h4]
  rfl
end
end Go.Proofs.YtcfdkadhclickaaDoor.Kit
