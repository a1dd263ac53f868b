import Derived.Test.YtcfdkadhclickaaDoorWG
import Derived.Test.YtcfdkadhclickaaDoorWC
import Derived.Test.YtcfdkadhclickaaDoorXH
import Derived.Test.YtcfdkadhclickaaDoorWS
namespace Go.Proofs.YtcfdkadhclickaaDoor.Kit
open Go.RowKit Go.Shelf Go.Deep
set_option linter.unusedVariables false

/-! ### what the calls of the law answer, as data -/
/-- the library's two functions -/
theorem lib89 {w : World} (hU : Lib.Utf8Tabs 1 2 w) : ∀ (s : ByteArray), s.size ≤ big → ∀ W', Gr w W' → Calls Tryd.prog 89 #[.string s] W' fun e w' => e = .returned (.bool (Lib.validD s.data.toList)) ∧ Gr W' w' := by
  intro s hs W' g
  have hb : Below w.heap.size w W' := Keeps.below g (fun _ _ h => h.elim) (Nat.le_refl _)
  have hz : s.size ≤ 1000000000000 := hs
  refine Calls.mono (Any.utf8_ValidString Tryd.lays196 s W' (by omega) (Utf8Tabs_below hU hb)) ?_
  rintro e w' ⟨rfl, hb'⟩
  exact ⟨rfl, (Keeps.ofBelow hb').mono (fun b h h' => by omega)⟩
theorem lib55 (a b : ByteArray) (W : World) : Calls Tryd.prog 55 #[.string a, .string b] W fun e w' => e = .returned (.int .i64 (cmpT a.data.toList b.data.toList)) ∧ w' = W := by
  rw [cmpT_eq]
  exact Tryd.strings_Compare a b W
section
variable {S : Nat → Prop} {D d : Nat} {w : World} {f : FT} {ao : Option Addr} {ca : Nat}
theorem fld_may (hT : Tab w) (hf : RowAt S w D ao f.kids) (hca : f.kids.length ≤ ca) (hD : D + 1 ≤ big) (hS : ∀ b, S b → b < w.heap.size) :
    ∃ mb : Bool, (∀ W, Gr w W → Calls Tryd.prog 24 #[.agg #[.string f.name, .bool f.nul, .int .i64 f.kind, .int .i64 f.width, .int .i64 f.id, .int .i64 f.index, .slice ao f.kids.length ca]] W fun e w' => e = .returned (.bool mb) ∧ Gr W w') ∧ (mb = true → okF (D + 1) f) ∧ (AllR (nodes (D + 1) [f] [] false) → mb = true) := by
  obtain ⟨er, p, tt, hF⟩ := fault_is (0, 0) (nodes (D + 1) [f] [] false)
  have hT46 : Tells w 46 (.agg #[.string f.name, .bool f.nul, .int .i64 f.kind, .int .i64 f.width, .int .i64 f.id, .int .i64 f.index, .slice ao f.kids.length ca]) er p.tail tt := fun W g => by
    refine Calls.mono (checkField_any S D f ao ca W (hT.gr g) (hf.kept fun b hb => g.block b (hS b hb) id) hca hD (fun b hb => by have := hS b hb; have := g.size; omega)) ?_
    rintro e w' ⟨er', p', vo, vc, tt', rfl, hg, h1, h2⟩
    obtain ⟨rfl, rfl, rfl⟩ := hF.one h1
    exact ⟨vo, vc, rfl, hg, h2⟩
  refine ⟨er == 0, mayBe_any hT46, fun h => ?_, fun h => ?_⟩
  · rcases hF with ⟨h0, _⟩ | ⟨_, hA, _⟩ | ⟨_, L, x, _, _, hne, he, _⟩
    · exact absurd rfl h0
    · exact hA.okF hf.deep
    · exact absurd (by rw [← he]; exact beq_iff_eq.1 h) hne
  · obtain ⟨rfl, _⟩ := hF.one (.inr (.inl ⟨rfl, h, rfl, rfl, rfl⟩))
    rfl
def fitB (D : Nat) (f : FT) (v : VT) : Bool := (weigh (fitsT (D + 1) f) v 4194304).isSome
theorem fitB_fit {v : VT} (h : fitB D f v = true) : Fit (D + 1) f v := by
  obtain ⟨l, hl⟩ := Option.isSome_iff_exists.1 h
  exact weigh_all (P := Fit (D + 1) f) (fun u l l' h => ⟨l, l', h⟩) v _ _ hl
theorem fit_is {v : VT} (h : Fit (D + 1) f v) : shape (D + 1) f v := by
  obtain ⟨l, l', e⟩ := h
  exact fits_shape _ _ _ _ _ e
theorem val25 (hU : Lib.Utf8Tabs 1 2 w) (hf : RowAt S w D ao f.kids) (hS : ∀ b, S b → b < w.heap.size) (ho : okF (D + 1) f) {v : VT} {vo : Option Addr} {vc : Nat} (hok : VOk v) (hv : VRow S w d vo v.list) :
    ∀ W, Gr w W → Calls Tryd.prog 25 #[.agg #[.string f.name, .bool f.nul, .int .i64 f.kind, .int .i64 f.width, .int .i64 f.id, .int .i64 f.index, .slice ao f.kids.length ca], .agg #[.bool v.nul, .int .i64 v.num, .string v.text, .slice vo v.list.length vc]] W fun e w' => e = .returned (.bool (fitB D f v)) ∧ Gr W w' :=
  fits25_walk _ _ _ _ _ _ _ _ _ _ _ _ _ _ _ w (weigh (fitsT (D + 1) f) v) fun V sb g hsb _ =>
    have hk : KpOf S w V := fun b hb => g.block b (hS b hb) id
    fits47 hok (type_any S V sb (fun b hb => ⟨Nat.lt_of_lt_of_le (hS b hb) g.size, by have := hS b hb; omega⟩) (fun s hs W' k => lib89 hU s hs W' (gr_past g k hsb)) D f ao ca (hf.kept hk) ho v vo vc d hok (hv.kept hk))
theorem val6 (hU : Lib.Utf8Tabs 1 2 w) (hf : RowAt S w D ao f.kids) (hS : ∀ b, S b → b < w.heap.size) {mb : Bool}
    (h24 : ∀ W, Gr w W → Calls Tryd.prog 24 #[.agg #[.string f.name, .bool f.nul, .int .i64 f.kind, .int .i64 f.width, .int .i64 f.id, .int .i64 f.index, .slice ao f.kids.length ca]] W fun e w' => e = .returned (.bool mb) ∧ Gr W w') (ho : mb = true → okF (D + 1) f) {v : VT} {vo : Option Addr} {vc : Nat} (hok : VOk v) (hv : VRow S w d vo v.list) :
    ∀ W, Gr w W → Calls Tryd.prog 6 #[.agg #[.string f.name, .bool f.nul, .int .i64 f.kind, .int .i64 f.width, .int .i64 f.id, .int .i64 f.index, .slice ao f.kids.length ca], .agg #[.bool v.nul, .int .i64 v.num, .string v.text, .slice vo v.list.length vc]] W fun e w' => e = .returned (.int .i64 (fitE mb (fitB D f v))) ∧ Gr W w' :=
  fits6_walk _ _ _ _ _ _ _ _ _ _ _ _ _ _ _ w mb (fitB D f v) h24 (fun h => val25 hU hf hS (ho h) hok hv)
theorem valC (hU : Lib.Utf8Tabs 1 2 w) (hf : RowAt S w D ao f.kids) (hS : ∀ b, S b → b < w.heap.size) {mb : Bool}
    (h24 : ∀ W, Gr w W → Calls Tryd.prog 24 #[.agg #[.string f.name, .bool f.nul, .int .i64 f.kind, .int .i64 f.width, .int .i64 f.id, .int .i64 f.index, .slice ao f.kids.length ca]] W fun e w' => e = .returned (.bool mb) ∧ Gr W w') (ho : mb = true → okF (D + 1) f) {a b : VT} {uo vo : Option Addr} {uc vc : Nat} (hoa : VOk a) (hob : VOk b) (ha : VRow S w d uo a.list) (hb : VRow S w d vo b.list) :
    CmpC w (.agg #[.string f.name, .bool f.nul, .int .i64 f.kind, .int .i64 f.width, .int .i64 f.id, .int .i64 f.index, .slice ao f.kids.length ca]) (.agg #[.bool a.nul, .int .i64 a.num, .string a.text, .slice uo a.list.length uc]) (.agg #[.bool b.nul, .int .i64 b.num, .string b.text, .slice vo b.list.length vc]) (cmpR mb (fitB D f a) (fitB D f b) (cmpV (D + 1) f a b)) :=
  compare18_walk _ _ _ _ _ _ _ _ _ _ _ _ _ _ _ _ _ _ _ _ _ w mb _ _ _ h24 (fun h => val25 hU hf hS (ho h) hoa ha) (fun h => val25 hU hf hS (ho h) hob hb)
    (fun h h1 h2 => cmp_any S d w hS lib55 D f ao ca hf (ho h) a b uo vo uc vc hoa hob ha hb (fitB_fit h1) (fitB_fit h2))
end
/-! ### an order has three answers -/
def Three (z : Int) : Prop := z = -1 ∨ z = 0 ∨ z = 1
theorem three_I (x y : Int) : Three (cmpI x y) := by
  unfold cmpI
  split
  · exact .inl rfl
  · split
    · exact .inr (.inr rfl)
    · exact .inr (.inl rfl)
theorem three_L {α : Type} {c : α → α → Int} (h : ∀ x y, Three (c x y)) : ∀ (a b : List α), Three (cmpL c a b)
  | [], [] => .inr (.inl rfl)
  | [], _ :: _ => .inl rfl
  | _ :: _, [] => .inr (.inr rfl)
  | x :: a, y :: b => by
    rw [cmpL]
    split
    · exact h x y
    · exact three_L h a b
theorem three_P {c : FT → VT → VT → Int} (h : ∀ f x y, Three (c f x y)) : ∀ (fs : List FT) (a b : List VT), Three (cmpP (fs.map c) a b)
  | [], _, _ => .inr (.inl rfl)
  | _ :: _, [], _ => .inr (.inl rfl)
  | _ :: _, _ :: _, [] => .inr (.inl rfl)
  | f :: fs, x :: a, y :: b => by
    rw [List.map_cons, cmpP]
    split
    · exact h f x y
    · exact three_P h fs a b
theorem three_V : ∀ (n : Nat) (f : FT) (a b : VT), Three (cmpV n f a b)
  | 0, _, _, _ => .inr (.inl rfl)
  | n + 1, f, a, b => by
    have ih := three_V n
    rw [cmpV]
    unfold cmpN
    split
    · split
      · exact .inl rfl
      · split
        · exact .inr (.inr rfl)
        · exact .inr (.inl rfl)
    · unfold cmpB
      split
      · exact three_L (fun x y => three_I _ _) _ _
      split
      · exact three_L (ih _) _ _
      split
      · exact three_P ih _ _ _
      split
      · unfold cmpC
        split
        · exact ih _ _ _
        · exact three_I _ _
      split
      · exact ih _ _ _
      split
      · exact three_I _ _
      split
      · exact three_I _ _
      · exact three_I _ _
/-! ### the law's own field -/
def int8F : FT := .mk ⟨#[97]⟩ false 3 0 0 0 []
theorem int8_all : AllR (nodes (0 + 1) [int8F] [] false) := by
  intro k hk
  have h1 : k = 0 := by
    have : (nodes (0 + 1) [int8F] [] false).length = 1 := rfl
    omega
  subst h1
  have hx : idxOf [int8F] int8F.name = (0 : Nat) := idxOf_some (k := 0) (by simp) (fun i h h' => by omega) (by simp [sEq])
  show wr 1 0 (nameB int8F.name) (idxOf [int8F] int8F.name) ((0 : Nat) : Int) (tableB int8F) (nullB int8F) false 3 (kid0 int8F) _ = 0
  rw [hx]
  have h2 : nameB int8F.name = true := by decide
  have h3 : tableB int8F = true := by decide
  have h4 : nullB int8F = true := by decide
  rw [h2, h3, h4]
  rfl
end Go.Proofs.YtcfdkadhclickaaDoor.Kit
