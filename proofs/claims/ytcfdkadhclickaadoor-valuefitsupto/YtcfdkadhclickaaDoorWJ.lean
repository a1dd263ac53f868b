import Derived.Test.YtcfdkadhclickaaDoorWA
import Derived.Test.YtcfdkadhclickaaDoorWE
import Derived.Test.YtcfdkadhclickaaDoorWC
import Derived.Test.YtcfdkadhclickaaDoorWS
namespace Go.Proofs.YtcfdkadhclickaaDoor.Kit
open Go.RowKit Go.Shelf Go.Deep
set_option linter.unusedVariables false

/-! ### what the calls of the law answer, as data -/
/-- the library's two functions -/
theorem lib89 {w : World} (hU : Lib.Utf8Tabs 1 2 w) : ∀ (s : ByteArray), s.size ≤ big → ∀ W', Gr w W' → Calls Tryd.prog 89 #[.string s] W' fun e w' => e = .returned (.bool (Lib.validD s.data.toList)) ∧ Gr W' w' := by
  intro s hs W' g
  have hb : Below w.heap.size w W' := Keeps.below g (fun _ _ h => h.elim) (Nat.le_refl _)
  have hz : s.size ≤ 1000000000000 := hs
  refine Calls.mono (Any.utf8_ValidString Tryd.lays196 s W' (by omega) (Utf8Tabs_below hU hb)) ?_
  rintro e w' ⟨rfl, hb'⟩
  exact ⟨rfl, (Keeps.ofBelow hb').mono (fun b h h' => by omega)⟩
section
variable {S : Nat → Prop} {D d : Nat} {w : World} {f : FT} {ao : Option Addr} {ca : Nat}
def fitB (D : Nat) (f : FT) (v : VT) : Bool := (weigh (fitsT (D + 1) f) v 4194304).isSome
theorem val25 (hU : Lib.Utf8Tabs 1 2 w) (hf : RowAt S w D ao f.kids) (hS : ∀ b, S b → b < w.heap.size) (ho : okF (D + 1) f) {v : VT} {vo : Option Addr} {vc : Nat} (hok : VOk v) (hv : VRow S w d vo v.list) :
    ∀ W, Gr w W → Calls Tryd.prog 25 #[.agg #[.string f.name, .bool f.nul, .int .i64 f.kind, .int .i64 f.width, .int .i64 f.id, .int .i64 f.index, .slice ao f.kids.length ca], .agg #[.bool v.nul, .int .i64 v.num, .string v.text, .slice vo v.list.length vc]] W fun e w' => e = .returned (.bool (fitB D f v)) ∧ Gr W w' :=
  fits25_walk _ _ _ _ _ _ _ _ _ _ _ _ _ _ _ w (weigh (fitsT (D + 1) f) v) fun V sb g hsb _ =>
    have hk : KpOf S w V := fun b hb => g.block b (hS b hb) id
    fits47 hok (type_any S V sb (fun b hb => ⟨Nat.lt_of_lt_of_le (hS b hb) g.size, by have := hS b hb; omega⟩) (fun s hs W' k => lib89 hU s hs W' (gr_past g k hsb)) D f ao ca (hf.kept hk) ho v vo vc d hok (hv.kept hk))
theorem val6 (hU : Lib.Utf8Tabs 1 2 w) (hf : RowAt S w D ao f.kids) (hS : ∀ b, S b → b < w.heap.size) {mb : Bool}
    (h24 : ∀ W, Gr w W → Calls Tryd.prog 24 #[.agg #[.string f.name, .bool f.nul, .int .i64 f.kind, .int .i64 f.width, .int .i64 f.id, .int .i64 f.index, .slice ao f.kids.length ca]] W fun e w' => e = .returned (.bool mb) ∧ Gr W w') (ho : mb = true → okF (D + 1) f) {v : VT} {vo : Option Addr} {vc : Nat} (hok : VOk v) (hv : VRow S w d vo v.list) :
    ∀ W, Gr w W → Calls Tryd.prog 6 #[.agg #[.string f.name, .bool f.nul, .int .i64 f.kind, .int .i64 f.width, .int .i64 f.id, .int .i64 f.index, .slice ao f.kids.length ca], .agg #[.bool v.nul, .int .i64 v.num, .string v.text, .slice vo v.list.length vc]] W fun e w' => e = .returned (.int .i64 (fitE mb (fitB D f v))) ∧ Gr W w' :=
  fits6_walk _ _ _ _ _ _ _ _ _ _ _ _ _ _ _ w mb (fitB D f v) h24 (fun h => val25 hU hf hS (ho h) hok hv)
end
/-! ### an order has three answers -/
/-! ### the law's own field -/
end Go.Proofs.YtcfdkadhclickaaDoor.Kit
