import Derived.Test.YtknjnclopiklaabPU
import Derived.WideKeyArr
import Derived.DeepKeys4
import Derived.Maps.OwnSet
namespace Go.Proofs.Ytknjnclopiklaab.Kit
open Go.RowKit Go.Shelf Go.Deep Go.Maps
set_option linter.unusedVariables false

/-! ### four bytes as a key -/
theorem arr4 : WideMaps.ArrKey Try.prog 59 5 4 := ⟨Try.underlying59, by kernel_rfl, by kernel_rfl, by kernel_rfl⟩
theorem laidOutP : laidOutB Try.prog = true := by kernel_rfl
theorem law65 : Keyed Try.prog 59 := Keyed.of_law (deep_law_laid laidOutP (m := 2) (by omega) (by decide +kernel) (arr4.at 0) arr4.wide)
theorem wf8 (x : UInt8) : (Lit.int .u8 (x.toNat : Int)).wf = true := by
  have := x.toNat_lt
  unfold Lit.wf
  simp
  have h1 : IntKind.u8.min = 0 := by decide
  have h2 : IntKind.u8.max = 255 := by decide
  rw [h1, h2]
  omega
theorem keyB (x : UInt8) : (Lit.int .u8 (x.toNat : Int)).keyBytes = [x] := by
  have := x.toNat_lt
  show bytesBE (IntKind.u8.bits / 8) ((x.toNat : Int) % 2 ^ IntKind.u8.bits).toNat = [x]
  have e : ((x.toNat : Int) % 2 ^ IntKind.u8.bits).toNat = x.toNat := by
    show ((x.toNat : Int) % 256).toNat = x.toNat
    omega
  rw [e]
  show bytesBE 1 x.toNat = [x]
  unfold bytesBE
  simp [bytesLE]
theorem keyOf_four (x0 x1 x2 x3 : UInt8) : keyOf Try.prog 59 (.agg #[.int .u8 (x0.toNat : Int), .int .u8 (x1.toNat : Int), .int .u8 (x2.toNat : Int), .int .u8 (x3.toNat : Int)]) = some (.string [x0, x1, x2, x3]) := by
  have hkt := arr4.keyType ⟨78, by kernel_rfl⟩
  have hm : Try.prog.types.size = 78 + 1 := by kernel_rfl
  unfold keyOf
  simp only [arr4.hu]
  rw [if_pos (by simp [hkt, Value.formed, arr4.hu, arr4.size]), hm]
  unfold Program.keyLits
  simp only [arr4.hu, Value.cells]
  rw [if_pos (by rw [arr4.size]; rfl), show List.range 4 = [0, 1, 2, 3] from rfl, List.mapM_cons, List.mapM_cons, List.mapM_cons, List.mapM_cons, List.mapM_nil]
  simp [arr4.one, Program.keyLits, Try.underlying5, wf8, keyBytes, keyB]
/-! ### the map of latest places, as a datum -/
structure Latest (bs : List UInt8) (k : Nat) (D : DataW Unit) : Prop where
  map : IsMap D
  has : ∀ q : List UInt8, Maps.has D (.string q) = (metGo bs q k).isSome
  get : ∀ (q : List UInt8) (p : Nat), metGo bs q k = some p → D.atKey (.string q) (.lit (.int .i64 0)) = .lit (.int .i64 (p : Int))
theorem Latest.none (bs : List UInt8) : Latest bs 0 (.map []) := ⟨isMap_empty, fun q => rfl, fun q p h => by simp [metGo] at h⟩
theorem Latest.put {bs : List UInt8} {k : Nat} {D : DataW Unit} (h : Latest bs k D) : Latest bs (k + 1) (D.put (.string (four bs k)) (.lit (.int .i64 (k : Int)))) := by
  refine ⟨h.map.put _ _, fun q => ?_, fun q p hp => ?_⟩
  · unfold metGo
    by_cases e : four bs k = q
    · subst e
      rw [has_put_same (k := .string (four bs k)) h.map (by trivial), if_pos rfl]
      rfl
    · rw [has_put_other (fun h => e (by injection h with h; exact h.symm)), if_neg e]
      exact h.has q
  · unfold metGo at hp
    by_cases e : four bs k = q
    · subst e
      rw [if_pos rfl] at hp
      injection hp with hp
      subst hp
      exact atKey_put_same (k := .string (four bs k)) h.map (by trivial) _ _
    · rw [if_neg e] at hp
      rw [atKey_put_other (fun h => e (by injection h with h; exact h.symm))]
      exact h.get q p hp
theorem four_eq {bs : List UInt8} {i : Nat} (h : i + 4 ≤ bs.length) : four bs i = [bs.getD i 0, bs.getD (i + 1) 0, bs.getD (i + 2) 0, bs.getD (i + 3) 0] := by
  unfold four
  have g : ∀ j, i + j < bs.length → bs.drop (i + j) = bs.getD (i + j) 0 :: bs.drop (i + j + 1) := fun j hj => by
    rw [List.drop_eq_getElem_cons hj, List.getD_eq_getElem?_getD, List.getElem?_eq_getElem hj]
    rfl
  rw [show bs.drop i = bs.drop (i + 0) from rfl, g 0 (by omega), g 1 (by omega), g 2 (by omega), g 3 (by omega)]
  rfl
theorem key_at {bs : List UInt8} {i : Nat} (h : i + 4 ≤ bs.length) : keyOf Try.prog 59 (.agg #[.int .u8 ((bs.getD i 0).toNat : Int), .int .u8 ((bs.getD (i + 1) 0).toNat : Int), .int .u8 ((bs.getD (i + 2) 0).toNat : Int), .int .u8 ((bs.getD (i + 3) 0).toNat : Int)]) = some (.string (four bs i)) := by
  rw [four_eq h]
  exact keyOf_four _ _ _ _
end Go.Proofs.Ytknjnclopiklaab.Kit
