import Derived.Test.YtknjnclopiklaabRows
import Derived.Test.YtknjnclopiklaabQF
import Derived.ProofKit
import Derived.OpenShut
import Derived.ChangeOld
import Derived.Below
import Derived.SizedLaws
import Derived.Lib.SmallJoins
import Derived.Deep.Slices
namespace Go.Proofs.Ytknjnclopiklaab.pressR
open Go.ChangeShapes Go.WideShapes Go.ChangeAt Go.RowKit Go.Joins Go.Deep
set_option linter.unusedVariables false

theorem own : ownKnob Try.prog.godebug = none := by kernel_rfl
theorem laidOut : laidOutB Try.prog = true := by kernel_rfl
theorem bytes5 : Try.prog.bytesOf 5 = 1 := by kernel_rfl
theorem cells3 : Try.prog.cellsOf 3 = 1 := by kernel_rfl
theorem cells25 : Try.prog.cellsOf 22 = 1 := by kernel_rfl
theorem cells30 : Try.prog.cellsOf 30 = 3 := by kernel_rfl
theorem u8_bd {n : Int} (h : (Lit.int .u8 n).wf = true) : 0 ≤ n ∧ n < 256 := by
  have h1 : IntKind.u8.min = 0 := rfl
  have h2 : IntKind.u8.max = 255 := rfl
  simp only [Lit.wf, Bool.and_eq_true, decide_eq_true_eq] at h
  omega
/-- bytes, read -/
theorem bytes_at {H : Type} {enc : TypeId × Value → H} {W : World} {fuel : Nat} {v : Value} {d : DataW H} {p : List MemPlace} (hf : DataW.trod enc Try.prog W 0 (fun _ => true) true fuel 22 [v] = some (d, p)) (hw : ∀ n ∈ d.weights Try.prog 22, n ≤ reachBytes) :
    ∃ ao bs ca, v = .slice ao (bs : List UInt8).length ca ∧ bs.length ≤ ca ∧ bs.length ≤ 140737488351232 ∧ Kit.BytesAt W ao bs := by
  rcases open_ints Try.underlying22 Try.underlying5 (by kernel_rfl) hf with ⟨hcs, _⟩ | ⟨x, l, c, zs, hcs, _, hl, hm, hz, hx, hcell, hwz⟩
  · simp at hcs
    subst hcs
    exact ⟨none, [], 0, rfl, Nat.le_refl _, by simp, fun h => absurd rfl h⟩
  · simp at hcs
    subst hcs
    have hd : d = .slice (lits .u8 (zs.take l)) (lits .u8 (zs.drop l)) := by simpa using congrArg Prod.fst hx
    subst hd
    have hs : ((lits .u8 (zs.take l) : List (DataW H)).length + (lits .u8 (zs.drop l) : List (DataW H)).length) * Try.prog.bytesOf 5 ≤ reachBytes := hw _ (by simp only [DataW.weights, Try.underlying22]; exact List.mem_cons_self)
    rw [bytes5] at hs
    simp only [lits, List.length_map, List.length_take, List.length_drop, reachBytes] at hs
    have hz' : zs.length = c := by simpa using hz
    refine ⟨some x, (zs.take l).map fun z => UInt8.ofNat z.toNat, c, by congr 1; simp; omega, by simp; omega, by simp; omega, fun hn => ?_⟩
    have h0 : 0 < l := by
      cases l with
      | zero => simp at hn
      | succ n => omega
    obtain ⟨b, off, spot⟩ := x
    have hc := hcell 0 (by omega)
    have hspot : spot = none := by simpa [Addr.add] using World.cell?_spot hc
    subst hspot
    refine ⟨b, off, rfl, fun k hk => ?_⟩
    have hk' : k < l := by simp at hk; omega
    have hck := hcell k (by omega)
    rw [Addr.add_lit] at hck
    rw [hck]
    have hzk : k < zs.length := by omega
    have hb := u8_bd (hwz zs[k] (List.getElem_mem hzk))
    simp only [List.getElem_map, List.getElem_take]
    rw [UInt8.toNat_ofNat']
    have e : zs.getD k 0 = zs[k] := by simp [List.getD, hzk]
    first | rw [e] | skip
    congr 2
    omega
theorem list3 {α : Type} (l : List α) (h : l.length = 3) : ∃ a b c, l = [a, b, c] := by
  match l, h with
  | [a, b, c], _ => exact ⟨a, b, c, rfl⟩
set_option maxRecDepth 100000 in
/-- an Op, read -/
theorem op_at {H : Type} {enc : TypeId × Value → H} {W : World} {fuel : Nat} {cs : List Value} {d : DataW H} {p : List MemPlace} (hl : cs.length = 3) (h : DataW.trod enc Try.prog W 0 (fun _ => true) true fuel 30 cs = some (d, p)) (hw : ∀ n ∈ d.weights Try.prog 30, n ≤ reachBytes) :
    ∃ how ao bs ca raw, cs = [.int .i64 how, .slice ao (bs : List UInt8).length ca, .int .i64 raw] ∧ bs.length ≤ ca ∧ bs.length ≤ 140737488351232 ∧ Kit.BytesAt W ao bs := by
  obtain ⟨xs, m2, _, hd, _, hxs, hf⟩ := DataW.trod_struct Try.underlying30 h
  obtain ⟨c0, c1, c2, rfl⟩ := list3 cs hl
  obtain ⟨y0, y1, y2, rfl⟩ := list3 xs (hxs.trans rfl)
  have f0 : DataW.trod enc Try.prog W 0 (fun _ => true) true m2 3 ((([c0, c1, c2] : List Value).drop 0).take (Try.prog.cellsOf 3)) = some y0 := hf 0 _ rfl
  have f1 : DataW.trod enc Try.prog W 0 (fun _ => true) true m2 22 ((([c0, c1, c2] : List Value).drop 1).take (Try.prog.cellsOf 22)) = some y1 := hf 1 _ rfl
  have f2 : DataW.trod enc Try.prog W 0 (fun _ => true) true m2 3 ((([c0, c1, c2] : List Value).drop 2).take (Try.prog.cellsOf 3)) = some y2 := hf 2 _ rfl
  rw [cells3] at f0 f2
  rw [cells25] at f1
  simp only [List.drop_zero, List.drop_succ_cons, List.take_succ_cons, List.take_zero] at f0 f1 f2
  obtain ⟨how, e0, _⟩ := DataW.trod_int Try.underlying3 f0
  obtain ⟨raw, e2, _⟩ := DataW.trod_int Try.underlying3 f2
  simp at e0 e2
  subst e0 e2
  simp only [Prod.mk.injEq] at hd
  obtain ⟨ao, bs, ca, rfl, h1, h2, h3⟩ := bytes_at (d := y1.1) (p := y1.2) f1 (fun n hn => hw n (by
    rw [hd.1]
    simp only [DataW.weights, Try.underlying30]
    exact DataW.weights_mem_each (j := 1) (t := 22) (d := y1.1) rfl rfl n hn))
  exact ⟨how, ao, bs, ca, raw, rfl, h1, h2, h3⟩
end Go.Proofs.Ytknjnclopiklaab.pressR
