import Derived.Test.YtemleibpmaclmaaRows
import Derived.Test.YtemleibpmaclmaaBB
import Derived.ProofKit
import Derived.OpenShut
import Derived.ChangeOld
import Derived.Below
import Derived.SizedLaws
import Derived.Lib.SmallJoins
import Derived.Deep.Slices
namespace Go.Proofs.Ytemleibpmaclmaa.frameR
open Go.ChangeShapes Go.WideShapes Go.ChangeAt Go.RowKit Go.Joins Go.Deep
set_option linter.unusedVariables false

theorem own : ownKnob Try.prog.godebug = none := by kernel_rfl
theorem laidOut : laidOutB Try.prog = true := by kernel_rfl
theorem bytes5 : Try.prog.bytesOf 5 = 1 := by kernel_rfl
theorem cells3 : Try.prog.cellsOf 3 = 1 := by kernel_rfl
theorem cells25 : Try.prog.cellsOf 22 = 1 := by kernel_rfl
theorem cells24 : Try.prog.cellsOf 24 = 2 := by kernel_rfl
theorem u8_bd {n : Int} (h : (Lit.int .u8 n).wf = true) : 0 ≤ n ∧ n < 256 := by
  have h1 : IntKind.u8.min = 0 := rfl
  have h2 : IntKind.u8.max = 255 := rfl
  simp only [Lit.wf, Bool.and_eq_true, decide_eq_true_eq] at h
  omega
/-- bytes, read -/
theorem bytes_at {H : Type} {enc : TypeId × Value → H} {W : World} {fuel : Nat} {v : Value} {d : DataW H} {p : List MemPlace} (hf : DataW.trod enc Try.prog W 0 (fun _ => true) true fuel 22 [v] = some (d, p)) (hw : ∀ n ∈ d.weights Try.prog 22, n ≤ reachBytes) :
    ∃ ao bs ca, v = .slice ao (bs : List UInt8).length ca ∧ bs.length ≤ ca ∧ bs.length ≤ 140737488351232 ∧ Kit.BytesAt W ao bs := by
  rcases open_ints Try.underlying22 Try.underlying5 (by kernel_rfl) hf with ⟨hcs, _⟩ | ⟨x, l, c, zs, hcs, _, hl, hm, hz, hx, hcell, hwz⟩
  · simp at hcs
    subst hcs
    exact ⟨none, [], 0, rfl, Nat.le_refl _, by simp, fun h => absurd rfl h⟩
  · simp at hcs
    subst hcs
    have hd : d = .slice (lits .u8 (zs.take l)) (lits .u8 (zs.drop l)) := by simpa using congrArg Prod.fst hx
    subst hd
    have hs : ((lits .u8 (zs.take l) : List (DataW H)).length + (lits .u8 (zs.drop l) : List (DataW H)).length) * Try.prog.bytesOf 5 ≤ reachBytes := hw _ (by simp only [DataW.weights, Try.underlying22]; exact List.mem_cons_self)
    rw [bytes5] at hs
    simp only [lits, List.length_map, List.length_take, List.length_drop, reachBytes] at hs
    have hz' : zs.length = c := by simpa using hz
    refine ⟨some x, (zs.take l).map fun z => UInt8.ofNat z.toNat, c, by congr 1; simp; omega, by simp; omega, by simp; omega, fun hn => ?_⟩
    have h0 : 0 < l := by
      cases l with
      | zero => simp at hn
      | succ n => omega
    obtain ⟨b, off, spot⟩ := x
    have hc := hcell 0 (by omega)
    have hspot : spot = none := by simpa [Addr.add] using World.cell?_spot hc
    subst hspot
    refine ⟨b, off, rfl, fun k hk => ?_⟩
    have hk' : k < l := by simp at hk; omega
    have hck := hcell k (by omega)
    rw [Addr.add_lit] at hck
    rw [hck]
    have hzk : k < zs.length := by omega
    have hb := u8_bd (hwz zs[k] (List.getElem_mem hzk))
    simp only [List.getElem_map, List.getElem_take]
    rw [UInt8.toNat_ofNat']
    have e : zs.getD k 0 = zs[k] := by simp [List.getD, hzk]
    first | rw [e] | skip
    congr 2
    omega
theorem list2 {α : Type} (l : List α) (h : l.length = 2) : ∃ a b, l = [a, b] := by
  match l, h with
  | [a, b], _ => exact ⟨a, b, rfl⟩
set_option maxRecDepth 100000 in
/-- a message, read -/
theorem mess_at {H : Type} {enc : TypeId × Value → H} {W : World} {fuel : Nat} {cs : List Value} {d : DataW H} {p : List MemPlace} (hl : cs.length = 2) (h : DataW.trod enc Try.prog W 0 (fun _ => true) true fuel 24 cs = some (d, p)) (hw : ∀ n ∈ d.weights Try.prog 24, n ≤ reachBytes) :
    ∃ mo m mc bo b bc, cs = [.slice mo (m : List UInt8).length mc, .slice bo (b : List UInt8).length bc] ∧ (m.length ≤ mc ∧ m.length ≤ 140737488351232 ∧ Kit.BytesAt W mo m) ∧ (b.length ≤ bc ∧ b.length ≤ 140737488351232 ∧ Kit.BytesAt W bo b) := by
  obtain ⟨xs, m2, _, hd, _, hxs, hf⟩ := DataW.trod_struct Try.underlying24 h
  obtain ⟨c0, c1, rfl⟩ := list2 cs hl
  obtain ⟨y0, y1, rfl⟩ := list2 xs (hxs.trans rfl)
  have f0 : DataW.trod enc Try.prog W 0 (fun _ => true) true m2 22 ((([c0, c1] : List Value).drop 0).take (Try.prog.cellsOf 22)) = some y0 := hf 0 _ rfl
  have f1 : DataW.trod enc Try.prog W 0 (fun _ => true) true m2 22 ((([c0, c1] : List Value).drop 1).take (Try.prog.cellsOf 22)) = some y1 := hf 1 _ rfl
  rw [cells25] at f0 f1
  simp only [List.drop_zero, List.drop_succ_cons, List.take_succ_cons, List.take_zero] at f0 f1
  simp only [Prod.mk.injEq] at hd
  obtain ⟨mo, m, mc, rfl, h1⟩ := bytes_at (d := y0.1) (p := y0.2) f0 (fun n hn => hw n (by
    rw [hd.1]
    simp only [DataW.weights, Try.underlying24]
    exact DataW.weights_mem_each (j := 0) (t := 22) (d := y0.1) rfl rfl n hn))
  obtain ⟨bo, b, bc, rfl, h2⟩ := bytes_at (d := y1.1) (p := y1.2) f1 (fun n hn => hw n (by
    rw [hd.1]
    simp only [DataW.weights, Try.underlying24]
    exact DataW.weights_mem_each (j := 1) (t := 22) (d := y1.1) rfl rfl n hn))
  exact ⟨mo, m, mc, bo, b, bc, rfl, h1, h2⟩
end Go.Proofs.Ytemleibpmaclmaa.frameR
