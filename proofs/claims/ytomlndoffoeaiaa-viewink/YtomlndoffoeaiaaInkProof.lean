import Derived.Test.YtomlndoffoeaiaaInkH
import Derived.ProofKit
import Derived.OpenShut
import Derived.ChangeOld
import Derived.Below
import Derived.Deep.Slices
namespace Go.Proofs.Ytomlndoffoeaiaa.viewInk
open Go.ChangeShapes Go.WideShapes Go.ChangeAt Go.RowKit Go.Deep
set_option linter.unusedVariables false

theorem own : ownKnob Try.prog.godebug = none := by kernel_rfl
theorem laidOut : laidOutB Try.prog = true := by kernel_rfl
theorem cells3 : Try.prog.cellsOf 3 = 1 := by kernel_rfl
theorem cells46 : Try.prog.cellsOf 46 = 1 := by kernel_rfl
theorem cells9 : Try.prog.cellsOf 9 = 1 := by kernel_rfl
theorem cells62 : Try.prog.cellsOf 62 = 4 := by kernel_rfl

theorem u64_bd {n : Int} (h : (Lit.int .u64 n).wf = true) : 0 ≤ n ∧ n < 18446744073709551616 := by
  have h1 : IntKind.u64.min = 0 := rfl
  have h2 : IntKind.u64.max = 18446744073709551615 := rfl
  simp only [Lit.wf, Bool.and_eq_true, decide_eq_true_eq] at h
  omega

theorem four {α : Type} (l : List α) (h : l.length = 4) : ∃ a b c d, l = [a, b, c, d] := by
  match l, h with
  | [a, b, c, d], _ => exact ⟨a, b, c, d, rfl⟩

set_option maxRecDepth 100000 in
/-- one step, read -/
theorem step_at {H : Type} {enc : TypeId × Value → H} {W : World} {base : Nat} {spare : Nat → Bool} {held : Bool} {n : Nat} {b off : Nat} {cs : List Value} {x : DataW H × List MemPlace}
    (hc : W.cells? base ⟨b, off, none⟩ 4 = some cs) (h : DataW.trod enc Try.prog W base spare held n 62 cs = some x) : ∃ o, Kit.StepAt W b off o := by
  obtain ⟨_, hl, hcell⟩ := World.cells?_some hc
  obtain ⟨xs, m, _, _, _, hxs, hf⟩ := DataW.trod_struct Try.underlying62 h
  obtain ⟨c0, c1, c2, c3, rfl⟩ := four cs hl
  obtain ⟨y0, y1, y2, y3, rfl⟩ := four xs (hxs.trans rfl)
  have f0 : DataW.trod enc Try.prog W base spare held m 3 ((([c0, c1, c2, c3] : List Value).drop 0).take (Try.prog.cellsOf 3)) = some y0 := hf 0 _ rfl
  have f1 : DataW.trod enc Try.prog W base spare held m 46 ((([c0, c1, c2, c3] : List Value).drop 1).take (Try.prog.cellsOf 46)) = some y1 := hf 1 _ rfl
  have f2 : DataW.trod enc Try.prog W base spare held m 3 ((([c0, c1, c2, c3] : List Value).drop 2).take (Try.prog.cellsOf 3)) = some y2 := hf 2 _ rfl
  have f3 : DataW.trod enc Try.prog W base spare held m 9 ((([c0, c1, c2, c3] : List Value).drop 3).take (Try.prog.cellsOf 9)) = some y3 := hf 3 _ rfl
  rw [cells3] at f0 f2
  rw [cells46] at f1
  rw [cells9] at f3
  clear hf h
  obtain ⟨k, e0, _, _⟩ := DataW.trod_int Try.underlying3 f0
  obtain ⟨u, e1, _, wu⟩ := DataW.trod_int Try.underlying46 f1
  obtain ⟨v, e2, _, _⟩ := DataW.trod_int Try.underlying3 f2
  obtain ⟨s, e3, _, hs⟩ := DataW.trod_string Try.underlying9 f3
  simp at e0 e1 e2 e3
  subst e0 e1 e2 e3
  have g0 := hcell 0 (by omega)
  have g1 := hcell 1 (by omega)
  have g2 := hcell 2 (by omega)
  have g3 := hcell 3 (by omega)
  simp only [Addr.add_lit, Nat.add_zero, List.getElem?_cons_zero, List.getElem?_cons_succ] at g0 g1 g2 g3
  exact ⟨⟨k, u, v, s⟩, g0, g1, g2, g3, (u64_bd wu).1, (u64_bd wu).2, by simpa [maxLen] using hs⟩

set_option maxRecDepth 100000 in
/-- the script, read -/
theorem script_at {H : Type} {enc : TypeId × Value → H} {W : World} {a0 : Option Addr} {len cap : Nat} {d : DataW H} {p : List MemPlace}
    (h : DataW.Trod enc Try.prog W 0 (fun _ => true) true 54 (.slice a0 len cap) d p) :
    ∃ (b off : Nat) (ops : Nat → Kit.InkStep), len ≤ 9223372036854775807 ∧ (0 < len → a0 = some ⟨b, off, none⟩ ∧ b < W.heap.size) ∧ ∀ i, i < len → Kit.StepAt W b (off + i * 4) (ops i) := by
  obtain ⟨fuel, hf⟩ := h
  rcases open_slice Try.underlying54 hf with ⟨hcs, _⟩ | ⟨a, l, c, m, n, D, Pl, hcs, _, hl, hm, hmm, _, hx⟩
  · simp [Value.cells] at hcs
    obtain ⟨rfl, rfl, rfl⟩ := hcs
    exact ⟨0, 0, fun _ => ⟨0, 0, 0, ByteArray.empty⟩, by omega, fun h => absurd h (by omega), fun i h => absurd h (by omega)⟩
  · simp [Value.cells] at hcs
    obtain ⟨rfl, rfl, rfl⟩ := hcs
    simp only [if_true] at hmm
    subst hmm
    unfold maxLen at hm
    obtain ⟨b, off, spot⟩ := a
    by_cases h0 : len = 0
    · exact ⟨0, 0, fun _ => ⟨0, 0, 0, ByteArray.empty⟩, by omega, fun h => absurd h (by omega), fun i h => absurd h (by omega)⟩
    · have hs : spot = none ∧ b < W.heap.size := by
        obtain ⟨cs', hc', _⟩ := hx 0 (by omega)
        rw [cells62] at hc'
        obtain ⟨_, hl', hcell'⟩ := World.cells?_some hc'
        have g0 := hcell' 0 (by omega)
        rw [List.getElem?_eq_getElem (by omega)] at g0
        have hsp := World.cell?_spot g0
        have hbl := block_lt_of_cell g0
        simp [Addr.add] at hsp hbl
        exact ⟨hsp, hbl⟩
      obtain ⟨rfl, hb⟩ := hs
      have hall : ∀ i, i < len → ∃ o, Kit.StepAt W b (off + i * 4) o := by
        intro i hi
        obtain ⟨cs', hc', ht⟩ := hx i (by omega)
        rw [cells62, Addr.add_lit] at hc'
        exact step_at hc' ht
      have : Inhabited Kit.InkStep := ⟨⟨0, 0, 0, ByteArray.empty⟩⟩
      obtain ⟨ops, hops⟩ := choose_lt hall
      exact ⟨b, off, ops, by omega, fun _ => ⟨rfl, hb⟩, hops⟩

set_option maxRecDepth 100000 in
theorem lifted (os : Os) (started : os.Started) (H : Type) (enc : TypeId × Value → H) :
    ReturnsInHanded {} Try.checked os 5 .any (Rows.viewInkSpec.pre6 enc Try.prog Try.f5 Rows.viewInkRow.domain false) (Rows.viewInkSpec.post enc Try.prog Try.f5 false true false false) := by
  refine returnsInHanded_of_change (C := Try.checked) own started (by kernel_rfl) Try.func5
    (ChangeSpec.witness6 (enc := enc) (C := Try.checked) false ⟨#[], #[.int .i64 0, .slice none 0 0], []⟩ 8 (by kernel_rfl) (by kernel_rfl) (by kernel_rfl) (by kernel_rfl)) ?_
  intro W base args ds gs before hval0 hW hcnd _
  have hval : ∀ (j : Nat) t v, Try.f5.params[j]? = some t → args[j]? = some v → Value.okWide Try.prog W .any base t v := hval0
  have hW' := hW
  obtain ⟨p, q, hA0, hV, rfl, hfz, hnd⟩ := hW
  have hA : DataW.TrodAll enc Try.prog W 0 (fun _ => true) true Try.f5.params.toList args.toList ds p := hA0
  rw [Try.params5] at hA hval
  obtain ⟨v0, vs0, d0, ds0, p0, q0, hargs, rfl, rfl, h0, r0⟩ := trodAll_cons hA
  obtain ⟨v1, vs1, d1, ds1, p1, q1, rfl, rfl, rfl, h1, r1⟩ := trodAll_cons r0
  obtain ⟨rfl, rfl, rfl⟩ := trodAll_nil r1
  obtain rfl : args = #[v0, v1] := by cases args; simp_all
  obtain ⟨rfl, rfl⟩ := trodVars_none hV
  obtain ⟨a0, rfl, rfl, rfl, w0⟩ := open_int Try.underlying3 (hval 0 3 v0 rfl rfl) h0
  obtain ⟨a1, len1, cap1, rfl⟩ := okWide_slice Try.underlying54 (hval 1 54 v1 rfl rfl)
  have k1 := h1
  have lt1 : ∀ x ∈ p1, x.block < W.heap.size := by obtain ⟨m, hm⟩ := k1; exact DataW.trod_lt m _ _ _ hm
  obtain ⟨b, off, ops, hlen, hao, hops⟩ := script_at h1
  clear hA0 hval0
  refine (Kit.ink_walk a0 a1 b off len1 cap1 ops W hlen hao hops).mono fun e W' ⟨he, bel⟩ => ?_
  subst he
  exact ⟨_, rfl, _, _, _, [], _, [], hW', trodAll_mk1 (shut_bool Try.underlying4 _), (trodAll_cons_mk (shut_int Try.underlying3 w0) (trodAll_cons_mk (Below.trod laidOut (by kernel_rfl) (of_decide_eq_true (by kernel_rfl)) k1 bel lt1) trodAll_mk0)), rfl, bel.frame _, fun h => by cases h⟩

theorem over : Rows.viewInkRow.holds Try.pinned (OpenSpec.ofChange Rows.viewInkSpec) :=
  OpenClaim.holds_of_wide 5 Try.f5 rfl rfl rfl rfl rfl rfl rfl ⟨rfl, rfl, rfl, rfl, rfl⟩ rfl rfl rfl rfl rfl (by kernel_rfl) Try.func5 (by kernel_rfl)
    (of_decide_eq_true (by kernel_rfl)) (by unfold Func.isWrapper; first | (rw [if_pos (by decide +kernel)]; kernel_rfl) | (rw [if_neg (by decide +kernel)]; exact ⟨rfl, rfl⟩))
    (fun os started H enc _ => lifted os started H enc)
end Go.Proofs.Ytomlndoffoeaiaa.viewInk
namespace Go.Proofs.Ytomlndoffoeaiaa
theorem viewInk_holds : Rows.ViewInkSaid := viewInk.over
end Go.Proofs.Ytomlndoffoeaiaa
