import Derived.Test.YtomlndoffoeaiaaRmO
import Derived.ProofKit
import Derived.OpenShut
import Derived.ChangeOld
import Derived.Below
import Derived.JoinedCond
import Derived.Deep.Slices
namespace Go.Proofs.Ytomlndoffoeaiaa.viewReads
open Go.ChangeShapes Go.WideShapes Go.ChangeAt Go.RowKit Go.Deep
set_option linter.unusedVariables false

theorem own : ownKnob Try.prog.godebug = none := by kernel_rfl
theorem laidOut : laidOutB Try.prog = true := by kernel_rfl
theorem cells3 : Try.prog.cellsOf 3 = 1 := by kernel_rfl
theorem cells29 : Try.prog.cellsOf 29 = 4 := by kernel_rfl
theorem one_le {H : Type} (d : DataW H) : 1 ≤ Rows.uptoBulk d := by
  cases d with
  | lit l => cases l <;> simp [Rows.uptoBulk]
  | _ => simp [Rows.uptoBulk]
theorem length_le {H : Type} (l : List (DataW H)) : l.length ≤ Rows.uptoBulkAll l := by
  induction l with
  | nil => simp [Rows.uptoBulkAll]
  | cons x r ih => have := one_le x; simp only [Rows.uptoBulkAll, List.length_cons]; omega
theorem i64_bd {n : Int} (h : (Lit.int .i64 n).wf = true) : -9223372036854775808 ≤ n ∧ n ≤ 9223372036854775807 := by
  have h1 : IntKind.i64.min = -9223372036854775808 := rfl
  have h2 : IntKind.i64.max = 9223372036854775807 := rfl
  simp only [Lit.wf, Bool.and_eq_true, decide_eq_true_eq] at h
  omega
theorem u8_bd {n : Int} (h : (Lit.int .u8 n).wf = true) : 0 ≤ n ∧ n < 256 := by
  have h1 : IntKind.u8.min = 0 := rfl
  have h2 : IntKind.u8.max = 255 := rfl
  simp only [Lit.wf, Bool.and_eq_true, decide_eq_true_eq] at h
  omega
theorem four {α : Type} (l : List α) (h : l.length = 4) : ∃ a b c d, l = [a, b, c, d] := by
  match l, h with
  | [a, b, c, d], _ => exact ⟨a, b, c, d, rfl⟩

/-- the bytes, read -/
theorem bytes_at {H : Type} {enc : TypeId × Value → H} {W : World} {a0 : Option Addr} {len cap : Nat} {d : DataW H} {p : List MemPlace} (hb : Rows.uptoBulk d ≤ 1048576)
    (h : DataW.Trod enc Try.prog W 0 (fun _ => true) true 22 (.slice a0 len cap) d p) : ∃ l : List Int, Kit.BytesAt W a0 len l ∧ l.length = len ∧ (∀ x ∈ l, 0 ≤ x ∧ x < 256) ∧ len ≤ 1048576 := by
  obtain ⟨fuel, hf⟩ := h
  rcases open_ints Try.underlying22 Try.underlying5 (by kernel_rfl) hf with ⟨hcs, _⟩ | ⟨x, l, c, zs, hcs, _, hl, hm, hz, hx, hcell, hwz⟩
  · simp [Value.cells] at hcs
    obtain ⟨rfl, rfl, rfl⟩ := hcs
    exact ⟨[], fun h => absurd h (by omega), rfl, by simp, by omega⟩
  · simp [Value.cells] at hcs
    obtain ⟨rfl, rfl, rfl⟩ := hcs
    have hd : d = .slice (lits .u8 (zs.take len)) (lits .u8 (zs.drop len)) := by simpa using congrArg Prod.fst hx
    subst hd
    have hz' : zs.length = cap := by simpa using hz
    have hlen : len ≤ 1048576 := by
      simp only [Rows.uptoBulk] at hb
      have h1 := length_le (H := H) (lits .u8 (zs.take len))
      simp only [lits, List.length_map, List.length_take] at h1
      simp only [lits] at hb
      omega
    refine ⟨zs.take len, fun hn => ?_, by simp; omega, fun c hc => u8_bd (hwz c (List.mem_of_mem_take hc)), hlen⟩
    obtain ⟨b, off, spot⟩ := x
    have hc := hcell 0 (by omega)
    have hspot : spot = none := by simpa [Addr.add] using World.cell?_spot hc
    subst hspot
    refine ⟨b, off, rfl, fun k hk => ?_⟩
    have hck := hcell k (by omega)
    rw [Addr.add_lit] at hck
    rw [hck]
    simp [List.getD, hk]

set_option maxRecDepth 100000 in
/-- one step, read -/
theorem step_at {H : Type} {enc : TypeId × Value → H} {W : World} {base : Nat} {spare : Nat → Bool} {held : Bool} {n : Nat} {b off : Nat} {cs : List Value} {x : DataW H × List MemPlace}
    (hc : W.cells? base ⟨b, off, none⟩ 4 = some cs) (h : DataW.trod enc Try.prog W base spare held n 29 cs = some x) : ∃ o, Kit.RStepAt W b off o := by
  obtain ⟨_, hl, hcell⟩ := World.cells?_some hc
  obtain ⟨xs, m, _, _, _, hxs, hf⟩ := DataW.trod_struct Try.underlying29 h
  obtain ⟨c0, c1, c2, c3, rfl⟩ := four cs hl
  obtain ⟨y0, y1, y2, y3, rfl⟩ := four xs (hxs.trans rfl)
  have f0 : DataW.trod enc Try.prog W base spare held m 3 ((([c0, c1, c2, c3] : List Value).drop 0).take (Try.prog.cellsOf 3)) = some y0 := hf 0 _ rfl
  have f1 : DataW.trod enc Try.prog W base spare held m 3 ((([c0, c1, c2, c3] : List Value).drop 1).take (Try.prog.cellsOf 3)) = some y1 := hf 1 _ rfl
  have f2 : DataW.trod enc Try.prog W base spare held m 3 ((([c0, c1, c2, c3] : List Value).drop 2).take (Try.prog.cellsOf 3)) = some y2 := hf 2 _ rfl
  have f3 : DataW.trod enc Try.prog W base spare held m 3 ((([c0, c1, c2, c3] : List Value).drop 3).take (Try.prog.cellsOf 3)) = some y3 := hf 3 _ rfl
  rw [cells3] at f0 f1 f2 f3
  clear hf h
  obtain ⟨k, e0, _, _⟩ := DataW.trod_int Try.underlying3 f0
  obtain ⟨u, e1, _, w1⟩ := DataW.trod_int Try.underlying3 f1
  obtain ⟨v, e2, _, w2⟩ := DataW.trod_int Try.underlying3 f2
  obtain ⟨s, e3, _, w3⟩ := DataW.trod_int Try.underlying3 f3
  simp at e0 e1 e2 e3
  subst e0 e1 e2 e3
  have g0 := hcell 0 (by omega)
  have g1 := hcell 1 (by omega)
  have g2 := hcell 2 (by omega)
  have g3 := hcell 3 (by omega)
  simp only [Addr.add_lit, Nat.add_zero, List.getElem?_cons_zero, List.getElem?_cons_succ] at g0 g1 g2 g3
  exact ⟨⟨k, u, v, s⟩, g0, g1, g2, g3, i64_bd w1, i64_bd w2, i64_bd w3⟩

set_option maxRecDepth 100000 in
/-- the script, read -/
theorem script_at {H : Type} {enc : TypeId × Value → H} {W : World} {a0 : Option Addr} {len cap : Nat} {d : DataW H} {p : List MemPlace} (hb : Rows.uptoBulk d ≤ 1048576)
    (h : DataW.Trod enc Try.prog W 0 (fun _ => true) true 23 (.slice a0 len cap) d p) :
    ∃ (b off : Nat) (ops : Nat → Kit.RStep), len ≤ 1048576 ∧ (0 < len → a0 = some ⟨b, off, none⟩ ∧ b < W.heap.size) ∧ ∀ i, i < len → Kit.RStepAt W b (off + i * 4) (ops i) := by
  obtain ⟨fuel, hf⟩ := h
  rcases open_slice Try.underlying23 hf with ⟨hcs, _⟩ | ⟨a, l, c, m, n, D, Pl, hcs, _, hl, hm, hmm, hxx, hx⟩
  · simp [Value.cells] at hcs
    obtain ⟨rfl, rfl, rfl⟩ := hcs
    exact ⟨0, 0, fun _ => ⟨0, 0, 0, 0⟩, by omega, fun h => absurd h (by omega), fun i h => absurd h (by omega)⟩
  · simp [Value.cells] at hcs
    obtain ⟨rfl, rfl, rfl⟩ := hcs
    simp only [if_true] at hmm
    subst hmm
    simp only [Prod.mk.injEq] at hxx
    have hlen : len ≤ 1048576 := by
      rw [hxx.1] at hb
      simp only [Rows.uptoBulk] at hb
      have := length_le ((List.range len).map D)
      simp at this
      omega
    obtain ⟨b, off, spot⟩ := a
    by_cases h0 : len = 0
    · exact ⟨0, 0, fun _ => ⟨0, 0, 0, 0⟩, by omega, fun h => absurd h (by omega), fun i h => absurd h (by omega)⟩
    · have hs : spot = none ∧ b < W.heap.size := by
        obtain ⟨cs', hc', _⟩ := hx 0 (by omega)
        rw [cells29] at hc'
        obtain ⟨_, hl', hcell'⟩ := World.cells?_some hc'
        have g0 := hcell' 0 (by omega)
        rw [List.getElem?_eq_getElem (by omega)] at g0
        have hsp := World.cell?_spot g0
        have hbl := block_lt_of_cell g0
        simp [Addr.add] at hsp hbl
        exact ⟨hsp, hbl⟩
      obtain ⟨rfl, hb⟩ := hs
      have hall : ∀ i, i < len → ∃ o, Kit.RStepAt W b (off + i * 4) o := by
        intro i hi
        obtain ⟨cs', hc', ht⟩ := hx i (by omega)
        rw [cells29, Addr.add_lit] at hc'
        exact step_at hc' ht
      have : Inhabited Kit.RStep := ⟨⟨0, 0, 0, 0⟩⟩
      obtain ⟨ops, hops⟩ := choose_lt hall
      exact ⟨b, off, ops, hlen, fun _ => ⟨rfl, hb⟩, hops⟩

set_option maxRecDepth 100000 in
theorem lifted (os : Os) (started : os.Started) (H : Type) (enc : TypeId × Value → H) (F : Stop.Interp) :
    ReturnsInHanded {} Try.checked os 3 .any ((Rows.OpenSpec.upto Rows.viewReadsSpec).pre6 enc Try.prog Try.f3 Rows.viewReadsUptoRow.domain false) (((Rows.OpenSpec.upto Rows.viewReadsSpec).at F).post enc Try.prog Try.f3 false true false false) := by
  refine returnsInHanded_of_cond (C := Try.checked) (s := Rows.OpenSpec.upto Rows.viewReadsSpec) (k := Rows.uptoSmall) rfl own started (by kernel_rfl) Try.func3
    (OpenSpec.witness (enc := enc) (C := Try.checked) (s := Rows.OpenSpec.upto Rows.viewReadsSpec) (k := Rows.uptoSmall) rfl false ⟨#[], #[.slice none 0 0, .slice none 0 0], []⟩ 8 (by kernel_rfl) (by kernel_rfl) (by kernel_rfl)
      (x := ([.nil, .nil], [], [])) (by kernel_rfl) rfl (by kernel_rfl)) ?_
  intro W base args ds gs before hval0 hW _ hk _
  have hval : ∀ (j : Nat) t v, Try.f3.params[j]? = some t → args[j]? = some v → Value.okWide Try.prog W .any base t v := hval0
  have hW' := hW
  obtain ⟨p, q, hA0, hV, rfl, hfz, hnd⟩ := hW
  have hA : DataW.TrodAll enc Try.prog W 0 (fun _ => true) true Try.f3.params.toList args.toList ds p := hA0
  rw [Try.params3] at hA hval
  obtain ⟨v0, vs0, d0, ds0, p0, q0, hargs, rfl, rfl, h0, r0⟩ := trodAll_cons hA
  obtain ⟨v1, vs1, d1, ds1, p1, q1, rfl, rfl, rfl, h1, r1⟩ := trodAll_cons r0
  obtain ⟨rfl, rfl, rfl⟩ := trodAll_nil r1
  obtain rfl : args = #[v0, v1] := by cases args; simp_all
  obtain ⟨rfl, rfl⟩ := trodVars_none hV
  obtain ⟨a0, len0, cap0, rfl⟩ := okWide_slice Try.underlying22 (hval 0 22 v0 rfl rfl)
  obtain ⟨a1, len1, cap1, rfl⟩ := okWide_slice Try.underlying23 (hval 1 23 v1 rfl rfl)
  have k0 := h0
  have k1 := h1
  have lt0 : ∀ x ∈ p0, x.block < W.heap.size := by obtain ⟨m, hm⟩ := k0; exact DataW.trod_lt m _ _ _ hm
  have lt1 : ∀ x ∈ p1, x.block < W.heap.size := by obtain ⟨m, hm⟩ := k1; exact DataW.trod_lt m _ _ _ hm
  have hbk := of_decide_eq_true hk
  simp only [List.append_nil, Rows.uptoBulkAll] at hbk
  obtain ⟨l, hB, hl, hr, hN⟩ := bytes_at (by omega) h0
  obtain ⟨b, off, ops, hlen, hao, hops⟩ := script_at (by omega) h1
  clear hA0 hval0 hbk hk
  refine (Kit.reads_walk a0 len0 cap0 l a1 b off len1 cap1 ops W hB hl hr hN hlen hao hops).mono fun e W' ⟨he, bel⟩ => ?_
  subst he
  exact ⟨_, rfl, _, _, _, [], _, [], hW', trodAll_mk1 (shut_bool Try.underlying4 _), (trodAll_cons_mk (Below.trod laidOut (by kernel_rfl) (of_decide_eq_true (by kernel_rfl)) k0 bel lt0) (trodAll_cons_mk (Below.trod laidOut (by kernel_rfl) (of_decide_eq_true (by kernel_rfl)) k1 bel lt1) trodAll_mk0)), rfl, bel.frame _, fun h => by cases h⟩

theorem over : Rows.viewReadsUptoRow.holds Try.pinned (Rows.OpenSpec.upto Rows.viewReadsSpec) :=
  OpenClaim.holds_of_cond 3 Try.f3 rfl rfl rfl rfl rfl rfl rfl ⟨rfl, rfl, rfl, rfl, rfl⟩ rfl rfl rfl rfl rfl (by kernel_rfl) Try.func3 (by kernel_rfl)
    (of_decide_eq_true (by kernel_rfl)) (by unfold Func.isWrapper; first | (rw [if_pos (by decide +kernel)]; kernel_rfl) | (rw [if_neg (by decide +kernel)]; exact ⟨rfl, rfl⟩))
    (fun os started H enc _ F => lifted os started H enc F)
end Go.Proofs.Ytomlndoffoeaiaa.viewReads
namespace Go.Proofs.Ytomlndoffoeaiaa
theorem viewReads_upto : Rows.ViewReadsUptoSaid := viewReads.over
end Go.Proofs.Ytomlndoffoeaiaa
