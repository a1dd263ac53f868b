import Derived.Test.YteppfammimbmcaaDoorRows
import Derived.Test.YteppfammimbmcaaDoorAB
import Derived.ProofKit
import Derived.OpenShut
import Derived.ChangeOld
import Derived.Below
import Derived.Deep.Slices
import Derived.Lib.LaidTab
import Derived.Deep.DeepHandedRow
namespace Go.Proofs.YteppfammimbmcaaDoor.bitsR
open Go.ChangeShapes Go.WideShapes Go.ChangeAt Go.RowKit Go.Deep
open Go.Proofs.YteppfammimbmcaaDoor
set_option linter.unusedVariables false

theorem own : ownKnob Tryd.prog.godebug = none := by kernel_rfl
theorem laidOut : laidOutB Tryd.prog = true := by kernel_rfl
theorem cells3 : Tryd.prog.cellsOf 3 = 1 := by kernel_rfl
theorem cells4 : Tryd.prog.cellsOf 4 = 1 := by kernel_rfl
theorem cells5 : Tryd.prog.cellsOf 5 = 1 := by kernel_rfl
theorem cells24 : Tryd.prog.cellsOf 24 = 1 := by kernel_rfl
theorem cells25 : Tryd.prog.cellsOf 25 = 1 := by kernel_rfl
theorem cells31 : Tryd.prog.cellsOf 31 = 8 := by kernel_rfl
theorem cells79 : Tryd.prog.cellsOf 79 = 16 := by kernel_rfl
theorem gTab : Tryd.prog.globalNamed "colonnade/bits.halves" = some 0 := by kernel_rfl
theorem gTabType : (Tryd.prog.globals[0]?).map (·.type) = some 79 := by kernel_rfl

/-! ### what the bound gives -/
theorem one_le {H : Type} (d : DataW H) : 1 ≤ Rows.uptoBulk d := by
  cases d with
  | lit l => cases l <;> simp [Rows.uptoBulk]
  | nil => simp [Rows.uptoBulk]
  | ptr d => simp [Rows.uptoBulk]
  | slice elems spare => simp [Rows.uptoBulk]
  | agg parts => simp [Rows.uptoBulk]
  | iface t d => simp [Rows.uptoBulk]
  | map entries => simp [Rows.uptoBulk]
  | held h => simp [Rows.uptoBulk]
theorem part_le {H : Type} {d : DataW H} {l : List (DataW H)} (h : d ∈ l) : Rows.uptoBulk d ≤ Rows.uptoBulkAll l := by
  induction l with
  | nil => cases h
  | cons x r ih =>
    simp only [Rows.uptoBulkAll]
    rcases List.mem_cons.1 h with e | e
    · subst e; omega
    · have := ih e; omega
theorem length_le {H : Type} (l : List (DataW H)) : l.length ≤ Rows.uptoBulkAll l := by
  induction l with
  | nil => simp [Rows.uptoBulkAll]
  | cons x r ih => have := one_le x; simp only [Rows.uptoBulkAll, List.length_cons]; omega

theorem u8_bd {n : Int} (h : (Lit.int .u8 n).wf = true) : 0 ≤ n ∧ n < 256 := by
  have h1 : IntKind.u8.min = 0 := rfl
  have h2 : IntKind.u8.max = 255 := rfl
  simp only [Lit.wf, Bool.and_eq_true, decide_eq_true_eq] at h
  omega
theorem i64_bd {n : Int} (h : (Lit.int .i64 n).wf = true) : Kit.i64 n := by
  have h1 : IntKind.i64.min = -9223372036854775808 := rfl
  have h2 : IntKind.i64.max = 9223372036854775807 := rfl
  simp only [Lit.wf, Bool.and_eq_true, decide_eq_true_eq] at h
  unfold Kit.i64
  omega

/-- a map of bits, read -/
theorem map_at {H : Type} {enc : TypeId × Value → H} {W : World} {fuel : Nat} {v : Value} {d : DataW H} {p : List MemPlace}
    (h : DataW.trod enc Tryd.prog W 0 (fun _ => true) true fuel 24 [v] = some (d, p)) (hb : Rows.uptoBulk d ≤ 1048576) : ∃ ao l ca, v = .slice ao l.length ca ∧ Kit.MapAt W (.slice ao l.length ca) l := by
  rcases open_slice1 Tryd.underlying24 cells5 h with ⟨hcs, _⟩ | ⟨a, len, cap, m, n, V, D, Pl, hcs, _, hl, hm, hmm, hx, hc⟩
  · simp at hcs
    subst hcs
    exact ⟨none, [], 0, rfl, ⟨none, 0, rfl, fun h => by simp at h, by simp, by omega⟩, fun x hx => by simp at hx, by simp⟩
  · simp at hcs
    subst hcs
    simp only [if_true] at hmm
    subst hmm
    simp only [Prod.mk.injEq] at hx
    have hlen : len ≤ 1048576 := by
      rw [hx.1] at hb
      simp only [Rows.uptoBulk] at hb
      have := length_le ((List.range len).map D)
      simp at this
      omega
    obtain ⟨B, hB⟩ := choose_lt (α := Nat) (n := len) (p := fun i b => V i = .int .u8 (b : Int) ∧ b < 256) (fun i hi => by
      obtain ⟨b, h1, _, h3⟩ := DataW.trod_int Tryd.underlying5 (hc i (by omega)).2
      have := u8_bd h3
      exact ⟨b.toNat, by simp at h1; rw [h1]; congr 1; omega, by omega⟩)
    refine ⟨some a, (List.range len).map B, m, by simp, ⟨some a, m, by simp, fun h0 => ?_, by simp; omega, by unfold maxLen at hm; omega⟩, fun x hx => ?_, by simp; omega⟩
    · simp at h0
      obtain ⟨b, off, spot⟩ := a
      have hsp := World.cell?_spot (hc 0 (by omega)).1
      simp [Addr.add] at hsp
      subst hsp
      refine ⟨b, off, rfl, fun k hk => ?_⟩
      simp at hk
      have := (hc k (by omega)).1
      rw [Addr.add_lit] at this
      rw [this, (hB k hk).1]
      simp [hk]
    · obtain ⟨i, hi, rfl⟩ := List.mem_map.1 hx
      exact (hB i (by simpa using hi)).2
/-- a list of bools, read -/
theorem bools_at {H : Type} {enc : TypeId × Value → H} {W : World} {fuel : Nat} {v : Value} {d : DataW H} {p : List MemPlace}
    (h : DataW.trod enc Tryd.prog W 0 (fun _ => true) true fuel 25 [v] = some (d, p)) (hb : Rows.uptoBulk d ≤ 1048576) : ∃ (ao : Option Addr) (l : List Bool) (ca : Nat), v = .slice ao l.length ca ∧ Kit.BoolsAt W ao l.length (fun k => l.getD k false) ∧ l.length ≤ 100000000 ∧ l.length ≤ ca ∧ ca ≤ 9223372036854775807 := by
  rcases open_slice1 Tryd.underlying25 cells4 h with ⟨hcs, _⟩ | ⟨a, len, cap, m, n, V, D, Pl, hcs, _, hl, hm, hmm, hx, hc⟩
  · simp at hcs
    subst hcs
    exact ⟨none, [], 0, rfl, fun h => by simp at h, by simp, by simp, by omega⟩
  · simp at hcs
    subst hcs
    simp only [if_true] at hmm
    subst hmm
    simp only [Prod.mk.injEq] at hx
    have hlen : len ≤ 1048576 := by
      rw [hx.1] at hb
      simp only [Rows.uptoBulk] at hb
      have := length_le ((List.range len).map D)
      simp at this
      omega
    obtain ⟨B, hB⟩ := choose_lt (α := Bool) (n := len) (p := fun i b => V i = .bool b) (fun i hi => by
      obtain ⟨b, h1, _⟩ := DataW.trod_bool Tryd.underlying4 (hc i (by omega)).2
      exact ⟨b, by simpa using h1⟩)
    refine ⟨some a, (List.range len).map B, m, by simp, fun h0 => ?_, by simp; omega, by simp; omega, by unfold maxLen at hm; omega⟩
    simp at h0
    obtain ⟨b, off, spot⟩ := a
    have hsp := World.cell?_spot (hc 0 (by omega)).1
    simp [Addr.add] at hsp
    subst hsp
    refine ⟨b, off, rfl, fun k hk => ?_⟩
    simp at hk
    have := (hc k (by omega)).1
    rw [Addr.add_lit] at this
    rw [this, hB k hk]
    simp [hk]

theorem eight {α : Type} (l : List α) (h : l.length = 8) : ∃ a b c d e f g i, l = [a, b, c, d, e, f, g, i] := by
  match l, h with
  | [a, b, c, d, e, f, g, i], _ => exact ⟨a, b, c, d, e, f, g, i, rfl⟩

set_option maxRecDepth 100000 in
/-- a call, read -/
theorem op_at {H : Type} {enc : TypeId × Value → H} {W : World} {fuel : Nat} {cs : List Value} {d : DataW H} {p : List MemPlace} (hl : cs.length = 8)
    (h : DataW.trod enc Tryd.prog W 0 (fun _ => true) true fuel 31 cs = some (d, p)) (hb : Rows.uptoBulk d ≤ 1048576) :
    ∃ (o : Kit.OpD) (va vb vl : Value), cs = [.int .i64 o.kind, va, vb, vl, .int .i64 o.fr, .int .i64 o.n, .int .i64 o.k, .bool o.on] ∧ Kit.OpAt W (.agg #[.int .i64 o.kind, va, vb, vl, .int .i64 o.fr, .int .i64 o.n, .int .i64 o.k, .bool o.on]) o := by
  obtain ⟨xs, m, _, hd, _, hxs, hf⟩ := DataW.trod_struct Tryd.underlying31 h
  obtain ⟨c0, c1, c2, c3, c4, c5, c6, c7, rfl⟩ := eight cs hl
  obtain ⟨y0, y1, y2, y3, y4, y5, y6, y7, rfl⟩ := eight xs (hxs.trans rfl)
  have f0 : DataW.trod enc Tryd.prog W 0 (fun _ => true) true m 3 ((([c0, c1, c2, c3, c4, c5, c6, c7] : List Value).drop 0).take (Tryd.prog.cellsOf 3)) = some y0 := hf 0 _ rfl
  have f1 : DataW.trod enc Tryd.prog W 0 (fun _ => true) true m 24 ((([c0, c1, c2, c3, c4, c5, c6, c7] : List Value).drop 1).take (Tryd.prog.cellsOf 24)) = some y1 := hf 1 _ rfl
  have f2 : DataW.trod enc Tryd.prog W 0 (fun _ => true) true m 24 ((([c0, c1, c2, c3, c4, c5, c6, c7] : List Value).drop 2).take (Tryd.prog.cellsOf 24)) = some y2 := hf 2 _ rfl
  have f3 : DataW.trod enc Tryd.prog W 0 (fun _ => true) true m 25 ((([c0, c1, c2, c3, c4, c5, c6, c7] : List Value).drop 3).take (Tryd.prog.cellsOf 25)) = some y3 := hf 3 _ rfl
  have f4 : DataW.trod enc Tryd.prog W 0 (fun _ => true) true m 3 ((([c0, c1, c2, c3, c4, c5, c6, c7] : List Value).drop 4).take (Tryd.prog.cellsOf 3)) = some y4 := hf 4 _ rfl
  have f5 : DataW.trod enc Tryd.prog W 0 (fun _ => true) true m 3 ((([c0, c1, c2, c3, c4, c5, c6, c7] : List Value).drop 5).take (Tryd.prog.cellsOf 3)) = some y5 := hf 5 _ rfl
  have f6 : DataW.trod enc Tryd.prog W 0 (fun _ => true) true m 3 ((([c0, c1, c2, c3, c4, c5, c6, c7] : List Value).drop 6).take (Tryd.prog.cellsOf 3)) = some y6 := hf 6 _ rfl
  have f7 : DataW.trod enc Tryd.prog W 0 (fun _ => true) true m 4 ((([c0, c1, c2, c3, c4, c5, c6, c7] : List Value).drop 7).take (Tryd.prog.cellsOf 4)) = some y7 := hf 7 _ rfl
  rw [cells3] at f0 f4 f5 f6
  rw [cells24] at f1 f2
  rw [cells25] at f3
  rw [cells4] at f7
  simp only [List.drop_zero, List.drop_succ_cons, List.take_succ_cons, List.take_zero] at f0 f1 f2 f3 f4 f5 f6 f7
  simp only [Prod.mk.injEq] at hd
  have hbk : ∀ y ∈ [y0, y1, y2, y3, y4, y5, y6, y7], Rows.uptoBulk y.1 ≤ 1048576 := fun y hy => by
    rw [hd.1] at hb
    simp only [Rows.uptoBulk] at hb
    have := part_le (List.mem_map_of_mem (f := fun x : DataW H × List MemPlace => x.1) hy)
    omega
  obtain ⟨k0, e0, _, w0⟩ := DataW.trod_int Tryd.underlying3 f0
  obtain ⟨k4, e4, _, w4⟩ := DataW.trod_int Tryd.underlying3 f4
  obtain ⟨k5, e5, _, w5⟩ := DataW.trod_int Tryd.underlying3 f5
  obtain ⟨k6, e6, _, w6⟩ := DataW.trod_int Tryd.underlying3 f6
  obtain ⟨k7, e7, _⟩ := DataW.trod_bool Tryd.underlying4 f7
  obtain ⟨a1, l1, q1, rfl, hA⟩ := map_at (d := y1.1) (p := y1.2) f1 (hbk y1 (by simp))
  obtain ⟨a2, l2, q2, rfl, hB⟩ := map_at (d := y2.1) (p := y2.2) f2 (hbk y2 (by simp))
  obtain ⟨a3, l3, q3, rfl, hL, hl3, _⟩ := bools_at (d := y3.1) (p := y3.2) f3 (hbk y3 (by simp))
  simp at e0 e4 e5 e6 e7
  subst e0 e4 e5 e6 e7
  exact ⟨⟨k0, l1, l2, l3, k4, k5, k6, k7⟩, _, _, _, rfl, a1, a2, a3, q1, q2, q3, rfl, hA, hB, hL, hl3, i64_bd w0, i64_bd w4, i64_bd w5, i64_bd w6⟩

/-- the table, as the row lists it -/
theorem table {W : World} (h : laidMetH Tryd.prog [("colonnade/bits.halves", Rows.laid_colonnade_bits_halves)] W) : Kit.Tab W := by
  have ht : Lib.TabIs Tryd.prog W "colonnade/bits.halves" .u8 [0, 1, 1, 2, 1, 2, 2, 3, 1, 2, 2, 3, 2, 3, 3, 4] :=
    Lib.tabIs_of_head (rest := []) gTab gTabType Tryd.underlying79 Tryd.underlying5 cells5 cells79 h
  intro k hk
  have := ht.cell gTab k (by simpa using hk)
  rw [this]
  have e : ∀ k, k < 16 → ([0, 1, 1, 2, 1, 2, 2, 3, 1, 2, 2, 3, 2, 3, 3, 4] : List Int).getD k 0 = ((Kit.cnt k : Nat) : Int) := by decide
  rw [e k hk]

set_option maxRecDepth 100000 in
/-- the script, read -/
theorem script_at {H : Type} {enc : TypeId × Value → H} {W : World} {a0 : Option Addr} {len cap : Nat} {d : DataW H} {p : List MemPlace}
    (h : DataW.Trod enc Tryd.prog W 0 (fun _ => true) true 22 (.slice a0 len cap) d p) (hb : Rows.uptoBulk d ≤ 1048576) :
    ∃ ops : List Kit.OpD, ops.length = len ∧ ops.length ≤ 100000000 ∧ Kit.ScriptAt W a0 ops := by
  obtain ⟨fuel, hf⟩ := h
  rcases open_slice Tryd.underlying22 hf with ⟨hcs, _⟩ | ⟨a, l, c, m, n, D, Pl, hcs, _, hl, hm, hmm, hx, hc⟩
  · simp [Value.cells] at hcs
    obtain ⟨rfl, rfl, rfl⟩ := hcs
    exact ⟨[], rfl, by simp, fun h => by simp at h⟩
  · simp [Value.cells] at hcs
    obtain ⟨rfl, rfl, rfl⟩ := hcs
    simp only [if_true] at hmm
    subst hmm
    simp only [Prod.mk.injEq] at hx
    have hb' : Rows.uptoBulkAll ((List.range len).map D) ≤ 1048576 := by
      rw [hx.1] at hb
      simp only [Rows.uptoBulk] at hb
      omega
    have hlen : len ≤ 1048576 := by
      have := length_le ((List.range len).map D)
      simp at this
      omega
    have hall : ∀ i, i < len → ∃ o : Kit.OpD, ∃ (va vb vl : Value), (∃ cs', W.cells? 0 (a.add (i * 8)) 8 = some cs' ∧ cs' = [.int .i64 o.kind, va, vb, vl, .int .i64 o.fr, .int .i64 o.n, .int .i64 o.k, .bool o.on]) ∧ Kit.OpAt W (.agg #[.int .i64 o.kind, va, vb, vl, .int .i64 o.fr, .int .i64 o.n, .int .i64 o.k, .bool o.on]) o := by
      intro i hi
      obtain ⟨cs', hc', ht⟩ := hc i (by omega)
      rw [cells31] at hc'
      obtain ⟨_, hl', _⟩ := World.cells?_some hc'
      have hbi : Rows.uptoBulk (D i) ≤ 1048576 := by
        have := part_le (List.mem_map_of_mem (f := D) (List.mem_range.2 hi))
        omega
      obtain ⟨o, va, vb, vl, e, hO⟩ := op_at hl' ht hbi
      exact ⟨o, va, vb, vl, ⟨cs', hc', e⟩, hO⟩
    have : Inhabited Kit.OpD := ⟨⟨0, [], [], [], 0, 0, 0, false⟩⟩
    obtain ⟨ops, hops⟩ := choose_lt hall
    refine ⟨(List.range len).map ops, by simp, by simp; omega, fun h0 => ?_⟩
    simp at h0
    obtain ⟨b, off, spot⟩ := a
    have hsp : spot = none := by
      obtain ⟨_, _, _, ⟨cs', hc', e⟩, _⟩ := hops 0 h0
      obtain ⟨_, hl', hcell'⟩ := World.cells?_some hc'
      have g0 := hcell' 0 (by omega)
      rw [List.getElem?_eq_getElem (by omega)] at g0
      have hsp := World.cell?_spot g0
      simp [Addr.add] at hsp
      exact hsp
    subst hsp
    refine ⟨b, off, rfl, fun i hi => ?_⟩
    simp at hi
    obtain ⟨va, vb, vl, ⟨cs', hc', rfl⟩, hO⟩ := hops i hi
    have he : ((List.range len).map ops)[i]'(by simpa using hi) = ops i := by simp
    rw [he]
    obtain ⟨_, _, hcell⟩ := World.cells?_some hc'
    rw [Addr.add_lit] at hcell
    have g0 := hcell 0 (by omega)
    have g1 := hcell 1 (by omega)
    have g2 := hcell 2 (by omega)
    have g3 := hcell 3 (by omega)
    have g4 := hcell 4 (by omega)
    have g5 := hcell 5 (by omega)
    have g6 := hcell 6 (by omega)
    have g7 := hcell 7 (by omega)
    simp only [Addr.add_lit, Nat.add_zero, List.getElem?_cons_zero, List.getElem?_cons_succ] at g0 g1 g2 g3 g4 g5 g6 g7
    exact ⟨va, vb, vl, hO, g0, g1, g2, g3, g4, g5, g6, g7⟩
end Go.Proofs.YteppfammimbmcaaDoor.bitsR
