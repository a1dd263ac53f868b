import Derived.Test.YtfoifmacobldbaaGreatDoorRows
import Derived.Test.YtfoifmacobldbaaGreatDoorRX
import Derived.Test.YtfoifmacobldbaaGreatDoorNB
import Derived.Test.YtfoifmacobldbaaGreatDoorVD
import Derived.ProofKit
import Derived.OpenShut
import Derived.ChangeOld
import Derived.Below
import Derived.Deep.Slices
import Derived.Lib.LaidTab
import Derived.Lib.LaidU8T
import Derived.Deep.DeepHandedRow
import Derived.Lib.ItoaMem
set_option maxRecDepth 100000
set_option maxHeartbeats 4000000
namespace Go.Proofs.YtfoifmacobldbaaGreatDoor.kindR
open Go.ChangeShapes Go.WideShapes Go.ChangeAt Go.RowKit Go.Deep
open Go.Proofs.YtfoifmacobldbaaGreatDoor
set_option linter.unusedVariables false
def rowD (k : Nat) : DataW Unit := .agg [.lit (.string (Kit.wordK k)), .lit (.int .i64 (Kit.bytesK k)), .lit (.int .i64 (Kit.bufsK k)), .lit (.int .i64 (Kit.leastK k)), .lit (.int .i64 (Kit.mostK k))]
theorem laid_rows : (Rows.laid_colonnade_kind_kinds : DataW Unit) = .agg ((List.range 21).map rowD) := rfl
theorem cells85 : Tryz.prog.cellsOf 200 = 5 := by kernel_rfl
theorem cells86 : Tryz.prog.cellsOf 201 = 105 := by kernel_rfl
theorem cells3 : Tryz.prog.cellsOf 3 = 1 := by kernel_rfl
theorem cells9 : Tryz.prog.cellsOf 9 = 1 := by kernel_rfl
theorem gKinds : Tryz.prog.globalNamed "colonnade/kind.kinds" = some 4 := by kernel_rfl
theorem gKindsT : (Tryz.prog.globals[4]?).map (·.type) = some 201 := by kernel_rfl
/-- one row, read -/
theorem row_at {W : World} {fuel : Nat} {cs : List Value} {k : Nat} {p : List MemPlace} (h : DataW.trod (fun _ => ()) Tryz.prog W 0 (fun _ => true) false fuel 200 cs = some (rowD k, p)) :
    cs = [.string ⟨(Kit.wordK k).toArray⟩, .int .i64 (Kit.bytesK k), .int .i64 (Kit.bufsK k), .int .i64 (Kit.leastK k), .int .i64 (Kit.mostK k)] := by
  obtain ⟨xs, m, _, hd, hl, hxs, hf⟩ := DataW.trod_struct Tryz.underlying200 h
  rw [cells85] at hl
  obtain ⟨c0, c1, c2, c3, c4, rfl⟩ : ∃ c0 c1 c2 c3 c4, cs = [c0, c1, c2, c3, c4] := by
    match cs, hl with
    | [a, b, c, d, e], _ => exact ⟨a, b, c, d, e, rfl⟩
  obtain ⟨y0, y1, y2, y3, y4, rfl⟩ : ∃ y0 y1 y2 y3 y4, xs = [y0, y1, y2, y3, y4] := by
    match xs, (hxs.trans rfl : xs.length = 5) with
    | [a, b, c, d, e], _ => exact ⟨a, b, c, d, e, rfl⟩
  have f0 : DataW.trod (fun _ => ()) Tryz.prog W 0 (fun _ => true) false m 9 ((([c0, c1, c2, c3, c4] : List Value).drop 0).take (Tryz.prog.cellsOf 9)) = some y0 := hf 0 _ rfl
  have f1 : DataW.trod (fun _ => ()) Tryz.prog W 0 (fun _ => true) false m 3 ((([c0, c1, c2, c3, c4] : List Value).drop 1).take (Tryz.prog.cellsOf 3)) = some y1 := hf 1 _ rfl
  have f2 : DataW.trod (fun _ => ()) Tryz.prog W 0 (fun _ => true) false m 3 ((([c0, c1, c2, c3, c4] : List Value).drop 2).take (Tryz.prog.cellsOf 3)) = some y2 := hf 2 _ rfl
  have f3 : DataW.trod (fun _ => ()) Tryz.prog W 0 (fun _ => true) false m 3 ((([c0, c1, c2, c3, c4] : List Value).drop 3).take (Tryz.prog.cellsOf 3)) = some y3 := hf 3 _ rfl
  have f4 : DataW.trod (fun _ => ()) Tryz.prog W 0 (fun _ => true) false m 3 ((([c0, c1, c2, c3, c4] : List Value).drop 4).take (Tryz.prog.cellsOf 3)) = some y4 := hf 4 _ rfl
  rw [cells9] at f0
  rw [cells3] at f1 f2 f3 f4
  simp only [List.drop_zero, List.drop_succ_cons, List.take_succ_cons, List.take_zero] at f0 f1 f2 f3 f4
  obtain ⟨s, e0, g0, _⟩ := DataW.trod_string Tryz.underlying9 f0
  obtain ⟨k1, e1, g1, _⟩ := DataW.trod_int Tryz.underlying3 f1
  obtain ⟨k2, e2, g2, _⟩ := DataW.trod_int Tryz.underlying3 f2
  obtain ⟨k3, e3, g3, _⟩ := DataW.trod_int Tryz.underlying3 f3
  obtain ⟨k4, e4, g4, _⟩ := DataW.trod_int Tryz.underlying3 f4
  subst g0 g1 g2 g3 g4
  simp only [rowD, Prod.mk.injEq, DataW.agg.injEq, List.map_cons, List.map_nil, List.cons.injEq, DataW.lit.injEq, Lit.string.injEq, Lit.int.injEq, true_and, and_true] at hd
  obtain ⟨⟨h0, h1, h2, h3, h4⟩, _⟩ := hd
  simp only [List.cons.injEq, and_true] at e0 e1 e2 e3 e4
  rw [e0, e1, e2, e3, e4, h0, h1, h2, h3, h4]
/-- the table, as the rows list it -/
theorem table {W : World} {L : List (String × DataW Unit)} (h : laidMet Tryz.prog L W) (hm : ("colonnade/kind.kinds", Rows.laid_colonnade_kind_kinds) ∈ L) : Kit.Tab W := by
  obtain ⟨g', t', cs, fuel, p, hg', ht', hvar, hd⟩ := Lib.laidMet.reads h hm
  obtain rfl := Option.some.inj (gKinds.symm.trans hg')
  obtain rfl := Option.some.inj (gKindsT.symm.trans ht')
  rw [laid_rows] at hd
  obtain ⟨xs, m, _, he, hl, hx, hf⟩ := DataW.trod_array Tryz.underlying201 hd
  rw [cells86] at hl
  rw [cells85] at hf
  simp only [Prod.mk.injEq, DataW.agg.injEq] at he
  have hcell := fun i => World.var?_cell gKinds hvar i
  have hsz : cs.size = 105 := by simpa using hl
  refine ⟨?_, fun k hk => ?_⟩
  · have := hcell 0
    rw [Array.getElem?_eq_getElem (by omega)] at this
    have := block_lt_of_cell this
    exact this
  · have h1 := hf k hk
    rw [List.getElem?_eq_getElem (by omega)] at h1
    have h2 : (xs[k]'(by omega)).1 = rowD k := by
      have := congrArg (·[k]?) he.1
      simp only [List.getElem?_map, List.getElem?_range hk, Option.map_some] at this
      rw [List.getElem?_eq_getElem (by omega)] at this
      simpa using this.symm
    have h3 := row_at (k := k) (p := (xs[k]'(by omega)).2) (by rw [h1, ← h2])
    have h4 : ∀ j, j < 5 → cs[k * 5 + j]? = ([.string ⟨(Kit.wordK k).toArray⟩, .int .i64 (Kit.bytesK k), .int .i64 (Kit.bufsK k), .int .i64 (Kit.leastK k), .int .i64 (Kit.mostK k)] : List Value)[j]? := fun j hj => by
      rw [← h3, List.getElem?_take_of_lt hj, List.getElem?_drop, Array.getElem?_toList]
    exact ⟨(hcell _).trans (h4 0 (by decide)), (hcell _).trans (h4 1 (by decide)), (hcell _).trans (h4 2 (by decide)), (hcell _).trans (h4 3 (by decide)), (hcell _).trans (h4 4 (by decide))⟩
/-- the two tables of letters, as the rows list them -/
theorem utab {W : World} {L : List (String × DataW Unit)} (h : laidMet Tryz.prog L W) (h1 : ("unicode/utf8.first", Rows.laid_unicode_utf8_first) ∈ L) (h2 : ("unicode/utf8.acceptRanges", Rows.laid_unicode_utf8_acceptRanges) ∈ L) : Lib.Utf8Tabs 0 1 W :=
  utf8Tabs_of_readsT (U8Types.of196 Tryz.lays196) { n3 := by kernel_rfl, n4 := by kernel_rfl, y3 := by kernel_rfl, y4 := by kernel_rfl, c5 := by kernel_rfl, c119 := by kernel_rfl, c138 := by kernel_rfl }
    (by have := Lib.laidMet.reads h h1; rw [show Rows.laid_unicode_utf8_first = Lib.firstData by kernel_rfl] at this; exact this)
    (by have := Lib.laidMet.reads h h2; rw [show (Rows.laid_unicode_utf8_acceptRanges : DataW Unit) = Lib.acceptData by kernel_rfl] at this; exact this)
theorem cells4 : Tryz.prog.cellsOf 4 = 1 := by kernel_rfl
theorem cells24 : Tryz.prog.cellsOf 22 = 1 := by kernel_rfl
theorem cells35 : Tryz.prog.cellsOf 24 = 5 := by kernel_rfl
theorem cells37 : Tryz.prog.cellsOf 26 = 7 := by kernel_rfl

theorem one_le {H : Type} (d : DataW H) : 1 ≤ Rows.uptoBulk d := by
  cases d with
  | lit l => cases l <;> simp [Rows.uptoBulk]
  | nil => simp [Rows.uptoBulk]
  | ptr d => simp [Rows.uptoBulk]
  | slice elems spare => simp [Rows.uptoBulk]
  | agg parts => simp [Rows.uptoBulk]
  | iface t d => simp [Rows.uptoBulk]
  | map entries => simp [Rows.uptoBulk]
  | held h => simp [Rows.uptoBulk]
theorem part_le {H : Type} {d : DataW H} {l : List (DataW H)} (h : d ∈ l) : Rows.uptoBulk d ≤ Rows.uptoBulkAll l := by
  induction l with
  | nil => cases h
  | cons x r ih =>
    simp only [Rows.uptoBulkAll]
    rcases List.mem_cons.1 h with e | e
    · subst e; omega
    · have := ih e; omega
theorem length_le {H : Type} (l : List (DataW H)) : l.length ≤ Rows.uptoBulkAll l := by
  induction l with
  | nil => simp [Rows.uptoBulkAll]
  | cons x r ih => have := one_le x; simp only [Rows.uptoBulkAll, List.length_cons]; omega
theorem list3 {α : Type} (l : List α) (h : l.length = 3) : ∃ a b c, l = [a, b, c] := by
  match l, h with
  | [a, b, c], _ => exact ⟨a, b, c, rfl⟩
theorem list5 {α : Type} (l : List α) (h : l.length = 5) : ∃ a b c d e, l = [a, b, c, d, e] := by
  match l, h with
  | [a, b, c, d, e], _ => exact ⟨a, b, c, d, e, rfl⟩
theorem list7 {α : Type} (l : List α) (h : l.length = 7) : ∃ a b c d e f g, l = [a, b, c, d, e, f, g] := by
  match l, h with
  | [a, b, c, d, e, f, g], _ => exact ⟨a, b, c, d, e, f, g, rfl⟩

/-- a field, read: its parts -/
theorem field_at {H : Type} {enc : TypeId × Value → H} {W : World} {fuel : Nat} {cs : List Value} {d : DataW H} {p : List MemPlace} (hl : cs.length = 7)
    (h : DataW.trod enc Tryz.prog W 0 (fun _ => true) true fuel 26 cs = some (d, p)) :
    ∃ (nm : ByteArray) (nu : Bool) (k0 k1 k2 k3 : Int) (v : Value) (n : Nat) (dk : DataW H) (pk : List MemPlace), cs = [.string nm, .bool nu, .int .i64 k0, .int .i64 k1, .int .i64 k2, .int .i64 k3, v] ∧
      DataW.trod enc Tryz.prog W 0 (fun _ => true) true n 22 [v] = some (dk, pk) ∧ Rows.uptoBulk dk + 1 ≤ Rows.uptoBulk d := by
  obtain ⟨xs, m, _, hd, _, hxs, hf⟩ := DataW.trod_struct Tryz.underlying26 h
  obtain ⟨c0, c1, c2, c3, c4, c5, c6, rfl⟩ := list7 cs hl
  obtain ⟨y0, y1, y2, rfl⟩ := list3 xs (hxs.trans rfl)
  have f0 : DataW.trod enc Tryz.prog W 0 (fun _ => true) true m 9 ((([c0, c1, c2, c3, c4, c5, c6] : List Value).drop 0).take (Tryz.prog.cellsOf 9)) = some y0 := hf 0 _ rfl
  have f1 : DataW.trod enc Tryz.prog W 0 (fun _ => true) true m 4 ((([c0, c1, c2, c3, c4, c5, c6] : List Value).drop 1).take (Tryz.prog.cellsOf 4)) = some y1 := hf 1 _ rfl
  have f2 : DataW.trod enc Tryz.prog W 0 (fun _ => true) true m 24 ((([c0, c1, c2, c3, c4, c5, c6] : List Value).drop 2).take (Tryz.prog.cellsOf 24)) = some y2 := hf 2 _ rfl
  rw [cells9] at f0
  rw [cells4] at f1
  rw [cells35] at f2
  simp only [List.drop_zero, List.drop_succ_cons, List.take_succ_cons, List.take_zero] at f0 f1 f2
  obtain ⟨nm, e0, _⟩ := DataW.trod_string Tryz.underlying9 f0
  obtain ⟨nu, e1, _⟩ := DataW.trod_bool Tryz.underlying4 f1
  obtain ⟨zs, m2, _, hd2, _, hzs, hf2⟩ := DataW.trod_struct Tryz.underlying24 f2
  obtain ⟨z0, z1, z2, z3, z4, rfl⟩ := list5 zs (hzs.trans rfl)
  have t0 : DataW.trod enc Tryz.prog W 0 (fun _ => true) true m2 3 ((([c2, c3, c4, c5, c6] : List Value).drop 0).take (Tryz.prog.cellsOf 3)) = some z0 := hf2 0 _ rfl
  have t1 : DataW.trod enc Tryz.prog W 0 (fun _ => true) true m2 3 ((([c2, c3, c4, c5, c6] : List Value).drop 1).take (Tryz.prog.cellsOf 3)) = some z1 := hf2 1 _ rfl
  have t2 : DataW.trod enc Tryz.prog W 0 (fun _ => true) true m2 3 ((([c2, c3, c4, c5, c6] : List Value).drop 2).take (Tryz.prog.cellsOf 3)) = some z2 := hf2 2 _ rfl
  have t3 : DataW.trod enc Tryz.prog W 0 (fun _ => true) true m2 3 ((([c2, c3, c4, c5, c6] : List Value).drop 3).take (Tryz.prog.cellsOf 3)) = some z3 := hf2 3 _ rfl
  have t4 : DataW.trod enc Tryz.prog W 0 (fun _ => true) true m2 22 ((([c2, c3, c4, c5, c6] : List Value).drop 4).take (Tryz.prog.cellsOf 22)) = some z4 := hf2 4 _ rfl
  rw [cells3] at t0 t1 t2 t3
  rw [cells24] at t4
  simp only [List.drop_zero, List.drop_succ_cons, List.take_succ_cons, List.take_zero] at t0 t1 t2 t3 t4
  obtain ⟨k0, q0, _⟩ := DataW.trod_int Tryz.underlying3 t0
  obtain ⟨k1, q1, _⟩ := DataW.trod_int Tryz.underlying3 t1
  obtain ⟨k2, q2, _⟩ := DataW.trod_int Tryz.underlying3 t2
  obtain ⟨k3, q3, _⟩ := DataW.trod_int Tryz.underlying3 t3
  simp at e0 e1 q0 q1 q2 q3
  subst e0 e1 q0 q1 q2 q3
  simp only [Prod.mk.injEq] at hd
  refine ⟨nm, nu, k0, k1, k2, k3, c6, m2, z4.1, z4.2, rfl, t4, ?_⟩
  have hy2 : y2.1 = .agg ([z0, z1, z2, z3, z4].map fun x => x.1) := by rw [hd2]
  have h1 : Rows.uptoBulk z4.1 ≤ Rows.uptoBulkAll ([z0, z1, z2, z3, z4].map fun x => x.1) := part_le (List.mem_map_of_mem (by simp))
  have h2 : Rows.uptoBulk y2.1 ≤ Rows.uptoBulkAll ([y0, y1, y2].map fun x => x.1) := part_le (List.mem_map_of_mem (by simp))
  rw [hd.1]
  rw [hy2] at h2
  simp only [Rows.uptoBulk] at h2 ⊢
  omega
theorem add0 (b o i : Nat) : (⟨b, o, none⟩ : Addr).add i = ⟨b, o + i, none⟩ := by simp [Addr.add]
/-- a list of fields, read -/
theorem fields_at {H : Type} {enc : TypeId × Value → H} {W : World} (B : Nat) (hB : B ≤ 1048576) : ∀ {fuel : Nat} {v : Value} {d : DataW H} {p : List MemPlace},
    DataW.trod enc Tryz.prog W 0 (fun _ => true) true fuel 22 [v] = some (d, p) → Rows.uptoBulk d ≤ B → ∃ ao l ca, v = .slice ao l.length ca ∧ l.length ≤ ca ∧ Kit.RowAt (fun b => b < W.heap.size) W B ao l := by
  induction B with
  | zero => intro fuel v d p _ hb; have := one_le d; omega
  | succ B ih =>
    intro fuel v d p h hb
    rcases open_slice Tryz.underlying22 h with ⟨hcs, _⟩ | ⟨a, len, cap, m, n, D, Pl, hcs, _, hl, hm, hmm, hx, hc⟩
    · simp at hcs
      subst hcs
      exact ⟨none, [], 0, rfl, Nat.le_refl _, by simp [Kit.big], fun h => absurd rfl h⟩
    · simp at hcs
      subst hcs
      simp only [if_true] at hmm
      subst hmm
      simp only [Prod.mk.injEq] at hx
      have hb' : Rows.uptoBulkAll ((List.range len).map D) + 1 ≤ B + 1 := by
        rw [hx.1] at hb
        simp only [Rows.uptoBulk] at hb
        omega
      have hlen : len ≤ 1048576 := by
        have := length_le ((List.range len).map D)
        simp at this
        omega
      have hall : ∀ i, i < len → ∃ f : Kit.FT, ∃ ao' ca', W.cells? 0 (a.add (i * 7)) 7 = some [.string f.name, .bool f.nul, .int .i64 f.kind, .int .i64 f.width, .int .i64 f.id, .int .i64 f.index, .slice ao' f.kids.length ca'] ∧ f.kids.length ≤ ca' ∧ Kit.RowAt (fun b => b < W.heap.size) W B ao' f.kids := by
        intro i hi
        obtain ⟨cs', hc', ht⟩ := hc i (by omega)
        rw [cells37] at hc'
        obtain ⟨_, hl', _⟩ := World.cells?_some hc'
        obtain ⟨nm, nu, k0, k1, k2, k3, v, n', dk, pk, rfl, hk, hbk⟩ := field_at hl' ht
        have hbi := part_le (List.mem_map_of_mem (f := D) (List.mem_range.2 hi))
        obtain ⟨ao', l', ca', rfl, h1, h2⟩ := ih (by omega) hk (by omega)
        exact ⟨⟨nm, nu, k0, k1, k2, k3, l'⟩, ao', ca', hc', h1, h2⟩
      obtain ⟨F, hF⟩ := choose_lt hall
      refine ⟨some a, (List.range len).map F, m, by simp, by simp; omega, by simp [Kit.big]; omega, fun h0 => ?_⟩
      have h0' : 0 < len := by cases len with | zero => simp at h0 | succ n => omega
      obtain ⟨b, off, spot⟩ := a
      have hsp : spot = none := by
        obtain ⟨_, _, hc', _⟩ := hF 0 h0'
        obtain ⟨_, hl', hcell'⟩ := World.cells?_some hc'
        have g0 := hcell' 0 (by omega)
        have hsp := World.cell?_spot (g0.trans rfl)
        simp [Addr.add] at hsp
        exact hsp
      subst hsp
      have hblk : b < W.heap.size := by
        obtain ⟨_, _, hc', _⟩ := hF 0 h0'
        obtain ⟨_, hl', hcell'⟩ := World.cells?_some hc'
        have g0 := (hcell' 0 (by omega)).trans rfl
        rw [add0, add0] at g0
        exact block_lt_of_cell g0
      refine ⟨b, off, rfl, hblk, fun i hi => ?_⟩
      simp at hi
      obtain ⟨ao', ca', hc', h1, h2⟩ := hF i hi
      have he : ((List.range len).map F)[i]'(by simpa using hi) = F i := by simp
      rw [he]
      obtain ⟨_, _, hcell⟩ := World.cells?_some hc'
      rw [add0] at hcell
      have g0 := hcell 0 (by omega)
      have g1 := hcell 1 (by omega)
      have g2 := hcell 2 (by omega)
      have g3 := hcell 3 (by omega)
      have g4 := hcell 4 (by omega)
      have g5 := hcell 5 (by omega)
      have g6 := hcell 6 (by omega)
      simp only [add0, Nat.add_zero, List.getElem?_cons_zero, List.getElem?_cons_succ] at g0 g1 g2 g3 g4 g5 g6
      exact ⟨ao', ca', ⟨g0, g1, g2, g3, g4, g5, g6⟩, h1, h2⟩
theorem cells2 : Tryz.prog.cellsOf 2 = 1 := by kernel_rfl
theorem cells27v : Tryz.prog.cellsOf 27 = 1 := by kernel_rfl
theorem cells29v : Tryz.prog.cellsOf 29 = 4 := by kernel_rfl
theorem list4 {α : Type} (l : List α) (h : l.length = 4) : ∃ a b c d, l = [a, b, c, d] := by
  match l, h with
  | [a, b, c, d], _ => exact ⟨a, b, c, d, rfl⟩
/-- a value, read: its parts -/
theorem value_at {H : Type} {enc : TypeId × Value → H} {W : World} {fuel : Nat} {cs : List Value} {d : DataW H} {p : List MemPlace} (hl : cs.length = 4)
    (h : DataW.trod enc Tryz.prog W 0 (fun _ => true) true fuel 29 cs = some (d, p)) :
    ∃ (nu : Bool) (k : Int) (s : ByteArray) (v : Value) (n : Nat) (dk : DataW H) (pk : List MemPlace), cs = [.bool nu, .int .i64 k, .string s, v] ∧ Kit.is64 k ∧ s.size + 1 ≤ Rows.uptoBulk d ∧
      DataW.trod enc Tryz.prog W 0 (fun _ => true) true n 27 [v] = some (dk, pk) ∧ Rows.uptoBulk dk + 1 ≤ Rows.uptoBulk d := by
  obtain ⟨xs, m, _, hd, _, hxs, hf⟩ := DataW.trod_struct Tryz.underlying29 h
  obtain ⟨c0, c1, c2, c3, rfl⟩ := list4 cs hl
  obtain ⟨y0, y1, y2, y3, rfl⟩ := list4 xs (hxs.trans rfl)
  have f0 : DataW.trod enc Tryz.prog W 0 (fun _ => true) true m 4 ((([c0, c1, c2, c3] : List Value).drop 0).take (Tryz.prog.cellsOf 4)) = some y0 := hf 0 _ rfl
  have f1 : DataW.trod enc Tryz.prog W 0 (fun _ => true) true m 2 ((([c0, c1, c2, c3] : List Value).drop 1).take (Tryz.prog.cellsOf 2)) = some y1 := hf 1 _ rfl
  have f2 : DataW.trod enc Tryz.prog W 0 (fun _ => true) true m 9 ((([c0, c1, c2, c3] : List Value).drop 2).take (Tryz.prog.cellsOf 9)) = some y2 := hf 2 _ rfl
  have f3 : DataW.trod enc Tryz.prog W 0 (fun _ => true) true m 27 ((([c0, c1, c2, c3] : List Value).drop 3).take (Tryz.prog.cellsOf 27)) = some y3 := hf 3 _ rfl
  rw [cells4] at f0
  rw [cells2] at f1
  rw [cells9] at f2
  rw [cells27v] at f3
  simp only [List.drop_zero, List.drop_succ_cons, List.take_succ_cons, List.take_zero] at f0 f1 f2 f3
  obtain ⟨nu, e0, _⟩ := DataW.trod_bool Tryz.underlying4 f0
  obtain ⟨k, e1, _, hwf⟩ := DataW.trod_int Tryz.underlying2 f1
  obtain ⟨s, e2, g2, _⟩ := DataW.trod_string Tryz.underlying9 f2
  simp at e0 e1 e2
  subst e0 e1 e2
  simp only [Prod.mk.injEq] at hd
  have h3 : Rows.uptoBulk y3.1 ≤ Rows.uptoBulkAll ([y0, y1, y2, y3].map fun x => x.1) := part_le (List.mem_map_of_mem (by simp))
  have h2 : Rows.uptoBulk y2.1 ≤ Rows.uptoBulkAll ([y0, y1, y2, y3].map fun x => x.1) := part_le (List.mem_map_of_mem (by simp))
  have hs : Rows.uptoBulk y2.1 = s.size + 1 := by rw [g2]; rfl
  refine ⟨nu, k, s, c3, m, y3.1, y3.2, rfl, ?_, ?_, f3, ?_⟩
  · simp [Lit.wf, IntKind.min, IntKind.max, IntKind.signed, IntKind.bits] at hwf
    exact hwf
  · rw [hd.1]
    simp only [Rows.uptoBulk]
    omega
  · rw [hd.1]
    simp only [Rows.uptoBulk]
    omega
/-- a list of values, read -/
theorem values_at {H : Type} {enc : TypeId × Value → H} {W : World} (B : Nat) (hB : B ≤ 1048576) : ∀ {fuel : Nat} {v : Value} {d : DataW H} {p : List MemPlace},
    DataW.trod enc Tryz.prog W 0 (fun _ => true) true fuel 27 [v] = some (d, p) → Rows.uptoBulk d ≤ B → ∃ ao l ca, v = .slice ao l.length ca ∧ l.length ≤ ca ∧ Kit.VRow (fun b => b < W.heap.size) W B ao l := by
  induction B with
  | zero => intro fuel v d p _ hb; have := one_le d; omega
  | succ B ih =>
    intro fuel v d p h hb
    rcases open_slice Tryz.underlying27 h with ⟨hcs, _⟩ | ⟨a, len, cap, m, n, D, Pl, hcs, _, hl, hm, hmm, hx, hc⟩
    · simp at hcs
      subst hcs
      exact ⟨none, [], 0, rfl, Nat.le_refl _, by simp [Kit.big], fun h => absurd rfl h⟩
    · simp at hcs
      subst hcs
      simp only [if_true] at hmm
      subst hmm
      simp only [Prod.mk.injEq] at hx
      have hb' : Rows.uptoBulkAll ((List.range len).map D) + 1 ≤ B + 1 := by
        rw [hx.1] at hb
        simp only [Rows.uptoBulk] at hb
        omega
      have hlen : len ≤ 1048576 := by
        have := length_le ((List.range len).map D)
        simp at this
        omega
      have hall : ∀ i, i < len → ∃ f : Kit.VT, ∃ ao' ca', W.cells? 0 (a.add (i * 4)) 4 = some [.bool f.nul, .int .i64 f.num, .string f.text, .slice ao' f.list.length ca'] ∧ f.list.length ≤ ca' ∧ Kit.VOk f ∧ Kit.VRow (fun b => b < W.heap.size) W B ao' f.list := by
        intro i hi
        obtain ⟨cs', hc', ht⟩ := hc i (by omega)
        rw [cells29v] at hc'
        obtain ⟨_, hl', _⟩ := World.cells?_some hc'
        obtain ⟨nu, k, s, v, n', dk, pk, rfl, h64, hsz, hk, hbk⟩ := value_at hl' ht
        have hbi := part_le (List.mem_map_of_mem (f := D) (List.mem_range.2 hi))
        obtain ⟨ao', l', ca', rfl, h1, h2⟩ := ih (by omega) hk (by omega)
        exact ⟨.mk nu k s l', ao', ca', hc', h1, ⟨h64, show s.size ≤ 1000000000000 by omega⟩, h2⟩
      obtain ⟨F, hF⟩ := choose_lt hall
      refine ⟨some a, (List.range len).map F, m, by simp, by simp; omega, by simp [Kit.big]; omega, fun h0 => ?_⟩
      have h0' : 0 < len := by cases len with | zero => simp at h0 | succ n => omega
      obtain ⟨b, off, spot⟩ := a
      have hsp : spot = none := by
        obtain ⟨_, _, hc', _⟩ := hF 0 h0'
        obtain ⟨_, hl', hcell'⟩ := World.cells?_some hc'
        have g0 := hcell' 0 (by omega)
        have hsp := World.cell?_spot (g0.trans rfl)
        simp [Addr.add] at hsp
        exact hsp
      subst hsp
      have hblk : b < W.heap.size := by
        obtain ⟨_, _, hc', _⟩ := hF 0 h0'
        obtain ⟨_, hl', hcell'⟩ := World.cells?_some hc'
        have g0 := (hcell' 0 (by omega)).trans rfl
        rw [add0, add0] at g0
        exact block_lt_of_cell g0
      refine ⟨b, off, rfl, hblk, fun i hi => ?_⟩
      simp at hi
      obtain ⟨ao', ca', hc', h1, h3, h2⟩ := hF i hi
      have he : ((List.range len).map F)[i]'(by simpa using hi) = F i := by simp
      rw [he]
      obtain ⟨_, _, hcell⟩ := World.cells?_some hc'
      rw [add0] at hcell
      have g0 := hcell 0 (by omega)
      have g1 := hcell 1 (by omega)
      have g2 := hcell 2 (by omega)
      have g3 := hcell 3 (by omega)
      simp only [add0, Nat.add_zero, List.getElem?_cons_zero, List.getElem?_cons_succ] at g0 g1 g2 g3
      exact ⟨ao', ca', ⟨g0, g1, g2, g3⟩, h1, h3, h2⟩
/-! the library's other tables -/
theorem tab_is {W : World} {L : List (String × DataW Unit)} {name : String} {k : IntKind} {zs : List Int} {g : Nat} {t e : TypeId} {n : Nat} (hg : Tryz.prog.globalNamed name = some g) (hty : (Tryz.prog.globals[g]?).map (·.type) = some t) (ht : Tryz.prog.underlying t = some (.array n e)) (he : Tryz.prog.underlying e = some (.int k)) (hce : Tryz.prog.cellsOf e = 1) (hct : Tryz.prog.cellsOf t = n)
    (h : laidMet Tryz.prog L W) (hm : (name, Lib.tabData k zs) ∈ L) : Lib.TabIs Tryz.prog W name k zs := by
  obtain ⟨g', t', cs, fuel, p, hg', ht', hvar, hd⟩ := Lib.laidMet.reads h hm
  obtain rfl := Option.some.inj (hg.symm.trans hg')
  obtain rfl := Option.some.inj (hty.symm.trans ht')
  unfold Lib.TabIs
  rw [hvar, ← Lib.cells_of_tab ht he hce hct hd]
theorem iface_cell {W : World} {fuel : Nat} {t : TypeId} {ms : _} {cs : List Value} {name : String} {d : DataW Unit} {p : List MemPlace} (ht : Tryz.prog.underlying t = some (.interface ms)) (h : DataW.trod (fun _ => ()) Tryz.prog W 0 (fun _ => true) false fuel t cs = some (.iface name d, p)) : ∃ u v, cs = [.iface u v] := by
  cases fuel with
  | zero => simp [DataW.trod] at h
  | succ fuel =>
    rcases cs with _ | ⟨c, _ | ⟨c2, cs⟩⟩
    · simp [DataW.trod, ht] at h
    · cases c <;> first | (simp [DataW.trod, ht] at h; done) | exact ⟨_, _, rfl⟩
    · cases c <;> simp [DataW.trod, ht] at h
theorem err_cell {W : World} {L : List (String × DataW Unit)} {name nm : String} {d : DataW Unit} {g : Nat} {t : TypeId} {ms : _} (hg : Tryz.prog.globalNamed name = some g) (hty : (Tryz.prog.globals[g]?).map (·.type) = some t) (ht : Tryz.prog.underlying t = some (.interface ms)) (h : laidMet Tryz.prog L W) (hm : (name, .iface nm d) ∈ L) : ∃ te pe, W.cell? ⟨g, 0, none⟩ = some (.iface te pe) := by
  obtain ⟨g', t', cs, fuel, p, hg', ht', hvar, hd⟩ := Lib.laidMet.reads h hm
  obtain rfl := Option.some.inj (hg.symm.trans hg')
  obtain rfl := Option.some.inj (hty.symm.trans ht')
  obtain ⟨u, v, e⟩ := iface_cell ht hd
  have := World.var?_cell hg hvar 0
  rw [← Array.getElem?_toList, e] at this
  exact ⟨u, v, this⟩
theorem tbs {W : World} {L : List (String × DataW Unit)} (h : laidMet Tryz.prog L W) (h1 : ("internal/strconv.uint64pow10", Rows.laid_internal_strconv_uint64pow10) ∈ L) (h2 : ("math/bits.deBruijn64tab", Rows.laid_math_bits_deBruijn64tab) ∈ L) (h3 : ("strconv.ErrSyntax", Rows.laid_strconv_ErrSyntax) ∈ L) (h4 : ("strconv.ErrRange", Rows.laid_strconv_ErrRange) ∈ L) : Kit.Tbs W := by
  refine ⟨?_, fun j hj => ?_, ?_, ?_⟩
  · exact tab_is (g := 2) (by kernel_rfl) (by kernel_rfl) Tryz.underlying187 (by kernel_rfl) (by kernel_rfl) (by kernel_rfl) h (by rw [show (Lib.tabData .u64 Lib.pow10Tab : DataW Unit) = Rows.laid_internal_strconv_uint64pow10 by kernel_rfl]; exact h1)
  · have ht := tab_is (g := 3) (k := .u8) (zs := Lib.deBruijn64tab.map fun n : Nat => (n : Int)) (by kernel_rfl) (by kernel_rfl) Tryz.underlying190 (by kernel_rfl) (by kernel_rfl) (by kernel_rfl) h (by rw [show (Lib.tabData .u8 (Lib.deBruijn64tab.map fun n : Nat => (n : Int)) : DataW Unit) = Rows.laid_math_bits_deBruijn64tab by kernel_rfl]; exact h2)
    have := ht.cell (g := 3) (by kernel_rfl) j (by simpa using hj)
    rw [this]
    simp [List.getD, hj]
  · exact err_cell (g := 6) (by kernel_rfl) (by kernel_rfl) Tryz.underlying147 h h3
  · exact err_cell (g := 7) (by kernel_rfl) (by kernel_rfl) Tryz.underlying147 h h4
theorem nine {W : World} (h : Kit.Tbs W) (h8 : W.var? Tryz.prog "math/bits.deBruijn32tab" ≠ none) : 9 ≤ W.heap.size := by
  unfold World.var? at h8
  rw [show Tryz.prog.globalNamed "math/bits.deBruijn32tab" = some 8 by kernel_rfl] at h8
  rcases Nat.lt_or_ge 8 W.heap.size with h' | h'
  · omega
  · simp [Array.getElem?_eq_none h'] at h8
theorem var8 {W : World} {L : List (String × DataW Unit)} (h : laidMet Tryz.prog L W) (h1 : ("math/bits.deBruijn32tab", Rows.laid_math_bits_deBruijn32tab) ∈ L) : W.var? Tryz.prog "math/bits.deBruijn32tab" ≠ none := by
  obtain ⟨g', t', cs, fuel, p, hg', ht', hvar, hd⟩ := Lib.laidMet.reads h h1
  rw [hvar]
  simp
end Go.Proofs.YtfoifmacobldbaaGreatDoor.kindR
namespace Go.Proofs.YtfoifmacobldbaaGreatDoor.Kit
open Go.RowKit Go.Shelf Go.Deep Go.Sort Go.Lib
set_option linter.unusedVariables false
set_option linter.unusedSimpArgs false
/-! ### FormatUint, base 10 -/
theorem uint115 (u : Nat) (hu64 : u < 18446744073709551616) (w : World) (hT : Tbs w) :
    Calls Tryz.prog 115 #[.int .u64 u, .int .i64 10] w fun e w' => e = .returned (.string ⟨(Lib.decDigits u).toArray⟩) ∧ Gr w w' := by
  by_cases hs : u < 100
  · have hsI : (u : Int) < 100 := by omega
    go_enter Tryz.func115, Tryz.ntmps115
    go_wp2_with (go_at_call 134; refine (Tryz.internal_strconv_small u hs _).mono ?_; rintro e w' ⟨rfl, rfl⟩)
    go_ret
    exact ⟨rfl, Keeps.refl _ _⟩
  · have hu1 : 1 ≤ u := by omega
    have hsI : ¬ (u : Int) < 100 := by omega
    have hnd20 : Lib.nDigits u ≤ 20 := by have := Lib.numDigits_eq u hu1 hu64; split at this <;> omega
    have htab := hT.pow
    have hal : Tryz.prog.arrayLen 172 = 24 := by kernel_rfl
    have hsl1 : ∀ W, (Instr.sliceAt 172 (.pointer (some ⟨w.heap.size, 0, none⟩)) none (some (.int .i64 (Lib.nDigits u : Int))) none).run Tryz.prog W = .ok (.slice (some ⟨w.heap.size, 0, none⟩) (Lib.nDigits u) 24) W := fun W => by
      rw [run_sliceAt_array_h W 172 ⟨w.heap.size, 0, none⟩ (by kernel_rfl) .i64 (Lib.nDigits u : Int) (by omega) (by rw [hal]; omega)]
      go_simp
    have hH0 : Holds (fun (b : UInt8) => Value.int .u8 (b.toNat : Int)) (w.alloc (.cells Lib.zeros24 172)) w.heap.size 0 (Array.replicate (Lib.nDigits u) 0) := by
      intro j hj
      have hj' : j < Lib.nDigits u := by simpa using hj
      refine ⟨?_, World.frozen?_alloc_new _ _ _ _⟩
      rw [World.cell?_alloc_new, zeros24_at _ (by omega), getElem!_pos _ j hj]
      simp
    have hfmt := Tryz.internal_strconv_formatBase10 w.heap.size 0 24 u (Array.replicate (Lib.nDigits u) 0) (w.alloc (.cells Lib.zeros24 172)) hH0 (by rw [Array.size_replicate]; exact Lib.lt_pow_nDigits u) hu64 (by rw [Array.size_replicate]; omega)
    rw [Array.size_replicate] at hfmt
    have HH0 := Lib.hid hH0
    clear hH0 hal
    go_enter Tryz.func115, Tryz.ntmps115
    go_wp2_with (go_at_call 135; refine (Tryz.internal_strconv_numDigits u hu1 hu64 _ (Lib.tabIs_alloc htab _)).mono ?_; rintro e w' ⟨rfl, rfl⟩)
    go_at_call 136
    refine hfmt.mono ?_
    rintro e w' ⟨rfl, k, v', dk, rfl, hF⟩
    have hcv : (convert 52 9 (.slice (some ⟨w.heap.size, 0, none⟩) (Lib.nDigits u) 24)).run Tryz.prog ((putRow (fun (b : UInt8) => Value.int .u8 (b.toNat : Int)) (w.alloc (.cells Lib.zeros24 172)) w.heap.size 0 dk).drewN k) = .ok (.string ⟨(Lib.decDigits u).toArray⟩) ((putRow (fun (b : UInt8) => Value.int .u8 (b.toNat : Int)) (w.alloc (.cells Lib.zeros24 172)) w.heap.size 0 dk).drewN k) := by
      have h := run_convert_bytes_back (P := Tryz.prog) ((putRow (fun (b : UInt8) => Value.int .u8 (b.toNat : Int)) (w.alloc (.cells Lib.zeros24 172)) w.heap.size 0 dk).drewN k) 52 9 5 ⟨w.heap.size, 0, none⟩ 24 (Lib.decDigits u) Tryz.underlying52 Tryz.underlying5 Tryz.underlying9 (fun j hj => by
        rw [Lib.row_is_numeral hF j hj, Lib.add_plain, World.cell?_drewN]
        exact cell?_putRow (fun (b : UInt8) => Value.int .u8 (b.toNat : Int)) _ w.heap.size 0 _ dk HH0.out (by rw [hF.size, Array.size_replicate]) j (by rw [hF.size]; rw [Lib.decDigits_length] at hj; exact hj))
      rw [Lib.decDigits_length] at h
      exact h
    go_wp2
    go_ret
    refine ⟨rfl, ?_⟩
    rw [alloc_eq_grow]
    obtain ⟨os', _, e⟩ := putRow_grow_new (fun (b : UInt8) => Value.int .u8 (b.toNat : Int)) w #[.cells Lib.zeros24 172] w.heap.size 0 dk (Nat.le_refl _)
    rw [e]
    exact gr_grow
theorem uint78 (u : Nat) (hu64 : u < 18446744073709551616) (w : World) (hT : Tbs w) :
    Calls Tryz.prog 78 #[.int .u64 u, .int .i64 10] w fun e w' => e = .returned (.string ⟨(Lib.decDigits u).toArray⟩) ∧ Gr w w' := by
  have HC := hidM (uint115 u hu64 w hT)
  generalize (⟨(Lib.decDigits u).toArray⟩ : ByteArray) = s at HC ⊢
  go_enter Tryz.func78, Tryz.ntmps78
  go_wp2_with (go_at_call 115; refine HC.out.mono ?_; rintro e w' ⟨rfl, hg⟩)
  go_ret
  exact ⟨rfl, hg⟩
end Go.Proofs.YtfoifmacobldbaaGreatDoor.Kit
