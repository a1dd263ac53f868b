import Derived.Test.YtjdojbbjbippoaaDoorRows
import Derived.Test.YtjdojbbjbippoaaDoorLQ
import Derived.Test.YtjdojbbjbippoaaDoorNT
import Derived.ProofKit
import Derived.OpenShut
import Derived.ChangeOld
import Derived.Below
import Derived.Deep.Slices
import Derived.Deep.DeepHandedRow
namespace Go.Proofs.YtjdojbbjbippoaaDoor.kindR
open Go.ChangeShapes Go.WideShapes Go.ChangeAt Go.RowKit Go.Deep
open Go.Proofs.YtjdojbbjbippoaaDoor
set_option linter.unusedVariables false

theorem cells4 : Tryd.prog.cellsOf 4 = 1 := by kernel_rfl
theorem cells24 : Tryd.prog.cellsOf 22 = 1 := by kernel_rfl
theorem cells25 : Tryd.prog.cellsOf 23 = 1 := by kernel_rfl
theorem cells27 : Tryd.prog.cellsOf 25 = 2 := by kernel_rfl
theorem cells35 : Tryd.prog.cellsOf 36 = 5 := by kernel_rfl
theorem cells37 : Tryd.prog.cellsOf 38 = 7 := by kernel_rfl
theorem cells76 : Tryd.prog.cellsOf 79 = 2 := by kernel_rfl

theorem one_le {H : Type} (d : DataW H) : 1 ≤ Rows.uptoBulk d := by
  cases d with
  | lit l => cases l <;> simp [Rows.uptoBulk]
  | nil => simp [Rows.uptoBulk]
  | ptr d => simp [Rows.uptoBulk]
  | slice elems spare => simp [Rows.uptoBulk]
  | agg parts => simp [Rows.uptoBulk]
  | iface t d => simp [Rows.uptoBulk]
  | map entries => simp [Rows.uptoBulk]
  | held h => simp [Rows.uptoBulk]
theorem part_le {H : Type} {d : DataW H} {l : List (DataW H)} (h : d ∈ l) : Rows.uptoBulk d ≤ Rows.uptoBulkAll l := by
  induction l with
  | nil => cases h
  | cons x r ih =>
    simp only [Rows.uptoBulkAll]
    rcases List.mem_cons.1 h with e | e
    · subst e; omega
    · have := ih e; omega
theorem length_le {H : Type} (l : List (DataW H)) : l.length ≤ Rows.uptoBulkAll l := by
  induction l with
  | nil => simp [Rows.uptoBulkAll]
  | cons x r ih => have := one_le x; simp only [Rows.uptoBulkAll, List.length_cons]; omega
theorem list3 {α : Type} (l : List α) (h : l.length = 3) : ∃ a b c, l = [a, b, c] := by
  match l, h with
  | [a, b, c], _ => exact ⟨a, b, c, rfl⟩
theorem list5 {α : Type} (l : List α) (h : l.length = 5) : ∃ a b c d e, l = [a, b, c, d, e] := by
  match l, h with
  | [a, b, c, d, e], _ => exact ⟨a, b, c, d, e, rfl⟩
theorem list7 {α : Type} (l : List α) (h : l.length = 7) : ∃ a b c d e f g, l = [a, b, c, d, e, f, g] := by
  match l, h with
  | [a, b, c, d, e, f, g], _ => exact ⟨a, b, c, d, e, f, g, rfl⟩

set_option maxRecDepth 100000 in
/-- a field, read: its parts -/
theorem field_at {H : Type} {enc : TypeId × Value → H} {W : World} {fuel : Nat} {cs : List Value} {d : DataW H} {p : List MemPlace} (hl : cs.length = 7)
    (h : DataW.trod enc Tryd.prog W 0 (fun _ => true) true fuel 38 cs = some (d, p)) :
    ∃ (nm : ByteArray) (nu : Bool) (k0 k1 k2 k3 : Int) (v : Value) (n : Nat) (dk : DataW H) (pk : List MemPlace), cs = [.string nm, .bool nu, .int .i64 k0, .int .i64 k1, .int .i64 k2, .int .i64 k3, v] ∧
      DataW.trod enc Tryd.prog W 0 (fun _ => true) true n 22 [v] = some (dk, pk) ∧ Rows.uptoBulk dk + 1 ≤ Rows.uptoBulk d := by
  obtain ⟨xs, m, _, hd, _, hxs, hf⟩ := DataW.trod_struct Tryd.underlying38 h
  obtain ⟨c0, c1, c2, c3, c4, c5, c6, rfl⟩ := list7 cs hl
  obtain ⟨y0, y1, y2, rfl⟩ := list3 xs (hxs.trans rfl)
  have f0 : DataW.trod enc Tryd.prog W 0 (fun _ => true) true m 9 ((([c0, c1, c2, c3, c4, c5, c6] : List Value).drop 0).take (Tryd.prog.cellsOf 9)) = some y0 := hf 0 _ rfl
  have f1 : DataW.trod enc Tryd.prog W 0 (fun _ => true) true m 4 ((([c0, c1, c2, c3, c4, c5, c6] : List Value).drop 1).take (Tryd.prog.cellsOf 4)) = some y1 := hf 1 _ rfl
  have f2 : DataW.trod enc Tryd.prog W 0 (fun _ => true) true m 36 ((([c0, c1, c2, c3, c4, c5, c6] : List Value).drop 2).take (Tryd.prog.cellsOf 36)) = some y2 := hf 2 _ rfl
  rw [cells9] at f0
  rw [cells4] at f1
  rw [cells35] at f2
  simp only [List.drop_zero, List.drop_succ_cons, List.take_succ_cons, List.take_zero] at f0 f1 f2
  obtain ⟨nm, e0, _⟩ := DataW.trod_string Tryd.underlying9 f0
  obtain ⟨nu, e1, _⟩ := DataW.trod_bool Tryd.underlying4 f1
  obtain ⟨zs, m2, _, hd2, _, hzs, hf2⟩ := DataW.trod_struct Tryd.underlying36 f2
  obtain ⟨z0, z1, z2, z3, z4, rfl⟩ := list5 zs (hzs.trans rfl)
  have t0 : DataW.trod enc Tryd.prog W 0 (fun _ => true) true m2 3 ((([c2, c3, c4, c5, c6] : List Value).drop 0).take (Tryd.prog.cellsOf 3)) = some z0 := hf2 0 _ rfl
  have t1 : DataW.trod enc Tryd.prog W 0 (fun _ => true) true m2 3 ((([c2, c3, c4, c5, c6] : List Value).drop 1).take (Tryd.prog.cellsOf 3)) = some z1 := hf2 1 _ rfl
  have t2 : DataW.trod enc Tryd.prog W 0 (fun _ => true) true m2 3 ((([c2, c3, c4, c5, c6] : List Value).drop 2).take (Tryd.prog.cellsOf 3)) = some z2 := hf2 2 _ rfl
  have t3 : DataW.trod enc Tryd.prog W 0 (fun _ => true) true m2 3 ((([c2, c3, c4, c5, c6] : List Value).drop 3).take (Tryd.prog.cellsOf 3)) = some z3 := hf2 3 _ rfl
  have t4 : DataW.trod enc Tryd.prog W 0 (fun _ => true) true m2 22 ((([c2, c3, c4, c5, c6] : List Value).drop 4).take (Tryd.prog.cellsOf 22)) = some z4 := hf2 4 _ rfl
  rw [cells3] at t0 t1 t2 t3
  rw [cells24] at t4
  simp only [List.drop_zero, List.drop_succ_cons, List.take_succ_cons, List.take_zero] at t0 t1 t2 t3 t4
  obtain ⟨k0, q0, _⟩ := DataW.trod_int Tryd.underlying3 t0
  obtain ⟨k1, q1, _⟩ := DataW.trod_int Tryd.underlying3 t1
  obtain ⟨k2, q2, _⟩ := DataW.trod_int Tryd.underlying3 t2
  obtain ⟨k3, q3, _⟩ := DataW.trod_int Tryd.underlying3 t3
  simp at e0 e1 q0 q1 q2 q3
  subst e0 e1 q0 q1 q2 q3
  simp only [Prod.mk.injEq] at hd
  refine ⟨nm, nu, k0, k1, k2, k3, c6, m2, z4.1, z4.2, rfl, t4, ?_⟩
  have hy2 : y2.1 = .agg ([z0, z1, z2, z3, z4].map fun x => x.1) := by rw [hd2]
  have h1 : Rows.uptoBulk z4.1 ≤ Rows.uptoBulkAll ([z0, z1, z2, z3, z4].map fun x => x.1) := part_le (List.mem_map_of_mem (by simp))
  have h2 : Rows.uptoBulk y2.1 ≤ Rows.uptoBulkAll ([y0, y1, y2].map fun x => x.1) := part_le (List.mem_map_of_mem (by simp))
  rw [hd.1]
  rw [hy2] at h2
  simp only [Rows.uptoBulk] at h2 ⊢
  omega
theorem add0 (b o i : Nat) : (⟨b, o, none⟩ : Addr).add i = ⟨b, o + i, none⟩ := by simp [Addr.add]
set_option maxRecDepth 100000 in
/-- a list of fields, read -/
theorem fields_at {H : Type} {enc : TypeId × Value → H} {W : World} (B : Nat) (hB : B ≤ 1048576) : ∀ {fuel : Nat} {v : Value} {d : DataW H} {p : List MemPlace},
    DataW.trod enc Tryd.prog W 0 (fun _ => true) true fuel 22 [v] = some (d, p) → Rows.uptoBulk d ≤ B → ∃ ao l ca, v = .slice ao l.length ca ∧ l.length ≤ ca ∧ Kit.RowAt (fun b => b < W.heap.size) W B ao l := by
  induction B with
  | zero => intro fuel v d p _ hb; have := one_le d; omega
  | succ B ih =>
    intro fuel v d p h hb
    rcases open_slice Tryd.underlying22 h with ⟨hcs, _⟩ | ⟨a, len, cap, m, n, D, Pl, hcs, _, hl, hm, hmm, hx, hc⟩
    · simp at hcs
      subst hcs
      exact ⟨none, [], 0, rfl, Nat.le_refl _, by simp [Kit.big], fun h => absurd rfl h⟩
    · simp at hcs
      subst hcs
      simp only [if_true] at hmm
      subst hmm
      simp only [Prod.mk.injEq] at hx
      have hb' : Rows.uptoBulkAll ((List.range len).map D) + 1 ≤ B + 1 := by
        rw [hx.1] at hb
        simp only [Rows.uptoBulk] at hb
        omega
      have hlen : len ≤ 1048576 := by
        have := length_le ((List.range len).map D)
        simp at this
        omega
      have hall : ∀ i, i < len → ∃ f : Kit.FT, ∃ ao' ca', W.cells? 0 (a.add (i * 7)) 7 = some [.string f.name, .bool f.nul, .int .i64 f.kind, .int .i64 f.width, .int .i64 f.id, .int .i64 f.index, .slice ao' f.kids.length ca'] ∧ f.kids.length ≤ ca' ∧ Kit.RowAt (fun b => b < W.heap.size) W B ao' f.kids := by
        intro i hi
        obtain ⟨cs', hc', ht⟩ := hc i (by omega)
        rw [cells37] at hc'
        obtain ⟨_, hl', _⟩ := World.cells?_some hc'
        obtain ⟨nm, nu, k0, k1, k2, k3, v, n', dk, pk, rfl, hk, hbk⟩ := field_at hl' ht
        have hbi := part_le (List.mem_map_of_mem (f := D) (List.mem_range.2 hi))
        obtain ⟨ao', l', ca', rfl, h1, h2⟩ := ih (by omega) hk (by omega)
        exact ⟨⟨nm, nu, k0, k1, k2, k3, l'⟩, ao', ca', hc', h1, h2⟩
      obtain ⟨F, hF⟩ := choose_lt hall
      refine ⟨some a, (List.range len).map F, m, by simp, by simp; omega, by simp [Kit.big]; omega, fun h0 => ?_⟩
      have h0' : 0 < len := by cases len with | zero => simp at h0 | succ n => omega
      obtain ⟨b, off, spot⟩ := a
      have hsp : spot = none := by
        obtain ⟨_, _, hc', _⟩ := hF 0 h0'
        obtain ⟨_, hl', hcell'⟩ := World.cells?_some hc'
        have g0 := hcell' 0 (by omega)
        have hsp := World.cell?_spot (g0.trans rfl)
        simp [Addr.add] at hsp
        exact hsp
      subst hsp
      have hblk : b < W.heap.size := by
        obtain ⟨_, _, hc', _⟩ := hF 0 h0'
        obtain ⟨_, hl', hcell'⟩ := World.cells?_some hc'
        have g0 := (hcell' 0 (by omega)).trans rfl
        rw [add0, add0] at g0
        exact block_lt_of_cell g0
      refine ⟨b, off, rfl, hblk, fun i hi => ?_⟩
      simp at hi
      obtain ⟨ao', ca', hc', h1, h2⟩ := hF i hi
      have he : ((List.range len).map F)[i]'(by simpa using hi) = F i := by simp
      rw [he]
      obtain ⟨_, _, hcell⟩ := World.cells?_some hc'
      rw [add0] at hcell
      have g0 := hcell 0 (by omega)
      have g1 := hcell 1 (by omega)
      have g2 := hcell 2 (by omega)
      have g3 := hcell 3 (by omega)
      have g4 := hcell 4 (by omega)
      have g5 := hcell 5 (by omega)
      have g6 := hcell 6 (by omega)
      simp only [add0, Nat.add_zero, List.getElem?_cons_zero, List.getElem?_cons_succ] at g0 g1 g2 g3 g4 g5 g6
      exact ⟨ao', ca', ⟨g0, g1, g2, g3, g4, g5, g6⟩, h1, h2⟩
theorem list2 {α : Type} (l : List α) (h : l.length = 2) : ∃ a b, l = [a, b] := by
  match l, h with
  | [a, b], _ => exact ⟨a, b, rfl⟩
set_option maxRecDepth 100000 in
/-- notes, read -/
theorem notes_at {H : Type} {enc : TypeId × Value → H} {W : World} {fuel : Nat} {v : Value} {d : DataW H} {p : List MemPlace}
    (h : DataW.trod enc Tryd.prog W 0 (fun _ => true) true fuel 23 [v] = some (d, p)) (hb : Rows.uptoBulk d ≤ 1048576) : ∃ ao l ca, v = .slice ao l.length ca ∧ Kit.NotesAt W ao l := by
  rcases open_slice Tryd.underlying23 h with ⟨hcs, _⟩ | ⟨a, len, cap, m, n, D, Pl, hcs, _, hl, hm, hmm, hx, hc⟩
  · simp at hcs
    subst hcs
    exact ⟨none, [], 0, rfl, by simp [Kit.big], fun h => absurd rfl h⟩
  · simp at hcs
    subst hcs
    simp only [if_true] at hmm
    subst hmm
    simp only [Prod.mk.injEq] at hx
    have hlen : len ≤ 1048576 := by
      rw [hx.1] at hb
      simp only [Rows.uptoBulk] at hb
      have := length_le ((List.range len).map D)
      simp at this
      omega
    have hall : ∀ i, i < len → ∃ q : ByteArray × ByteArray, W.cells? 0 (a.add (i * 2)) 2 = some [.string q.1, .string q.2] := by
      intro i hi
      obtain ⟨cs', hc', ht⟩ := hc i (by omega)
      rw [cells76] at hc'
      obtain ⟨_, hl', _⟩ := World.cells?_some hc'
      obtain ⟨xs, m2, _, _, _, hxs, hf⟩ := DataW.trod_struct Tryd.underlying79 ht
      obtain ⟨c0, c1, rfl⟩ := list2 cs' hl'
      obtain ⟨y0, y1, rfl⟩ := list2 xs (hxs.trans rfl)
      have f0 : DataW.trod enc Tryd.prog W 0 (fun _ => true) true m2 9 ((([c0, c1] : List Value).drop 0).take (Tryd.prog.cellsOf 9)) = some y0 := hf 0 _ rfl
      have f1 : DataW.trod enc Tryd.prog W 0 (fun _ => true) true m2 9 ((([c0, c1] : List Value).drop 1).take (Tryd.prog.cellsOf 9)) = some y1 := hf 1 _ rfl
      rw [cells9] at f0 f1
      simp only [List.drop_zero, List.drop_succ_cons, List.take_succ_cons, List.take_zero] at f0 f1
      obtain ⟨s0, e0, _⟩ := DataW.trod_string Tryd.underlying9 f0
      obtain ⟨s1, e1, _⟩ := DataW.trod_string Tryd.underlying9 f1
      simp at e0 e1
      subst e0 e1
      exact ⟨(s0, s1), hc'⟩
    have : Inhabited (ByteArray × ByteArray) := ⟨(⟨#[]⟩, ⟨#[]⟩)⟩
    obtain ⟨F, hF⟩ := choose_lt hall
    refine ⟨some a, (List.range len).map F, m, by simp, by simp [Kit.big]; omega, fun h0 => ?_⟩
    have h0' : 0 < len := by cases len with | zero => simp at h0 | succ n => omega
    obtain ⟨b, off, spot⟩ := a
    have hsp : spot = none := by
      obtain ⟨_, hl', hcell'⟩ := World.cells?_some (hF 0 h0')
      have g0 := hcell' 0 (by omega)
      have hsp := World.cell?_spot (g0.trans rfl)
      simp [Addr.add] at hsp
      exact hsp
    subst hsp
    refine ⟨b, off, rfl, fun i hi => ?_⟩
    simp at hi
    have he : ((List.range len).map F)[i]'(by simpa using hi) = F i := by simp
    rw [he]
    obtain ⟨_, _, hcell⟩ := World.cells?_some (hF i hi)
    rw [add0] at hcell
    have g0 := hcell 0 (by omega)
    have g1 := hcell 1 (by omega)
    simp only [add0, Nat.add_zero, List.getElem?_cons_zero, List.getElem?_cons_succ] at g0 g1
    exact ⟨g0, g1⟩
end Go.Proofs.YtjdojbbjbippoaaDoor.kindR
