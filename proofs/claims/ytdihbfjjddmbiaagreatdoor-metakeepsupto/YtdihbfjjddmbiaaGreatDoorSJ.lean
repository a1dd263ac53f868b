import Derived.Test.YtdihbfjjddmbiaaGreatDoorRows
import Derived.Test.YtdihbfjjddmbiaaGreatDoorLK
import Derived.Test.YtdihbfjjddmbiaaGreatDoorNT
import Derived.ProofKit
import Derived.OpenShut
import Derived.ChangeOld
import Derived.Below
import Derived.Deep.Slices
import Derived.Deep.DeepHandedRow
import Derived.Test.YtdihbfjjddmbiaaGreatDoorRP
set_option maxRecDepth 100000
set_option maxHeartbeats 4000000
namespace Go.Proofs.YtdihbfjjddmbiaaGreatDoor.kindR
open Go.ChangeShapes Go.WideShapes Go.ChangeAt Go.RowKit Go.Deep
open Go.Proofs.YtdihbfjjddmbiaaGreatDoor
set_option linter.unusedVariables false
theorem cells4 : Tryz.prog.cellsOf 4 = 1 := by kernel_rfl
theorem cells24 : Tryz.prog.cellsOf 22 = 1 := by kernel_rfl
theorem cells25 : Tryz.prog.cellsOf 23 = 1 := by kernel_rfl
theorem cells27 : Tryz.prog.cellsOf 25 = 2 := by kernel_rfl
theorem cells35 : Tryz.prog.cellsOf 50 = 5 := by kernel_rfl
theorem cells37 : Tryz.prog.cellsOf 52 = 7 := by kernel_rfl
theorem cells76 : Tryz.prog.cellsOf 55 = 2 := by kernel_rfl
theorem one_le {H : Type} (d : DataW H) : 1 ≤ Rows.uptoBulk d := by
  cases d with
  | lit l => cases l <;> simp [Rows.uptoBulk]
  | nil => simp [Rows.uptoBulk]
  | ptr d => simp [Rows.uptoBulk]
  | slice elems spare => simp [Rows.uptoBulk]
  | agg parts => simp [Rows.uptoBulk]
  | iface t d => simp [Rows.uptoBulk]
  | map entries => simp [Rows.uptoBulk]
  | held h => simp [Rows.uptoBulk]
theorem part_le {H : Type} {d : DataW H} {l : List (DataW H)} (h : d ∈ l) : Rows.uptoBulk d ≤ Rows.uptoBulkAll l := by
  induction l with
  | nil => cases h
  | cons x r ih =>
    simp only [Rows.uptoBulkAll]
    rcases List.mem_cons.1 h with e | e
    · subst e; omega
    have := ih e; omega
theorem length_le {H : Type} (l : List (DataW H)) : l.length ≤ Rows.uptoBulkAll l := by
  induction l with
  | nil => simp [Rows.uptoBulkAll]
  | cons x r ih => have := one_le x; simp only [Rows.uptoBulkAll, List.length_cons]; omega
theorem list3 {α : Type} (l : List α) (h : l.length = 3) : ∃ a b c, l = [a, b, c] := by
  match l, h with
  | [a, b, c], _ => exact ⟨a, b, c, rfl⟩
theorem list5 {α : Type} (l : List α) (h : l.length = 5) : ∃ a b c d e, l = [a, b, c, d, e] := by
  match l, h with
  | [a, b, c, d, e], _ => exact ⟨a, b, c, d, e, rfl⟩
theorem list7 {α : Type} (l : List α) (h : l.length = 7) : ∃ a b c d e f g, l = [a, b, c, d, e, f, g] := by
  match l, h with
  | [a, b, c, d, e, f, g], _ => exact ⟨a, b, c, d, e, f, g, rfl⟩
theorem field_at {H : Type} {enc : TypeId × Value → H} {W : World} {fuel : Nat} {cs : List Value} {d : DataW H} {p : List MemPlace} (hl : cs.length = 7)
    (h : DataW.trod enc Tryz.prog W 0 (fun _ => true) true fuel 52 cs = some (d, p)) :
    ∃ (nm : ByteArray) (nu : Bool) (k0 k1 k2 k3 : Int) (v : Value) (n : Nat) (dk : DataW H) (pk : List MemPlace), cs = [.string nm, .bool nu, .int .i64 k0, .int .i64 k1, .int .i64 k2, .int .i64 k3, v] ∧
      DataW.trod enc Tryz.prog W 0 (fun _ => true) true n 22 [v] = some (dk, pk) ∧ Rows.uptoBulk dk + 1 ≤ Rows.uptoBulk d := by
  obtain ⟨xs, m, _, hd, _, hxs, hf⟩ := DataW.trod_struct Tryz.underlying52 h
  obtain ⟨c0, c1, c2, c3, c4, c5, c6, rfl⟩ := list7 cs hl
  obtain ⟨y0, y1, y2, rfl⟩ := list3 xs (hxs.trans rfl)
  have f0 : DataW.trod enc Tryz.prog W 0 (fun _ => true) true m 9 ((([c0, c1, c2, c3, c4, c5, c6] : List Value).drop 0).take (Tryz.prog.cellsOf 9)) = some y0 := hf 0 _ rfl
  have f1 : DataW.trod enc Tryz.prog W 0 (fun _ => true) true m 4 ((([c0, c1, c2, c3, c4, c5, c6] : List Value).drop 1).take (Tryz.prog.cellsOf 4)) = some y1 := hf 1 _ rfl
  have f2 : DataW.trod enc Tryz.prog W 0 (fun _ => true) true m 50 ((([c0, c1, c2, c3, c4, c5, c6] : List Value).drop 2).take (Tryz.prog.cellsOf 50)) = some y2 := hf 2 _ rfl
  rw [cells9] at f0
  rw [cells4] at f1
  rw [cells35] at f2
  simp only [List.drop_zero, List.drop_succ_cons, List.take_succ_cons, List.take_zero] at f0 f1 f2
  obtain ⟨nm, e0, _⟩ := DataW.trod_string Tryz.underlying9 f0
  obtain ⟨nu, e1, _⟩ := DataW.trod_bool Tryz.underlying4 f1
  obtain ⟨zs, m2, _, hd2, _, hzs, hf2⟩ := DataW.trod_struct Tryz.underlying50 f2
  obtain ⟨z0, z1, z2, z3, z4, rfl⟩ := list5 zs (hzs.trans rfl)
  have t0 : DataW.trod enc Tryz.prog W 0 (fun _ => true) true m2 3 ((([c2, c3, c4, c5, c6] : List Value).drop 0).take (Tryz.prog.cellsOf 3)) = some z0 := hf2 0 _ rfl
  have t1 : DataW.trod enc Tryz.prog W 0 (fun _ => true) true m2 3 ((([c2, c3, c4, c5, c6] : List Value).drop 1).take (Tryz.prog.cellsOf 3)) = some z1 := hf2 1 _ rfl
  have t2 : DataW.trod enc Tryz.prog W 0 (fun _ => true) true m2 3 ((([c2, c3, c4, c5, c6] : List Value).drop 2).take (Tryz.prog.cellsOf 3)) = some z2 := hf2 2 _ rfl
  have t3 : DataW.trod enc Tryz.prog W 0 (fun _ => true) true m2 3 ((([c2, c3, c4, c5, c6] : List Value).drop 3).take (Tryz.prog.cellsOf 3)) = some z3 := hf2 3 _ rfl
  have t4 : DataW.trod enc Tryz.prog W 0 (fun _ => true) true m2 22 ((([c2, c3, c4, c5, c6] : List Value).drop 4).take (Tryz.prog.cellsOf 22)) = some z4 := hf2 4 _ rfl
  rw [cells3] at t0 t1 t2 t3
  rw [cells24] at t4
  simp only [List.drop_zero, List.drop_succ_cons, List.take_succ_cons, List.take_zero] at t0 t1 t2 t3 t4
  obtain ⟨k0, q0, _⟩ := DataW.trod_int Tryz.underlying3 t0
  obtain ⟨k1, q1, _⟩ := DataW.trod_int Tryz.underlying3 t1
  obtain ⟨k2, q2, _⟩ := DataW.trod_int Tryz.underlying3 t2
  obtain ⟨k3, q3, _⟩ := DataW.trod_int Tryz.underlying3 t3
  simp at e0 e1 q0 q1 q2 q3
  subst e0 e1 q0 q1 q2 q3
  simp only [Prod.mk.injEq] at hd
  refine ⟨nm, nu, k0, k1, k2, k3, c6, m2, z4.1, z4.2, rfl, t4, ?_⟩
  have hy2 : y2.1 = .agg ([z0, z1, z2, z3, z4].map fun x => x.1) := by rw [hd2]
  have h1 : Rows.uptoBulk z4.1 ≤ Rows.uptoBulkAll ([z0, z1, z2, z3, z4].map fun x => x.1) := part_le (List.mem_map_of_mem (by simp))
  have h2 : Rows.uptoBulk y2.1 ≤ Rows.uptoBulkAll ([y0, y1, y2].map fun x => x.1) := part_le (List.mem_map_of_mem (by simp))
  rw [hd.1]
  rw [hy2] at h2
  simp only [Rows.uptoBulk] at h2 ⊢
  omega
theorem add0 (b o i : Nat) : (⟨b, o, none⟩ : Addr).add i = ⟨b, o + i, none⟩ := by simp [Addr.add]
theorem fields_at {H : Type} {enc : TypeId × Value → H} {W : World} (B : Nat) (hB : B ≤ 1048576) : ∀ {fuel : Nat} {v : Value} {d : DataW H} {p : List MemPlace},
    DataW.trod enc Tryz.prog W 0 (fun _ => true) true fuel 22 [v] = some (d, p) → Rows.uptoBulk d ≤ B → ∃ ao l ca, v = .slice ao l.length ca ∧ l.length ≤ ca ∧ Kit.RowAt (fun b => b < W.heap.size) W B ao l := by
  induction B with
  | zero => intro fuel v d p _ hb; have := one_le d; omega
  | succ B ih =>
    intro fuel v d p h hb
    rcases open_slice Tryz.underlying22 h with ⟨hcs, _⟩ | ⟨a, len, cap, m, n, D, Pl, hcs, _, hl, hm, hmm, hx, hc⟩
    · simp at hcs
      subst hcs
      exact ⟨none, [], 0, rfl, Nat.le_refl _, by simp [Kit.big], fun h => absurd rfl h⟩
    simp at hcs
    subst hcs
    simp only [if_true] at hmm
    subst hmm
    simp only [Prod.mk.injEq] at hx
    have hb' : Rows.uptoBulkAll ((List.range len).map D) + 1 ≤ B + 1 := by
      rw [hx.1] at hb
      simp only [Rows.uptoBulk] at hb
      omega
    have hlen : len ≤ 1048576 := by
      have := length_le ((List.range len).map D)
      simp at this
      omega
    have hall : ∀ i, i < len → ∃ f : Kit.FT, ∃ ao' ca', W.cells? 0 (a.add (i * 7)) 7 = some [.string f.name, .bool f.nul, .int .i64 f.kind, .int .i64 f.width, .int .i64 f.id, .int .i64 f.index, .slice ao' f.kids.length ca'] ∧ f.kids.length ≤ ca' ∧ Kit.RowAt (fun b => b < W.heap.size) W B ao' f.kids := by
      intro i hi
      obtain ⟨cs', hc', ht⟩ := hc i (by omega)
      rw [cells37] at hc'
      obtain ⟨_, hl', _⟩ := World.cells?_some hc'
      obtain ⟨nm, nu, k0, k1, k2, k3, v, n', dk, pk, rfl, hk, hbk⟩ := field_at hl' ht
      have hbi := part_le (List.mem_map_of_mem (f := D) (List.mem_range.2 hi))
      obtain ⟨ao', l', ca', rfl, h1, h2⟩ := ih (by omega) hk (by omega)
      exact ⟨⟨nm, nu, k0, k1, k2, k3, l'⟩, ao', ca', hc', h1, h2⟩
    obtain ⟨F, hF⟩ := choose_lt hall
    refine ⟨some a, (List.range len).map F, m, by simp, by simp; omega, by simp [Kit.big]; omega, fun h0 => ?_⟩
    have h0' : 0 < len := by cases len with | zero => simp at h0 | succ n => omega
    obtain ⟨b, off, spot⟩ := a
    have hsp : spot = none := by
      obtain ⟨_, _, hc', _⟩ := hF 0 h0'
      obtain ⟨_, hl', hcell'⟩ := World.cells?_some hc'
      have g0 := hcell' 0 (by omega)
      have hsp := World.cell?_spot (g0.trans rfl)
      simp [Addr.add] at hsp
      exact hsp
    subst hsp
    have hblk : b < W.heap.size := by
      obtain ⟨_, _, hc', _⟩ := hF 0 h0'
      obtain ⟨_, hl', hcell'⟩ := World.cells?_some hc'
      have g0 := (hcell' 0 (by omega)).trans rfl
      rw [add0, add0] at g0
      exact block_lt_of_cell g0
    refine ⟨b, off, rfl, hblk, fun i hi => ?_⟩
    simp at hi
    obtain ⟨ao', ca', hc', h1, h2⟩ := hF i hi
    have he : ((List.range len).map F)[i]'(by simpa using hi) = F i := by simp
    rw [he]
    obtain ⟨_, _, hcell⟩ := World.cells?_some hc'
    rw [add0] at hcell
    have g0 := hcell 0 (by omega)
    have g1 := hcell 1 (by omega)
    have g2 := hcell 2 (by omega)
    have g3 := hcell 3 (by omega)
    have g4 := hcell 4 (by omega)
    have g5 := hcell 5 (by omega)
    have g6 := hcell 6 (by omega)
    simp only [add0, Nat.add_zero, List.getElem?_cons_zero, List.getElem?_cons_succ] at g0 g1 g2 g3 g4 g5 g6
    exact ⟨ao', ca', ⟨g0, g1, g2, g3, g4, g5, g6⟩, h1, h2⟩
theorem list2 {α : Type} (l : List α) (h : l.length = 2) : ∃ a b, l = [a, b] := by
  match l, h with
  | [a, b], _ => exact ⟨a, b, rfl⟩
theorem notes_at {H : Type} {enc : TypeId × Value → H} {W : World} {fuel : Nat} {v : Value} {d : DataW H} {p : List MemPlace}
    (h : DataW.trod enc Tryz.prog W 0 (fun _ => true) true fuel 23 [v] = some (d, p)) (hb : Rows.uptoBulk d ≤ 1048576) : ∃ ao l ca, v = .slice ao l.length ca ∧ Kit.NotesAt W ao l := by
  rcases open_slice Tryz.underlying23 h with ⟨hcs, _⟩ | ⟨a, len, cap, m, n, D, Pl, hcs, _, hl, hm, hmm, hx, hc⟩
  · simp at hcs
    subst hcs
    exact ⟨none, [], 0, rfl, by simp [Kit.big], fun h => absurd rfl h⟩
  simp at hcs
  subst hcs
  simp only [if_true] at hmm
  subst hmm
  simp only [Prod.mk.injEq] at hx
  have hlen : len ≤ 1048576 := by
    rw [hx.1] at hb
    simp only [Rows.uptoBulk] at hb
    have := length_le ((List.range len).map D)
    simp at this
    omega
  have hall : ∀ i, i < len → ∃ q : ByteArray × ByteArray, W.cells? 0 (a.add (i * 2)) 2 = some [.string q.1, .string q.2] := by
    intro i hi
    obtain ⟨cs', hc', ht⟩ := hc i (by omega)
    rw [cells76] at hc'
    obtain ⟨_, hl', _⟩ := World.cells?_some hc'
    obtain ⟨xs, m2, _, _, _, hxs, hf⟩ := DataW.trod_struct Tryz.underlying55 ht
    obtain ⟨c0, c1, rfl⟩ := list2 cs' hl'
    obtain ⟨y0, y1, rfl⟩ := list2 xs (hxs.trans rfl)
    have f0 : DataW.trod enc Tryz.prog W 0 (fun _ => true) true m2 9 ((([c0, c1] : List Value).drop 0).take (Tryz.prog.cellsOf 9)) = some y0 := hf 0 _ rfl
    have f1 : DataW.trod enc Tryz.prog W 0 (fun _ => true) true m2 9 ((([c0, c1] : List Value).drop 1).take (Tryz.prog.cellsOf 9)) = some y1 := hf 1 _ rfl
    rw [cells9] at f0 f1
    simp only [List.drop_zero, List.drop_succ_cons, List.take_succ_cons, List.take_zero] at f0 f1
    obtain ⟨s0, e0, _⟩ := DataW.trod_string Tryz.underlying9 f0
    obtain ⟨s1, e1, _⟩ := DataW.trod_string Tryz.underlying9 f1
    simp at e0 e1
    subst e0 e1
    exact ⟨(s0, s1), hc'⟩
  have : Inhabited (ByteArray × ByteArray) := ⟨(⟨#[]⟩, ⟨#[]⟩)⟩
  obtain ⟨F, hF⟩ := choose_lt hall
  refine ⟨some a, (List.range len).map F, m, by simp, by simp [Kit.big]; omega, fun h0 => ?_⟩
  have h0' : 0 < len := by cases len with | zero => simp at h0 | succ n => omega
  obtain ⟨b, off, spot⟩ := a
  have hsp : spot = none := by
    obtain ⟨_, hl', hcell'⟩ := World.cells?_some (hF 0 h0')
    have g0 := hcell' 0 (by omega)
    have hsp := World.cell?_spot (g0.trans rfl)
    simp [Addr.add] at hsp
    exact hsp
  subst hsp
  refine ⟨b, off, rfl, fun i hi => ?_⟩
  simp at hi
  have he : ((List.range len).map F)[i]'(by simpa using hi) = F i := by simp
  rw [he]
  obtain ⟨_, _, hcell⟩ := World.cells?_some (hF i hi)
  rw [add0] at hcell
  have g0 := hcell 0 (by omega)
  have g1 := hcell 1 (by omega)
  simp only [add0, Nat.add_zero, List.getElem?_cons_zero, List.getElem?_cons_succ] at g0 g1
  exact ⟨g0, g1⟩
theorem cells26 : Tryz.prog.cellsOf 26 = 1 := by kernel_rfl
theorem cellsSl : Tryz.prog.cellsOf 27 = 1 := by kernel_rfl
theorem cells29 : Tryz.prog.cellsOf 29 = 9 := by kernel_rfl
theorem cells54 : Tryz.prog.cellsOf 44 = 2 := by kernel_rfl
theorem cells56 : Tryz.prog.cellsOf 46 = 3 := by kernel_rfl
theorem list8 {α : Type} (l : List α) (h : l.length = 8) : ∃ a b c d e f g i, l = [a, b, c, d, e, f, g, i] := by
  match l, h with
  | [a, b, c, d, e, f, g, i], _ => exact ⟨a, b, c, d, e, f, g, i, rfl⟩
theorem list9 {α : Type} (l : List α) (h : l.length = 9) : ∃ a b c d e f g i j, l = [a, b, c, d, e, f, g, i, j] := by
  match l, h with
  | [a, b, c, d, e, f, g, i, j], _ => exact ⟨a, b, c, d, e, f, g, i, j, rfl⟩
theorem nodes_at {H : Type} {enc : TypeId × Value → H} {W : World} {fuel : Nat} {v : Value} {d : DataW H} {p : List MemPlace}
    (h : DataW.trod enc Tryz.prog W 0 (fun _ => true) true fuel 26 [v] = some (d, p)) (hb : Rows.uptoBulk d ≤ 1048576) : ∃ ao l ca, v = .slice ao l.length ca ∧ Kit.NodesAt W ao l := by
  rcases open_slice Tryz.underlying26 h with ⟨hcs, _⟩ | ⟨a, len, cap, m, n, D, Pl, hcs, _, hl, hm, hmm, hx, hc⟩
  · simp at hcs
    subst hcs
    exact ⟨none, [], 0, rfl, by simp [Kit.big], fun h => absurd rfl h⟩
  simp at hcs
  subst hcs
  simp only [if_true] at hmm
  subst hmm
  simp only [Prod.mk.injEq] at hx
  have hlen : len ≤ 1048576 := by
    rw [hx.1] at hb
    simp only [Rows.uptoBulk] at hb
    have := length_le ((List.range len).map D)
    simp at this
    omega
  have hall : ∀ i, i < len → ∃ q : Int × Int, W.cells? 0 (a.add (i * 2)) 2 = some [.int .i64 q.1, .int .i64 q.2] := by
    intro i hi
    obtain ⟨cs', hc', ht⟩ := hc i (by omega)
    rw [cells54] at hc'
    obtain ⟨_, hl', _⟩ := World.cells?_some hc'
    obtain ⟨xs, m2, _, _, _, hxs, hf⟩ := DataW.trod_struct Tryz.underlying44 ht
    obtain ⟨c0, c1, rfl⟩ := list2 cs' hl'
    obtain ⟨y0, y1, rfl⟩ := list2 xs (hxs.trans rfl)
    have f0 : DataW.trod enc Tryz.prog W 0 (fun _ => true) true m2 3 ((([c0, c1] : List Value).drop 0).take (Tryz.prog.cellsOf 3)) = some y0 := hf 0 _ rfl
    have f1 : DataW.trod enc Tryz.prog W 0 (fun _ => true) true m2 3 ((([c0, c1] : List Value).drop 1).take (Tryz.prog.cellsOf 3)) = some y1 := hf 1 _ rfl
    rw [cells3] at f0 f1
    simp only [List.drop_zero, List.drop_succ_cons, List.take_succ_cons, List.take_zero] at f0 f1
    obtain ⟨s0, e0, _⟩ := DataW.trod_int Tryz.underlying3 f0
    obtain ⟨s1, e1, _⟩ := DataW.trod_int Tryz.underlying3 f1
    simp at e0 e1
    subst e0 e1
    exact ⟨(s0, s1), hc'⟩
  have : Inhabited (Int × Int) := ⟨(0, 0)⟩
  obtain ⟨F, hF⟩ := choose_lt hall
  refine ⟨some a, (List.range len).map F, m, by simp, by simp [Kit.big]; omega, fun h0 => ?_⟩
  have h0' : 0 < len := by cases len with | zero => simp at h0 | succ n => omega
  obtain ⟨b, off, spot⟩ := a
  have hsp : spot = none := by
    obtain ⟨_, hl', hcell'⟩ := World.cells?_some (hF 0 h0')
    have g0 := hcell' 0 (by omega)
    have hsp := World.cell?_spot (g0.trans rfl)
    simp [Addr.add] at hsp
    exact hsp
  subst hsp
  refine ⟨b, off, rfl, fun i hi => ?_⟩
  simp at hi
  have he : ((List.range len).map F)[i]'(by simpa using hi) = F i := by simp
  rw [he]
  obtain ⟨_, _, hcell⟩ := World.cells?_some (hF i hi)
  rw [add0] at hcell
  have g0 := hcell 0 (by omega)
  have g1 := hcell 1 (by omega)
  simp only [add0, Nat.add_zero, List.getElem?_cons_zero, List.getElem?_cons_succ] at g0 g1
  exact ⟨g0, g1⟩
theorem slots_at {H : Type} {enc : TypeId × Value → H} {W : World} {fuel : Nat} {v : Value} {d : DataW H} {p : List MemPlace}
    (h : DataW.trod enc Tryz.prog W 0 (fun _ => true) true fuel 27 [v] = some (d, p)) (hb : Rows.uptoBulk d ≤ 1048576) : ∃ ao l ca, v = .slice ao l.length ca ∧ Kit.SlotsAt W ao l := by
  rcases open_slice Tryz.underlying27 h with ⟨hcs, _⟩ | ⟨a, len, cap, m, n, D, Pl, hcs, _, hl, hm, hmm, hx, hc⟩
  · simp at hcs
    subst hcs
    exact ⟨none, [], 0, rfl, by simp [Kit.big], fun h => absurd rfl h⟩
  simp at hcs
  subst hcs
  simp only [if_true] at hmm
  subst hmm
  simp only [Prod.mk.injEq] at hx
  have hlen : len ≤ 1048576 := by
    rw [hx.1] at hb
    simp only [Rows.uptoBulk] at hb
    have := length_le ((List.range len).map D)
    simp at this
    omega
  have hall : ∀ i, i < len → ∃ q : Int × Int × Int, W.cells? 0 (a.add (i * 3)) 3 = some [.int .i64 q.1, .int .i64 q.2.1, .int .i64 q.2.2] := by
    intro i hi
    obtain ⟨cs', hc', ht⟩ := hc i (by omega)
    rw [cells56] at hc'
    obtain ⟨_, hl', _⟩ := World.cells?_some hc'
    obtain ⟨xs, m2, _, _, _, hxs, hf⟩ := DataW.trod_struct Tryz.underlying46 ht
    obtain ⟨c0, c1, c2, rfl⟩ := list3 cs' hl'
    obtain ⟨y0, y1, y2, rfl⟩ := list3 xs (hxs.trans rfl)
    have f0 : DataW.trod enc Tryz.prog W 0 (fun _ => true) true m2 3 ((([c0, c1, c2] : List Value).drop 0).take (Tryz.prog.cellsOf 3)) = some y0 := hf 0 _ rfl
    have f1 : DataW.trod enc Tryz.prog W 0 (fun _ => true) true m2 3 ((([c0, c1, c2] : List Value).drop 1).take (Tryz.prog.cellsOf 3)) = some y1 := hf 1 _ rfl
    have f2 : DataW.trod enc Tryz.prog W 0 (fun _ => true) true m2 3 ((([c0, c1, c2] : List Value).drop 2).take (Tryz.prog.cellsOf 3)) = some y2 := hf 2 _ rfl
    rw [cells3] at f0 f1 f2
    simp only [List.drop_zero, List.drop_succ_cons, List.take_succ_cons, List.take_zero] at f0 f1 f2
    obtain ⟨s0, e0, _⟩ := DataW.trod_int Tryz.underlying3 f0
    obtain ⟨s1, e1, _⟩ := DataW.trod_int Tryz.underlying3 f1
    obtain ⟨s2, e2, _⟩ := DataW.trod_int Tryz.underlying3 f2
    simp at e0 e1 e2
    subst e0 e1 e2
    exact ⟨(s0, s1, s2), hc'⟩
  have : Inhabited (Int × Int × Int) := ⟨(0, 0, 0)⟩
  obtain ⟨F, hF⟩ := choose_lt hall
  refine ⟨some a, (List.range len).map F, m, by simp, by simp [Kit.big]; omega, fun h0 => ?_⟩
  have h0' : 0 < len := by cases len with | zero => simp at h0 | succ n => omega
  obtain ⟨b, off, spot⟩ := a
  have hsp : spot = none := by
    obtain ⟨_, hl', hcell'⟩ := World.cells?_some (hF 0 h0')
    have g0 := hcell' 0 (by omega)
    have hsp := World.cell?_spot (g0.trans rfl)
    simp [Addr.add] at hsp
    exact hsp
  subst hsp
  refine ⟨b, off, rfl, fun i hi => ?_⟩
  simp at hi
  have he : ((List.range len).map F)[i]'(by simpa using hi) = F i := by simp
  rw [he]
  obtain ⟨_, _, hcell⟩ := World.cells?_some (hF i hi)
  rw [add0] at hcell
  have g0 := hcell 0 (by omega)
  have g1 := hcell 1 (by omega)
  have g2 := hcell 2 (by omega)
  simp only [add0, Nat.add_zero, List.getElem?_cons_zero, List.getElem?_cons_succ] at g0 g1 g2
  exact ⟨g0, g1, g2⟩
theorem head_at {H : Type} {enc : TypeId × Value → H} {W : World} {fuel : Nat} {cs : List Value} {d : DataW H} {p : List MemPlace} (hT : Kit.Tab W) (hl : cs.length = 9)
    (h : DataW.trod enc Tryz.prog W 0 (fun _ => true) true fuel 29 cs = some (d, p)) (hb : Rows.uptoBulk d ≤ 1048576) :
    ∃ k fo fs cf no ns cn di dl rows pr vo nds vc uo sls uc, cs = [.int .i64 k, .slice fo (fs : List Kit.FT).length cf, .slice no (ns : List (ByteArray × ByteArray)).length cn, .int .i64 di, .bool dl, .int .i64 rows, .int .i64 pr, .slice vo (nds : List (Int × Int)).length vc, .slice uo (sls : List (Int × Int × Int)).length uc] ∧ Kit.HeadAt (fun b => b < W.heap.size) 1048576 W fo no vo uo cf fs ns nds sls := by
  obtain ⟨xs, m2, _, hd, _, hxs, hf⟩ := DataW.trod_struct Tryz.underlying29 h
  obtain ⟨c0, c1, c2, c3, c4, c5, c6, c7, c8, rfl⟩ := list9 cs hl
  obtain ⟨y0, y1, y2, y3, y4, y5, y6, y7, rfl⟩ := list8 xs (hxs.trans rfl)
  have f0 : DataW.trod enc Tryz.prog W 0 (fun _ => true) true m2 3 ((([c0, c1, c2, c3, c4, c5, c6, c7, c8] : List Value).drop 0).take (Tryz.prog.cellsOf 3)) = some y0 := hf 0 _ rfl
  have f1 : DataW.trod enc Tryz.prog W 0 (fun _ => true) true m2 25 ((([c0, c1, c2, c3, c4, c5, c6, c7, c8] : List Value).drop 1).take (Tryz.prog.cellsOf 25)) = some y1 := hf 1 _ rfl
  have f2 : DataW.trod enc Tryz.prog W 0 (fun _ => true) true m2 3 ((([c0, c1, c2, c3, c4, c5, c6, c7, c8] : List Value).drop 3).take (Tryz.prog.cellsOf 3)) = some y2 := hf 2 _ rfl
  have f3 : DataW.trod enc Tryz.prog W 0 (fun _ => true) true m2 4 ((([c0, c1, c2, c3, c4, c5, c6, c7, c8] : List Value).drop 4).take (Tryz.prog.cellsOf 4)) = some y3 := hf 3 _ rfl
  have f4 : DataW.trod enc Tryz.prog W 0 (fun _ => true) true m2 3 ((([c0, c1, c2, c3, c4, c5, c6, c7, c8] : List Value).drop 5).take (Tryz.prog.cellsOf 3)) = some y4 := hf 4 _ rfl
  have f5 : DataW.trod enc Tryz.prog W 0 (fun _ => true) true m2 3 ((([c0, c1, c2, c3, c4, c5, c6, c7, c8] : List Value).drop 6).take (Tryz.prog.cellsOf 3)) = some y5 := hf 5 _ rfl
  have f6 : DataW.trod enc Tryz.prog W 0 (fun _ => true) true m2 26 ((([c0, c1, c2, c3, c4, c5, c6, c7, c8] : List Value).drop 7).take (Tryz.prog.cellsOf 26)) = some y6 := hf 6 _ rfl
  have f7 : DataW.trod enc Tryz.prog W 0 (fun _ => true) true m2 27 ((([c0, c1, c2, c3, c4, c5, c6, c7, c8] : List Value).drop 8).take (Tryz.prog.cellsOf 27)) = some y7 := hf 7 _ rfl
  rw [cells3] at f0 f2 f4 f5
  rw [cells27] at f1
  rw [cells4] at f3
  rw [cells26] at f6
  rw [cellsSl] at f7
  simp only [List.drop_zero, List.drop_succ_cons, List.take_succ_cons, List.take_zero] at f0 f1 f2 f3 f4 f5 f6 f7
  obtain ⟨k, e0, _⟩ := DataW.trod_int Tryz.underlying3 f0
  obtain ⟨di, e2, _⟩ := DataW.trod_int Tryz.underlying3 f2
  obtain ⟨dl, e3, _⟩ := DataW.trod_bool Tryz.underlying4 f3
  obtain ⟨rows, e4, _⟩ := DataW.trod_int Tryz.underlying3 f4
  obtain ⟨pr, e5, _⟩ := DataW.trod_int Tryz.underlying3 f5
  simp at e0 e2 e3 e4 e5
  subst e0 e2 e3 e4 e5
  simp only [Prod.mk.injEq] at hd
  rw [hd.1] at hb
  simp only [Rows.uptoBulk] at hb
  have hy1 : Rows.uptoBulk y1.1 ≤ Rows.uptoBulkAll ([y0, y1, y2, y3, y4, y5, y6, y7].map fun x => x.1) := part_le (List.mem_map_of_mem (by simp))
  have hy6 : Rows.uptoBulk y6.1 ≤ Rows.uptoBulkAll ([y0, y1, y2, y3, y4, y5, y6, y7].map fun x => x.1) := part_le (List.mem_map_of_mem (by simp))
  have hy7 : Rows.uptoBulk y7.1 ≤ Rows.uptoBulkAll ([y0, y1, y2, y3, y4, y5, y6, y7].map fun x => x.1) := part_le (List.mem_map_of_mem (by simp))
  obtain ⟨zs, m3, _, hd2, _, hzs, hf2⟩ := DataW.trod_struct Tryz.underlying25 f1
  obtain ⟨z0, z1, rfl⟩ := list2 zs (hzs.trans rfl)
  have g0 : DataW.trod enc Tryz.prog W 0 (fun _ => true) true m3 22 ((([c1, c2] : List Value).drop 0).take (Tryz.prog.cellsOf 22)) = some z0 := hf2 0 _ rfl
  have g1 : DataW.trod enc Tryz.prog W 0 (fun _ => true) true m3 23 ((([c1, c2] : List Value).drop 1).take (Tryz.prog.cellsOf 23)) = some z1 := hf2 1 _ rfl
  rw [cells24] at g0
  rw [cells25] at g1
  simp only [List.drop_zero, List.drop_succ_cons, List.take_succ_cons, List.take_zero] at g0 g1
  have hy1' : y1.1 = .agg ([z0, z1].map fun x => x.1) := by rw [hd2]
  rw [hy1'] at hy1
  simp only [Rows.uptoBulk] at hy1
  have hz0 : Rows.uptoBulk z0.1 ≤ Rows.uptoBulkAll ([z0, z1].map fun x => x.1) := part_le (List.mem_map_of_mem (by simp))
  have hz1 : Rows.uptoBulk z1.1 ≤ Rows.uptoBulkAll ([z0, z1].map fun x => x.1) := part_le (List.mem_map_of_mem (by simp))
  obtain ⟨fo, l1, cf, rfl, h1, h2⟩ := fields_at 1048576 (Nat.le_refl _) (d := z0.1) (p := z0.2) g0 (by omega)
  obtain ⟨no, l2, cn, rfl, h3⟩ := notes_at (d := z1.1) (p := z1.2) g1 (by omega)
  obtain ⟨vo, l3, vc, rfl, h4⟩ := nodes_at (d := y6.1) (p := y6.2) f6 (by omega)
  obtain ⟨uo, l4, uc, rfl, h5⟩ := slots_at (d := y7.1) (p := y7.2) f7 (by omega)
  exact ⟨k, fo, l1, cf, no, l2, cn, di, dl, rows, pr, vo, l3, vc, uo, l4, uc, rfl, hT, h2, h1, by unfold Kit.big; omega, fun b hb => hb, h3, h4, h5⟩
end Go.Proofs.YtdihbfjjddmbiaaGreatDoor.kindR
namespace Go.Proofs.YtdihbfjjddmbiaaGreatDoor.Kit
open Go.RowKit Go.Shelf Go.Deep
set_option linter.unusedVariables false
theorem flatS {α : Type} (c : α → List Value) (s : Nat) (hc : ∀ x, (c x).length = s) : ∀ (l : List α) (i : Nat) (h : i < l.length) (j : Nat), j < s → (l.flatMap c)[i * s + j]? = (c l[i])[j]?
  | e :: l, 0, h, j, hj => by
    rw [List.flatMap_cons, List.getElem?_append_left (by rw [hc]; omega)]
    simp
  | e :: l, i + 1, h, j, hj => by
    have h1 : (i + 1) * s + j - s = i * s + j := by rw [Nat.succ_mul]; omega
    rw [List.flatMap_cons, List.getElem?_append_right (by rw [hc, Nat.succ_mul]; omega)]
    have := flatS c s hc l i (by simpa using h) j hj
    rw [hc, h1, this]
    simp
theorem LAt.cells {α : Type} {W w' : World} {t s : Nat} {c : α → List Value} {l : List α} {vo : Option Addr} {vc : Nat} (h : LAt W w' t s c l vo vc) (hc : ∀ x, (c x).length = s) (hs : 0 < s) (hn : l ≠ []) : ∃ g, vo = some ⟨g, 0, none⟩ ∧ ∀ i (hi : i < l.length) j, j < s → w'.cell? ⟨g, i * s + j, none⟩ = (c l[i])[j]? := by
  have h0 := List.length_pos_iff.2 hn
  rcases h.own.2 with ⟨e, h1⟩ | ⟨g, cap, cur, e, h1, h2, h3, h4⟩
  · omega
  cases e
  refine ⟨g, rfl, fun i hi j hj => ?_⟩
  have hlt : i * s + j < l.length * s := by
    have : (i + 1) * s ≤ l.length * s := Nat.mul_le_mul_right s hi
    rw [Nat.succ_mul] at this
    omega
  rw [h.own.cellAt (i * s + j) hlt, flatS c s hc l i hi j hj]
theorem HV9.head {U V : World} {D : Nat} {k di rows pr : Int} {dl : Bool} {fs : List FT} {ns : List (ByteArray × ByteArray)} {nds : List (Int × Int)} {sls : List (Int × Int × Int)} {v : Value} (hv : HV9 U V (hdOf k fs ns di dl rows pr nds sls) v) (hT : Tab V) (hD : 65 ≤ D) (hDb : D ≤ big) (h1 : ns.length ≤ big) (h2 : nds.length ≤ big) (h3 : sls.length ≤ big) (hk : 0 ≤ k) (hi : 0 ≤ di) (hr : 0 ≤ rows) (hp : 0 ≤ pr) :
    ∃ fo no vo uo cf cn vc uc, v = .agg #[.int .i64 k, .slice fo fs.length cf, .slice no ns.length cn, .int .i64 di, .bool dl, .int .i64 rows, .int .i64 pr, .slice vo nds.length vc, .slice uo sls.length uc] ∧ HeadAt (fun b => b < V.heap.size) D V fo no vo uo cf fs ns nds sls := by
  obtain ⟨fo, fc, no, nc, vo, vc, uo, uc, rfl, hcap, hrow, hns, hnd, hsl⟩ := hv
  refine ⟨fo, no, vo, uo, fc, nc, vc, uc, ?_, hT, (hrow.rowAt.mono fun b hb => hb.2).more hD, hcap, hDb, fun b h => h, ⟨h1, fun hn => ?_⟩, ⟨h2, fun hn => ?_⟩, ⟨h3, fun hn => ?_⟩⟩
  · have a1 : (k.toNat : Int) = k := Int.toNat_of_nonneg hk
    have a2 : (di.toNat : Int) = di := Int.toNat_of_nonneg hi
    have a3 : (rows.toNat : Int) = rows := Int.toNat_of_nonneg hr
    have a4 : (pr.toNat : Int) = pr := Int.toNat_of_nonneg hp
    show Value.agg #[.int .i64 (k.toNat : Int), _, _, .int .i64 (di.toNat : Int), _, .int .i64 (rows.toNat : Int), .int .i64 (pr.toNat : Int), _, _] = _
    rw [a1, a2, a3, a4]
    rfl
  · obtain ⟨g, e, hc⟩ := hns.cells (fun _ => rfl) (by omega) hn
    refine ⟨g, 0, e, fun i hi => ?_⟩
    rw [Nat.zero_add]
    exact ⟨hc i hi 0 (by omega), hc i hi 1 (by omega)⟩
  · obtain ⟨g, e, hc⟩ := hnd.cells (fun _ => rfl) (by omega) hn
    refine ⟨g, 0, e, fun i hi => ?_⟩
    rw [Nat.zero_add]
    exact ⟨hc i hi 0 (by omega), hc i hi 1 (by omega)⟩
  obtain ⟨g, e, hc⟩ := hsl.cells (fun _ => rfl) (by omega) hn
  refine ⟨g, 0, e, fun i hi => ?_⟩
  rw [Nat.zero_add]
  exact ⟨hc i hi 0 (by omega), hc i hi 1 (by omega), hc i hi 2 (by omega)⟩
theorem src_bytes {W : World} {bo : Option Addr} {bs : List UInt8} {cap : Nat} (h : BytesAt W bo bs) : Src Tryz.prog 1 30 (.slice bo bs.length cap) bs.length (bv bs) W := by
  by_cases hn : bs = []
  · subst hn
    cases bo with
    | none => exact Src.ofNil (w := W) Tryz.underlying30 cap
    | some a => exact Src.ofSlice (w := W) Tryz.underlying30 a 0 cap [] (by simp) (fun j x hx => by simp at hx) (fun x hx => by cases hx)
  obtain ⟨b, o, rfl, hc⟩ := h hn
  refine Src.ofSlice (w := W) Tryz.underlying30 ⟨b, o, none⟩ bs.length cap (bv bs) (by simp [bv]) (fun j x hx => ?_) (fun x hx => by obtain ⟨z, _, rfl⟩ := List.mem_map.1 hx; rfl)
  have hj : j < bs.length := by
    have := (List.getElem?_eq_some_iff.1 hx).1
    simpa [bv] using this
  have e : x = .int .u8 ((bs[j]).toNat : Int) := by
    have := (List.getElem?_eq_some_iff.1 hx).2
    rw [← this]
    simp [bv]
  rw [e]
  have ea : (⟨b, o, none⟩ : Addr).add j = ⟨b, o + j, none⟩ := by
    by_cases h0 : j = 0
    · subst h0; simp [Addr.add]
    simp [Addr.add, h0]
  rw [ea]
  exact hc j hj
theorem own_bytes {W : World} {v : Value} {n : Nat} {bs : List UInt8} (h : W.ownsRow 0 5 1 v n (bv bs)) (hn : n = bs.length) : ∃ bo cap, v = .slice bo bs.length cap ∧ BytesAt W bo bs ∧ SForm bo bs.length cap ∧ ∀ b o, bo = some ⟨b, o, none⟩ → b < W.heap.size := by
  subst hn
  rcases h.2 with ⟨rfl, h0⟩ | ⟨g, cap, cur, rfl, _, hg, h3, h4, h5, h6⟩
  · have : bs = [] := List.length_eq_zero_iff.1 h0
    subst this
    exact ⟨none, 0, rfl, fun h => absurd rfl h, ⟨Nat.le_refl _, by omega, .inl rfl⟩, fun b o e => by cases e⟩
  refine ⟨_, cap, rfl, fun hn => ⟨g, 0, rfl, fun i hi => ?_⟩, ⟨h3, h4, .inr ⟨g, 0, rfl⟩⟩, fun b o e => ?_⟩
  · have := h.cellAt i (by omega)
    rw [Nat.zero_add, this]
    simp [bv, hi]
  cases e
  exact lt_of_heap hg
end Go.Proofs.YtdihbfjjddmbiaaGreatDoor.Kit
