import Derived.Test.YtdffjdlpbfcikaaDoorLR
import Derived.Test.YtdffjdlpbfcikaaDoorVZ
namespace Go.Proofs.YtdffjdlpbfcikaaDoor.kindR
open Go.ChangeShapes Go.WideShapes Go.ChangeAt Go.RowKit Go.Deep
open Go.Proofs.YtdffjdlpbfcikaaDoor
set_option linter.unusedVariables false

theorem cells26 : Tryd.prog.cellsOf 27 = 1 := by kernel_rfl
theorem cellsSl : Tryd.prog.cellsOf 28 = 1 := by kernel_rfl
theorem cells29 : Tryd.prog.cellsOf 30 = 9 := by kernel_rfl
theorem cells54 : Tryd.prog.cellsOf 62 = 2 := by kernel_rfl
theorem cells56 : Tryd.prog.cellsOf 64 = 3 := by kernel_rfl
theorem list8 {α : Type} (l : List α) (h : l.length = 8) : ∃ a b c d e f g i, l = [a, b, c, d, e, f, g, i] := by
  match l, h with
  | [a, b, c, d, e, f, g, i], _ => exact ⟨a, b, c, d, e, f, g, i, rfl⟩
theorem list9 {α : Type} (l : List α) (h : l.length = 9) : ∃ a b c d e f g i j, l = [a, b, c, d, e, f, g, i, j] := by
  match l, h with
  | [a, b, c, d, e, f, g, i, j], _ => exact ⟨a, b, c, d, e, f, g, i, j, rfl⟩

set_option maxRecDepth 100000 in
theorem nodes_at {H : Type} {enc : TypeId × Value → H} {W : World} {fuel : Nat} {v : Value} {d : DataW H} {p : List MemPlace}
    (h : DataW.trod enc Tryd.prog W 0 (fun _ => true) true fuel 27 [v] = some (d, p)) (hb : Rows.uptoBulk d ≤ 1048576) : ∃ ao l ca, v = .slice ao l.length ca ∧ Kit.NodesAt W ao l := by
  rcases open_slice Tryd.underlying27 h with ⟨hcs, _⟩ | ⟨a, len, cap, m, n, D, Pl, hcs, _, hl, hm, hmm, hx, hc⟩
  · simp at hcs
    subst hcs
    exact ⟨none, [], 0, rfl, by simp [Kit.big], fun h => absurd rfl h⟩
  · simp at hcs
    subst hcs
    simp only [if_true] at hmm
    subst hmm
    simp only [Prod.mk.injEq] at hx
    have hlen : len ≤ 1048576 := by
      rw [hx.1] at hb
      simp only [Rows.uptoBulk] at hb
      have := length_le ((List.range len).map D)
      simp at this
      omega
    have hall : ∀ i, i < len → ∃ q : Int × Int, W.cells? 0 (a.add (i * 2)) 2 = some [.int .i64 q.1, .int .i64 q.2] := by
      intro i hi
      obtain ⟨cs', hc', ht⟩ := hc i (by omega)
      rw [cells54] at hc'
      obtain ⟨_, hl', _⟩ := World.cells?_some hc'
      obtain ⟨xs, m2, _, _, _, hxs, hf⟩ := DataW.trod_struct Tryd.underlying62 ht
      obtain ⟨c0, c1, rfl⟩ := list2 cs' hl'
      obtain ⟨y0, y1, rfl⟩ := list2 xs (hxs.trans rfl)
      have f0 : DataW.trod enc Tryd.prog W 0 (fun _ => true) true m2 3 ((([c0, c1] : List Value).drop 0).take (Tryd.prog.cellsOf 3)) = some y0 := hf 0 _ rfl
      have f1 : DataW.trod enc Tryd.prog W 0 (fun _ => true) true m2 3 ((([c0, c1] : List Value).drop 1).take (Tryd.prog.cellsOf 3)) = some y1 := hf 1 _ rfl
      rw [cells3] at f0 f1
      simp only [List.drop_zero, List.drop_succ_cons, List.take_succ_cons, List.take_zero] at f0 f1
      obtain ⟨s0, e0, _⟩ := DataW.trod_int Tryd.underlying3 f0
      obtain ⟨s1, e1, _⟩ := DataW.trod_int Tryd.underlying3 f1
      simp at e0 e1
      subst e0 e1
      exact ⟨(s0, s1), hc'⟩
    have : Inhabited (Int × Int) := ⟨(0, 0)⟩
    obtain ⟨F, hF⟩ := choose_lt hall
    refine ⟨some a, (List.range len).map F, m, by simp, by simp [Kit.big]; omega, fun h0 => ?_⟩
    have h0' : 0 < len := by cases len with | zero => simp at h0 | succ n => omega
    obtain ⟨b, off, spot⟩ := a
    have hsp : spot = none := by
      obtain ⟨_, hl', hcell'⟩ := World.cells?_some (hF 0 h0')
      have g0 := hcell' 0 (by omega)
      have hsp := World.cell?_spot (g0.trans rfl)
      simp [Addr.add] at hsp
      exact hsp
    subst hsp
    refine ⟨b, off, rfl, fun i hi => ?_⟩
    simp at hi
    have he : ((List.range len).map F)[i]'(by simpa using hi) = F i := by simp
    rw [he]
    obtain ⟨_, _, hcell⟩ := World.cells?_some (hF i hi)
    rw [add0] at hcell
    have g0 := hcell 0 (by omega)
    have g1 := hcell 1 (by omega)
    simp only [add0, Nat.add_zero, List.getElem?_cons_zero, List.getElem?_cons_succ] at g0 g1
    exact ⟨g0, g1⟩

set_option maxRecDepth 100000 in
theorem slots_at {H : Type} {enc : TypeId × Value → H} {W : World} {fuel : Nat} {v : Value} {d : DataW H} {p : List MemPlace}
    (h : DataW.trod enc Tryd.prog W 0 (fun _ => true) true fuel 28 [v] = some (d, p)) (hb : Rows.uptoBulk d ≤ 1048576) : ∃ ao l ca, v = .slice ao l.length ca ∧ Kit.SlotsAt W ao l := by
  rcases open_slice Tryd.underlying28 h with ⟨hcs, _⟩ | ⟨a, len, cap, m, n, D, Pl, hcs, _, hl, hm, hmm, hx, hc⟩
  · simp at hcs
    subst hcs
    exact ⟨none, [], 0, rfl, by simp [Kit.big], fun h => absurd rfl h⟩
  · simp at hcs
    subst hcs
    simp only [if_true] at hmm
    subst hmm
    simp only [Prod.mk.injEq] at hx
    have hlen : len ≤ 1048576 := by
      rw [hx.1] at hb
      simp only [Rows.uptoBulk] at hb
      have := length_le ((List.range len).map D)
      simp at this
      omega
    have hall : ∀ i, i < len → ∃ q : Int × Int × Int, W.cells? 0 (a.add (i * 3)) 3 = some [.int .i64 q.1, .int .i64 q.2.1, .int .i64 q.2.2] := by
      intro i hi
      obtain ⟨cs', hc', ht⟩ := hc i (by omega)
      rw [cells56] at hc'
      obtain ⟨_, hl', _⟩ := World.cells?_some hc'
      obtain ⟨xs, m2, _, _, _, hxs, hf⟩ := DataW.trod_struct Tryd.underlying64 ht
      obtain ⟨c0, c1, c2, rfl⟩ := list3 cs' hl'
      obtain ⟨y0, y1, y2, rfl⟩ := list3 xs (hxs.trans rfl)
      have f0 : DataW.trod enc Tryd.prog W 0 (fun _ => true) true m2 3 ((([c0, c1, c2] : List Value).drop 0).take (Tryd.prog.cellsOf 3)) = some y0 := hf 0 _ rfl
      have f1 : DataW.trod enc Tryd.prog W 0 (fun _ => true) true m2 3 ((([c0, c1, c2] : List Value).drop 1).take (Tryd.prog.cellsOf 3)) = some y1 := hf 1 _ rfl
      have f2 : DataW.trod enc Tryd.prog W 0 (fun _ => true) true m2 3 ((([c0, c1, c2] : List Value).drop 2).take (Tryd.prog.cellsOf 3)) = some y2 := hf 2 _ rfl
      rw [cells3] at f0 f1 f2
      simp only [List.drop_zero, List.drop_succ_cons, List.take_succ_cons, List.take_zero] at f0 f1 f2
      obtain ⟨s0, e0, _⟩ := DataW.trod_int Tryd.underlying3 f0
      obtain ⟨s1, e1, _⟩ := DataW.trod_int Tryd.underlying3 f1
      obtain ⟨s2, e2, _⟩ := DataW.trod_int Tryd.underlying3 f2
      simp at e0 e1 e2
      subst e0 e1 e2
      exact ⟨(s0, s1, s2), hc'⟩
    have : Inhabited (Int × Int × Int) := ⟨(0, 0, 0)⟩
    obtain ⟨F, hF⟩ := choose_lt hall
    refine ⟨some a, (List.range len).map F, m, by simp, by simp [Kit.big]; omega, fun h0 => ?_⟩
    have h0' : 0 < len := by cases len with | zero => simp at h0 | succ n => omega
    obtain ⟨b, off, spot⟩ := a
    have hsp : spot = none := by
      obtain ⟨_, hl', hcell'⟩ := World.cells?_some (hF 0 h0')
      have g0 := hcell' 0 (by omega)
      have hsp := World.cell?_spot (g0.trans rfl)
      simp [Addr.add] at hsp
      exact hsp
    subst hsp
    refine ⟨b, off, rfl, fun i hi => ?_⟩
    simp at hi
    have he : ((List.range len).map F)[i]'(by simpa using hi) = F i := by simp
    rw [he]
    obtain ⟨_, _, hcell⟩ := World.cells?_some (hF i hi)
    rw [add0] at hcell
    have g0 := hcell 0 (by omega)
    have g1 := hcell 1 (by omega)
    have g2 := hcell 2 (by omega)
    simp only [add0, Nat.add_zero, List.getElem?_cons_zero, List.getElem?_cons_succ] at g0 g1 g2
    exact ⟨g0, g1, g2⟩

set_option maxRecDepth 100000 in
/-- one head, read -/
theorem head_at {H : Type} {enc : TypeId × Value → H} {W : World} {fuel : Nat} {cs : List Value} {d : DataW H} {p : List MemPlace} (hT : Kit.Tab W) (hl : cs.length = 9)
    (h : DataW.trod enc Tryd.prog W 0 (fun _ => true) true fuel 30 cs = some (d, p)) (hb : Rows.uptoBulk d ≤ 1048576) :
    ∃ k fo fs cf no ns cn di dl rows pr vo nds vc uo sls uc, cs = [.int .i64 k, .slice fo (fs : List Kit.FT).length cf, .slice no (ns : List (ByteArray × ByteArray)).length cn, .int .i64 di, .bool dl, .int .i64 rows, .int .i64 pr, .slice vo (nds : List (Int × Int)).length vc, .slice uo (sls : List (Int × Int × Int)).length uc] ∧ Kit.HeadAt (fun b => b < W.heap.size) 1048576 W fo no vo uo cf fs ns nds sls := by
  obtain ⟨xs, m2, _, hd, _, hxs, hf⟩ := DataW.trod_struct Tryd.underlying30 h
  obtain ⟨c0, c1, c2, c3, c4, c5, c6, c7, c8, rfl⟩ := list9 cs hl
  obtain ⟨y0, y1, y2, y3, y4, y5, y6, y7, rfl⟩ := list8 xs (hxs.trans rfl)
  have f0 : DataW.trod enc Tryd.prog W 0 (fun _ => true) true m2 3 ((([c0, c1, c2, c3, c4, c5, c6, c7, c8] : List Value).drop 0).take (Tryd.prog.cellsOf 3)) = some y0 := hf 0 _ rfl
  have f1 : DataW.trod enc Tryd.prog W 0 (fun _ => true) true m2 26 ((([c0, c1, c2, c3, c4, c5, c6, c7, c8] : List Value).drop 1).take (Tryd.prog.cellsOf 26)) = some y1 := hf 1 _ rfl
  have f2 : DataW.trod enc Tryd.prog W 0 (fun _ => true) true m2 3 ((([c0, c1, c2, c3, c4, c5, c6, c7, c8] : List Value).drop 3).take (Tryd.prog.cellsOf 3)) = some y2 := hf 2 _ rfl
  have f3 : DataW.trod enc Tryd.prog W 0 (fun _ => true) true m2 4 ((([c0, c1, c2, c3, c4, c5, c6, c7, c8] : List Value).drop 4).take (Tryd.prog.cellsOf 4)) = some y3 := hf 3 _ rfl
  have f4 : DataW.trod enc Tryd.prog W 0 (fun _ => true) true m2 3 ((([c0, c1, c2, c3, c4, c5, c6, c7, c8] : List Value).drop 5).take (Tryd.prog.cellsOf 3)) = some y4 := hf 4 _ rfl
  have f5 : DataW.trod enc Tryd.prog W 0 (fun _ => true) true m2 3 ((([c0, c1, c2, c3, c4, c5, c6, c7, c8] : List Value).drop 6).take (Tryd.prog.cellsOf 3)) = some y5 := hf 5 _ rfl
  have f6 : DataW.trod enc Tryd.prog W 0 (fun _ => true) true m2 27 ((([c0, c1, c2, c3, c4, c5, c6, c7, c8] : List Value).drop 7).take (Tryd.prog.cellsOf 27)) = some y6 := hf 6 _ rfl
  have f7 : DataW.trod enc Tryd.prog W 0 (fun _ => true) true m2 28 ((([c0, c1, c2, c3, c4, c5, c6, c7, c8] : List Value).drop 8).take (Tryd.prog.cellsOf 28)) = some y7 := hf 7 _ rfl
  rw [cells3] at f0 f2 f4 f5
  rw [cells27] at f1
  rw [cells4] at f3
  rw [cells26] at f6
  rw [cellsSl] at f7
  simp only [List.drop_zero, List.drop_succ_cons, List.take_succ_cons, List.take_zero] at f0 f1 f2 f3 f4 f5 f6 f7
  obtain ⟨k, e0, _⟩ := DataW.trod_int Tryd.underlying3 f0
  obtain ⟨di, e2, _⟩ := DataW.trod_int Tryd.underlying3 f2
  obtain ⟨dl, e3, _⟩ := DataW.trod_bool Tryd.underlying4 f3
  obtain ⟨rows, e4, _⟩ := DataW.trod_int Tryd.underlying3 f4
  obtain ⟨pr, e5, _⟩ := DataW.trod_int Tryd.underlying3 f5
  simp at e0 e2 e3 e4 e5
  subst e0 e2 e3 e4 e5
  simp only [Prod.mk.injEq] at hd
  rw [hd.1] at hb
  simp only [Rows.uptoBulk] at hb
  have hy1 : Rows.uptoBulk y1.1 ≤ Rows.uptoBulkAll ([y0, y1, y2, y3, y4, y5, y6, y7].map fun x => x.1) := part_le (List.mem_map_of_mem (by simp))
  have hy6 : Rows.uptoBulk y6.1 ≤ Rows.uptoBulkAll ([y0, y1, y2, y3, y4, y5, y6, y7].map fun x => x.1) := part_le (List.mem_map_of_mem (by simp))
  have hy7 : Rows.uptoBulk y7.1 ≤ Rows.uptoBulkAll ([y0, y1, y2, y3, y4, y5, y6, y7].map fun x => x.1) := part_le (List.mem_map_of_mem (by simp))
  obtain ⟨zs, m3, _, hd2, _, hzs, hf2⟩ := DataW.trod_struct Tryd.underlying26 f1
  obtain ⟨z0, z1, rfl⟩ := list2 zs (hzs.trans rfl)
  have g0 : DataW.trod enc Tryd.prog W 0 (fun _ => true) true m3 23 ((([c1, c2] : List Value).drop 0).take (Tryd.prog.cellsOf 23)) = some z0 := hf2 0 _ rfl
  have g1 : DataW.trod enc Tryd.prog W 0 (fun _ => true) true m3 24 ((([c1, c2] : List Value).drop 1).take (Tryd.prog.cellsOf 24)) = some z1 := hf2 1 _ rfl
  rw [cells24] at g0
  rw [cells25] at g1
  simp only [List.drop_zero, List.drop_succ_cons, List.take_succ_cons, List.take_zero] at g0 g1
  have hy1' : y1.1 = .agg ([z0, z1].map fun x => x.1) := by rw [hd2]
  rw [hy1'] at hy1
  simp only [Rows.uptoBulk] at hy1
  have hz0 : Rows.uptoBulk z0.1 ≤ Rows.uptoBulkAll ([z0, z1].map fun x => x.1) := part_le (List.mem_map_of_mem (by simp))
  have hz1 : Rows.uptoBulk z1.1 ≤ Rows.uptoBulkAll ([z0, z1].map fun x => x.1) := part_le (List.mem_map_of_mem (by simp))
  obtain ⟨fo, l1, cf, rfl, h1, h2⟩ := fields_at 1048576 (Nat.le_refl _) (d := z0.1) (p := z0.2) g0 (by omega)
  obtain ⟨no, l2, cn, rfl, h3⟩ := notes_at (d := z1.1) (p := z1.2) g1 (by omega)
  obtain ⟨vo, l3, vc, rfl, h4⟩ := nodes_at (d := y6.1) (p := y6.2) f6 (by omega)
  obtain ⟨uo, l4, uc, rfl, h5⟩ := slots_at (d := y7.1) (p := y7.2) f7 (by omega)
  exact ⟨k, fo, l1, cf, no, l2, cn, di, dl, rows, pr, vo, l3, vc, uo, l4, uc, rfl, hT, h2, h1, by unfold Kit.big; omega, fun b hb => hb, h3, h4, h5⟩

end Go.Proofs.YtdffjdlpbfcikaaDoor.kindR
