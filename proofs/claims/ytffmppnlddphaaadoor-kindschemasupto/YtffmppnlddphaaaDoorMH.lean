import Derived.Test.YtffmppnlddphaaaDoorLR
import Derived.Test.YtffmppnlddphaaaDoorMG
namespace Go.Proofs.YtffmppnlddphaaaDoor.kindR
open Go.ChangeShapes Go.WideShapes Go.ChangeAt Go.RowKit Go.Deep
open Go.Proofs.YtffmppnlddphaaaDoor
set_option linter.unusedVariables false

set_option maxRecDepth 100000 in
/-- one schema, read -/
theorem sch_at {H : Type} {enc : TypeId × Value → H} {W : World} {fuel : Nat} {cs : List Value} {d : DataW H} {p : List MemPlace} (hl : cs.length = 2)
    (h : DataW.trod enc Tryd.prog W 0 (fun _ => true) true fuel 27 cs = some (d, p)) (hb : Rows.uptoBulk d ≤ 1048576) :
    ∃ fo fs cf no ns cn, cs = [.slice fo (fs : List Kit.FT).length cf, .slice no (ns : List (ByteArray × ByteArray)).length cn] ∧ Kit.Sch (fun b => b < W.heap.size) W 1048576 fo no cf cn fs ns := by
  obtain ⟨xs, m2, _, hd, _, hxs, hf⟩ := DataW.trod_struct Tryd.underlying27 h
  obtain ⟨c0, c1, rfl⟩ := list2 cs hl
  obtain ⟨y0, y1, rfl⟩ := list2 xs (hxs.trans rfl)
  have f0 : DataW.trod enc Tryd.prog W 0 (fun _ => true) true m2 24 ((([c0, c1] : List Value).drop 0).take (Tryd.prog.cellsOf 24)) = some y0 := hf 0 _ rfl
  have f1 : DataW.trod enc Tryd.prog W 0 (fun _ => true) true m2 25 ((([c0, c1] : List Value).drop 1).take (Tryd.prog.cellsOf 25)) = some y1 := hf 1 _ rfl
  rw [cells24] at f0
  rw [cells25] at f1
  simp only [List.drop_zero, List.drop_succ_cons, List.take_succ_cons, List.take_zero] at f0 f1
  simp only [Prod.mk.injEq] at hd
  rw [hd.1] at hb
  simp only [Rows.uptoBulk] at hb
  have hy0 : Rows.uptoBulk y0.1 ≤ Rows.uptoBulkAll ([y0, y1].map fun x => x.1) := part_le (List.mem_map_of_mem (by simp))
  have hy1 : Rows.uptoBulk y1.1 ≤ Rows.uptoBulkAll ([y0, y1].map fun x => x.1) := part_le (List.mem_map_of_mem (by simp))
  obtain ⟨fo, l1, cf, rfl, h1, h2⟩ := fields_at 1048576 (Nat.le_refl _) (d := y0.1) (p := y0.2) f0 (by omega)
  obtain ⟨no, l2, cn, rfl, h3⟩ := notes_at (d := y1.1) (p := y1.2) f1 (by omega)
  exact ⟨fo, l1, cf, no, l2, cn, rfl, h2, h1, h3⟩
set_option maxRecDepth 100000 in
/-- a list of texts, read -/
theorem strs_at {H : Type} {enc : TypeId × Value → H} {W : World} {fuel : Nat} {v : Value} {d : DataW H} {p : List MemPlace}
    (h : DataW.trod enc Tryd.prog W 0 (fun _ => true) true fuel 47 [v] = some (d, p)) (hb : Rows.uptoBulk d ≤ 1048576) : ∃ ao l ca, v = .slice ao l.length ca ∧ l.length ≤ Kit.big ∧ Kit.StrsAt W ao l := by
  rcases open_slice Tryd.underlying47 h with ⟨hcs, _⟩ | ⟨a, len, cap, m, n, D, Pl, hcs, _, hl, hm, hmm, hx, hc⟩
  · simp at hcs
    subst hcs
    exact ⟨none, [], 0, rfl, by simp [Kit.big], fun h => absurd rfl h⟩
  · simp at hcs
    subst hcs
    simp only [if_true] at hmm
    subst hmm
    simp only [Prod.mk.injEq] at hx
    have hlen : len ≤ 1048576 := by
      rw [hx.1] at hb
      simp only [Rows.uptoBulk] at hb
      have := length_le ((List.range len).map D)
      simp at this
      omega
    have hall : ∀ i, i < len → ∃ q : ByteArray, W.cells? 0 (a.add (i * 1)) 1 = some [.string q] := by
      intro i hi
      obtain ⟨cs', hc', ht⟩ := hc i (by omega)
      rw [cells9] at hc'
      obtain ⟨_, hl', _⟩ := World.cells?_some hc'
      obtain ⟨c0, rfl⟩ := List.length_eq_one_iff.1 hl'
      obtain ⟨s0, e0, _⟩ := DataW.trod_string Tryd.underlying9 ht
      simp at e0
      subst e0
      exact ⟨s0, hc'⟩
    have : Inhabited ByteArray := ⟨⟨#[]⟩⟩
    obtain ⟨F, hF⟩ := choose_lt hall
    refine ⟨some a, (List.range len).map F, m, by simp, by simp [Kit.big]; omega, fun h0 => ?_⟩
    have h0' : 0 < len := by cases len with | zero => simp at h0 | succ n => omega
    obtain ⟨b, off, spot⟩ := a
    have hsp : spot = none := by
      obtain ⟨_, hl', hcell'⟩ := World.cells?_some (hF 0 h0')
      have g0 := hcell' 0 (by omega)
      have hsp := World.cell?_spot (g0.trans rfl)
      simp [Addr.add] at hsp
      exact hsp
    subst hsp
    refine ⟨b, off, rfl, fun i hi => ?_⟩
    simp at hi
    have he : ((List.range len).map F)[i]'(by simpa using hi) = F i := by simp
    rw [he]
    obtain ⟨_, _, hcell⟩ := World.cells?_some (hF i hi)
    rw [add0] at hcell
    have g0 := hcell 0 (by omega)
    simp only [add0, Nat.add_zero, Nat.mul_one, List.getElem?_cons_zero] at g0
    exact g0
end Go.Proofs.YtffmppnlddphaaaDoor.kindR
