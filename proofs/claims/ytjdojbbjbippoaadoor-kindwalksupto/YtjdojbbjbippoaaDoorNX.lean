import Derived.Test.YtjdojbbjbippoaaDoorND
import Derived.Test.YtjdojbbjbippoaaDoorPE
import Derived.Test.YtjdojbbjbippoaaDoorNT
namespace Go.Proofs.YtjdojbbjbippoaaDoor.kindR
open Go.ChangeShapes Go.WideShapes Go.ChangeAt Go.RowKit Go.Deep
open Go.Proofs.YtjdojbbjbippoaaDoor
set_option linter.unusedVariables false
set_option maxRecDepth 100000 in
/-- whole numbers, read: how many, and how great they are -/
theorem zs_at {H : Type} {enc : TypeId × Value → H} {W : World} {fuel : Nat} {v : Value} {d : DataW H} {p : List MemPlace}
    (h : DataW.trod enc Tryd.prog W 0 (fun _ => true) true fuel 26 [v] = some (d, p)) (hb : Rows.uptoBulk d ≤ 1048576) : ∃ ao l ca, v = .slice ao (l : List Int).length ca ∧ l.length ≤ 1048576 ∧ l.length ≤ ca ∧ Kit.ZsAt W ao l ∧ ∀ z ∈ l, -9223372036854775808 ≤ z := by
  rcases open_slice Tryd.underlying26 h with ⟨hcs, _⟩ | ⟨a, len, cap, m, n, D, Pl, hcs, _, hl, hm, hmm, hx, hc⟩
  · simp at hcs
    subst hcs
    exact ⟨none, [], 0, rfl, by simp, by simp, fun h => absurd rfl h, fun z hz => by cases hz⟩
  · simp at hcs
    subst hcs
    simp only [if_true] at hmm
    subst hmm
    simp only [Prod.mk.injEq] at hx
    have hlen : len ≤ 1048576 := by
      rw [hx.1] at hb
      simp only [Rows.uptoBulk] at hb
      have := length_le ((List.range len).map D)
      simp at this
      omega
    have hall : ∀ i, i < len → ∃ q : Int, W.cells? 0 (a.add (i * 1)) 1 = some [.int .i64 q] ∧ -9223372036854775808 ≤ q := by
      intro i hi
      obtain ⟨cs', hc', ht⟩ := hc i (by omega)
      rw [cells3] at hc'
      obtain ⟨_, hl', _⟩ := World.cells?_some hc'
      obtain ⟨c0, rfl⟩ := List.length_eq_one_iff.1 hl'
      obtain ⟨s0, e0, _, hwf⟩ := DataW.trod_int Tryd.underlying3 ht
      simp at e0
      subst e0
      simp [Lit.wf, IntKind.min, IntKind.max, IntKind.signed, IntKind.bits] at hwf
      exact ⟨s0, hc', hwf.1⟩
    obtain ⟨F, hF⟩ := choose_lt hall
    refine ⟨some a, (List.range len).map F, m, by simp, by simp; omega, by simp; omega, fun h0 => ?_, fun z hz => ?_⟩
    · have h0' : 0 < len := by cases len with | zero => simp at h0 | succ n => omega
      obtain ⟨b, off, spot⟩ := a
      have hsp : spot = none := by
        obtain ⟨_, hl', hcell'⟩ := World.cells?_some (hF 0 h0').1
        have g0 := hcell' 0 (by omega)
        have hsp := World.cell?_spot (g0.trans rfl)
        simp [Addr.add] at hsp
        exact hsp
      subst hsp
      refine ⟨b, off, rfl, fun i hi => ?_⟩
      simp at hi
      have he : ((List.range len).map F)[i]'(by simpa using hi) = F i := by simp
      rw [he]
      obtain ⟨_, _, hcell⟩ := World.cells?_some (hF i hi).1
      rw [add0] at hcell
      have g0 := hcell 0 (by omega)
      simp only [add0, Nat.add_zero, Nat.mul_one, List.getElem?_cons_zero] at g0
      exact g0
    · obtain ⟨i, hi, rfl⟩ := List.mem_map.1 hz
      exact (hF i (List.mem_range.1 hi)).2
end Go.Proofs.YtjdojbbjbippoaaDoor.kindR
