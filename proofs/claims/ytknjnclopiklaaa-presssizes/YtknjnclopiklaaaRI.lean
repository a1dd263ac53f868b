import Derived.Test.YtknjnclopiklaaaRE
import Derived.Test.YtknjnclopiklaaaRH
namespace Go.Proofs.Ytknjnclopiklaaa.pressR
open Go.ChangeShapes Go.WideShapes Go.ChangeAt Go.RowKit Go.Joins Go.Deep
set_option linter.unusedVariables false

theorem bytes30 : Try.prog.bytesOf 30 = 40 := by kernel_rfl
theorem add0 (b o i : Nat) : (⟨b, o, none⟩ : Addr).add i = ⟨b, o + i, none⟩ := by simp [Addr.add]
theorem mem_all {H : Type} {P : Program} {e : TypeId} {d : DataW H} {n : Nat} : ∀ {l : List (DataW H)}, d ∈ l → n ∈ d.weights P e → n ∈ DataW.weightsAll P e l
  | x :: l, h, hn => by
    simp only [DataW.weightsAll, List.mem_append]
    rcases List.mem_cons.1 h with e | e
    · subst e; exact .inl hn
    · exact .inr (mem_all e hn)
set_option maxRecDepth 100000 in
/-- a list of Ops, read -/
theorem ops_at {H : Type} {enc : TypeId × Value → H} {W : World} {fuel : Nat} {v : Value} {d : DataW H} {p : List MemPlace} (h : DataW.trod enc Try.prog W 0 (fun _ => true) true fuel 28 [v] = some (d, p)) (hw : ∀ n ∈ d.weights Try.prog 28, n ≤ reachBytes) :
    ∃ lo l lc, v = .slice lo (l : List Kit.OpD).length lc ∧ Kit.OpsAt W lo l := by
  rcases open_slice Try.underlying28 h with ⟨hcs, _⟩ | ⟨a, len, cap, m, n, D, Pl, hcs, _, hl, hm, hmm, hx, hc⟩
  · simp at hcs
    subst hcs
    exact ⟨none, [], 0, rfl, by simp, fun h => absurd rfl h⟩
  · simp at hcs
    subst hcs
    simp only [if_true] at hmm
    subst hmm
    simp only [Prod.mk.injEq] at hx
    rw [hx.1] at hw
    simp only [DataW.weights, Try.underlying28] at hw
    have hlen : len * 40 ≤ 140737488355328 := by
      have := hw _ List.mem_cons_self
      rw [bytes30] at this
      simp only [List.length_map, List.length_range, reachBytes] at this
      omega
    have hall : ∀ i, i < len → ∃ x : Kit.OpD, W.cells? 0 (a.add (i * 3)) 3 = some [.int .i64 x.how, .slice x.ao x.bs.length x.ca, .int .i64 x.raw] ∧ Kit.OpIn W x := by
      intro i hi
      obtain ⟨cs', hc', ht⟩ := hc i (by omega)
      rw [cells30] at hc'
      obtain ⟨_, hl', _⟩ := World.cells?_some hc'
      obtain ⟨how, ao, bs, ca, raw, rfl, h1, h2, h3⟩ := op_at hl' ht (fun n hn => hw n (List.mem_cons_of_mem _ (List.mem_append.2 (.inl (mem_all (List.mem_map_of_mem (f := D) (List.mem_range.2 hi)) hn)))))
      exact ⟨⟨how, ao, bs, ca, raw⟩, hc', h1, h2, h3⟩
    obtain ⟨F, hF⟩ := choose_lt hall
    refine ⟨some a, (List.range len).map F, m, by simp, by simp; omega, fun h0 => ?_⟩
    have h0' : 0 < len := by cases len with | zero => simp at h0 | succ n => omega
    obtain ⟨b, off, spot⟩ := a
    have hsp : spot = none := by
      obtain ⟨_, hl', hcell'⟩ := World.cells?_some (hF 0 h0').1
      have g0 := hcell' 0 (by omega)
      have hsp := World.cell?_spot (g0.trans rfl)
      simp [Addr.add] at hsp
      exact hsp
    subst hsp
    refine ⟨b, off, rfl, fun i hi => ?_⟩
    simp at hi
    have he : ((List.range len).map F)[i]'(by simpa using hi) = F i := by simp
    rw [he]
    obtain ⟨_, _, hcell⟩ := World.cells?_some (hF i hi).1
    rw [add0] at hcell
    have g0 := hcell 0 (by omega)
    have g1 := hcell 1 (by omega)
    have g2 := hcell 2 (by omega)
    simp only [add0, Nat.add_zero, List.getElem?_cons_zero, List.getElem?_cons_succ] at g0 g1 g2
    exact ⟨g0, g1, g2, (hF i hi).2⟩
end Go.Proofs.Ytknjnclopiklaaa.pressR
