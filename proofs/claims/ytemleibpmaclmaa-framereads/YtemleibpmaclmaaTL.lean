import Derived.Test.YtemleibpmaclmaaRE
import Derived.Test.YtemleibpmaclmaaTF
namespace Go.Proofs.Ytemleibpmaclmaa.frameR
open Go.ChangeShapes Go.WideShapes Go.ChangeAt Go.RowKit Go.Joins Go.Deep
set_option linter.unusedVariables false

theorem bytes24 : Try.prog.bytesOf 24 = 48 := by kernel_rfl
theorem bytes3 : Try.prog.bytesOf 3 = 8 := by kernel_rfl
theorem addAt (b o i : Nat) : (⟨b, o, none⟩ : Addr).add i = ⟨b, o + i, none⟩ := by simp [Addr.add]
theorem mem_all {H : Type} {P : Program} {e : TypeId} {d : DataW H} {n : Nat} : ∀ {l : List (DataW H)}, d ∈ l → n ∈ d.weights P e → n ∈ DataW.weightsAll P e l
  | x :: l, h, hn => by
    simp only [DataW.weightsAll, List.mem_append]
    rcases List.mem_cons.1 h with e | e
    · subst e; exact .inl hn
    · exact .inr (mem_all e hn)
theorem choose_lt {α : Type} {n : Nat} {P : Nat → α → Prop} [Inhabited α] (h : ∀ i, i < n → ∃ x, P i x) : ∃ F : Nat → α, ∀ i, i < n → P i (F i) :=
  ⟨fun i => if hi : i < n then Classical.choose (h i hi) else default, fun i hi => by simp only [hi, dif_pos]; exact Classical.choose_spec (h i hi)⟩
set_option maxRecDepth 100000 in
/-- a list of messages, read -/
theorem msgs_at {H : Type} {enc : TypeId × Value → H} {W : World} {fuel : Nat} {v : Value} {d : DataW H} {p : List MemPlace} (h : DataW.trod enc Try.prog W 0 (fun _ => true) true fuel 58 [v] = some (d, p)) (hw : ∀ n ∈ d.weights Try.prog 58, n ≤ reachBytes) :
    ∃ lo l lc, v = .slice lo (l : List Kit.Msg).length lc ∧ l.length ≤ 140737488355328 ∧ Kit.MsgsAt W lo l := by
  rcases open_slice Try.underlying58 h with ⟨hcs, _⟩ | ⟨a, len, cap, m, n, D, Pl, hcs, _, hl, hm, hmm, hx, hc⟩
  · simp at hcs
    subst hcs
    exact ⟨none, [], 0, rfl, by simp, fun h => absurd rfl h⟩
  · simp at hcs
    subst hcs
    simp only [if_true] at hmm
    subst hmm
    simp only [Prod.mk.injEq] at hx
    rw [hx.1] at hw
    simp only [DataW.weights, Try.underlying58] at hw
    have hlen : len * 48 ≤ 140737488355328 := by
      have := hw _ List.mem_cons_self
      rw [bytes24] at this
      simp only [List.length_map, List.length_range, reachBytes] at this
      omega
    have hall : ∀ i, i < len → ∃ x : Kit.Msg, ∃ mo mc bo bc, W.cells? 0 (a.add (i * 2)) 2 = some [.slice mo x.1.length mc, .slice bo x.2.length bc] ∧ (x.1.length ≤ mc ∧ x.1.length ≤ 140737488351232 ∧ Kit.BytesAt W mo x.1) ∧ (x.2.length ≤ bc ∧ x.2.length ≤ 140737488351232 ∧ Kit.BytesAt W bo x.2) := by
      intro i hi
      obtain ⟨cs', hc', ht⟩ := hc i (by omega)
      rw [cells24] at hc'
      obtain ⟨_, hl', _⟩ := World.cells?_some hc'
      obtain ⟨mo, m1, mc, bo, b1, bc, rfl, h1, h2⟩ := mess_at hl' ht (fun n hn => hw n (List.mem_cons_of_mem _ (List.mem_append.2 (.inl (mem_all (List.mem_map_of_mem (f := D) (List.mem_range.2 hi)) hn)))))
      exact ⟨(m1, b1), mo, mc, bo, bc, hc', h1, h2⟩
    obtain ⟨F, hF⟩ := choose_lt hall
    refine ⟨some a, (List.range len).map F, m, by simp, by simp; omega, fun h0 => ?_⟩
    have h0' : 0 < len := by cases len with | zero => simp at h0 | succ n => omega
    obtain ⟨b, off, spot⟩ := a
    have hsp : spot = none := by
      obtain ⟨_, _, _, _, hc0, _⟩ := hF 0 h0'
      obtain ⟨_, hl', hcell'⟩ := World.cells?_some hc0
      have g0 := hcell' 0 (by omega)
      have hsp := World.cell?_spot (g0.trans rfl)
      simp [Addr.add] at hsp
      exact hsp
    subst hsp
    refine ⟨b, off, rfl, fun i hi => ?_⟩
    simp at hi
    have he : ((List.range len).map F)[i]'(by simpa using hi) = F i := by simp
    rw [he]
    obtain ⟨mo, mc, bo, bc, hci, ⟨x1, x2, x3⟩, y1, y2, y3⟩ := hF i hi
    obtain ⟨_, _, hcell⟩ := World.cells?_some hci
    rw [addAt] at hcell
    have g0 := hcell 0 (by omega)
    have g1 := hcell 1 (by omega)
    simp only [addAt, Nat.add_zero, List.getElem?_cons_zero, List.getElem?_cons_succ] at g0 g1
    rw [Nat.mul_comm i 2] at g0 g1
    exact ⟨mo, mc, bo, bc, g0, g1, x1, x2, x3, y1, y2, y3⟩
end Go.Proofs.Ytemleibpmaclmaa.frameR
