import Derived.Test.YtemleibpmaclmaaTR
namespace Go.Proofs.Ytemleibpmaclmaa.Kit
open Go.RowKit Go.Shelf Go.Deep
set_option linter.unusedVariables false

/-- Feed, in the midst of gone -/
theorem gfeed {w W : World} {p : Nat} {a q : List UInt8} {j : Nat} {R : Nat → Row} {wo : Option Addr} {wc : Nat} {lo : Option Addr} {lc : Nat} {M : Nat → Row × Row} {qo : Option Addr} {qc : Nat} (h : Gn w W p false a j R wo wc lo lc M) (hq : BytesAt W qo q) (hold : ∀ X o, qo = some ⟨X, o, none⟩ → X < w.heap.size) (hqc : q.length ≤ qc) (hqm : qc ≤ 9223372036854775807) (hlen : a.length + q.length ≤ 5000000000) :
    Calls Try.prog 20 #[.pointer (some ⟨p, 0, none⟩), .slice qo q.length qc] W fun e w' => e = .returned (.int .i64 0) ∧ ∃ R' wo' wc', Gn w w' p false (a ++ q) j R' wo' wc' lo lc M := by
  have h1 := fed_size a
  have h2 := szs_len (fedF a).ms
  have h3 : (leftF a j).ms.length ≤ (fedF a).ms.length := by show ((fedF a).ms.drop j).length ≤ _; rw [List.length_drop]; omega
  have h4 : heldN a j ≤ a.length := by unfold heldN; omega
  refine (feed_any h.rd hq hqc hqm (fun X o e k => by have := hold X o e; have := h.rd.news k; omega) (by omega) (by omega) (left_ok a j) (by omega)).mono ?_
  intro e w' k
  rw [if_neg (by simp)] at k
  obtain ⟨rfl, R', wo', wc', f⟩ := k
  exact ⟨rfl, R', wo', wc', h.feed f⟩
/-- Next, where none is left -/
theorem gnext_no {w W : World} {p : Nat} {sh : Bool} {a : List UInt8} {j : Nat} {R : Nat → Row} {wo : Option Addr} {wc : Nat} {lo : Option Addr} {lc : Nat} {M : Nat → Row × Row} (h : Gn w W p sh a j R wo wc lo lc M) (hj : j = (fedF a).ms.length) :
    (standsF (outF (fedF a)) sh).1 ≠ 2 ∧ Calls Try.prog 17 #[.pointer (some ⟨p, 0, none⟩)] W fun e w' => e = .returned (.tuple #[.agg #[.slice none 0 0, .slice none 0 0], .int .i64 (standsF (outF (fedF a)) sh).1, .int .i64 (standsF (outF (fedF a)) sh).2]) ∧ Gn w w' p sh a j R wo wc lo lc M := by
  have e : leftF a j = outF (fedF a) := by
    unfold leftF outF
    rw [hj, List.drop_length]
  have hn : (standsF (leftF a j) sh).1 ≠ 2 := by
    rw [e]
    unfold standsF
    rw [if_neg (by simp [outF])]
    split
    · simp
    · split
      · simp
      · split <;> simp
  have hst : (leftF a j).st ≤ 100 := by have := fed_st a; show (fedF a).st ≤ 100; omega
  refine ⟨by rw [← e]; exact hn, ?_⟩
  rw [← e]
  refine (next_no h.rd hst hn).mono ?_
  rintro x w' ⟨rfl, g⟩
  exact ⟨rfl, h.grow g⟩
/-- Next, where one is left -/
theorem gnext_one {w W : World} {p : Nat} {sh : Bool} {a : List UInt8} {j : Nat} {R : Nat → Row} {wo : Option Addr} {wc : Nat} {lo : Option Addr} {lc : Nat} {M : Nat → Row × Row} (h : Gn w W p sh a j R wo wc lo lc M) (hj : j < (fedF a).ms.length) (hlen : a.length ≤ 5000000000) (hm : (fedF a).ms[j].1.length ≤ 100000000 ∧ (fedF a).ms[j].2.length ≤ 100000000) :
    Calls Try.prog 17 #[.pointer (some ⟨p, 0, none⟩)] W fun e w' => e = .returned (.tuple #[.agg #[rv (R 3), rv (R 4)], .int .i64 2, .int .i64 0]) ∧ ∃ wo' wc', From w W w' p 76 [.bool sh, .int .i64 ((heldN a j : Int) - oneSize R)] (leftF a j).ms.length R wo wc (popF (leftF a j)) (pop2 R) wo' wc' ∧
      (∀ i, i = 3 ∨ i = 4 → w'.ownsRow 0 5 1 (rv (R i)) (R i).2.1 (bv ((leftF a j).row i)) ∧ ∀ x, (rv (R i)).ownBlock = some x → w.heap.size ≤ x ∧ ¬ RIs p (popF (leftF a j)).ms.length (pop2 R) wo' wc' x) := by
  obtain ⟨r3, r4⟩ := left_row hj
  have hl : (leftF a j).ms.length = (leftF a (j + 1)).ms.length + 1 := by rw [left_get hj]; rfl
  have o3 := h.rd.rows 3 (by omega)
  have o4 := h.rd.rows 4 (by omega)
  rw [r3] at o3
  rw [r4] at o4
  have h4 : heldN a j ≤ a.length := by unfold heldN; omega
  have hst : (leftF a j).st ≤ 100 := by have := fed_st a; show (fedF a).st ≤ 100; omega
  refine (next_one h.rd hst hl (by rw [own_len o3]; exact hm.1) (by rw [own_len o4]; exact hm.2) (by omega)).mono ?_
  rintro e w' ⟨rfl, wo', wc', f, k, _⟩
  exact ⟨rfl, wo', wc', f, k⟩
/-- Feed of the next k bytes of a row -/
theorem gfeed_at {w W : World} {p X off bc N A k : Nat} {b : List UInt8} {j : Nat} {lo : Option Addr} {lc : Nat} (h : ∃ R wo wc M, Gn w W p false (b.take A) j R wo wc lo lc M) (hN : b.length = N) (hb : BytesAt w (some ⟨X, off, none⟩) b) (hX : X < w.heap.size) (hbc : N ≤ bc) (hbm : bc ≤ 9223372036854775807) (hNl : N ≤ 5000000000) (hk : A + k ≤ N) :
    Calls Try.prog 20 #[.pointer (some ⟨p, 0, none⟩), .slice (some ⟨X, off + A, none⟩) k (bc - A)] W fun e w' => e = .returned (.int .i64 0) ∧ ∃ R wo wc M, Gn w w' p false (b.take (A + k)) j R wo wc lo lc M := by
  obtain ⟨R, wo, wc, M, h⟩ := h
  have hl : ((b.drop A).take k).length = k := by rw [List.length_take, List.length_drop]; omega
  have hq : BytesAt W (some ⟨X, off + A, none⟩) ((b.drop A).take k) := fun hn => by
    refine ⟨X, off + A, rfl, fun i hi => ?_⟩
    rw [hl] at hi
    obtain ⟨b', o', e, hc⟩ := (hb.gr h.rd.gr) (fun z => by rw [z] at hN; simp at hN; omega)
    cases e
    have := hc (A + i) (by omega)
    rw [← Nat.add_assoc] at this
    rw [this]
    simp
  have := gfeed (qc := bc - A) h hq (fun Y o e => by cases e; exact hX) (by omega) (by omega) (by rw [List.length_take, hl]; omega)
  rw [hl] at this
  refine this.mono ?_
  rintro e w' ⟨rfl, R', wo', wc', k'⟩
  refine ⟨rfl, R', wo', wc', M, ?_⟩
  rw [List.take_add]
  exact k'
end Go.Proofs.Ytemleibpmaclmaa.Kit
