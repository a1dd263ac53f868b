import Derived.Test.YtemleibpmaclmaaTO
import Derived.Test.YtemleibpmaclmaaTP
namespace Go.Proofs.Ytemleibpmaclmaa.Kit
open Go.RowKit Go.Shelf Go.Deep
set_option linter.unusedVariables false

/-! ### a reader in the midst of gone: a is fed, j messages are out -/
def leftF (a : List UInt8) (j : Nat) : Sc := { fedF a with ms := (fedF a).ms.drop j }
def heldN (a : List UInt8) (j : Nat) : Nat := a.length - szs ((fedF a).ms.take j)
structure Gn (w W : World) (p : Nat) (sh : Bool) (a : List UInt8) (j : Nat) (R : Nat → Row) (wo : Option Addr) (wc : Nat) (lo : Option Addr) (lc : Nat) (M : Nat → Row × Row) : Prop where
  hj : j ≤ (fedF a).ms.length
  rd : Rd w W p 76 [.bool sh, .int .i64 (heldN a j : Int)] (leftF a j) R wo wc
  out : OutL W lo lc ((fedF a).ms.take j) M
  ap : ∀ g, OIs lo lc ((fedF a).ms.take j).length M g → ¬ RIs p (leftF a j).ms.length R wo wc g
  new : ∀ g, OIs lo lc ((fedF a).ms.take j).length M g → w.heap.size ≤ g
theorem szs_take (ms : List Msg) (j : Nat) : szs (ms.take j) ≤ szs ms := by
  conv => rhs; rw [← List.take_append_drop j ms]
  rw [szs_add]
  omega
theorem Rd.news {w W : World} {p T : Nat} {tl : List Value} {s : Sc} {R : Nat → Row} {wo : Option Addr} {wc : Nat} (h : Rd w W p T tl s R wo wc) {g : Nat} (k : RIs p s.ms.length R wo wc g) : w.heap.size ≤ g := by
  rcases k with rfl | k | ⟨i, hi, k⟩
  · exact h.pnew
  · exact h.wnew g k
  · exact h.rnew i hi g k
theorem left_ok (a : List UInt8) (j : Nat) : (leftF a j).e ≠ 0 ∨ (PreOk (leftF a j) ∧ 0 < (leftF a j).left) := by
  rcases fed_ok a with h | ⟨h, hl⟩
  · exact .inl h.1
  · exact .inr ⟨⟨h.st9, h.h0, h.h1, h.h2, h.h3, h.h4, h.h9, h.m4, h.m5, h.m6, h.m9, h.b6, h.b7, h.b8, h.b9, h.lm, h.lb, h.me, h.bo, h.e0, h.lf⟩, hl⟩
theorem Gn.begin {w W : World} {p : Nat} {R : Nat → Row} {wo : Option Addr} {wc : Nat} (h : Rd w W p 76 [.bool false, .int .i64 ((0 : Nat) : Int)] (newF 65536 4194304) R wo wc) (M : Nat → Row × Row) : Gn w W p false [] 0 R wo wc none 0 M := by
  have e : fedF [] = startF 65536 4194304 [] := feed_nil (startw_ok [])
  have e2 : leftF [] 0 = newF 65536 4194304 := by unfold leftF; rw [e]; rfl
  refine ⟨Nat.zero_le _, ?_, ?_, ?_, ?_⟩
  · rw [e2]
    have e3 : heldN [] 0 = 0 := by simp [heldN]
    rw [e3]
    exact h
  · rw [List.take_zero]; exact OutL.nil _ _
  · rintro g (k | ⟨i, hi, _⟩)
    · simp [Value.ownBlock] at k
    · simp at hi
  · rintro g (k | ⟨i, hi, _⟩)
    · simp [Value.ownBlock] at k
    · simp at hi
theorem Gn.grow {w W W' : World} {p : Nat} {sh : Bool} {a : List UInt8} {j : Nat} {R : Nat → Row} {wo : Option Addr} {wc : Nat} {lo : Option Addr} {lc : Nat} {M : Nat → Row × Row} (h : Gn w W p sh a j R wo wc lo lc M) (g : Gr W W') : Gn w W' p sh a j R wo wc lo lc M :=
  ⟨h.hj, h.rd.grow g, h.out.grow g, h.ap, h.new⟩
theorem Gn.feed {w W V : World} {p : Nat} {sh : Bool} {a q : List UInt8} {j : Nat} {R R' : Nat → Row} {wo wo' : Option Addr} {wc wc' : Nat} {lo : Option Addr} {lc : Nat} {M : Nat → Row × Row} (h : Gn w W p sh a j R wo wc lo lc M)
    (f : From w W V p 76 [.bool sh, .int .i64 ((heldN a j + q.length : Nat) : Int)] (leftF a j).ms.length R wo wc (feedF (leftF a j) q) R' wo' wc') : Gn w V p sh (a ++ q) j R' wo' wc' lo lc M := by
  obtain ⟨d1, d2, d3⟩ := fed_drop a q j h.hj
  have e1 : feedF (leftF a j) q = leftF (a ++ q) j := d1
  have e2 : heldN a j + q.length = heldN (a ++ q) j := by
    have := fed_size a
    have := szs_take (fedF a).ms j
    unfold heldN
    rw [d2, List.length_append]
    omega
  rw [e1, e2] at f
  obtain ⟨o1, o2⟩ := h.out.from h.ap f
  exact ⟨by have := h.hj; omega, f.rd, by rw [d2]; exact o1, by rw [d2]; exact o2, by rw [d2]; exact h.new⟩
theorem Gn.shut {w W V : World} {p : Nat} {sh sh' : Bool} {a : List UInt8} {j : Nat} {R : Nat → Row} {wo : Option Addr} {wc : Nat} {lo : Option Addr} {lc : Nat} {M : Nat → Row × Row} (h : Gn w W p sh a j R wo wc lo lc M)
    (f : From w W V p 76 [.bool sh', .int .i64 (heldN a j : Int)] (leftF a j).ms.length R wo wc (leftF a j) R wo wc) : Gn w V p sh' a j R wo wc lo lc M := by
  obtain ⟨o1, o2⟩ := h.out.from h.ap f
  exact ⟨h.hj, f.rd, o1, o2, h.new⟩
end Go.Proofs.Ytemleibpmaclmaa.Kit
