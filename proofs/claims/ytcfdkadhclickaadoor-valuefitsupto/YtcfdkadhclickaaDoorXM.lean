import Derived.Test.YtcfdkadhclickaaDoorVN
import Derived.Test.YtcfdkadhclickaaDoorWC
import Derived.Test.YtcfdkadhclickaaDoorWE
import Derived.Laws.BitsAllLaws
namespace Go.Proofs.YtcfdkadhclickaaDoor.Kit
open Go.RowKit Go.Shelf Go.Deep
set_option linter.unusedVariables false
attribute [local go_sem] run_store_func

/-! ### leaves of the document's fits and Order: Number 73, ranged 74, sign 61, place 62, nullable 72 -/
set_option maxRecDepth 100000 in
theorem number73 (k : Int) (hk : 1 ≤ k ∧ k ≤ 20) (w : World) : Calls Tryd.prog 73 #[.int .i64 k] w fun e w' => e = .returned (.bool (decide (2 ≤ k) && decide (k ≤ 11))) ∧ w = w' := by
  have hk' : k = 1 ∨ k = 2 ∨ k = 3 ∨ k = 4 ∨ k = 5 ∨ k = 6 ∨ k = 7 ∨ k = 8 ∨ k = 9 ∨ k = 10 ∨ k = 11 ∨ k = 12 ∨ k = 13 ∨ k = 14 ∨ k = 15 ∨ k = 16 ∨ k = 17 ∨ k = 18 ∨ k = 19 ∨ k = 20 := by omega
  clear hk
  rcases hk' with rfl | rfl | rfl | rfl | rfl | rfl | rfl | rfl | rfl | rfl | rfl | rfl | rfl | rfl | rfl | rfl | rfl | rfl | rfl | rfl
  all_goals
    go_enter Tryd.func73, Tryd.ntmps73
    go_wp2
    go_ret
    exact ⟨rfl, rfl⟩
set_option maxRecDepth 100000 in
theorem sign61 (a b : Bool) (w : World) : Calls Tryd.prog 61 #[.bool a, .bool b] w fun e w' => e = .returned (.int .i64 (if a = true then -1 else if b = true then 1 else 0)) ∧ w = w' := by
  cases a <;> cases b
  all_goals
    go_enter Tryd.func61, Tryd.ntmps61
    go_wp2
    go_ret
    exact ⟨rfl, rfl⟩
/-- the kids' own nulls -/
def okN : Nat → FT → Prop
  | 0, _ => False
  | n + 1, f => nullB f = true ∧ ∀ k ∈ f.kids, okN n k
theorem okN_of_pre : ∀ (d : Nat) (l : List FT), deep d l → (∀ x ∈ pre d l, nullB x = true) → ∀ k ∈ l, okN d k
  | 0, l, hd, _, k, hk => by have : l = [] := hd; subst this; cases hk
  | d + 1, l, hd, h, k, hk => by
    have hin : ∀ x ∈ k :: pre d k.kids, x ∈ pre (d + 1) l := fun x hx => List.mem_flatMap.2 ⟨k, hk, hx⟩
    exact ⟨h _ (hin _ (by simp)), okN_of_pre d k.kids (hd k hk) fun x hx => h _ (hin _ (by simp [hx]))⟩
set_option maxRecDepth 100000 in
theorem null72_leaf (f0 : ByteArray) (f1 : Bool) (f2 f3 f4 f5 : Int) (ao : Option Addr) (n ca : Nat) (w : World) (h20 : (f2 == 20) = false) (h18 : f1 = true → (f2 == 18) = false) :
    Ans 72 #[.agg #[.string f0, .bool f1, .int .i64 f2, .int .i64 f3, .int .i64 f4, .int .i64 f5, .slice ao n ca]] f1 w := by
  intro W g
  have HG : Hid (∀ o, Gr W (W.alloc o)) := fun o => gr_alloc W o
  clear g
  cases f1 with
  | false =>
    go_enter Tryd.func72, Tryd.ntmps72
    go_wp2
    go_ret
    exact ⟨rfl, HG.out _⟩
  | true =>
    have h18 := h18 rfl
    have H18 : Hid ((f2 != 18) = true) := by show _ = _; simpa [bne] using h18
    clear h18
    go_enter Tryd.func72, Tryd.ntmps72
    go_wp2
    go_ret
    exact ⟨congrArg (fun b => Ending.returned (.bool b)) H18.out, HG.out _⟩
set_option maxRecDepth 100000 in
theorem null72_kid (f0 : ByteArray) (f1 : Bool) (f3 f4 f5 : Int) (kb ko n ca : Nat) (k0 : ByteArray) (k1 : Bool) (k2 k3 k4 k5 : Int) (kp : Option Addr) (kn kc : Nat) (r : Bool) (w : World) (hn : 0 < n)
    (g0 : w.cell? ⟨kb, ko, none⟩ = some (.string k0)) (g1 : w.cell? ⟨kb, ko + 1, none⟩ = some (.bool k1)) (g2 : w.cell? ⟨kb, ko + 2, none⟩ = some (.int .i64 k2)) (g3 : w.cell? ⟨kb, ko + 3, none⟩ = some (.int .i64 k3)) (g4 : w.cell? ⟨kb, ko + 4, none⟩ = some (.int .i64 k4)) (g5 : w.cell? ⟨kb, ko + 5, none⟩ = some (.int .i64 k5)) (g6 : w.cell? ⟨kb, ko + 6, none⟩ = some (.slice kp kn kc))
    (hF : Ans 72 #[.agg #[.string k0, .bool k1, .int .i64 k2, .int .i64 k3, .int .i64 k4, .int .i64 k5, .slice kp kn kc]] r w) :
    Ans 72 #[.agg #[.string f0, .bool f1, .int .i64 20, .int .i64 f3, .int .i64 f4, .int .i64 f5, .slice (some ⟨kb, ko, none⟩) n ca]] r w := by
  intro W g
  have HG : Hid (∀ o, Gr W (W.alloc o)) := fun o => gr_alloc W o
  have HGw := hidM g
  have HF := hidM hF
  have g0 := fun o => gr_c (g.trans (HG.out o) (fun _ _ h => h)) g0
  have g1 := fun o => gr_c (g.trans (HG.out o) (fun _ _ h => h)) g1
  have g2 := fun o => gr_c (g.trans (HG.out o) (fun _ _ h => h)) g2
  have g3 := fun o => gr_c (g.trans (HG.out o) (fun _ _ h => h)) g3
  have g4 := fun o => gr_c (g.trans (HG.out o) (fun _ _ h => h)) g4
  have g5 := fun o => gr_c (g.trans (HG.out o) (fun _ _ h => h)) g5
  have g6 := fun o => gr_c (g.trans (HG.out o) (fun _ _ h => h)) g6
  have hn' : (0 : Int) < (n : Int) := by omega
  clear hF g
  go_enter Tryd.func72, Tryd.ntmps72
  go_wp2_with (go_at_call 72; refine Hid.out ?_)
  unfold Hid
  refine Calls.mono (HF.out _ (HGw.out.trans (HG.out _) (fun _ _ h => h))) ?_
  rintro e w2 ⟨rfl, hg2⟩
  have HE := hidM ((HG.out _).trans hg2 (fun _ _ h => h))
  clear hg2
  go_wp2_with fail
  go_ret
  exact ⟨rfl, HE.out⟩
/-- of a field that may be: Nullable itself -/
theorem null72_any (S : Nat → Prop) (w : World) (hS : ∀ b, S b → b < w.heap.size) : ∀ (D : Nat) (f : FT) (ao : Option Addr) (ca : Nat), RowAt S w D ao f.kids → okF (D + 1) f → okN (D + 1) f →
    Ans 72 #[.agg #[.string f.name, .bool f.nul, .int .i64 f.kind, .int .i64 f.width, .int .i64 f.id, .int .i64 f.index, .slice ao f.kids.length ca]] f.nul w := by
  intro D
  induction D with
  | zero =>
    intro f ao ca hf ho hn
    have hk : f.kids = [] := hf
    have h20 : f.kind ≠ 20 := fun h => tab_kid ho.1 (.inr (.inr (.inr h))) hk
    refine null72_leaf _ _ _ _ _ _ _ _ _ w (by simp [h20]) (fun h => ?_)
    have := hn.1
    unfold nullB at this
    simp only [beq_eq_false_iff_ne]
    intro e
    rw [if_neg (by omega), if_pos e, h] at this
    cases this
  | succ D ih =>
    intro f ao ca hf ho hn
    by_cases h20 : f.kind = 20
    · have hne := tab_kid ho.1 (.inr (.inr (.inr h20)))
      obtain ⟨h0, he⟩ := head_get hne
      obtain ⟨kb, ko, rfl, hb, hi⟩ := hf.2 hne
      obtain ⟨go, gc, hc, hle, hrow⟩ := hi 0 h0
      have hm : f.kids[0]'h0 ∈ f.kids := List.getElem_mem h0
      have hF := ih (f.kids[0]'h0) go gc hrow (ho.2 _ hm) (hn.2 _ hm)
      simp only [Nat.zero_mul, Nat.add_zero] at hc
      have hnn : f.nul = (f.kids[0]'h0).nul := by
        have := hn.1
        unfold nullB at this
        rw [if_neg (by omega), if_neg (by omega), if_pos h20, List.getElem?_eq_getElem h0] at this
        simpa using this
      rw [h20]
      rw [← hnn] at hF
      exact null72_kid _ _ _ _ _ _ _ _ _ _ _ _ _ _ _ _ _ _ _ w h0 hc.c0 (by rw [hnn]; exact hc.c1) hc.c2 hc.c3 hc.c4 hc.c5 hc.c6 hF
    · refine null72_leaf _ _ _ _ _ _ _ _ _ w (by simp [h20]) (fun h => ?_)
      have := hn.1
      unfold nullB at this
      simp only [beq_eq_false_iff_ne]
      intro e
      rw [if_neg (by omega), if_pos e, h] at this
      cases this
end Go.Proofs.YtcfdkadhclickaaDoor.Kit
namespace Go.Proofs.YtcfdkadhclickaaDoor.Kit
open Go.RowKit Go.Shelf Go.Deep
set_option linter.unusedVariables false
attribute [local go_sem] run_store_func

/-! ### ranged 74, place 62 -/
set_option maxRecDepth 100000 in
set_option maxHeartbeats 2000000 in
theorem ranged74 (k n : Int) (hk : 2 ≤ k ∧ k ≤ 11) (w : World) : Calls Tryd.prog 74 #[.int .i64 k, .int .i64 n] w fun e w' => e = .returned (.bool (numB k n)) ∧ w = w' := by
  have hk' : k = 2 ∨ k = 3 ∨ k = 4 ∨ k = 5 ∨ k = 6 ∨ k = 7 ∨ k = 8 ∨ k = 9 ∨ k = 10 ∨ k = 11 := by omega
  clear hk
  obtain ⟨R, hR⟩ : ∃ R, R = numB k n := ⟨_, rfl⟩
  rw [← hR]
  rcases hk' with rfl | rfl | rfl | rfl | rfl | rfl | rfl | rfl | rfl | rfl
  all_goals
    have HR := hidM hR
    clear hR
    go_enter Tryd.func74, Tryd.ntmps74
    go_wp2
    all_goals go_ret
    all_goals
      refine ⟨congrArg (fun b => Ending.returned (.bool b)) ?_, rfl⟩
      rw [HR.out]
      first | rfl | (simp_all [numB]; done) | (simp [numB]; omega)
def placeOf (n : Int) : Int := rankOf n + 9223372036854775808
theorem xor_ones (X : Nat) (h : X < 18446744073709551616) : bits .xor .u64 (18446744073709551615 : Int) (X : Int) = 18446744073709551615 - (X : Int) := by
  show IntKind.u64.wrap ((BitVec.ofInt 64 18446744073709551615 ^^^ BitVec.ofInt 64 (X : Int)).toNat : Int) = _
  have h1 : BitVec.ofInt 64 18446744073709551615 = BitVec.allOnes 64 := by decide
  rw [h1, BitVec.allOnes_xor, BitVec.toNat_not, ofInt_u64 X (by omega)]
  simp [IntKind.wrap, IntKind.bits, IntKind.signed]
  omega
set_option maxRecDepth 100000 in
theorem place62 (n : Int) (h : is64 n) (w : World) : Calls Tryd.prog 62 #[.int .i64 n] w fun e w' => e = .returned (.int .u64 (placeOf n)) ∧ w = w' := by
  obtain ⟨R, hR⟩ : ∃ R, R = placeOf n := ⟨_, rfl⟩
  rw [← hR]
  have h1 := h.1
  have h2 := h.2
  by_cases h0 : n < 0
  · have hx : bits BinOp.xor IntKind.u64 IntKind.u64.max (IntKind.u64.wrap n) = R := by
      have e1 : IntKind.u64.wrap n = (((n + 18446744073709551616).toNat : Nat) : Int) := by
        simp [IntKind.wrap, IntKind.bits, IntKind.signed]
        omega
      rw [e1, show IntKind.u64.max = (18446744073709551615 : Int) by decide, xor_ones _ (by omega), hR]
      unfold placeOf rankOf
      rw [if_pos h0]
      omega
    have HX := hidM hx
    clear hR h h1 h2 hx
    go_enter Tryd.func62, Tryd.ntmps62
    go_wp2
    all_goals go_ret
    all_goals first | exact ⟨congrArg (fun z => Ending.returned (.int .u64 z)) HX.out, rfl⟩ | (exfalso; simp_all; done)
  · have hx : IntKind.u64.wrap (IntKind.u64.wrap n + 9223372036854775808) = R := by
      rw [hR]
      unfold placeOf rankOf
      rw [if_neg h0]
      simp [IntKind.wrap, IntKind.bits, IntKind.signed]
      omega
    have HX := hidM hx
    clear hR h h1 h2 hx
    go_enter Tryd.func62, Tryd.ntmps62
    go_wp2
    all_goals go_ret
    all_goals first | exact ⟨congrArg (fun z => Ending.returned (.int .u64 z)) HX.out, rfl⟩ | (exfalso; simp_all; done)
end Go.Proofs.YtcfdkadhclickaaDoor.Kit
