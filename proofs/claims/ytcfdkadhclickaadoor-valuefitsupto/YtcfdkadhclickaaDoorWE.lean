import Derived.Test.YtcfdkadhclickaaDoorVB
import Derived.Test.YtcfdkadhclickaaDoorLP
import Derived.Test.YtcfdkadhclickaaDoorVG
import Derived.Laws.BitsAllLaws
import Derived.Deep.RegionHeld3
namespace Go.Proofs.YtcfdkadhclickaaDoor.Kit
open Go.RowKit Go.Shelf Go.Deep
set_option linter.unusedVariables false
attribute [local go_sem] run_store_func

/-! ### leaves of the order -/
set_option maxRecDepth 100000 in
theorem nan64_any (x : Int) (w : World) : Calls Tryd.prog 87 #[.int .i64 x] w fun e w' => e = .returned (.bool false) ∧ w = w' := by
  go_enter Tryd.func87, Tryd.ntmps87
  go_wp2_with fail
  go_ret
  exact ⟨rfl, rfl⟩
set_option maxRecDepth 100000 in
theorem nanU_any (x : Int) (w : World) : Calls Tryd.prog 86 #[.int .u64 x] w fun e w' => e = .returned (.bool false) ∧ w = w' := by
  go_enter Tryd.func86, Tryd.ntmps86
  go_wp2_with fail
  go_ret
  exact ⟨rfl, rfl⟩
set_option maxRecDepth 100000 in
theorem cmp64_any (a b : Int) (w : World) : Calls Tryd.prog 59 #[.int .i64 a, .int .i64 b] w fun e w' => e = .returned (.int .i64 (cmpI a b)) ∧ w = w' := by
  have hn := fun x w => nan64_any x w
  by_cases c1 : a < b
  · have HE : Hid (cmpI a b = -1) := by show _ = _; unfold cmpI; rw [if_pos c1]
    go_enter Tryd.func59, Tryd.ntmps59
    go_wp2_with (go_at_call 87; refine (hn _ _).mono ?_; rintro e w' ⟨rfl, rfl⟩)
    go_ret
    exact ⟨by rw [HE.out]; rfl, rfl⟩
  by_cases c2 : b < a
  · have HE : Hid (cmpI a b = 1) := by show _ = _; unfold cmpI; rw [if_neg c1, if_pos c2]
    go_enter Tryd.func59, Tryd.ntmps59
    go_wp2_with (go_at_call 87; refine (hn _ _).mono ?_; rintro e w' ⟨rfl, rfl⟩)
    go_ret
    exact ⟨by rw [HE.out]; rfl, rfl⟩
  have HE : Hid (cmpI a b = 0) := by show _ = _; unfold cmpI; rw [if_neg c1, if_neg c2]
  go_enter Tryd.func59, Tryd.ntmps59
  go_wp2_with (go_at_call 87; refine (hn _ _).mono ?_; rintro e w' ⟨rfl, rfl⟩)
  go_ret
  exact ⟨by rw [HE.out]; rfl, rfl⟩
set_option maxRecDepth 100000 in
theorem cmpU_any (a b : Int) (w : World) : Calls Tryd.prog 58 #[.int .u64 a, .int .u64 b] w fun e w' => e = .returned (.int .i64 (cmpI a b)) ∧ w = w' := by
  have hn := fun x w => nanU_any x w
  by_cases c1 : a < b
  · have HE : Hid (cmpI a b = -1) := by show _ = _; unfold cmpI; rw [if_pos c1]
    go_enter Tryd.func58, Tryd.ntmps58
    go_wp2_with (go_at_call 86; refine (hn _ _).mono ?_; rintro e w' ⟨rfl, rfl⟩)
    go_ret
    exact ⟨by rw [HE.out]; rfl, rfl⟩
  by_cases c2 : b < a
  · have HE : Hid (cmpI a b = 1) := by show _ = _; unfold cmpI; rw [if_neg c1, if_pos c2]
    go_enter Tryd.func58, Tryd.ntmps58
    go_wp2_with (go_at_call 86; refine (hn _ _).mono ?_; rintro e w' ⟨rfl, rfl⟩)
    go_ret
    exact ⟨by rw [HE.out]; rfl, rfl⟩
  have HE : Hid (cmpI a b = 0) := by show _ = _; unfold cmpI; rw [if_neg c1, if_neg c2]
  go_enter Tryd.func58, Tryd.ntmps58
  go_wp2_with (go_at_call 86; refine (hn _ _).mono ?_; rintro e w' ⟨rfl, rfl⟩)
  go_ret
  exact ⟨by rw [HE.out]; rfl, rfl⟩
/-! ### may a field be -/
set_option maxRecDepth 100000 in
set_option maxHeartbeats 1000000 in
theorem mayBe_any {f0 : ByteArray} {f1 : Bool} {f2 f3 f4 f5 : Int} {ao : Option Addr} {n ca : Nat} {w : World} {er : Int} {p : List Nat} {tt : Int} (h : Tells w 46 (.agg #[.string f0, .bool f1, .int .i64 f2, .int .i64 f3, .int .i64 f4, .int .i64 f5, .slice ao n ca]) er p tt) :
    ∀ W, Gr w W → Calls Tryd.prog 24 #[.agg #[.string f0, .bool f1, .int .i64 f2, .int .i64 f3, .int .i64 f4, .int .i64 f5, .slice ao n ca]] W fun e w' => e = .returned (.bool (er == 0)) ∧ Gr W w' := by
  intro W g
  have hfl : ∀ vo vn vc w, (Instr.field 72 (.agg #[.int .i64 er, .slice vo vn vc, .int .i64 tt]) 0).run Tryd.prog w = .ok (.int .i64 er) w := fun vo vn vc w => by kernel_rfl
  have gA := gr_alloc W (.cells #[.string f0, .bool f1, .int .i64 f2, .int .i64 f3, .int .i64 f4, .int .i64 f5, .slice ao n ca] 26)
  have HC := hidM (h _ (g.trans gA (fun _ _ h => h)))
  have HG := hidM gA
  obtain ⟨q, hq⟩ : ∃ q, q = (er == 0) := ⟨_, rfl⟩
  rw [← hq]
  have hq' := hq.symm
  clear h gA g hq
  go_enter Tryd.func24, Tryd.ntmps24
  go_wp2_with (go_at_call 46; refine Hid.out ?_)
  unfold Hid
  refine Calls.mono HC.out ?_
  rintro e w' ⟨vo, vc, rfl, hg, -⟩
  have HG2 := hidM (HG.out.trans hg (fun _ _ h => h))
  clear hg
  go_wp2_with fail
  go_ret
  exact ⟨rfl, HG2.out⟩
end Go.Proofs.YtcfdkadhclickaaDoor.Kit
namespace Go.Proofs.YtcfdkadhclickaaDoor.Kit
open Go.RowKit Go.Shelf Go.Deep
set_option linter.unusedVariables false
attribute [local go_sem] run_store_func

/-! ### leaves of compare: rank 60, compareNull 54 -/
theorem xor63 (y : Nat) (h : y < 9223372036854775808) : y ^^^ 9223372036854775807 = 9223372036854775807 - y := by
  have e := congrArg BitVec.toNat (BitVec.xor_allOnes (x := BitVec.ofNat 63 y))
  rw [BitVec.toNat_xor, BitVec.toNat_not, BitVec.toNat_allOnes, BitVec.toNat_ofNat, Nat.mod_eq_of_lt (show y < 2 ^ 63 from h)] at e
  exact e
theorem xor64 (X : Nat) (h1 : 9223372036854775808 ≤ X) (h2 : X < 18446744073709551616) : X ^^^ 9223372036854775807 = 9223372036854775808 + (9223372036854775807 - (X - 9223372036854775808)) := by
  have d := Nat.xor_div_two_pow (a := X) (b := 9223372036854775807) (n := 63)
  have m := Nat.xor_mod_two_pow (a := X) (b := 9223372036854775807) (n := 63)
  have e1 : X / 2 ^ 63 = 1 := by omega
  have e2 : X % 2 ^ 63 = X - 9223372036854775808 := by omega
  rw [e1, show (9223372036854775807 : Nat) / 2 ^ 63 = 0 by decide] at d
  rw [e2, show (9223372036854775807 : Nat) % 2 ^ 63 = 9223372036854775807 by decide, xor63 (X - 9223372036854775808) (by omega)] at m
  have := Nat.div_add_mod (X ^^^ 9223372036854775807) (2 ^ 63)
  rw [d, m, show (1 ^^^ 0 : Nat) = 1 from rfl] at this
  omega
theorem rank_xor (n : Int) (h0 : n < 0) (h1 : -9223372036854775808 ≤ n) : bits .xor .i64 n 9223372036854775807 = rankOf n := by
  show IntKind.i64.wrap ((BitVec.ofInt 64 n ^^^ BitVec.ofInt 64 9223372036854775807).toNat : Int) = _
  have e1 : (BitVec.ofInt 64 n).toNat = (n + 18446744073709551616).toNat := by
    rw [BitVec.toNat_ofInt]
    congr 1
    show n % 18446744073709551616 = _
    omega
  have e2 : (BitVec.ofInt 64 9223372036854775807).toNat = 9223372036854775807 := by decide
  rw [BitVec.toNat_xor, e1, e2, xor64 _ (by omega) (by omega)]
  unfold rankOf
  rw [if_pos h0]
  simp [IntKind.wrap, IntKind.bits, IntKind.signed]
  omega
set_option maxRecDepth 100000 in
theorem rank_any (n : Int) (h : is64 n) (w : World) : Calls Tryd.prog 60 #[.int .i64 n] w fun e w' => e = .returned (.int .i64 (rankOf n)) ∧ w = w' := by
  by_cases h0 : n < 0
  · have HR := hidM (rank_xor n h0 h.1)
    clear h
    go_enter Tryd.func60, Tryd.ntmps60
    go_wp2
    go_ret
    exact ⟨by rw [← HR.out]; rfl, rfl⟩
  · have HR : Hid (rankOf n = n) := by show _ = _; unfold rankOf; rw [if_neg h0]
    clear h
    go_enter Tryd.func60, Tryd.ntmps60
    go_wp2
    go_ret
    exact ⟨by rw [HR.out]; rfl, rfl⟩
/-- a callee that answers that number in all later worlds -/
def IAns (F : Nat) (args : Array Value) (z : Int) (w : World) : Prop := ∀ W, Gr w W → Calls Tryd.prog F args W fun e w' => e = .returned (.int .i64 z) ∧ Gr W w'
theorem IAns.gr {F : Nat} {args : Array Value} {z : Int} {w W : World} (h : IAns F args z w) (g : Gr w W) : IAns F args z W := fun W' g' => h W' (g.trans g' (fun _ _ h => h))
/-! ### lists: slices.CompareFunc 84 with compareItems' function 85, compareItems 56 -/
end Go.Proofs.YtcfdkadhclickaaDoor.Kit
namespace Go.Proofs.YtcfdkadhclickaaDoor.Kit
open Go.RowKit Go.Shelf Go.Deep
set_option linter.unusedVariables false
attribute [local go_sem] run_store_func

theorem gr_c {w w' : World} (g : Gr w w') {b o : Nat} {v : Value} (h : w.cell? ⟨b, o, none⟩ = some v) : w'.cell? ⟨b, o, none⟩ = some v := g.cell' h id
theorem alloc4 (W : World) (a b c d : Obj) : ((((W.alloc a).alloc b).alloc c).alloc d).heap[W.heap.size]? = some a ∧ ((((W.alloc a).alloc b).alloc c).alloc d).heap[W.heap.size + 1]? = some b ∧ ((((W.alloc a).alloc b).alloc c).alloc d).heap[W.heap.size + 1 + 1]? = some c ∧ ((((W.alloc a).alloc b).alloc c).alloc d).heap[W.heap.size + 1 + 1 + 1]? = some d ∧ Gr W ((((W.alloc a).alloc b).alloc c).alloc d) := by
  obtain ⟨h1, h2, h3, h4⟩ := alloc3 W a b c
  have s3 : (((W.alloc a).alloc b).alloc c).heap.size = W.heap.size + 1 + 1 + 1 := by simp
  refine ⟨?_, ?_, ?_, ?_, ((((Keeps.refl W _).alloc a).alloc b).alloc c).alloc d⟩
  · exact (Below.heap_alloc (((W.alloc a).alloc b).alloc c) d _ (by omega)).trans h1
  · exact (Below.heap_alloc (((W.alloc a).alloc b).alloc c) d _ (by omega)).trans h2
  · exact (Below.heap_alloc (((W.alloc a).alloc b).alloc c) d _ (by omega)).trans h3
  · have := heap_alloc_new (((W.alloc a).alloc b).alloc c) d
    rw [s3] at this
    exact this

/-! ### compareParts 57 -/
end Go.Proofs.YtcfdkadhclickaaDoor.Kit
