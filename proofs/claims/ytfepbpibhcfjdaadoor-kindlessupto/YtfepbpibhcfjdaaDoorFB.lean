import Derived.Test.YtfepbpibhcfjdaaDoorFA
namespace Go.Proofs.YtfepbpibhcfjdaaDoor.Kit
open Go.RowKit Go.Shelf Go.Deep
set_option linter.unusedVariables false
attribute [local go_sem] run_store_func

def typV (f : FT) (ao : Option Addr) (ca : Nat) : Value := .agg #[.int .i64 f.kind, .int .i64 f.width, .int .i64 f.id, .int .i64 f.index, .slice ao f.kids.length ca]
def fldV (f : FT) (ao : Option Addr) (ca : Nat) : Value := .agg #[.string f.name, .bool f.nul, .int .i64 f.kind, .int .i64 f.width, .int .i64 f.id, .int .i64 f.index, .slice ao f.kids.length ca]
def kindB (k : Int) : Bool := decide (0 < k) && decide (k < 21)
def indexB (k : Int) : Bool := decide (3 ≤ k) && decide (k ≤ 10)
def widthB (f : FT) : Bool := if f.kind = 14 then decide (1 ≤ f.width) && decide (f.width ≤ 16) else if f.kind = 16 then decide (1 ≤ f.width) && decide (f.width ≤ 64) else decide (f.width = 0)
def dictB (f : FT) : Bool := if f.kind = 19 then (decide (0 ≤ f.id) && decide (f.id < 32)) && indexB f.index else decide (f.id = 0) && decide (f.index = 0)

set_option maxRecDepth 100000 in
set_option maxHeartbeats 1000000 in
theorem isKind_any (k : Int) (w : World) : Calls Tryd.prog 82 #[.int .i64 k] w fun e w' => e = .returned (.bool (kindB k)) ∧ w' = w := by
  go_enter Tryd.func82, Tryd.ntmps82
  go_wp2
  all_goals
    go_ret
    refine ⟨congrArg (fun b => Ending.returned (.bool b)) ?_, rfl⟩
    rw [Bool.eq_iff_iff]
    simp [kindB]
    try omega
set_option maxRecDepth 100000 in
set_option maxHeartbeats 1000000 in
theorem isIndex_any (k : Int) (w : World) : Calls Tryd.prog 86 #[.int .i64 k] w fun e w' => e = .returned (.bool (indexB k)) ∧ w' = w := by
  go_enter Tryd.func86, Tryd.ntmps86
  go_wp2
  all_goals
    go_ret
    refine ⟨congrArg (fun b => Ending.returned (.bool b)) ?_, rfl⟩
    rw [Bool.eq_iff_iff]
    simp [indexB]
    try omega
theorem beqF {a b : Int} (h : ¬ a = b) : (a == b) = false := by simpa using h
theorem gr_alloc (w : World) (o : Obj) : Gr w (w.alloc o) := (Keeps.refl w _).alloc o
set_option maxRecDepth 100000 in
set_option maxHeartbeats 1000000 in
theorem fitsWidth_any (f : FT) (ao : Option Addr) (ca : Nat) (w : World) : Calls Tryd.prog 83 #[typV f ao ca] w fun e w' => e = .returned (.bool (widthB f)) ∧ Gr w w' := by
  unfold typV widthB
  go_enter Tryd.func83, Tryd.ntmps83
  by_cases h14 : f.kind = 14
  · rw [if_pos h14]
    go_wp2
    all_goals
      go_ret
      refine ⟨congrArg (fun b => Ending.returned (.bool b)) ?_, gr_alloc _ _⟩
      rw [Bool.eq_iff_iff]
      simp
      try omega
  · have q1 := beqF h14
    rw [if_neg h14]
    by_cases h16 : f.kind = 16
    · rw [if_pos h16]
      go_wp2
      all_goals
        go_ret
        refine ⟨congrArg (fun b => Ending.returned (.bool b)) ?_, gr_alloc _ _⟩
        rw [Bool.eq_iff_iff]
        simp
        try omega
    · have q2 := beqF h16
      rw [if_neg h16]
      go_wp2
      go_ret
      refine ⟨congrArg (fun b => Ending.returned (.bool b)) ?_, gr_alloc _ _⟩
      rw [Bool.eq_iff_iff]
      simp
set_option maxRecDepth 100000 in
set_option maxHeartbeats 1000000 in
theorem fitsDict_any (f : FT) (ao : Option Addr) (ca : Nat) (w : World) : Calls Tryd.prog 84 #[typV f ao ca] w fun e w' => e = .returned (.bool (dictB f)) ∧ Gr w w' := by
  unfold typV dictB
  go_enter Tryd.func84, Tryd.ntmps84
  have hi := fun w => isIndex_any f.index w
  by_cases h19 : f.kind = 19
  · rw [if_pos h19]
    go_wp2_with (go_at_call 86; refine (hi _).mono ?_; rintro e w' ⟨rfl, rfl⟩)
    all_goals
      go_ret
      refine ⟨congrArg (fun b => Ending.returned (.bool b)) ?_, gr_alloc _ _⟩
      rw [Bool.eq_iff_iff]
      simp
      try omega
  · have q1 := beqF h19
    rw [if_neg h19]
    go_wp2_with fail
    all_goals
      go_ret
      refine ⟨congrArg (fun b => Ending.returned (.bool b)) ?_, gr_alloc _ _⟩
      rw [Bool.eq_iff_iff]
      simp [*]
      try omega
end Go.Proofs.YtfepbpibhcfjdaaDoor.Kit
