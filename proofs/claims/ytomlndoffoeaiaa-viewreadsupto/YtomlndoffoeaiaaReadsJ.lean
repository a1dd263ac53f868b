import Derived.Test.YtomlndoffoeaiaaReadsI
namespace Go.Proofs.Ytomlndoffoeaiaa.Kit
open Go.RowKit Go.Deep
set_option linter.unusedVariables false

set_option maxHeartbeats 1000000 in
/-- nothing is written down for a view that nobody watches -/
theorem reads_who0 (x0 x1 x2 x3 : Value) (place at' n : Int) (m : Nat) (w : World) :
    Calls Try.prog 42 #[.pointer (some ⟨m, 0, none⟩), .agg #[x0, x1, x2, x3, .int .i64 place, .int .i64 0], .int .i64 at', .int .i64 n] w fun e w' => e = .returned (.tuple #[]) ∧ Keeps w w' (fun _ => False) := by
  go_enter Try.func42, Try.ntmps42
  go_wp2
  go_end0
  exact ⟨rfl, (Keeps.refl _ _).alloc _⟩

set_option maxHeartbeats 1000000 in
/-- nothing is written down for a read of nothing -/
theorem reads_none (x0 x1 x2 x3 : Value) (place at' n who : Int) (m : Nat) (w : World) (hw : 0 < who) (hn : n ≤ 0) :
    Calls Try.prog 42 #[.pointer (some ⟨m, 0, none⟩), .agg #[x0, x1, x2, x3, .int .i64 place, .int .i64 who], .int .i64 at', .int .i64 n] w fun e w' => e = .returned (.tuple #[]) ∧ Keeps w w' (fun _ => False) := by
  go_enter Try.func42, Try.ntmps42
  go_wp2
  go_end0
  exact ⟨rfl, (Keeps.refl _ _).alloc _⟩
end Go.Proofs.Ytomlndoffoeaiaa.Kit
