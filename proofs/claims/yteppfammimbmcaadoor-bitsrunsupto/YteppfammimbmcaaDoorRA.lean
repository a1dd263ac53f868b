import Derived.Test.YteppfammimbmcaaDoorFC
import Derived.RangeFuncNested
namespace Go.Proofs.YteppfammimbmcaaDoor.Kit
open Go.RowKit Go.Shelf Go.Deep
set_option linter.unusedVariables false

/-- an iterator over the runs, whichever closure it is; S: what it reads -/
structure AnyIter (w w' : World) (gf : Nat) (lb : Array Value) (S : Nat → Prop) (rs : List (Nat × Nat)) : Prop where
  enters : ∀ args w, (callFunc gf args).run Tryd.prog w = .ok (.enter gf args) w
  stops : ∀ n, 1 ≤ n → ∀ W, KpOf S w' W → SeqStopsK Fence.wide n Tryd.prog gf lb encR (KpOf S) (fun xs => xs = rs) (fun pre => pre <+: rs) rs.length W
  notnil : ∀ w, (binOp .eql 47 (.func (.func gf) #[] lb) .nilFunc).run Tryd.prog w = .ok (.bool false) w
  keeps : Keeps w w' (fun _ => False)
  low : ∀ b, S b → b = 0 ∨ (w.heap.size ≤ b ∧ b < w'.heap.size)
theorem runs_it (v : Value) (l : List Nat) (fr m : Int) (hfr : i64 fr) (hm : i64 m) (w : World) (hT : Tab w) (hA : MapAt w v l) :
    Calls Tryd.prog 17 #[v, .int .i64 fr, .int .i64 m] w fun e w' => ∃ gf lb S, e = .returned (.func (.func gf) #[] lb) ∧ AnyIter w w' gf lb S (runsV l fr m) := by
  by_cases he : errOf l.length fr m = 0
  · refine (runs_good v l fr m hfr hm w hT hA he).mono ?_
    rintro e w' ⟨u, rfl, b1, b2, b3, ao, ca, kl, first, rfl, h1, h2, h3, hH, hf, hk, hlow⟩
    refine ⟨47, _, HeldS b1 b2 b3 ao, rfl, ⟨enters_of Tryd.func47 (by kernel_rfl) rfl, fun n hn W k => ?_, fun w => by kernel_rfl, hk, hlow⟩⟩
    have hrf : rf (fun k => bitAt kl (first + k)) m.toNat = runsV l fr m := by unfold runsV; rw [if_pos he]; exact rf_congr hf
    have := runs_stops n hn b1 b2 b3 ao ca kl h1 h2 first m.toNat h3 W (hH.kept k)
    rw [hrf] at this
    exact this
  · refine (runs_bad v l fr m hfr hm w hA he).mono ?_
    rintro e w' ⟨rfl, rfl⟩
    refine ⟨45, #[], fun _ => False, rfl, ⟨enters_of Tryd.func45 (by kernel_rfl) rfl, fun n hn W k => ?_, fun w => by kernel_rfl, Keeps.refl _ _, fun _ h => h.elim⟩⟩
    have hrf : runsV l fr m = [] := by unfold runsV; rw [if_neg he]
    rw [hrf]
    exact fun l J Jx W hW hJ hJx hY h0 => (empty_stops n hn (KpOf fun _ => False) W l J Jx W (Below.refl _ _) hJ hJx hY h0).mono fun e W' ⟨hv, h⟩ => ⟨hv, h.imp id fun ⟨p, hp, _⟩ => hp.elim⟩
end Go.Proofs.YteppfammimbmcaaDoor.Kit
