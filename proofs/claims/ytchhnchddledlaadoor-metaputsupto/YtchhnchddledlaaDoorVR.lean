import Derived.Test.YtchhnchddledlaaDoorVQ
namespace Go.Proofs.YtchhnchddledlaaDoor.Kit
open Go.RowKit Go.Shelf Go.Deep
set_option linter.unusedVariables false
attribute [local go_sem] run_store_func

/-! ### the pen's fields, at all depths -/
theorem fB_kid (d : Nat) (f : FT) : fB (fun f => kidB d f.kids) f = fldB d f := by rw [fldB_eq, hdB_typ]; simp [fB, List.append_assoc]
theorem penFields_any (S : Nat → Prop) : ∀ (d : Nat) (l : List FT) (ao : Option Addr) (ca : Nat) (w : World) (K : Nat), RowAt S w d ao l → (∀ g ∈ pre d l, okM g) →
    ∀ W bs, InkAt w W K bs → bs.length + (kidB d l).length ≤ 65536 → Calls Tryd.prog 31 #[.agg #[.pointer (some ⟨K, 0, none⟩)], .slice ao l.length ca] W fun e w' => e = .returned (.tuple #[]) ∧ InkAt w w' K (bs ++ kidB d l) ∧ KU K W w'
  | 0, l, ao, ca, w, K, hr, ok => fun W bs h hl => by
    have hk : l = [] := hr
    subst hk
    have e : kidB 0 ([] : List FT) = ([] : List FT).flatMap (fB fun _ => []) := by simp [kidB]
    rw [e] at hl ⊢
    exact penFields_walk (fun _ => []) [] ao ca h hl (by simp) (fun hne => absurd rfl hne)
  | d + 1, l, ao, ca, w, K, hr, ok => fun W bs h hl => by
    have e : kidB (d + 1) l = l.flatMap (fB fun f => kidB d f.kids) := by
      rw [show (fB fun f => kidB d f.kids) = fldB d from funext fun f => fB_kid d f]
      rfl
    rw [e] at hl ⊢
    refine penFields_walk (fun f => kidB d f.kids) l ao ca h hl hr.1 fun hne => ?_
    obtain ⟨b, o, ea, hb, hc⟩ := hr.2 hne
    refine ⟨b, o, ea, fun i hi => ?_⟩
    obtain ⟨ao', ca', h1, h2, h3⟩ := hc i hi
    have hmem : l[i] ∈ l := List.getElem_mem hi
    have ep : pre (d + 1) l = l.flatMap fun f => f :: pre d f.kids := rfl
    have hsub : ∀ g, g = l[i] ∨ g ∈ pre d l[i].kids → g ∈ pre (d + 1) l := fun g hg => by
      rw [ep, List.mem_flatMap]
      exact ⟨_, hmem, by simpa using hg⟩
    have hok := ok _ (hsub _ (.inl rfl))
    refine ⟨ao', ca', h1, hok.1, fun V bs' hI hl' => ?_⟩
    refine penTyp_walk l[i] ao' ca' hok hI hl' fun V' hI' => ?_
    exact penFields_any S d l[i].kids ao' ca' w K h3 (fun g hg => ok g (hsub g (.inr hg))) V' _ hI' (by rw [List.length_append] at hl' ⊢; omega)
end Go.Proofs.YtchhnchddledlaaDoor.Kit
