import Derived.Test.YtdihbfjjddmbiaaGreatDoorLD
import Derived.Test.YtdihbfjjddmbiaaGreatDoorHA
namespace Go.Proofs.YtdihbfjjddmbiaaGreatDoor.Kit
open Go.RowKit Go.Shelf Go.Deep
def pre : Nat → List FT → List FT
  | 0, _ => []
  | d + 1, l => l.flatMap fun f => f :: pre d f.kids
def deep : Nat → List FT → Prop
  | 0, l => l = []
  | d + 1, l => ∀ f ∈ l, deep d f.kids
theorem RowAt.deep {S : Nat → Prop} {W : World} : ∀ {d : Nat} {ao : Option Addr} {l : List FT}, RowAt S W d ao l → Kit.deep d l
  | 0, _, _, h => h
  | d + 1, _, l, h => fun f hf => by
    obtain ⟨i, hi, rfl⟩ := List.mem_iff_getElem.1 hf
    obtain ⟨b, o, _, _, hc⟩ := h.2 (fun e => by subst e; simp at hi)
    obtain ⟨ao', ca', _, _, hr⟩ := hc i hi
    exact RowAt.deep hr
theorem nodes_pre : ∀ (d : Nat) (l : List FT) (path : List Nat) (inD : Bool), (nodes d l path inD).map LS.fld = pre d l
  | 0, _, _, _ => rfl
  | d + 1, l, path, inD => by
    have key : ∀ n, n ≤ l.length → (upto d l path inD n).map LS.fld = (l.take n).flatMap fun f => f :: pre d f.kids := by
      intro n
      induction n with
      | zero => intro _; simp [upto_zero]
      | succ n ih =>
        intro hn
        have hx : LS.fld ⟨l, path ++ [n], inD⟩ = l[n] := by
          have hi : LS.idx ⟨l, path ++ [n], inD⟩ = n := by simp [LS.idx]
          unfold LS.fld
          rw [hi]
          simp [List.getElem?_eq_getElem (show n < l.length by omega)]
        have hb : l[n]! = l[n] := getElem!_pos l n (by omega)
        rw [upto_succ, List.map_append, ih (by omega), List.map_cons, nodes_pre d, hx, hb, List.take_succ_eq_append_getElem (by omega), List.flatMap_append]
        simp
    have := key l.length (Nat.le_refl _)
    rw [nodes_succ, this, List.take_length]
    rfl
end Go.Proofs.YtdihbfjjddmbiaaGreatDoor.Kit
namespace Go.Proofs.YtdihbfjjddmbiaaGreatDoor.Kit
open Go.RowKit Go.Shelf Go.Deep
set_option linter.unusedVariables false
attribute [local go_sem] run_store_func
def Ans (F : Nat) (args : Array Value) (b : Bool) (w : World) : Prop := ∀ W, Gr w W → Calls Tryz.prog F args W fun e w' => e = .returned (.bool b) ∧ Gr W w'
end Go.Proofs.YtdihbfjjddmbiaaGreatDoor.Kit
