import Derived.Test.YthhpamhfnpacpaaGreatDoorFF
import Derived.Test.YthhpamhfnpacpaaGreatDoorProg
set_option linter.unusedVariables false
set_option linter.unusedSimpArgs false
namespace Go.Proofs.YthhpamhfnpacpaaGreatDoor.Ink
open Go.Proofs.YthhpamhfnpacpaaGreatDoor.Kit
open Go.RowKit Go.Shelf Go.Deep
abbrev Gr (w w' : World) : Prop := Keeps w w' (fun _ => False)
theorem own_kp {W W' : World} {t : Nat} {v : Value} {n : Nat} {xs : List Value} (h : W.ownsRow 0 t 1 v n xs) (e : ∀ g, v.ownBlock = some g → W'.heap[g]? = W.heap[g]?) : W'.ownsRow 0 t 1 v n xs := by
 refine ⟨h.1, h.2.imp id ?_⟩
 rintro ⟨g, cap, cur, rfl, h0, hg, r⟩
 exact ⟨g, cap, cur, rfl, h0, (e g rfl).trans hg, r⟩
theorem own_lt {w : World} {t s : Nat} {v : Value} {n : Nat} {xs : List Value} (h : w.ownsRow 0 t s v n xs) (g : Nat) (e : v.ownBlock = some g) : g < w.heap.size := by
 rcases h.2 with ⟨rfl, _⟩ | ⟨g', cap, cur, rfl, _, hgg, _⟩
 ·simp [Value.ownBlock] at e
 simp [Value.ownBlock] at e
 subst e
 exact (Array.getElem?_eq_some_iff.1 hgg).1
theorem beqF {a b : Int} (h : ¬ a = b) : (a == b) = false := by simpa using h
theorem gr_alloc (w : World) (o : Obj) : Gr w (w.alloc o) := (Keeps.refl w _).alloc o
theorem gr_al {W A : World} {o : Obj} (h : W.alloc o = A) : Gr W A := h ▸ gr_alloc W o
theorem nw (W : World) (o : Obj) : ∃ A, W.alloc o = A ∧ Gr W A ∧ A.heap[W.heap.size]? = some o := ⟨_, rfl, gr_alloc W o, heap_alloc_new W o⟩
theorem hidM {p : Prop} (h : p) : Hid p := h
theorem lt_of_heap {W : World} {B : Nat} {o : Obj} (h : W.heap[B]? = some o) : B < W.heap.size := (Array.getElem?_eq_some_iff.1 h).1
theorem frz {W : World} {B t : Nat} {c : Array Value} (h : W.heap[B]? = some (.cells c t)) (j : Nat) : W.frozen? ⟨B, j, none⟩ = false := by simp [World.frozen?, h]
def bv (l : List UInt8) : List Value := l.map fun b => .int .u8 (b.toNat : Int)
theorem info5 : (Tryz.prog.info? 5).map (fun i => (i.zero, i.size, i.bytes)) = some (some (.int .u8 0), 1, 1) := by kernel_rfl
end Go.Proofs.YthhpamhfnpacpaaGreatDoor.Ink
