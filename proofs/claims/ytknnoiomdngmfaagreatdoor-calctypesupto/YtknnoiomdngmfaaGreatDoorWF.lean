import Derived.WalkKit
import Derived.Test.YtknnoiomdngmfaaGreatDoorDA
import Derived.Test.YtknnoiomdngmfaaGreatDoorMF
import Derived.Test.YtknnoiomdngmfaaGreatDoorGA
import Derived.Lib.ValidU
import Derived.Deep.RegionHeld3
import Derived.Test.YtknnoiomdngmfaaGreatDoorLQ
set_option maxRecDepth 100000
set_option maxHeartbeats 4000000
namespace Go.Proofs.YtknnoiomdngmfaaGreatDoor.Kit
set_option linter.unusedVariables false
structure IsOrd {α : Type} (S : α → Prop) (c : α → α → Int) : Prop where
  anti : ∀ a b, S a → S b → c b a = - c a b
  trans : ∀ a b d, S a → S b → S d → c a b ≤ 0 → c b d ≤ 0 → c a d ≤ 0
  zero : ∀ a b, S a → S b → (c a b = 0 ↔ a = b)
namespace IsOrd
variable {α β : Type} {S : α → Prop} {c : α → α → Int}
theorem congr (h : IsOrd S c) {c' : α → α → Int} (e : ∀ a b, S a → S b → c' a b = c a b) : IsOrd S c' :=
  ⟨fun a b ha hb => by rw [e b a hb ha, e a b ha hb]; exact h.anti a b ha hb, fun a b d ha hb hd => by rw [e a b ha hb, e b d hb hd, e a d ha hd]; exact h.trans a b d ha hb hd, fun a b ha hb => by rw [e a b ha hb]; exact h.zero a b ha hb⟩
end IsOrd
end Go.Proofs.YtknnoiomdngmfaaGreatDoor.Kit
namespace Go.Proofs.YtknnoiomdngmfaaGreatDoor.Kit
set_option linter.unusedVariables false
inductive VT where
  | mk (nul : Bool) (num : Int) (text : ByteArray) (list : List VT)
deriving Inhabited
namespace VT
def nul : VT → Bool | mk n _ _ _ => n
def num : VT → Int | mk _ n _ _ => n
def text : VT → ByteArray | mk _ _ t _ => t
def list : VT → List VT | mk _ _ _ l => l
end VT
end Go.Proofs.YtknnoiomdngmfaaGreatDoor.Kit
namespace Go.Proofs.YtknnoiomdngmfaaGreatDoor.Kit
open Go.RowKit Go.Shelf Go.Deep
set_option linter.unusedVariables false
def numB (k n : Int) : Bool :=
  if k = 2 then n == 0 || n == 1 else if k = 3 then decide (-128 ≤ n) && decide (n ≤ 127) else if k = 4 then decide (-32768 ≤ n) && decide (n ≤ 32767) else if k = 5 then decide (-2147483648 ≤ n) && decide (n ≤ 2147483647)
  else if k = 7 then decide (0 ≤ n) && decide (n ≤ 255) else if k = 8 then decide (0 ≤ n) && decide (n ≤ 65535) else if k = 9 then decide (0 ≤ n) && decide (n ≤ 4294967295)
  else k == 6 || k == 10 || k == 11
end Go.Proofs.YtknnoiomdngmfaaGreatDoor.Kit
namespace Go.Proofs.YtknnoiomdngmfaaGreatDoor.Kit
open Go.RowKit Go.Shelf Go.Deep
set_option linter.unusedVariables false
attribute [local go_sem] run_store_func
theorem wrapS (k : IntKind) (m : Int) (hm : 0 < m) (hm2 : m ≤ 2147483648) (hw : ∀ n : Int, k.wrap n = if 2 * m > n % (2 * m) ∧ n % (2 * m) ≥ m then n % (2 * m) - 2 * m else n % (2 * m)) (n : Int) : (n == wrap64 (k.wrap n)) = (decide (-m ≤ n) && decide (n ≤ m - 1)) := by
  have h0 := Int.emod_nonneg n (b := 2 * m) (by omega)
  have h1 := Int.emod_lt_of_pos n (b := 2 * m) (by omega)
  have h2 := Int.emod_add_mul_ediv n (2 * m)
  have hb : wrap64 (k.wrap n) = k.wrap n := by
    unfold wrap64
    rw [hw]
    split <;> omega
  rw [hb, hw]
  rw [Bool.eq_iff_iff]
  simp only [beq_iff_eq, Bool.and_eq_true, decide_eq_true_eq]
  constructor
  · intro e
    split at e <;> omega
  rintro ⟨a, b⟩
  by_cases hn : 0 ≤ n
  · have e : n % (2 * m) = n := Int.emod_eq_of_lt hn (by omega)
    rw [e, if_neg (by omega)]
  have e : n % (2 * m) = n + 2 * m := by
    rw [← Int.add_emod_right]
    exact Int.emod_eq_of_lt (by omega) (by omega)
  rw [e, if_pos (by omega)]
  omega
theorem wrapU (k : IntKind) (m : Int) (hm : 0 < m) (hm2 : m ≤ 4294967296) (hw : ∀ n : Int, k.wrap n = n % m) (n : Int) : (n == wrap64 (k.wrap n)) = (decide (0 ≤ n) && decide (n ≤ m - 1)) := by
  have h0 := Int.emod_nonneg n (b := m) (by omega)
  have h1 := Int.emod_lt_of_pos n (b := m) (by omega)
  have hb : wrap64 (k.wrap n) = k.wrap n := by
    unfold wrap64
    rw [hw]
    omega
  rw [hb, hw, Bool.eq_iff_iff]
  simp only [beq_iff_eq, Bool.and_eq_true, decide_eq_true_eq]
  constructor
  · intro e; omega
  rintro ⟨a, b⟩
  exact (Int.emod_eq_of_lt a (by omega)).symm
theorem wrapI8 (n : Int) : (n == wrap64 (IntKind.i8.wrap n)) = (decide (-128 ≤ n) && decide (n ≤ 127)) := wrapS .i8 128 (by decide) (by decide) (fun n => by
  have h1 := Int.emod_lt_of_pos n (b := 256) (by omega)
  simp [IntKind.wrap, IntKind.bits, IntKind.signed, h1]) n
theorem wrapI16 (n : Int) : (n == wrap64 (IntKind.i16.wrap n)) = (decide (-32768 ≤ n) && decide (n ≤ 32767)) := wrapS .i16 32768 (by decide) (by decide) (fun n => by
  have h1 := Int.emod_lt_of_pos n (b := 65536) (by omega)
  simp [IntKind.wrap, IntKind.bits, IntKind.signed, h1]) n
theorem wrapI32 (n : Int) : (n == wrap64 (IntKind.i32.wrap n)) = (decide (-2147483648 ≤ n) && decide (n ≤ 2147483647)) := wrapS .i32 2147483648 (by decide) (by decide) (fun n => by
  have h1 := Int.emod_lt_of_pos n (b := 4294967296) (by omega)
  simp [IntKind.wrap, IntKind.bits, IntKind.signed, h1]) n
theorem wrapU8 (n : Int) : (n == wrap64 (IntKind.u8.wrap n)) = (decide (0 ≤ n) && decide (n ≤ 255)) := wrapU .u8 256 (by decide) (by decide) (fun n => by simp [IntKind.wrap, IntKind.bits, IntKind.signed]) n
theorem wrapU16 (n : Int) : (n == wrap64 (IntKind.u16.wrap n)) = (decide (0 ≤ n) && decide (n ≤ 65535)) := wrapU .u16 65536 (by decide) (by decide) (fun n => by simp [IntKind.wrap, IntKind.bits, IntKind.signed]) n
theorem wrapU32 (n : Int) : (n == wrap64 (IntKind.u32.wrap n)) = (decide (0 ≤ n) && decide (n ≤ 4294967295)) := wrapU .u32 4294967296 (by decide) (by decide) (fun n => by simp [IntKind.wrap, IntKind.bits, IntKind.signed]) n
theorem modU (m : Int) (hm : 0 < m) (n : Int) : (n == n % m) = (decide (0 ≤ n) && decide (n ≤ m - 1)) := by
  have h0 := Int.emod_nonneg n (b := m) (by omega)
  have h1 := Int.emod_lt_of_pos n (b := m) (by omega)
  rw [Bool.eq_iff_iff]
  simp only [beq_iff_eq, Bool.and_eq_true, decide_eq_true_eq]
  constructor
  · intro e; omega
  rintro ⟨a, b⟩
  exact (Int.emod_eq_of_lt a (by omega)).symm
theorem modI32 (n : Int) : (n == wrap64 (wrap32 n)) = (decide (-2147483648 ≤ n) && decide (n ≤ 2147483647)) := by
  unfold wrap64 wrap32
  rw [Bool.eq_iff_iff]
  simp only [beq_iff_eq, Bool.and_eq_true, decide_eq_true_eq]
  constructor
  · intro e; omega
  rintro ⟨a, b⟩; omega
theorem fitsNumber_any (k n : Int) (hk : 1 ≤ k ∧ k ≤ 20) (w : World) : Calls Tryz.prog 299 #[.int .i64 k, .int .i64 n] w fun e w' => e = .returned (.bool (numB k n)) ∧ w = w' := by
  have hk' : k = 1 ∨ k = 2 ∨ k = 3 ∨ k = 4 ∨ k = 5 ∨ k = 6 ∨ k = 7 ∨ k = 8 ∨ k = 9 ∨ k = 10 ∨ k = 11 ∨ k = 12 ∨ k = 13 ∨ k = 14 ∨ k = 15 ∨ k = 16 ∨ k = 17 ∨ k = 18 ∨ k = 19 ∨ k = 20 := by omega
  clear hk
  rcases hk' with rfl | rfl | rfl | rfl | rfl | rfl | rfl | rfl | rfl | rfl | rfl | rfl | rfl | rfl | rfl | rfl | rfl | rfl | rfl | rfl
  case inr.inl =>
    by_cases h0 : n = 0
    · subst h0
      go_enter Tryz.func299, Tryz.ntmps299
      go_wp2
      go_ret
      exact ⟨rfl, rfl⟩
    have hb : (n == 0) = false := by simp [h0]
    have HB : Hid (numB 2 n = (n == 1)) := by show _ = _; simp [numB, hb]
    go_enter Tryz.func299, Tryz.ntmps299
    go_wp2
    go_ret
    exact ⟨by rw [HB.out]; rfl, rfl⟩
  all_goals
    go_enter Tryz.func299, Tryz.ntmps299
    go_wp2
    go_ret
    first
      | exact ⟨rfl, rfl⟩
      | exact ⟨congrArg (fun b => Ending.returned (.bool b)) (wrapI8 n), rfl⟩
      | exact ⟨congrArg (fun b => Ending.returned (.bool b)) (wrapI16 n), rfl⟩
      | exact ⟨congrArg (fun b => Ending.returned (.bool b)) (modI32 n), rfl⟩
      | exact ⟨congrArg (fun b => Ending.returned (.bool b)) (modU 256 (by decide) n), rfl⟩
      | exact ⟨congrArg (fun b => Ending.returned (.bool b)) (modU 65536 (by decide) n), rfl⟩
      | exact ⟨congrArg (fun b => Ending.returned (.bool b)) (modU 4294967296 (by decide) n), rfl⟩
      | exact ⟨congrArg (fun b => Ending.returned (.bool b)) (wrapI32 n), rfl⟩
      | exact ⟨congrArg (fun b => Ending.returned (.bool b)) (wrapU8 n), rfl⟩
      | exact ⟨congrArg (fun b => Ending.returned (.bool b)) (wrapU16 n), rfl⟩
      | exact ⟨congrArg (fun b => Ending.returned (.bool b)) (wrapU32 n), rfl⟩
structure Sc (w W : World) (sb : Nat) (l : Int) : Prop where
  kp : Keeps w W (fun k => k = sb)
  bx : W.heap[sb]? = some (.cells #[.int .i64 l] 242)
def FitQ (w : World) (sb : Nat) (x : Option Int) (e : Ending) (w' : World) : Prop := ∃ l', e = .returned (.bool x.isSome) ∧ Sc w w' sb l' ∧ ∀ l1, x = some l1 → l' = l1
theorem FitQ.no {w w' : World} {sb : Nat} {x : Option Int} {l : Int} {e : Ending} (hx : x = none) (he : e = .returned (.bool false)) (h : Sc w w' sb l) : FitQ w sb x e w' := ⟨l, by rw [he, hx]; rfl, h, fun _ h => by rw [hx] at h; cases h⟩
theorem FitQ.yes {w w' : World} {sb : Nat} {x : Option Int} {l : Int} {e : Ending} (hx : x = some l) (he : e = .returned (.bool true)) (h : Sc w w' sb l) : FitQ w sb x e w' := ⟨l, by rw [he, hx]; rfl, h, fun _ h => by rw [hx] at h; exact Option.some.inj h⟩
theorem FitQ.of {w w' : World} {sb : Nat} {x y : Option Int} {l : Int} {e : Ending} (hx : x = y) (he : e = .returned (.bool y.isSome)) (h : Sc w w' sb l) (hl : ∀ l1, y = some l1 → l = l1) : FitQ w sb x e w' := by subst hx; exact ⟨l, he, h, hl⟩
def FitC (w : World) (sb F : Nat) (a b : Value) (r : Int → Option Int) : Prop :=
  ∀ W l, Sc w W sb l → 0 ≤ l → l ≤ 4194304 → Calls Tryz.prog F #[.pointer (some ⟨sb, 0, none⟩), a, b] W fun e w' => FitQ W sb (r l) e w'
theorem Sc.alloc {w W : World} {sb : Nat} {l : Int} (h : Sc w W sb l) (o : Obj) : Sc w (W.alloc o) sb l :=
  ⟨h.kp.alloc o, (Below.heap_alloc W o sb (lt_of_heap h.bx)).trans h.bx⟩
theorem Sc.set {w W : World} {sb : Nat} {l : Int} (h : Sc w W sb l) (l' : Int) : Sc w (W.setCell ⟨sb, 0, none⟩ (.int .i64 l')) sb l' := by
  refine ⟨h.kp.setCell (fun _ => rfl) _, ?_⟩
  have hb := lt_of_heap h.bx
  have hx := h.bx
  simp only [World.setCell]
  rw [Array.getElem?_modify]
  simp [hx]
theorem Sc.drew {w W : World} {sb : Nat} {l : Int} (h : Sc w W sb l) : Sc w W.drew sb l := ⟨h.kp.drew, h.bx⟩
theorem Sc.cell {w W : World} {sb : Nat} {l : Int} (h : Sc w W sb l) : W.cell? ⟨sb, 0, none⟩ = some (.int .i64 l) := by
  have hx := h.bx
  simp [World.cell?, hx]
theorem Sc.frz {w W : World} {sb : Nat} {l : Int} (h : Sc w W sb l) : W.frozen? ⟨sb, 0, none⟩ = false := by
  have hx := h.bx
  simp [World.frozen?, hx]
theorem Sc.lt {w W : World} {sb : Nat} {l : Int} (h : Sc w W sb l) : sb < W.heap.size := lt_of_heap h.bx
def B7 (W : World) (B : Nat) (f0 : ByteArray) (f1 : Bool) (f2 f3 f4 f5 : Int) (ao : Option Addr) (n ca : Nat) : Prop := W.heap[B]? = some (.cells #[.string f0, .bool f1, .int .i64 f2, .int .i64 f3, .int .i64 f4, .int .i64 f5, .slice ao n ca] 26)
def B4 (W : World) (B : Nat) (v0 : Bool) (v1 : Int) (v2 : ByteArray) (vo : Option Addr) (m vc : Nat) : Prop := W.heap[B]? = some (.cells #[.bool v0, .int .i64 v1, .string v2, .slice vo m vc] 98)
theorem B7.cells {W : World} {B : Nat} {f0 : ByteArray} {f1 : Bool} {f2 f3 f4 f5 : Int} {ao : Option Addr} {n ca : Nat} (h : B7 W B f0 f1 f2 f3 f4 f5 ao n ca) :
    W.cell? ⟨B, 0, none⟩ = some (.string f0) ∧ W.cell? ⟨B, 1, none⟩ = some (.bool f1) ∧ W.cell? ⟨B, 2, none⟩ = some (.int .i64 f2) ∧ W.cell? ⟨B, 3, none⟩ = some (.int .i64 f3) ∧ W.cell? ⟨B, 4, none⟩ = some (.int .i64 f4) ∧ W.cell? ⟨B, 5, none⟩ = some (.int .i64 f5) ∧ W.cell? ⟨B, 6, none⟩ = some (.slice ao n ca) := by
  unfold B7 at h
  simp [World.cell?, h]
theorem B4.cells {W : World} {B : Nat} {v0 : Bool} {v1 : Int} {v2 : ByteArray} {vo : Option Addr} {m vc : Nat} (h : B4 W B v0 v1 v2 vo m vc) :
    W.cell? ⟨B, 0, none⟩ = some (.bool v0) ∧ W.cell? ⟨B, 1, none⟩ = some (.int .i64 v1) ∧ W.cell? ⟨B, 2, none⟩ = some (.string v2) ∧ W.cell? ⟨B, 3, none⟩ = some (.slice vo m vc) := by
  unfold B4 at h
  simp [World.cell?, h]
theorem Sc.base {w V W : World} {sb : Nat} {l : Int} (h : Sc V W sb l) (k : Keeps w V (fun k => k = sb)) : Sc w W sb l := ⟨k.tr h.kp, h.bx⟩
theorem Sc.self {w W : World} {sb : Nat} {l : Int} (h : Sc w W sb l) : Sc W W sb l := ⟨Keeps.refl _ _, h.bx⟩
def B5 (W : World) (B : Nat) (f2 f3 f4 f5 : Int) (ao : Option Addr) (n ca : Nat) : Prop := W.heap[B]? = some (.cells #[.int .i64 f2, .int .i64 f3, .int .i64 f4, .int .i64 f5, .slice ao n ca] 24)
theorem alloc3 (W : World) (a b c : Obj) : (((W.alloc a).alloc b).alloc c).drew.heap[W.heap.size]? = some a ∧ (((W.alloc a).alloc b).alloc c).drew.heap[W.heap.size + 1]? = some b ∧ (((W.alloc a).alloc b).alloc c).drew.heap[W.heap.size + 1 + 1]? = some c ∧ Gr W (((W.alloc a).alloc b).alloc c).drew := by
  have s1 : (W.alloc a).heap.size = W.heap.size + 1 := by simp
  have s2 : ((W.alloc a).alloc b).heap.size = W.heap.size + 1 + 1 := by simp
  refine ⟨?_, ?_, ?_, ((((Keeps.refl W _).alloc a).alloc b).alloc c).drew⟩
  · exact (Below.heap_alloc ((W.alloc a).alloc b) c W.heap.size (by omega)).trans ((Below.heap_alloc (W.alloc a) b W.heap.size (by omega)).trans (heap_alloc_new W a))
  · refine (Below.heap_alloc ((W.alloc a).alloc b) c (W.heap.size + 1) (by omega)).trans ?_
    have := heap_alloc_new (W.alloc a) b
    rw [s1] at this
    exact this
  have := heap_alloc_new ((W.alloc a).alloc b) c
  rw [s2] at this
  exact this
theorem fits_walk (f0 : ByteArray) (f1 : Bool) (f2 f3 f4 f5 : Int) (ao : Option Addr) (n ca : Nat) (v0 : Bool) (v1 : Int) (v2 : ByteArray) (vo : Option Addr) (m vc : Nat) (w : World) (sb : Nat) (r : Int → Option Int) (hv2 : v2.size ≤ big)
    (h70 : FitC w sb 273 (.agg #[.string f0, .bool f1, .int .i64 f2, .int .i64 f3, .int .i64 f4, .int .i64 f5, .slice ao n ca]) (.agg #[.bool v0, .int .i64 v1, .string v2, .slice vo m vc]) r) :
    FitC w sb 229 (.agg #[.string f0, .bool f1, .int .i64 f2, .int .i64 f3, .int .i64 f4, .int .i64 f5, .slice ao n ca]) (.agg #[.bool v0, .int .i64 v1, .string v2, .slice vo m vc]) (fun l => if (16 + v2.size : Int) ≤ l then r (l - (16 + v2.size)) else none) := by
  intro W l hs h0 h1
  have h70 := hidM h70
  have hz : v2.size ≤ 1000000000000 := hv2
  have hw1 : wrap64 (16 + (v2.size : Int)) = 16 + v2.size := by unfold wrap64; omega
  have hw2 : wrap64 (l - (16 + (v2.size : Int))) = l - (16 + v2.size) := by unfold wrap64; omega
  have c0 : ∀ o o', ((W.alloc o).alloc o').cell? ⟨sb, 0, none⟩ = some (.int .i64 l) := fun o o' => ((hs.alloc o).alloc o').cell
  have z0 : ∀ o o', ((W.alloc o).alloc o').frozen? ⟨sb, 0, none⟩ = false := fun o o' => ((hs.alloc o).alloc o').frz
  obtain ⟨V2, hV2⟩ := ex (((W.alloc (.cells #[.string f0, .bool f1, .int .i64 f2, .int .i64 f3, .int .i64 f4, .int .i64 f5, .slice ao n ca] 26)).alloc (.cells #[.bool v0, .int .i64 v1, .string v2, .slice vo m vc] 98)).setCell ⟨sb, 0, none⟩ (.int .i64 (l - (16 + v2.size))))
  have HS : Hid (Sc W V2 sb (l - (16 + v2.size))) := by rw [← hV2]; exact ((hs.self.alloc _).alloc _).set _
  have HK := hidM hs.kp
  have hne := hs.lt
  have b7 : B7 V2 W.heap.size f0 f1 f2 f3 f4 f5 ao n ca := by
    unfold B7
    rw [← hV2, heap_setCell_other _ ⟨sb, 0, none⟩ _ _ (by show W.heap.size ≠ sb; omega)]
    exact (Below.heap_alloc (W.alloc _) _ W.heap.size (by simp)).trans (heap_alloc_new W _)
  have b4 : B4 V2 (W.heap.size + 1) v0 v1 v2 vo m vc := by
    unfold B4
    rw [← hV2, heap_setCell_other _ ⟨sb, 0, none⟩ _ _ (by show W.heap.size + 1 ≠ sb; omega)]
    have e := heap_alloc_new (W.alloc (.cells #[.string f0, .bool f1, .int .i64 f2, .int .i64 f3, .int .i64 f4, .int .i64 f5, .slice ao n ca] 26)) (.cells #[.bool v0, .int .i64 v1, .string v2, .slice vo m vc] 98)
    rw [show (W.alloc (.cells #[.string f0, .bool f1, .int .i64 f2, .int .i64 f3, .int .i64 f4, .int .i64 f5, .slice ao n ca] 26)).heap.size = W.heap.size + 1 by simp] at e
    exact e
  obtain ⟨p0, p1, p2, p3, p4, p5, p6⟩ := b7.cells
  obtain ⟨q0, q1, q2, q3⟩ := b4.cells
  have s0 := HS.out.cell
  clear b7 b4 hs hne hv2 hz
  dsimp only
  obtain ⟨x, hx⟩ : ∃ x, x = (if (16 + v2.size : Int) ≤ l then r (l - (16 + v2.size)) else none) := ⟨_, rfl⟩
  rw [← hx]
  by_cases hle : (16 + v2.size : Int) ≤ l
  · have hge : 0 ≤ l - (16 + (v2.size : Int)) := by omega
    have HB : Hid (l - (16 + (v2.size : Int)) ≤ 4194304) := by show _ ≤ _; omega
    have HX : Hid (x = r (l - (16 + v2.size))) := by rw [if_pos hle] at hx; exact hx
    clear h1 hle hx
    go_enter Tryz.func229, Tryz.ntmps229
    go_wp2
    go_region
    all_goals
      go_wp2_with (go_at_call 273; refine Hid.out ?_)
      unfold Hid
      refine Calls.mono (h70.out _ _ (HS.out.drew.base HK.out) hge HB.out) ?_
      rintro e w' ⟨l', rfl, hs', hr⟩
      have HE := hidM (And.intro hs' hr)
      clear hs' hr
      go_wp2_with fail
      go_ret
      exact .of HX.out rfl (HE.out.1.base HS.out.drew.kp) HE.out.2
  have HX : Hid (x = none) := by rw [if_neg hle] at hx; exact hx
  have hge : ¬ 0 ≤ l - (16 + (v2.size : Int)) := by omega
  clear h1 hle hx
  go_enter Tryz.func229, Tryz.ntmps229
  go_wp2
  go_region
  all_goals
    go_wp2
    go_ret
    exact .no HX.out rfl HS.out.drew
theorem type_null (f0 : ByteArray) (f1 : Bool) (f2 : Int) (f3 f4 f5 : Int) (ao : Option Addr) (n ca : Nat) (v1 : Int) (v2 : ByteArray) (vo : Option Addr) (m vc : Nat) (w W : World) (sb : Nat) (l : Int) (x : Option Int) (b1 b2 b3 : Bool) (hb1 : (v1 == 0) = b1) (hb2 : v2.toList.isEmpty = b2) (hb3 : ((m : Int) == 0) = b3) (hs : Sc w W sb l) (hx : x = if (f1 && b1 && b2 && b3) = true then some l else none) :
    Calls Tryz.prog 273 #[.pointer (some ⟨sb, 0, none⟩), .agg #[.string f0, .bool f1, .int .i64 f2, .int .i64 f3, .int .i64 f4, .int .i64 f5, .slice ao n ca], .agg #[.bool true, .int .i64 v1, .string v2, .slice vo m vc]] W fun e w' => FitQ W sb x e w' := by
  have HS := hidM hs.self
  clear hs
  cases f1 <;> cases b1 <;> cases b2 <;> cases b3 <;> simp only [Bool.and_true, Bool.and_false, if_true, if_false, Bool.false_eq_true] at hx
  all_goals
    have HX := hidM hx
    clear hx
    go_enter Tryz.func273, Tryz.ntmps273
    go_wp2
    go_region
    all_goals
      go_wp2
      go_ret
      first | exact .no HX.out rfl ((HS.out.alloc _).alloc _).drew | exact .yes HX.out rfl ((HS.out.alloc _).alloc _).drew
theorem type_num (f0 : ByteArray) (f1 : Bool) (f2 : Int) (f3 f4 f5 : Int) (ao : Option Addr) (n ca : Nat) (v1 : Int) (v2 : ByteArray) (vo : Option Addr) (m vc : Nat) (w W : World) (sb : Nat) (l : Int) (x : Option Int) (b1 b2 b3 : Bool) (hb1 : (v1 == 0) = b1) (hb2 : v2.toList.isEmpty = b2) (hb3 : ((m : Int) == 0) = b3) (hs : Sc w W sb l) (hk : 1 ≤ f2 ∧ f2 ≤ 11) (nb : Bool) (hnb : numB f2 v1 = nb) (hx : x = if (b2 && b3 && nb) = true then some l else none) :
    Calls Tryz.prog 273 #[.pointer (some ⟨sb, 0, none⟩), .agg #[.string f0, .bool f1, .int .i64 f2, .int .i64 f3, .int .i64 f4, .int .i64 f5, .slice ao n ca], .agg #[.bool false, .int .i64 v1, .string v2, .slice vo m vc]] W fun e w' => FitQ W sb x e w' := by
  have HS := hidM hs.self
  clear hs
  have H93 : Hid (∀ W', Calls Tryz.prog 299 #[.int .i64 f2, .int .i64 v1] W' fun e w' => e = .returned (.bool nb) ∧ W' = w') := fun W' => by rw [← hnb]; exact fitsNumber_any f2 v1 (by omega) W'
  have e12 : (f2 == 12) = false := by simp; omega
  have e13 : (f2 == 13) = false := by simp; omega
  have e14 : (f2 == 14) = false := by simp; omega
  have e15 : (f2 == 15) = false := by simp; omega
  have e16 : (f2 == 16) = false := by simp; omega
  have e17 : (f2 == 17) = false := by simp; omega
  have e18 : (f2 == 18) = false := by simp; omega
  have e19 : (f2 == 19) = false := by simp; omega
  have e20 : (f2 == 20) = false := by simp; omega
  clear hk hnb
  cases b2 <;> cases b3 <;> cases nb <;> simp only [Bool.and_true, Bool.and_false, if_true, if_false, Bool.false_eq_true] at hx
  all_goals
    have HX := hidM hx
    clear hx
    go_enter Tryz.func273, Tryz.ntmps273
    go_wp2
    go_region
    all_goals
      go_wp2_with (go_at_call 299; refine (H93.out _).mono ?_; rintro e v1' ⟨rfl, rfl⟩)
      go_ret
      first | exact .no HX.out rfl ((((HS.out.alloc _).alloc _).alloc _).drew) | exact .yes HX.out rfl ((((HS.out.alloc _).alloc _).alloc _).drew)
theorem mayBe_any {f0 : ByteArray} {f1 : Bool} {f2 f3 f4 f5 : Int} {ao : Option Addr} {n ca : Nat} {w : World} {er : Int} {p : List Nat} {tt : Int} (h : Tells w 26 (.agg #[.string f0, .bool f1, .int .i64 f2, .int .i64 f3, .int .i64 f4, .int .i64 f5, .slice ao n ca]) er p tt) :
    ∀ W, Gr w W → Calls Tryz.prog 149 #[.agg #[.string f0, .bool f1, .int .i64 f2, .int .i64 f3, .int .i64 f4, .int .i64 f5, .slice ao n ca]] W fun e w' => e = .returned (.bool (er == 0)) ∧ Gr W w' := by
  intro W g
  have hfl : ∀ vo vn vc w, (Instr.field 60 (.agg #[.int .i64 er, .slice vo vn vc, .int .i64 tt]) 0).run Tryz.prog w = .ok (.int .i64 er) w := fun vo vn vc w => by kernel_rfl
  have gA := gr_alloc W (.cells #[.string f0, .bool f1, .int .i64 f2, .int .i64 f3, .int .i64 f4, .int .i64 f5, .slice ao n ca] 26)
  have HC := hidM (h _ (g.tr gA))
  have HG := hidM gA
  obtain ⟨q, hq⟩ : ∃ q, q = (er == 0) := ⟨_, rfl⟩
  rw [← hq]
  have hq' := hq.symm
  clear h gA g hq
  go_enter Tryz.func149, Tryz.ntmps149
  go_wp2_with (go_at_call 26; refine Hid.out ?_)
  unfold Hid
  refine Calls.mono HC.out ?_
  rintro e w' ⟨vo, vc, rfl, hg, -⟩
  have HG2 := hidM (HG.out.tr hg)
  clear hg
  go_wp2_with fail
  go_ret
  exact ⟨rfl, HG2.out⟩
theorem gr_past {W V w' : World} {sb : Nat} (g : Gr W V) (k : Keeps V w' (fun k => k = sb)) (h : W.heap.size ≤ sb) : Gr W w' := g.trans k (fun j hj e => by omega)
theorem fits25_walk (f0 : ByteArray) (f1 : Bool) (f2 f3 f4 f5 : Int) (ao : Option Addr) (n ca : Nat) (v0 : Bool) (v1 : Int) (v2 : ByteArray) (vo : Option Addr) (m vc : Nat) (w : World) (r : Int → Option Int)
    (hF : ∀ (V : World) (sb : Nat), Gr w V → w.heap.size ≤ sb → sb < V.heap.size → FitC V sb 229 (.agg #[.string f0, .bool f1, .int .i64 f2, .int .i64 f3, .int .i64 f4, .int .i64 f5, .slice ao n ca]) (.agg #[.bool v0, .int .i64 v1, .string v2, .slice vo m vc]) r) :
    ∀ W, Gr w W → Calls Tryz.prog 150 #[.agg #[.string f0, .bool f1, .int .i64 f2, .int .i64 f3, .int .i64 f4, .int .i64 f5, .slice ao n ca], .agg #[.bool v0, .int .i64 v1, .string v2, .slice vo m vc]] W fun e w' => e = .returned (.bool (r 4194304).isSome) ∧ Gr W w' := by
  intro W g
  obtain ⟨V, hV⟩ := ex (((W.alloc (.cells #[.string f0, .bool f1, .int .i64 f2, .int .i64 f3, .int .i64 f4, .int .i64 f5, .slice ao n ca] 26)).alloc (.cells #[.bool v0, .int .i64 v1, .string v2, .slice vo m vc] 98)).alloc (.cells #[.int .i64 4194304] 242))
  have gv : Gr W V := by rw [← hV]; exact (((Keeps.refl W _).alloc _).alloc _).alloc _
  have hbx : V.heap[W.heap.size + 1 + 1]? = some (.cells #[.int .i64 4194304] 242) := by
    have h := (alloc3 W (.cells #[.string f0, .bool f1, .int .i64 f2, .int .i64 f3, .int .i64 f4, .int .i64 f5, .slice ao n ca] 26) (.cells #[.bool v0, .int .i64 v1, .string v2, .slice vo m vc] 98) (.cells #[.int .i64 4194304] 242)).2.2.1
    rw [← hV]; exact h
  have HC := hidM (hF V (W.heap.size + 1 + 1) (g.tr gv) (by have := g.size; omega) (lt_of_heap hbx) V 4194304 ⟨Keeps.refl _ _, hbx⟩ (by decide) (by decide))
  have HG := hidM gv
  obtain ⟨q, hq⟩ : ∃ q, q = r 4194304 := ⟨_, rfl⟩
  rw [← hq] at HC ⊢
  have HV := hidM hV
  clear hF g gv hbx hq hV
  go_enter Tryz.func150, Tryz.ntmps150
  go_wp2_with (go_at_call 229; refine Hid.out ?_)
  unfold Hid
  rw [HV.out]
  refine Calls.mono HC.out ?_
  rintro e w' ⟨l', rfl, hs, -⟩
  have HE := hidM (gr_past HG.out hs.kp (by omega))
  clear hs
  go_wp2_with fail
  go_ret
  exact ⟨rfl, HE.out⟩
def fitE (mb fb : Bool) : Int := if mb = false then 5 else if fb = false then 7 else 0
theorem fits6_walk (f0 : ByteArray) (f1 : Bool) (f2 f3 f4 f5 : Int) (ao : Option Addr) (n ca : Nat) (v0 : Bool) (v1 : Int) (v2 : ByteArray) (vo : Option Addr) (m vc : Nat) (w : World) (mb fb : Bool)
    (h24 : ∀ W, Gr w W → Calls Tryz.prog 149 #[.agg #[.string f0, .bool f1, .int .i64 f2, .int .i64 f3, .int .i64 f4, .int .i64 f5, .slice ao n ca]] W fun e w' => e = .returned (.bool mb) ∧ Gr W w')
    (h25 : mb = true → ∀ W, Gr w W → Calls Tryz.prog 150 #[.agg #[.string f0, .bool f1, .int .i64 f2, .int .i64 f3, .int .i64 f4, .int .i64 f5, .slice ao n ca], .agg #[.bool v0, .int .i64 v1, .string v2, .slice vo m vc]] W fun e w' => e = .returned (.bool fb) ∧ Gr W w') :
    ∀ W, Gr w W → Calls Tryz.prog 100 #[.agg #[.string f0, .bool f1, .int .i64 f2, .int .i64 f3, .int .i64 f4, .int .i64 f5, .slice ao n ca], .agg #[.bool v0, .int .i64 v1, .string v2, .slice vo m vc]] W fun e w' => e = .returned (.int .i64 (fitE mb fb)) ∧ Gr W w' := by
  intro W g
  have HG := hidM g
  have H24 := hidM h24
  have H25 := hidM h25
  obtain ⟨R, hR⟩ : ∃ R, R = fitE mb fb := ⟨_, rfl⟩
  rw [← hR]
  have HR := hidM hR
  obtain ⟨V, hV⟩ := ex ((W.alloc (.cells #[.string f0, .bool f1, .int .i64 f2, .int .i64 f3, .int .i64 f4, .int .i64 f5, .slice ao n ca] 26)).alloc (.cells #[.bool v0, .int .i64 v1, .string v2, .slice vo m vc] 98))
  have gv : Gr W V := by rw [← hV]; exact ((Keeps.refl W _).alloc _).alloc _
  have hA := alloc3 W (.cells #[.string f0, .bool f1, .int .i64 f2, .int .i64 f3, .int .i64 f4, .int .i64 f5, .slice ao n ca] 26) (.cells #[.bool v0, .int .i64 v1, .string v2, .slice vo m vc] 98) (.cells #[] 98)
  have hb7 : B7 V W.heap.size f0 f1 f2 f3 f4 f5 ao n ca := by
    unfold B7
    rw [← hV]
    exact (Below.heap_alloc (W.alloc _) _ W.heap.size (by simp)).trans (heap_alloc_new W _)
  have hb4 : B4 V (W.heap.size + 1) v0 v1 v2 vo m vc := by
    unfold B4
    rw [← hV]
    have e := heap_alloc_new (W.alloc (.cells #[.string f0, .bool f1, .int .i64 f2, .int .i64 f3, .int .i64 f4, .int .i64 f5, .slice ao n ca] 26)) (.cells #[.bool v0, .int .i64 v1, .string v2, .slice vo m vc] 98)
    rw [show (W.alloc (.cells #[.string f0, .bool f1, .int .i64 f2, .int .i64 f3, .int .i64 f4, .int .i64 f5, .slice ao n ca] 26)).heap.size = W.heap.size + 1 by simp] at e
    exact e
  have H7 := hidM hb7
  have H4 := hidM hb4
  have HV := hidM hV
  have HGv := hidM gv
  clear h24 h25 g hR hV gv hA hb7 hb4
  go_enter Tryz.func100, Tryz.ntmps100
  go_wp2_with (go_at_call 149; refine Hid.out ?_)
  unfold Hid
  rw [HV.out]
  refine Calls.mono (H24.out _ (HG.out.tr HGv.out)) ?_
  rintro e V1 ⟨rfl, hg1⟩
  obtain ⟨p0, p1, p2, p3, p4, p5, p6⟩ := B7.cells ((hg1.block _ (lt_of_heap H7.out) id).trans H7.out)
  obtain ⟨q0, q1, q2, q3⟩ := B4.cells ((hg1.block _ (lt_of_heap H4.out) id).trans H4.out)
  have HG1 := hidM (HGv.out.tr hg1)
  clear hg1
  cases mb with
  | false =>
    have HX : Hid (R = 5) := HR.out
    go_wp2_with fail
    go_ret
    exact ⟨by rw [HX.out]; rfl, HG1.out⟩
  | true =>
    go_wp2_with (go_at_call 150; refine Hid.out ?_)
    unfold Hid
    refine Calls.mono (H25.out (by trivial) _ (HG.out.tr HG1.out)) ?_
    rintro e V2 ⟨rfl, hg2⟩
    have HG2 := hidM (HG1.out.tr hg2)
    clear hg2 p0 p1 p2 p3 p4 p5 p6 q0 q1 q2 q3
    cases fb with
    | false =>
      have HX : Hid (R = 7) := HR.out
      go_wp2_with fail
      go_ret
      exact ⟨by rw [HX.out]; rfl, HG2.out⟩
    | true =>
      have HX : Hid (R = 0) := HR.out
      go_wp2_with fail
      go_ret
      exact ⟨by rw [HX.out]; rfl, HG2.out⟩
end Go.Proofs.YtknnoiomdngmfaaGreatDoor.Kit
namespace Go.Proofs.YtknnoiomdngmfaaGreatDoor.Kit
open Go.RowKit Go.Shelf Go.Deep
set_option linter.unusedVariables false
set_option linter.unusedSimpArgs false
def leafF (nm : ByteArray) (nu : Bool) (k : Int) : FT := .mk nm nu k 0 0 0 []
def fitN (nu : Bool) (k : Int) (vn : Bool) (x : Int) : Bool := if vn = true then nu && (x == 0) else numB k x
section
variable {w : World} {nm : ByteArray} {nu : Bool} {k : Int} {ao : Option Addr} {ca : Nat}
theorem leaf_tells (hT : Tab w) (hr : AllR (nodes (0 + 1) [leafF nm nu k] [] false)) : ∃ tt, Tells w 26 (.agg #[.string nm, .bool nu, .int .i64 k, .int .i64 0, .int .i64 0, .int .i64 0, .slice ao 0 ca]) 0 [] tt := by
  have hF : FaultIs (0, 0) (nodes (0 + 1) [leafF nm nu k] [] false) 0 [] 0 := .inr (.inl ⟨rfl, hr, rfl, rfl, rfl⟩)
  refine ⟨0, fun W g => ?_⟩
  refine Calls.mono (checkField_any (fun _ => False) 0 (leafF nm nu k) ao ca W (hT.gr g) rfl (Nat.zero_le _) (by decide) (fun b hb => hb.elim)) ?_
  rintro e w' ⟨er', p', vo, vc, tt', rfl, hg, h1, h2⟩
  obtain ⟨rfl, hp, rfl⟩ := hF.one h1
  rw [← hp] at h2 ⊢
  exact ⟨vo, vc, rfl, hg, h2⟩
theorem leaf_may (hT : Tab w) (hr : AllR (nodes (0 + 1) [leafF nm nu k] [] false)) :
    ∀ W, Gr w W → Calls Tryz.prog 149 #[.agg #[.string nm, .bool nu, .int .i64 k, .int .i64 0, .int .i64 0, .int .i64 0, .slice ao 0 ca]] W fun e w' => e = .returned (.bool true) ∧ Gr W w' := by
  obtain ⟨tt, h⟩ := leaf_tells (ao := ao) (ca := ca) hT hr
  exact mayBe_any h
theorem leaf_fits (hT : Tab w) (hr : AllR (nodes (0 + 1) [leafF nm nu k] [] false)) (hk : 1 ≤ k ∧ k ≤ 11) (vn : Bool) (x : Int) (vo : Option Addr) (vc : Nat) :
    ∀ W, Gr w W → Calls Tryz.prog 100 #[.agg #[.string nm, .bool nu, .int .i64 k, .int .i64 0, .int .i64 0, .int .i64 0, .slice ao 0 ca], .agg #[.bool vn, .int .i64 x, .string ⟨#[]⟩, .slice vo 0 vc]] W fun e w' => e = .returned (.int .i64 (fitE true (fitN nu k vn x))) ∧ Gr W w' := by
  refine fits6_walk _ _ _ _ _ _ _ _ _ _ _ _ _ _ _ w true (fitN nu k vn x) (leaf_may hT hr) (fun _ => ?_)
  have h := fits25_walk nm nu k 0 0 0 ao 0 ca vn x ⟨#[]⟩ vo 0 vc w (fun l => if (16 : Int) ≤ l then (if fitN nu k vn x = true then some (l - 16) else none) else none) (fun V sb g hsb hlt => ?_)
  · have e : ((fun l => if (16 : Int) ≤ l then (if fitN nu k vn x = true then some (l - 16) else none) else none : Int → Option Int) 4194304).isSome = fitN nu k vn x := by
      cases fitN nu k vn x <;> rfl
    intro W g
    have h' := h W g
    rw [e] at h'
    exact h'
  have h0 : FitC V sb 273 (.agg #[.string nm, .bool nu, .int .i64 k, .int .i64 0, .int .i64 0, .int .i64 0, .slice ao 0 ca]) (.agg #[.bool vn, .int .i64 x, .string ⟨#[]⟩, .slice vo 0 vc]) (fun l => if fitN nu k vn x = true then some l else none) := by
    intro W l hs h0 h1
    cases vn with
    | true => exact type_null nm nu k 0 0 0 ao 0 ca x ⟨#[]⟩ vo 0 vc V W sb l _ (x == 0) true true rfl (by simp [ByteArray.toList_eq]) rfl hs (by simp [fitN])
    | false => exact type_num nm nu k 0 0 0 ao 0 ca x ⟨#[]⟩ vo 0 vc V W sb l _ (x == 0) true true rfl (by simp [ByteArray.toList_eq]) rfl hs hk (numB k x) rfl (by simp [fitN])
  have h2 := fits_walk nm nu k 0 0 0 ao 0 ca vn x ⟨#[]⟩ vo 0 vc V sb _ (by decide) h0
  have e : (fun l => if (16 + (⟨#[]⟩ : ByteArray).size : Int) ≤ l then (if fitN nu k vn x = true then some (l - (16 + (⟨#[]⟩ : ByteArray).size : Int)) else none) else none : Int → Option Int) = (fun l => if (16 : Int) ≤ l then (if fitN nu k vn x = true then some (l - 16) else none) else none) := rfl
  rw [← e]
  exact h2
end
end Go.Proofs.YtknnoiomdngmfaaGreatDoor.Kit
