import Derived.Test.YtcfdkadhclickaaDoorVD
namespace Go.Proofs.YtcfdkadhclickaaDoor.Kit
open Go.RowKit Go.Shelf Go.Deep
set_option linter.unusedVariables false
attribute [local go_sem] run_store_func

/-! ### the scale, and a value that is weighed -/
structure Sc (w W : World) (sb : Nat) (l : Int) : Prop where
  kp : Keeps w W (fun k => k = sb)
  bx : W.heap[sb]? = some (.cells #[.int .i64 l] 75)
def valV (v : VT) (ao : Option Addr) (ca : Nat) : Value := .agg #[.bool v.nul, .int .i64 v.num, .string v.text, .slice ao v.list.length ca]
def FitQ (w : World) (sb : Nat) (x : Option Int) (e : Ending) (w' : World) : Prop := ∃ l', e = .returned (.bool x.isSome) ∧ Sc w w' sb l' ∧ ∀ l1, x = some l1 → l' = l1
theorem FitQ.no {w w' : World} {sb : Nat} {x : Option Int} {l : Int} {e : Ending} (hx : x = none) (he : e = .returned (.bool false)) (h : Sc w w' sb l) : FitQ w sb x e w' := ⟨l, by rw [he, hx]; rfl, h, fun _ h => by rw [hx] at h; cases h⟩
theorem FitQ.yes {w w' : World} {sb : Nat} {x : Option Int} {l : Int} {e : Ending} (hx : x = some l) (he : e = .returned (.bool true)) (h : Sc w w' sb l) : FitQ w sb x e w' := ⟨l, by rw [he, hx]; rfl, h, fun _ h => by rw [hx] at h; exact Option.some.inj h⟩
theorem FitQ.of {w w' : World} {sb : Nat} {x y : Option Int} {l : Int} {e : Ending} (hx : x = y) (he : e = .returned (.bool y.isSome)) (h : Sc w w' sb l) (hl : ∀ l1, y = some l1 → l = l1) : FitQ w sb x e w' := by subst hx; exact ⟨l, he, h, hl⟩
/-- a call with the scale answers whether it fits, and leaves what is left -/
def FitC (w : World) (sb F : Nat) (a b : Value) (r : Int → Option Int) : Prop :=
  ∀ W l, Sc w W sb l → 0 ≤ l → l ≤ 4194304 → Calls Tryd.prog F #[.pointer (some ⟨sb, 0, none⟩), a, b] W fun e w' => FitQ W sb (r l) e w'
theorem Sc.alloc {w W : World} {sb : Nat} {l : Int} (h : Sc w W sb l) (o : Obj) : Sc w (W.alloc o) sb l :=
  ⟨h.kp.alloc o, (Below.heap_alloc W o sb (lt_of_heap h.bx)).trans h.bx⟩
theorem Sc.set {w W : World} {sb : Nat} {l : Int} (h : Sc w W sb l) (l' : Int) : Sc w (W.setCell ⟨sb, 0, none⟩ (.int .i64 l')) sb l' := by
  refine ⟨h.kp.setCell (fun _ => rfl) _, ?_⟩
  have hb := lt_of_heap h.bx
  have hx := h.bx
  simp only [World.setCell]
  rw [Array.getElem?_modify]
  simp [hx]
theorem Sc.drew {w W : World} {sb : Nat} {l : Int} (h : Sc w W sb l) : Sc w W.drew sb l := ⟨h.kp.drew, h.bx⟩
theorem Sc.cell {w W : World} {sb : Nat} {l : Int} (h : Sc w W sb l) : W.cell? ⟨sb, 0, none⟩ = some (.int .i64 l) := by
  have hx := h.bx
  simp [World.cell?, hx]
theorem Sc.frz {w W : World} {sb : Nat} {l : Int} (h : Sc w W sb l) : W.frozen? ⟨sb, 0, none⟩ = false := by
  have hx := h.bx
  simp [World.frozen?, hx]
theorem Sc.lt {w W : World} {sb : Nat} {l : Int} (h : Sc w W sb l) : sb < W.heap.size := lt_of_heap h.bx
/-- a field's box, a value's box -/
def B7 (W : World) (B : Nat) (f0 : ByteArray) (f1 : Bool) (f2 f3 f4 f5 : Int) (ao : Option Addr) (n ca : Nat) : Prop := W.heap[B]? = some (.cells #[.string f0, .bool f1, .int .i64 f2, .int .i64 f3, .int .i64 f4, .int .i64 f5, .slice ao n ca] 26)
def B4 (W : World) (B : Nat) (v0 : Bool) (v1 : Int) (v2 : ByteArray) (vo : Option Addr) (m vc : Nat) : Prop := W.heap[B]? = some (.cells #[.bool v0, .int .i64 v1, .string v2, .slice vo m vc] 29)
theorem B7.cells {W : World} {B : Nat} {f0 : ByteArray} {f1 : Bool} {f2 f3 f4 f5 : Int} {ao : Option Addr} {n ca : Nat} (h : B7 W B f0 f1 f2 f3 f4 f5 ao n ca) :
    W.cell? ⟨B, 0, none⟩ = some (.string f0) ∧ W.cell? ⟨B, 1, none⟩ = some (.bool f1) ∧ W.cell? ⟨B, 2, none⟩ = some (.int .i64 f2) ∧ W.cell? ⟨B, 3, none⟩ = some (.int .i64 f3) ∧ W.cell? ⟨B, 4, none⟩ = some (.int .i64 f4) ∧ W.cell? ⟨B, 5, none⟩ = some (.int .i64 f5) ∧ W.cell? ⟨B, 6, none⟩ = some (.slice ao n ca) := by
  unfold B7 at h
  simp [World.cell?, h]
theorem B4.cells {W : World} {B : Nat} {v0 : Bool} {v1 : Int} {v2 : ByteArray} {vo : Option Addr} {m vc : Nat} (h : B4 W B v0 v1 v2 vo m vc) :
    W.cell? ⟨B, 0, none⟩ = some (.bool v0) ∧ W.cell? ⟨B, 1, none⟩ = some (.int .i64 v1) ∧ W.cell? ⟨B, 2, none⟩ = some (.string v2) ∧ W.cell? ⟨B, 3, none⟩ = some (.slice vo m vc) := by
  unfold B4 at h
  simp [World.cell?, h]

theorem Sc.gr {w W W' : World} {sb : Nat} {l : Int} (h : Sc w W sb l) (g : Gr W W') : Sc w W' sb l := ⟨h.kp.trans g (fun _ _ h => h.elim), (g.block sb h.lt id).trans h.bx⟩
theorem Sc.base {w V W : World} {sb : Nat} {l : Int} (h : Sc V W sb l) (k : Keeps w V (fun k => k = sb)) : Sc w W sb l := ⟨k.trans h.kp (fun _ _ h => h), h.bx⟩
theorem Sc.self {w W : World} {sb : Nat} {l : Int} (h : Sc w W sb l) : Sc W W sb l := ⟨Keeps.refl _ _, h.bx⟩
theorem Sc.other {V W : World} {sb : Nat} {l : Int} (h : Sc V W sb l) {b o : Nat} {v : Value} (hc : V.cell? ⟨b, o, none⟩ = some v) (hb : b ≠ sb) : W.cell? ⟨b, o, none⟩ = some v := h.kp.cell' hc hb
def B5 (W : World) (B : Nat) (f2 f3 f4 f5 : Int) (ao : Option Addr) (n ca : Nat) : Prop := W.heap[B]? = some (.cells #[.int .i64 f2, .int .i64 f3, .int .i64 f4, .int .i64 f5, .slice ao n ca] 24)
theorem B5.cells {W : World} {B : Nat} {f2 f3 f4 f5 : Int} {ao : Option Addr} {n ca : Nat} (h : B5 W B f2 f3 f4 f5 ao n ca) :
    W.cell? ⟨B, 0, none⟩ = some (.int .i64 f2) ∧ W.cell? ⟨B, 1, none⟩ = some (.int .i64 f3) ∧ W.cell? ⟨B, 2, none⟩ = some (.int .i64 f4) ∧ W.cell? ⟨B, 3, none⟩ = some (.int .i64 f5) ∧ W.cell? ⟨B, 4, none⟩ = some (.slice ao n ca) := by
  unfold B5 at h
  simp [World.cell?, h]
theorem alloc3 (W : World) (a b c : Obj) : (((W.alloc a).alloc b).alloc c).drew.heap[W.heap.size]? = some a ∧ (((W.alloc a).alloc b).alloc c).drew.heap[W.heap.size + 1]? = some b ∧ (((W.alloc a).alloc b).alloc c).drew.heap[W.heap.size + 1 + 1]? = some c ∧ Gr W (((W.alloc a).alloc b).alloc c).drew := by
  have s1 : (W.alloc a).heap.size = W.heap.size + 1 := by simp
  have s2 : ((W.alloc a).alloc b).heap.size = W.heap.size + 1 + 1 := by simp
  refine ⟨?_, ?_, ?_, ((((Keeps.refl W _).alloc a).alloc b).alloc c).drew⟩
  · exact (Below.heap_alloc ((W.alloc a).alloc b) c W.heap.size (by omega)).trans ((Below.heap_alloc (W.alloc a) b W.heap.size (by omega)).trans (heap_alloc_new W a))
  · refine (Below.heap_alloc ((W.alloc a).alloc b) c (W.heap.size + 1) (by omega)).trans ?_
    have := heap_alloc_new (W.alloc a) b
    rw [s1] at this
    exact this
  · have := heap_alloc_new ((W.alloc a).alloc b) c
    rw [s2] at this
    exact this
set_option maxRecDepth 100000 in
set_option maxHeartbeats 2000000 in
theorem fits_walk (f0 : ByteArray) (f1 : Bool) (f2 f3 f4 f5 : Int) (ao : Option Addr) (n ca : Nat) (v0 : Bool) (v1 : Int) (v2 : ByteArray) (vo : Option Addr) (m vc : Nat) (w : World) (sb : Nat) (r : Int → Option Int) (hv2 : v2.size ≤ big)
    (h70 : FitC w sb 70 (.agg #[.string f0, .bool f1, .int .i64 f2, .int .i64 f3, .int .i64 f4, .int .i64 f5, .slice ao n ca]) (.agg #[.bool v0, .int .i64 v1, .string v2, .slice vo m vc]) r) :
    FitC w sb 47 (.agg #[.string f0, .bool f1, .int .i64 f2, .int .i64 f3, .int .i64 f4, .int .i64 f5, .slice ao n ca]) (.agg #[.bool v0, .int .i64 v1, .string v2, .slice vo m vc]) (fun l => if (16 + v2.size : Int) ≤ l then r (l - (16 + v2.size)) else none) := by
  intro W l hs h0 h1
  have h70 := hidM h70
  have hz : v2.size ≤ 1000000000000 := hv2
  have hw1 : wrap64 (16 + (v2.size : Int)) = 16 + v2.size := by unfold wrap64; omega
  have hw2 : wrap64 (l - (16 + (v2.size : Int))) = l - (16 + v2.size) := by unfold wrap64; omega
  have c0 : ∀ o o', ((W.alloc o).alloc o').cell? ⟨sb, 0, none⟩ = some (.int .i64 l) := fun o o' => ((hs.alloc o).alloc o').cell
  have z0 : ∀ o o', ((W.alloc o).alloc o').frozen? ⟨sb, 0, none⟩ = false := fun o o' => ((hs.alloc o).alloc o').frz
  obtain ⟨V2, hV2⟩ : ∃ V2, ((W.alloc (.cells #[.string f0, .bool f1, .int .i64 f2, .int .i64 f3, .int .i64 f4, .int .i64 f5, .slice ao n ca] 26)).alloc (.cells #[.bool v0, .int .i64 v1, .string v2, .slice vo m vc] 29)).setCell ⟨sb, 0, none⟩ (.int .i64 (l - (16 + v2.size))) = V2 := ⟨_, rfl⟩
  have HS : Hid (Sc W V2 sb (l - (16 + v2.size))) := by rw [← hV2]; exact ((hs.self.alloc _).alloc _).set _
  have HK := hidM hs.kp
  have hne := hs.lt
  have b7 : B7 V2 W.heap.size f0 f1 f2 f3 f4 f5 ao n ca := by
    unfold B7
    rw [← hV2, heap_setCell_other _ ⟨sb, 0, none⟩ _ _ (by show W.heap.size ≠ sb; omega)]
    exact (Below.heap_alloc (W.alloc _) _ W.heap.size (by simp)).trans (heap_alloc_new W _)
  have b4 : B4 V2 (W.heap.size + 1) v0 v1 v2 vo m vc := by
    unfold B4
    rw [← hV2, heap_setCell_other _ ⟨sb, 0, none⟩ _ _ (by show W.heap.size + 1 ≠ sb; omega)]
    have e := heap_alloc_new (W.alloc (.cells #[.string f0, .bool f1, .int .i64 f2, .int .i64 f3, .int .i64 f4, .int .i64 f5, .slice ao n ca] 26)) (.cells #[.bool v0, .int .i64 v1, .string v2, .slice vo m vc] 29)
    rw [show (W.alloc (.cells #[.string f0, .bool f1, .int .i64 f2, .int .i64 f3, .int .i64 f4, .int .i64 f5, .slice ao n ca] 26)).heap.size = W.heap.size + 1 by simp] at e
    exact e
  obtain ⟨p0, p1, p2, p3, p4, p5, p6⟩ := b7.cells
  obtain ⟨q0, q1, q2, q3⟩ := b4.cells
  have s0 := HS.out.cell
  clear b7 b4 hs hne hv2 hz
  dsimp only
  obtain ⟨x, hx⟩ : ∃ x, x = (if (16 + v2.size : Int) ≤ l then r (l - (16 + v2.size)) else none) := ⟨_, rfl⟩
  rw [← hx]
  by_cases hle : (16 + v2.size : Int) ≤ l
  · have hge : 0 ≤ l - (16 + (v2.size : Int)) := by omega
    have HB : Hid (l - (16 + (v2.size : Int)) ≤ 4194304) := by show _ ≤ _; omega
    have HX : Hid (x = r (l - (16 + v2.size))) := by rw [if_pos hle] at hx; exact hx
    clear h1 hle hx
    go_enter Tryd.func47, Tryd.ntmps47
    go_wp2
    go_region
    all_goals
      go_wp2_with (go_at_call 70; refine Hid.out ?_)
      unfold Hid
      refine Calls.mono (h70.out _ _ (HS.out.drew.base HK.out) hge HB.out) ?_
      rintro e w' ⟨l', rfl, hs', hr⟩
      have HE := hidM (And.intro hs' hr)
      clear hs' hr
      go_wp2_with fail
      go_ret
      exact .of HX.out rfl (HE.out.1.base HS.out.drew.kp) HE.out.2
  · have HX : Hid (x = none) := by rw [if_neg hle] at hx; exact hx
    have hge : ¬ 0 ≤ l - (16 + (v2.size : Int)) := by omega
    clear h1 hle hx
    go_enter Tryd.func47, Tryd.ntmps47
    go_wp2
    go_region
    all_goals
      go_wp2
      go_ret
      exact .no HX.out rfl HS.out.drew
end Go.Proofs.YtcfdkadhclickaaDoor.Kit
