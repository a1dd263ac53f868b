import Derived.Test.YtnmfnmofcgcnbaaGreatDoorXF
import Derived.Test.YtnmfnmofcgcnbaaGreatDoorRows
import Derived.ProofKit
import Derived.OpenShut
import Derived.ChangeOld
import Derived.Below
import Derived.Deep.Slices
import Derived.Lib.LaidTab
import Derived.Lib.LaidU8
import Derived.Deep.DeepHandedRow
set_option maxRecDepth 100000
set_option maxHeartbeats 4000000
namespace Go.Proofs.YtnmfnmofcgcnbaaGreatDoor.Kit
open Go.RowKit Go.Shelf Go.Deep
open Go.Proofs.YtnmfnmofcgcnbaaGreatDoor.Kd (Ans AnsV cell5 cell2)
open Go.Proofs.YtnmfnmofcgcnbaaGreatDoor.Ink (OwnRow)
set_option linter.unusedVariables false
set_option linter.unusedSimpArgs false
attribute [local go_sem] run_store_func
theorem bytes1 {w : World} {v : Nat} (h : w.cell? ⟨v, 0, none⟩ = some (.int .u8 1)) : ∀ j (hj : j < ([1] : List UInt8).length), w.cell? ⟨v, j, none⟩ = some (.int .u8 ((([1] : List UInt8)[j].toNat : Nat) : Int)) := fun j hj => by
  obtain rfl : j = 0 := by simp at hj; omega
  exact h
theorem bytes4 {w : World} {v : Nat} (h0 : w.cell? ⟨v, 0, none⟩ = some (.int .u8 254)) (h1 : w.cell? ⟨v, 1, none⟩ = some (.int .u8 255)) (h2 : w.cell? ⟨v, 2, none⟩ = some (.int .u8 0)) (h3 : w.cell? ⟨v, 3, none⟩ = some (.int .u8 0)) : ∀ j (hj : j < ([254, 255, 0, 0] : List UInt8).length), w.cell? ⟨v, j, none⟩ = some (.int .u8 ((([254, 255, 0, 0] : List UInt8)[j].toNat : Nat) : Int)) := fun j hj => by
  have : j = 0 ∨ j = 1 ∨ j = 2 ∨ j = 3 := by simp at hj; omega
  rcases this with rfl | rfl | rfl | rfl
  · exact h0
  · exact h1
  · exact h2
  · exact h3
theorem same_buffers {V : World} {qb bc v1 c1 v2 pb pc u1 k1 u2 : Nat} (h : DatB V pb u1 k1 u2) (h' : DatB V qb v1 c1 v2) : ∀ u, Gr V u → Calls Tryz.prog 20 #[.slice (some ⟨pb, 0, none⟩) 2 pc, .slice (some ⟨qb, 0, none⟩) 2 bc, .func (.func 21) #[] #[]] u fun e w' => e = .returned (.bool true) ∧ w' = u := fun u g => by
  have hu := h.gr g
  have hu' := h'.gr g
  have two : ∀ k : Nat, k < 2 → k = 0 ∨ k = 1 := fun k hk => by omega
  refine eqf20 pb qb 2 pc bc (fun k => if k = 0 then .slice (some ⟨u1, 0, none⟩) 1 k1 else .slice (some ⟨u2, 0, none⟩) 4 4) (fun k => if k = 0 then .slice (some ⟨v1, 0, none⟩) 1 c1 else .slice (some ⟨v2, 0, none⟩) 4 4) u ?_ ?_ ?_ (by decide)
  · intro k hk
    rcases two k hk with rfl | rfl
    · exact hu.b0
    · exact hu.b1
  · intro k hk
    rcases two k hk with rfl | rfl
    · exact hu'.b0
    · exact hu'.b1
  · intro k hk
    rcases two k hk with rfl | rfl
    · exact equal21 u1 v1 k1 c1 1 [1] u rfl (bytes1 hu.hv) (bytes1 hu'.hv)
    · exact equal21 u2 v2 4 4 4 [254, 255, 0, 0] u rfl (bytes4 hu.x0 hu.x1 hu.x2 hu.x3) (bytes4 hu'.x0 hu'.x1 hu'.x2 hu'.x3)
theorem isForm6 (qb bc v1 c1 v2 : Nat) (ao : Option Addr) (ca : Nat) (W : World) (hD : DatB W qb v1 c1 v2) (hT : Tab W) (hB : Bits.Tab W) :
    Calls Tryz.prog 6 #[.agg #[.string nmA, .bool true, .int .i64 4, .int .i64 0, .int .i64 0, .int .i64 0, .slice ao 0 ca], .agg #[.int .i64 2, .int .i64 0, .int .i64 1, .slice (some ⟨qb, 0, none⟩) 2 bc, .slice none 0 0, .slice none 0 0]] W fun e w' => e = .returned (.bool true) ∧ Gr W w' := by
  obtain ⟨A0, hA0⟩ : ∃ A0, W.alloc (.cells #[.string nmA, .bool true, .int .i64 4, .int .i64 0, .int .i64 0, .int .i64 0, .slice ao 0 ca] 27) = A0 := ⟨_, rfl⟩
  have g0 : Gr W A0 := by rw [← hA0]; exact gr_alloc W _
  have b0 : A0.heap[W.heap.size]? = some (.cells #[.string nmA, .bool true, .int .i64 4, .int .i64 0, .int .i64 0, .int .i64 0, .slice ao 0 ca] 27) := by rw [← hA0]; exact heap_alloc_new W _
  obtain ⟨A1, hA1⟩ : ∃ A1, A0.alloc (.cells #[.int .i64 2, .int .i64 0, .int .i64 1, .slice (some ⟨qb, 0, none⟩) 2 bc, .slice none 0 0, .slice none 0 0] 31) = A1 := ⟨_, rfl⟩
  have g1 : Gr A0 A1 := by rw [← hA1]; exact gr_alloc A0 _
  have b1 : A1.heap[A0.heap.size]? = some (.cells #[.int .i64 2, .int .i64 0, .int .i64 1, .slice (some ⟨qb, 0, none⟩) 2 bc, .slice none 0 0, .slice none 0 0] 31) := by rw [← hA1]; exact heap_alloc_new A0 _
  have gW : Gr W A1 := g0.trans g1 (fun _ _ h => h)
  obtain ⟨a0, a1, a2, a3, a4, a5, a6⟩ := cell7 ((g1.block _ (lt_of_heap b0) id).trans b0)
  obtain ⟨d0, d1, d2, d3, d4, d5⟩ := cell6 b1
  have hDA := hD.gr gW
  have HC : Hid (Calls Tryz.prog 10 #[.agg #[.string nmA, .bool true, .int .i64 4, .int .i64 0, .int .i64 0, .int .i64 0, .slice ao 0 ca], .agg #[.int .i64 2, .int .i64 0, .int .i64 1, .slice (some ⟨qb, 0, none⟩) 2 bc, .slice none 0 0, .slice none 0 0]] A1 fun e w' => ∃ pb pc u1 k1 u2, e = .returned (.tuple #[.agg #[.int .i64 2, .int .i64 0, .int .i64 1, .slice (some ⟨pb, 0, none⟩) 2 pc, .slice none 0 0, .slice none 0 0], .int .i64 0]) ∧ Gr A1 w' ∧ DatB w' pb u1 k1 u2) := form10 qb bc v1 c1 v2 ao ca A1 hDA (hT.gr gW) (bt_gr hB gW)
  have HT : Hid (∀ w1 pb pc u1 k1 u2, Gr A1 w1 → DatB w1 pb u1 k1 u2 → (w1.alloc (.cells #[.int .i64 2, .int .i64 0, .int .i64 1, .slice (some ⟨pb, 0, none⟩) 2 pc, .slice none 0 0, .slice none 0 0] 31)).heap[w1.heap.size]? = some (.cells #[.int .i64 2, .int .i64 0, .int .i64 1, .slice (some ⟨pb, 0, none⟩) 2 pc, .slice none 0 0, .slice none 0 0] 31) ∧ (w1.alloc (.cells #[.int .i64 2, .int .i64 0, .int .i64 1, .slice (some ⟨pb, 0, none⟩) 2 pc, .slice none 0 0, .slice none 0 0] 31)).heap[A0.heap.size]? = some (.cells #[.int .i64 2, .int .i64 0, .int .i64 1, .slice (some ⟨qb, 0, none⟩) 2 bc, .slice none 0 0, .slice none 0 0] 31) ∧ Gr W (w1.alloc (.cells #[.int .i64 2, .int .i64 0, .int .i64 1, .slice (some ⟨pb, 0, none⟩) 2 pc, .slice none 0 0, .slice none 0 0] 31)) ∧ Calls Tryz.prog 11 #[.agg #[.int .i64 2, .int .i64 0, .int .i64 1, .slice (some ⟨pb, 0, none⟩) 2 pc, .slice none 0 0, .slice none 0 0], .agg #[.int .i64 2, .int .i64 0, .int .i64 1, .slice (some ⟨qb, 0, none⟩) 2 bc, .slice none 0 0, .slice none 0 0]] (w1.alloc (.cells #[.int .i64 2, .int .i64 0, .int .i64 1, .slice (some ⟨pb, 0, none⟩) 2 pc, .slice none 0 0, .slice none 0 0] 31)) (fun e w' => e = .returned (.bool true) ∧ Gr (w1.alloc (.cells #[.int .i64 2, .int .i64 0, .int .i64 1, .slice (some ⟨pb, 0, none⟩) 2 pc, .slice none 0 0, .slice none 0 0] 31)) w')) := fun w1 pb pc u1 k1 u2 gw hd => by
    have gv : Gr w1 (w1.alloc (.cells #[.int .i64 2, .int .i64 0, .int .i64 1, .slice (some ⟨pb, 0, none⟩) 2 pc, .slice none 0 0, .slice none 0 0] 31)) := gr_alloc w1 _
    have gA := gw.trans gv (fun _ _ h => h)
    exact ⟨heap_alloc_new w1 _, (gA.block _ (lt_of_heap b1) id).trans b1, gW.trans gA (fun _ _ h => h), sameData11 2 1 (.slice (some ⟨pb, 0, none⟩) 2 pc) (.slice (some ⟨qb, 0, none⟩) 2 bc) _ (same_buffers (hd.gr gv) (hDA.gr gA))⟩
  clear g0 b0 g1 b1 gW hDA hD hT hB
  go_enter Tryz.func6, Tryz.ntmps6
  go_wp2_with (first
    | (go_at_call 10; refine HC.out.mono ?_; rintro e w1 ⟨pb, pc, u1, k1, u2, rfl, g1, hd1⟩; clear a0 a1 a2 a3 a4 a5 a6 d0 d1 d2 d3 d4 d5 hA0 hA1; obtain ⟨t1, t2, t3, t4⟩ := HT.out w1 pb pc u1 k1 u2 g1 hd1; obtain ⟨V, hV⟩ : ∃ V, w1.alloc (.cells #[.int .i64 2, .int .i64 0, .int .i64 1, .slice (some ⟨pb, 0, none⟩) 2 pc, .slice none 0 0, .slice none 0 0] 31) = V := ⟨_, rfl⟩; rw [hV] at t1 t2 t3 t4; obtain ⟨y0, y1, y2, y3, y4, y5⟩ := cell6 t1; obtain ⟨d0, d1, d2, d3, d4, d5⟩ := cell6 t2; have z4 := frz t1 4; have z5 := frz t1 5; have i4 := set_id (j := 4) (v := .slice none 0 0) t1 rfl; have i5 := set_id (j := 5) (v := .slice none 0 0) t1 rfl; have H11 := hidM t4; have HG := hidM t3; clear t1 t2 t3 t4 g1 hd1)
    | (go_at_call 11; refine H11.out.mono ?_; rintro e w2 ⟨rfl, g2⟩; have HG2 := hidM (HG.out.trans g2 (fun _ _ h => h)); clear g2))
  go_ret
  exact ⟨rfl, HG2.out⟩
/-- build.Of of the list that does not fit -/
theorem of5_bad (ao : Option Addr) (ca g : Nat) (u : World) (hT : Tab u) (hg : u.heap[g]? = some (.cells #[.bool false, .int .i64 1, .string ⟨#[]⟩, .slice none 0 0, .bool false, .int .i64 40000, .string ⟨#[]⟩, .slice none 0 0] 37)) :
    Calls Tryz.prog 5 #[.agg #[.string nmA, .bool true, .int .i64 4, .int .i64 0, .int .i64 0, .int .i64 0, .slice ao 0 ca], .slice (some ⟨g, 0, none⟩) 2 2] u fun e w' => e = .returned (.tuple #[.agg #[.int .i64 0, .int .i64 0, .int .i64 0, .slice none 0 0, .slice none 0 0, .slice none 0 0], .int .i64 7, .int .i64 1]) ∧ Gr u w' := by
  have hV : VAt u (some ⟨g, 0, none⟩) [(false, 1), (false, 40000)] := fun k vn x e => by
    obtain ⟨i0, i1, i2, i3, i4, i5, i6, i7⟩ := cell8 hg
    match k, e with
    | 0, e => cases e; exact ⟨g, none, 0, rfl, i0, i1, i2, i3⟩
    | 1, e => cases e; exact ⟨g, none, 0, rfl, i4, i5, i6, i7⟩
    | k + 2, e => simp at e
  refine (of5 true ao ca (some ⟨g, 0, none⟩) 2 [(false, 1), (false, 40000)] u hT hV (by decide)).mono ?_
  rintro e w' ⟨hgr, h | h⟩
  · obtain ⟨bo, bc, hall, -⟩ := h
    have := hall (false, 40000) (by simp)
    exact absurd this (by decide)
  · obtain ⟨k, y, hy, hf, hbef, rfl⟩ := h
    match k, hy with
    | 0, hy => cases hy; exact absurd hf (by decide)
    | 1, hy => exact ⟨rfl, hgr⟩
    | k + 2, hy => simp at hy
theorem awake4 (W : World) (hT : Tab W) (hB : Bits.Tab W) : Calls Tryz.prog 4 #[] W fun e w' => e = .returned (.bool true) ∧ Gr W w' := by
  obtain ⟨V0, hV0⟩ : ∃ V0, W.alloc (.cells #[.string nmA, .bool true, .int .i64 4, .int .i64 0, .int .i64 0, .int .i64 0, .slice none 0 0] 27) = V0 := ⟨_, rfl⟩
  have g0 : Gr W V0 := by rw [← hV0]; exact gr_alloc W _
  have b0 : V0.heap[W.heap.size]? = some (.cells #[.string nmA, .bool true, .int .i64 4, .int .i64 0, .int .i64 0, .int .i64 0, .slice none 0 0] 27) := by rw [← hV0]; exact heap_alloc_new W _
  obtain ⟨A1, hA1⟩ : ∃ A1, V0.alloc (.cells #[.bool false, .int .i64 (-2), .string ⟨#[]⟩, .slice none 0 0, .bool true, .int .i64 0, .string ⟨#[]⟩, .slice none 0 0] 37) = A1 := ⟨_, rfl⟩
  have g1 : Gr V0 A1 := by rw [← hA1]; exact gr_alloc V0 _
  have b1 : A1.heap[V0.heap.size]? = some (.cells #[.bool false, .int .i64 (-2), .string ⟨#[]⟩, .slice none 0 0, .bool true, .int .i64 0, .string ⟨#[]⟩, .slice none 0 0] 37) := by rw [← hA1]; exact heap_alloc_new V0 _
  have gA1 : Gr W A1 := g0.trans g1 (fun _ _ h => h)
  have HC1 := hidM (of5_2 none 0 V0.heap.size A1 (hT.gr gA1) b1)
  have HF : Hid (∀ u, Gr V0 u → u.heap[W.heap.size]? = some (.cells #[.string nmA, .bool true, .int .i64 4, .int .i64 0, .int .i64 0, .int .i64 0, .slice none 0 0] 27)) := fun u g => (g.block _ (lt_of_heap b0) id).trans b0
  have HG1 := hidM g1
  have HG0 := hidM g0
  have HT := hidM hT
  have HB := hidM hB
  obtain ⟨a0, a1, a2, a3, a4, a5, a6⟩ := cell7 b0
  have zz : ∀ j, V0.frozen? ⟨W.heap.size, j, none⟩ = false := fun j => frz b0 j
  have s3 := set_id (j := 3) (v := .int .i64 0) b0 rfl
  have s4 := set_id (j := 4) (v := .int .i64 0) b0 rfl
  have s5 := set_id (j := 5) (v := .int .i64 0) b0 rfl
  have s6 := set_id (j := 6) (v := .slice none 0 0) b0 rfl
  clear g0 b0 g1 b1 gA1 hT hB
  unfold nmA at hV0 HC1 HF a0
  go_enter Tryz.func4, Tryz.ntmps4
  go_wp2_with (go_at_call 5; refine Hid.out ?_)
  unfold Hid
  refine Calls.mono HC1.out ?_
  rintro e w1 ⟨pb, pc, v1, c1, v2, rfl, g1, hd1⟩
  clear a0 a1 a2 a3 a4 a5 a6 zz s3 s4 s5 s6 hV0 hA1 HC1
  have g1' : Gr V0 w1 := HG1.out.trans g1 (fun _ _ h => h)
  obtain ⟨V1, hV1⟩ : ∃ V1, w1.alloc (.cells #[.int .i64 2, .int .i64 0, .int .i64 1, .slice (some ⟨pb, 0, none⟩) 2 pc, .slice none 0 0, .slice none 0 0] 31) = V1 := ⟨_, rfl⟩
  have gv1 : Gr w1 V1 := by rw [← hV1]; exact gr_alloc w1 _
  have bv1 : V1.heap[w1.heap.size]? = some (.cells #[.int .i64 2, .int .i64 0, .int .i64 1, .slice (some ⟨pb, 0, none⟩) 2 pc, .slice none 0 0, .slice none 0 0] 31) := by rw [← hV1]; exact heap_alloc_new w1 _
  obtain ⟨A2, hA2⟩ : ∃ A2, V1.alloc (.cells #[.bool false, .int .i64 1, .string ⟨#[]⟩, .slice none 0 0, .bool false, .int .i64 40000, .string ⟨#[]⟩, .slice none 0 0] 37) = A2 := ⟨_, rfl⟩
  have gv2 : Gr V1 A2 := by rw [← hA2]; exact gr_alloc V1 _
  have bv2 : A2.heap[V1.heap.size]? = some (.cells #[.bool false, .int .i64 1, .string ⟨#[]⟩, .slice none 0 0, .bool false, .int .i64 40000, .string ⟨#[]⟩, .slice none 0 0] 37) := by rw [← hA2]; exact heap_alloc_new V1 _
  have gA : Gr w1 A2 := gv1.trans gv2 (fun _ _ h => h)
  have gV0A : Gr V0 A2 := g1'.trans gA (fun _ _ h => h)
  have HC2 := hidM (of5_bad none 0 V1.heap.size A2 (HT.out.gr (HG0.out.trans gV0A (fun _ _ h => h))) bv2)
  have HP : Hid (∀ w2, Gr A2 w2 → (w2.alloc (.cells #[.int .i64 0, .int .i64 0, .int .i64 0, .slice none 0 0, .slice none 0 0, .slice none 0 0] 31)).heap[w2.heap.size]? = some (.cells #[.int .i64 0, .int .i64 0, .int .i64 0, .slice none 0 0, .slice none 0 0, .slice none 0 0] 31) ∧ (w2.alloc (.cells #[.int .i64 0, .int .i64 0, .int .i64 0, .slice none 0 0, .slice none 0 0, .slice none 0 0] 31)).heap[w1.heap.size]? = some (.cells #[.int .i64 2, .int .i64 0, .int .i64 1, .slice (some ⟨pb, 0, none⟩) 2 pc, .slice none 0 0, .slice none 0 0] 31) ∧ (w2.alloc (.cells #[.int .i64 0, .int .i64 0, .int .i64 0, .slice none 0 0, .slice none 0 0, .slice none 0 0] 31)).heap[W.heap.size]? = some (.cells #[.string nmA, .bool true, .int .i64 4, .int .i64 0, .int .i64 0, .int .i64 0, .slice none 0 0] 27) ∧ Gr W (w2.alloc (.cells #[.int .i64 0, .int .i64 0, .int .i64 0, .slice none 0 0, .slice none 0 0, .slice none 0 0] 31)) ∧ DatB (w2.alloc (.cells #[.int .i64 0, .int .i64 0, .int .i64 0, .slice none 0 0, .slice none 0 0, .slice none 0 0] 31)) pb v1 c1 v2) := fun w2 g2 => by
    have gz : Gr w2 (w2.alloc (.cells #[.int .i64 0, .int .i64 0, .int .i64 0, .slice none 0 0, .slice none 0 0, .slice none 0 0] 31)) := gr_alloc w2 _
    have gz2 := g2.trans gz (fun _ _ h => h)
    have gz3 := gA.trans gz2 (fun _ _ h => h)
    have gz4 := g1'.trans gz3 (fun _ _ h => h)
    exact ⟨heap_alloc_new w2 _, ((gv2.trans gz2 (fun _ _ h => h)).block _ (lt_of_heap bv1) id).trans bv1, HF.out _ gz4, HG0.out.trans gz4 (fun _ _ h => h), hd1.gr gz3⟩
  obtain ⟨y0, y1, y2, y3, y4, y5⟩ := cell6 bv1
  have z4 := frz bv1 4
  have z5 := frz bv1 5
  have i4 := set_id (j := 4) (v := .slice none 0 0) bv1 rfl
  have i5 := set_id (j := 5) (v := .slice none 0 0) bv1 rfl
  obtain ⟨a0, a1, a2, a3, a4, a5, a6⟩ := cell7 (HF.out V1 (g1'.trans gv1 (fun _ _ h => h)))
  clear g1 hd1 g1' gv1 bv1 gv2 bv2 gA gV0A
  unfold nmA at HC2
  go_wp2_with (go_at_call 5; refine Hid.out ?_)
  unfold Hid
  refine Calls.mono HC2.out ?_
  rintro e w2 ⟨rfl, g2⟩
  obtain ⟨p1, p2, p3, p4, p5⟩ := HP.out w2 g2
  obtain ⟨V2, hV2⟩ : ∃ V2, w2.alloc (.cells #[.int .i64 0, .int .i64 0, .int .i64 0, .slice none 0 0, .slice none 0 0, .slice none 0 0] 31) = V2 := ⟨_, rfl⟩
  rw [hV2] at p1 p2 p3 p4 p5
  clear a0 a1 a2 a3 a4 a5 a6 y0 y1 y2 y3 y4 y5 z4 z5 i4 i5 hV1 hA2 HC2 HP g2
  obtain ⟨y0, y1, y2, y3, y4, y5⟩ := cell6 p1
  have zz : ∀ j, V2.frozen? ⟨w2.heap.size, j, none⟩ = false := fun j => frz p1 j
  have s0 := set_id (j := 0) (v := .int .i64 0) p1 rfl
  have s1 := set_id (j := 1) (v := .int .i64 0) p1 rfl
  have s2 := set_id (j := 2) (v := .int .i64 0) p1 rfl
  have s3 := set_id (j := 3) (v := .slice none 0 0) p1 rfl
  have s4 := set_id (j := 4) (v := .slice none 0 0) p1 rfl
  have s5 := set_id (j := 5) (v := .slice none 0 0) p1 rfl
  obtain ⟨d0, d1, d2, d3, d4, d5⟩ := cell6 p2
  obtain ⟨a0, a1, a2, a3, a4, a5, a6⟩ := cell7 p3
  have q0 := p5.b0
  have q1 := p5.b1
  have e1 : (convert 38 9 (.slice (some ⟨v1, 0, none⟩) 1 c1)).run Tryz.prog V2 = .ok (.string ⟨#[1]⟩) V2 := run_convert_bytes_back V2 38 9 5 ⟨v1, 0, none⟩ c1 [1] Tryz.underlying38 Tryz.underlying5 Tryz.underlying9 fun j hj => by rw [add0]; exact bytes1 p5.hv j hj
  have e2 : (convert 38 9 (.slice (some ⟨v2, 0, none⟩) 4 4)).run Tryz.prog V2 = .ok (.string ⟨#[254, 255, 0, 0]⟩) V2 := run_convert_bytes_back V2 38 9 5 ⟨v2, 0, none⟩ 4 [254, 255, 0, 0] Tryz.underlying38 Tryz.underlying5 Tryz.underlying9 fun j hj => by rw [add0]; exact bytes4 p5.x0 p5.x1 p5.x2 p5.x3 j hj
  have HI := hidM (isForm6 pb pc v1 c1 v2 none 0 V2 p5 (HT.out.gr p4) (bt_gr HB.out p4))
  have HG := hidM p4
  unfold nmA at HI a0
  clear p1 p2 p3 p4 p5
  go_wp2_with (go_at_call 6; refine HI.out.mono ?_; rintro e w3 ⟨rfl, g3⟩; have HG3 := hidM (HG.out.trans g3 (fun _ _ h => h)); clear g3)
  go_ret
  exact ⟨rfl, HG3.out⟩
theorem names_any (W : World) (hT : Tab W) (hB : Bits.Tab W) : Calls Tryz.prog 3 #[] W fun e w' => e = .returned (.bool true) ∧ Gr W w' := by
  have HA := hidM (awake4 W hT hB)
  go_enter Tryz.func3, Tryz.ntmps3
  go_wp2_with (go_at_call 4; refine HA.out.mono ?_; rintro e V ⟨rfl, hg⟩)
  go_ret
  exact ⟨rfl, hg⟩
end Go.Proofs.YtnmfnmofcgcnbaaGreatDoor.Kit
namespace Go.Proofs.YtnmfnmofcgcnbaaGreatDoor.kindR
open Go.ChangeShapes Go.WideShapes Go.ChangeAt Go.RowKit Go.Deep
open Go.Proofs.YtnmfnmofcgcnbaaGreatDoor
set_option linter.unusedVariables false
def rowD (k : Nat) : DataW Unit := .agg [.lit (.string (Kit.wordK k)), .lit (.int .i64 (Kit.bytesK k)), .lit (.int .i64 (Kit.bufsK k)), .lit (.int .i64 (Kit.leastK k)), .lit (.int .i64 (Kit.mostK k))]
theorem laid_rows : (Rows.laid_colonnade_kind_kinds : DataW Unit) = .agg ((List.range 21).map rowD) := rfl
theorem cells85 : Tryz.prog.cellsOf 205 = 5 := by kernel_rfl
theorem cells86 : Tryz.prog.cellsOf 206 = 105 := by kernel_rfl
theorem cells3 : Tryz.prog.cellsOf 3 = 1 := by kernel_rfl
theorem cells9 : Tryz.prog.cellsOf 9 = 1 := by kernel_rfl
theorem gKinds : Tryz.prog.globalNamed "colonnade/kind.kinds" = some 0 := by kernel_rfl
theorem gKindsT : (Tryz.prog.globals[0]?).map (·.type) = some 206 := by kernel_rfl
/-- one row, read -/
theorem row_at {W : World} {fuel : Nat} {cs : List Value} {k : Nat} {p : List MemPlace} (h : DataW.trod (fun _ => ()) Tryz.prog W 0 (fun _ => true) false fuel 205 cs = some (rowD k, p)) :
    cs = [.string ⟨(Kit.wordK k).toArray⟩, .int .i64 (Kit.bytesK k), .int .i64 (Kit.bufsK k), .int .i64 (Kit.leastK k), .int .i64 (Kit.mostK k)] := by
  obtain ⟨xs, m, _, hd, hl, hxs, hf⟩ := DataW.trod_struct Tryz.underlying205 h
  rw [cells85] at hl
  obtain ⟨c0, c1, c2, c3, c4, rfl⟩ : ∃ c0 c1 c2 c3 c4, cs = [c0, c1, c2, c3, c4] := by
    match cs, hl with
    | [a, b, c, d, e], _ => exact ⟨a, b, c, d, e, rfl⟩
  obtain ⟨y0, y1, y2, y3, y4, rfl⟩ : ∃ y0 y1 y2 y3 y4, xs = [y0, y1, y2, y3, y4] := by
    match xs, (hxs.trans rfl : xs.length = 5) with
    | [a, b, c, d, e], _ => exact ⟨a, b, c, d, e, rfl⟩
  have f0 : DataW.trod (fun _ => ()) Tryz.prog W 0 (fun _ => true) false m 9 ((([c0, c1, c2, c3, c4] : List Value).drop 0).take (Tryz.prog.cellsOf 9)) = some y0 := hf 0 _ rfl
  have f1 : DataW.trod (fun _ => ()) Tryz.prog W 0 (fun _ => true) false m 3 ((([c0, c1, c2, c3, c4] : List Value).drop 1).take (Tryz.prog.cellsOf 3)) = some y1 := hf 1 _ rfl
  have f2 : DataW.trod (fun _ => ()) Tryz.prog W 0 (fun _ => true) false m 3 ((([c0, c1, c2, c3, c4] : List Value).drop 2).take (Tryz.prog.cellsOf 3)) = some y2 := hf 2 _ rfl
  have f3 : DataW.trod (fun _ => ()) Tryz.prog W 0 (fun _ => true) false m 3 ((([c0, c1, c2, c3, c4] : List Value).drop 3).take (Tryz.prog.cellsOf 3)) = some y3 := hf 3 _ rfl
  have f4 : DataW.trod (fun _ => ()) Tryz.prog W 0 (fun _ => true) false m 3 ((([c0, c1, c2, c3, c4] : List Value).drop 4).take (Tryz.prog.cellsOf 3)) = some y4 := hf 4 _ rfl
  rw [cells9] at f0
  rw [cells3] at f1 f2 f3 f4
  simp only [List.drop_zero, List.drop_succ_cons, List.take_succ_cons, List.take_zero] at f0 f1 f2 f3 f4
  obtain ⟨s, e0, g0, _⟩ := DataW.trod_string Tryz.underlying9 f0
  obtain ⟨k1, e1, g1, _⟩ := DataW.trod_int Tryz.underlying3 f1
  obtain ⟨k2, e2, g2, _⟩ := DataW.trod_int Tryz.underlying3 f2
  obtain ⟨k3, e3, g3, _⟩ := DataW.trod_int Tryz.underlying3 f3
  obtain ⟨k4, e4, g4, _⟩ := DataW.trod_int Tryz.underlying3 f4
  subst g0 g1 g2 g3 g4
  simp only [rowD, Prod.mk.injEq, DataW.agg.injEq, List.map_cons, List.map_nil, List.cons.injEq, DataW.lit.injEq, Lit.string.injEq, Lit.int.injEq, true_and, and_true] at hd
  obtain ⟨⟨h0, h1, h2, h3, h4⟩, _⟩ := hd
  simp only [List.cons.injEq, and_true] at e0 e1 e2 e3 e4
  rw [e0, e1, e2, e3, e4, h0, h1, h2, h3, h4]
/-- the table, as the rows list it -/
theorem table {W : World} {L : List (String × DataW Unit)} (h : laidMet Tryz.prog L W) (hm : ("colonnade/kind.kinds", Rows.laid_colonnade_kind_kinds) ∈ L) : Kit.Tab W := by
  obtain ⟨g', t', cs, fuel, p, hg', ht', hvar, hd⟩ := Lib.laidMet.reads h hm
  obtain rfl := Option.some.inj (gKinds.symm.trans hg')
  obtain rfl := Option.some.inj (gKindsT.symm.trans ht')
  rw [laid_rows] at hd
  obtain ⟨xs, m, _, he, hl, hx, hf⟩ := DataW.trod_array Tryz.underlying206 hd
  rw [cells86] at hl
  rw [cells85] at hf
  simp only [Prod.mk.injEq, DataW.agg.injEq] at he
  have hcell := fun i => World.var?_cell gKinds hvar i
  have hsz : cs.size = 105 := by simpa using hl
  refine ⟨?_, fun k hk => ?_⟩
  · have := hcell 0
    rw [Array.getElem?_eq_getElem (by omega)] at this
    have := block_lt_of_cell this
    exact this
  · have h1 := hf k hk
    rw [List.getElem?_eq_getElem (by omega)] at h1
    have h2 : (xs[k]'(by omega)).1 = rowD k := by
      have := congrArg (·[k]?) he.1
      simp only [List.getElem?_map, List.getElem?_range hk, Option.map_some] at this
      rw [List.getElem?_eq_getElem (by omega)] at this
      simpa using this.symm
    have h3 := row_at (k := k) (p := (xs[k]'(by omega)).2) (by rw [h1, ← h2])
    have h4 : ∀ j, j < 5 → cs[k * 5 + j]? = ([.string ⟨(Kit.wordK k).toArray⟩, .int .i64 (Kit.bytesK k), .int .i64 (Kit.bufsK k), .int .i64 (Kit.leastK k), .int .i64 (Kit.mostK k)] : List Value)[j]? := fun j hj => by
      rw [← h3, List.getElem?_take_of_lt hj, List.getElem?_drop, Array.getElem?_toList]
    exact ⟨(hcell _).trans (h4 0 (by decide)), (hcell _).trans (h4 1 (by decide)), (hcell _).trans (h4 2 (by decide)), (hcell _).trans (h4 3 (by decide)), (hcell _).trans (h4 4 (by decide))⟩
theorem cells5 : Tryz.prog.cellsOf 5 = 1 := by kernel_rfl
theorem cells295 : Tryz.prog.cellsOf 295 = 16 := by kernel_rfl
theorem gHalves : Tryz.prog.globalNamed "colonnade/bits.halves" = some 3 := by kernel_rfl
theorem gHalvesT : (Tryz.prog.globals[3]?).map (·.type) = some 295 := by kernel_rfl
theorem laid_halves : (Rows.laid_colonnade_bits_halves : DataW Unit) = Lib.tabData .u8 [0, 1, 1, 2, 1, 2, 2, 3, 1, 2, 2, 3, 2, 3, 3, 4] := rfl
/-- the table of halves, as the rows list it -/
theorem btable {W : World} {L : List (String × DataW Unit)} (h : laidMet Tryz.prog L W) (hm : ("colonnade/bits.halves", Rows.laid_colonnade_bits_halves) ∈ L) : Bits.Tab W := by
  obtain ⟨g', t', cs, fuel, p, hg', ht', hvar, hd⟩ := Lib.laidMet.reads h hm
  obtain rfl := Option.some.inj (gHalves.symm.trans hg')
  obtain rfl := Option.some.inj (gHalvesT.symm.trans ht')
  rw [laid_halves] at hd
  have hc := Lib.cells_of_tab Tryz.underlying295 Tryz.underlying5 cells5 cells295 hd
  intro k hk
  have h1 := World.var?_cell gHalves hvar k
  rw [h1]
  have e : ∀ k, k < 16 → ([0, 1, 1, 2, 1, 2, 2, 3, 1, 2, 2, 3, 2, 3, 3, 4] : List Int)[k]? = some ((Bits.cnt k : Nat) : Int) := by decide
  rw [← Array.getElem?_toList, hc, List.getElem?_map, e k hk]
  rfl
end Go.Proofs.YtnmfnmofcgcnbaaGreatDoor.kindR
