import Derived.Shelf.Spec.SlicesInsertGrow
import Derived.Test.YtnmfnmofcgcnbaaGreatDoorProg
import Derived.Test.YtnmfnmofcgcnbaaGreatDoorCU
import Derived.Test.YtnmfnmofcgcnbaaGreatDoorBtB
set_option linter.unusedVariables false
set_option linter.unusedSimpArgs false
set_option maxRecDepth 100000
set_option maxHeartbeats 4000000
namespace Go.Proofs
open Go.Shelf
def Tryz.laysNm221_ren : Go.Shelf.Ren := ⟨fun | 21 => 98 | 27 => 119 | 28 => 120 | 35 => 125 | 39 => 130 | n => n, fun | 22 => 48 | 3 => 3 | 4 => 4 | 0 => 0 | n => n, fun | n => n⟩
theorem Tryz.laysNm221 : Go.Proofs.Lays2.n21 Tryz.prog Tryz.laysNm221_ren := {
  mixed := by kernel_rfl
  f21 := Tryz.func98.trans (congrArg some (by kernel_rfl))
  f27 := Tryz.func119.trans (congrArg some (by kernel_rfl))
  f28 := Tryz.func120.trans (congrArg some (by kernel_rfl))
  f35 := Tryz.func125.trans (congrArg some (by kernel_rfl))
  f39 := Tryz.func130.trans (congrArg some (by kernel_rfl))
  t0 := Tryz.underlying0
  a0 := Tryz.isAgg0
  z0 := Tryz.sizeOf0
  v0 := Tryz.zeroValue0
  t3 := Tryz.underlying3
  a3 := Tryz.isAgg3
  z3 := Tryz.sizeOf3
  v3 := Tryz.zeroValue3
  t4 := Tryz.underlying4
  a4 := Tryz.isAgg4
  z4 := Tryz.sizeOf4
  v4 := Tryz.zeroValue4
  t22 := Tryz.underlying48
  a22 := Tryz.isAgg48
  z22 := Tryz.sizeOf48
  v22 := Tryz.zeroValue48
  i3 := by kernel_rfl }
end Go.Proofs
namespace Go.Proofs.YtnmfnmofcgcnbaaGreatDoor.Kit
open Go.RowKit Go.Shelf Go.Deep
open Go.Proofs.YtnmfnmofcgcnbaaGreatDoor.Kd (Ans AnsV cell5 cell2)
open Go.Proofs.YtnmfnmofcgcnbaaGreatDoor.Ink (OwnRow)
set_option linter.unusedVariables false
set_option linter.unusedSimpArgs false
attribute [local go_sem] run_store_func
theorem kp_setCells (b : Nat) : ∀ (vs : List Value) (o : Nat) (w : World), Keeps w (w.setCells b o vs) (fun z => z = b)
  | [], _, w => Keeps.refl w _
  | v :: vs, o, w => by
    have h : Keeps w (w.setCell ⟨b, o, none⟩ v) (fun z => z = b) := (Keeps.refl w (fun z => z = b)).setCell (p := ⟨b, o, none⟩) (fun _ => rfl) _
    exact h.trans (kp_setCells b vs (o + 1) _) (fun _ _ h => h)
theorem insert98 (b vb : Nat) (x y : Int) (W : World) (h0 : W.cell? ⟨b, 0, none⟩ = some (.int .i64 x)) (hv : W.cell? ⟨vb, 0, none⟩ = some (.int .i64 y)) :
    Calls Tryz.prog 98 #[.slice (some ⟨b, 0, none⟩) 1 1, .int .i64 0, .slice (some ⟨vb, 0, none⟩) 1 1] W fun e w' => ∃ g c, e = .returned (.slice (some ⟨g, 0, none⟩) 2 c) ∧ Gr W w' ∧ w'.cell? ⟨g, 0, none⟩ = some (.int .i64 y) ∧ w'.cell? ⟨g, 1, none⟩ = some (.int .i64 x) := by
  have h := Any2.slices_Insert_int_grow Tryz.laysNm221 b 0 1 1 0 vb 0 1 1 [.int .i64 x] [.int .i64 y] W (by decide) (by decide) (by decide) (by decide) (by decide) rfl rfl
    (fun j v hj => by
      match j, hj with
      | 0, hj => cases hj; exact h0
      | j + 1, hj => simp at hj)
    (fun j v hj => by
      match j, hj with
      | 0, hj => cases hj; exact hv
      | j + 1, hj => simp at hj)
    (fun v hv => by simp at hv; subst hv; rfl) (fun v hv => by simp at hv; subst hv; rfl)
  refine Calls.mono h ?_
  rintro e w' ⟨rfl, hw⟩
  refine ⟨_, _, rfl, ?_⟩
  generalize hR : ((([Value.int .i64 x].take 0).toArray ++ Builtin.zeroCells (Value.int .i64 0).cells (1 + 1 - 0) ++ Builtin.zeroCells (Value.int .i64 0).cells (grownCap W (1 + 1) 1 (Tryz.laysNm221_ren.t 3) - (1 + 1))) : Array Value) = R at hw
  have hsz : 2 ≤ R.size := by
    rw [← hR]
    simp [Builtin.zeroCells, Value.cells]
  obtain ⟨A, hA⟩ : ∃ A, W.alloc (.cells R (Tryz.laysNm221_ren.t 3)) = A := ⟨_, rfl⟩
  rw [hA] at hw
  have gA : Gr W A := by rw [← hA]; exact gr_alloc W _
  have hb : A.heap[W.heap.size]? = some (.cells R (Tryz.laysNm221_ren.t 3)) := by rw [← hA]; exact heap_alloc_new W _
  have hd : (w' : World) = ((A.drew.setCell ⟨W.heap.size, 0, none⟩ (.int .i64 y)).drew).setCell ⟨W.heap.size, 1, none⟩ (.int .i64 x) := hw
  have e1 := heap_setCell_same A.drew W.heap.size 0 _ _ (.int .i64 y) hb
  have e2 := heap_setCell_same (A.drew.setCell ⟨W.heap.size, 0, none⟩ (.int .i64 y)).drew W.heap.size 1 _ _ (.int .i64 x) e1
  rw [← hd] at e2
  refine ⟨?_, ?_, ?_⟩
  · rw [hd]
    exact Keeps.setCell (p := ⟨W.heap.size, 1, none⟩) ((Keeps.setCell (p := ⟨W.heap.size, 0, none⟩) gA.drew (fun h => by simp at h) _).drew) (fun h => by simp at h) _
  · have q0 : 0 < R.size := by omega
    simp only [World.cell?, e2]
    simp [Array.getElem?_setIfInBounds, q0]
  · have q1 : 1 < R.size := by omega
    simp only [World.cell?, e2]
    simp [Array.getElem?_setIfInBounds, q1]
theorem needs308 (W : World) : Calls Tryz.prog 308 #[.agg #[.int .i64 2, .bool true], .int .i64 2] W fun e w' => ∃ g, e = .returned (.tuple #[.slice (some ⟨g, 0, none⟩) 1 1, .int .i64 (-9223372036854775808)]) ∧ Gr W w' ∧ W.heap.size ≤ g ∧ w'.cell? ⟨g, 0, none⟩ = some (.int .i64 4) := by
  obtain ⟨A, hA⟩ : ∃ A, W.alloc (.cells #[.int .i64 2, .bool true] 227) = A := ⟨_, rfl⟩
  have gA : Gr W A := by rw [← hA]; exact gr_alloc W _
  have hb : A.heap[W.heap.size]? = some (.cells #[.int .i64 2, .bool true] 227) := by rw [← hA]; exact heap_alloc_new W _
  obtain ⟨e0, e1⟩ := cell2 hb
  have HG := hidM gA
  clear gA hb
  go_enter Tryz.func308, Tryz.ntmps308
  go_wp2_with fail
  go_ret2
  exact ⟨_, rfl, HG.out.alloc _, HG.out.size, cell1 (heap_alloc_new A _)⟩
theorem wrong266 (l : Value) (q : Value) (W : World) : Calls Tryz.prog 266 #[.agg #[], l, q] W fun e w' => e = .returned (.tuple #[.int .i64 0, .int .i64 0]) ∧ Gr W w' := by
  go_enter Tryz.func266, Tryz.ntmps266
  go_wp2_with fail
  go_ret2
  exact ⟨rfl, gr_alloc _ _⟩
theorem wrong267 (l : Value) (q : Value) (W : World) : Calls Tryz.prog 267 #[.agg #[], l, q] W fun e w' => e = .returned (.tuple #[.int .i64 0, .int .i64 0]) ∧ Gr W w' := by
  go_enter Tryz.func267, Tryz.ntmps267
  go_wp2_with fail
  go_ret2
  exact ⟨rfl, gr_alloc _ _⟩
theorem weight310 (l q v : Value) (r : Int) (W : World) : Calls Tryz.prog 310 #[.agg #[.int .i64 2, .bool true], l, q, .int .i64 r, v] W fun e w' => e = .returned (.int .i64 16) ∧ Gr W w' := by
  go_enter Tryz.func310, Tryz.ntmps310
  go_wp2_with fail
  go_ret
  exact ⟨rfl, gr_alloc _ _⟩
theorem sum72 (z : Nat) (c : Nat) (W : World) (h0 : W.cell? ⟨z, 0, none⟩ = some (.int .i64 16)) (h1 : W.cell? ⟨z, 1, none⟩ = some (.int .i64 16)) : Calls Tryz.prog 72 #[.slice (some ⟨z, 0, none⟩) 2 c] W fun e w' => e = .returned (.int .i64 32) ∧ w' = W := by
  have H : Hid (∀ k, k < 2 → W.cell? ⟨z, k, none⟩ = some (.int .i64 16)) := fun k hk => by
    have : k = 0 ∨ k = 1 := by omega
    rcases this with rfl | rfl
    · exact h0
    · exact h1
  clear h0 h1
  go_enter Tryz.func72, Tryz.ntmps72
  go_wp2_with fail
  go_loopw [8, 3] (fun i s wr => ∃ k : Nat, k ≤ 2 ∧ i = .int .i64 k ∧ s = .int .i64 ((16 * k : Nat) : Int) ∧ wr = W) (fun i _ _ => 2 - (intOf i).toNat)
  case atStart => exact ⟨0, by omega, rfl, rfl, rfl⟩
  case round =>
    obtain ⟨k, hk, rfl, rfl, rfl⟩ := hrel
    by_cases hlt : k < 2
    · have c1 := H.out k hlt
      have w1 : IntKind.i64.wrap (((16 * k : Nat) : Int) + 16) = ((16 * (k + 1) : Nat) : Int) := by rw [IntKind.wrap_i64]; omega
      generalize ((16 * k : Nat) : Int) = y at w1 ⊢
      go_wp2_with fail
      go_roundw
      case rel => exact ⟨k + 1, by omega, by go_num, by first | rfl | rw [w1], trivial⟩
      case measure => simp [intOf]; omega
    · obtain rfl : k = 2 := by omega
      go_wp2_with fail
      go_ret
      exact ⟨rfl, rfl⟩
theorem need_2 (w : World) : Calls Tryz.prog 99 #[.int .i64 2] w fun e w' => e = .returned (.int .i64 1) ∧ w' = w := (Bits.need_pos 2 (by decide) w).mono fun e w' h => ⟨h.1, h.2.symm⟩
theorem end_2 (q : Nat) (nu : Bool) (ao : Option Addr) (ca : Nat) (bv : Value) (W : World) (h : W.heap[q]? = some (.cells (ndC nu ao ca (2 : Nat) (1 : Nat) bv) 98)) : Calls Tryz.prog 96 #[.pointer (some ⟨q, 0, none⟩)] W fun e w' => e = .returned (.int .i64 2) ∧ Gr W w' := (end96 q nu ao ca 2 1 bv W h (by decide)).mono fun e w' h => ⟨h.1, by rw [h.2]; exact gr_drew⟩
theorem tooSmall68 (W : World) (q r rc : Nat) (nu : Bool) (ao : Option Addr) (ca : Nat) (v1 c1 v2 c2 : Nat) (h : NdA W q r rc nu ao ca 2 1 v1 1 c1 v2 4 c2) : Calls Tryz.prog 68 #[.pointer (some ⟨q, 0, none⟩)] W fun e w' => e = .returned (.tuple #[.int .i64 0, .int .i64 0]) ∧ Gr W w' := by
  have HN : Hid (∀ u, Gr W u → NdA u q r rc nu ao ca 2 1 v1 1 c1 v2 4 c2) := fun u g => h.gr g
  have hS : ∀ u, Gr W u → u.cell? ⟨q, 7, none⟩ = some (.iface 227 (.agg #[.int .i64 2, .bool true])) := fun u g => (cellF (h.gr g).nd).1
  have HS0 := hidM (hS W.drew gr_drew)
  have HS := hidM hS
  have hmeth := method_needs
  clear h hS
  go_enter Tryz.func68, Tryz.ntmps68
  go_wp2_with fail
  go_region_held3 (fun u => u.cell? ⟨q, 7, none⟩ = some (.iface 227 (.agg #[.int .i64 2, .bool true]))) (first | with_reducible exact HS0.out | with_reducible exact HS1.out | with_reducible exact HS2.out) (first
    | (go_at_call 96; refine (end_2 q nu ao ca _ _ (HN.out _ gr_drew).nd).mono ?_; rintro e w1 ⟨rfl, g1⟩; have HG1 : Hid (Gr W w1) := Keeps.trans gr_drew g1 (fun _ _ h => h); have HS1 := hidM (HS.out w1 HG1.out); clear g1)
    | (go_at_call 308; refine (needs308 _).mono ?_; rintro e w2 ⟨gg, rfl, g2, hgl, hcg⟩; have HG2 := hidM (HG1.out.trans g2 (fun _ _ h => h)); have HS2 := hidM (HS.out w2 HG2.out); have HCG := hidM hcg; clear g2 hgl hcg))
  clear hmeth
  go_wp2_with (first
    | (go_at_call 97; refine (masked97 q nu ao ca (2 : Nat) (1 : Nat) _ w2 (HN.out w2 HG2.out).nd).mono ?_; rintro e w3 ⟨rfl, rfl⟩)
    | (go_at_call 96; refine (end_2 q nu ao ca _ _ (HN.out _ HG2.out).nd).mono ?_; rintro e w3 ⟨rfl, g3⟩; have HG3 := hidM (HG2.out.trans g3 (fun _ _ h => h)); have HC3 := hidM (g3.cell' HCG.out id); clear g3)
    | (go_at_call 99; refine (need_2 _).mono ?_; rintro e w4 ⟨rfl, rfl⟩; obtain ⟨V4, hV4⟩ : ∃ V4, w4.alloc (.cells #[.int .i64 1] 3) = V4 := ⟨_, rfl⟩; have g4 : Gr w4 V4 := (by rw [← hV4]; exact gr_alloc w4 _); have HI4 := hidM (insert98 gg w4.heap.size 4 1 V4 (g4.cell' HC3.out id) (by rw [← hV4]; exact cell1 (heap_alloc_new w4 _))); have HG4 := hidM (HG3.out.trans g4 (fun _ _ h => h)); clear g4)
    | (go_at_call 98; refine HI4.out.mono ?_; rintro e w5 ⟨gn, cn, rfl, g5, hn0, hn1⟩; have HG5 := hidM (HG4.out.trans g5 (fun _ _ h => h)); have HCn := hidM (And.intro hn0 hn1); have cr := cellB (HN.out w5 HG5.out).nd; clear g5 hn0 hn1))
  replace HN : Hid (∀ u, Gr w5 u → NdA u q r rc nu ao ca 2 1 v1 1 c1 v2 4 c2) := fun u g => HN.out u (HG5.out.trans g (fun _ _ h => h))
  clear HS HS0 HS1 HS2 HG1 HG2 HG3 HG4 HCG HC3 HI4
  go_loopw [36] (fun i wr => ∃ k : Nat, k ≤ 2 ∧ i = .int .i64 k ∧ Hid (Gr w5 wr)) (fun i _ => 2 - (intOf i).toNat)
  case atStart => exact ⟨0, by omega, rfl, Keeps.refl _ _⟩
  case round =>
    obtain ⟨k, hk, rfl, HI⟩ := hrel
    have hk3 : k = 0 ∨ k = 1 ∨ k = 2 := by omega
    rcases hk3 with rfl | rfl | rfl
    · have cr := cellB (HN.out wr HI.out).nd
      obtain ⟨q0, q1, q2⟩ := And.intro (HN.out wr HI.out).r0 (And.intro (HN.out wr HI.out).r1 (HN.out wr HI.out).r2)
      obtain ⟨V, hV⟩ : ∃ V, wr.alloc (.cells #[.slice (some ⟨v1, 0, none⟩) 1 c1, .int .i64 0, .pointer none] 236) = V := ⟨_, rfl⟩
      have gV : Gr wr V := by rw [← hV]; exact gr_alloc wr _
      have hbv : V.heap[wr.heap.size]? = some (.cells #[.slice (some ⟨v1, 0, none⟩) 1 c1, .int .i64 0, .pointer none] 236) := by rw [← hV]; exact heap_alloc_new wr _
      obtain ⟨y0, y1, y2⟩ := cell3V hbv
      have z1 := frz hbv 1
      have z2 := frz hbv 2
      have i1 := set_id (j := 1) (v := .int .i64 0) hbv rfl
      have i2 := set_id (j := 2) (v := .pointer none) hbv rfl
      have HM := hidM (masked97 q nu ao ca (2 : Nat) (1 : Nat) (.slice (some ⟨r, 0, none⟩) 2 rc) V (HN.out V (HI.out.trans gV (fun _ _ h => h))).nd)
      have HBV := hidM hbv
      have HGV := hidM (HI.out.trans gV (fun _ _ h => h))
      have HSS : Hid (∀ u, Gr V u → u.cell? ⟨wr.heap.size, 0, none⟩ = some (.slice (some ⟨v1, 0, none⟩) 1 c1) ∧ u.cell? ⟨wr.heap.size, 1, none⟩ = some (.int .i64 0) ∧ u.cell? ⟨wr.heap.size, 2, none⟩ = some (.pointer none) ∧ u.cell? ⟨gn, 0, none⟩ = some (.int .i64 1)) := fun u g => by
        obtain ⟨y0, y1, y2⟩ := cell3V ((g.block _ (lt_of_heap hbv) id).trans hbv)
        have gu := (HI.out.trans gV (fun _ _ h => h)).trans g (fun _ _ h => h)
        exact ⟨y0, y1, y2, gu.cell' HCn.out.1 id⟩
      clear gV hbv
      go_wp2_with (first
        | (go_at_call 97; refine HM.out.mono ?_; rintro e w6 ⟨rfl, rfl⟩)
        | (go_at_call 100; refine (len100 _ _ _ _).mono ?_; rintro e w7 ⟨rfl, g7⟩; have HG7 := hidM g7; obtain ⟨y0, y1, y2⟩ := cell3V ((g7.block _ (lt_of_heap HBV.out) id).trans HBV.out); have HS7 := hidM (HSS.out w7.drew (HG7.out.trans gr_drew (fun _ _ h => h))); have HN7 := hidM (HG7.out.trans gr_drew (fun _ _ h => h)); clear g7))
      refine wp_region_held_drew (S := fun w' => w'.cell? ⟨wr.heap.size, 0, none⟩ = some (.slice (some ⟨v1, 0, none⟩) 1 c1) ∧ w'.cell? ⟨wr.heap.size, 1, none⟩ = some (.int .i64 0) ∧ w'.cell? ⟨wr.heap.size, 2, none⟩ = some (.pointer none) ∧ w'.cell? ⟨gn, 0, none⟩ = some (.int .i64 1)) (by kernel_rfl) (HS7.out) (fun hHeld => ?_)
      refine wpAnyH_take (i := 0) (oi := { dst := some 52, op := Op.load 236 (Operand.tmp 7), type := 236, pos := "check.go:122", after := #[], guard := none }) (v := ?v0g01) rfl (by kernel_rfl) (by kernel_rfl) (by kernel_rfl) (fun _ _ _ h => h) (Or.inl ⟨by rfl, ?y0g01⟩) (by assumption) ?r0g01
      case y0g01 => (intro w hSw; obtain ⟨s0, s1, s2, s3⟩ := hSw; go_simp; (try with_reducible rfl))
      (try simp only [Act.put]); (try simp only [List.setIfInBounds_toArray]); (try simp only [List.set_cons_succ]); (try simp only [List.set_cons_zero])
      refine wpAnyH_take (i := 2) (oi := { dst := some 54, op := Op.move (Operand.tmp 4), type := 48, pos := "check.go:122", after := #[], guard := none }) (v := ?v2g02) rfl (by kernel_rfl) (by kernel_rfl) (by kernel_rfl) (fun _ _ _ h => h) (Or.inl ⟨by rfl, ?y2g02⟩) (by assumption) ?r2g02
      case y2g02 => (intro w hSw; obtain ⟨s0, s1, s2, s3⟩ := hSw; go_simp; (try with_reducible rfl))
      (try simp only [Act.put]); (try simp only [List.setIfInBounds_toArray]); (try simp only [List.set_cons_succ]); (try simp only [List.set_cons_zero])
      refine wpAnyH_take (i := 3) (oi := { dst := some 55, op := Op.move (Operand.tmp 6), type := 3, pos := "check.go:122", after := #[], guard := none }) (v := ?v3g03) rfl (by kernel_rfl) (by kernel_rfl) (by kernel_rfl) (fun _ _ _ h => h) (Or.inl ⟨by rfl, ?y3g03⟩) (by assumption) ?r3g03
      case y3g03 => (intro w hSw; obtain ⟨s0, s1, s2, s3⟩ := hSw; go_simp; (try with_reducible rfl))
      (try simp only [Act.put]); (try simp only [List.setIfInBounds_toArray]); (try simp only [List.set_cons_succ]); (try simp only [List.set_cons_zero])
      refine wpAnyH_take (i := 4) (oi := { dst := some 56, op := Op.indexAddr 48 (Operand.tmp 54) (Operand.tmp 55), type := 0, pos := "check.go:122", after := #[{ on := 2, ground := Ground.data }, { on := 3, ground := Ground.data }], guard := none }) (v := ?v4g04) rfl (by kernel_rfl) (by kernel_rfl) (by kernel_rfl) (fun _ _ _ h => h) (Or.inl ⟨by rfl, ?y4g04⟩) (by assumption) ?r4g04
      case y4g04 => (intro w hSw; obtain ⟨s0, s1, s2, s3⟩ := hSw; go_simp; (try with_reducible rfl))
      (try simp only [Act.put]); (try simp only [List.setIfInBounds_toArray]); (try simp only [List.set_cons_succ]); (try simp only [List.set_cons_zero])
      refine wpAnyH_take (i := 5) (oi := { dst := some 57, op := Op.load 3 (Operand.tmp 56), type := 3, pos := "check.go:122", after := #[{ on := 4, ground := Ground.data }], guard := none }) (v := ?v5g05) rfl (by kernel_rfl) (by kernel_rfl) (by kernel_rfl) (fun _ _ _ h => h) (Or.inl ⟨by rfl, ?y5g05⟩) (by assumption) ?r5g05
      case y5g05 => (intro w hSw; obtain ⟨s0, s1, s2, s3⟩ := hSw; go_simp; (try with_reducible rfl))
      (try simp only [Act.put]); (try simp only [List.setIfInBounds_toArray]); (try simp only [List.set_cons_succ]); (try simp only [List.set_cons_zero])
      refine wpAnyH_ready (rs := [1]) (by kernel_rfl) (by simp) ?_
      refine AllReadyH.cons (o := { dst := some 53, op := Op.call { callee := Callee.value (Operand.func 100), args := #[Operand.tmp 52], argTypes := #[236] }, type := 3, pos := "check.go:122", after := #[{ on := 0, ground := Ground.data }], guard := none }) rfl (fun Kc hK => ?_) AllReadyH.nil
      go_simp
      go_at_call 100
      refine Calls.mono (len100 _ _ _ _) ?_
      rintro e' w8 ⟨rfl, g8⟩; have HG8 := hidM (HN7.out.trans g8 (fun _ _ h => h)); have HS8 := hidM (HSS.out w8 HG8.out); clear g8
      go_wp2_with fail
      refine hK.out _ _ (HS8.out) (fun hHeld => ?_)
      clear hK Kc
      (try simp only [Act.put]); (try simp only [List.setIfInBounds_toArray]); (try simp only [List.set_cons_succ]); (try simp only [List.set_cons_zero])
      refine wpAnyH_take (i := 6) (oi := { dst := some 58, op := Op.binOp BinOp.lss 3 (Operand.tmp 53) (Operand.tmp 57) 3, type := 4, pos := "check.go:122", after := #[{ on := 1, ground := Ground.data }, { on := 5, ground := Ground.data }], guard := none }) (v := ?v6g06) rfl (by kernel_rfl) (by kernel_rfl) (by kernel_rfl) (fun _ _ _ h => h) (Or.inl ⟨by rfl, ?y6g06⟩) (by assumption) ?r6g06
      case y6g06 => (intro w hSw; obtain ⟨s0, s1, s2, s3⟩ := hSw; go_simp; (try with_reducible rfl))
      (try simp only [Act.put]); (try simp only [List.setIfInBounds_toArray]); (try simp only [List.set_cons_succ]); (try simp only [List.set_cons_zero])
      refine wpAnyH_take (i := 7) (oi := { dst := some 59, op := Op.move (Operand.tmp 58), type := 4, pos := "check.go:122", after := #[{ on := 6, ground := Ground.data }, { on := 1, ground := Ground.chain }], guard := none }) (v := ?v7g07) rfl (by kernel_rfl) (by kernel_rfl) (by kernel_rfl) (fun _ _ _ h => h) (Or.inl ⟨by rfl, ?y7g07⟩) (by assumption) ?r7g07
      case y7g07 => (intro w hSw; obtain ⟨s0, s1, s2, s3⟩ := hSw; go_simp; (try with_reducible rfl))
      (try simp only [Act.put]); (try simp only [List.setIfInBounds_toArray]); (try simp only [List.set_cons_succ]); (try simp only [List.set_cons_zero])
      refine wpAnyH_take (i := 8) (oi := { dst := some 60, op := Op.move (Operand.tmp 8), type := 4, pos := "check.go:122", after := #[{ on := 7, ground := Ground.guard }], guard := some (7, true) }) (v := undef) rfl (by kernel_rfl) (by kernel_rfl) (by kernel_rfl) (fun _ _ _ h => h) (Or.inr ⟨by kernel_rfl, rfl⟩) (by assumption) ?r8g08
      (try simp only [Act.put]); (try simp only [List.setIfInBounds_toArray]); (try simp only [List.set_cons_succ]); (try simp only [List.set_cons_zero])
      refine wpAnyH_take (i := 9) (oi := { dst := some 61, op := Op.unOp UnOp.not 4 (Operand.tmp 60), type := 4, pos := "check.go:122", after := #[{ on := 8, ground := Ground.data }, { on := 7, ground := Ground.guard }], guard := some (7, true) }) (v := undef) rfl (by kernel_rfl) (by kernel_rfl) (by kernel_rfl) (fun _ _ _ h => h) (Or.inr ⟨by kernel_rfl, rfl⟩) (by assumption) ?r9g09
      (try simp only [Act.put]); (try simp only [List.setIfInBounds_toArray]); (try simp only [List.set_cons_succ]); (try simp only [List.set_cons_zero])
      refine wpAnyH_take (i := 10) (oi := { dst := some 62, op := Op.pick (Operand.tmp 59) (Operand.tmp 61) (Operand.const (Value.bool false)), type := 4, pos := "check.go:122", after := #[{ on := 7, ground := Ground.data }, { on := 9, ground := Ground.data }], guard := none }) (v := ?v10g010) rfl (by kernel_rfl) (by kernel_rfl) (by kernel_rfl) (fun _ _ _ h => h) (Or.inl ⟨by rfl, ?y10g010⟩) (by assumption) ?r10g010
      case y10g010 => (intro w hSw; obtain ⟨s0, s1, s2, s3⟩ := hSw; go_simp; (try with_reducible rfl))
      (try simp only [Act.put]); (try simp only [List.setIfInBounds_toArray]); (try simp only [List.set_cons_succ]); (try simp only [List.set_cons_zero])
      refine wpAnyH_done (by kernel_rfl) ?_ _
      go_wp2_with fail
      go_roundw
      case rel => exact ⟨1, by omega, by go_num, HGV.out.trans HG8.out (fun _ _ h => h)⟩
      case measure => simp [intOf]
    · have cr := cellB (HN.out wr HI.out).nd
      obtain ⟨q0, q1, q2⟩ := And.intro (HN.out wr HI.out).r3 (And.intro (HN.out wr HI.out).r4 (HN.out wr HI.out).r5)
      obtain ⟨V, hV⟩ : ∃ V, wr.alloc (.cells #[.slice (some ⟨v2, 0, none⟩) 4 c2, .int .i64 0, .pointer none] 236) = V := ⟨_, rfl⟩
      have gV : Gr wr V := by rw [← hV]; exact gr_alloc wr _
      have hbv : V.heap[wr.heap.size]? = some (.cells #[.slice (some ⟨v2, 0, none⟩) 4 c2, .int .i64 0, .pointer none] 236) := by rw [← hV]; exact heap_alloc_new wr _
      obtain ⟨y0, y1, y2⟩ := cell3V hbv
      have z1 := frz hbv 1
      have z2 := frz hbv 2
      have i1 := set_id (j := 1) (v := .int .i64 0) hbv rfl
      have i2 := set_id (j := 2) (v := .pointer none) hbv rfl
      have HM := hidM (masked97 q nu ao ca (2 : Nat) (1 : Nat) (.slice (some ⟨r, 0, none⟩) 2 rc) V (HN.out V (HI.out.trans gV (fun _ _ h => h))).nd)
      have HBV := hidM hbv
      have HGV := hidM (HI.out.trans gV (fun _ _ h => h))
      have HSS : Hid (∀ u, Gr V u → u.cell? ⟨wr.heap.size, 0, none⟩ = some (.slice (some ⟨v2, 0, none⟩) 4 c2) ∧ u.cell? ⟨wr.heap.size, 1, none⟩ = some (.int .i64 0) ∧ u.cell? ⟨wr.heap.size, 2, none⟩ = some (.pointer none) ∧ u.cell? ⟨gn, 1, none⟩ = some (.int .i64 4)) := fun u g => by
        obtain ⟨y0, y1, y2⟩ := cell3V ((g.block _ (lt_of_heap hbv) id).trans hbv)
        have gu := (HI.out.trans gV (fun _ _ h => h)).trans g (fun _ _ h => h)
        exact ⟨y0, y1, y2, gu.cell' HCn.out.2 id⟩
      have HS7 := hidM (HSS.out V.drew gr_drew)
      have HN7 := hidM (gr_drew : Gr V V.drew)
      clear gV hbv
      go_wp2_with fail
      refine wp_region_held_drew (S := fun w' => w'.cell? ⟨wr.heap.size, 0, none⟩ = some (.slice (some ⟨v2, 0, none⟩) 4 c2) ∧ w'.cell? ⟨wr.heap.size, 1, none⟩ = some (.int .i64 0) ∧ w'.cell? ⟨wr.heap.size, 2, none⟩ = some (.pointer none) ∧ w'.cell? ⟨gn, 1, none⟩ = some (.int .i64 4)) (by kernel_rfl) (HS7.out) (fun hHeld => ?_)
      refine wpAnyH_take (i := 0) (oi := { dst := some 52, op := Op.load 236 (Operand.tmp 7), type := 236, pos := "check.go:122", after := #[], guard := none }) (v := ?v0g11) rfl (by kernel_rfl) (by kernel_rfl) (by kernel_rfl) (fun _ _ _ h => h) (Or.inl ⟨by rfl, ?y0g11⟩) (by assumption) ?r0g11
      case y0g11 => (intro w hSw; obtain ⟨s0, s1, s2, s3⟩ := hSw; go_simp; (try with_reducible rfl))
      (try simp only [Act.put]); (try simp only [List.setIfInBounds_toArray]); (try simp only [List.set_cons_succ]); (try simp only [List.set_cons_zero])
      refine wpAnyH_take (i := 2) (oi := { dst := some 54, op := Op.move (Operand.tmp 4), type := 48, pos := "check.go:122", after := #[], guard := none }) (v := ?v2g12) rfl (by kernel_rfl) (by kernel_rfl) (by kernel_rfl) (fun _ _ _ h => h) (Or.inl ⟨by rfl, ?y2g12⟩) (by assumption) ?r2g12
      case y2g12 => (intro w hSw; obtain ⟨s0, s1, s2, s3⟩ := hSw; go_simp; (try with_reducible rfl))
      (try simp only [Act.put]); (try simp only [List.setIfInBounds_toArray]); (try simp only [List.set_cons_succ]); (try simp only [List.set_cons_zero])
      refine wpAnyH_take (i := 3) (oi := { dst := some 55, op := Op.move (Operand.tmp 6), type := 3, pos := "check.go:122", after := #[], guard := none }) (v := ?v3g13) rfl (by kernel_rfl) (by kernel_rfl) (by kernel_rfl) (fun _ _ _ h => h) (Or.inl ⟨by rfl, ?y3g13⟩) (by assumption) ?r3g13
      case y3g13 => (intro w hSw; obtain ⟨s0, s1, s2, s3⟩ := hSw; go_simp; (try with_reducible rfl))
      (try simp only [Act.put]); (try simp only [List.setIfInBounds_toArray]); (try simp only [List.set_cons_succ]); (try simp only [List.set_cons_zero])
      refine wpAnyH_take (i := 4) (oi := { dst := some 56, op := Op.indexAddr 48 (Operand.tmp 54) (Operand.tmp 55), type := 0, pos := "check.go:122", after := #[{ on := 2, ground := Ground.data }, { on := 3, ground := Ground.data }], guard := none }) (v := ?v4g14) rfl (by kernel_rfl) (by kernel_rfl) (by kernel_rfl) (fun _ _ _ h => h) (Or.inl ⟨by rfl, ?y4g14⟩) (by assumption) ?r4g14
      case y4g14 => (intro w hSw; obtain ⟨s0, s1, s2, s3⟩ := hSw; go_simp; (try with_reducible rfl))
      (try simp only [Act.put]); (try simp only [List.setIfInBounds_toArray]); (try simp only [List.set_cons_succ]); (try simp only [List.set_cons_zero])
      refine wpAnyH_take (i := 5) (oi := { dst := some 57, op := Op.load 3 (Operand.tmp 56), type := 3, pos := "check.go:122", after := #[{ on := 4, ground := Ground.data }], guard := none }) (v := ?v5g15) rfl (by kernel_rfl) (by kernel_rfl) (by kernel_rfl) (fun _ _ _ h => h) (Or.inl ⟨by rfl, ?y5g15⟩) (by assumption) ?r5g15
      case y5g15 => (intro w hSw; obtain ⟨s0, s1, s2, s3⟩ := hSw; go_simp; (try with_reducible rfl))
      (try simp only [Act.put]); (try simp only [List.setIfInBounds_toArray]); (try simp only [List.set_cons_succ]); (try simp only [List.set_cons_zero])
      refine wpAnyH_ready (rs := [1]) (by kernel_rfl) (by simp) ?_
      refine AllReadyH.cons (o := { dst := some 53, op := Op.call { callee := Callee.value (Operand.func 100), args := #[Operand.tmp 52], argTypes := #[236] }, type := 3, pos := "check.go:122", after := #[{ on := 0, ground := Ground.data }], guard := none }) rfl (fun Kc hK => ?_) AllReadyH.nil
      go_simp
      go_at_call 100
      refine Calls.mono (len100 _ _ _ _) ?_
      rintro e' w8 ⟨rfl, g8⟩; have HG8 := hidM (HN7.out.trans g8 (fun _ _ h => h)); have HS8 := hidM (HSS.out w8 HG8.out); clear g8
      go_wp2_with fail
      refine hK.out _ _ (HS8.out) (fun hHeld => ?_)
      clear hK Kc
      (try simp only [Act.put]); (try simp only [List.setIfInBounds_toArray]); (try simp only [List.set_cons_succ]); (try simp only [List.set_cons_zero])
      refine wpAnyH_take (i := 6) (oi := { dst := some 58, op := Op.binOp BinOp.lss 3 (Operand.tmp 53) (Operand.tmp 57) 3, type := 4, pos := "check.go:122", after := #[{ on := 1, ground := Ground.data }, { on := 5, ground := Ground.data }], guard := none }) (v := ?v6g16) rfl (by kernel_rfl) (by kernel_rfl) (by kernel_rfl) (fun _ _ _ h => h) (Or.inl ⟨by rfl, ?y6g16⟩) (by assumption) ?r6g16
      case y6g16 => (intro w hSw; obtain ⟨s0, s1, s2, s3⟩ := hSw; go_simp; (try with_reducible rfl))
      (try simp only [Act.put]); (try simp only [List.setIfInBounds_toArray]); (try simp only [List.set_cons_succ]); (try simp only [List.set_cons_zero])
      refine wpAnyH_take (i := 7) (oi := { dst := some 59, op := Op.move (Operand.tmp 58), type := 4, pos := "check.go:122", after := #[{ on := 6, ground := Ground.data }, { on := 1, ground := Ground.chain }], guard := none }) (v := ?v7g17) rfl (by kernel_rfl) (by kernel_rfl) (by kernel_rfl) (fun _ _ _ h => h) (Or.inl ⟨by rfl, ?y7g17⟩) (by assumption) ?r7g17
      case y7g17 => (intro w hSw; obtain ⟨s0, s1, s2, s3⟩ := hSw; go_simp; (try with_reducible rfl))
      (try simp only [Act.put]); (try simp only [List.setIfInBounds_toArray]); (try simp only [List.set_cons_succ]); (try simp only [List.set_cons_zero])
      refine wpAnyH_take (i := 8) (oi := { dst := some 60, op := Op.move (Operand.tmp 8), type := 4, pos := "check.go:122", after := #[{ on := 7, ground := Ground.guard }], guard := some (7, true) }) (v := undef) rfl (by kernel_rfl) (by kernel_rfl) (by kernel_rfl) (fun _ _ _ h => h) (Or.inr ⟨by kernel_rfl, rfl⟩) (by assumption) ?r8g18
      (try simp only [Act.put]); (try simp only [List.setIfInBounds_toArray]); (try simp only [List.set_cons_succ]); (try simp only [List.set_cons_zero])
      refine wpAnyH_take (i := 9) (oi := { dst := some 61, op := Op.unOp UnOp.not 4 (Operand.tmp 60), type := 4, pos := "check.go:122", after := #[{ on := 8, ground := Ground.data }, { on := 7, ground := Ground.guard }], guard := some (7, true) }) (v := undef) rfl (by kernel_rfl) (by kernel_rfl) (by kernel_rfl) (fun _ _ _ h => h) (Or.inr ⟨by kernel_rfl, rfl⟩) (by assumption) ?r9g19
      (try simp only [Act.put]); (try simp only [List.setIfInBounds_toArray]); (try simp only [List.set_cons_succ]); (try simp only [List.set_cons_zero])
      refine wpAnyH_take (i := 10) (oi := { dst := some 62, op := Op.pick (Operand.tmp 59) (Operand.tmp 61) (Operand.const (Value.bool false)), type := 4, pos := "check.go:122", after := #[{ on := 7, ground := Ground.data }, { on := 9, ground := Ground.data }], guard := none }) (v := ?v10g110) rfl (by kernel_rfl) (by kernel_rfl) (by kernel_rfl) (fun _ _ _ h => h) (Or.inl ⟨by rfl, ?y10g110⟩) (by assumption) ?r10g110
      case y10g110 => (intro w hSw; obtain ⟨s0, s1, s2, s3⟩ := hSw; go_simp; (try with_reducible rfl))
      (try simp only [Act.put]); (try simp only [List.setIfInBounds_toArray]); (try simp only [List.set_cons_succ]); (try simp only [List.set_cons_zero])
      refine wpAnyH_done (by kernel_rfl) ?_ _
      go_wp2_with fail
      go_roundw
      case rel => exact ⟨2, by omega, by go_num, HGV.out.trans HG8.out (fun _ _ h => h)⟩
      case measure => simp [intOf]
    · obtain ⟨c7, c9, c12⟩ := cellF (HN.out wr HI.out).nd
      go_wp2_with fail
      go_loopw [70] (fun i u => i = .int .i64 0 ∧ u = wr) (fun i _ => 0)
      case atStart => exact ⟨rfl, rfl⟩
      case round =>
        obtain ⟨rfl, rfl⟩ := hrel
        go_wp2_with fail
        go_ret2
        exact ⟨rfl, HG5.out.trans HI.out (fun _ _ h => h)⟩
end Go.Proofs.YtnmfnmofcgcnbaaGreatDoor.Kit
namespace Go.Proofs.YtnmfnmofcgcnbaaGreatDoor.Bits
open Go.Proofs.YtnmfnmofcgcnbaaGreatDoor.Kit
open Go.RowKit Go.Deep
theorem bools_length (f : Nat → Bool) (fr n : Nat) : (bools f fr n).length = n := by simp [bools]
theorem New.bools {w w' : World} {v : Value} {f : Nat → Bool} {fr n : Nat} (h : New w w' 4 v (bools f fr n)) : ∃ ao cap, v = .slice ao n cap ∧ BoolsAt w' ao n (fun k => f (fr + k)) := by
  have h1 := h.1
  rw [bools_length] at h1
  rcases h1.2 with ⟨rfl, h0⟩ | ⟨g, cap, cur, rfl, hr⟩
  · exact ⟨none, 0, by rw [h0], fun hn => by omega⟩
  · refine ⟨_, cap, rfl, fun hn => ⟨g, 0, rfl, fun k hk => ?_⟩⟩
    rw [Nat.zero_add, h1.cellAt k (by omega)]
    simp [Bits.bools, hk]
theorem New.from {w w1 w' : World} {t : Nat} {v : Value} {xs : List Value} (k : Keeps w w1 (fun _ => False)) (h : New w1 w' t v xs) : New w w' t v xs :=
  ⟨h.1, fun g hg => Nat.le_trans k.size (h.2.1 g hg), k.trans h.2.2 fun _ _ h => h⟩
theorem not8 : ∀ x : Nat, x < 256 → bits .xor .u8 IntKind.u8.max (x : Int) = ((255 - x : Nat) : Int) := by decide +kernel
theorem not_bit : ∀ x : Nat, x < 256 → ∀ k, k < 8 → (255 - x).testBit k = !x.testBit k := by decide +kernel
theorem jn_full {J : Nat → Nat → Nat} {op : Bool → Bool → Bool} (hJ : ∀ x y, x < 256 → y < 256 → J x y < 256 ∧ ∀ k, k < 8 → (J x y).testBit k = op (x.testBit k) (y.testBit k)) {l r : List Nat} (hl : Bytes l) (hr : Bytes r) {m j : Nat} (h : 8 * j + 8 ≤ m) :
    J (l.getD j 0) (r.getD j 0) = pb (fun k => op (bitAt l k) (bitAt r k)) m j := by
  have hb := hJ _ _ (hl.get j) (hr.get j)
  refine byteOf_ext hb.1 fun k hk => ?_
  rw [hb.2 k hk]
  simp only [bitAt]
  rw [show (8 * j + k) / 8 = j by omega, show (8 * j + k) % 8 = k by omega, decide_eq_true (show 8 * j + k < m by omega), Bool.true_and]
theorem jn_last {J : Nat → Nat → Nat} {op : Bool → Bool → Bool} (hJ : ∀ x y, x < 256 → y < 256 → J x y < 256 ∧ ∀ k, k < 8 → (J x y).testBit k = op (x.testBit k) (y.testBit k)) {l r : List Nat} (hl : Bytes l) (hr : Bytes r) {m : Nat} :
    J (l.getD (m / 8) 0) (r.getD (m / 8) 0) &&& (2 ^ (m % 8) - 1) = pb (fun k => op (bitAt l k) (bitAt r k)) m (m / 8) := by
  have hb := hJ _ _ (hl.get (m / 8)) (hr.get (m / 8))
  refine byteOf_ext (Nat.lt_of_le_of_lt Nat.and_le_left hb.1) fun k hk => ?_
  rw [Nat.testBit_and, hb.2 k hk, Nat.testBit_two_pow_sub_one]
  simp only [bitAt]
  rw [show (8 * (m / 8) + k) / 8 = m / 8 by omega, show (8 * (m / 8) + k) % 8 = k by omega, Bool.and_comm]
  congr 1
  simp; omega
theorem and8 (x k : Nat) (hx : x < 256) (hk : k < 8) : bits .and .u8 (x : Int) ((2 ^ k - 1) % 256) = ((x &&& (2 ^ k - 1) : Nat) : Int) := by
  have hp : 2 ^ k < 2 ^ 8 := Nat.pow_lt_pow_right (by decide) hk
  have hp0 : 0 < 2 ^ k := Nat.pow_pos (by decide)
  have e : (((2 : Int) ^ k - 1) % 256) = ((2 ^ k - 1 : Nat) : Int) := by
    have h1 : ((2 : Int) ^ k) = ((2 ^ k : Nat) : Int) := by simp
    rw [h1]
    generalize 2 ^ k = z at *
    omega
  rw [e, bits_and8 x (2 ^ k - 1) hx (by omega)]
theorem New.form {w w' : World} {t : Nat} {v : Value} {xs : List Value} (h : New w w' t v xs) : ∃ ao cap, v = .slice ao xs.length cap := by
  rcases h.1.2 with ⟨rfl, h0⟩ | ⟨g, cap, cur, rfl, _⟩
  · exact ⟨none, 0, by rw [h0]⟩
  · exact ⟨_, _, rfl⟩
theorem New.own {w w' : World} {t : Nat} {v : Value} {xs : List Value} (h : New w w' t v xs) {n : Nat} (hn : xs.length = n) : w'.ownsRow 0 t 1 v n xs := by rw [← hn]; exact h.1
theorem own_kept {w w' : World} {t s : Nat} {v : Value} {n : Nat} {xs : List Value} {S : Nat → Prop} (h : w.ownsRow 0 t s v n xs) (k : Keeps w w' S) (hS : ∀ g, v.ownBlock = some g → ¬ S g) : w'.ownsRow 0 t s v n xs := by
  refine ⟨h.1, ?_⟩
  rcases h.2 with hn | ⟨g, cap, cur, rfl, hb', hgg, rest⟩
  · exact .inl hn
  · refine .inr ⟨g, cap, cur, rfl, hb', ?_, rest⟩
    rw [k.block g (Array.getElem?_eq_some_iff.1 hgg).1 (hS g rfl)]
    exact hgg
theorem New.kept {w wr w' : World} {t : Nat} {v : Value} {xs : List Value} (h : New w wr t v xs) (k : Keeps wr w' (fun _ => False)) : New w w' t v xs :=
  ⟨own_kept h.1 k fun _ _ => id, h.2.1, h.2.2.trans k fun _ _ h => h⟩
theorem New.nil (w : World) (t : Nat) : New w w t (.slice none 0 0) [] := ⟨World.ownsRow_nil w 0 t 1, fun g h => by simp [Value.ownBlock] at h, Keeps.refl _ _⟩
theorem New.empty (w : World) (t : Nat) : New w (w.alloc (.cells #[] t)) t (.slice (some ⟨w.heap.size, 0, none⟩) 0 0) [] :=
  ⟨⟨rfl, .inr ⟨w.heap.size, 0, #[], rfl, Nat.zero_le _, heap_alloc_new w _, Nat.le_refl _, Nat.zero_le _, rfl, rfl⟩⟩, fun g h => by simp [Value.ownBlock] at h; omega, (Keeps.refl _ _).alloc _⟩
/-- behind an append -/
theorem New.step {w wr W w1 : World} {t : Nat} {v v' : Value} {xs ys : List Value} {n' : Nat} (h : New w wr t v xs) (hW : Keeps wr W (fun _ => False)) (hown' : w1.ownsRow 0 t 1 v' n' ys) (hn : ys.length = n') (hgrow : W.grownBy w1 v.ownBlock)
    (hblk : v'.ownBlock = v.ownBlock ∨ ∀ g, v'.ownBlock = some g → W.heap.size ≤ g) : New w w1 t v' ys := by
  refine ⟨by rw [hn]; exact hown', fun g hg => ?_, ?_⟩
  · rcases hblk with e | e
    · exact h.2.1 g (e.symm.trans hg)
    · have := e g hg; have := h.2.2.size; have := hW.size; omega
  · exact (h.2.2.trans hW fun _ _ h => h).trans (Keeps.ofGrown hgrow) fun j hj e => by have := h.2.1 j e; omega
theorem src_bool (w : World) (u : Value) (hu : u.oneCell' = true) : Src Tryz.prog 1 81 (.slice (some ⟨w.heap.size, 0, none⟩) 1 1) 1 [u] (w.alloc (.cells #[u] 4)) := by
  refine Src.ofSlice _ Tryz.underlying81 _ _ _ _ (by simp) ?_ (by simpa using hu)
  intro j v hj
  match j, hj with
  | 0, hj => simp at hj; subst hj; simp [Addr.add]
theorem src_bool_drew (w : World) (u : Value) (hu : u.oneCell' = true) : Src Tryz.prog 1 81 (.slice (some ⟨w.heap.size, 0, none⟩) 1 1) 1 [u] (w.alloc (.cells #[u] 4)).drew := by
  refine Src.ofSlice _ Tryz.underlying81 _ _ _ _ (by simp) ?_ (by simpa using hu)
  intro j v hj
  match j, hj with
  | 0, hj => simp at hj; subst hj; simp [Addr.add]
theorem Keeps.none_alloc (w : World) (o : Obj) : Keeps w (w.alloc o) (fun _ => False) := (Keeps.refl w _).alloc o
theorem Keeps.none_alloc_drew (w : World) (o : Obj) : Keeps w (w.alloc o).drew (fun _ => False) := ((Keeps.refl w _).alloc o).drew
theorem own_form {w : World} {t s : Nat} {v : Value} {n : Nat} {xs : List Value} (h : w.ownsRow 0 t s v n xs) : ∃ ao cap, v = .slice ao n cap := by
  rcases h.2 with ⟨rfl, h0⟩ | ⟨g, cap, cur, rfl, _⟩
  · exact ⟨none, 0, by rw [h0]⟩
  · exact ⟨_, _, rfl⟩

/-! ### the document's -/
theorem odd_eq (y : Nat) : ((y : Int) % 2 == 1) = decide (y % 2 = 1) := by rw [Bool.eq_iff_iff]; simp; omega
theorem bools_succ (f : Nat → Bool) (fr n : Nat) : bools f fr (n + 1) = bools f fr n ++ [.bool (f (fr + n))] := by simp [bools, List.range_succ]
end Go.Proofs.YtnmfnmofcgcnbaaGreatDoor.Bits
