import Derived.Test.YtknnoiomdngmfaaGreatDoorLQ
import Derived.Test.YtknnoiomdngmfaaGreatDoorUR
set_option maxRecDepth 100000
set_option maxHeartbeats 4000000
namespace Go.Proofs.YtknnoiomdngmfaaGreatDoor.Kit
open Go.RowKit Go.Shelf Go.Deep
set_option linter.unusedVariables false
set_option linter.unusedSimpArgs false
attribute [local go_sem] run_store_func
theorem type4_no (n : Nat) (hn1 : 1 ≤ n) (S : Nat → Prop) (d b o lc D : Nat) (op : Int) (nm : ByteArray) (nb : Bool) (t : FT) (r : Int × FT) (P : Nat → World → Prop) (W : World) (hN : argN op = (n : Int)) (hlc : n ≤ lc) (hnm : W.cell? ⟨b, o, none⟩ = some (.string nm))
    (h9 : ∀ u, Gr W u → Calls Tryz.prog 9 #[.slice (some ⟨b, o, none⟩) n lc, .func (.func 10) #[] #[]] u fun e w' => e = .returned (.bool false) ∧ Gr u w')
    (h12 : ∀ u, Gr W u → Calls Tryz.prog 12 #[.slice (some ⟨b, o, none⟩) n lc] u fun e w' => ∃ tb, e = .returned (.slice (some ⟨tb, 0, none⟩) n n) ∧ Gr u w' ∧ P tb w')
    (h11 : ∀ u tb, Gr W u → P tb u → Calls Tryz.prog 11 #[.int .i64 op, .slice (some ⟨tb, 0, none⟩) n n] u fun e w' => ∃ ao ca, e = .returned (.tuple #[.agg #[.int .i64 t.kind, .int .i64 t.width, .int .i64 t.id, .int .i64 t.index, .slice ao t.kids.length ca], .bool false]) ∧ Gr u w' ∧ TyI S W d t ao ca) :
    Calls Tryz.prog 4 #[.int .i64 op, .slice (some ⟨b, o, none⟩) n lc] W (AtQ W D (5, zFT)) := by
  obtain ⟨x0, hx0⟩ := ex (W.heap.size)
  obtain ⟨A0, hA0⟩ := ex (W.alloc (.cells #[.string ⟨#[]⟩, .bool false, .int .i64 0, .int .i64 0, .int .i64 0, .int .i64 0, .slice none 0 0] 26))
  have g0 := gr_al hA0
  have z0 : A0.heap[x0]? = some (.cells #[.string ⟨#[]⟩, .bool false, .int .i64 0, .int .i64 0, .int .i64 0, .int .i64 0, .slice none 0 0] 26) := by rw [← hA0, ← hx0]; exact heap_alloc_new W _
  have H8 : Hid (∀ u, Calls Tryz.prog 8 #[.int .i64 op] u fun e w' => e = .returned (.int .i64 (n : Int)) ∧ u = w') := fun u => by have h := argsA_any op u; rwa [hN] at h
  have e0 : ((n : Int) == 0) = false := by simp; omega
  have hn0 : (0 : Int) < (n : Int) := by omega
  have hn0N : 0 < n := hn1
  have HX := hidM hx0
  have H9 : Hid _ := hidM (h9 A0 g0)
  have H12 : Hid (∀ u, Gr A0 u → Calls Tryz.prog 12 #[.slice (some ⟨b, o, none⟩) n lc] u fun e w' => ∃ tb, e = .returned (.slice (some ⟨tb, 0, none⟩) n n) ∧ Gr u w' ∧ P tb w') := fun u g => h12 u (g0.tr g)
  have H11 : Hid (∀ u tb, Gr A0 u → P tb u → Calls Tryz.prog 11 #[.int .i64 op, .slice (some ⟨tb, 0, none⟩) n n] u fun e w' => ∃ ao ca, e = .returned (.tuple #[.agg #[.int .i64 t.kind, .int .i64 t.width, .int .i64 t.id, .int .i64 t.index, .slice ao t.kids.length ca], .bool false]) ∧ Gr u w' ∧ TyI S W d t ao ca) := fun u tb g => h11 u tb (g0.tr g)
  have HK0 : Hid (∀ u, Gr A0 u → Gr W u ∧ u.heap[x0]? = some (.cells #[.string ⟨#[]⟩, .bool false, .int .i64 0, .int .i64 0, .int .i64 0, .int .i64 0, .slice none 0 0] 26)) := fun u g => ⟨g0.tr g, (g.block _ (lt_of_heap z0) id).trans z0⟩
  clear h9 h12 h11 hN hnm g0 z0
  go_enter Tryz.func4, Tryz.ntmps4
  (try rw [hx0])
  go_wp2_with (first
    | (go_at_call 8; refine (H8.out _).mono ?_; rintro e w1 ⟨rfl, hw⟩; subst hw)
    | (go_at_call 9; refine H9.out.mono ?_; rintro e w1 ⟨rfl, gw⟩; have HG1 := hidM gw; clear gw)
    | (go_at_call 12; refine (H12.out _ HG1.out).mono ?_; rintro e w2 ⟨tb, rfl, gw, hP⟩; have HG2 := hidM (HG1.out.tr gw); have HP := hidM hP; clear gw hP)
    | (go_at_call 11; refine (H11.out _ _ HG2.out HP.out).mono ?_; rintro e w3 ⟨ao, ca, rfl, gw, hti⟩; have g3 := HG2.out.tr gw; clear gw; obtain ⟨B, hB⟩ := ex (w3.alloc (.cells #[.int .i64 0, .int .i64 0, .int .i64 0, .int .i64 0, .slice none 0 0] 24)); obtain ⟨y, hy⟩ := ex (w3.heap.size); obtain ⟨V, hV⟩ := ex (stA B y [(0, .int .i64 t.kind), (1, .int .i64 t.width), (2, .int .i64 t.id), (3, .int .i64 t.index), (4, .slice ao t.kids.length ca)]); obtain ⟨gV, cV, cB⟩ := box5 hB hy hV; obtain ⟨b0, b1, b2, b3, b4⟩ := cell5p cB; obtain ⟨f0, f1, f2, f3, f4⟩ := frz5 cB; simp only [stA] at hV; have HTI := hidM hti; have gAV := g3.tr gV; have hv1 := cell5p cV; obtain ⟨hgw, hz⟩ := HK0.out V gAV; clear gAV g3 gV cV cB hti hv1; obtain ⟨q0, q1, q2, q3, q4, q5, q6⟩ := cell7p hz; obtain ⟨y0, y1, y2, y3, y4, y5, y6⟩ := frz7 hz; obtain ⟨U, hU⟩ := ex (stA V x0 [(0, .string ⟨#[]⟩), (1, .bool false), (2, .int .i64 0), (3, .int .i64 0), (4, .int .i64 0), (5, .int .i64 0), (6, .slice none 0 0)]); have hno := AtQ.no (W := W) (D := D) (x0 := x0) 5 (Nat.le_of_eq HX.out) hgw hz; rw [hU] at hno; have HNO := hidM hno; simp only [stA] at hU; clear hno hz hgw))
  (try simp only [Exit.inBlock, Exit.then])
  refine bodyPost_ret (results_c26t rfl rfl (by with_reducible exact HNO.out.1) (by kernel_rfl)) rfl HNO.out.2
theorem type4_ok (n : Nat) (hn1 : 1 ≤ n) (S : Nat → Prop) (d b o lc D : Nat) (op : Int) (nm : ByteArray) (nb : Bool) (t : FT) (r : Int × FT) (P : Nat → World → Prop) (W : World) (hN : argN op = (n : Int)) (hlc : n ≤ lc) (hnm : W.cell? ⟨b, o, none⟩ = some (.string nm))
    (h9 : ∀ u, Gr W u → Calls Tryz.prog 9 #[.slice (some ⟨b, o, none⟩) n lc, .func (.func 10) #[] #[]] u fun e w' => e = .returned (.bool false) ∧ Gr u w')
    (h12 : ∀ u, Gr W u → Calls Tryz.prog 12 #[.slice (some ⟨b, o, none⟩) n lc] u fun e w' => ∃ tb, e = .returned (.slice (some ⟨tb, 0, none⟩) n n) ∧ Gr u w' ∧ P tb w')
    (h11 : ∀ u tb, Gr W u → P tb u → Calls Tryz.prog 11 #[.int .i64 op, .slice (some ⟨tb, 0, none⟩) n n] u fun e w' => ∃ ao ca, e = .returned (.tuple #[.agg #[.int .i64 t.kind, .int .i64 t.width, .int .i64 t.id, .int .i64 t.index, .slice ao t.kids.length ca], .bool true]) ∧ Gr u w' ∧ TyI S W d t ao ca)
    (h13 : ∀ u, Gr W u → Calls Tryz.prog 13 #[.int .i64 op, .slice (some ⟨b, o, none⟩) n lc] u fun e w' => e = .returned (.bool nb) ∧ Gr u w')
    (h14 : ∀ u x z ao ca, Gr W u → TyI S W d t ao ca → u.heap[x]? = some (.cells #[.string nm, .bool nb, .int .i64 t.kind, .int .i64 t.width, .int .i64 t.id, .int .i64 t.index, .slice ao t.kids.length ca] 26) → u.heap[z]? = some (.cells #[.int .i64 0] 3) → Calls Tryz.prog 14 #[.agg #[.slice (some ⟨x, 0, none⟩) 1 1, .slice none 0 0], .slice (some ⟨z, 0, none⟩) 1 1] u (AtQ u D r)) :
    Calls Tryz.prog 4 #[.int .i64 op, .slice (some ⟨b, o, none⟩) n lc] W (AtQ W D r) := by
  obtain ⟨x0, hx0⟩ := ex (W.heap.size)
  obtain ⟨A0, hA0⟩ := ex (W.alloc (.cells #[.string ⟨#[]⟩, .bool false, .int .i64 0, .int .i64 0, .int .i64 0, .int .i64 0, .slice none 0 0] 26))
  have g0 := gr_al hA0
  have z0 : A0.heap[x0]? = some (.cells #[.string ⟨#[]⟩, .bool false, .int .i64 0, .int .i64 0, .int .i64 0, .int .i64 0, .slice none 0 0] 26) := by rw [← hA0, ← hx0]; exact heap_alloc_new W _
  have H8 : Hid (∀ u, Calls Tryz.prog 8 #[.int .i64 op] u fun e w' => e = .returned (.int .i64 (n : Int)) ∧ u = w') := fun u => by have h := argsA_any op u; rwa [hN] at h
  have e0 : ((n : Int) == 0) = false := by simp; omega
  have hn0 : (0 : Int) < (n : Int) := by omega
  have hn0N : 0 < n := hn1
  have HX := hidM hx0
  have H9 : Hid _ := hidM (h9 A0 g0)
  have H12 : Hid (∀ u, Gr A0 u → Calls Tryz.prog 12 #[.slice (some ⟨b, o, none⟩) n lc] u fun e w' => ∃ tb, e = .returned (.slice (some ⟨tb, 0, none⟩) n n) ∧ Gr u w' ∧ P tb w') := fun u g => h12 u (g0.tr g)
  have H11 : Hid (∀ u tb, Gr A0 u → P tb u → Calls Tryz.prog 11 #[.int .i64 op, .slice (some ⟨tb, 0, none⟩) n n] u fun e w' => ∃ ao ca, e = .returned (.tuple #[.agg #[.int .i64 t.kind, .int .i64 t.width, .int .i64 t.id, .int .i64 t.index, .slice ao t.kids.length ca], .bool true]) ∧ Gr u w' ∧ TyI S W d t ao ca) := fun u tb g => h11 u tb (g0.tr g)
  have HK0 : Hid (∀ u, Gr A0 u → Gr W u ∧ u.heap[x0]? = some (.cells #[.string ⟨#[]⟩, .bool false, .int .i64 0, .int .i64 0, .int .i64 0, .int .i64 0, .slice none 0 0] 26) ∧ x0 < u.heap.size ∧ u.cell? ⟨b, o, none⟩ = some (.string nm)) := fun u g => ⟨g0.tr g, (g.block _ (lt_of_heap z0) id).trans z0, Nat.lt_of_lt_of_le (lt_of_heap z0) g.size, (g0.tr g).cell' hnm id⟩
  have H13 := hidM h13
  have H14 := hidM h14
  have hlcI : (n : Int) ≤ (lc : Int) := by omega
  clear h9 h12 h11 h13 h14 hN hnm g0 z0
  go_enter Tryz.func4, Tryz.ntmps4
  (try rw [hx0])
  go_wp2_with (first
    | (go_at_call 8; refine (H8.out _).mono ?_; rintro e w1 ⟨rfl, hw⟩; subst hw)
    | (go_at_call 9; refine H9.out.mono ?_; rintro e w1 ⟨rfl, gw⟩; have HG1 := hidM gw; clear gw)
    | (go_at_call 12; refine (H12.out _ HG1.out).mono ?_; rintro e w2 ⟨tb, rfl, gw, hP⟩; have HG2 := hidM (HG1.out.tr gw); have HP := hidM hP; clear gw hP)
    | (go_at_call 11; refine (H11.out _ _ HG2.out HP.out).mono ?_; rintro e w3 ⟨ao, ca, rfl, gw, hti⟩; have g3 := HG2.out.tr gw; clear gw; obtain ⟨B, hB⟩ := ex (w3.alloc (.cells #[.int .i64 0, .int .i64 0, .int .i64 0, .int .i64 0, .slice none 0 0] 24)); obtain ⟨y, hy⟩ := ex (w3.heap.size); obtain ⟨V, hV⟩ := ex (stA B y [(0, .int .i64 t.kind), (1, .int .i64 t.width), (2, .int .i64 t.id), (3, .int .i64 t.index), (4, .slice ao t.kids.length ca)]); obtain ⟨gV, cV, cB⟩ := box5 hB hy hV; obtain ⟨b0, b1, b2, b3, b4⟩ := cell5p cB; obtain ⟨f0, f1, f2, f3, f4⟩ := frz5 cB; simp only [stA] at hV; have HTI := hidM hti; have gAV := g3.tr gV; have HS0 : Hid (∀ u, Gr V u → u.cell? ⟨b, o, none⟩ = some (.string nm) ∧ u.cell? ⟨y, 0, none⟩ = some (.int .i64 t.kind) ∧ u.cell? ⟨y, 1, none⟩ = some (.int .i64 t.width) ∧ u.cell? ⟨y, 2, none⟩ = some (.int .i64 t.id) ∧ u.cell? ⟨y, 3, none⟩ = some (.int .i64 t.index) ∧ u.cell? ⟨y, 4, none⟩ = some (.slice ao t.kids.length ca)) := (fun u g => ⟨(HK0.out u (gAV.tr g)).2.2.2, cell5p ((g.block _ (lt_of_heap cV) id).trans cV)⟩); replace H13 : Hid (∀ u, Gr V u → Calls Tryz.prog 13 #[.int .i64 op, .slice (some ⟨b, o, none⟩) n lc] u fun e w9 => e = .returned (.bool nb) ∧ Gr u w9) := (fun u g => H13.out u ((HK0.out V gAV).1.tr g)); have HAV := hidM gAV; have hnv := (HK0.out V gAV).2.2.2; obtain ⟨e0, e1, e2, e3, e4⟩ := cell5p cV; clear gAV g3 gV cV cB hti))
  clear hB hV b0 b1 b2 b3 b4 f0 f1 f2 f3 f4 hnv e0 e1 e2 e3 e4 hA0
  refine wp_region_held_drew (S := fun w' => w'.cell? ⟨b, o, none⟩ = some (.string nm) ∧ w'.cell? ⟨y, 0, none⟩ = some (.int .i64 t.kind) ∧ w'.cell? ⟨y, 1, none⟩ = some (.int .i64 t.width) ∧ w'.cell? ⟨y, 2, none⟩ = some (.int .i64 t.id) ∧ w'.cell? ⟨y, 3, none⟩ = some (.int .i64 t.index) ∧ w'.cell? ⟨y, 4, none⟩ = some (.slice ao t.kids.length ca)) (by kernel_rfl) (HS0.out V.drew gr_drew) (fun hHeld => ?_)
  refine tk 0 ?_
  refine tk 1 ?_
  refine tk 2 ?_
  refine tk 3 ?_
  refine tk 4 ?_
  refine tk 5 ?_
  refine tk 7 ?_
  refine wpAnyH_ready (rs := [6, 9]) (by kernel_rfl) (by simp) ?_
  refine AllReadyH.cons (o := { dst := some 40, op := Op.call { callee := Callee.value (Operand.func 13), args := #[Operand.tmp 38, Operand.tmp 39], argTypes := #[3, 22] }, type := 4, pos := "calc.go:25", after := #[{ on := 4, ground := Ground.data }, { on := 5, ground := Ground.data }], guard := none }) rfl (fun Kc hK => ?ordA) (AllReadyH.cons (o := { dst := some 9, op := Op.alloc 26, type := 0, pos := "calc.go:25", after := #[], guard := none }) rfl (fun Kc hK => ?ordB) AllReadyH.nil)
  case' ordB =>
    (obtain ⟨C, hC⟩ := ex ((V.alloc (.cells #[.string ⟨#[]⟩, .bool false, .int .i64 0, .int .i64 0, .int .i64 0, .int .i64 0, .slice none 0 0] 26)).drew)
     obtain ⟨z, hz⟩ := ex (V.heap.size)
     have cC : C.heap[z]? = some (.cells #[.string ⟨#[]⟩, .bool false, .int .i64 0, .int .i64 0, .int .i64 0, .int .i64 0, .slice none 0 0] 26) := by rw [← hC, ← hz]; exact heap_alloc_new V _
     have HGC : Hid (Gr V C) := by rw [← hC]; exact (gr_alloc V _).drew
     have HCC := hidM cC
     clear cC
     go_simp
     (try rw [hz])
     (try rw [hC])
     refine hK.out _ _ (HS0.out C HGC.out) (fun hHeld => ?_)
     clear hK Kc
     try simp only [Act.put, lA, lB, lC]
     refine rd1 6 fun Kc hK => ?_
     go_simp
     go_at_call 13
     refine Calls.mono (H13.out C HGC.out) ?_
     rintro e' w4 ⟨rfl, g4⟩; have HG4 := hidM (HGC.out.tr g4); have HS4 := hidM (HS0.out w4 HG4.out); have cC := (g4.block _ (lt_of_heap HCC.out) id).trans HCC.out; clear g4; obtain ⟨X, hX⟩ := ex (stA w4 z [(0, .string nm), (1, .bool nb), (2, .int .i64 t.kind), (3, .int .i64 t.width), (4, .int .i64 t.id), (5, .int .i64 t.index), (6, .slice ao t.kids.length ca)]); have cX : X.heap[z]? = some (.cells #[.string nm, .bool nb, .int .i64 t.kind, .int .i64 t.width, .int .i64 t.id, .int .i64 t.index, .slice ao t.kids.length ca] 26) := (by rw [← hX]; exact st7 cC); obtain ⟨q0, q1, q2, q3, q4, q5, q6⟩ := cell7p cC; obtain ⟨f0, f1, f2, f3, f4, f5, f6⟩ := frz7 cC; have HGX : Hid (Gr V X) := HG4.out.trans (by rw [← hX]; exact stA_kp z _ w4) (fun j hj (e : j = z) => by omega); simp only [stA] at hX; have HCX := hidM cX; clear cX cC
     go_wp2_with fail
     refine hK.out _ _ (HS4.out) (fun hHeld => ?_)
     clear hK Kc
     try simp only [Act.put, lA, lB, lC]
     refine tk 8 ?_
     refine rd1 10 fun Kc hK => ?_
     go_simp
     (try rw [hX])
     refine hK.out _ _ (HS0.out X HGX.out) (fun hHeld => ?_)
     clear hK Kc
     try simp only [Act.put, lA, lB, lC]
     refine wpAnyH_done (by kernel_rfl) ?_ _)
  case' ordA =>
    (go_simp
     go_at_call 13
     refine Calls.mono (H13.out _ gr_drew) ?_
     rintro e' w4 ⟨rfl, g4⟩; have HG4 := hidM (Keeps.trans gr_drew g4 (fun _ _ h => h)); clear g4; have HS4 := hidM (HS0.out w4 HG4.out); obtain ⟨C, hC⟩ := ex (w4.alloc (.cells #[.string ⟨#[]⟩, .bool false, .int .i64 0, .int .i64 0, .int .i64 0, .int .i64 0, .slice none 0 0] 26)); obtain ⟨z, hz⟩ := ex (w4.heap.size); obtain ⟨X, hX⟩ := ex (stA C z [(0, .string nm), (1, .bool nb), (2, .int .i64 t.kind), (3, .int .i64 t.width), (4, .int .i64 t.id), (5, .int .i64 t.index), (6, .slice ao t.kids.length ca)]); obtain ⟨gX, cX, cC⟩ := box7 hC hz hX; obtain ⟨q0, q1, q2, q3, q4, q5, q6⟩ := cell7p cC; obtain ⟨f0, f1, f2, f3, f4, f5, f6⟩ := frz7 cC; simp only [stA] at hX; have HGC : Hid (Gr V C) := HG4.out.tr (by rw [← hC]; exact gr_alloc w4 _); have HGX : Hid (Gr V X) := HG4.out.tr gX; have HCX := hidM cX; clear gX cX cC
     go_wp2_with fail
     refine hK.out _ _ (HS4.out) (fun hHeld => ?_)
     clear hK Kc
     try simp only [Act.put, lA, lB, lC]
     refine tk 8 ?_
     refine rd1 9 fun Kc hK => ?_
     go_simp
     (try rw [hz])
     (try rw [hC])
     refine hK.out _ _ (HS0.out C HGC.out) (fun hHeld => ?_)
     clear hK Kc
     try simp only [Act.put, lA, lB, lC]
     refine rd1 10 fun Kc hK => ?_
     go_simp
     (try rw [hX])
     refine hK.out _ _ (HS0.out X HGX.out) (fun hHeld => ?_)
     clear hK Kc
     try simp only [Act.put, lA, lB, lC]
     refine wpAnyH_done (by kernel_rfl) ?_ _)
  all_goals
    (obtain ⟨E1, hE1⟩ := ex (X.alloc (.cells #[.string nm, .bool nb, .int .i64 t.kind, .int .i64 t.width, .int .i64 t.id, .int .i64 t.index, .slice ao t.kids.length ca] 26))
     obtain ⟨E2, hE2⟩ := ex (E1.alloc (.cells #[.int .i64 0] 3))
     have gE1 := gr_al hE1
     have cE1 := al_new hE1
     have gE2 := gr_al hE2
     have cE2 := al_new hE2
     obtain ⟨i0, i1, i2, i3, i4, i5, i6⟩ := cell7p HCX.out
     have gAE : Gr A0 E2 := (HAV.out.tr HGX.out).tr (gE1.tr gE2)
     have HC14 := hidM (H14.out E2 X.heap.size E1.heap.size ao ca (HK0.out E2 gAE).1 HTI.out ((gE2.block _ (lt_of_heap cE1) id).trans cE1) cE2)
     have HGE := hidM gAE
     clear gE1 cE1 gE2 cE2 gAE hC hX hz q0 q1 q2 q3 q4 q5 q6 f0 f1 f2 f3 f4 f5 f6
     go_wp2_with (go_at_call 14; refine HC14.out.mono ?_; rintro e w5 ⟨vo, vc, rfl, g5, hle, hrow⟩; obtain ⟨hgE, hzE, hxE, -⟩ := HK0.out E2 HGE.out; have hz5 := (g5.block _ (lt_of_heap hzE) id).trans hzE; have hput := AtQ.put hgE hxE (Nat.le_of_eq HX.out) g5 hz5 hle hrow; obtain ⟨q0, q1, q2, q3, q4, q5, q6⟩ := cell7p hz5; obtain ⟨f0, f1, f2, f3, f4, f5, f6⟩ := frz7 hz5; obtain ⟨U, hU⟩ := ex (stA w5 x0 [(0, .string r.2.name), (1, .bool r.2.nul), (2, .int .i64 r.2.kind), (3, .int .i64 r.2.width), (4, .int .i64 r.2.id), (5, .int .i64 r.2.index), (6, .slice vo r.2.kids.length vc)]); rw [hU] at hput; have HNO := hidM hput; simp only [stA] at hU; clear hput hgE hzE hxE hz5 g5 hle hrow i0 i1 i2 i3 i4 i5 i6 hE1 hE2)
     (try simp only [Exit.inBlock, Exit.then])
     refine bodyPost_ret (results_c26t rfl rfl (by with_reducible exact HNO.out.1) (by kernel_rfl)) rfl HNO.out.2)
theorem src_fld (w : World) (G : Nat) (hG : w.heap.size = G) (a b c d e f g : Value) (hone : ∀ v ∈ [a, b, c, d, e, f, g], v.oneCell' = true) :
    Src Tryz.prog 7 22 (.slice (some ⟨G, 0, none⟩) 1 1) 1 [a, b, c, d, e, f, g] (w.alloc (.cells #[a, b, c, d, e, f, g] 26)) := by
  subst hG
  refine Src.ofSlice _ Tryz.underlying22 _ _ _ _ rfl ?_ (by simpa using hone)
  intro k v hk
  match k, hk with
  | 0, hk => simp at hk; subst hk; simp [Addr.add]
  | 1, hk => simp at hk; subst hk; simp [Addr.add]
  | 2, hk => simp at hk; subst hk; simp [Addr.add]
  | 3, hk => simp at hk; subst hk; simp [Addr.add]
  | 4, hk => simp at hk; subst hk; simp [Addr.add]
  | 5, hk => simp at hk; subst hk; simp [Addr.add]
  | 6, hk => simp at hk; subst hk; simp [Addr.add]
  | k + 7, hk => simp at hk
def RowL (S : Nat → Prop) (W : World) (d : Nat) (f g : Nat → FT) : Nat → List Value → Prop
  | 0, xs => xs = []
  | k + 1, xs => ∃ ys bo cb, RowL S W d f g k ys ∧ TyI S W d (g k) bo cb ∧ xs = ys ++ [.string (f k).name, .bool (f k).nul, .int .i64 (g k).kind, .int .i64 (g k).width, .int .i64 (g k).id, .int .i64 (g k).index, .slice bo (g k).kids.length cb]
def anyN (f : Nat → FT) : Nat → Bool
  | 0 => false
  | k + 1 => anyN f k || (f k).nul
def allN (f : Nat → FT) : Nat → Bool
  | 0 => true
  | k + 1 => allN f k && (f k).nul
theorem own_cells {W : World} {g n c t s : Nat} {xs : List Value} (h : W.ownsRow 0 t s (.slice (some ⟨g, 0, none⟩) n c) n xs) : (∀ (j : Nat) (v : Value), xs[j]? = some v → W.cell? ⟨g, j, none⟩ = some v) ∧ g < W.heap.size ∧ n ≤ c := by
  rcases h.2 with ⟨h1, -⟩ | ⟨g', cap, cur, e, -, hg, hn, -, hcs, ht⟩
  · cases h1
  cases e
  refine ⟨fun j v hj => ?_, lt_of_heap hg, hn⟩
  have h2 : (cur.toList.take xs.length)[j]? = some v := by
    have := ht
    first
      | rw [this]; exact hj
      | (rw [h.1]; rw [this]; exact hj)
  have hj2 : j < xs.length := (List.getElem?_eq_some_iff.1 hj).1
  rw [List.getElem?_take_of_lt hj2] at h2
  simp only [World.cell?, hg]
  simpa using h2
theorem own_some {W : World} {n t s : Nat} {v : Value} {xs : List Value} (h : W.ownsRow 0 t s v n xs) (hn : 1 ≤ n) : ∃ g c, v = .slice (some ⟨g, 0, none⟩) n c := by
  rcases h.2 with ⟨-, h1⟩ | ⟨g', cap, cur, e, -⟩
  · omega
  exact ⟨_, _, e⟩
theorem own_zero {W : World} {g : Nat} {t s : Nat} (h : W.heap[g]? = some (.cells #[] t)) : W.ownsRow 0 t s (.slice (some ⟨g, 0, none⟩) 0 0) 0 [] := by
  refine ⟨by simp, .inr ⟨g, 0, #[], rfl, Nat.zero_le _, h, Nat.le_refl _, Nat.zero_le _, by simp, by simp⟩⟩
def sq2 : Code → Code | .seq _ c => c | c => c
noncomputable def rest5 : Code := sq2 (sq2 (sq2 (sq2 (sq2 (sq2 (sq2 (sq2 (sq2 (Tryz.f5.body.getD .skip)))))))))
theorem cut9 {P : Program} {Q : Exit → Act → World → Prop} {a : Act} {w : World} {c0 c1 c2 c3 c4 c5 c6 c7 c8 C : Code} (h : ∀ C', C' = C → (c0.seq (c1.seq (c2.seq (c3.seq (c4.seq (c5.seq (c6.seq (c7.seq (c8.seq C'))))))))).wp P Q a w) : (c0.seq (c1.seq (c2.seq (c3.seq (c4.seq (c5.seq (c6.seq (c7.seq (c8.seq C))))))))).wp P Q a w := h C rfl
def act5 (op : Int) (lv pv : Value) (x0 y : Nat) (any all two : Bool) (k0 : Int) (u5 u9 u10 u11 u16 u17 u18 u19 u20 u21 u22 u23 u24 u25 u26 u27 u28 u29 u30 u31 u32 u33 u34 u35 u36 u37 u38 u39 u40 u41 u42 u43 u44 u45 u46 u47 u48 u49 u50 u51 u52 u53 u54 u55 u56 u57 u58 u59 u60 u61 u62 u63 u64 u65 u66 u67 u68 u69 u70 u71 u72 u73 u74 u75 u76 u77 u78 u79 u80 : Value) : Act := { tmps := #[.int .i64 op, lv, undef, undef, .pointer (some ⟨x0, 0, none⟩), u5, pv, .bool any, .bool all, u9, u10, u11, .pointer (some ⟨y, 0, none⟩), .int .i64 k0, .bool two, .bool false, u16, u17, u18, u19, u20, u21, u22, u23, u24, u25, u26, u27, u28, u29, u30, u31, u32, u33, u34, u35, u36, u37, u38, u39, u40, u41, u42, u43, u44, u45, u46, u47, u48, u49, u50, u51, u52, u53, u54, u55, u56, u57, u58, u59, u60, u61, u62, u63, u64, u65, u66, u67, u68, u69, u70, u71, u72, u73, u74, u75, u76, u77, u78, u79, u80, undef, undef, undef, undef, undef, undef, undef, undef, undef, undef, undef, undef, undef, undef, undef, undef, undef, undef, undef, undef, undef, undef, undef, undef, undef, undef, undef, undef, undef, undef, undef, undef, undef, undef, undef, undef, undef, undef, undef, undef, undef, undef, undef, undef, undef, undef, undef, undef, undef, undef, undef, undef, undef, undef, undef, undef, undef, undef, undef, undef, undef, undef, undef, undef, undef, undef, undef, undef, undef, undef, undef, undef, undef, undef, undef, undef, undef, undef, undef, undef, undef, undef, undef, undef, undef, undef, undef, undef, undef, undef, undef, undef, undef, undef, undef, undef, undef, undef, undef, undef, undef, undef, undef, undef, undef, undef, undef, undef, undef, undef, undef, undef, undef, undef, undef, undef, undef, undef, undef, undef, undef, undef, undef, undef, undef, undef, undef, undef, undef, undef, undef, undef, undef, undef, undef, undef, undef, undef, undef, undef, undef, undef, undef, undef, undef, undef, undef, undef, undef, undef, undef, undef, undef, undef, undef, undef, undef, undef, undef, undef, undef, undef, undef, undef, undef, undef, undef, undef, undef, undef, undef, undef, undef, undef, undef, undef, undef, undef, undef, undef, undef, undef], defers := [] }
inductive IsA (op : Int) (lv pv : Value) (x0 y : Nat) (any all two : Bool) (k0 : Int) : Act → Prop where
  | mk {u5 u9 u10 u11 u16 u17 u18 u19 u20 u21 u22 u23 u24 u25 u26 u27 u28 u29 u30 u31 u32 u33 u34 u35 u36 u37 u38 u39 u40 u41 u42 u43 u44 u45 u46 u47 u48 u49 u50 u51 u52 u53 u54 u55 u56 u57 u58 u59 u60 u61 u62 u63 u64 u65 u66 u67 u68 u69 u70 u71 u72 u73 u74 u75 u76 u77 u78 u79 u80 : Value} : IsA op lv pv x0 y any all two k0 (act5 op lv pv x0 y any all two k0 u5 u9 u10 u11 u16 u17 u18 u19 u20 u21 u22 u23 u24 u25 u26 u27 u28 u29 u30 u31 u32 u33 u34 u35 u36 u37 u38 u39 u40 u41 u42 u43 u44 u45 u46 u47 u48 u49 u50 u51 u52 u53 u54 u55 u56 u57 u58 u59 u60 u61 u62 u63 u64 u65 u66 u67 u68 u69 u70 u71 u72 u73 u74 u75 u76 u77 u78 u79 u80)
structure Ref5 (S : Nat → Prop) (W : World) (d n x0 y gp cp : Nat) (f g : Nat → FT) (xs : List Value) (w : World) : Prop where
  gr : Gr W w
  z : w.heap[x0]? = some (.cells #[.string ⟨#[]⟩, .bool false, .int .i64 0, .int .i64 0, .int .i64 0, .int .i64 0, .slice none 0 0] 26)
  out : w.heap[y]? = some (.cells #[.string (f 0).name, .bool (anyN f n), .int .i64 2, .int .i64 0, .int .i64 0, .int .i64 0, .slice none 0 0] 26)
  row : RowL S W d f g n xs
  own : w.ownsRow 0 26 7 (.slice (some ⟨gp, 0, none⟩) n cp) n xs
  x : W.heap.size ≤ x0
  p : W.heap.size ≤ gp
  py : gp < y
  xy : x0 < y
  xp : x0 ≠ gp
structure PlL (S : Nat → Prop) (W : World) (d x0 : Nat) (f g : Nat → FT) (k : Nat) (v : Value) (wr : World) : Prop where
  gr : Gr W wr
  z : wr.heap[x0]? = some (.cells #[.string ⟨#[]⟩, .bool false, .int .i64 0, .int .i64 0, .int .i64 0, .int .i64 0, .slice none 0 0] 26)
  own : ∃ xs, RowL S W d f g k xs ∧ wr.ownsRow 0 26 7 v k xs
  low : ∀ q, v.ownBlock = some q → W.heap.size ≤ q ∧ x0 ≠ q
theorem ref5_pre (S : Nat → Prop) (d b o lc n : Nat) (op : Int) (f g : Nat → FT) (ao : Nat → Option Addr) (ca : Nat → Nat) (D : Nat) (r : Int × FT) (W : World) (hS : ∀ b, S b → b < W.heap.size) (hb : b < W.heap.size)
    (hN : argR op = n) (hn1 : 1 ≤ n) (hn3 : n ≤ 3) (hlc : n ≤ lc) (hF : ∀ i, i < n → FlI S W d b (o + i * 7) (f i) (ao i) (ca i)) (hP : ∀ i, i < n → PlV d (f i) (g i))
    (hM : ∀ i, i < n → Ans 16 #[.agg #[.string (f i).name, .bool (f i).nul, .int .i64 (f i).kind, .int .i64 (f i).width, .int .i64 (f i).id, .int .i64 (f i).index, .slice (ao i) (f i).kids.length (ca i)]] true W)
    (hR : ∀ (x0 y gp cp : Nat) (xs : List Value) (w : World) (two : Bool) (a : Act), IsA op (.slice (some ⟨b, o, none⟩) n lc) (.slice (some ⟨gp, 0, none⟩) n cp) x0 y (anyN f n) (allN f n) two (g 0).kind a → Ref5 S W d n x0 y gp cp f g xs w → (n = 1 → two = false) → (1 < n → two = ((g 1).kind == (g 0).kind)) → rest5.wp Tryz.prog (bodyPost Tryz.prog Tryz.f5 (AtQ W D r)) a w) :
    Calls Tryz.prog 5 #[.int .i64 op, .slice (some ⟨b, o, none⟩) n lc] W (AtQ W D r) := by
  have H15 : Hid (∀ u, Calls Tryz.prog 15 #[.int .i64 op] u fun e w' => e = .returned (.int .i64 (n : Int)) ∧ u = w') := fun u => by have h := argsR_any op u; rwa [hN] at h
  obtain ⟨x0, hx0⟩ := ex (W.heap.size)
  obtain ⟨A0, hA0⟩ := ex (W.alloc (.cells #[.string ⟨#[]⟩, .bool false, .int .i64 0, .int .i64 0, .int .i64 0, .int .i64 0, .slice none 0 0] 26))
  have g0 := gr_al hA0
  have z0 : A0.heap[x0]? = some (.cells #[.string ⟨#[]⟩, .bool false, .int .i64 0, .int .i64 0, .int .i64 0, .int .i64 0, .slice none 0 0] 26) := by rw [← hA0, ← hx0]; exact heap_alloc_new W _
  have HR := hidM hR
  have HF := hidM hF
  have HM := hidM hM
  have HP := hidM hP
  have HX := hidM hx0
  have HSb := hidM (And.intro hS hb)
  have hnI : (1 : Int) ≤ (n : Int) := by omega
  have hn3I : (n : Int) ≤ 3 := by omega
  have hlcI : (n : Int) ≤ (lc : Int) := by omega
  have HZ := hidM (And.intro g0 z0)
  clear hR hF hM hP hS hb hN g0 z0
  go_enter Tryz.func5, Tryz.ntmps5
  (try rw [hx0])
  refine cut9 (fun C hC => ?_)
  have HC : Hid (C = rest5) := hC.trans (by kernel_rfl)
  clear hC
  go_wp2_with (go_at_call 15; refine (H15.out _).mono ?_; rintro e w1 ⟨rfl, hw⟩; subst hw)
  obtain ⟨E0, hE0⟩ := ex (A0.alloc (.cells #[] 26))
  rw [hE0]
  have HI0 : Hid (PlL S W d x0 f g 0 (.slice (some ⟨A0.heap.size, 0, none⟩) 0 0) E0) := by
    have hg := gr_al hE0
    have hc := al_new hE0
    refine ⟨HZ.out.1.tr hg, (hg.block _ (lt_of_heap HZ.out.2) id).trans HZ.out.2, ⟨[], rfl, own_zero hc⟩, fun q e => ?_⟩
    obtain rfl : A0.heap.size = q := by simpa [Value.ownBlock] using e
    have h1 := lt_of_heap HZ.out.2
    exact ⟨HZ.out.1.size, by omega⟩
  clear hE0 hA0
  go_loopw [6, 7, 8, 9] (fun v an al i wr => ∃ k : Nat, k ≤ n ∧ an = .bool (anyN f k) ∧ al = .bool (allN f k) ∧ i = .int .i64 (k : Int) ∧ Hid (PlL S W d x0 f g k v wr)) (fun _ _ _ i _ => n - (intOf i).toNat)
  case atStart => exact ⟨0, by omega, rfl, rfl, rfl, HI0⟩
  case round =>
    clear HI0
    obtain ⟨k, hk, rfl, rfl, rfl, HI⟩ := hrel
    obtain ⟨xs, hxs, hown⟩ := HI.out.own
    have HO := hidM hown
    have HXS := hidM hxs
    clear hown hxs
    by_cases hlt : k < n
    · obtain ⟨vo, vc, rfl⟩ := own_formN HO.out
      have hltI : (k : Int) < (n : Int) := by omega
      have hFk := (HF.out k hlt).gr HI.out.gr HSb.out.2 HSb.out.1
      obtain ⟨c0, c1, c2, c3, c4, c5, c6⟩ := hFk.c
      have HC16 := hidM (HM.out k hlt wr HI.out.gr)
      have HG := hidM HI.out.gr
      have HC17 : Hid (∀ u, Gr wr u → Calls Tryz.prog 17 #[.agg #[.string (f k).name, .bool (f k).nul, .int .i64 (f k).kind, .int .i64 (f k).width, .int .i64 (f k).id, .int .i64 (f k).index, .slice (ao k) (f k).kids.length (ca k)]] u fun e w' => ∃ bo cb, e = .returned (.agg #[.string (f k).name, .bool (f k).nul, .int .i64 (g k).kind, .int .i64 (g k).width, .int .i64 (g k).id, .int .i64 (g k).index, .slice bo (g k).kids.length cb]) ∧ Gr u w' ∧ TyI S W d (g k) bo cb) := fun u gu => by
        have gWu := HG.out.tr gu
        refine (plainR17 S d d (f k) (g k) (ao k) (ca k) u ((HF.out k hlt).row.kept fun b hb => gWu.block b (HSb.out.1 b hb) id) (HF.out k hlt).le (fun b hb => Nat.lt_of_lt_of_le (HSb.out.1 b hb) gWu.size) (HP.out k hlt)).mono ?_
        rintro e w' ⟨d', bo, cb, rfl, g', hd, hr, hl⟩
        exact ⟨bo, cb, rfl, g', hl, d', hd, hr.kept fun b hb => (gWu.block b (HSb.out.1 b hb) id).symm⟩
      have HFn : Hid (∀ u, Gr wr u → CellsAt u b (o + k * 7) (f k) (ao k) (ca k)) := fun u gu => hFk.c.kept (gu.block b (Nat.lt_of_lt_of_le HSb.out.2 HI.out.gr.size) id)
      clear hFk
      go_wp2_with (first
        | (go_at_call 16; refine HC16.out.mono ?_; rintro e w1 ⟨rfl, gw⟩; obtain ⟨d0, d1, d2, d3, d4, d5, d6⟩ := HFn.out w1 gw; have HC17' := hidM (HC17.out w1 gw); have HG1 := hidM gw; clear gw c0 c1 c2 c3 c4 c5 c6)
        | (go_at_call 17; refine HC17'.out.mono ?_; rintro e w2 ⟨bo, cb, rfl, gw, hty⟩; have g2 := HG1.out.tr gw; clear gw; obtain ⟨B, hB⟩ := ex (w2.alloc (.cells #[.string ⟨#[]⟩, .bool false, .int .i64 0, .int .i64 0, .int .i64 0, .int .i64 0, .slice none 0 0] 26)); obtain ⟨z, hz⟩ := ex (w2.heap.size); obtain ⟨X, hX⟩ := ex (stA B z [(0, .string (f k).name), (1, .bool (f k).nul), (2, .int .i64 (g k).kind), (3, .int .i64 (g k).width), (4, .int .i64 (g k).id), (5, .int .i64 (g k).index), (6, .slice bo (g k).kids.length cb)]); obtain ⟨gX, cX, cB⟩ := box7 hB hz hX; obtain ⟨q0, q1, q2, q3, q4, q5, q6⟩ := cell7p cB; obtain ⟨f0, f1, f2, f3, f4, f5, f6⟩ := frz7 cB; obtain ⟨p0, p1, p2, p3, p4, p5, p6⟩ := cell7p cX; simp only [stA] at hX; have HTY := hidM hty; have HCX := hidM cX; have HGX := hidM (g2.tr gX); have HZz : Hid (wr.heap.size ≤ z) := (by rw [← hz]; exact g2.size); clear g2 gX cX cB hty d0 d1 d2 d3 d4 d5 d6)
        | (with_reducible show wpList Tryz.prog _ _ (Oper.mk (some 46) _ _ _ _ _ :: _) _ _; refine Hid.out ?_))
      unfold Hid
      have HQ : Hid (∀ q, (Value.slice vo k vc).ownBlock = some q → q < wr.heap.size) := fun q e => own_lt HO.out q e
      have gXE : Gr X (X.alloc (.cells #[.string (f k).name, .bool (f k).nul, .int .i64 (g k).kind, .int .i64 (g k).width, .int .i64 (g k).id, .int .i64 (g k).index, .slice bo (g k).kids.length cb] 26)) := gr_alloc X _
      have HGE : Hid (Gr wr (X.alloc (.cells #[.string (f k).name, .bool (f k).nul, .int .i64 (g k).kind, .int .i64 (g k).width, .int .i64 (g k).id, .int .i64 (g k).index, .slice bo (g k).kids.length cb] 26))) := HGX.out.tr gXE
      have hcz : (X.alloc (.cells #[.string (f k).name, .bool (f k).nul, .int .i64 (g k).kind, .int .i64 (g k).width, .int .i64 (g k).id, .int .i64 (g k).index, .slice bo (g k).kids.length cb] 26)).cell? ⟨z, 1, none⟩ = some (.bool (f k).nul) := gXE.cell' p1 id
      have hzE : z < (X.alloc (.cells #[.string (f k).name, .bool (f k).nul, .int .i64 (g k).kind, .int .i64 (g k).width, .int .i64 (g k).id, .int .i64 (g k).index, .slice bo (g k).kids.length cb] 26)).heap.size := Nat.lt_of_lt_of_le (lt_of_heap HCX.out) gXE.size
      refine wpList_append_anyN (P := Tryz.prog) _ rfl (.tmp 43) (.tmp 45) 22 22 rfl 26 z37 7 80 Tryz.underlying22 info37 c37 (.slice vo k vc) k xs rfl (row_kp HO.out (fun q e => HGE.out.block q (HQ.out q e) id)) (.slice (some ⟨X.heap.size, 0, none⟩) 1 1) 1 [.string (f k).name, .bool (f k).nul, .int .i64 (g k).kind, .int .i64 (g k).width, .int .i64 (g k).id, .int .i64 (g k).index, .slice bo (g k).kids.length cb] rfl (src_fld X _ rfl _ _ _ _ _ _ _ (by simp [Value.oneCell'])) (by omega) (by omega) ?_
      intro v' w3 ha1 ha2 ha3
      have cz : w3.cell? ⟨z, 1, none⟩ = some (.bool (f k).nul) := by
        rw [World.cell?_of_block (ha2.block z hzE (fun e => by have := HQ.out z e.symm; have := HZz.out; omega))]
        exact hcz
      have HN : Hid (PlL S W d x0 f g (k + 1) v' w3) := by
        have gWE := HG.out.tr HGE.out
        have hx := lt_of_heap HI.out.z
        have hxE : x0 < (X.alloc (.cells #[.string (f k).name, .bool (f k).nul, .int .i64 (g k).kind, .int .i64 (g k).width, .int .i64 (g k).id, .int .i64 (g k).index, .slice bo (g k).kids.length cb] 26)).heap.size := Nat.lt_of_lt_of_le hx HGE.out.size
        refine ⟨gWE.trans (Keeps.ofGrown ha2) (fun j hj e => ?_), (ha2.block x0 hxE (fun e => (HI.out.low x0 e.symm).2 rfl)).trans ((HGE.out.block _ hx id).trans HI.out.z), ⟨_, ⟨xs, bo, cb, HXS.out, HTY.out, rfl⟩, ha1⟩, fun q e => ?_⟩
        · have := (HI.out.low j e).1
          omega
        rcases ha3 with e2 | e2
        · exact HI.out.low q (e2 ▸ e)
        have h1 := e2 q e
        have h2 := gWE.size
        exact ⟨by omega, by omega⟩
      clear ha1 ha2 ha3 hcz hzE HGE gXE p0 p1 p2 p3 p4 p5 p6 q0 q1 q2 q3 q4 q5 q6 f0 f1 f2 f3 f4 f5 f6 hX hB hz HTY HCX HGX HZz HQ HC17 HC17' HG1 HC16 HFn HI HO HXS
      obtain ⟨b1, e1⟩ := ex (anyN f k)
      obtain ⟨b2, e2⟩ := ex (allN f k)
      rw [e1, e2]
      have E1 := hidM e1
      have E2 := hidM e2
      clear e1 e2
      cases b1 <;> cases b2
      all_goals
        (go_wp2_with fail
         go_roundw
         case rel => exact ⟨k + 1, by omega, by rw [anyN, E1.out]; rfl, by rw [allN, E2.out]; rfl, by go_num, HN⟩
         case measure => simp [intOf]; omega)
    obtain rfl : k = n := by omega
    obtain ⟨gp, cp, rfl⟩ := own_some HO.out hn1
    have hlow := HI.out.low gp rfl
    have hFk := (HF.out 0 (by omega)).gr HI.out.gr HSb.out.2 HSb.out.1
    have c0 : wr.cell? ⟨b, o, none⟩ = some (.string (f 0).name) := by have := hFk.c.c0; simpa using this
    obtain ⟨y, hy⟩ := ex (wr.heap.size)
    obtain ⟨B, hB⟩ := ex (wr.alloc (.cells #[.string ⟨#[]⟩, .bool false, .int .i64 0, .int .i64 0, .int .i64 0, .int .i64 0, .slice none 0 0] 26))
    obtain ⟨V, hV⟩ := ex (stA B y [(0, .string (f 0).name), (1, .bool (anyN f k)), (2, .int .i64 2), (3, .int .i64 0), (4, .int .i64 0), (5, .int .i64 0), (6, .slice none 0 0)])
    obtain ⟨gV, cV, cB⟩ := box7 hB hy hV
    obtain ⟨q0, q1, q2, q3, q4, q5, q6⟩ := cell7p cB
    obtain ⟨f0, f1, f2, f3, f4, f5, f6⟩ := frz7 cB
    have hoc := own_cells HO.out
    have hcell : ∀ (j : Nat) (v : Value), xs[j]? = some v → V.cell? ⟨gp, j, none⟩ = some v := fun j v h => gV.cell' (hoc.1 j v h) id
    have hpy : gp < y := by have := hoc.2.1; omega
    have HRF : Hid (Ref5 S W d k x0 y gp cp f g xs V) := ⟨HI.out.gr.tr gV, (gV.block _ (lt_of_heap HI.out.z) id).trans HI.out.z, cV, HXS.out, row_kp HO.out (fun q e => gV.block q (own_lt HO.out q e) id), Nat.le_of_eq HX.out, hlow.1, hpy, (by have := lt_of_heap HI.out.z; omega), hlow.2⟩
    have hgB := gr_al hB
    have c0B : B.cell? ⟨b, o, none⟩ = some (.string (f 0).name) := hgB.cell' c0 id
    have hcpI : (k : Int) ≤ (cp : Int) := by have := hoc.2.2; omega
    have HR1 := hidM (HR.out x0 y gp cp xs V)
    simp only [stA] at hV
    have hk0 : V.cell? ⟨gp, 2, none⟩ = some (.int .i64 (g 0).kind) := by
      refine hcell 2 _ ?_
      have hx := HXS.out
      have hk3 : k = 1 ∨ k = 2 ∨ k = 3 := by omega
      rcases hk3 with rfl | rfl | rfl
      · obtain ⟨_, _, _, e0, -, rfl⟩ := hx
        have e0' : _ = [] := e0
        subst e0'
        rfl
      · obtain ⟨_, _, _, ⟨_, _, _, e0, -, rfl⟩, -, rfl⟩ := hx
        have e0' : _ = [] := e0
        subst e0'
        rfl
      obtain ⟨_, _, _, ⟨_, _, _, ⟨_, _, _, e0, -, rfl⟩, -, rfl⟩, -, rfl⟩ := hx
      have e0' : _ = [] := e0
      subst e0'
      rfl
    by_cases h1 : k = 1
    · subst h1
      clear hFk hlow hoc hcell hgB gV cV cB HF HM HP HI HO HXS
      go_wp2_with fail
      rw [HC.out]
      exact HR1.out false _ IsA.mk HRF.out (fun _ => rfl) (fun h => absurd h (by omega))
    have hk1 : V.cell? ⟨gp, 9, none⟩ = some (.int .i64 (g 1).kind) := by
      refine hcell 9 _ ?_
      have hx := HXS.out
      have hk3 : k = 2 ∨ k = 3 := by omega
      rcases hk3 with rfl | rfl
      · obtain ⟨_, _, _, ⟨_, _, _, e0, -, rfl⟩, -, rfl⟩ := hx
        have e0' : _ = [] := e0
        subst e0'
        rfl
      obtain ⟨_, _, _, ⟨_, _, _, ⟨_, _, _, e0, -, rfl⟩, -, rfl⟩, -, rfl⟩ := hx
      have e0' : _ = [] := e0
      subst e0'
      rfl
    have h1I : (1 : Int) < (k : Int) := by omega
    have H1 := hidM h1
    clear h1 hFk hlow hoc hcell hgB gV cV cB HF HM HP HI HO HXS
    go_wp2_with fail
    rw [HC.out]
    exact HR1.out ((g 1).kind == (g 0).kind) _ IsA.mk HRF.out (fun h => absurd h H1.out) (fun _ => rfl)
end Go.Proofs.YtknnoiomdngmfaaGreatDoor.Kit
