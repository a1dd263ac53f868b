import Derived.Test.YteggcdhibcjneaaGreatDoorMM
set_option maxRecDepth 100000
set_option maxHeartbeats 4000000
namespace Go.Proofs.YteggcdhibcjneaaGreatDoor.Kit
variable {nx ny : Bool}
open Go.RowKit Go.Shelf Go.Deep
open Go.Proofs.YteggcdhibcjneaaGreatDoor.Kd (Ans AnsV cell5 cell2)
set_option linter.unusedVariables false
set_option linter.unusedSimpArgs false
attribute [local go_sem] run_store_func

theorem results_cell30t {fn : Func} {t u : Tmp} {tmps : Array Value} {g : Nat} {cs : Array Value} {w : World} (h : fn.results = #[.cell t 30, .tmp u]) (ht : tmps.getD t undef = .pointer (some ⟨g, 0, none⟩)) (hg : w.heap[g]? = some (.cells cs 30 (0, 0))) (hi : (Tryz.prog.info? 30).map (·.size) = some cs.size) :
    (results fn tmps).run Tryz.prog w = .ok (.tuple #[.agg cs, tmps.getD u undef]) w := by
  have hl := run_loadVar_row (P := Tryz.prog) w g 30 30 cs (0, 0) _ hg Tryz.underlying30 rfl hi
  unfold results
  rw [h]
  simp only [Array.mapM_eq_mapM_toList, List.mapM_cons, List.mapM_nil, ht]
  simp [asAddr, hl]
/-- behind the loop: the schema of one field is laid -/
def EndI (nx : Bool) (W : World) (r t : Nat) (u : World) : Prop := ∃ (fo : Option Addr) (g9 cap : Nat), 1 ≤ cap ∧ (u.cell? ⟨g9, 0, none⟩ = some (.string (nmB nx)) ∧ u.cell? ⟨g9, 1, none⟩ = some (.bool false) ∧ u.cell? ⟨g9, 2, none⟩ = some (.int .i64 3) ∧ u.cell? ⟨g9, 3, none⟩ = some (.int .i64 0) ∧ u.cell? ⟨g9, 4, none⟩ = some (.int .i64 0) ∧ u.cell? ⟨g9, 5, none⟩ = some (.int .i64 0) ∧ u.cell? ⟨g9, 6, none⟩ = some (.slice fo 0 0)) ∧ u.heap[t]? = some (.cells #[.slice (some ⟨g9, 0, none⟩) 1 cap, .slice none 0 0] 30) ∧ u.heap[r]? = some (.cells #[.slice none 0 0, .slice none 0 0] 30) ∧ Gr W u
theorem outcome12 (ga ac gb bc go gc : Nat) (ao : Option Addr) (ca : Nat) (W : World) (h1 : S1f nx W ga ac ao ca) (ho0 : W.cell? ⟨go, 0, none⟩ = some (.int .i64 0)) (ho1 : W.cell? ⟨go, 1, none⟩ = some (.int .i64 0)) : Calls Tryz.prog 12 #[.int .i64 2, .agg #[.slice (some ⟨ga, 0, none⟩) 1 ac, .slice none 0 0], .agg #[.slice (some ⟨gb, 0, none⟩) 1 bc, .slice none 0 0], .slice (some ⟨go, 0, none⟩) 1 gc] W fun e w' => ∃ g c, e = .returned (.tuple #[.agg #[.slice (some ⟨g, 0, none⟩) 1 c, .slice none 0 0], .int .i64 0]) ∧ Gr W w' := by
  obtain ⟨A0, hA0⟩ : ∃ A, W.alloc (.cells #[.slice (some ⟨ga, 0, none⟩) 1 ac, .slice none 0 0] 30) = A := ⟨_, rfl⟩
  have g0 : Gr W A0 := by rw [← hA0]; exact gr_alloc W _
  have b0 : A0.heap[W.heap.size]? = some (.cells #[.slice (some ⟨ga, 0, none⟩) 1 ac, .slice none 0 0] 30) := by rw [← hA0]; exact heap_alloc_new W _
  obtain ⟨A1, hA1⟩ : ∃ A, A0.alloc (.cells #[.slice (some ⟨gb, 0, none⟩) 1 bc, .slice none 0 0] 30) = A := ⟨_, rfl⟩
  have g1 : Gr A0 A1 := by rw [← hA1]; exact gr_alloc A0 _
  have b1 : A1.heap[A0.heap.size]? = some (.cells #[.slice (some ⟨gb, 0, none⟩) 1 bc, .slice none 0 0] 30) := by rw [← hA1]; exact heap_alloc_new A0 _
  obtain ⟨A2, hA2⟩ : ∃ A, A1.alloc (.cells #[.slice none 0 0, .slice none 0 0] 30) = A := ⟨_, rfl⟩
  have g2 : Gr A1 A2 := by rw [← hA2]; exact gr_alloc A1 _
  have b2 : A2.heap[A1.heap.size]? = some (.cells #[.slice none 0 0, .slice none 0 0] 30) := by rw [← hA2]; exact heap_alloc_new A1 _
  obtain ⟨A3, hA3⟩ : ∃ A, A2.alloc (.cells #[.slice none 0 0, .slice none 0 0] 30) = A := ⟨_, rfl⟩
  have g3 : Gr A2 A3 := by rw [← hA3]; exact gr_alloc A2 _
  have b3 : A3.heap[A2.heap.size]? = some (.cells #[.slice none 0 0, .slice none 0 0] 30) := by rw [← hA3]; exact heap_alloc_new A2 _
  obtain ⟨A4, hA4⟩ : ∃ A, A3.alloc (.cells #[.int .i64 0, .int .i64 0] 67) = A := ⟨_, rfl⟩
  have g4 : Gr A3 A4 := by rw [← hA4]; exact gr_alloc A3 _
  have b4 : A4.heap[A3.heap.size]? = some (.cells #[.int .i64 0, .int .i64 0] 67) := by rw [← hA4]; exact heap_alloc_new A3 _
  have g34 := g3.trans g4 (fun _ _ h => h)
  have g24 := g2.trans g34 (fun _ _ h => h)
  have g14 := g1.trans g24 (fun _ _ h => h)
  have gW4 : Gr W A4 := g0.trans g14 (fun _ _ h => h)
  have gW3 : Gr W A3 := ((g0.trans g1 (fun _ _ h => h)).trans g2 (fun _ _ h => h)).trans g3 (fun _ _ h => h)
  have s0 : A0.heap.size = W.heap.size + 1 := by rw [← hA0]; simp
  have s1 : A1.heap.size = A0.heap.size + 1 := by rw [← hA1]; simp
  have s2 : A2.heap.size = A1.heap.size + 1 := by rw [← hA2]; simp
  have s3 : A3.heap.size = A2.heap.size + 1 := by rw [← hA3]; simp
  obtain ⟨e0, e1⟩ := cell2 ((g14.block _ (lt_of_heap b0) id).trans b0)
  obtain ⟨f0, f1⟩ := cell2 ((g24.block _ (lt_of_heap b1) id).trans b1)
  obtain ⟨o0, o1⟩ := cell2 b4
  have ob := frzA b4
  have i0 := set_id (j := 0) (v := .int .i64 0) b4 rfl
  have i1 := set_id (j := 1) (v := .int .i64 0) b4 rfl
  have t2 := (g34.block _ (lt_of_heap b2) id).trans b2
  have t3 := (g4.block _ (lt_of_heap b3) id).trans b3
  have HSS : Hid (∀ u, Gr A4 u → u.cell? ⟨W.heap.size, 0, none⟩ = some (.slice (some ⟨ga, 0, none⟩) 1 ac) ∧ u.cell? ⟨W.heap.size, 1, none⟩ = some (.slice none 0 0) ∧ u.cell? ⟨A0.heap.size, 0, none⟩ = some (.slice (some ⟨gb, 0, none⟩) 1 bc) ∧ u.cell? ⟨A0.heap.size, 1, none⟩ = some (.slice none 0 0) ∧ u.cell? ⟨A3.heap.size, 0, none⟩ = some (.int .i64 0) ∧ u.cell? ⟨A3.heap.size, 1, none⟩ = some (.int .i64 0)) := fun u g => ⟨g.cell' e0 id, g.cell' e1 id, g.cell' f0 id, g.cell' f1 id, g.cell' o0 id, g.cell' o1 id⟩
  have HTB : Hid (∀ u, Gr A4 u → u.heap[A2.heap.size]? = some (.cells #[.slice none 0 0, .slice none 0 0] 30)) := fun u g => (g.block _ (lt_of_heap t3) id).trans t3
  have HT : Hid (∀ u, Gr A4 u → u.cell? ⟨A2.heap.size, 0, none⟩ = some (.slice none 0 0)) := fun u g => (cell2 (HTB.out u g)).1
  have HGD : Hid (Gr A4 A4.drew) := gr_drew
  have HSD := hidM (HSS.out A4.drew HGD.out)
  have c10 := HT.out A4.drew HGD.out
  have HC := hidM (fieldOf21 ga ac gb bc ao ca A4.drew (h1.gr (gW4.trans HGD.out (fun _ _ h => h))))
  have HEnd : Hid (∀ (w7 : World) (g9 cap : Nat) (cur : Array Value) (fo : Option Addr), Gr A4 w7 → 1 ≤ cap → w7.heap[g9]? = some (.cells cur 47 (0, 0)) → (w7.cell? ⟨g9, 0, none⟩ = some (.string (nmB nx)) ∧ w7.cell? ⟨g9, 1, none⟩ = some (.bool false) ∧ w7.cell? ⟨g9, 2, none⟩ = some (.int .i64 3) ∧ w7.cell? ⟨g9, 3, none⟩ = some (.int .i64 0) ∧ w7.cell? ⟨g9, 4, none⟩ = some (.int .i64 0) ∧ w7.cell? ⟨g9, 5, none⟩ = some (.int .i64 0) ∧ w7.cell? ⟨g9, 6, none⟩ = some (.slice fo 0 0)) → ((w7.setCell ⟨A2.heap.size, 0, none⟩ (.slice (some ⟨g9, 0, none⟩) 1 cap)).cell? ⟨W.heap.size, 0, none⟩ = some (.slice (some ⟨ga, 0, none⟩) 1 ac) ∧ (w7.setCell ⟨A2.heap.size, 0, none⟩ (.slice (some ⟨g9, 0, none⟩) 1 cap)).cell? ⟨W.heap.size, 1, none⟩ = some (.slice none 0 0) ∧ (w7.setCell ⟨A2.heap.size, 0, none⟩ (.slice (some ⟨g9, 0, none⟩) 1 cap)).cell? ⟨A0.heap.size, 0, none⟩ = some (.slice (some ⟨gb, 0, none⟩) 1 bc) ∧ (w7.setCell ⟨A2.heap.size, 0, none⟩ (.slice (some ⟨g9, 0, none⟩) 1 cap)).cell? ⟨A0.heap.size, 1, none⟩ = some (.slice none 0 0) ∧ (w7.setCell ⟨A2.heap.size, 0, none⟩ (.slice (some ⟨g9, 0, none⟩) 1 cap)).cell? ⟨A3.heap.size, 0, none⟩ = some (.int .i64 0) ∧ (w7.setCell ⟨A2.heap.size, 0, none⟩ (.slice (some ⟨g9, 0, none⟩) 1 cap)).cell? ⟨A3.heap.size, 1, none⟩ = some (.int .i64 0)) ∧ EndI nx W A1.heap.size A2.heap.size (w7.setCell ⟨A2.heap.size, 0, none⟩ (.slice (some ⟨g9, 0, none⟩) 1 cap))) := fun w7 g9 cap cur fo g7 hc hg hcf => by
    have hb := HTB.out w7 g7
    have hne : g9 ≠ A2.heap.size := blk_ne hg hb (by decide)
    obtain ⟨c0, c1, c2, c3, c4, c5, c6⟩ := hcf
    have k1 : Keeps w7 (w7.setCell ⟨A2.heap.size, 0, none⟩ (.slice (some ⟨g9, 0, none⟩) 1 cap)) (fun z => z = A2.heap.size) := Keeps.setCell (S := fun z => z = A2.heap.size) (p := ⟨A2.heap.size, 0, none⟩) (Keeps.refl w7 _) (fun _ => rfl) _
    have kc : ∀ (p : Addr) (v : Value), p.block ≠ A2.heap.size → w7.cell? p = some v → (w7.setCell ⟨A2.heap.size, 0, none⟩ (.slice (some ⟨g9, 0, none⟩) 1 cap)).cell? p = some v := fun p v hp h => k1.cell' h (fun e => hp e)
    obtain ⟨q0, q1, q2, q3, q4, q5⟩ := HSS.out w7 g7
    have h2 := (g7.block _ (lt_of_heap t2) id).trans t2
    refine ⟨⟨kc _ _ (show W.heap.size ≠ A2.heap.size by omega) q0, kc _ _ (show W.heap.size ≠ A2.heap.size by omega) q1, kc _ _ (show A0.heap.size ≠ A2.heap.size by omega) q2, kc _ _ (show A0.heap.size ≠ A2.heap.size by omega) q3, kc _ _ (show A3.heap.size ≠ A2.heap.size by omega) q4, kc _ _ (show A3.heap.size ≠ A2.heap.size by omega) q5⟩, fo, g9, cap, hc, ⟨kc _ _ hne c0, kc _ _ hne c1, kc _ _ hne c2, kc _ _ hne c3, kc _ _ hne c4, kc _ _ hne c5, kc _ _ hne c6⟩, ?_, ?_, ?_⟩
    · rw [heap_setCell_same w7 A2.heap.size 0 _ _ _ hb]; rfl
    · exact (k1.block _ (lt_of_heap h2) (fun e => by have e' : A1.heap.size = A2.heap.size := e; omega)).trans h2
    · exact (gW4.trans g7 (fun _ _ h => h)).trans k1 (fun j hj e => by have e' : j = A2.heap.size := e; omega)
  have HTn := h1.T
  have HTT : Hid (∀ u, Gr W u → Tab u) := fun u g => HTn.gr g
  have H3 : Hid (Gr W A3) := gW3
  have HLT : Hid (W.heap.size ≤ A1.heap.size) := (by omega : W.heap.size ≤ A1.heap.size)
  clear HTn
  have hfl : ∀ (vo : Option Addr) (vn vc : Nat) (tt : Int) (w : World), (Instr.field 61 (.agg #[.int .i64 0, .slice vo vn vc, .int .i64 tt]) 0).run Tryz.prog w = .ok (.int .i64 0) w := fun vo vn vc tt w => by kernel_rfl
  have hgo0 := gW3.cell' ho0 id
  have hgo1 := gW3.cell' ho1 id
  clear g0 b0 g1 b1 g2 b2 g3 b3 g4 b4 g34 g24 g14 gW4 gW3 h1 ho0 ho1 t2 t3 e0 e1 f0 f1 s0 s1 s2 s3
  go_enter Tryz.func12, Tryz.ntmps12
  go_wp2_with fail
  go_loopw [16] (fun i wr => ∃ k : Nat, k ≤ 1 ∧ i = .int .i64 k ∧ Hid ((k = 0 ∧ wr = A3) ∨ (k = 1 ∧ EndI nx W A1.heap.size A2.heap.size wr))) (fun i _ => 1 - (intOf i).toNat)
  case atStart => exact ⟨0, by omega, rfl, .inl ⟨rfl, rfl⟩⟩
  case round =>
    obtain ⟨k, hk, rfl, HR⟩ := hrel
    rcases HR.out with ⟨rfl, rfl⟩ | ⟨rfl, hE⟩
    · clear HR
      go_wp2_with fail
      clear o0 o1 ob i0 i1 hgo0 hgo1
      refine wp_region_held_drew (S := fun w' => w'.cell? ⟨W.heap.size, 0, none⟩ = some (.slice (some ⟨ga, 0, none⟩) 1 ac) ∧ w'.cell? ⟨W.heap.size, 1, none⟩ = some (.slice none 0 0) ∧ w'.cell? ⟨A0.heap.size, 0, none⟩ = some (.slice (some ⟨gb, 0, none⟩) 1 bc) ∧ w'.cell? ⟨A0.heap.size, 1, none⟩ = some (.slice none 0 0) ∧ w'.cell? ⟨wr.heap.size, 0, none⟩ = some (.int .i64 0) ∧ w'.cell? ⟨wr.heap.size, 1, none⟩ = some (.int .i64 0)) (by kernel_rfl) (HSD.out) (fun hHeld => ?_)
      refine' wpAnyH_take (i := 0) (oi := { dst := some 20, op := Op.fieldAddr 30 (Operand.tmp 10) 0, type := 0, pos := "types.go:59", after := #[], guard := none }) rfl (by kernel_rfl) (by kernel_rfl) (by kernel_rfl) (fun _ _ _ h => h) (Or.inl ⟨by rfl, _⟩) (by assumption) _
      rotate_left 1
      · (intro w hSw; obtain ⟨s0, s1, s2, s3, s4, s5⟩ := hSw; go_simp; (try with_reducible rfl))
      (try simp only [Act.put]); (try simp only [List.setIfInBounds_toArray]); (try simp only [List.set_cons_succ]); (try simp only [List.set_cons_zero])
      refine' wpAnyH_take (i := 2) (oi := { dst := some 22, op := Op.move (Operand.tmp 0), type := 3, pos := "types.go:59", after := #[], guard := none }) rfl (by kernel_rfl) (by kernel_rfl) (by kernel_rfl) (fun _ _ _ h => h) (Or.inl ⟨by rfl, _⟩) (by assumption) _
      rotate_left 1
      · (intro w hSw; obtain ⟨s0, s1, s2, s3, s4, s5⟩ := hSw; go_simp; (try with_reducible rfl))
      (try simp only [Act.put]); (try simp only [List.setIfInBounds_toArray]); (try simp only [List.set_cons_succ]); (try simp only [List.set_cons_zero])
      refine' wpAnyH_take (i := 3) (oi := { dst := some 23, op := Op.load 30 (Operand.tmp 5), type := 30, pos := "types.go:59", after := #[], guard := none }) rfl (by kernel_rfl) (by kernel_rfl) (by kernel_rfl) (fun _ _ _ h => h) (Or.inl ⟨by rfl, _⟩) (by assumption) _
      rotate_left 1
      · (intro w hSw; obtain ⟨s0, s1, s2, s3, s4, s5⟩ := hSw; go_simp; (try with_reducible rfl))
      (try simp only [Act.put]); (try simp only [List.setIfInBounds_toArray]); (try simp only [List.set_cons_succ]); (try simp only [List.set_cons_zero])
      refine' wpAnyH_take (i := 4) (oi := { dst := some 24, op := Op.load 30 (Operand.tmp 6), type := 30, pos := "types.go:59", after := #[], guard := none }) rfl (by kernel_rfl) (by kernel_rfl) (by kernel_rfl) (fun _ _ _ h => h) (Or.inl ⟨by rfl, _⟩) (by assumption) _
      rotate_left 1
      · (intro w hSw; obtain ⟨s0, s1, s2, s3, s4, s5⟩ := hSw; go_simp; (try with_reducible rfl))
      (try simp only [Act.put]); (try simp only [List.setIfInBounds_toArray]); (try simp only [List.set_cons_succ]); (try simp only [List.set_cons_zero])
      refine' wpAnyH_take (i := 5) (oi := { dst := some 25, op := Op.load 67 (Operand.tmp 12), type := 67, pos := "types.go:59", after := #[], guard := none }) rfl (by kernel_rfl) (by kernel_rfl) (by kernel_rfl) (fun _ _ _ h => h) (Or.inl ⟨by rfl, _⟩) (by assumption) _
      rotate_left 1
      · (intro w hSw; obtain ⟨s0, s1, s2, s3, s4, s5⟩ := hSw; go_simp; (try with_reducible rfl))
      (try simp only [Act.put]); (try simp only [List.setIfInBounds_toArray]); (try simp only [List.set_cons_succ]); (try simp only [List.set_cons_zero])
      refine wpAnyH_ready (rs := [1, 6]) (by kernel_rfl) (by simp) ?_
      refine (AllReadyH.cons (o := { dst := some 21, op := Op.load 27 (Operand.tmp 20), type := 27, pos := "types.go:59", after := #[{ on := 0, ground := Ground.data }], guard := none }) rfl (fun Kc hK => ?_) (AllReadyH.cons (o := { dst := some 26, op := Op.call { callee := Callee.value (Operand.func 21), args := #[Operand.tmp 22, Operand.tmp 23, Operand.tmp 24, Operand.tmp 25], argTypes := #[3, 30, 30, 67] }, type := 47, pos := "types.go:59", after := #[{ on := 2, ground := Ground.data }, { on := 3, ground := Ground.data }, { on := 4, ground := Ground.data }, { on := 5, ground := Ground.data }], guard := none }) rfl (fun Kc hK => ?_) AllReadyH.nil))
      · go_simp
        refine hK.out _ _ HSD.out (fun hHeld => ?_)
        clear hK Kc
        (try simp only [Act.put]); (try simp only [List.setIfInBounds_toArray]); (try simp only [List.set_cons_succ]); (try simp only [List.set_cons_zero])
        refine wpAnyH_ready (rs := [6]) (by kernel_rfl) (by simp) ?_
        refine (AllReadyH.cons (o := { dst := some 26, op := Op.call { callee := Callee.value (Operand.func 21), args := #[Operand.tmp 22, Operand.tmp 23, Operand.tmp 24, Operand.tmp 25], argTypes := #[3, 30, 30, 67] }, type := 47, pos := "types.go:59", after := #[{ on := 2, ground := Ground.data }, { on := 3, ground := Ground.data }, { on := 4, ground := Ground.data }, { on := 5, ground := Ground.data }], guard := none }) rfl (fun Kc hK => ?_) AllReadyH.nil)
        go_simp
        go_at_call 21
        refine Calls.mono HC.out ?_
        rintro e' w1 ⟨fo, rfl, g1⟩
        have HG1 := hidM (HGD.out.trans g1 (fun _ _ h => h))
        have HS1 := hidM (HSS.out w1 HG1.out)
        have c10b := HT.out w1 HG1.out
        obtain ⟨A6, hA6⟩ : ∃ A, w1.alloc (.cells #[.string (nmB nx), .bool false, .int .i64 3, .int .i64 0, .int .i64 0, .int .i64 0, .slice fo 0 0] 47) = A := ⟨_, rfl⟩
        have H6 : Hid (Gr A4 A6 ∧ Src Tryz.prog 7 27 (.slice (some ⟨w1.heap.size, 0, none⟩) 1 1) 1 [.string (nmB nx), .bool false, .int .i64 3, .int .i64 0, .int .i64 0, .int .i64 0, .slice fo 0 0] A6) := by rw [← hA6]; exact ⟨HG1.out.trans (gr_alloc _ _) (fun _ _ h => h), src47 (heap_alloc_new w1 _)⟩
        have HS2 := hidM (HSS.out A6 H6.out.1)
        have c10c := HT.out A6 H6.out.1
        clear g1
        go_wp2_with fail
        refine hK.out _ _ HS1.out (fun hHeld => ?_)
        clear hK Kc
        (try simp only [Act.put]); (try simp only [List.setIfInBounds_toArray]); (try simp only [List.set_cons_succ]); (try simp only [List.set_cons_zero])
        refine wpAnyH_ready (rs := [7]) (by kernel_rfl) (by simp) ?_
        refine (AllReadyH.cons (o := { dst := some 27, op := Op.buildSlice 27 1 #[(0, Operand.tmp 26)], type := 27, pos := "types.go:59", after := #[{ on := 6, ground := Ground.data }], guard := none }) rfl (fun Kc hK => ?_) AllReadyH.nil)
        go_simp
        refine hK.out _ _ HS2.out (fun hHeld => ?_)
        clear hK Kc
        (try simp only [Act.put]); (try simp only [List.setIfInBounds_toArray]); (try simp only [List.set_cons_succ]); (try simp only [List.set_cons_zero])
        refine wpAnyH_ready (rs := [8]) (by kernel_rfl) (by simp) ?_
        refine (AllReadyH.cons (o := { dst := some 28, op := Op.call { callee := Callee.builtin Builtin.append, args := #[Operand.tmp 21, Operand.tmp 27], argTypes := #[27, 27] }, type := 27, pos := "types.go:59", after := #[{ on := 1, ground := Ground.data }, { on := 7, ground := Ground.data }, { on := 6, ground := Ground.chain }], guard := none }) rfl (fun Kc hK => ?_) AllReadyH.nil)
        refine step_append_anyN (P := Tryz.prog) _ rfl (.tmp 21) (.tmp 27) 27 27 rfl 47 (.agg #[.string ⟨#[]⟩, .bool false, .int .i64 0, .int .i64 0, .int .i64 0, .int .i64 0, .slice none 0 0]) 7 80 Tryz.underlying27 info47f rfl (.slice none 0 0) 0 [] rfl (World.ownsRow_nil _ 0 47 7) _ 1 [.string (nmB nx), .bool false, .int .i64 3, .int .i64 0, .int .i64 0, .int .i64 0, .slice fo 0 0] rfl H6.out.2 (by omega) (by omega) ?_
        intro v' w7 ha1 ha2 ha3
        obtain ⟨g9, cap, cur, rfl, h1c, hgc, -, -, hcc⟩ := own_get ha1 (by omega)
        have g7 : Gr A4 w7 := H6.out.1.trans (Keeps.ofGrown ha2) (fun j hj e => by simp [Value.ownBlock] at e)
        have HS3 := hidM (HSS.out w7 g7)
        have hb7 := HTB.out w7 g7
        obtain ⟨c10d, c11d⟩ := cell2 hb7
        have zz := frzA hb7
        obtain ⟨U, hU⟩ : ∃ U, w7.setCell ⟨A2.heap.size, 0, none⟩ (.slice (some ⟨g9, 0, none⟩) 1 cap) = U := ⟨_, rfl⟩
        obtain ⟨hS4, hE⟩ := HEnd.out w7 g9 cap cur fo g7 h1c hgc ⟨hcc 0 _ rfl, hcc 1 _ rfl, hcc 2 _ rfl, hcc 3 _ rfl, hcc 4 _ rfl, hcc 5 _ rfl, hcc 6 _ rfl⟩
        rw [hU] at hS4 hE
        have HS4 := hidM hS4
        have HE := hidM hE
        clear ha1 ha2 ha3 hcc hgc g7 hb7 hS4 hE
        refine hK.out _ _ HS3.out (fun hHeld => ?_)
        clear hK Kc
        (try simp only [Act.put]); (try simp only [List.setIfInBounds_toArray]); (try simp only [List.set_cons_succ]); (try simp only [List.set_cons_zero])
        refine' wpAnyH_take (i := 9) (oi := { dst := some 29, op := Op.fieldAddr 30 (Operand.tmp 10) 0, type := 0, pos := "types.go:59", after := #[{ on := 0, ground := Ground.phase }, { on := 1, ground := Ground.phase }, { on := 2, ground := Ground.phase }, { on := 3, ground := Ground.phase }, { on := 4, ground := Ground.phase }, { on := 5, ground := Ground.phase }, { on := 6, ground := Ground.phase }, { on := 7, ground := Ground.phase }, { on := 8, ground := Ground.phase }], guard := none }) rfl (by kernel_rfl) (by kernel_rfl) (by kernel_rfl) (fun _ _ _ h => h) (Or.inl ⟨by rfl, _⟩) (by assumption) _
        rotate_left 1
        · (intro w hSw; obtain ⟨s0, s1, s2, s3, s4, s5⟩ := hSw; go_simp; (try with_reducible rfl))
        (try simp only [Act.put]); (try simp only [List.setIfInBounds_toArray]); (try simp only [List.set_cons_succ]); (try simp only [List.set_cons_zero])
        refine wpAnyH_ready (rs := [10]) (by kernel_rfl) (by simp) ?_
        refine (AllReadyH.cons (o := { dst := none, op := Op.store 27 (Operand.tmp 29) (Operand.tmp 28), type := 0, pos := "types.go:59", after := #[{ on := 9, ground := Ground.data }, { on := 8, ground := Ground.data }, { on := 8, ground := Ground.chain }, { on := 0, ground := Ground.phase }, { on := 1, ground := Ground.phase }, { on := 2, ground := Ground.phase }, { on := 3, ground := Ground.phase }, { on := 4, ground := Ground.phase }, { on := 5, ground := Ground.phase }, { on := 6, ground := Ground.phase }, { on := 7, ground := Ground.phase }, { on := 8, ground := Ground.phase }], guard := none }) rfl (fun Kc hK => ?_) AllReadyH.nil)
        go_simp
        refine hK.out _ _ HS4.out (fun hHeld => ?_)
        clear hK Kc
        (try simp only [Act.put]); (try simp only [List.setIfInBounds_toArray]); (try simp only [List.set_cons_succ]); (try simp only [List.set_cons_zero])
        refine wpAnyH_done (by kernel_rfl) ?_ _
        go_wp2_with fail
        go_roundw
        case rel => exact ⟨1, by omega, by go_num, .inr ⟨rfl, HE.out⟩⟩
        case measure => simp [intOf]
      · go_simp
        go_at_call 21
        refine Calls.mono HC.out ?_
        rintro e' w1 ⟨fo, rfl, g1⟩
        have HG1 := hidM (HGD.out.trans g1 (fun _ _ h => h))
        have HS1 := hidM (HSS.out w1 HG1.out)
        have c10b := HT.out w1 HG1.out
        obtain ⟨A6, hA6⟩ : ∃ A, w1.alloc (.cells #[.string (nmB nx), .bool false, .int .i64 3, .int .i64 0, .int .i64 0, .int .i64 0, .slice fo 0 0] 47) = A := ⟨_, rfl⟩
        have H6 : Hid (Gr A4 A6 ∧ Src Tryz.prog 7 27 (.slice (some ⟨w1.heap.size, 0, none⟩) 1 1) 1 [.string (nmB nx), .bool false, .int .i64 3, .int .i64 0, .int .i64 0, .int .i64 0, .slice fo 0 0] A6) := by rw [← hA6]; exact ⟨HG1.out.trans (gr_alloc _ _) (fun _ _ h => h), src47 (heap_alloc_new w1 _)⟩
        have HS2 := hidM (HSS.out A6 H6.out.1)
        have c10c := HT.out A6 H6.out.1
        clear g1
        go_wp2_with fail
        refine hK.out _ _ HS1.out (fun hHeld => ?_)
        clear hK Kc
        (try simp only [Act.put]); (try simp only [List.setIfInBounds_toArray]); (try simp only [List.set_cons_succ]); (try simp only [List.set_cons_zero])
        refine wpAnyH_ready (rs := [1, 7]) (by kernel_rfl) (by simp) ?_
        refine (AllReadyH.cons (o := { dst := some 21, op := Op.load 27 (Operand.tmp 20), type := 27, pos := "types.go:59", after := #[{ on := 0, ground := Ground.data }], guard := none }) rfl (fun Kc hK => ?_) (AllReadyH.cons (o := { dst := some 27, op := Op.buildSlice 27 1 #[(0, Operand.tmp 26)], type := 27, pos := "types.go:59", after := #[{ on := 6, ground := Ground.data }], guard := none }) rfl (fun Kc hK => ?_) AllReadyH.nil))
        · go_simp
          refine hK.out _ _ HS1.out (fun hHeld => ?_)
          clear hK Kc
          (try simp only [Act.put]); (try simp only [List.setIfInBounds_toArray]); (try simp only [List.set_cons_succ]); (try simp only [List.set_cons_zero])
          refine wpAnyH_ready (rs := [7]) (by kernel_rfl) (by simp) ?_
          refine (AllReadyH.cons (o := { dst := some 27, op := Op.buildSlice 27 1 #[(0, Operand.tmp 26)], type := 27, pos := "types.go:59", after := #[{ on := 6, ground := Ground.data }], guard := none }) rfl (fun Kc hK => ?_) AllReadyH.nil)
          go_simp
          refine hK.out _ _ HS2.out (fun hHeld => ?_)
          clear hK Kc
          (try simp only [Act.put]); (try simp only [List.setIfInBounds_toArray]); (try simp only [List.set_cons_succ]); (try simp only [List.set_cons_zero])
          refine wpAnyH_ready (rs := [8]) (by kernel_rfl) (by simp) ?_
          refine (AllReadyH.cons (o := { dst := some 28, op := Op.call { callee := Callee.builtin Builtin.append, args := #[Operand.tmp 21, Operand.tmp 27], argTypes := #[27, 27] }, type := 27, pos := "types.go:59", after := #[{ on := 1, ground := Ground.data }, { on := 7, ground := Ground.data }, { on := 6, ground := Ground.chain }], guard := none }) rfl (fun Kc hK => ?_) AllReadyH.nil)
          refine step_append_anyN (P := Tryz.prog) _ rfl (.tmp 21) (.tmp 27) 27 27 rfl 47 (.agg #[.string ⟨#[]⟩, .bool false, .int .i64 0, .int .i64 0, .int .i64 0, .int .i64 0, .slice none 0 0]) 7 80 Tryz.underlying27 info47f rfl (.slice none 0 0) 0 [] rfl (World.ownsRow_nil _ 0 47 7) _ 1 [.string (nmB nx), .bool false, .int .i64 3, .int .i64 0, .int .i64 0, .int .i64 0, .slice fo 0 0] rfl H6.out.2 (by omega) (by omega) ?_
          intro v' w7 ha1 ha2 ha3
          obtain ⟨g9, cap, cur, rfl, h1c, hgc, -, -, hcc⟩ := own_get ha1 (by omega)
          have g7 : Gr A4 w7 := H6.out.1.trans (Keeps.ofGrown ha2) (fun j hj e => by simp [Value.ownBlock] at e)
          have HS3 := hidM (HSS.out w7 g7)
          have hb7 := HTB.out w7 g7
          obtain ⟨c10d, c11d⟩ := cell2 hb7
          have zz := frzA hb7
          obtain ⟨U, hU⟩ : ∃ U, w7.setCell ⟨A2.heap.size, 0, none⟩ (.slice (some ⟨g9, 0, none⟩) 1 cap) = U := ⟨_, rfl⟩
          obtain ⟨hS4, hE⟩ := HEnd.out w7 g9 cap cur fo g7 h1c hgc ⟨hcc 0 _ rfl, hcc 1 _ rfl, hcc 2 _ rfl, hcc 3 _ rfl, hcc 4 _ rfl, hcc 5 _ rfl, hcc 6 _ rfl⟩
          rw [hU] at hS4 hE
          have HS4 := hidM hS4
          have HE := hidM hE
          clear ha1 ha2 ha3 hcc hgc g7 hb7 hS4 hE
          refine hK.out _ _ HS3.out (fun hHeld => ?_)
          clear hK Kc
          (try simp only [Act.put]); (try simp only [List.setIfInBounds_toArray]); (try simp only [List.set_cons_succ]); (try simp only [List.set_cons_zero])
          refine' wpAnyH_take (i := 9) (oi := { dst := some 29, op := Op.fieldAddr 30 (Operand.tmp 10) 0, type := 0, pos := "types.go:59", after := #[{ on := 0, ground := Ground.phase }, { on := 1, ground := Ground.phase }, { on := 2, ground := Ground.phase }, { on := 3, ground := Ground.phase }, { on := 4, ground := Ground.phase }, { on := 5, ground := Ground.phase }, { on := 6, ground := Ground.phase }, { on := 7, ground := Ground.phase }, { on := 8, ground := Ground.phase }], guard := none }) rfl (by kernel_rfl) (by kernel_rfl) (by kernel_rfl) (fun _ _ _ h => h) (Or.inl ⟨by rfl, _⟩) (by assumption) _
          rotate_left 1
          · (intro w hSw; obtain ⟨s0, s1, s2, s3, s4, s5⟩ := hSw; go_simp; (try with_reducible rfl))
          (try simp only [Act.put]); (try simp only [List.setIfInBounds_toArray]); (try simp only [List.set_cons_succ]); (try simp only [List.set_cons_zero])
          refine wpAnyH_ready (rs := [10]) (by kernel_rfl) (by simp) ?_
          refine (AllReadyH.cons (o := { dst := none, op := Op.store 27 (Operand.tmp 29) (Operand.tmp 28), type := 0, pos := "types.go:59", after := #[{ on := 9, ground := Ground.data }, { on := 8, ground := Ground.data }, { on := 8, ground := Ground.chain }, { on := 0, ground := Ground.phase }, { on := 1, ground := Ground.phase }, { on := 2, ground := Ground.phase }, { on := 3, ground := Ground.phase }, { on := 4, ground := Ground.phase }, { on := 5, ground := Ground.phase }, { on := 6, ground := Ground.phase }, { on := 7, ground := Ground.phase }, { on := 8, ground := Ground.phase }], guard := none }) rfl (fun Kc hK => ?_) AllReadyH.nil)
          go_simp
          refine hK.out _ _ HS4.out (fun hHeld => ?_)
          clear hK Kc
          (try simp only [Act.put]); (try simp only [List.setIfInBounds_toArray]); (try simp only [List.set_cons_succ]); (try simp only [List.set_cons_zero])
          refine wpAnyH_done (by kernel_rfl) ?_ _
          go_wp2_with fail
          go_roundw
          case rel => exact ⟨1, by omega, by go_num, .inr ⟨rfl, HE.out⟩⟩
          case measure => simp [intOf]
        · go_simp
          refine hK.out _ _ HS2.out (fun hHeld => ?_)
          clear hK Kc
          (try simp only [Act.put]); (try simp only [List.setIfInBounds_toArray]); (try simp only [List.set_cons_succ]); (try simp only [List.set_cons_zero])
          refine wpAnyH_ready (rs := [1]) (by kernel_rfl) (by simp) ?_
          refine (AllReadyH.cons (o := { dst := some 21, op := Op.load 27 (Operand.tmp 20), type := 27, pos := "types.go:59", after := #[{ on := 0, ground := Ground.data }], guard := none }) rfl (fun Kc hK => ?_) AllReadyH.nil)
          go_simp
          refine hK.out _ _ HS2.out (fun hHeld => ?_)
          clear hK Kc
          (try simp only [Act.put]); (try simp only [List.setIfInBounds_toArray]); (try simp only [List.set_cons_succ]); (try simp only [List.set_cons_zero])
          refine wpAnyH_ready (rs := [8]) (by kernel_rfl) (by simp) ?_
          refine (AllReadyH.cons (o := { dst := some 28, op := Op.call { callee := Callee.builtin Builtin.append, args := #[Operand.tmp 21, Operand.tmp 27], argTypes := #[27, 27] }, type := 27, pos := "types.go:59", after := #[{ on := 1, ground := Ground.data }, { on := 7, ground := Ground.data }, { on := 6, ground := Ground.chain }], guard := none }) rfl (fun Kc hK => ?_) AllReadyH.nil)
          refine step_append_anyN (P := Tryz.prog) _ rfl (.tmp 21) (.tmp 27) 27 27 rfl 47 (.agg #[.string ⟨#[]⟩, .bool false, .int .i64 0, .int .i64 0, .int .i64 0, .int .i64 0, .slice none 0 0]) 7 80 Tryz.underlying27 info47f rfl (.slice none 0 0) 0 [] rfl (World.ownsRow_nil _ 0 47 7) _ 1 [.string (nmB nx), .bool false, .int .i64 3, .int .i64 0, .int .i64 0, .int .i64 0, .slice fo 0 0] rfl H6.out.2 (by omega) (by omega) ?_
          intro v' w7 ha1 ha2 ha3
          obtain ⟨g9, cap, cur, rfl, h1c, hgc, -, -, hcc⟩ := own_get ha1 (by omega)
          have g7 : Gr A4 w7 := H6.out.1.trans (Keeps.ofGrown ha2) (fun j hj e => by simp [Value.ownBlock] at e)
          have HS3 := hidM (HSS.out w7 g7)
          have hb7 := HTB.out w7 g7
          obtain ⟨c10d, c11d⟩ := cell2 hb7
          have zz := frzA hb7
          obtain ⟨U, hU⟩ : ∃ U, w7.setCell ⟨A2.heap.size, 0, none⟩ (.slice (some ⟨g9, 0, none⟩) 1 cap) = U := ⟨_, rfl⟩
          obtain ⟨hS4, hE⟩ := HEnd.out w7 g9 cap cur fo g7 h1c hgc ⟨hcc 0 _ rfl, hcc 1 _ rfl, hcc 2 _ rfl, hcc 3 _ rfl, hcc 4 _ rfl, hcc 5 _ rfl, hcc 6 _ rfl⟩
          rw [hU] at hS4 hE
          have HS4 := hidM hS4
          have HE := hidM hE
          clear ha1 ha2 ha3 hcc hgc g7 hb7 hS4 hE
          refine hK.out _ _ HS3.out (fun hHeld => ?_)
          clear hK Kc
          (try simp only [Act.put]); (try simp only [List.setIfInBounds_toArray]); (try simp only [List.set_cons_succ]); (try simp only [List.set_cons_zero])
          refine' wpAnyH_take (i := 9) (oi := { dst := some 29, op := Op.fieldAddr 30 (Operand.tmp 10) 0, type := 0, pos := "types.go:59", after := #[{ on := 0, ground := Ground.phase }, { on := 1, ground := Ground.phase }, { on := 2, ground := Ground.phase }, { on := 3, ground := Ground.phase }, { on := 4, ground := Ground.phase }, { on := 5, ground := Ground.phase }, { on := 6, ground := Ground.phase }, { on := 7, ground := Ground.phase }, { on := 8, ground := Ground.phase }], guard := none }) rfl (by kernel_rfl) (by kernel_rfl) (by kernel_rfl) (fun _ _ _ h => h) (Or.inl ⟨by rfl, _⟩) (by assumption) _
          rotate_left 1
          · (intro w hSw; obtain ⟨s0, s1, s2, s3, s4, s5⟩ := hSw; go_simp; (try with_reducible rfl))
          (try simp only [Act.put]); (try simp only [List.setIfInBounds_toArray]); (try simp only [List.set_cons_succ]); (try simp only [List.set_cons_zero])
          refine wpAnyH_ready (rs := [10]) (by kernel_rfl) (by simp) ?_
          refine (AllReadyH.cons (o := { dst := none, op := Op.store 27 (Operand.tmp 29) (Operand.tmp 28), type := 0, pos := "types.go:59", after := #[{ on := 9, ground := Ground.data }, { on := 8, ground := Ground.data }, { on := 8, ground := Ground.chain }, { on := 0, ground := Ground.phase }, { on := 1, ground := Ground.phase }, { on := 2, ground := Ground.phase }, { on := 3, ground := Ground.phase }, { on := 4, ground := Ground.phase }, { on := 5, ground := Ground.phase }, { on := 6, ground := Ground.phase }, { on := 7, ground := Ground.phase }, { on := 8, ground := Ground.phase }], guard := none }) rfl (fun Kc hK => ?_) AllReadyH.nil)
          go_simp
          refine hK.out _ _ HS4.out (fun hHeld => ?_)
          clear hK Kc
          (try simp only [Act.put]); (try simp only [List.setIfInBounds_toArray]); (try simp only [List.set_cons_succ]); (try simp only [List.set_cons_zero])
          refine wpAnyH_done (by kernel_rfl) ?_ _
          go_wp2_with fail
          go_roundw
          case rel => exact ⟨1, by omega, by go_num, .inr ⟨rfl, HE.out⟩⟩
          case measure => simp [intOf]
    · obtain ⟨fo, g9, cap, h1c, hcf, ht, hr, hg⟩ := hE
      have hck := check17c g9 cap fo 0 wr (HTT.out wr hg) h1c hcf
      have HX : Hid (∀ (w8 V : World) (vo : Option Addr) (vn vc : Nat) (tt : Int), Gr wr w8 → w8.alloc (.cells #[.int .i64 0, .slice vo vn vc, .int .i64 tt] 61) = V → V.heap[w8.heap.size]? = some (.cells #[.int .i64 0, .slice vo vn vc, .int .i64 tt] 61) ∧ V.heap[A2.heap.size]? = some (.cells #[.slice (some ⟨g9, 0, none⟩) 1 cap, .slice none 0 0] 30) ∧ V.heap[A1.heap.size]? = some (.cells #[.slice none 0 0, .slice none 0 0] 30) ∧ (setAll V A1.heap.size [(0, .slice (some ⟨g9, 0, none⟩) 1 cap), (1, .slice none 0 0)]).heap[A1.heap.size]? = some (.cells #[.slice (some ⟨g9, 0, none⟩) 1 cap, .slice none 0 0] 30) ∧ Gr W (setAll V A1.heap.size [(0, .slice (some ⟨g9, 0, none⟩) 1 cap), (1, .slice none 0 0)])) := fun w8 V vo vn vc tt k hV => by
        have kV : Gr wr V := k.trans (by rw [← hV]; exact gr_alloc w8 _) (fun _ _ h => h)
        have hr1 := (kV.block _ (lt_of_heap hr) id).trans hr
        refine ⟨by rw [← hV]; exact heap_alloc_new w8 _, (kV.block _ (lt_of_heap ht) id).trans ht, hr1, ?_, (hg.trans kV (fun _ _ h => h)).trans (setAll_kp _ _ _) (fun j hj e => by have e' : j = A1.heap.size := e; have := HLT.out; omega)⟩
        rw [setAll_blk A1.heap.size 30 _ _ _ hr1]
        simp [setsA]
      have HC17 := hidM hck
      obtain ⟨t0, t1⟩ := cell2 ht
      clear HR hcf hck ht hr hg o0 o1 ob i0 i1 hgo0 hgo1 c10 HSD HEnd HC hA0 hA1 hA2 hA3 hA4
      rw [show ((1 : Nat) : Int) = 1 from rfl]
      go_wp2_with (go_at_call 17; refine HC17.out.mono ?_; rintro e w8 ⟨vo, vn, vc, tt, rfl, g8⟩; clear t0 t1; obtain ⟨V, hV⟩ : ∃ V, w8.alloc (.cells #[.int .i64 0, .slice vo vn vc, .int .i64 tt] 61) = V := ⟨_, rfl⟩; obtain ⟨h1, h2, h3, h4, h5⟩ := HX.out w8 V vo vn vc tt g8 hV; obtain ⟨X, hX⟩ : ∃ X, setAll V A1.heap.size [(0, .slice (some ⟨g9, 0, none⟩) 1 cap), (1, .slice none 0 0)] = X := ⟨_, rfl⟩; rw [hX] at h4 h5; have HU := hidM h4; have HK := hidM h5; simp only [setAll] at hX; obtain ⟨y0, y1, y2⟩ := cell3V h1; have yz := frzA h1; have i0 := set_id (j := 0) (v := .int .i64 0) h1 rfl; have i1 := set_id (j := 1) (v := .slice vo vn vc) h1 rfl; have i2 := set_id (j := 2) (v := .int .i64 tt) h1 rfl; obtain ⟨t0, t1⟩ := cell2 h2; obtain ⟨r0, r1⟩ := cell2 h3; have rz := frzA h3; clear g8 h1 h2 h3 h4 h5)
      (try simp only [Exit.inBlock, Exit.then])
      refine bodyPost_ret (results_cell30t rfl rfl (by with_reducible exact HU.out) (by kernel_rfl)) rfl ?_
      exact ⟨_, _, rfl, HK.out⟩
end Go.Proofs.YteggcdhibcjneaaGreatDoor.Kit
