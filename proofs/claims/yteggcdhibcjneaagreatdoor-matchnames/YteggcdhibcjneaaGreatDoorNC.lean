import Derived.Test.YteggcdhibcjneaaGreatDoorNB
set_option maxRecDepth 100000
set_option maxHeartbeats 4000000
namespace Go.Proofs.YteggcdhibcjneaaGreatDoor.Kit
variable {nx : Bool}
open Go.RowKit Go.Shelf Go.Deep
open Go.Proofs.YteggcdhibcjneaaGreatDoor.Kd (Ans AnsV cell5 cell2)
set_option linter.unusedVariables false
set_option linter.unusedSimpArgs false
attribute [local go_sem] run_store_func

theorem indexed28 (gr : Nat) (xs : Nat → Int) (W : World) (hR2 : RwsK xs 2 gr 2 W) (hx0 : xs 0 = 8) (hx1 : xs 1 = 5) :
    Calls Tryz.prog 28 #[.slice (some ⟨gr, 0, none⟩) 2 2] W fun e w' => ∃ m v v', e = .returned (.agg #[.slice (some ⟨gr, 0, none⟩) 2 2, .map (some m)]) ∧ Gr W w' ∧ MpAt w' m [(hR 8, v), (hR 5, v')] ∧ Ent w' 0 v ∧ Ent w' 1 v' := by
  obtain ⟨A0, hA0⟩ : ∃ A, W.alloc (.cells #[.slice none 0 0, .map none] 82) = A := ⟨_, rfl⟩
  have g0 : Gr W A0 := by rw [← hA0]; exact gr_alloc W _
  have b0 : A0.heap[W.heap.size]? = some (.cells #[.slice none 0 0, .map none] 82) := by rw [← hA0]; exact heap_alloc_new W _
  obtain ⟨A1, hA1⟩ : ∃ A, A0.alloc (.map #[] 0) = A := ⟨_, rfl⟩
  have g1 : Gr A0 A1 := by rw [← hA1]; exact gr_alloc A0 _
  have b1 : A1.heap[A0.heap.size]? = some (.map #[] 0) := by rw [← hA1]; exact heap_alloc_new A0 _
  obtain ⟨A2, hA2⟩ : ∃ A, A1.alloc (.cells #[.slice (some ⟨gr, 0, none⟩) 2 2, .map (some A0.heap.size)] 82) = A := ⟨_, rfl⟩
  have g2 : Gr A1 A2 := by rw [← hA2]; exact gr_alloc A1 _
  have b2 : A2.heap[A1.heap.size]? = some (.cells #[.slice (some ⟨gr, 0, none⟩) 2 2, .map (some A0.heap.size)] 82) := by rw [← hA2]; exact heap_alloc_new A1 _
  have z0 : A0.heap.size = W.heap.size + 1 := by rw [← hA0]; simp
  have z1 : A1.heap.size = A0.heap.size + 1 := by rw [← hA1]; simp
  have g12 := g1.trans g2 (fun _ _ h => h)
  have gW : Gr W A2 := g0.trans g12 (fun _ _ h => h)
  have hmk : (Instr.makeMap 80 none).run Tryz.prog A0 = .ok (.map (some A0.heap.size)) A1 := by rw [← hA1]; exact mkM80 A0
  have HI0 : Hid (∃ l, IxI W gr A1.heap.size A0.heap.size W.heap.size 0 l A2) := ⟨[], gW, b2, (g12.block _ (lt_of_heap b0) id).trans b0, (g2.block _ (lt_of_heap b1) id).trans b1, .inl ⟨rfl, rfl⟩, by omega, by omega, by omega⟩
  obtain ⟨ls, cs, hr, hv⟩ := hR2
  have i0 := set_id (j := 0) (v := .slice (some ⟨gr, 0, none⟩) 2 2) b2 rfl
  have i1 := set_id (j := 1) (v := .map (some A0.heap.size)) b2 rfl
  obtain ⟨t0, t1⟩ := cell2 b2
  have tz := frzA b2
  clear g0 b0 g1 b1 g2 b2 g12 gW z0 z1
  go_enter Tryz.func28, Tryz.ntmps28
  go_wp2_with fail
  clear hmk i0 i1 t0 t1 tz hA0 hA1 hA2
  go_loopw [13] (fun i wr => ∃ k : Nat, k ≤ 2 ∧ i = .int .i64 k ∧ Hid (∃ l, IxI W gr A1.heap.size A0.heap.size W.heap.size k l wr)) (fun i _ => 2 - (intOf i).toNat)
  case atStart => exact ⟨0, by omega, rfl, HI0⟩
  case round =>
    obtain ⟨k, hk, rfl, HR⟩ := hrel
    clear HI0
    obtain ⟨l, hI⟩ := HR.out
    clear HR
    rcases (show k = 0 ∨ k = 1 ∨ k = 2 by omega) with rfl | rfl | rfl
    ·   rw [show ((0 : Nat) : Int) = 0 from rfl]
        have hx : 0 = 0 ∧ (8 : Int) = 8 ∨ 0 = 1 ∧ (8 : Int) = 5 := by omega
        obtain ⟨l1, hl1⟩ : ∃ l1, l1 = ls 0 := ⟨_, rfl⟩
        obtain ⟨c1, hc1⟩ : ∃ c1, c1 = cs 0 := ⟨_, rfl⟩
        have rv : RwV wr l1 8 := by
          have := (hv 0 (by omega)).2.1
          rw [← hl1, hx0] at this
          exact this.gr (hI.1)
        obtain ⟨r0, r1, r2, r3⟩ := rwCells (k := 0) (by omega) ((hI.1.block _ (lt_of_heap hr) id).trans hr)
        rw [← hl1, ← hc1] at r3
        simp only [Nat.reduceMul, Nat.reduceAdd] at r0 r1 r2 r3
        obtain ⟨A, hA⟩ : ∃ A, wr.alloc (.cells #[.bool false, .int .i64 0, .string ⟨#[]⟩, .slice (some ⟨l1, 0, none⟩) 1 c1] 86) = A := ⟨_, rfl⟩
        have gA : Gr wr A := by rw [← hA]; exact gr_alloc wr _
        have bA : A.heap[wr.heap.size]? = some (.cells #[.bool false, .int .i64 0, .string ⟨#[]⟩, .slice (some ⟨l1, 0, none⟩) 1 c1] 86) := by rw [← hA]; exact heap_alloc_new wr _
        have HG := hidM gA
        obtain ⟨y0, y1, y2, y3⟩ := cell4 bA
        have yz := frzA bA
        obtain ⟨e0, e1⟩ := cell2 ((gA.block _ (lt_of_heap hI.2.1) id).trans hI.2.1)
        have HS : Hid (∀ u, Gr A u → u.cell? ⟨wr.heap.size, 0, none⟩ = some (.bool false) ∧ u.cell? ⟨wr.heap.size, 1, none⟩ = some (.int .i64 0) ∧ u.cell? ⟨wr.heap.size, 2, none⟩ = some (.string ⟨#[]⟩) ∧ u.cell? ⟨wr.heap.size, 3, none⟩ = some (.slice (some ⟨l1, 0, none⟩) 1 c1) ∧ u.cell? ⟨A1.heap.size, 0, none⟩ = some (.slice (some ⟨gr, 0, none⟩) 2 2) ∧ u.cell? ⟨A1.heap.size, 1, none⟩ = some (.map (some A0.heap.size))) := fun u g => ⟨g.cell' y0 id, g.cell' y1 id, g.cell' y2 id, g.cell' y3 id, g.cell' e0 id, g.cell' e1 id⟩
        have HM : Hid (∀ u, Gr A u → MpAt u A0.heap.size l) := fun u g => ((gA.trans g (fun _ _ h => h)).block _ (lt_of_heap hI.2.2.2.1) id).trans hI.2.2.2.1
        have HN := hidM (ix_lk hI.2.2.2.2.1 hx)
        have HC1 := hidM (holdsNull46 l1 c1 8 A (rv.gr gA))
        have HC2 : Hid (∀ u, Gr A u → Calls Tryz.prog 47 #[.agg #[.bool false, .int .i64 0, .string ⟨#[]⟩, .slice (some ⟨l1, 0, none⟩) 1 c1]] u fun e w' => e = .returned (.int .u64 (hR 8)) ∧ Gr u w') := fun u g => hash47r l1 c1 8 u (rv.gr (gA.trans g (fun _ _ h => h))) (by omega)
        have HC3 : Hid (∀ u, Gr A u → Calls Tryz.prog 48 #[.agg #[.slice (some ⟨gr, 0, none⟩) 2 2, .map (some A0.heap.size)], .int .u64 (hR 8), .agg #[.bool false, .int .i64 0, .string ⟨#[]⟩, .slice (some ⟨l1, 0, none⟩) 1 c1]] u fun e w' => e = .returned (.int .i64 (-1)) ∧ Gr u w') := fun u g => place48_no gr 2 A0.heap.size l1 c1 l (hR 8) u (HM.out u g) HN.out
        have HX : Hid (∀ (w7 : World) (g9 cap ib ic : Nat) (cur : Array Value), Gr A w7 → w7.heap[g9]? = some (.cells cur 34) → cur[0]? = some (.slice (some ⟨ib, 0, none⟩) 1 ic) → w7.heap[ib]? = some (.cells #[.int .i64 0] 3) → ∃ X, (Instr.mapUpdate 80 (.map (some A0.heap.size)) (.int .u64 (hR 8)) (.slice (some ⟨g9, 0, none⟩) 1 cap)).run Tryz.prog w7 = .ok () X ∧ X.cell? ⟨A1.heap.size, 1, none⟩ = some (.map (some A0.heap.size)) ∧ ∃ l', IxI W gr A1.heap.size A0.heap.size W.heap.size (0 + 1) l' X) := fun w7 g9 cap ib ic cur g h1 h0 h2 => ix_end hI hx (gA.trans g (fun _ _ h => h)) h1 h0 h2
        clear rv gA bA hl1 hc1 hI hx
        go_wp2_with (first
          | (go_at_call 46; refine HC1.out.mono ?_; rintro e w1 ⟨rfl, g1⟩; have HG1 := hidM g1; clear y0 y1 y2 y3 e0 e1 r0 r1 r2 r3 yz hA; obtain ⟨y0, y1, y2, y3, e0, e1⟩ := HS.out w1 g1; clear g1)
          | (go_at_call 47; refine (HC2.out w1 HG1.out).mono ?_; rintro e w2 ⟨rfl, g2⟩; have HG2 := hidM (HG1.out.trans g2 (fun _ _ h => h)); clear y0 y1 y2 y3 e0 e1; obtain ⟨y0, y1, y2, y3, e0, e1⟩ := HS.out w2 HG2.out; clear g2)
          | (go_at_call 48; refine (HC3.out w2 HG2.out).mono ?_; rintro e w3 ⟨rfl, g3⟩; have HG3 := hidM (HG2.out.trans g3 (fun _ _ h => h)); clear y0 y1 y2 y3 e0 e1; obtain ⟨y0, y1, y2, y3, e0, e1⟩ := HS.out w3 HG3.out; clear g3))
        obtain ⟨D1, hD1⟩ : ∃ D1, w3.drew.alloc (.cells #[.int .i64 0] 3) = D1 := ⟨_, rfl⟩
        have gd := gr_drew (w := w3)
        have gD1 : Gr w3.drew D1 := by rw [← hD1]; exact gr_alloc _ _
        have bD1 : D1.heap[w3.heap.size]? = some (.cells #[.int .i64 0] 3) := by rw [← hD1]; exact heap_alloc_new w3.drew _
        obtain ⟨D2, hD2⟩ : ∃ D2, D1.alloc (.cells #[.slice (some ⟨w3.heap.size, 0, none⟩) 1 1] 34) = D2 := ⟨_, rfl⟩
        have gD2 : Gr D1 D2 := by rw [← hD2]; exact gr_alloc _ _
        have bD2 : D2.heap[D1.heap.size]? = some (.cells #[.slice (some ⟨w3.heap.size, 0, none⟩) 1 1] 34) := by rw [← hD2]; exact heap_alloc_new _ _
        have k0 : Gr A w3.drew := HG3.out.trans gd (fun _ _ h => h)
        have k1 : Gr A D1 := k0.trans gD1 (fun _ _ h => h)
        have k2 : Gr A D2 := k1.trans gD2 (fun _ _ h => h)
        have q0 := run_lk w3.drew A0.heap.size l (hR 8) (HM.out _ k0)
        have q1 := run_lk D1 A0.heap.size l (hR 8) (HM.out _ k1)
        have q2 := run_lk D2 A0.heap.size l (hR 8) (HM.out _ k2)
        have hlv : lkV l (hR 8) = .slice none 0 0 := by unfold lkV; rw [HN.out]; rfl
        rw [hlv] at q0 q1 q2
        have HSD := hidM (gd.cell' e1 id)
        have HSD1 := hidM (gD1.cell' HSD.out id)
        have HSD2 := hidM (gD2.cell' HSD1.out id)
        have HZ : Hid (True ∧ Src Tryz.prog 1 109 (.slice (some ⟨D1.heap.size, 0, none⟩) 1 1) 1 [.slice (some ⟨w3.heap.size, 0, none⟩) 1 1] D2 ∧ True) := ⟨trivial, srcI bD2 rfl, trivial⟩
        have cD2 := (gD2.block _ (lt_of_heap bD1) id).trans bD1
        have HEnd : Hid (∀ (w7 : World) (g9 cap : Nat) (cur : Array Value), Gr D2 w7 → w7.heap[g9]? = some (.cells cur 34) → cur[0]? = some (.slice (some ⟨w3.heap.size, 0, none⟩) 1 1) → ∃ X, (Instr.mapUpdate 80 (.map (some A0.heap.size)) (.int .u64 (hR 8)) (.slice (some ⟨g9, 0, none⟩) 1 cap)).run Tryz.prog w7 = .ok () X ∧ X.cell? ⟨A1.heap.size, 1, none⟩ = some (.map (some A0.heap.size)) ∧ ∃ l', IxI W gr A1.heap.size A0.heap.size W.heap.size (0 + 1) l' X) := fun w7 g9 cap cur g h1 h0 => HX.out w7 g9 cap _ _ cur (k2.trans g (fun _ _ h => h)) h1 h0 ((g.block _ (lt_of_heap cD2) id).trans cD2)
        clear gd gD1 bD1 gD2 bD2 k0 k1 k2 hlv cD2 y0 y1 y2 y3 e0 e1
        refine wp_region_held_drew (S := fun w' => w'.cell? ⟨A1.heap.size, 1, none⟩ = some (.map (some A0.heap.size))) (by kernel_rfl) (HSD.out) (fun hHeld => ?_)
        refine' wpAnyH_take (i := 0) (oi := { dst := some 44, op := Op.fieldAddr 82 (Operand.tmp 3) 1, type := 0, pos := "find.go:50", after := #[], guard := none }) rfl (by kernel_rfl) (by kernel_rfl) (by kernel_rfl) (fun _ _ _ h => h) (Or.inl ⟨by rfl, _⟩) (by assumption) _
        rotate_left 1
        · (intro w hSw; obtain hS1 := hSw; go_simp; (try with_reducible rfl))
        (try simp only [Act.put]); (try simp only [List.setIfInBounds_toArray]); (try simp only [List.set_cons_succ]); (try simp only [List.set_cons_zero])
        refine' wpAnyH_take (i := 1) (oi := { dst := some 45, op := Op.load 80 (Operand.tmp 44), type := 80, pos := "find.go:50", after := #[{ on := 0, ground := Ground.data }], guard := none }) rfl (by kernel_rfl) (by kernel_rfl) (by kernel_rfl) (fun _ _ _ h => h) (Or.inl ⟨by rfl, _⟩) (by assumption) _
        rotate_left 1
        · (intro w hSw; obtain hS1 := hSw; go_simp; (try with_reducible rfl))
        (try simp only [Act.put]); (try simp only [List.setIfInBounds_toArray]); (try simp only [List.set_cons_succ]); (try simp only [List.set_cons_zero])
        refine' wpAnyH_take (i := 2) (oi := { dst := some 46, op := Op.move (Operand.tmp 6), type := 106, pos := "find.go:50", after := #[], guard := none }) rfl (by kernel_rfl) (by kernel_rfl) (by kernel_rfl) (fun _ _ _ h => h) (Or.inl ⟨by rfl, _⟩) (by assumption) _
        rotate_left 1
        · (intro w hSw; obtain hS1 := hSw; go_simp; (try with_reducible rfl))
        (try simp only [Act.put]); (try simp only [List.setIfInBounds_toArray]); (try simp only [List.set_cons_succ]); (try simp only [List.set_cons_zero])
        refine' wpAnyH_take (i := 3) (oi := { dst := some 47, op := Op.fieldAddr 82 (Operand.tmp 3) 1, type := 0, pos := "find.go:50", after := #[], guard := none }) rfl (by kernel_rfl) (by kernel_rfl) (by kernel_rfl) (fun _ _ _ h => h) (Or.inl ⟨by rfl, _⟩) (by assumption) _
        rotate_left 1
        · (intro w hSw; obtain hS1 := hSw; go_simp; (try with_reducible rfl))
        (try simp only [Act.put]); (try simp only [List.setIfInBounds_toArray]); (try simp only [List.set_cons_succ]); (try simp only [List.set_cons_zero])
        refine' wpAnyH_take (i := 4) (oi := { dst := some 48, op := Op.load 80 (Operand.tmp 47), type := 80, pos := "find.go:50", after := #[{ on := 3, ground := Ground.data }], guard := none }) rfl (by kernel_rfl) (by kernel_rfl) (by kernel_rfl) (fun _ _ _ h => h) (Or.inl ⟨by rfl, _⟩) (by assumption) _
        rotate_left 1
        · (intro w hSw; obtain hS1 := hSw; go_simp; (try with_reducible rfl))
        (try simp only [Act.put]); (try simp only [List.setIfInBounds_toArray]); (try simp only [List.set_cons_succ]); (try simp only [List.set_cons_zero])
        refine' wpAnyH_take (i := 5) (oi := { dst := some 49, op := Op.move (Operand.tmp 6), type := 106, pos := "find.go:50", after := #[], guard := none }) rfl (by kernel_rfl) (by kernel_rfl) (by kernel_rfl) (fun _ _ _ h => h) (Or.inl ⟨by rfl, _⟩) (by assumption) _
        rotate_left 1
        · (intro w hSw; obtain hS1 := hSw; go_simp; (try with_reducible rfl))
        (try simp only [Act.put]); (try simp only [List.setIfInBounds_toArray]); (try simp only [List.set_cons_succ]); (try simp only [List.set_cons_zero])
        refine' wpAnyH_take (i := 7) (oi := { dst := some 51, op := Op.move (Operand.tmp 4), type := 3, pos := "find.go:50", after := #[], guard := none }) rfl (by kernel_rfl) (by kernel_rfl) (by kernel_rfl) (fun _ _ _ h => h) (Or.inl ⟨by rfl, _⟩) (by assumption) _
        rotate_left 1
        · (intro w hSw; obtain hS1 := hSw; go_simp; (try with_reducible rfl))
        (try simp only [Act.put]); (try simp only [List.setIfInBounds_toArray]); (try simp only [List.set_cons_succ]); (try simp only [List.set_cons_zero])
        refine wpAnyH_ready (rs := [6, 8]) (by kernel_rfl) (by simp) ?_
        refine (AllReadyH.cons (o := { dst := some 50, op := Op.lookup 80 (Operand.tmp 48) (Operand.tmp 49) false, type := 109, pos := "find.go:50", after := #[{ on := 4, ground := Ground.data }, { on := 5, ground := Ground.data }], guard := none }) rfl (fun Kc hK => ?_) (AllReadyH.cons (o := { dst := some 52, op := Op.buildSlice 34 1 #[(0, Operand.tmp 51)], type := 34, pos := "find.go:50", after := #[{ on := 7, ground := Ground.data }], guard := none }) rfl (fun Kc hK => ?_) AllReadyH.nil))
        · go_simp
          refine hK.out _ _ HSD.out (fun hHeld => ?_)
          clear hK Kc
          (try simp only [Act.put]); (try simp only [List.setIfInBounds_toArray]); (try simp only [List.set_cons_succ]); (try simp only [List.set_cons_zero])
          refine wpAnyH_ready (rs := [8]) (by kernel_rfl) (by simp) ?_
          refine (AllReadyH.cons (o := { dst := some 52, op := Op.buildSlice 34 1 #[(0, Operand.tmp 51)], type := 34, pos := "find.go:50", after := #[{ on := 7, ground := Ground.data }], guard := none }) rfl (fun Kc hK => ?_) AllReadyH.nil)
          go_simp
          refine hK.out _ _ HSD1.out (fun hHeld => ?_)
          clear hK Kc
          (try simp only [Act.put]); (try simp only [List.setIfInBounds_toArray]); (try simp only [List.set_cons_succ]); (try simp only [List.set_cons_zero])
          refine wpAnyH_ready (rs := [9]) (by kernel_rfl) (by simp) ?_
          refine (AllReadyH.cons (o := { dst := some 53, op := Op.buildSlice 109 1 #[(0, Operand.tmp 52)], type := 109, pos := "find.go:50", after := #[{ on := 8, ground := Ground.data }], guard := none }) rfl (fun Kc hK => ?_) AllReadyH.nil)
          go_simp
          refine hK.out _ _ HSD2.out (fun hHeld => ?_)
          clear hK Kc
          (try simp only [Act.put]); (try simp only [List.setIfInBounds_toArray]); (try simp only [List.set_cons_succ]); (try simp only [List.set_cons_zero])
          refine wpAnyH_ready (rs := [10]) (by kernel_rfl) (by simp) ?_
          refine (AllReadyH.cons (o := { dst := some 54, op := Op.call { callee := Callee.builtin Builtin.append, args := #[Operand.tmp 50, Operand.tmp 53], argTypes := #[109, 109] }, type := 109, pos := "find.go:50", after := #[{ on := 6, ground := Ground.data }, { on := 9, ground := Ground.data }], guard := none }) rfl (fun Kc hK => ?_) AllReadyH.nil)
          refine step_append_anyN (P := Tryz.prog) _ rfl (.tmp 50) (.tmp 53) 109 109 rfl 34 (.slice none 0 0) 1 24 Tryz.underlying109 info34 rfl (.slice none 0 0) 0 [] rfl (World.ownsRow_nil _ 0 34 1) _ 1 [.slice (some ⟨w3.heap.size, 0, none⟩) 1 1] rfl HZ.out.2.1 (by omega) (by omega) ?_
          intro v' w7 ha1 ha2 ha3
          obtain ⟨g9, cap, cur, rfl, h1c, hgc, hsz, -, hcc⟩ := own_get ha1 (by omega)
          have g7 : Gr D2 w7 := (Keeps.ofGrown ha2).mono (fun j _ e => by simp [Value.ownBlock] at e)
          obtain ⟨X, hX, hSX, hEX⟩ := HEnd.out w7 g9 cap cur g7 hgc (by have := hcc 0 _ rfl; simpa [World.cell?, hgc] using this)
          have HSX := hidM hSX
          have HEX := hidM hEX
          have HS7 := hidM (g7.cell' HSD2.out id)
          clear ha1 ha2 ha3 hcc hgc hsz g7 hSX hEX h1c
          refine hK.out _ _ HS7.out (fun hHeld => ?_)
          clear hK Kc
          (try simp only [Act.put]); (try simp only [List.setIfInBounds_toArray]); (try simp only [List.set_cons_succ]); (try simp only [List.set_cons_zero])
          refine wpAnyH_ready (rs := [11]) (by kernel_rfl) (by simp) ?_
          refine (AllReadyH.cons (o := { dst := none, op := Op.mapUpdate 80 (Operand.tmp 45) (Operand.tmp 46) (Operand.tmp 54), type := 0, pos := "find.go:50", after := #[{ on := 1, ground := Ground.data }, { on := 2, ground := Ground.data }, { on := 10, ground := Ground.data }, { on := 10, ground := Ground.chain }, { on := 0, ground := Ground.phase }, { on := 1, ground := Ground.phase }, { on := 2, ground := Ground.phase }, { on := 3, ground := Ground.phase }, { on := 4, ground := Ground.phase }, { on := 5, ground := Ground.phase }, { on := 6, ground := Ground.phase }, { on := 7, ground := Ground.phase }, { on := 8, ground := Ground.phase }, { on := 9, ground := Ground.phase }, { on := 10, ground := Ground.phase }], guard := none }) rfl (fun Kc hK => ?_) AllReadyH.nil)
          go_simp
          refine hK.out _ _ HSX.out (fun hHeld => ?_)
          clear hK Kc
          (try simp only [Act.put]); (try simp only [List.setIfInBounds_toArray]); (try simp only [List.set_cons_succ]); (try simp only [List.set_cons_zero])
          refine wpAnyH_done (by kernel_rfl) ?_ _
          go_wp2_with fail
          go_roundw
          case rel => refine ⟨_, ?_, ?_, HEX⟩; omega; go_num
          case measure => simp [intOf]
        · go_simp
          refine hK.out _ _ HSD1.out (fun hHeld => ?_)
          clear hK Kc
          (try simp only [Act.put]); (try simp only [List.setIfInBounds_toArray]); (try simp only [List.set_cons_succ]); (try simp only [List.set_cons_zero])
          refine wpAnyH_ready (rs := [6, 9]) (by kernel_rfl) (by simp) ?_
          refine (AllReadyH.cons (o := { dst := some 50, op := Op.lookup 80 (Operand.tmp 48) (Operand.tmp 49) false, type := 109, pos := "find.go:50", after := #[{ on := 4, ground := Ground.data }, { on := 5, ground := Ground.data }], guard := none }) rfl (fun Kc hK => ?_) (AllReadyH.cons (o := { dst := some 53, op := Op.buildSlice 109 1 #[(0, Operand.tmp 52)], type := 109, pos := "find.go:50", after := #[{ on := 8, ground := Ground.data }], guard := none }) rfl (fun Kc hK => ?_) AllReadyH.nil))
          · go_simp
            refine hK.out _ _ HSD1.out (fun hHeld => ?_)
            clear hK Kc
            (try simp only [Act.put]); (try simp only [List.setIfInBounds_toArray]); (try simp only [List.set_cons_succ]); (try simp only [List.set_cons_zero])
            refine wpAnyH_ready (rs := [9]) (by kernel_rfl) (by simp) ?_
            refine (AllReadyH.cons (o := { dst := some 53, op := Op.buildSlice 109 1 #[(0, Operand.tmp 52)], type := 109, pos := "find.go:50", after := #[{ on := 8, ground := Ground.data }], guard := none }) rfl (fun Kc hK => ?_) AllReadyH.nil)
            go_simp
            refine hK.out _ _ HSD2.out (fun hHeld => ?_)
            clear hK Kc
            (try simp only [Act.put]); (try simp only [List.setIfInBounds_toArray]); (try simp only [List.set_cons_succ]); (try simp only [List.set_cons_zero])
            refine wpAnyH_ready (rs := [10]) (by kernel_rfl) (by simp) ?_
            refine (AllReadyH.cons (o := { dst := some 54, op := Op.call { callee := Callee.builtin Builtin.append, args := #[Operand.tmp 50, Operand.tmp 53], argTypes := #[109, 109] }, type := 109, pos := "find.go:50", after := #[{ on := 6, ground := Ground.data }, { on := 9, ground := Ground.data }], guard := none }) rfl (fun Kc hK => ?_) AllReadyH.nil)
            refine step_append_anyN (P := Tryz.prog) _ rfl (.tmp 50) (.tmp 53) 109 109 rfl 34 (.slice none 0 0) 1 24 Tryz.underlying109 info34 rfl (.slice none 0 0) 0 [] rfl (World.ownsRow_nil _ 0 34 1) _ 1 [.slice (some ⟨w3.heap.size, 0, none⟩) 1 1] rfl HZ.out.2.1 (by omega) (by omega) ?_
            intro v' w7 ha1 ha2 ha3
            obtain ⟨g9, cap, cur, rfl, h1c, hgc, hsz, -, hcc⟩ := own_get ha1 (by omega)
            have g7 : Gr D2 w7 := (Keeps.ofGrown ha2).mono (fun j _ e => by simp [Value.ownBlock] at e)
            obtain ⟨X, hX, hSX, hEX⟩ := HEnd.out w7 g9 cap cur g7 hgc (by have := hcc 0 _ rfl; simpa [World.cell?, hgc] using this)
            have HSX := hidM hSX
            have HEX := hidM hEX
            have HS7 := hidM (g7.cell' HSD2.out id)
            clear ha1 ha2 ha3 hcc hgc hsz g7 hSX hEX h1c
            refine hK.out _ _ HS7.out (fun hHeld => ?_)
            clear hK Kc
            (try simp only [Act.put]); (try simp only [List.setIfInBounds_toArray]); (try simp only [List.set_cons_succ]); (try simp only [List.set_cons_zero])
            refine wpAnyH_ready (rs := [11]) (by kernel_rfl) (by simp) ?_
            refine (AllReadyH.cons (o := { dst := none, op := Op.mapUpdate 80 (Operand.tmp 45) (Operand.tmp 46) (Operand.tmp 54), type := 0, pos := "find.go:50", after := #[{ on := 1, ground := Ground.data }, { on := 2, ground := Ground.data }, { on := 10, ground := Ground.data }, { on := 10, ground := Ground.chain }, { on := 0, ground := Ground.phase }, { on := 1, ground := Ground.phase }, { on := 2, ground := Ground.phase }, { on := 3, ground := Ground.phase }, { on := 4, ground := Ground.phase }, { on := 5, ground := Ground.phase }, { on := 6, ground := Ground.phase }, { on := 7, ground := Ground.phase }, { on := 8, ground := Ground.phase }, { on := 9, ground := Ground.phase }, { on := 10, ground := Ground.phase }], guard := none }) rfl (fun Kc hK => ?_) AllReadyH.nil)
            go_simp
            refine hK.out _ _ HSX.out (fun hHeld => ?_)
            clear hK Kc
            (try simp only [Act.put]); (try simp only [List.setIfInBounds_toArray]); (try simp only [List.set_cons_succ]); (try simp only [List.set_cons_zero])
            refine wpAnyH_done (by kernel_rfl) ?_ _
            go_wp2_with fail
            go_roundw
            case rel => refine ⟨_, ?_, ?_, HEX⟩; omega; go_num
            case measure => simp [intOf]
          · go_simp
            refine hK.out _ _ HSD2.out (fun hHeld => ?_)
            clear hK Kc
            (try simp only [Act.put]); (try simp only [List.setIfInBounds_toArray]); (try simp only [List.set_cons_succ]); (try simp only [List.set_cons_zero])
            refine wpAnyH_ready (rs := [6]) (by kernel_rfl) (by simp) ?_
            refine (AllReadyH.cons (o := { dst := some 50, op := Op.lookup 80 (Operand.tmp 48) (Operand.tmp 49) false, type := 109, pos := "find.go:50", after := #[{ on := 4, ground := Ground.data }, { on := 5, ground := Ground.data }], guard := none }) rfl (fun Kc hK => ?_) AllReadyH.nil)
            go_simp
            refine hK.out _ _ HSD2.out (fun hHeld => ?_)
            clear hK Kc
            (try simp only [Act.put]); (try simp only [List.setIfInBounds_toArray]); (try simp only [List.set_cons_succ]); (try simp only [List.set_cons_zero])
            refine wpAnyH_ready (rs := [10]) (by kernel_rfl) (by simp) ?_
            refine (AllReadyH.cons (o := { dst := some 54, op := Op.call { callee := Callee.builtin Builtin.append, args := #[Operand.tmp 50, Operand.tmp 53], argTypes := #[109, 109] }, type := 109, pos := "find.go:50", after := #[{ on := 6, ground := Ground.data }, { on := 9, ground := Ground.data }], guard := none }) rfl (fun Kc hK => ?_) AllReadyH.nil)
            refine step_append_anyN (P := Tryz.prog) _ rfl (.tmp 50) (.tmp 53) 109 109 rfl 34 (.slice none 0 0) 1 24 Tryz.underlying109 info34 rfl (.slice none 0 0) 0 [] rfl (World.ownsRow_nil _ 0 34 1) _ 1 [.slice (some ⟨w3.heap.size, 0, none⟩) 1 1] rfl HZ.out.2.1 (by omega) (by omega) ?_
            intro v' w7 ha1 ha2 ha3
            obtain ⟨g9, cap, cur, rfl, h1c, hgc, hsz, -, hcc⟩ := own_get ha1 (by omega)
            have g7 : Gr D2 w7 := (Keeps.ofGrown ha2).mono (fun j _ e => by simp [Value.ownBlock] at e)
            obtain ⟨X, hX, hSX, hEX⟩ := HEnd.out w7 g9 cap cur g7 hgc (by have := hcc 0 _ rfl; simpa [World.cell?, hgc] using this)
            have HSX := hidM hSX
            have HEX := hidM hEX
            have HS7 := hidM (g7.cell' HSD2.out id)
            clear ha1 ha2 ha3 hcc hgc hsz g7 hSX hEX h1c
            refine hK.out _ _ HS7.out (fun hHeld => ?_)
            clear hK Kc
            (try simp only [Act.put]); (try simp only [List.setIfInBounds_toArray]); (try simp only [List.set_cons_succ]); (try simp only [List.set_cons_zero])
            refine wpAnyH_ready (rs := [11]) (by kernel_rfl) (by simp) ?_
            refine (AllReadyH.cons (o := { dst := none, op := Op.mapUpdate 80 (Operand.tmp 45) (Operand.tmp 46) (Operand.tmp 54), type := 0, pos := "find.go:50", after := #[{ on := 1, ground := Ground.data }, { on := 2, ground := Ground.data }, { on := 10, ground := Ground.data }, { on := 10, ground := Ground.chain }, { on := 0, ground := Ground.phase }, { on := 1, ground := Ground.phase }, { on := 2, ground := Ground.phase }, { on := 3, ground := Ground.phase }, { on := 4, ground := Ground.phase }, { on := 5, ground := Ground.phase }, { on := 6, ground := Ground.phase }, { on := 7, ground := Ground.phase }, { on := 8, ground := Ground.phase }, { on := 9, ground := Ground.phase }, { on := 10, ground := Ground.phase }], guard := none }) rfl (fun Kc hK => ?_) AllReadyH.nil)
            go_simp
            refine hK.out _ _ HSX.out (fun hHeld => ?_)
            clear hK Kc
            (try simp only [Act.put]); (try simp only [List.setIfInBounds_toArray]); (try simp only [List.set_cons_succ]); (try simp only [List.set_cons_zero])
            refine wpAnyH_done (by kernel_rfl) ?_ _
            go_wp2_with fail
            go_roundw
            case rel => refine ⟨_, ?_, ?_, HEX⟩; omega; go_num
            case measure => simp [intOf]
    ·   rw [show ((1 : Nat) : Int) = 1 from rfl]
        have hx : 1 = 0 ∧ (5 : Int) = 8 ∨ 1 = 1 ∧ (5 : Int) = 5 := by omega
        obtain ⟨l1, hl1⟩ : ∃ l1, l1 = ls 1 := ⟨_, rfl⟩
        obtain ⟨c1, hc1⟩ : ∃ c1, c1 = cs 1 := ⟨_, rfl⟩
        have rv : RwV wr l1 5 := by
          have := (hv 1 (by omega)).2.1
          rw [← hl1, hx1] at this
          exact this.gr (hI.1)
        obtain ⟨r0, r1, r2, r3⟩ := rwCells (k := 1) (by omega) ((hI.1.block _ (lt_of_heap hr) id).trans hr)
        rw [← hl1, ← hc1] at r3
        simp only [Nat.reduceMul, Nat.reduceAdd] at r0 r1 r2 r3
        obtain ⟨A, hA⟩ : ∃ A, wr.alloc (.cells #[.bool false, .int .i64 0, .string ⟨#[]⟩, .slice (some ⟨l1, 0, none⟩) 1 c1] 86) = A := ⟨_, rfl⟩
        have gA : Gr wr A := by rw [← hA]; exact gr_alloc wr _
        have bA : A.heap[wr.heap.size]? = some (.cells #[.bool false, .int .i64 0, .string ⟨#[]⟩, .slice (some ⟨l1, 0, none⟩) 1 c1] 86) := by rw [← hA]; exact heap_alloc_new wr _
        have HG := hidM gA
        obtain ⟨y0, y1, y2, y3⟩ := cell4 bA
        have yz := frzA bA
        obtain ⟨e0, e1⟩ := cell2 ((gA.block _ (lt_of_heap hI.2.1) id).trans hI.2.1)
        have HS : Hid (∀ u, Gr A u → u.cell? ⟨wr.heap.size, 0, none⟩ = some (.bool false) ∧ u.cell? ⟨wr.heap.size, 1, none⟩ = some (.int .i64 0) ∧ u.cell? ⟨wr.heap.size, 2, none⟩ = some (.string ⟨#[]⟩) ∧ u.cell? ⟨wr.heap.size, 3, none⟩ = some (.slice (some ⟨l1, 0, none⟩) 1 c1) ∧ u.cell? ⟨A1.heap.size, 0, none⟩ = some (.slice (some ⟨gr, 0, none⟩) 2 2) ∧ u.cell? ⟨A1.heap.size, 1, none⟩ = some (.map (some A0.heap.size))) := fun u g => ⟨g.cell' y0 id, g.cell' y1 id, g.cell' y2 id, g.cell' y3 id, g.cell' e0 id, g.cell' e1 id⟩
        have HM : Hid (∀ u, Gr A u → MpAt u A0.heap.size l) := fun u g => ((gA.trans g (fun _ _ h => h)).block _ (lt_of_heap hI.2.2.2.1) id).trans hI.2.2.2.1
        have HN := hidM (ix_lk hI.2.2.2.2.1 hx)
        have HC1 := hidM (holdsNull46 l1 c1 5 A (rv.gr gA))
        have HC2 : Hid (∀ u, Gr A u → Calls Tryz.prog 47 #[.agg #[.bool false, .int .i64 0, .string ⟨#[]⟩, .slice (some ⟨l1, 0, none⟩) 1 c1]] u fun e w' => e = .returned (.int .u64 (hR 5)) ∧ Gr u w') := fun u g => hash47r l1 c1 5 u (rv.gr (gA.trans g (fun _ _ h => h))) (by omega)
        have HC3 : Hid (∀ u, Gr A u → Calls Tryz.prog 48 #[.agg #[.slice (some ⟨gr, 0, none⟩) 2 2, .map (some A0.heap.size)], .int .u64 (hR 5), .agg #[.bool false, .int .i64 0, .string ⟨#[]⟩, .slice (some ⟨l1, 0, none⟩) 1 c1]] u fun e w' => e = .returned (.int .i64 (-1)) ∧ Gr u w') := fun u g => place48_no gr 2 A0.heap.size l1 c1 l (hR 5) u (HM.out u g) HN.out
        have HX : Hid (∀ (w7 : World) (g9 cap ib ic : Nat) (cur : Array Value), Gr A w7 → w7.heap[g9]? = some (.cells cur 34) → cur[0]? = some (.slice (some ⟨ib, 0, none⟩) 1 ic) → w7.heap[ib]? = some (.cells #[.int .i64 1] 3) → ∃ X, (Instr.mapUpdate 80 (.map (some A0.heap.size)) (.int .u64 (hR 5)) (.slice (some ⟨g9, 0, none⟩) 1 cap)).run Tryz.prog w7 = .ok () X ∧ X.cell? ⟨A1.heap.size, 1, none⟩ = some (.map (some A0.heap.size)) ∧ ∃ l', IxI W gr A1.heap.size A0.heap.size W.heap.size (1 + 1) l' X) := fun w7 g9 cap ib ic cur g h1 h0 h2 => ix_end hI hx (gA.trans g (fun _ _ h => h)) h1 h0 h2
        clear rv gA bA hl1 hc1 hI hx
        go_wp2_with (first
          | (go_at_call 46; refine HC1.out.mono ?_; rintro e w1 ⟨rfl, g1⟩; have HG1 := hidM g1; clear y0 y1 y2 y3 e0 e1 r0 r1 r2 r3 yz hA; obtain ⟨y0, y1, y2, y3, e0, e1⟩ := HS.out w1 g1; clear g1)
          | (go_at_call 47; refine (HC2.out w1 HG1.out).mono ?_; rintro e w2 ⟨rfl, g2⟩; have HG2 := hidM (HG1.out.trans g2 (fun _ _ h => h)); clear y0 y1 y2 y3 e0 e1; obtain ⟨y0, y1, y2, y3, e0, e1⟩ := HS.out w2 HG2.out; clear g2)
          | (go_at_call 48; refine (HC3.out w2 HG2.out).mono ?_; rintro e w3 ⟨rfl, g3⟩; have HG3 := hidM (HG2.out.trans g3 (fun _ _ h => h)); clear y0 y1 y2 y3 e0 e1; obtain ⟨y0, y1, y2, y3, e0, e1⟩ := HS.out w3 HG3.out; clear g3))
        obtain ⟨D1, hD1⟩ : ∃ D1, w3.drew.alloc (.cells #[.int .i64 1] 3) = D1 := ⟨_, rfl⟩
        have gd := gr_drew (w := w3)
        have gD1 : Gr w3.drew D1 := by rw [← hD1]; exact gr_alloc _ _
        have bD1 : D1.heap[w3.heap.size]? = some (.cells #[.int .i64 1] 3) := by rw [← hD1]; exact heap_alloc_new w3.drew _
        obtain ⟨D2, hD2⟩ : ∃ D2, D1.alloc (.cells #[.slice (some ⟨w3.heap.size, 0, none⟩) 1 1] 34) = D2 := ⟨_, rfl⟩
        have gD2 : Gr D1 D2 := by rw [← hD2]; exact gr_alloc _ _
        have bD2 : D2.heap[D1.heap.size]? = some (.cells #[.slice (some ⟨w3.heap.size, 0, none⟩) 1 1] 34) := by rw [← hD2]; exact heap_alloc_new _ _
        have k0 : Gr A w3.drew := HG3.out.trans gd (fun _ _ h => h)
        have k1 : Gr A D1 := k0.trans gD1 (fun _ _ h => h)
        have k2 : Gr A D2 := k1.trans gD2 (fun _ _ h => h)
        have q0 := run_lk w3.drew A0.heap.size l (hR 5) (HM.out _ k0)
        have q1 := run_lk D1 A0.heap.size l (hR 5) (HM.out _ k1)
        have q2 := run_lk D2 A0.heap.size l (hR 5) (HM.out _ k2)
        have hlv : lkV l (hR 5) = .slice none 0 0 := by unfold lkV; rw [HN.out]; rfl
        rw [hlv] at q0 q1 q2
        have HSD := hidM (gd.cell' e1 id)
        have HSD1 := hidM (gD1.cell' HSD.out id)
        have HSD2 := hidM (gD2.cell' HSD1.out id)
        have HZ : Hid (True ∧ Src Tryz.prog 1 109 (.slice (some ⟨D1.heap.size, 0, none⟩) 1 1) 1 [.slice (some ⟨w3.heap.size, 0, none⟩) 1 1] D2 ∧ True) := ⟨trivial, srcI bD2 rfl, trivial⟩
        have cD2 := (gD2.block _ (lt_of_heap bD1) id).trans bD1
        have HEnd : Hid (∀ (w7 : World) (g9 cap : Nat) (cur : Array Value), Gr D2 w7 → w7.heap[g9]? = some (.cells cur 34) → cur[0]? = some (.slice (some ⟨w3.heap.size, 0, none⟩) 1 1) → ∃ X, (Instr.mapUpdate 80 (.map (some A0.heap.size)) (.int .u64 (hR 5)) (.slice (some ⟨g9, 0, none⟩) 1 cap)).run Tryz.prog w7 = .ok () X ∧ X.cell? ⟨A1.heap.size, 1, none⟩ = some (.map (some A0.heap.size)) ∧ ∃ l', IxI W gr A1.heap.size A0.heap.size W.heap.size (1 + 1) l' X) := fun w7 g9 cap cur g h1 h0 => HX.out w7 g9 cap _ _ cur (k2.trans g (fun _ _ h => h)) h1 h0 ((g.block _ (lt_of_heap cD2) id).trans cD2)
        clear gd gD1 bD1 gD2 bD2 k0 k1 k2 hlv cD2 y0 y1 y2 y3 e0 e1
        refine wp_region_held_drew (S := fun w' => w'.cell? ⟨A1.heap.size, 1, none⟩ = some (.map (some A0.heap.size))) (by kernel_rfl) (HSD.out) (fun hHeld => ?_)
        refine' wpAnyH_take (i := 0) (oi := { dst := some 44, op := Op.fieldAddr 82 (Operand.tmp 3) 1, type := 0, pos := "find.go:50", after := #[], guard := none }) rfl (by kernel_rfl) (by kernel_rfl) (by kernel_rfl) (fun _ _ _ h => h) (Or.inl ⟨by rfl, _⟩) (by assumption) _
        rotate_left 1
        · (intro w hSw; obtain hS1 := hSw; go_simp; (try with_reducible rfl))
        (try simp only [Act.put]); (try simp only [List.setIfInBounds_toArray]); (try simp only [List.set_cons_succ]); (try simp only [List.set_cons_zero])
        refine' wpAnyH_take (i := 1) (oi := { dst := some 45, op := Op.load 80 (Operand.tmp 44), type := 80, pos := "find.go:50", after := #[{ on := 0, ground := Ground.data }], guard := none }) rfl (by kernel_rfl) (by kernel_rfl) (by kernel_rfl) (fun _ _ _ h => h) (Or.inl ⟨by rfl, _⟩) (by assumption) _
        rotate_left 1
        · (intro w hSw; obtain hS1 := hSw; go_simp; (try with_reducible rfl))
        (try simp only [Act.put]); (try simp only [List.setIfInBounds_toArray]); (try simp only [List.set_cons_succ]); (try simp only [List.set_cons_zero])
        refine' wpAnyH_take (i := 2) (oi := { dst := some 46, op := Op.move (Operand.tmp 6), type := 106, pos := "find.go:50", after := #[], guard := none }) rfl (by kernel_rfl) (by kernel_rfl) (by kernel_rfl) (fun _ _ _ h => h) (Or.inl ⟨by rfl, _⟩) (by assumption) _
        rotate_left 1
        · (intro w hSw; obtain hS1 := hSw; go_simp; (try with_reducible rfl))
        (try simp only [Act.put]); (try simp only [List.setIfInBounds_toArray]); (try simp only [List.set_cons_succ]); (try simp only [List.set_cons_zero])
        refine' wpAnyH_take (i := 3) (oi := { dst := some 47, op := Op.fieldAddr 82 (Operand.tmp 3) 1, type := 0, pos := "find.go:50", after := #[], guard := none }) rfl (by kernel_rfl) (by kernel_rfl) (by kernel_rfl) (fun _ _ _ h => h) (Or.inl ⟨by rfl, _⟩) (by assumption) _
        rotate_left 1
        · (intro w hSw; obtain hS1 := hSw; go_simp; (try with_reducible rfl))
        (try simp only [Act.put]); (try simp only [List.setIfInBounds_toArray]); (try simp only [List.set_cons_succ]); (try simp only [List.set_cons_zero])
        refine' wpAnyH_take (i := 4) (oi := { dst := some 48, op := Op.load 80 (Operand.tmp 47), type := 80, pos := "find.go:50", after := #[{ on := 3, ground := Ground.data }], guard := none }) rfl (by kernel_rfl) (by kernel_rfl) (by kernel_rfl) (fun _ _ _ h => h) (Or.inl ⟨by rfl, _⟩) (by assumption) _
        rotate_left 1
        · (intro w hSw; obtain hS1 := hSw; go_simp; (try with_reducible rfl))
        (try simp only [Act.put]); (try simp only [List.setIfInBounds_toArray]); (try simp only [List.set_cons_succ]); (try simp only [List.set_cons_zero])
        refine' wpAnyH_take (i := 5) (oi := { dst := some 49, op := Op.move (Operand.tmp 6), type := 106, pos := "find.go:50", after := #[], guard := none }) rfl (by kernel_rfl) (by kernel_rfl) (by kernel_rfl) (fun _ _ _ h => h) (Or.inl ⟨by rfl, _⟩) (by assumption) _
        rotate_left 1
        · (intro w hSw; obtain hS1 := hSw; go_simp; (try with_reducible rfl))
        (try simp only [Act.put]); (try simp only [List.setIfInBounds_toArray]); (try simp only [List.set_cons_succ]); (try simp only [List.set_cons_zero])
        refine' wpAnyH_take (i := 7) (oi := { dst := some 51, op := Op.move (Operand.tmp 4), type := 3, pos := "find.go:50", after := #[], guard := none }) rfl (by kernel_rfl) (by kernel_rfl) (by kernel_rfl) (fun _ _ _ h => h) (Or.inl ⟨by rfl, _⟩) (by assumption) _
        rotate_left 1
        · (intro w hSw; obtain hS1 := hSw; go_simp; (try with_reducible rfl))
        (try simp only [Act.put]); (try simp only [List.setIfInBounds_toArray]); (try simp only [List.set_cons_succ]); (try simp only [List.set_cons_zero])
        refine wpAnyH_ready (rs := [6, 8]) (by kernel_rfl) (by simp) ?_
        refine (AllReadyH.cons (o := { dst := some 50, op := Op.lookup 80 (Operand.tmp 48) (Operand.tmp 49) false, type := 109, pos := "find.go:50", after := #[{ on := 4, ground := Ground.data }, { on := 5, ground := Ground.data }], guard := none }) rfl (fun Kc hK => ?_) (AllReadyH.cons (o := { dst := some 52, op := Op.buildSlice 34 1 #[(0, Operand.tmp 51)], type := 34, pos := "find.go:50", after := #[{ on := 7, ground := Ground.data }], guard := none }) rfl (fun Kc hK => ?_) AllReadyH.nil))
        · go_simp
          refine hK.out _ _ HSD.out (fun hHeld => ?_)
          clear hK Kc
          (try simp only [Act.put]); (try simp only [List.setIfInBounds_toArray]); (try simp only [List.set_cons_succ]); (try simp only [List.set_cons_zero])
          refine wpAnyH_ready (rs := [8]) (by kernel_rfl) (by simp) ?_
          refine (AllReadyH.cons (o := { dst := some 52, op := Op.buildSlice 34 1 #[(0, Operand.tmp 51)], type := 34, pos := "find.go:50", after := #[{ on := 7, ground := Ground.data }], guard := none }) rfl (fun Kc hK => ?_) AllReadyH.nil)
          go_simp
          refine hK.out _ _ HSD1.out (fun hHeld => ?_)
          clear hK Kc
          (try simp only [Act.put]); (try simp only [List.setIfInBounds_toArray]); (try simp only [List.set_cons_succ]); (try simp only [List.set_cons_zero])
          refine wpAnyH_ready (rs := [9]) (by kernel_rfl) (by simp) ?_
          refine (AllReadyH.cons (o := { dst := some 53, op := Op.buildSlice 109 1 #[(0, Operand.tmp 52)], type := 109, pos := "find.go:50", after := #[{ on := 8, ground := Ground.data }], guard := none }) rfl (fun Kc hK => ?_) AllReadyH.nil)
          go_simp
          refine hK.out _ _ HSD2.out (fun hHeld => ?_)
          clear hK Kc
          (try simp only [Act.put]); (try simp only [List.setIfInBounds_toArray]); (try simp only [List.set_cons_succ]); (try simp only [List.set_cons_zero])
          refine wpAnyH_ready (rs := [10]) (by kernel_rfl) (by simp) ?_
          refine (AllReadyH.cons (o := { dst := some 54, op := Op.call { callee := Callee.builtin Builtin.append, args := #[Operand.tmp 50, Operand.tmp 53], argTypes := #[109, 109] }, type := 109, pos := "find.go:50", after := #[{ on := 6, ground := Ground.data }, { on := 9, ground := Ground.data }], guard := none }) rfl (fun Kc hK => ?_) AllReadyH.nil)
          refine step_append_anyN (P := Tryz.prog) _ rfl (.tmp 50) (.tmp 53) 109 109 rfl 34 (.slice none 0 0) 1 24 Tryz.underlying109 info34 rfl (.slice none 0 0) 0 [] rfl (World.ownsRow_nil _ 0 34 1) _ 1 [.slice (some ⟨w3.heap.size, 0, none⟩) 1 1] rfl HZ.out.2.1 (by omega) (by omega) ?_
          intro v' w7 ha1 ha2 ha3
          obtain ⟨g9, cap, cur, rfl, h1c, hgc, hsz, -, hcc⟩ := own_get ha1 (by omega)
          have g7 : Gr D2 w7 := (Keeps.ofGrown ha2).mono (fun j _ e => by simp [Value.ownBlock] at e)
          obtain ⟨X, hX, hSX, hEX⟩ := HEnd.out w7 g9 cap cur g7 hgc (by have := hcc 0 _ rfl; simpa [World.cell?, hgc] using this)
          have HSX := hidM hSX
          have HEX := hidM hEX
          have HS7 := hidM (g7.cell' HSD2.out id)
          clear ha1 ha2 ha3 hcc hgc hsz g7 hSX hEX h1c
          refine hK.out _ _ HS7.out (fun hHeld => ?_)
          clear hK Kc
          (try simp only [Act.put]); (try simp only [List.setIfInBounds_toArray]); (try simp only [List.set_cons_succ]); (try simp only [List.set_cons_zero])
          refine wpAnyH_ready (rs := [11]) (by kernel_rfl) (by simp) ?_
          refine (AllReadyH.cons (o := { dst := none, op := Op.mapUpdate 80 (Operand.tmp 45) (Operand.tmp 46) (Operand.tmp 54), type := 0, pos := "find.go:50", after := #[{ on := 1, ground := Ground.data }, { on := 2, ground := Ground.data }, { on := 10, ground := Ground.data }, { on := 10, ground := Ground.chain }, { on := 0, ground := Ground.phase }, { on := 1, ground := Ground.phase }, { on := 2, ground := Ground.phase }, { on := 3, ground := Ground.phase }, { on := 4, ground := Ground.phase }, { on := 5, ground := Ground.phase }, { on := 6, ground := Ground.phase }, { on := 7, ground := Ground.phase }, { on := 8, ground := Ground.phase }, { on := 9, ground := Ground.phase }, { on := 10, ground := Ground.phase }], guard := none }) rfl (fun Kc hK => ?_) AllReadyH.nil)
          go_simp
          refine hK.out _ _ HSX.out (fun hHeld => ?_)
          clear hK Kc
          (try simp only [Act.put]); (try simp only [List.setIfInBounds_toArray]); (try simp only [List.set_cons_succ]); (try simp only [List.set_cons_zero])
          refine wpAnyH_done (by kernel_rfl) ?_ _
          go_wp2_with fail
          go_roundw
          case rel => refine ⟨_, ?_, ?_, HEX⟩; omega; go_num
          case measure => simp [intOf]
        · go_simp
          refine hK.out _ _ HSD1.out (fun hHeld => ?_)
          clear hK Kc
          (try simp only [Act.put]); (try simp only [List.setIfInBounds_toArray]); (try simp only [List.set_cons_succ]); (try simp only [List.set_cons_zero])
          refine wpAnyH_ready (rs := [6, 9]) (by kernel_rfl) (by simp) ?_
          refine (AllReadyH.cons (o := { dst := some 50, op := Op.lookup 80 (Operand.tmp 48) (Operand.tmp 49) false, type := 109, pos := "find.go:50", after := #[{ on := 4, ground := Ground.data }, { on := 5, ground := Ground.data }], guard := none }) rfl (fun Kc hK => ?_) (AllReadyH.cons (o := { dst := some 53, op := Op.buildSlice 109 1 #[(0, Operand.tmp 52)], type := 109, pos := "find.go:50", after := #[{ on := 8, ground := Ground.data }], guard := none }) rfl (fun Kc hK => ?_) AllReadyH.nil))
          · go_simp
            refine hK.out _ _ HSD1.out (fun hHeld => ?_)
            clear hK Kc
            (try simp only [Act.put]); (try simp only [List.setIfInBounds_toArray]); (try simp only [List.set_cons_succ]); (try simp only [List.set_cons_zero])
            refine wpAnyH_ready (rs := [9]) (by kernel_rfl) (by simp) ?_
            refine (AllReadyH.cons (o := { dst := some 53, op := Op.buildSlice 109 1 #[(0, Operand.tmp 52)], type := 109, pos := "find.go:50", after := #[{ on := 8, ground := Ground.data }], guard := none }) rfl (fun Kc hK => ?_) AllReadyH.nil)
            go_simp
            refine hK.out _ _ HSD2.out (fun hHeld => ?_)
            clear hK Kc
            (try simp only [Act.put]); (try simp only [List.setIfInBounds_toArray]); (try simp only [List.set_cons_succ]); (try simp only [List.set_cons_zero])
            refine wpAnyH_ready (rs := [10]) (by kernel_rfl) (by simp) ?_
            refine (AllReadyH.cons (o := { dst := some 54, op := Op.call { callee := Callee.builtin Builtin.append, args := #[Operand.tmp 50, Operand.tmp 53], argTypes := #[109, 109] }, type := 109, pos := "find.go:50", after := #[{ on := 6, ground := Ground.data }, { on := 9, ground := Ground.data }], guard := none }) rfl (fun Kc hK => ?_) AllReadyH.nil)
            refine step_append_anyN (P := Tryz.prog) _ rfl (.tmp 50) (.tmp 53) 109 109 rfl 34 (.slice none 0 0) 1 24 Tryz.underlying109 info34 rfl (.slice none 0 0) 0 [] rfl (World.ownsRow_nil _ 0 34 1) _ 1 [.slice (some ⟨w3.heap.size, 0, none⟩) 1 1] rfl HZ.out.2.1 (by omega) (by omega) ?_
            intro v' w7 ha1 ha2 ha3
            obtain ⟨g9, cap, cur, rfl, h1c, hgc, hsz, -, hcc⟩ := own_get ha1 (by omega)
            have g7 : Gr D2 w7 := (Keeps.ofGrown ha2).mono (fun j _ e => by simp [Value.ownBlock] at e)
            obtain ⟨X, hX, hSX, hEX⟩ := HEnd.out w7 g9 cap cur g7 hgc (by have := hcc 0 _ rfl; simpa [World.cell?, hgc] using this)
            have HSX := hidM hSX
            have HEX := hidM hEX
            have HS7 := hidM (g7.cell' HSD2.out id)
            clear ha1 ha2 ha3 hcc hgc hsz g7 hSX hEX h1c
            refine hK.out _ _ HS7.out (fun hHeld => ?_)
            clear hK Kc
            (try simp only [Act.put]); (try simp only [List.setIfInBounds_toArray]); (try simp only [List.set_cons_succ]); (try simp only [List.set_cons_zero])
            refine wpAnyH_ready (rs := [11]) (by kernel_rfl) (by simp) ?_
            refine (AllReadyH.cons (o := { dst := none, op := Op.mapUpdate 80 (Operand.tmp 45) (Operand.tmp 46) (Operand.tmp 54), type := 0, pos := "find.go:50", after := #[{ on := 1, ground := Ground.data }, { on := 2, ground := Ground.data }, { on := 10, ground := Ground.data }, { on := 10, ground := Ground.chain }, { on := 0, ground := Ground.phase }, { on := 1, ground := Ground.phase }, { on := 2, ground := Ground.phase }, { on := 3, ground := Ground.phase }, { on := 4, ground := Ground.phase }, { on := 5, ground := Ground.phase }, { on := 6, ground := Ground.phase }, { on := 7, ground := Ground.phase }, { on := 8, ground := Ground.phase }, { on := 9, ground := Ground.phase }, { on := 10, ground := Ground.phase }], guard := none }) rfl (fun Kc hK => ?_) AllReadyH.nil)
            go_simp
            refine hK.out _ _ HSX.out (fun hHeld => ?_)
            clear hK Kc
            (try simp only [Act.put]); (try simp only [List.setIfInBounds_toArray]); (try simp only [List.set_cons_succ]); (try simp only [List.set_cons_zero])
            refine wpAnyH_done (by kernel_rfl) ?_ _
            go_wp2_with fail
            go_roundw
            case rel => refine ⟨_, ?_, ?_, HEX⟩; omega; go_num
            case measure => simp [intOf]
          · go_simp
            refine hK.out _ _ HSD2.out (fun hHeld => ?_)
            clear hK Kc
            (try simp only [Act.put]); (try simp only [List.setIfInBounds_toArray]); (try simp only [List.set_cons_succ]); (try simp only [List.set_cons_zero])
            refine wpAnyH_ready (rs := [6]) (by kernel_rfl) (by simp) ?_
            refine (AllReadyH.cons (o := { dst := some 50, op := Op.lookup 80 (Operand.tmp 48) (Operand.tmp 49) false, type := 109, pos := "find.go:50", after := #[{ on := 4, ground := Ground.data }, { on := 5, ground := Ground.data }], guard := none }) rfl (fun Kc hK => ?_) AllReadyH.nil)
            go_simp
            refine hK.out _ _ HSD2.out (fun hHeld => ?_)
            clear hK Kc
            (try simp only [Act.put]); (try simp only [List.setIfInBounds_toArray]); (try simp only [List.set_cons_succ]); (try simp only [List.set_cons_zero])
            refine wpAnyH_ready (rs := [10]) (by kernel_rfl) (by simp) ?_
            refine (AllReadyH.cons (o := { dst := some 54, op := Op.call { callee := Callee.builtin Builtin.append, args := #[Operand.tmp 50, Operand.tmp 53], argTypes := #[109, 109] }, type := 109, pos := "find.go:50", after := #[{ on := 6, ground := Ground.data }, { on := 9, ground := Ground.data }], guard := none }) rfl (fun Kc hK => ?_) AllReadyH.nil)
            refine step_append_anyN (P := Tryz.prog) _ rfl (.tmp 50) (.tmp 53) 109 109 rfl 34 (.slice none 0 0) 1 24 Tryz.underlying109 info34 rfl (.slice none 0 0) 0 [] rfl (World.ownsRow_nil _ 0 34 1) _ 1 [.slice (some ⟨w3.heap.size, 0, none⟩) 1 1] rfl HZ.out.2.1 (by omega) (by omega) ?_
            intro v' w7 ha1 ha2 ha3
            obtain ⟨g9, cap, cur, rfl, h1c, hgc, hsz, -, hcc⟩ := own_get ha1 (by omega)
            have g7 : Gr D2 w7 := (Keeps.ofGrown ha2).mono (fun j _ e => by simp [Value.ownBlock] at e)
            obtain ⟨X, hX, hSX, hEX⟩ := HEnd.out w7 g9 cap cur g7 hgc (by have := hcc 0 _ rfl; simpa [World.cell?, hgc] using this)
            have HSX := hidM hSX
            have HEX := hidM hEX
            have HS7 := hidM (g7.cell' HSD2.out id)
            clear ha1 ha2 ha3 hcc hgc hsz g7 hSX hEX h1c
            refine hK.out _ _ HS7.out (fun hHeld => ?_)
            clear hK Kc
            (try simp only [Act.put]); (try simp only [List.setIfInBounds_toArray]); (try simp only [List.set_cons_succ]); (try simp only [List.set_cons_zero])
            refine wpAnyH_ready (rs := [11]) (by kernel_rfl) (by simp) ?_
            refine (AllReadyH.cons (o := { dst := none, op := Op.mapUpdate 80 (Operand.tmp 45) (Operand.tmp 46) (Operand.tmp 54), type := 0, pos := "find.go:50", after := #[{ on := 1, ground := Ground.data }, { on := 2, ground := Ground.data }, { on := 10, ground := Ground.data }, { on := 10, ground := Ground.chain }, { on := 0, ground := Ground.phase }, { on := 1, ground := Ground.phase }, { on := 2, ground := Ground.phase }, { on := 3, ground := Ground.phase }, { on := 4, ground := Ground.phase }, { on := 5, ground := Ground.phase }, { on := 6, ground := Ground.phase }, { on := 7, ground := Ground.phase }, { on := 8, ground := Ground.phase }, { on := 9, ground := Ground.phase }, { on := 10, ground := Ground.phase }], guard := none }) rfl (fun Kc hK => ?_) AllReadyH.nil)
            go_simp
            refine hK.out _ _ HSX.out (fun hHeld => ?_)
            clear hK Kc
            (try simp only [Act.put]); (try simp only [List.setIfInBounds_toArray]); (try simp only [List.set_cons_succ]); (try simp only [List.set_cons_zero])
            refine wpAnyH_done (by kernel_rfl) ?_ _
            go_wp2_with fail
            go_roundw
            case rel => refine ⟨_, ?_, ?_, HEX⟩; omega; go_num
            case measure => simp [intOf]
    · rw [show ((2 : Nat) : Int) = 2 from rfl]
      obtain ⟨hW, hxb, hrb, hm, hl, n1, n2, n3⟩ := hI
      obtain ⟨v, v', rfl, en0, en1⟩ : ∃ v v', l = [(hR 8, v), (hR 5, v')] ∧ Ent wr 0 v ∧ Ent wr 1 v' := by
        rcases hl with ⟨h, -⟩ | ⟨h, -⟩ | ⟨-, h⟩
        · omega
        · omega
        · exact h
      obtain ⟨U, hU⟩ : ∃ U, setAll wr W.heap.size [(0, .slice (some ⟨gr, 0, none⟩) 2 2), (1, .map (some A0.heap.size))] = U := ⟨_, rfl⟩
      have k1 : Keeps wr U (fun z => z = W.heap.size) := by rw [← hU]; exact setAll_kp _ _ _
      have HU : Hid (U.heap[W.heap.size]? = some (.cells #[.slice (some ⟨gr, 0, none⟩) 2 2, .map (some A0.heap.size)] 82)) := by
        rw [← hU]
        show (setAll wr W.heap.size [(0, .slice (some ⟨gr, 0, none⟩) 2 2), (1, .map (some A0.heap.size))]).heap[W.heap.size]? = _
        rw [setAll_blk W.heap.size 82 _ _ _ hrb]
        simp [setsA]
      have entU : ∀ {i : Int} {v : Value}, Ent wr i v → Ent U i v := fun h => by
        obtain ⟨lb, lc, ib, ic, cur, h1, h2, h3, h4⟩ := h
        refine ⟨lb, lc, ib, ic, cur, h1, (k1.block _ (lt_of_heap h2) (fun e => ?_)).trans h2, h3, (k1.block _ (lt_of_heap h4) (fun e => ?_)).trans h4⟩
        · have e' : lb = W.heap.size := e
          rw [e', hrb] at h2
          cases h2
        · have e' : ib = W.heap.size := e
          rw [e', hrb] at h4
          cases h4
      have HE : Hid (Gr W U ∧ MpAt U A0.heap.size [(hR 8, v), (hR 5, v')] ∧ Ent U 0 v ∧ Ent U 1 v') := ⟨hW.trans k1 (fun j hj e => by have e' : j = W.heap.size := e; omega), (k1.block _ (lt_of_heap hm) (fun e => by have e' : A0.heap.size = W.heap.size := e; omega)).trans hm, entU en0, entU en1⟩
      obtain ⟨e0, e1⟩ := cell2 hxb
      obtain ⟨y0, y1⟩ := cell2 hrb
      have yz := frzA hrb
      simp only [setAll] at hU
      clear hW hxb hrb hm hl n1 n2 n3 en0 en1 k1 entU
      go_wp2_with fail
      (try simp only [Exit.inBlock, Exit.then])
      refine bodyPost_ret (results_cell82 rfl rfl (by with_reducible exact HU.out) (by kernel_rfl)) rfl ?_
      exact ⟨_, _, _, rfl, HE.out⟩
end Go.Proofs.YteggcdhibcjneaaGreatDoor.Kit
