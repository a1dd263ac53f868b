import Derived.Test.YteggcdhibcjneaaGreatDoorMZ
set_option maxRecDepth 100000
set_option maxHeartbeats 4000000
namespace Go.Proofs.YteggcdhibcjneaaGreatDoor.Kit
variable {nx : Bool}
open Go.RowKit Go.Shelf Go.Deep
open Go.Proofs.YteggcdhibcjneaaGreatDoor.Kd (Ans AnsV cell5 cell2)
set_option linter.unusedVariables false
set_option linter.unusedSimpArgs false
attribute [local go_sem] run_store_func

theorem keysOf16 (L g ac db dbc qb bc v2 c2 z zc : Nat) (ao : Option Addr) (ca : Nat) (xs : Nat → Int) (W : World) (hB : Bt nx W L g ac db dbc qb bc v2 c2 ao ca) (hx : ∀ k, k < L → W.cell? ⟨v2, k, none⟩ = some (.int .u8 (xs k)) ∧ (xs k = 5 ∨ xs k = 7 ∨ xs k = 8)) (hz : W.cell? ⟨z, 0, none⟩ = some (.int .i64 0)) :
    Calls Tryz.prog 16 #[.agg #[.slice (some ⟨g, 0, none⟩) 1 ac, .slice none 0 0], .agg #[.int .i64 L, .slice (some ⟨db, 0, none⟩) 1 dbc], .slice (some ⟨z, 0, none⟩) 1 zc] W fun e w' => ∃ gr, e = .returned (.slice (some ⟨gr, 0, none⟩) L L) ∧ Gr W w' ∧ RwsK xs L gr L w' ∧ W.heap.size ≤ gr := by
  have hL := hB.n.hL
  obtain ⟨A0, hA0⟩ : ∃ A, W.alloc (.cells #[.slice (some ⟨g, 0, none⟩) 1 ac, .slice none 0 0] 30) = A := ⟨_, rfl⟩
  have g0 : Gr W A0 := by rw [← hA0]; exact gr_alloc W _
  have b0 : A0.heap[W.heap.size]? = some (.cells #[.slice (some ⟨g, 0, none⟩) 1 ac, .slice none 0 0] 30) := by rw [← hA0]; exact heap_alloc_new W _
  obtain ⟨A1, hA1⟩ : ∃ A, A0.alloc (.cells #[.int .i64 L, .slice (some ⟨db, 0, none⟩) 1 dbc] 33) = A := ⟨_, rfl⟩
  have g1 : Gr A0 A1 := by rw [← hA1]; exact gr_alloc A0 _
  have b1 : A1.heap[A0.heap.size]? = some (.cells #[.int .i64 L, .slice (some ⟨db, 0, none⟩) 1 dbc] 33) := by rw [← hA1]; exact heap_alloc_new A0 _
  obtain ⟨A2, hA2⟩ : ∃ A, A1.alloc (.cells (rwK (fun _ => 0) (fun _ => 0) L 0) 86) = A := ⟨_, rfl⟩
  have g2 : Gr A1 A2 := by rw [← hA2]; exact gr_alloc A1 _
  have b2 : A2.heap[A1.heap.size]? = some (.cells (rwK (fun _ => 0) (fun _ => 0) L 0) 86) := by rw [← hA2]; exact heap_alloc_new A1 _
  have g12 := g1.trans g2 (fun _ _ h => h)
  have gW : Gr W A2 := g0.trans g12 (fun _ _ h => h)
  obtain ⟨e0, e1⟩ := cell2 ((g12.block _ (lt_of_heap b0) id).trans b0)
  obtain ⟨f0, f1⟩ := cell2 ((g2.block _ (lt_of_heap b1) id).trans b1)
  have a0 := (cell2 b1).1
  have h0 := gW.cell' hz id
  have HC := hidM (valuesOf30 L g ac db dbc qb bc v2 c2 ao ca xs A2 (hB.gr gW) (fun k hk => ⟨gW.cell' (hx k hk).1 id, (hx k hk).2⟩))
  have hlt2 := lt_of_heap b2
  have hs0 := g0.size
  have hs1 := g1.size
  have HN : Hid (∀ (w3 : World) (gv : Nat), Gr A2 w3 → A2.heap.size ≤ gv → w3.heap[gv]? = some (.cells (rowK xs L L) 86) → KsI xs W L A1.heap.size gv 0 w3) := fun w3 gv k3 hge hgv => ⟨gW.trans k3 (fun _ _ h => h), ⟨_, _, (k3.block _ hlt2 id).trans b2, fun i hi => absurd hi (Nat.not_lt_zero i)⟩, hgv, by omega, by omega⟩
  have hmk : (Instr.makeSlice 58 (.int .i64 L) (.int .i64 L)).run Tryz.prog A1 = .ok (.slice (some ⟨A1.heap.size, 0, none⟩) L L) A2 := by
    rw [← hA2]
    rcases hL with rfl | rfl
    · exact mk58_2 A1
    · exact mk58_3 A1
  have ⟨c0, c1⟩ := cell2 ((g1.block _ (lt_of_heap b0) id).trans b0)
  clear g0 b0 g1 b1 g2 b2 g12 gW hB hx hz hlt2 hs0 hs1 hA2
  go_enter Tryz.func16, Tryz.ntmps16
  go_wp2_with fail
  clear a0 c0 c1 hmk
  go_loopw [17] (fun i wr => ∃ k : Nat, k ≤ 1 ∧ i = .int .i64 k ∧ Hid ((k = 0 ∧ wr = A2) ∨ (k = 1 ∧ ∃ gv, KsI xs W L A1.heap.size gv L wr))) (fun i _ => 1 - (intOf i).toNat)
  case atStart => exact ⟨0, by omega, rfl, .inl ⟨rfl, rfl⟩⟩
  case round =>
    obtain ⟨k, hk, rfl, HR⟩ := hrel
    rcases HR.out with ⟨rfl, rfl⟩ | ⟨rfl, gv, hE⟩
    · clear HR
      rw [show ((0 : Nat) : Int) = 0 from rfl]
      go_wp2_with (go_at_call 30; refine HC.out.mono ?_; rintro e w3 ⟨gv, rfl, hg3, hge, hgv⟩; have HI := hidM (HN.out w3 gv hg3 hge hgv); clear hg3 hge hgv)
      clear e0 e1 f0 f1 h0
      go_loopw [26] (fun i wr => ∃ k : Nat, k ≤ L ∧ i = .int .i64 k ∧ Hid (KsI xs W L A1.heap.size gv k wr)) (fun i _ => L - (intOf i).toNat)
      case atStart => exact ⟨0, by omega, rfl, HI⟩
      case round =>
        clear HI
        obtain ⟨k, hk, rfl, HI⟩ := hrel
        by_cases hlt : k < L
        · obtain ⟨x, hx⟩ : ∃ x, x = xs k := ⟨_, rfl⟩
          obtain ⟨v0, v1, v2', v3⟩ := valCells hL hlt HI.out.2.2.1
          rw [← hx] at v1
          obtain ⟨A, hA⟩ : ∃ A, wr.alloc (.cells #[.bool false, .int .i64 x, .string ⟨#[]⟩, .slice none 0 0] 86) = A := ⟨_, rfl⟩
          have gA : Gr wr A := by rw [← hA]; exact gr_alloc wr _
          have bA : A.heap[wr.heap.size]? = some (.cells #[.bool false, .int .i64 x, .string ⟨#[]⟩, .slice none 0 0] 86) := by rw [← hA]; exact heap_alloc_new wr _
          have hAs : A.heap.size = wr.heap.size + 1 := by rw [← hA]; simp
          have bD : A.drew.heap[A1.heap.size]? = wr.heap[A1.heap.size]? := (gA.trans (gr_drew (w := A)) (fun _ _ h => h)).block _ (by obtain ⟨ls, cs, hr, -⟩ := HI.out.2.1; exact lt_of_heap hr) id
          obtain ⟨Zd, hZd⟩ : ∃ Z, A.drew.alloc (.cells #[.bool false, .int .i64 0, .string ⟨#[]⟩, .slice none 0 0] 86) = Z := ⟨_, rfl⟩
          have gZ : Gr A.drew Zd := by rw [← hZd]; exact gr_alloc _ _
          have HZ : Hid (Gr A Zd ∧ Src Tryz.prog 4 58 (.slice (some ⟨A.heap.size, 0, none⟩) 1 1) 1 [.bool false, .int .i64 0, .string ⟨#[]⟩, .slice none 0 0] Zd) := ⟨(gr_drew (w := A)).trans gZ (fun _ _ h => h), srcZ (by rw [← hZd]; exact heap_alloc_new _ _)⟩
          have HSD := hidM (cell4 ((gr_drew (w := A)).block _ (lt_of_heap bA) id |>.trans bA))
          have HSZ := hidM (cell4 (HZ.out.1.block _ (lt_of_heap bA) id |>.trans bA))
          have c3D : A.drew.cell? ⟨A1.heap.size, 4 * k + 3, none⟩ = some (.slice none 0 0) := by
            obtain ⟨ls, cs, hr, -⟩ := HI.out.2.1
            exact rwK_cell hL hlt (bD.trans hr)
          have c3Z := gZ.cell' c3D id
          have HEnd := hidM (fun (w7 : World) (g9 cap : Nat) (cur : Array Value) (h1 : Gr A w7) (h2 : w7.heap[g9]? = some (.cells cur 86 (0, 0))) (h3 : cur.size = cap * 4) (h4 : 1 ≤ cap) (h5 : A.heap.size ≤ g9) => keys_end hL hlt hx HI.out gA bA hAs h1 h2 h3 h4 h5)
          obtain ⟨y0, y1, y2, y3⟩ := cell4 bA
          have yz := frzA bA
          have i0 := set_id (j := 0) (v := .bool false) bA rfl
          have i1 := set_id (j := 1) (v := .int .i64 x) bA rfl
          have i2 := set_id (j := 2) (v := .string ⟨#[]⟩) bA rfl
          have i3 := set_id (j := 3) (v := .slice none 0 0) bA rfl
          clear gA bA hAs bD gZ hx
          have l0 : (0 : Int) ≤ (L : Int) := by omega
          have lk : (k : Int) < (L : Int) := by omega
          rcases (show k = 0 ∨ k = 1 ∨ k = 2 by omega) with rfl | rfl | rfl
          all_goals
            simp only [Nat.reduceMul, Nat.reduceAdd] at v0 v1 v2' v3 c3D c3Z
            go_wp2_with fail
            clear y0 y1 y2 y3 yz i0 i1 i2 i3
            refine wp_region_held_drew (S := fun w' => w'.cell? ⟨wr.heap.size, 0, none⟩ = some (.bool false) ∧ w'.cell? ⟨wr.heap.size, 1, none⟩ = some (.int .i64 x) ∧ w'.cell? ⟨wr.heap.size, 2, none⟩ = some (.string ⟨#[]⟩) ∧ w'.cell? ⟨wr.heap.size, 3, none⟩ = some (.slice none 0 0)) (by kernel_rfl) (HSD.out) (fun hHeld => ?_)
            refine' wpAnyH_take (i := 0) (oi := { dst := some 31, op := Op.move (Operand.tmp 7), type := 58, pos := "find.go:22", after := #[], guard := none }) rfl (by kernel_rfl) (by kernel_rfl) (by kernel_rfl) (fun _ _ _ h => h) (Or.inl ⟨by rfl, _⟩) (by assumption) _
            rotate_left 1
            · (intro w hSw; obtain ⟨s0, s1, s2, s3⟩ := hSw; go_simp; (try with_reducible rfl))
            (try simp only [Act.put]); (try simp only [List.setIfInBounds_toArray]); (try simp only [List.set_cons_succ]); (try simp only [List.set_cons_zero])
            refine' wpAnyH_take (i := 1) (oi := { dst := some 32, op := Op.move (Operand.tmp 10), type := 3, pos := "find.go:22", after := #[], guard := none }) rfl (by kernel_rfl) (by kernel_rfl) (by kernel_rfl) (fun _ _ _ h => h) (Or.inl ⟨by rfl, _⟩) (by assumption) _
            rotate_left 1
            · (intro w hSw; obtain ⟨s0, s1, s2, s3⟩ := hSw; go_simp; (try with_reducible rfl))
            (try simp only [Act.put]); (try simp only [List.setIfInBounds_toArray]); (try simp only [List.set_cons_succ]); (try simp only [List.set_cons_zero])
            refine' wpAnyH_take (i := 2) (oi := { dst := some 33, op := Op.indexAddr 58 (Operand.tmp 31) (Operand.tmp 32), type := 0, pos := "find.go:22", after := #[{ on := 0, ground := Ground.data }, { on := 1, ground := Ground.data }], guard := none }) rfl (by kernel_rfl) (by kernel_rfl) (by kernel_rfl) (fun _ _ _ h => h) (Or.inl ⟨by rfl, _⟩) (by assumption) _
            rotate_left 1
            · (intro w hSw; obtain ⟨s0, s1, s2, s3⟩ := hSw; go_simp; (try with_reducible rfl))
            (try simp only [Act.put]); (try simp only [List.setIfInBounds_toArray]); (try simp only [List.set_cons_succ]); (try simp only [List.set_cons_zero])
            refine' wpAnyH_take (i := 3) (oi := { dst := some 34, op := Op.fieldAddr 86 (Operand.tmp 33) 3, type := 0, pos := "find.go:22", after := #[{ on := 2, ground := Ground.data }], guard := none }) rfl (by kernel_rfl) (by kernel_rfl) (by kernel_rfl) (fun _ _ _ h => h) (Or.inl ⟨by rfl, _⟩) (by assumption) _
            rotate_left 1
            · (intro w hSw; obtain ⟨s0, s1, s2, s3⟩ := hSw; go_simp; (try with_reducible rfl))
            (try simp only [Act.put]); (try simp only [List.setIfInBounds_toArray]); (try simp only [List.set_cons_succ]); (try simp only [List.set_cons_zero])
            refine' wpAnyH_take (i := 5) (oi := { dst := some 36, op := Op.load 86 (Operand.tmp 11), type := 86, pos := "find.go:22", after := #[], guard := none }) rfl (by kernel_rfl) (by kernel_rfl) (by kernel_rfl) (fun _ _ _ h => h) (Or.inl ⟨by rfl, _⟩) (by assumption) _
            rotate_left 1
            · (intro w hSw; obtain ⟨s0, s1, s2, s3⟩ := hSw; go_simp; (try with_reducible rfl))
            (try simp only [Act.put]); (try simp only [List.setIfInBounds_toArray]); (try simp only [List.set_cons_succ]); (try simp only [List.set_cons_zero])
            refine wpAnyH_ready (rs := [4, 7]) (by kernel_rfl) (by simp) ?_
            refine (AllReadyH.cons (o := { dst := some 35, op := Op.load 58 (Operand.tmp 34), type := 58, pos := "find.go:22", after := #[{ on := 3, ground := Ground.data }], guard := none }) rfl (fun Kc hK => ?_) (AllReadyH.cons (o := { dst := some 38, op := Op.buildSlice 58 1 #[(0, Operand.const (Value.agg #[Value.bool false, Value.int IntKind.i64 0, Value.string { data := #[] }, Value.slice none 0 0]))], type := 58, pos := "find.go:22", after := #[], guard := none }) rfl (fun Kc hK => ?_) AllReadyH.nil))
            · go_simp
              refine hK.out _ _ HSD.out (fun hHeld => ?_)
              clear hK Kc
              (try simp only [Act.put]); (try simp only [List.setIfInBounds_toArray]); (try simp only [List.set_cons_succ]); (try simp only [List.set_cons_zero])
              refine' wpAnyH_take (i := 6) (oi := { dst := some 37, op := Op.call { callee := Callee.builtin Builtin.len, args := #[Operand.tmp 35], argTypes := #[58] }, type := 3, pos := "find.go:22", after := #[{ on := 4, ground := Ground.data }], guard := none }) rfl (by kernel_rfl) (by kernel_rfl) (by kernel_rfl) (fun _ _ _ h => h) (Or.inl ⟨by rfl, _⟩) (by assumption) _
              rotate_left 1
              · (intro w hSw; obtain ⟨s0, s1, s2, s3⟩ := hSw; go_simp; (try with_reducible rfl))
              (try simp only [Act.put]); (try simp only [List.setIfInBounds_toArray]); (try simp only [List.set_cons_succ]); (try simp only [List.set_cons_zero])
              refine wpAnyH_ready (rs := [7]) (by kernel_rfl) (by simp) ?_
              refine (AllReadyH.cons (o := { dst := some 38, op := Op.buildSlice 58 1 #[(0, Operand.const (Value.agg #[Value.bool false, Value.int IntKind.i64 0, Value.string { data := #[] }, Value.slice none 0 0]))], type := 58, pos := "find.go:22", after := #[], guard := none }) rfl (fun Kc hK => ?_) AllReadyH.nil)
              go_simp
              refine hK.out _ _ HSZ.out (fun hHeld => ?_)
              clear hK Kc
              (try simp only [Act.put]); (try simp only [List.setIfInBounds_toArray]); (try simp only [List.set_cons_succ]); (try simp only [List.set_cons_zero])
              refine wpAnyH_ready (rs := [8]) (by kernel_rfl) (by simp) ?_
              refine (AllReadyH.cons (o := { dst := some 39, op := Op.call { callee := Callee.builtin Builtin.append, args := #[Operand.tmp 35, Operand.tmp 38], argTypes := #[58, 58] }, type := 58, pos := "find.go:22", after := #[{ on := 4, ground := Ground.data }, { on := 7, ground := Ground.data }, { on := 0, ground := Ground.phase }, { on := 1, ground := Ground.phase }, { on := 2, ground := Ground.phase }, { on := 3, ground := Ground.phase }, { on := 4, ground := Ground.phase }, { on := 5, ground := Ground.phase }, { on := 6, ground := Ground.phase }, { on := 7, ground := Ground.phase }], guard := none }) rfl (fun Kc hK => ?_) AllReadyH.nil)
              refine step_append_anyN (P := Tryz.prog) _ rfl (.tmp 35) (.tmp 38) 58 58 rfl 86 (.agg #[.bool false, .int .i64 0, .string ⟨#[]⟩, .slice none 0 0]) 4 56 Tryz.underlying58 info37 rfl (.slice none 0 0) 0 [] rfl (World.ownsRow_nil _ 0 86 4) _ 1 [.bool false, .int .i64 0, .string ⟨#[]⟩, .slice none 0 0] rfl HZ.out.2 (by omega) (by omega) ?_
              intro v' w7 ha1 ha2 ha3
              obtain ⟨g9, cap, cur, rfl, h1c, hgc, hsz, -, hcc⟩ := own_get ha1 (by omega)
              have g7 : Gr A w7 := HZ.out.1.trans (Keeps.ofGrown ha2) (fun j hj e => by simp [Value.ownBlock] at e)
              obtain ⟨X6, hX6, X7, hX7, X67, hX67, X76, hX76, hSt⟩ := HEnd.out w7 g9 cap cur g7 hgc hsz h1c (ha3.elim (fun e => by simp [Value.ownBlock] at e) (fun e => Nat.le_trans HZ.out.1.size (e g9 rfl)))
              simp only [Nat.reduceMul, Nat.reduceAdd] at hX6 hX7 hX67 hX76
              obtain ⟨hs7, hs6, hs7b, hs67, hs76, hc7, hc6, hz6, hc7g, hz7g, hE67, hE76⟩ := hSt
              simp only [Nat.reduceMul, Nat.reduceAdd] at hc7 hc6 hz6
              have HS7 := hidM hs7
              have HS6 := hidM hs6
              have HS7b := hidM hs7b
              have HS67 := hidM hs67
              have HS76 := hidM hs76
              have HE67 := hidM hE67
              have HE76 := hidM hE76
              have n0 := hcc 0 _ rfl
              have n1 := hcc 1 _ rfl
              have n2 := hcc 2 _ rfl
              have n3 := hcc 3 _ rfl
              have nz := frzA hgc
              obtain ⟨⟨_, m0⟩, ⟨_, m1⟩, ⟨_, m2⟩, ⟨_, m3⟩⟩ := hc7g
              obtain ⟨hz6a, hz6b⟩ := hz6
              simp only [setAll] at hX6 hX76
              clear ha1 ha2 ha3 hcc hgc hsz g7 hs7 hs6 hs7b hs67 hs76 hE67 hE76
              refine hK.out _ _ HS7.out (fun hHeld => ?_)
              clear hK Kc
              (try simp only [Act.put]); (try simp only [List.setIfInBounds_toArray]); (try simp only [List.set_cons_succ]); (try simp only [List.set_cons_zero])
              refine' wpAnyH_take (i := 9) (oi := { dst := some 40, op := Op.indexAddr 58 (Operand.tmp 39) (Operand.tmp 37), type := 0, pos := "find.go:22", after := #[{ on := 8, ground := Ground.data }, { on := 6, ground := Ground.data }, { on := 0, ground := Ground.phase }, { on := 1, ground := Ground.phase }, { on := 2, ground := Ground.phase }, { on := 3, ground := Ground.phase }, { on := 4, ground := Ground.phase }, { on := 5, ground := Ground.phase }, { on := 6, ground := Ground.phase }, { on := 7, ground := Ground.phase }, { on := 8, ground := Ground.phase }, { on := 13, ground := Ground.gcOnly Departure.appendInPlace }], guard := none }) rfl (by kernel_rfl) (by kernel_rfl) (by kernel_rfl) (fun _ _ _ h => h) (Or.inl ⟨by rfl, _⟩) (by assumption) _
              rotate_left 1
              · (intro w hSw; obtain ⟨s0, s1, s2, s3⟩ := hSw; go_simp; (try with_reducible rfl))
              (try simp only [Act.put]); (try simp only [List.setIfInBounds_toArray]); (try simp only [List.set_cons_succ]); (try simp only [List.set_cons_zero])
              refine' wpAnyH_take (i := 11) (oi := { dst := some 41, op := Op.indexAddr 58 (Operand.tmp 31) (Operand.tmp 32), type := 0, pos := "find.go:22", after := #[{ on := 0, ground := Ground.data }, { on := 1, ground := Ground.data }, { on := 0, ground := Ground.phase }, { on := 1, ground := Ground.phase }, { on := 2, ground := Ground.phase }, { on := 3, ground := Ground.phase }, { on := 4, ground := Ground.phase }, { on := 5, ground := Ground.phase }, { on := 6, ground := Ground.phase }, { on := 7, ground := Ground.phase }, { on := 8, ground := Ground.phase }, { on := 9, ground := Ground.textOnly Departure.appendInPlace }, { on := 10, ground := Ground.textOnly Departure.appendInPlace }], guard := none }) rfl (by kernel_rfl) (by kernel_rfl) (by kernel_rfl) (fun _ _ _ h => h) (Or.inl ⟨by rfl, _⟩) (by assumption) _
              rotate_left 1
              · (intro w hSw; obtain ⟨s0, s1, s2, s3⟩ := hSw; go_simp; (try with_reducible rfl))
              (try simp only [Act.put]); (try simp only [List.setIfInBounds_toArray]); (try simp only [List.set_cons_succ]); (try simp only [List.set_cons_zero])
              refine' wpAnyH_take (i := 12) (oi := { dst := some 42, op := Op.fieldAddr 86 (Operand.tmp 41) 3, type := 0, pos := "find.go:22", after := #[{ on := 11, ground := Ground.data }, { on := 0, ground := Ground.phase }, { on := 1, ground := Ground.phase }, { on := 2, ground := Ground.phase }, { on := 3, ground := Ground.phase }, { on := 4, ground := Ground.phase }, { on := 5, ground := Ground.phase }, { on := 6, ground := Ground.phase }, { on := 7, ground := Ground.phase }, { on := 8, ground := Ground.phase }, { on := 9, ground := Ground.textOnly Departure.appendInPlace }, { on := 10, ground := Ground.textOnly Departure.appendInPlace }], guard := none }) rfl (by kernel_rfl) (by kernel_rfl) (by kernel_rfl) (fun _ _ _ h => h) (Or.inl ⟨by rfl, _⟩) (by assumption) _
              rotate_left 1
              · (intro w hSw; obtain ⟨s0, s1, s2, s3⟩ := hSw; go_simp; (try with_reducible rfl))
              (try simp only [Act.put]); (try simp only [List.setIfInBounds_toArray]); (try simp only [List.set_cons_succ]); (try simp only [List.set_cons_zero])
              refine wpAnyH_ready (rs := [10, 13]) (by kernel_rfl) (by simp) ?_
              refine (AllReadyH.cons (o := { dst := none, op := Op.store 86 (Operand.tmp 40) (Operand.tmp 36), type := 0, pos := "find.go:22", after := #[{ on := 9, ground := Ground.data }, { on := 5, ground := Ground.data }, { on := 8, ground := Ground.chain }, { on := 0, ground := Ground.phase }, { on := 1, ground := Ground.phase }, { on := 2, ground := Ground.phase }, { on := 3, ground := Ground.phase }, { on := 4, ground := Ground.phase }, { on := 5, ground := Ground.phase }, { on := 6, ground := Ground.phase }, { on := 7, ground := Ground.phase }, { on := 8, ground := Ground.phase }, { on := 13, ground := Ground.gcOnly Departure.appendInPlace }], guard := none }) rfl (fun Kc hK => ?_) (AllReadyH.cons (o := { dst := none, op := Op.store 58 (Operand.tmp 42) (Operand.tmp 39), type := 0, pos := "find.go:22", after := #[{ on := 12, ground := Ground.data }, { on := 8, ground := Ground.data }, { on := 8, ground := Ground.chain }, { on := 10, ground := Ground.textOnly Departure.appendInPlace }, { on := 0, ground := Ground.phase }, { on := 1, ground := Ground.phase }, { on := 2, ground := Ground.phase }, { on := 3, ground := Ground.phase }, { on := 4, ground := Ground.phase }, { on := 5, ground := Ground.phase }, { on := 6, ground := Ground.phase }, { on := 7, ground := Ground.phase }, { on := 8, ground := Ground.phase }, { on := 9, ground := Ground.textOnly Departure.appendInPlace }, { on := 10, ground := Ground.textOnly Departure.appendInPlace }], guard := none }) rfl (fun Kc hK => ?_) AllReadyH.nil))
              · go_simp
                refine hK.out _ _ HS6.out (fun hHeld => ?_)
                clear hK Kc
                (try simp only [Act.put]); (try simp only [List.setIfInBounds_toArray]); (try simp only [List.set_cons_succ]); (try simp only [List.set_cons_zero])
                refine wpAnyH_ready (rs := [13]) (by kernel_rfl) (by simp) ?_
                refine (AllReadyH.cons (o := { dst := none, op := Op.store 58 (Operand.tmp 42) (Operand.tmp 39), type := 0, pos := "find.go:22", after := #[{ on := 12, ground := Ground.data }, { on := 8, ground := Ground.data }, { on := 8, ground := Ground.chain }, { on := 10, ground := Ground.textOnly Departure.appendInPlace }, { on := 0, ground := Ground.phase }, { on := 1, ground := Ground.phase }, { on := 2, ground := Ground.phase }, { on := 3, ground := Ground.phase }, { on := 4, ground := Ground.phase }, { on := 5, ground := Ground.phase }, { on := 6, ground := Ground.phase }, { on := 7, ground := Ground.phase }, { on := 8, ground := Ground.phase }, { on := 9, ground := Ground.textOnly Departure.appendInPlace }, { on := 10, ground := Ground.textOnly Departure.appendInPlace }], guard := none }) rfl (fun Kc hK => ?_) AllReadyH.nil)
                go_simp
                refine hK.out _ _ HS67.out (fun hHeld => ?_)
                clear hK Kc
                (try simp only [Act.put]); (try simp only [List.setIfInBounds_toArray]); (try simp only [List.set_cons_succ]); (try simp only [List.set_cons_zero])
                refine wpAnyH_done (by kernel_rfl) ?_ _
                go_wp2_with fail
                go_roundw
                case rel => refine ⟨_, ?_, ?_, HE67⟩; omega; go_num
                case measure => simp [intOf]; omega
              · go_simp
                refine hK.out _ _ HS7b.out (fun hHeld => ?_)
                clear hK Kc
                (try simp only [Act.put]); (try simp only [List.setIfInBounds_toArray]); (try simp only [List.set_cons_succ]); (try simp only [List.set_cons_zero])
                refine wpAnyH_ready (rs := [10]) (by kernel_rfl) (by simp) ?_
                refine (AllReadyH.cons (o := { dst := none, op := Op.store 86 (Operand.tmp 40) (Operand.tmp 36), type := 0, pos := "find.go:22", after := #[{ on := 9, ground := Ground.data }, { on := 5, ground := Ground.data }, { on := 8, ground := Ground.chain }, { on := 0, ground := Ground.phase }, { on := 1, ground := Ground.phase }, { on := 2, ground := Ground.phase }, { on := 3, ground := Ground.phase }, { on := 4, ground := Ground.phase }, { on := 5, ground := Ground.phase }, { on := 6, ground := Ground.phase }, { on := 7, ground := Ground.phase }, { on := 8, ground := Ground.phase }, { on := 13, ground := Ground.gcOnly Departure.appendInPlace }], guard := none }) rfl (fun Kc hK => ?_) AllReadyH.nil)
                go_simp
                refine hK.out _ _ HS76.out (fun hHeld => ?_)
                clear hK Kc
                (try simp only [Act.put]); (try simp only [List.setIfInBounds_toArray]); (try simp only [List.set_cons_succ]); (try simp only [List.set_cons_zero])
                refine wpAnyH_done (by kernel_rfl) ?_ _
                go_wp2_with fail
                go_roundw
                case rel => refine ⟨_, ?_, ?_, HE76⟩; omega; go_num
                case measure => simp [intOf]; omega
            · go_simp
              refine hK.out _ _ HSZ.out (fun hHeld => ?_)
              clear hK Kc
              (try simp only [Act.put]); (try simp only [List.setIfInBounds_toArray]); (try simp only [List.set_cons_succ]); (try simp only [List.set_cons_zero])
              refine wpAnyH_ready (rs := [4]) (by kernel_rfl) (by simp) ?_
              refine (AllReadyH.cons (o := { dst := some 35, op := Op.load 58 (Operand.tmp 34), type := 58, pos := "find.go:22", after := #[{ on := 3, ground := Ground.data }], guard := none }) rfl (fun Kc hK => ?_) AllReadyH.nil)
              go_simp
              refine hK.out _ _ HSZ.out (fun hHeld => ?_)
              clear hK Kc
              (try simp only [Act.put]); (try simp only [List.setIfInBounds_toArray]); (try simp only [List.set_cons_succ]); (try simp only [List.set_cons_zero])
              refine' wpAnyH_take (i := 6) (oi := { dst := some 37, op := Op.call { callee := Callee.builtin Builtin.len, args := #[Operand.tmp 35], argTypes := #[58] }, type := 3, pos := "find.go:22", after := #[{ on := 4, ground := Ground.data }], guard := none }) rfl (by kernel_rfl) (by kernel_rfl) (by kernel_rfl) (fun _ _ _ h => h) (Or.inl ⟨by rfl, _⟩) (by assumption) _
              rotate_left 1
              · (intro w hSw; obtain ⟨s0, s1, s2, s3⟩ := hSw; go_simp; (try with_reducible rfl))
              (try simp only [Act.put]); (try simp only [List.setIfInBounds_toArray]); (try simp only [List.set_cons_succ]); (try simp only [List.set_cons_zero])
              refine wpAnyH_ready (rs := [8]) (by kernel_rfl) (by simp) ?_
              refine (AllReadyH.cons (o := { dst := some 39, op := Op.call { callee := Callee.builtin Builtin.append, args := #[Operand.tmp 35, Operand.tmp 38], argTypes := #[58, 58] }, type := 58, pos := "find.go:22", after := #[{ on := 4, ground := Ground.data }, { on := 7, ground := Ground.data }, { on := 0, ground := Ground.phase }, { on := 1, ground := Ground.phase }, { on := 2, ground := Ground.phase }, { on := 3, ground := Ground.phase }, { on := 4, ground := Ground.phase }, { on := 5, ground := Ground.phase }, { on := 6, ground := Ground.phase }, { on := 7, ground := Ground.phase }], guard := none }) rfl (fun Kc hK => ?_) AllReadyH.nil)
              refine step_append_anyN (P := Tryz.prog) _ rfl (.tmp 35) (.tmp 38) 58 58 rfl 86 (.agg #[.bool false, .int .i64 0, .string ⟨#[]⟩, .slice none 0 0]) 4 56 Tryz.underlying58 info37 rfl (.slice none 0 0) 0 [] rfl (World.ownsRow_nil _ 0 86 4) _ 1 [.bool false, .int .i64 0, .string ⟨#[]⟩, .slice none 0 0] rfl HZ.out.2 (by omega) (by omega) ?_
              intro v' w7 ha1 ha2 ha3
              obtain ⟨g9, cap, cur, rfl, h1c, hgc, hsz, -, hcc⟩ := own_get ha1 (by omega)
              have g7 : Gr A w7 := HZ.out.1.trans (Keeps.ofGrown ha2) (fun j hj e => by simp [Value.ownBlock] at e)
              obtain ⟨X6, hX6, X7, hX7, X67, hX67, X76, hX76, hSt⟩ := HEnd.out w7 g9 cap cur g7 hgc hsz h1c (ha3.elim (fun e => by simp [Value.ownBlock] at e) (fun e => Nat.le_trans HZ.out.1.size (e g9 rfl)))
              simp only [Nat.reduceMul, Nat.reduceAdd] at hX6 hX7 hX67 hX76
              obtain ⟨hs7, hs6, hs7b, hs67, hs76, hc7, hc6, hz6, hc7g, hz7g, hE67, hE76⟩ := hSt
              simp only [Nat.reduceMul, Nat.reduceAdd] at hc7 hc6 hz6
              have HS7 := hidM hs7
              have HS6 := hidM hs6
              have HS7b := hidM hs7b
              have HS67 := hidM hs67
              have HS76 := hidM hs76
              have HE67 := hidM hE67
              have HE76 := hidM hE76
              have n0 := hcc 0 _ rfl
              have n1 := hcc 1 _ rfl
              have n2 := hcc 2 _ rfl
              have n3 := hcc 3 _ rfl
              have nz := frzA hgc
              obtain ⟨⟨_, m0⟩, ⟨_, m1⟩, ⟨_, m2⟩, ⟨_, m3⟩⟩ := hc7g
              obtain ⟨hz6a, hz6b⟩ := hz6
              simp only [setAll] at hX6 hX76
              clear ha1 ha2 ha3 hcc hgc hsz g7 hs7 hs6 hs7b hs67 hs76 hE67 hE76
              refine hK.out _ _ HS7.out (fun hHeld => ?_)
              clear hK Kc
              (try simp only [Act.put]); (try simp only [List.setIfInBounds_toArray]); (try simp only [List.set_cons_succ]); (try simp only [List.set_cons_zero])
              refine' wpAnyH_take (i := 9) (oi := { dst := some 40, op := Op.indexAddr 58 (Operand.tmp 39) (Operand.tmp 37), type := 0, pos := "find.go:22", after := #[{ on := 8, ground := Ground.data }, { on := 6, ground := Ground.data }, { on := 0, ground := Ground.phase }, { on := 1, ground := Ground.phase }, { on := 2, ground := Ground.phase }, { on := 3, ground := Ground.phase }, { on := 4, ground := Ground.phase }, { on := 5, ground := Ground.phase }, { on := 6, ground := Ground.phase }, { on := 7, ground := Ground.phase }, { on := 8, ground := Ground.phase }, { on := 13, ground := Ground.gcOnly Departure.appendInPlace }], guard := none }) rfl (by kernel_rfl) (by kernel_rfl) (by kernel_rfl) (fun _ _ _ h => h) (Or.inl ⟨by rfl, _⟩) (by assumption) _
              rotate_left 1
              · (intro w hSw; obtain ⟨s0, s1, s2, s3⟩ := hSw; go_simp; (try with_reducible rfl))
              (try simp only [Act.put]); (try simp only [List.setIfInBounds_toArray]); (try simp only [List.set_cons_succ]); (try simp only [List.set_cons_zero])
              refine' wpAnyH_take (i := 11) (oi := { dst := some 41, op := Op.indexAddr 58 (Operand.tmp 31) (Operand.tmp 32), type := 0, pos := "find.go:22", after := #[{ on := 0, ground := Ground.data }, { on := 1, ground := Ground.data }, { on := 0, ground := Ground.phase }, { on := 1, ground := Ground.phase }, { on := 2, ground := Ground.phase }, { on := 3, ground := Ground.phase }, { on := 4, ground := Ground.phase }, { on := 5, ground := Ground.phase }, { on := 6, ground := Ground.phase }, { on := 7, ground := Ground.phase }, { on := 8, ground := Ground.phase }, { on := 9, ground := Ground.textOnly Departure.appendInPlace }, { on := 10, ground := Ground.textOnly Departure.appendInPlace }], guard := none }) rfl (by kernel_rfl) (by kernel_rfl) (by kernel_rfl) (fun _ _ _ h => h) (Or.inl ⟨by rfl, _⟩) (by assumption) _
              rotate_left 1
              · (intro w hSw; obtain ⟨s0, s1, s2, s3⟩ := hSw; go_simp; (try with_reducible rfl))
              (try simp only [Act.put]); (try simp only [List.setIfInBounds_toArray]); (try simp only [List.set_cons_succ]); (try simp only [List.set_cons_zero])
              refine' wpAnyH_take (i := 12) (oi := { dst := some 42, op := Op.fieldAddr 86 (Operand.tmp 41) 3, type := 0, pos := "find.go:22", after := #[{ on := 11, ground := Ground.data }, { on := 0, ground := Ground.phase }, { on := 1, ground := Ground.phase }, { on := 2, ground := Ground.phase }, { on := 3, ground := Ground.phase }, { on := 4, ground := Ground.phase }, { on := 5, ground := Ground.phase }, { on := 6, ground := Ground.phase }, { on := 7, ground := Ground.phase }, { on := 8, ground := Ground.phase }, { on := 9, ground := Ground.textOnly Departure.appendInPlace }, { on := 10, ground := Ground.textOnly Departure.appendInPlace }], guard := none }) rfl (by kernel_rfl) (by kernel_rfl) (by kernel_rfl) (fun _ _ _ h => h) (Or.inl ⟨by rfl, _⟩) (by assumption) _
              rotate_left 1
              · (intro w hSw; obtain ⟨s0, s1, s2, s3⟩ := hSw; go_simp; (try with_reducible rfl))
              (try simp only [Act.put]); (try simp only [List.setIfInBounds_toArray]); (try simp only [List.set_cons_succ]); (try simp only [List.set_cons_zero])
              refine wpAnyH_ready (rs := [10, 13]) (by kernel_rfl) (by simp) ?_
              refine (AllReadyH.cons (o := { dst := none, op := Op.store 86 (Operand.tmp 40) (Operand.tmp 36), type := 0, pos := "find.go:22", after := #[{ on := 9, ground := Ground.data }, { on := 5, ground := Ground.data }, { on := 8, ground := Ground.chain }, { on := 0, ground := Ground.phase }, { on := 1, ground := Ground.phase }, { on := 2, ground := Ground.phase }, { on := 3, ground := Ground.phase }, { on := 4, ground := Ground.phase }, { on := 5, ground := Ground.phase }, { on := 6, ground := Ground.phase }, { on := 7, ground := Ground.phase }, { on := 8, ground := Ground.phase }, { on := 13, ground := Ground.gcOnly Departure.appendInPlace }], guard := none }) rfl (fun Kc hK => ?_) (AllReadyH.cons (o := { dst := none, op := Op.store 58 (Operand.tmp 42) (Operand.tmp 39), type := 0, pos := "find.go:22", after := #[{ on := 12, ground := Ground.data }, { on := 8, ground := Ground.data }, { on := 8, ground := Ground.chain }, { on := 10, ground := Ground.textOnly Departure.appendInPlace }, { on := 0, ground := Ground.phase }, { on := 1, ground := Ground.phase }, { on := 2, ground := Ground.phase }, { on := 3, ground := Ground.phase }, { on := 4, ground := Ground.phase }, { on := 5, ground := Ground.phase }, { on := 6, ground := Ground.phase }, { on := 7, ground := Ground.phase }, { on := 8, ground := Ground.phase }, { on := 9, ground := Ground.textOnly Departure.appendInPlace }, { on := 10, ground := Ground.textOnly Departure.appendInPlace }], guard := none }) rfl (fun Kc hK => ?_) AllReadyH.nil))
              · go_simp
                refine hK.out _ _ HS6.out (fun hHeld => ?_)
                clear hK Kc
                (try simp only [Act.put]); (try simp only [List.setIfInBounds_toArray]); (try simp only [List.set_cons_succ]); (try simp only [List.set_cons_zero])
                refine wpAnyH_ready (rs := [13]) (by kernel_rfl) (by simp) ?_
                refine (AllReadyH.cons (o := { dst := none, op := Op.store 58 (Operand.tmp 42) (Operand.tmp 39), type := 0, pos := "find.go:22", after := #[{ on := 12, ground := Ground.data }, { on := 8, ground := Ground.data }, { on := 8, ground := Ground.chain }, { on := 10, ground := Ground.textOnly Departure.appendInPlace }, { on := 0, ground := Ground.phase }, { on := 1, ground := Ground.phase }, { on := 2, ground := Ground.phase }, { on := 3, ground := Ground.phase }, { on := 4, ground := Ground.phase }, { on := 5, ground := Ground.phase }, { on := 6, ground := Ground.phase }, { on := 7, ground := Ground.phase }, { on := 8, ground := Ground.phase }, { on := 9, ground := Ground.textOnly Departure.appendInPlace }, { on := 10, ground := Ground.textOnly Departure.appendInPlace }], guard := none }) rfl (fun Kc hK => ?_) AllReadyH.nil)
                go_simp
                refine hK.out _ _ HS67.out (fun hHeld => ?_)
                clear hK Kc
                (try simp only [Act.put]); (try simp only [List.setIfInBounds_toArray]); (try simp only [List.set_cons_succ]); (try simp only [List.set_cons_zero])
                refine wpAnyH_done (by kernel_rfl) ?_ _
                go_wp2_with fail
                go_roundw
                case rel => refine ⟨_, ?_, ?_, HE67⟩; omega; go_num
                case measure => simp [intOf]; omega
              · go_simp
                refine hK.out _ _ HS7b.out (fun hHeld => ?_)
                clear hK Kc
                (try simp only [Act.put]); (try simp only [List.setIfInBounds_toArray]); (try simp only [List.set_cons_succ]); (try simp only [List.set_cons_zero])
                refine wpAnyH_ready (rs := [10]) (by kernel_rfl) (by simp) ?_
                refine (AllReadyH.cons (o := { dst := none, op := Op.store 86 (Operand.tmp 40) (Operand.tmp 36), type := 0, pos := "find.go:22", after := #[{ on := 9, ground := Ground.data }, { on := 5, ground := Ground.data }, { on := 8, ground := Ground.chain }, { on := 0, ground := Ground.phase }, { on := 1, ground := Ground.phase }, { on := 2, ground := Ground.phase }, { on := 3, ground := Ground.phase }, { on := 4, ground := Ground.phase }, { on := 5, ground := Ground.phase }, { on := 6, ground := Ground.phase }, { on := 7, ground := Ground.phase }, { on := 8, ground := Ground.phase }, { on := 13, ground := Ground.gcOnly Departure.appendInPlace }], guard := none }) rfl (fun Kc hK => ?_) AllReadyH.nil)
                go_simp
                refine hK.out _ _ HS76.out (fun hHeld => ?_)
                clear hK Kc
                (try simp only [Act.put]); (try simp only [List.setIfInBounds_toArray]); (try simp only [List.set_cons_succ]); (try simp only [List.set_cons_zero])
                refine wpAnyH_done (by kernel_rfl) ?_ _
                go_wp2_with fail
                go_roundw
                case rel => refine ⟨_, ?_, ?_, HE76⟩; omega; go_num
                case measure => simp [intOf]; omega
        · obtain rfl : k = L := by omega
          go_wp2_with fail
          go_roundw
          case rel => exact ⟨1, by omega, by go_num, .inr ⟨rfl, gv, HI.out⟩⟩
          case measure => simp [intOf]
    · have HE := hidM hE
      clear HR hE
      rw [show ((1 : Nat) : Int) = 1 from rfl]
      go_wp2_with fail
      go_ret
      obtain ⟨h1, h2, h3, h4, h5⟩ := HE.out
      exact ⟨_, rfl, h1, h2, h4⟩
end Go.Proofs.YteggcdhibcjneaaGreatDoor.Kit
