import Derived.Test.YteggcdhibcjneaaGreatDoorCJ
set_option maxRecDepth 100000
set_option maxHeartbeats 4000000
namespace Go.Proofs.YteggcdhibcjneaaGreatDoor.Kit
variable {nx : Bool}
open Go.RowKit Go.Shelf Go.Deep
open Go.Proofs.YteggcdhibcjneaaGreatDoor.Kd (Ans AnsV cell5 cell2)
open Go.Proofs.YteggcdhibcjneaaGreatDoor.Ink (OwnRow)
set_option linter.unusedVariables false
set_option linter.unusedSimpArgs false
attribute [local go_sem] run_store_func

theorem info236 : (Tryz.prog.info? 247).map (fun i => (i.zero, i.size, i.bytes)) = some (some (.agg #[.slice none 0 0, .int .i64 0, .pointer none]), 3, 40) := by kernel_rfl
theorem cellB {W : World} {q : Nat} {nu : Bool} {ao : Option Addr} {ca : Nat} {L N : Int} {bv : Value} (h : W.heap[q]? = some (.cells (ndC nx nu ao ca L N bv) 143)) : W.cell? ⟨q, 11, none⟩ = some bv := by
  simp [World.cell?, h, ndC]
theorem partData95 (L N : Nat) (b : Value) (W : World) : Calls Tryz.prog 133 #[.agg (dCo L N b)] W fun e w' => ∃ uo uc, e = .returned (.slice uo 0 uc) ∧ Gr W w' := by
  obtain ⟨A, hA⟩ : ∃ A, W.alloc (.cells (dCo L N b) 50) = A := ⟨_, rfl⟩
  have gA : Gr W A := by rw [← hA]; exact gr_alloc W _
  have hb : A.heap[W.heap.size]? = some (.cells (dCo L N b) 50) := by rw [← hA]; exact heap_alloc_new W _
  obtain ⟨d0, d1, d2, d3, d4, d5⟩ := cell6 hb
  obtain ⟨B, hB⟩ : ∃ B, A.alloc (.cells #[.slice none 0 0, .slice none 0 0] 31) = B := ⟨_, rfl⟩
  have gB : Gr A B := by rw [← hB]; exact gr_alloc A _
  have hb2 : B.heap[A.heap.size]? = some (.cells #[.slice none 0 0, .slice none 0 0] 31) := by rw [← hB]; exact heap_alloc_new A _
  obtain ⟨z0, z1⟩ := cell2 hb2
  have HC := hidM (concat117 A.heap.size 2 B z0 z1)
  have HG := hidM (gA.trans gB (fun _ _ h => h))
  clear gA hb gB hb2 z0 z1
  unfold dCo at hA ⊢
  go_enter Tryz.func133, Tryz.ntmps133
  go_wp2_with (go_at_call 153; refine HC.out.mono ?_; rintro e w2 ⟨uo, uc, rfl, g2⟩; have HG2 := hidM (HG.out.trans g2 (fun _ _ h => h)); clear g2)
  go_ret
  exact ⟨uo, uc, rfl, HG2.out⟩
/-- a node that has taken k buffers -/
def FillI (nx : Bool) (A wr : World) (q : Nat) (nu : Bool) (ao : Option Addr) (ca : Nat) (L N : Int) (vs : List Value) (k : Nat) (ro : Option Addr) (rc : Nat) : Prop :=
  Keeps A wr (fun z => z = q) ∧ wr.heap[q]? = some (.cells (ndC nx nu ao ca L N (.slice ro k rc)) 143) ∧ wr.ownsRow 0 247 3 (.slice ro k rc) k (vs.take (3 * k)) ∧ ∀ g, (Value.slice ro k rc).ownBlock = some g → A.heap.size ≤ g
theorem cellT {W : World} {q : Nat} {nu : Bool} {ao : Option Addr} {ca : Nat} {L N : Int} {bv : Value} (h : W.heap[q]? = some (.cells (ndC nx nu ao ca L N bv) 143)) : W.cell? ⟨q, 2, none⟩ = some (.int .i64 3) ∧ W.cell? ⟨q, 3, none⟩ = some (.int .i64 0) ∧ W.cell? ⟨q, 4, none⟩ = some (.int .i64 0) ∧ W.cell? ⟨q, 5, none⟩ = some (.int .i64 0) ∧ W.cell? ⟨q, 6, none⟩ = some (.slice ao 0 ca) := by
  refine ⟨?_, ?_, ?_, ?_, ?_⟩ <;> simp [World.cell?, h, ndC]
theorem FillI.gr {A wr u : World} {q : Nat} {nu : Bool} {ao : Option Addr} {ca : Nat} {L N : Int} {vs : List Value} {k : Nat} {ro : Option Addr} {rc : Nat} (h : FillI nx A wr q nu ao ca L N vs k ro rc) (g : Gr wr u) : FillI nx A u q nu ao ca L N vs k ro rc :=
  ⟨h.1.trans (g.mono fun _ _ h => h.elim) (fun _ _ h => h), (g.block q (lt_of_heap h.2.1) id).trans h.2.1, row_kp h.2.2.1 fun j e => g.block j (own_lt h.2.2.1 j e) id, h.2.2.2⟩
theorem FillI.base {W A wr : World} {q : Nat} {nu : Bool} {ao : Option Addr} {ca : Nat} {L N : Int} {vs : List Value} {k : Nat} {ro : Option Addr} {rc : Nat} (h : FillI nx A wr q nu ao ca L N vs k ro rc) (g : Gr W A) : FillI nx W wr q nu ao ca L N vs k ro rc :=
  ⟨(g.mono fun _ _ h => h.elim).trans h.1 (fun _ _ h => h), h.2.1, h.2.2.1, fun j e => Nat.le_trans g.size (h.2.2.2 j e)⟩
theorem fill_step {A wr w1 A2 : World} {q : Nat} {nu : Bool} {ao : Option Addr} {ca : Nat} {L N : Int} {vs : List Value} {k : Nat} {ro : Option Addr} {rc : Nat} {x : Value} (hI : FillI nx A wr q nu ao ca L N vs k ro rc) (hq : q < A.heap.size) (g1 : Gr wr w1) (hA2 : w1.alloc (.cells #[x, .int .i64 0, .pointer none] 247) = A2) (hx : x.oneCell' = true) (hv : vs.take (3 * (k + 1)) = vs.take (3 * k) ++ [x, .int .i64 0, .pointer none]) :
    Hid (A2.ownsRow 0 247 3 (.slice ro k rc) k (vs.take (3 * k))) ∧
    Hid (Src Tryz.prog 3 140 (.slice (some ⟨w1.heap.size, 0, none⟩) 1 1) 1 [x, .int .i64 0, .pointer none] A2) ∧
    Hid (∀ w7, A2.grownBy w7 (Value.slice ro k rc).ownBlock → w7.heap[q]? = some (.cells (ndC nx nu ao ca L N (.slice ro k rc)) 143)) ∧
    Hid (∀ uo uc w7, w7.ownsRow 0 247 3 (.slice uo (k + 1) uc) (k + 1) (vs.take (3 * k) ++ [x, .int .i64 0, .pointer none]) → A2.grownBy w7 (Value.slice ro k rc).ownBlock → ((Value.slice uo (k + 1) uc).ownBlock = (Value.slice ro k rc).ownBlock ∨ ∀ g, (Value.slice uo (k + 1) uc).ownBlock = some g → A2.heap.size ≤ g) → FillI nx A (w7.setCell ⟨q, 11, none⟩ (.slice uo (k + 1) uc)) q nu ao ca L N vs (k + 1) uo uc) ∧
    w1.cell? ⟨q, 11, none⟩ = some (.slice ro k rc) ∧ A2.cell? ⟨q, 11, none⟩ = some (.slice ro k rc) := by
  obtain ⟨hk, hn, ho, hl⟩ := hI
  have gA2 : Gr w1 A2 := by rw [← hA2]; exact gr_alloc w1 _
  have g2 : Gr wr A2 := g1.trans gA2 (fun _ _ h => h)
  have hn1 := (g1.block q (lt_of_heap hn) id).trans hn
  have hn2 := (g2.block q (lt_of_heap hn) id).trans hn
  have hnew : A2.heap[w1.heap.size]? = some (.cells #[x, .int .i64 0, .pointer none] 247) := by rw [← hA2]; exact heap_alloc_new w1 _
  have hne : (Value.slice ro k rc).ownBlock ≠ some q := own_ne hn ho (by decide)
  have hAt : ∀ w7, A2.grownBy w7 (Value.slice ro k rc).ownBlock → w7.heap[q]? = some (.cells (ndC nx nu ao ca L N (.slice ro k rc)) 143) := fun w7 h => ((Keeps.ofGrown h).block q (lt_of_heap hn2) (fun e => hne e)).trans hn2
  refine ⟨row_kp ho fun g e => g2.block g (own_lt ho g e) id, ?_, hAt, ?_, cellB hn1, cellB hn2⟩
  · refine Src.ofSlice (w := A2) Tryz.underlying140 ⟨w1.heap.size, 0, none⟩ 1 1 [x, .int .i64 0, .pointer none] rfl (fun j v hj => ?_) (fun v hv => ?_)
    · rw [Addr.add_lit, Nat.zero_add]
      match j, hj with
      | 0, hj => cases hj; simp [World.cell?, hnew]
      | 1, hj => cases hj; simp [World.cell?, hnew]
      | 2, hj => cases hj; simp [World.cell?, hnew]
      | j + 3, hj => simp at hj
    · simp at hv
      rcases hv with rfl | rfl | rfl
      · exact hx
      · rfl
      · rfl
  · intro uo uc w7 h1 h2 h3
    have hm7 := hAt w7 h2
    have hk7 : Keeps A w7 (fun z => z = q) := (hk.trans (g2.mono fun _ _ h => h.elim) (fun _ _ h => h)).trans (Keeps.ofGrown h2) (fun j hj e => by have := hl j e; omega)
    refine ⟨hk7.setCell (p := ⟨q, 11, none⟩) (fun _ => rfl) _, ?_, ?_, fun g e => ?_⟩
    · rw [heap_setCell_same w7 q 11 _ _ _ hm7]
      simp [ndC]
    · rw [hv]
      exact row_kp h1 fun g e => heap_setCell_other _ _ _ _ (fun e' => own_ne hm7 h1 (by decide) (by rw [e, e']))
    · rcases h3 with e2 | e2
      · exact hl g (e2 ▸ e)
      · exact Nat.le_trans hk.size (Nat.le_trans g2.size (e2 g e))
theorem fill67 (c q qb bc : Nat) (vb : Nat → Option Addr) (vn vc : Nat → Nat) (nu : Bool) (ao : Option Addr) (ca L N : Nat) (W : World) (hq : W.heap[q]? = some (.cells (ndC nx nu ao ca L N (.slice none 0 0)) 143)) (hb : ∀ k, k < 2 → W.cell? ⟨qb, k, none⟩ = some (.slice (vb k) (vn k) (vc k))) (hqb : qb ≠ q) (hT : Tab W) (hqT : ∀ u, Keeps W u (fun z => z = q) → Tab u) :
    Calls Tryz.prog 111 #[.pointer (some ⟨c, 0, none⟩), .pointer (some ⟨q, 0, none⟩), .agg (dCo L N (.slice (some ⟨qb, 0, none⟩) 2 bc))] W fun e w' => ∃ ro rc, e = .returned (.tuple #[]) ∧ FillI nx W w' q nu ao ca L N [.slice (vb 0) (vn 0) (vc 0), .int .i64 0, .pointer none, .slice (vb 1) (vn 1) (vc 1), .int .i64 0, .pointer none] 2 ro rc := by
  obtain ⟨vs, hvs⟩ : ∃ vs, [Value.slice (vb 0) (vn 0) (vc 0), .int .i64 0, .pointer none, .slice (vb 1) (vn 1) (vc 1), .int .i64 0, .pointer none] = vs := ⟨_, rfl⟩
  rw [hvs]
  have HV : Hid (∀ k, k < 2 → vs.take (3 * (k + 1)) = vs.take (3 * k) ++ [.slice (vb k) (vn k) (vc k), .int .i64 0, .pointer none]) := fun k hk => by
    subst hvs
    have : k = 0 ∨ k = 1 := by omega
    rcases this with rfl | rfl <;> rfl
  obtain ⟨A, hA⟩ : ∃ A, W.alloc (.cells (dCo L N (.slice (some ⟨qb, 0, none⟩) 2 bc)) 50) = A := ⟨_, rfl⟩
  have gA : Gr W A := by rw [← hA]; exact gr_alloc W _
  have hd : A.heap[W.heap.size]? = some (.cells (dCo L N (.slice (some ⟨qb, 0, none⟩) 2 bc)) 50) := by rw [← hA]; exact heap_alloc_new W _
  have hqA := (gA.block q (lt_of_heap hq) id).trans hq
  obtain ⟨d0, d1, d2, d3, d4, d5⟩ := cell6 hd
  have HI0 : Hid (FillI nx A A q nu ao ca L N vs 0 none 0) := ⟨Keeps.refl _ _, hqA, ⟨rfl, .inl ⟨rfl, rfl⟩⟩, fun g e => by simp [Value.ownBlock] at e⟩
  have HQ : Hid (q < A.heap.size) := lt_of_heap hqA
  have HBc : Hid (∀ wr k, Keeps A wr (fun z => z = q) → k < 2 → wr.cell? ⟨qb, k, none⟩ = some (.slice (vb k) (vn k) (vc k))) := fun wr k g hk => g.cell' (gA.cell' (hb k hk) id) hqb
  have HD : Hid (∀ wr, Keeps A wr (fun z => z = q) → wr.heap[W.heap.size]? = some (.cells (dCo L N (.slice (some ⟨qb, 0, none⟩) 2 bc)) 50)) := fun wr g => (g.block _ (lt_of_heap hd) (fun e => by have e' : W.heap.size = q := e; have := lt_of_heap hq; omega)).trans hd
  have HTT : Hid (∀ wr, Keeps A wr (fun z => z = q) → Tab wr) := fun wr g => hqT wr ((gA.mono fun _ _ h => h.elim).trans g (fun _ _ h => h))
  have HGA := hidM gA
  have HVS := hidM hvs
  clear gA hq hqA hd hb hT hqT hqb hvs
  unfold dCo at hA ⊢
  go_enter Tryz.func111, Tryz.ntmps111
  go_wp2_with fail
  go_loopw [14] (fun i wr => ∃ (k : Nat) (ro : Option Addr) (rc : Nat), k ≤ 2 ∧ i = .int .i64 k ∧ Hid (FillI nx A wr q nu ao ca L N vs k ro rc)) (fun i _ => 2 - (intOf i).toNat)
  case atStart => exact ⟨0, none, 0, by omega, rfl, HI0⟩
  case round =>
    obtain ⟨k, ro, rc, hk, rfl, HI⟩ := hrel
    by_cases hlt : k < 2
    · have c1 := HBc.out wr k HI.out.1 hlt
      have c11 := cellB HI.out.2.1
      have HR : Hid (∀ w1 A2, w1.alloc (.cells #[.slice (vb k) (vn k) (vc k), .int .i64 0, .pointer none] 247) = A2 → Gr wr.drew w1 → _) := fun w1 A2 hA2 g1 => fill_step HI.out HQ.out (Keeps.trans gr_drew g1 (fun _ _ h => h)) hA2 rfl (HV.out k hlt)
      clear HI
      go_wp2_with fail
      refine wp_region_held_drew (S := fun w' => True) (by kernel_rfl) trivial (fun hHeld => ?_)
      refine wpAnyH_take (i := 0) (oi := { dst := some 18, op := Op.move (Operand.tmp 1), type := 135, pos := "check.go:65", after := #[], guard := none }) (v := ?v0a1) rfl (by kernel_rfl) (by kernel_rfl) (by kernel_rfl) (fun _ _ _ h => h) (Or.inl ⟨by rfl, ?y0a1⟩) (by assumption) ?r0a1
      case y0a1 => (intro w hSw; go_simp; (try with_reducible rfl))
      (try simp only [Act.put]); (try simp only [List.setIfInBounds_toArray]); (try simp only [List.set_cons_succ]); (try simp only [List.set_cons_zero])
      refine wpAnyH_take (i := 1) (oi := { dst := some 19, op := Op.move (Operand.tmp 1), type := 135, pos := "check.go:65", after := #[], guard := none }) (v := ?v1a2) rfl (by kernel_rfl) (by kernel_rfl) (by kernel_rfl) (fun _ _ _ h => h) (Or.inl ⟨by rfl, ?y1a2⟩) (by assumption) ?r1a2
      case y1a2 => (intro w hSw; go_simp; (try with_reducible rfl))
      (try simp only [Act.put]); (try simp only [List.setIfInBounds_toArray]); (try simp only [List.set_cons_succ]); (try simp only [List.set_cons_zero])
      refine wpAnyH_take (i := 2) (oi := { dst := some 20, op := Op.nilCheck (Operand.tmp 19), type := 0, pos := "check.go:65", after := #[{ on := 1, ground := Ground.data }], guard := none }) (v := ?v2a3) rfl (by kernel_rfl) (by kernel_rfl) (by kernel_rfl) (fun _ _ _ h => h) (Or.inl ⟨by rfl, ?y2a3⟩) (by assumption) ?r2a3
      case y2a3 => (intro w hSw; go_simp; (try with_reducible rfl))
      (try simp only [Act.put]); (try simp only [List.setIfInBounds_toArray]); (try simp only [List.set_cons_succ]); (try simp only [List.set_cons_zero])
      refine wpAnyH_take (i := 3) (oi := { dst := some 21, op := Op.fieldAddr 143 (Operand.tmp 20) 5, type := 0, pos := "check.go:65", after := #[{ on := 2, ground := Ground.data }], guard := none }) (v := ?v3a4) rfl (by kernel_rfl) (by kernel_rfl) (by kernel_rfl) (fun _ _ _ h => h) (Or.inl ⟨by rfl, ?y3a4⟩) (by assumption) ?r3a4
      case y3a4 => (intro w hSw; go_simp; (try with_reducible rfl))
      (try simp only [Act.put]); (try simp only [List.setIfInBounds_toArray]); (try simp only [List.set_cons_succ]); (try simp only [List.set_cons_zero])
      refine wpAnyH_take (i := 5) (oi := { dst := some 23, op := Op.move (Operand.tmp 7), type := 43, pos := "check.go:65", after := #[], guard := none }) (v := ?v5a5) rfl (by kernel_rfl) (by kernel_rfl) (by kernel_rfl) (fun _ _ _ h => h) (Or.inl ⟨by rfl, ?y5a5⟩) (by assumption) ?r5a5
      case y5a5 => (intro w hSw; go_simp; (try with_reducible rfl))
      (try simp only [Act.put]); (try simp only [List.setIfInBounds_toArray]); (try simp only [List.set_cons_succ]); (try simp only [List.set_cons_zero])
      refine wpAnyH_ready (rs := [4, 6]) (by kernel_rfl) (by simp) ?_
      refine AllReadyH.cons (o := { dst := some 22, op := Op.load 140 (Operand.tmp 21), type := 140, pos := "check.go:65", after := #[{ on := 3, ground := Ground.data }], guard := none }) rfl (fun Kc hK => ?_) (AllReadyH.cons (o := { dst := some 24, op := Op.call { callee := Callee.value (Operand.func 131), args := #[Operand.tmp 23], argTypes := #[43] }, type := 247, pos := "check.go:65", after := #[{ on := 5, ground := Ground.data }], guard := none }) rfl (fun Kc hK => ?_) AllReadyH.nil)
      · go_simp
        refine hK.out _ _ trivial (fun hHeld => ?_)
        clear hK Kc
        (try simp only [Act.put]); (try simp only [List.setIfInBounds_toArray]); (try simp only [List.set_cons_succ]); (try simp only [List.set_cons_zero])
        refine wpAnyH_ready (rs := [6]) (by kernel_rfl) (by simp) ?_
        refine AllReadyH.cons (o := { dst := some 24, op := Op.call { callee := Callee.value (Operand.func 131), args := #[Operand.tmp 23], argTypes := #[43] }, type := 247, pos := "check.go:65", after := #[{ on := 5, ground := Ground.data }], guard := none }) rfl (fun Kc hK => ?_) AllReadyH.nil
        go_simp
        go_at_call 131
        refine Calls.mono (viewOf93 _ _ _ _) ?_
        rintro e' w1 ⟨rfl, g1⟩
        obtain ⟨A2, hA2⟩ : ∃ A2, w1.alloc (.cells #[.slice (vb k) (vn k) (vc k), .int .i64 0, .pointer none] 247) = A2 := ⟨_, rfl⟩
        obtain ⟨HOw, HSr, HAt, HEnd, hc1, hc2⟩ := HR.out w1 A2 hA2 g1
        clear g1
        go_wp2_with fail
        refine hK.out _ _ trivial (fun hHeld => ?_)
        clear hK Kc
        (try simp only [Act.put]); (try simp only [List.setIfInBounds_toArray]); (try simp only [List.set_cons_succ]); (try simp only [List.set_cons_zero])
        refine wpAnyH_ready (rs := [7]) (by kernel_rfl) (by simp) ?_
        refine AllReadyH.cons (o := { dst := some 25, op := Op.buildSlice 140 1 #[(0, Operand.tmp 24)], type := 140, pos := "check.go:65", after := #[{ on := 6, ground := Ground.data }], guard := none }) rfl (fun Kc hK => ?_) AllReadyH.nil
        go_simp
        refine hK.out _ _ (trivial) (fun hHeld => ?_)
        clear hK Kc
        (try simp only [Act.put]); (try simp only [List.setIfInBounds_toArray]); (try simp only [List.set_cons_succ]); (try simp only [List.set_cons_zero])
        refine wpAnyH_ready (rs := [8]) (by kernel_rfl) (by simp) ?_
        refine AllReadyH.cons (o := { dst := some 26, op := Op.call { callee := Callee.builtin Builtin.append, args := #[Operand.tmp 22, Operand.tmp 25], argTypes := #[140, 140] }, type := 140, pos := "check.go:65", after := #[{ on := 4, ground := Ground.data }, { on := 7, ground := Ground.data }, { on := 6, ground := Ground.chain }], guard := none }) rfl (fun Kc hK => ?_) AllReadyH.nil
        refine step_append_anyN (P := Tryz.prog) _ rfl (.tmp 22) (.tmp 25) 140 140 rfl 247 (.agg #[.slice none 0 0, .int .i64 0, .pointer none]) 3 40 Tryz.underlying140 info236 rfl (.slice ro k rc) k (vs.take (3 * k)) rfl HOw.out (.slice (some ⟨w1.heap.size, 0, none⟩) 1 1) 1 [.slice (vb k) (vn k) (vc k), .int .i64 0, .pointer none] rfl HSr.out (by omega) (by omega) ?_
        intro v' w7 ha1 ha2 ha3
        obtain ⟨uo, uc, rfl⟩ := own_formN ha1
        have hm7 := HAt.out w7 ha2
        have c11 := cellB hm7
        have z11 := frz hm7 11
        have HE := hidM (HEnd.out _ _ _ ha1 ha2 ha3)
        clear ha1 ha2 ha3 hm7
        refine hK.out _ _ trivial (fun hHeld => ?_)
        clear hK Kc
        (try simp only [Act.put]); (try simp only [List.setIfInBounds_toArray]); (try simp only [List.set_cons_succ]); (try simp only [List.set_cons_zero])
        refine wpAnyH_take (i := 9) (oi := { dst := some 27, op := Op.nilCheck (Operand.tmp 18), type := 0, pos := "check.go:65", after := #[{ on := 0, ground := Ground.data }, { on := 0, ground := Ground.phase }, { on := 1, ground := Ground.phase }, { on := 2, ground := Ground.phase }, { on := 3, ground := Ground.phase }, { on := 4, ground := Ground.phase }, { on := 5, ground := Ground.phase }, { on := 6, ground := Ground.phase }, { on := 7, ground := Ground.phase }, { on := 8, ground := Ground.phase }], guard := none }) (v := ?v9ba1) rfl (by kernel_rfl) (by kernel_rfl) (by kernel_rfl) (fun _ _ _ h => h) (Or.inl ⟨by rfl, ?y9ba1⟩) (by assumption) ?r9ba1
        case y9ba1 => (intro w hSw; go_simp; (try with_reducible rfl))
        (try simp only [Act.put]); (try simp only [List.setIfInBounds_toArray]); (try simp only [List.set_cons_succ]); (try simp only [List.set_cons_zero])
        refine wpAnyH_take (i := 10) (oi := { dst := some 28, op := Op.fieldAddr 143 (Operand.tmp 27) 5, type := 0, pos := "check.go:65", after := #[{ on := 9, ground := Ground.data }, { on := 0, ground := Ground.phase }, { on := 1, ground := Ground.phase }, { on := 2, ground := Ground.phase }, { on := 3, ground := Ground.phase }, { on := 4, ground := Ground.phase }, { on := 5, ground := Ground.phase }, { on := 6, ground := Ground.phase }, { on := 7, ground := Ground.phase }, { on := 8, ground := Ground.phase }], guard := none }) (v := ?v10ba2) rfl (by kernel_rfl) (by kernel_rfl) (by kernel_rfl) (fun _ _ _ h => h) (Or.inl ⟨by rfl, ?y10ba2⟩) (by assumption) ?r10ba2
        case y10ba2 => (intro w hSw; go_simp; (try with_reducible rfl))
        (try simp only [Act.put]); (try simp only [List.setIfInBounds_toArray]); (try simp only [List.set_cons_succ]); (try simp only [List.set_cons_zero])
        refine wpAnyH_ready (rs := [11]) (by kernel_rfl) (by simp) ?_
        refine AllReadyH.cons (o := { dst := none, op := Op.store 140 (Operand.tmp 28) (Operand.tmp 26), type := 0, pos := "check.go:65", after := #[{ on := 10, ground := Ground.data }, { on := 8, ground := Ground.data }, { on := 8, ground := Ground.chain }, { on := 0, ground := Ground.phase }, { on := 1, ground := Ground.phase }, { on := 2, ground := Ground.phase }, { on := 3, ground := Ground.phase }, { on := 4, ground := Ground.phase }, { on := 5, ground := Ground.phase }, { on := 6, ground := Ground.phase }, { on := 7, ground := Ground.phase }, { on := 8, ground := Ground.phase }], guard := none }) rfl (fun Kc hK => ?_) AllReadyH.nil
        go_simp
        refine hK.out _ _ trivial (fun hHeld => ?_)
        clear hK Kc
        (try simp only [Act.put]); (try simp only [List.setIfInBounds_toArray]); (try simp only [List.set_cons_succ]); (try simp only [List.set_cons_zero])
        refine wpAnyH_done (by kernel_rfl) ?_ _
        clear hHeld c11 z11
        go_wp2_with fail
        go_roundw
        case rel => exact ⟨k + 1, uo, uc, by omega, by go_num, HE⟩
        case measure => simp [intOf]; omega
      · go_simp
        go_at_call 131
        refine Calls.mono (viewOf93 _ _ _ _) ?_
        rintro e' w1 ⟨rfl, g1⟩
        obtain ⟨A2, hA2⟩ : ∃ A2, w1.alloc (.cells #[.slice (vb k) (vn k) (vc k), .int .i64 0, .pointer none] 247) = A2 := ⟨_, rfl⟩
        obtain ⟨HOw, HSr, HAt, HEnd, hc1, hc2⟩ := HR.out w1 A2 hA2 g1
        clear g1
        go_wp2_with fail
        refine hK.out _ _ trivial (fun hHeld => ?_)
        clear hK Kc
        (try simp only [Act.put]); (try simp only [List.setIfInBounds_toArray]); (try simp only [List.set_cons_succ]); (try simp only [List.set_cons_zero])
        refine wpAnyH_ready (rs := [4, 7]) (by kernel_rfl) (by simp) ?_
        refine AllReadyH.cons (o := { dst := some 22, op := Op.load 140 (Operand.tmp 21), type := 140, pos := "check.go:65", after := #[{ on := 3, ground := Ground.data }], guard := none }) rfl (fun Kc hK => ?_) (AllReadyH.cons (o := { dst := some 25, op := Op.buildSlice 140 1 #[(0, Operand.tmp 24)], type := 140, pos := "check.go:65", after := #[{ on := 6, ground := Ground.data }], guard := none }) rfl (fun Kc hK => ?_) AllReadyH.nil)
        · go_simp
          refine hK.out _ _ trivial (fun hHeld => ?_)
          clear hK Kc
          (try simp only [Act.put]); (try simp only [List.setIfInBounds_toArray]); (try simp only [List.set_cons_succ]); (try simp only [List.set_cons_zero])
          refine wpAnyH_ready (rs := [7]) (by kernel_rfl) (by simp) ?_
          refine AllReadyH.cons (o := { dst := some 25, op := Op.buildSlice 140 1 #[(0, Operand.tmp 24)], type := 140, pos := "check.go:65", after := #[{ on := 6, ground := Ground.data }], guard := none }) rfl (fun Kc hK => ?_) AllReadyH.nil
          go_simp
          refine hK.out _ _ (trivial) (fun hHeld => ?_)
          clear hK Kc
          (try simp only [Act.put]); (try simp only [List.setIfInBounds_toArray]); (try simp only [List.set_cons_succ]); (try simp only [List.set_cons_zero])
          refine wpAnyH_ready (rs := [8]) (by kernel_rfl) (by simp) ?_
          refine AllReadyH.cons (o := { dst := some 26, op := Op.call { callee := Callee.builtin Builtin.append, args := #[Operand.tmp 22, Operand.tmp 25], argTypes := #[140, 140] }, type := 140, pos := "check.go:65", after := #[{ on := 4, ground := Ground.data }, { on := 7, ground := Ground.data }, { on := 6, ground := Ground.chain }], guard := none }) rfl (fun Kc hK => ?_) AllReadyH.nil
          refine step_append_anyN (P := Tryz.prog) _ rfl (.tmp 22) (.tmp 25) 140 140 rfl 247 (.agg #[.slice none 0 0, .int .i64 0, .pointer none]) 3 40 Tryz.underlying140 info236 rfl (.slice ro k rc) k (vs.take (3 * k)) rfl HOw.out (.slice (some ⟨w1.heap.size, 0, none⟩) 1 1) 1 [.slice (vb k) (vn k) (vc k), .int .i64 0, .pointer none] rfl HSr.out (by omega) (by omega) ?_
          intro v' w7 ha1 ha2 ha3
          obtain ⟨uo, uc, rfl⟩ := own_formN ha1
          have hm7 := HAt.out w7 ha2
          have c11 := cellB hm7
          have z11 := frz hm7 11
          have HE := hidM (HEnd.out _ _ _ ha1 ha2 ha3)
          clear ha1 ha2 ha3 hm7
          refine hK.out _ _ trivial (fun hHeld => ?_)
          clear hK Kc
          (try simp only [Act.put]); (try simp only [List.setIfInBounds_toArray]); (try simp only [List.set_cons_succ]); (try simp only [List.set_cons_zero])
          refine wpAnyH_take (i := 9) (oi := { dst := some 27, op := Op.nilCheck (Operand.tmp 18), type := 0, pos := "check.go:65", after := #[{ on := 0, ground := Ground.data }, { on := 0, ground := Ground.phase }, { on := 1, ground := Ground.phase }, { on := 2, ground := Ground.phase }, { on := 3, ground := Ground.phase }, { on := 4, ground := Ground.phase }, { on := 5, ground := Ground.phase }, { on := 6, ground := Ground.phase }, { on := 7, ground := Ground.phase }, { on := 8, ground := Ground.phase }], guard := none }) (v := ?v9da1) rfl (by kernel_rfl) (by kernel_rfl) (by kernel_rfl) (fun _ _ _ h => h) (Or.inl ⟨by rfl, ?y9da1⟩) (by assumption) ?r9da1
          case y9da1 => (intro w hSw; go_simp; (try with_reducible rfl))
          (try simp only [Act.put]); (try simp only [List.setIfInBounds_toArray]); (try simp only [List.set_cons_succ]); (try simp only [List.set_cons_zero])
          refine wpAnyH_take (i := 10) (oi := { dst := some 28, op := Op.fieldAddr 143 (Operand.tmp 27) 5, type := 0, pos := "check.go:65", after := #[{ on := 9, ground := Ground.data }, { on := 0, ground := Ground.phase }, { on := 1, ground := Ground.phase }, { on := 2, ground := Ground.phase }, { on := 3, ground := Ground.phase }, { on := 4, ground := Ground.phase }, { on := 5, ground := Ground.phase }, { on := 6, ground := Ground.phase }, { on := 7, ground := Ground.phase }, { on := 8, ground := Ground.phase }], guard := none }) (v := ?v10da2) rfl (by kernel_rfl) (by kernel_rfl) (by kernel_rfl) (fun _ _ _ h => h) (Or.inl ⟨by rfl, ?y10da2⟩) (by assumption) ?r10da2
          case y10da2 => (intro w hSw; go_simp; (try with_reducible rfl))
          (try simp only [Act.put]); (try simp only [List.setIfInBounds_toArray]); (try simp only [List.set_cons_succ]); (try simp only [List.set_cons_zero])
          refine wpAnyH_ready (rs := [11]) (by kernel_rfl) (by simp) ?_
          refine AllReadyH.cons (o := { dst := none, op := Op.store 140 (Operand.tmp 28) (Operand.tmp 26), type := 0, pos := "check.go:65", after := #[{ on := 10, ground := Ground.data }, { on := 8, ground := Ground.data }, { on := 8, ground := Ground.chain }, { on := 0, ground := Ground.phase }, { on := 1, ground := Ground.phase }, { on := 2, ground := Ground.phase }, { on := 3, ground := Ground.phase }, { on := 4, ground := Ground.phase }, { on := 5, ground := Ground.phase }, { on := 6, ground := Ground.phase }, { on := 7, ground := Ground.phase }, { on := 8, ground := Ground.phase }], guard := none }) rfl (fun Kc hK => ?_) AllReadyH.nil
          go_simp
          refine hK.out _ _ trivial (fun hHeld => ?_)
          clear hK Kc
          (try simp only [Act.put]); (try simp only [List.setIfInBounds_toArray]); (try simp only [List.set_cons_succ]); (try simp only [List.set_cons_zero])
          refine wpAnyH_done (by kernel_rfl) ?_ _
          clear hHeld c11 z11
          go_wp2_with fail
          go_roundw
          case rel => exact ⟨k + 1, uo, uc, by omega, by go_num, HE⟩
          case measure => simp [intOf]; omega
        · go_simp
          refine hK.out _ _ trivial (fun hHeld => ?_)
          clear hK Kc
          (try simp only [Act.put]); (try simp only [List.setIfInBounds_toArray]); (try simp only [List.set_cons_succ]); (try simp only [List.set_cons_zero])
          refine wpAnyH_ready (rs := [4]) (by kernel_rfl) (by simp) ?_
          refine AllReadyH.cons (o := { dst := some 22, op := Op.load 140 (Operand.tmp 21), type := 140, pos := "check.go:65", after := #[{ on := 3, ground := Ground.data }], guard := none }) rfl (fun Kc hK => ?_) AllReadyH.nil
          go_simp
          refine hK.out _ _ trivial (fun hHeld => ?_)
          clear hK Kc
          (try simp only [Act.put]); (try simp only [List.setIfInBounds_toArray]); (try simp only [List.set_cons_succ]); (try simp only [List.set_cons_zero])
          refine wpAnyH_ready (rs := [8]) (by kernel_rfl) (by simp) ?_
          refine AllReadyH.cons (o := { dst := some 26, op := Op.call { callee := Callee.builtin Builtin.append, args := #[Operand.tmp 22, Operand.tmp 25], argTypes := #[140, 140] }, type := 140, pos := "check.go:65", after := #[{ on := 4, ground := Ground.data }, { on := 7, ground := Ground.data }, { on := 6, ground := Ground.chain }], guard := none }) rfl (fun Kc hK => ?_) AllReadyH.nil
          refine step_append_anyN (P := Tryz.prog) _ rfl (.tmp 22) (.tmp 25) 140 140 rfl 247 (.agg #[.slice none 0 0, .int .i64 0, .pointer none]) 3 40 Tryz.underlying140 info236 rfl (.slice ro k rc) k (vs.take (3 * k)) rfl HOw.out (.slice (some ⟨w1.heap.size, 0, none⟩) 1 1) 1 [.slice (vb k) (vn k) (vc k), .int .i64 0, .pointer none] rfl HSr.out (by omega) (by omega) ?_
          intro v' w7 ha1 ha2 ha3
          obtain ⟨uo, uc, rfl⟩ := own_formN ha1
          have hm7 := HAt.out w7 ha2
          have c11 := cellB hm7
          have z11 := frz hm7 11
          have HE := hidM (HEnd.out _ _ _ ha1 ha2 ha3)
          clear ha1 ha2 ha3 hm7
          refine hK.out _ _ trivial (fun hHeld => ?_)
          clear hK Kc
          (try simp only [Act.put]); (try simp only [List.setIfInBounds_toArray]); (try simp only [List.set_cons_succ]); (try simp only [List.set_cons_zero])
          refine wpAnyH_take (i := 9) (oi := { dst := some 27, op := Op.nilCheck (Operand.tmp 18), type := 0, pos := "check.go:65", after := #[{ on := 0, ground := Ground.data }, { on := 0, ground := Ground.phase }, { on := 1, ground := Ground.phase }, { on := 2, ground := Ground.phase }, { on := 3, ground := Ground.phase }, { on := 4, ground := Ground.phase }, { on := 5, ground := Ground.phase }, { on := 6, ground := Ground.phase }, { on := 7, ground := Ground.phase }, { on := 8, ground := Ground.phase }], guard := none }) (v := ?v9ea1) rfl (by kernel_rfl) (by kernel_rfl) (by kernel_rfl) (fun _ _ _ h => h) (Or.inl ⟨by rfl, ?y9ea1⟩) (by assumption) ?r9ea1
          case y9ea1 => (intro w hSw; go_simp; (try with_reducible rfl))
          (try simp only [Act.put]); (try simp only [List.setIfInBounds_toArray]); (try simp only [List.set_cons_succ]); (try simp only [List.set_cons_zero])
          refine wpAnyH_take (i := 10) (oi := { dst := some 28, op := Op.fieldAddr 143 (Operand.tmp 27) 5, type := 0, pos := "check.go:65", after := #[{ on := 9, ground := Ground.data }, { on := 0, ground := Ground.phase }, { on := 1, ground := Ground.phase }, { on := 2, ground := Ground.phase }, { on := 3, ground := Ground.phase }, { on := 4, ground := Ground.phase }, { on := 5, ground := Ground.phase }, { on := 6, ground := Ground.phase }, { on := 7, ground := Ground.phase }, { on := 8, ground := Ground.phase }], guard := none }) (v := ?v10ea2) rfl (by kernel_rfl) (by kernel_rfl) (by kernel_rfl) (fun _ _ _ h => h) (Or.inl ⟨by rfl, ?y10ea2⟩) (by assumption) ?r10ea2
          case y10ea2 => (intro w hSw; go_simp; (try with_reducible rfl))
          (try simp only [Act.put]); (try simp only [List.setIfInBounds_toArray]); (try simp only [List.set_cons_succ]); (try simp only [List.set_cons_zero])
          refine wpAnyH_ready (rs := [11]) (by kernel_rfl) (by simp) ?_
          refine AllReadyH.cons (o := { dst := none, op := Op.store 140 (Operand.tmp 28) (Operand.tmp 26), type := 0, pos := "check.go:65", after := #[{ on := 10, ground := Ground.data }, { on := 8, ground := Ground.data }, { on := 8, ground := Ground.chain }, { on := 0, ground := Ground.phase }, { on := 1, ground := Ground.phase }, { on := 2, ground := Ground.phase }, { on := 3, ground := Ground.phase }, { on := 4, ground := Ground.phase }, { on := 5, ground := Ground.phase }, { on := 6, ground := Ground.phase }, { on := 7, ground := Ground.phase }, { on := 8, ground := Ground.phase }], guard := none }) rfl (fun Kc hK => ?_) AllReadyH.nil
          go_simp
          refine hK.out _ _ trivial (fun hHeld => ?_)
          clear hK Kc
          (try simp only [Act.put]); (try simp only [List.setIfInBounds_toArray]); (try simp only [List.set_cons_succ]); (try simp only [List.set_cons_zero])
          refine wpAnyH_done (by kernel_rfl) ?_ _
          clear hHeld c11 z11
          go_wp2_with fail
          go_roundw
          case rel => exact ⟨k + 1, uo, uc, by omega, by go_num, HE⟩
          case measure => simp [intOf]; omega
    · obtain rfl : k = 2 := by omega
      have hT0 := hidM (HTT.out wr HI.out.1)
      obtain ⟨n2, n3, n4, n5, n6⟩ := cellT HI.out.2.1
      go_wp2_with (first
        | (go_at_call 132; refine (partFields94 ao ca _ hT0.out (fun u _ => copied37 ao ca u)).mono ?_; rintro e w2 ⟨fo, fc, rfl, g2⟩; have HI2 := hidM (HI.out.gr g2); have HG2 := hidM g2; clear g2 n2 n3 n4 n5 n6; obtain ⟨d0, d1, d2, d3, d4, d5⟩ := cell6 (HD.out w2 HI2.out.1))
        | (go_at_call 133; refine (partData95 L N (.slice (some ⟨qb, 0, none⟩) 2 bc) w2).mono ?_; rintro e w3 ⟨uo, uc, rfl, g3⟩; have HI3 := hidM (HI2.out.gr g3); clear g3 d0 d1 d2 d3 d4 d5))
      go_loopw [39] (fun i wr => i = .int .i64 0 ∧ wr = w3) (fun i _ => 0)
      case atStart => exact ⟨rfl, rfl⟩
      case round =>
        obtain ⟨rfl, rfl⟩ := hrel
        go_wp2_with fail
        go_end0
        exact ⟨ro, rc, rfl, HI3.out.base HGA.out⟩
end Go.Proofs.YteggcdhibcjneaaGreatDoor.Kit
