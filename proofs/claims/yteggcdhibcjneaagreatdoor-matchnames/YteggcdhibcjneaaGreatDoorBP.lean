import Derived.Test.YteggcdhibcjneaaGreatDoorBO
import Derived.Deep.AppendSrc
set_option maxRecDepth 100000
set_option maxHeartbeats 4000000
namespace Go.Proofs.YteggcdhibcjneaaGreatDoor.Kit
variable {nx : Bool}
open Go.RowKit Go.Shelf Go.Deep
open Go.Proofs.YteggcdhibcjneaaGreatDoor.Kd (Ans AnsV cell5 cell2)
set_option linter.unusedVariables false
set_option linter.unusedSimpArgs false

theorem info2 : (Tryz.prog.info? 2).map (fun i => (i.zero, i.size, i.bytes)) = some (some (.int .i64 0), 1, 8) := by kernel_rfl
/-- a list in a cell of a block has grown by one -/
structure Push (W w' : World) (m j t e : Nat) (c : Array Value) (lo : Option Addr) (L lc : Nat) (xs : List Value) (y : Value) (uo : Option Addr) (uc : Nat) : Prop where
  box : w'.heap[m]? = some (.cells (c.setIfInBounds j (.slice uo (L + 1) uc)) t)
  own : w'.ownsRow 0 e 1 (.slice uo (L + 1) uc) (L + 1) (xs ++ [y])
  kp : Keeps W w' (fun z => z = m ∨ (Value.slice lo L lc).ownBlock = some z)
  blk : (Value.slice uo (L + 1) uc).ownBlock = (Value.slice lo L lc).ownBlock ∨ ∀ g, (Value.slice uo (L + 1) uc).ownBlock = some g → W.heap.size ≤ g
theorem own_ne {W : World} {m t e s n : Nat} {c : Array Value} {v : Value} {xs : List Value} (h : W.heap[m]? = some (.cells c t)) (ho : W.ownsRow 0 e s v n xs) (hte : t ≠ e) : v.ownBlock ≠ some m := by
  intro he
  rcases ho.2 with ⟨rfl, _⟩ | ⟨g, cap, cur, rfl, _, hg, _⟩
  · simp [Value.ownBlock] at he
  · have : g = m := by simpa [Value.ownBlock] using he
    subst this
    rw [h] at hg
    simp at hg
    exact hte hg.2
theorem lay261 (m : Nat) (vn : Bool) (x : Int) (vo : Option Addr) (vc : Nat) (lo : Option Addr) (L lc : Nat) (xs : List Value) (W : World) (hm : W.heap[m]? = some (.cells #[.int .i64 1, .slice lo L lc] 329)) (ho : W.ownsRow 0 2 1 (.slice lo L lc) L xs) (hL : L ≤ 5000) :
    Calls Tryz.prog 374 #[.pointer (some ⟨m, 0, none⟩), .agg #[.bool vn, .int .i64 x, .string ⟨#[]⟩, .slice vo 0 vc]] W fun e w' => ∃ uo uc, e = .returned (.int .i64 16) ∧ Push W w' m 1 329 2 #[.int .i64 1, .slice lo L lc] lo L lc xs (.int .i64 x) uo uc := by
  obtain ⟨A, hA⟩ : ∃ A, W.alloc (.cells #[.bool vn, .int .i64 x, .string ⟨#[]⟩, .slice vo 0 vc] 86) = A := ⟨_, rfl⟩
  have gA : Gr W A := by rw [← hA]; exact gr_alloc W _
  have hb : A.heap[W.heap.size]? = some (.cells #[.bool vn, .int .i64 x, .string ⟨#[]⟩, .slice vo 0 vc] 86) := by rw [← hA]; exact heap_alloc_new W _
  have hmA := (gA.block m (lt_of_heap hm) id).trans hm
  have HNE := hidM (own_ne hm ho (by decide))
  obtain ⟨m0, m1⟩ := cell2 hmA
  have q1 : A.cell? ⟨W.heap.size, 1, none⟩ = some (.int .i64 x) := by simp [World.cell?, hb]
  have HNM : Hid (W.heap.size ≠ m) := fun e => by have := lt_of_heap hm; omega
  have hq : ∀ u, Gr A u → u.cell? ⟨W.heap.size, 1, none⟩ = some (.int .i64 x) := fun u g => g.cell' q1 id
  have HQ0 := hidM (hq A.drew gr_drew)
  obtain ⟨A2, hA2⟩ : ∃ A2, A.alloc (.cells #[.int .i64 x] 2) = A2 := ⟨_, rfl⟩
  have gA2 : Gr A A2 := by rw [← hA2]; exact gr_alloc A _
  have g2 : Gr A A2.drew := gA2.trans gr_drew (fun _ _ h => h)
  have HQ1 := hidM (hq A2.drew g2)
  have HOw : Hid (A2.drew.ownsRow 0 2 1 (.slice lo L lc) L xs) := row_kp ho fun g e => ((gA.trans g2 (fun _ _ h => h)).block g (own_lt ho g e) id)
  have HSr : Hid (Src Tryz.prog 1 327 (.slice (some ⟨A.heap.size, 0, none⟩) 1 1) 1 [.int .i64 x] A2.drew) := by
    have h := heap_alloc_new A (.cells #[.int .i64 x] 2)
    rw [hA2] at h
    refine Src.ofSlice (w := A2.drew) Tryz.underlying327 ⟨A.heap.size, 0, none⟩ 1 1 [.int .i64 x] rfl (fun j v hj => ?_) (fun v hv => by simp at hv; subst hv; rfl)
    cases j with
    | zero => cases hj; exact gr_drew.cell' (w := A2) (show A2.cell? ⟨A.heap.size, 0, none⟩ = some (.int .i64 x) by simp [World.cell?, h]) id
    | succ j => simp at hj
  have HAt : Hid (∀ w7, A2.drew.grownBy w7 (Value.slice lo L lc).ownBlock → w7.heap[m]? = some (.cells #[.int .i64 1, .slice lo L lc] 329) ∧ w7.cell? ⟨W.heap.size, 1, none⟩ = some (.int .i64 x)) := fun w7 h => by
    have hk := Keeps.ofGrown h
    refine ⟨(hk.block m (Nat.lt_of_lt_of_le (lt_of_heap hmA) gA2.size) (fun e => HNE.out e)).trans ((g2.block m (lt_of_heap hmA) id).trans hmA), hk.cell' HQ1.out (fun e => ?_)⟩
    have := own_lt ho _ e
    exact absurd this (Nat.lt_irrefl _)
  have HEnd : Hid (∀ uo uc w7, w7.ownsRow 0 2 1 (.slice uo (L + 1) uc) (L + 1) (xs ++ [.int .i64 x]) → A2.drew.grownBy w7 (Value.slice lo L lc).ownBlock → ((Value.slice uo (L + 1) uc).ownBlock = (Value.slice lo L lc).ownBlock ∨ ∀ g, (Value.slice uo (L + 1) uc).ownBlock = some g → A2.drew.heap.size ≤ g) → Push W (w7.setCell ⟨m, 1, none⟩ (.slice uo (L + 1) uc)) m 1 329 2 #[.int .i64 1, .slice lo L lc] lo L lc xs (.int .i64 x) uo uc) := fun uo uc w7 h1 h2 h3 => by
    have hm7 := (HAt.out w7 h2).1
    have hk : Keeps W w7 (fun z => (Value.slice lo L lc).ownBlock = some z) := ((gA.trans g2 (fun _ _ h => h)).mono (fun _ _ h => h.elim)).trans (Keeps.ofGrown h2) (fun _ _ h => h)
    refine ⟨heap_setCell_same w7 m 1 _ _ _ hm7, row_kp h1 fun g e => heap_setCell_other _ _ _ _ (fun e' => own_ne hm7 h1 (by decide) (by rw [e, e'])), ?_, ?_⟩
    · exact (hk.mono (fun _ _ h => .inr h)).setCell (p := ⟨m, 1, none⟩) (fun _ => .inl rfl) _
    · exact h3.imp id (fun h g e => Nat.le_trans (gA.trans g2 (fun _ _ h => h)).size (h g e))
  have m1b : A2.cell? ⟨m, 1, none⟩ = some (.slice lo L lc) := gA2.cell' m1 id
  clear hm ho hb hmA gA g2 gA2 hq
  go_enter Tryz.func374, Tryz.ntmps374
  go_wp2_with fail
  refine wp_region_held_drew (S := fun w' => w'.cell? ⟨W.heap.size, 1, none⟩ = some (.int .i64 x)) (by kernel_rfl) (HQ0.out) (fun hHeld => ?_)
  refine wpAnyH_take (i := 0) (oi := { dst := some 5, op := Op.move (Operand.tmp 0), type := 308, pos := "leaf.go:78", after := #[], guard := none }) (v := ?v0a1) rfl (by kernel_rfl) (by kernel_rfl) (by kernel_rfl) (fun _ _ _ h => h) (Or.inl ⟨by rfl, ?y0a1⟩) (by assumption) ?r0a1
  case y0a1 => (intro w hSw; go_simp; (try with_reducible rfl))
  (try simp only [Act.put]); (try simp only [List.setIfInBounds_toArray]); (try simp only [List.set_cons_succ]); (try simp only [List.set_cons_zero])
  refine wpAnyH_take (i := 1) (oi := { dst := some 6, op := Op.move (Operand.tmp 0), type := 308, pos := "leaf.go:78", after := #[], guard := none }) (v := ?v1a2) rfl (by kernel_rfl) (by kernel_rfl) (by kernel_rfl) (fun _ _ _ h => h) (Or.inl ⟨by rfl, ?y1a2⟩) (by assumption) ?r1a2
  case y1a2 => (intro w hSw; go_simp; (try with_reducible rfl))
  (try simp only [Act.put]); (try simp only [List.setIfInBounds_toArray]); (try simp only [List.set_cons_succ]); (try simp only [List.set_cons_zero])
  refine wpAnyH_take (i := 2) (oi := { dst := some 7, op := Op.nilCheck (Operand.tmp 6), type := 0, pos := "leaf.go:78", after := #[{ on := 1, ground := Ground.data }], guard := none }) (v := ?v2a3) rfl (by kernel_rfl) (by kernel_rfl) (by kernel_rfl) (fun _ _ _ h => h) (Or.inl ⟨by rfl, ?y2a3⟩) (by assumption) ?r2a3
  case y2a3 => (intro w hSw; go_simp; (try with_reducible rfl))
  (try simp only [Act.put]); (try simp only [List.setIfInBounds_toArray]); (try simp only [List.set_cons_succ]); (try simp only [List.set_cons_zero])
  refine wpAnyH_take (i := 3) (oi := { dst := some 8, op := Op.fieldAddr 329 (Operand.tmp 7) 1, type := 0, pos := "leaf.go:78", after := #[{ on := 2, ground := Ground.data }], guard := none }) (v := ?v3a4) rfl (by kernel_rfl) (by kernel_rfl) (by kernel_rfl) (fun _ _ _ h => h) (Or.inl ⟨by rfl, ?y3a4⟩) (by assumption) ?r3a4
  case y3a4 => (intro w hSw; go_simp; (try with_reducible rfl))
  (try simp only [Act.put]); (try simp only [List.setIfInBounds_toArray]); (try simp only [List.set_cons_succ]); (try simp only [List.set_cons_zero])
  refine wpAnyH_take (i := 5) (oi := { dst := some 10, op := Op.fieldAddr 86 (Operand.tmp 3) 1, type := 0, pos := "leaf.go:78", after := #[], guard := none }) (v := ?v5a5) rfl (by kernel_rfl) (by kernel_rfl) (by kernel_rfl) (fun _ _ _ h => h) (Or.inl ⟨by rfl, ?y5a5⟩) (by assumption) ?r5a5
  case y5a5 => (intro w hSw; go_simp; (try with_reducible rfl))
  (try simp only [Act.put]); (try simp only [List.setIfInBounds_toArray]); (try simp only [List.set_cons_succ]); (try simp only [List.set_cons_zero])
  have HQQ : Hid True := trivial
  refine wpAnyH_take (i := 6) (oi := { dst := some 11, op := Op.load 2 (Operand.tmp 10), type := 2, pos := "leaf.go:78", after := #[{ on := 5, ground := Ground.data }], guard := none }) (v := ?v6a6) rfl (by kernel_rfl) (by kernel_rfl) (by kernel_rfl) (fun _ _ _ h => h) (Or.inl ⟨by rfl, ?y6a6⟩) (by assumption) ?r6a6
  case y6a6 => (intro w hSw; go_simp; (try with_reducible rfl))
  (try simp only [Act.put]); (try simp only [List.setIfInBounds_toArray]); (try simp only [List.set_cons_succ]); (try simp only [List.set_cons_zero])
  refine wpAnyH_ready (rs := [4, 7]) (by kernel_rfl) (by simp) ?_
  refine AllReadyH.cons (o := { dst := some 9, op := Op.load 327 (Operand.tmp 8), type := 327, pos := "leaf.go:78", after := #[{ on := 3, ground := Ground.data }], guard := none }) rfl (fun Kc hK => ?_) (AllReadyH.cons (o := { dst := some 12, op := Op.buildSlice 327 1 #[(0, Operand.tmp 11)], type := 327, pos := "leaf.go:78", after := #[{ on := 6, ground := Ground.data }], guard := none }) rfl (fun Kc hK => ?_) AllReadyH.nil)
  · go_simp
    refine hK.out _ _ HQ0.out (fun hHeld => ?_)
    clear hK Kc
    (try simp only [Act.put]); (try simp only [List.setIfInBounds_toArray]); (try simp only [List.set_cons_succ]); (try simp only [List.set_cons_zero])
    refine wpAnyH_ready (rs := [7]) (by kernel_rfl) (by simp) ?_
    refine AllReadyH.cons (o := { dst := some 12, op := Op.buildSlice 327 1 #[(0, Operand.tmp 11)], type := 327, pos := "leaf.go:78", after := #[{ on := 6, ground := Ground.data }], guard := none }) rfl (fun Kc hK => ?_) AllReadyH.nil
    go_simp
    refine hK.out _ _ (HQ1.out) (fun hHeld => ?_)
    clear hK Kc
    (try simp only [Act.put]); (try simp only [List.setIfInBounds_toArray]); (try simp only [List.set_cons_succ]); (try simp only [List.set_cons_zero])
    refine wpAnyH_ready (rs := [8]) (by kernel_rfl) (by simp) ?_
    refine AllReadyH.cons (o := { dst := some 13, op := Op.call { callee := Callee.builtin Builtin.append, args := #[Operand.tmp 9, Operand.tmp 12], argTypes := #[327, 327] }, type := 327, pos := "leaf.go:78", after := #[{ on := 4, ground := Ground.data }, { on := 7, ground := Ground.data }], guard := none }) rfl (fun Kc hK => ?_) AllReadyH.nil
    refine step_append_any (P := Tryz.prog) _ rfl (.tmp 9) (.tmp 12) 327 327 rfl 2 (.int .i64 0) 8 Tryz.underlying327 info2 rfl (.slice lo L lc) L xs rfl HOw.out (.slice (some ⟨A.heap.size, 0, none⟩) 1 1) 1 [.int .i64 x] rfl HSr.out (by omega) (by omega) ?_
    intro v' w7 ha1 ha2 ha3
    obtain ⟨uo, uc, rfl⟩ := own_formN ha1
    obtain ⟨hm7, hq7⟩ := HAt.out w7 ha2
    obtain ⟨c0, c1⟩ := cell2 hm7
    have z1 := frz hm7 1
    have HQ7 := hidM hq7
    have HQ8 : Hid (∀ y, (w7.setCell ⟨m, 1, none⟩ y).cell? ⟨W.heap.size, 1, none⟩ = some (.int .i64 x)) := fun y => (World.cell?_of_block (heap_setCell_other _ _ _ _ HNM.out)).trans hq7
    have HE := hidM (HEnd.out _ _ _ ha1 ha2 ha3)
    clear ha1 ha2 ha3 hm7 hq7
    refine hK.out _ _ HQ7.out (fun hHeld => ?_)
    clear hK Kc
    (try simp only [Act.put]); (try simp only [List.setIfInBounds_toArray]); (try simp only [List.set_cons_succ]); (try simp only [List.set_cons_zero])
    refine wpAnyH_take (i := 9) (oi := { dst := some 14, op := Op.nilCheck (Operand.tmp 5), type := 0, pos := "leaf.go:78", after := #[{ on := 0, ground := Ground.data }, { on := 0, ground := Ground.phase }, { on := 1, ground := Ground.phase }, { on := 2, ground := Ground.phase }, { on := 3, ground := Ground.phase }, { on := 4, ground := Ground.phase }, { on := 5, ground := Ground.phase }, { on := 6, ground := Ground.phase }, { on := 7, ground := Ground.phase }, { on := 8, ground := Ground.phase }], guard := none }) (v := ?v9d1) rfl (by kernel_rfl) (by kernel_rfl) (by kernel_rfl) (fun _ _ _ h => h) (Or.inl ⟨by rfl, ?y9d1⟩) (by assumption) ?r9d1
    case y9d1 => (intro w hSw; go_simp; (try with_reducible rfl))
    (try simp only [Act.put]); (try simp only [List.setIfInBounds_toArray]); (try simp only [List.set_cons_succ]); (try simp only [List.set_cons_zero])
    refine wpAnyH_take (i := 10) (oi := { dst := some 15, op := Op.fieldAddr 329 (Operand.tmp 14) 1, type := 0, pos := "leaf.go:78", after := #[{ on := 9, ground := Ground.data }, { on := 0, ground := Ground.phase }, { on := 1, ground := Ground.phase }, { on := 2, ground := Ground.phase }, { on := 3, ground := Ground.phase }, { on := 4, ground := Ground.phase }, { on := 5, ground := Ground.phase }, { on := 6, ground := Ground.phase }, { on := 7, ground := Ground.phase }, { on := 8, ground := Ground.phase }], guard := none }) (v := ?v10d2) rfl (by kernel_rfl) (by kernel_rfl) (by kernel_rfl) (fun _ _ _ h => h) (Or.inl ⟨by rfl, ?y10d2⟩) (by assumption) ?r10d2
    case y10d2 => (intro w hSw; go_simp; (try with_reducible rfl))
    (try simp only [Act.put]); (try simp only [List.setIfInBounds_toArray]); (try simp only [List.set_cons_succ]); (try simp only [List.set_cons_zero])
    refine wpAnyH_ready (rs := [11]) (by kernel_rfl) (by simp) ?_
    refine AllReadyH.cons (o := { dst := none, op := Op.store 327 (Operand.tmp 15) (Operand.tmp 13), type := 0, pos := "leaf.go:78", after := #[{ on := 10, ground := Ground.data }, { on := 8, ground := Ground.data }, { on := 8, ground := Ground.chain }, { on := 0, ground := Ground.phase }, { on := 1, ground := Ground.phase }, { on := 2, ground := Ground.phase }, { on := 3, ground := Ground.phase }, { on := 4, ground := Ground.phase }, { on := 5, ground := Ground.phase }, { on := 6, ground := Ground.phase }, { on := 7, ground := Ground.phase }, { on := 8, ground := Ground.phase }], guard := none }) rfl (fun Kc hK => ?_) AllReadyH.nil
    go_simp
    refine hK.out _ _ (HQ8.out _) (fun hHeld => ?_)
    clear hK Kc
    (try simp only [Act.put]); (try simp only [List.setIfInBounds_toArray]); (try simp only [List.set_cons_succ]); (try simp only [List.set_cons_zero])
    refine wpAnyH_done (by kernel_rfl) ?_ _
    clear hHeld c0 c1 z1
    go_wp2_with fail
    go_ret
    exact ⟨uo, uc, rfl, HE.out⟩
  · go_simp
    refine hK.out _ _ HQ1.out (fun hHeld => ?_)
    clear hK Kc
    (try simp only [Act.put]); (try simp only [List.setIfInBounds_toArray]); (try simp only [List.set_cons_succ]); (try simp only [List.set_cons_zero])
    refine wpAnyH_ready (rs := [4]) (by kernel_rfl) (by simp) ?_
    refine AllReadyH.cons (o := { dst := some 9, op := Op.load 327 (Operand.tmp 8), type := 327, pos := "leaf.go:78", after := #[{ on := 3, ground := Ground.data }], guard := none }) rfl (fun Kc hK => ?_) AllReadyH.nil
    go_simp
    refine hK.out _ _ HQ1.out (fun hHeld => ?_)
    clear hK Kc
    (try simp only [Act.put]); (try simp only [List.setIfInBounds_toArray]); (try simp only [List.set_cons_succ]); (try simp only [List.set_cons_zero])
    refine wpAnyH_ready (rs := [8]) (by kernel_rfl) (by simp) ?_
    refine AllReadyH.cons (o := { dst := some 13, op := Op.call { callee := Callee.builtin Builtin.append, args := #[Operand.tmp 9, Operand.tmp 12], argTypes := #[327, 327] }, type := 327, pos := "leaf.go:78", after := #[{ on := 4, ground := Ground.data }, { on := 7, ground := Ground.data }], guard := none }) rfl (fun Kc hK => ?_) AllReadyH.nil
    refine step_append_any (P := Tryz.prog) _ rfl (.tmp 9) (.tmp 12) 327 327 rfl 2 (.int .i64 0) 8 Tryz.underlying327 info2 rfl (.slice lo L lc) L xs rfl HOw.out (.slice (some ⟨A.heap.size, 0, none⟩) 1 1) 1 [.int .i64 x] rfl HSr.out (by omega) (by omega) ?_
    intro v' w7 ha1 ha2 ha3
    obtain ⟨uo, uc, rfl⟩ := own_formN ha1
    obtain ⟨hm7, hq7⟩ := HAt.out w7 ha2
    obtain ⟨c0, c1⟩ := cell2 hm7
    have z1 := frz hm7 1
    have HQ7 := hidM hq7
    have HQ8 : Hid (∀ y, (w7.setCell ⟨m, 1, none⟩ y).cell? ⟨W.heap.size, 1, none⟩ = some (.int .i64 x)) := fun y => (World.cell?_of_block (heap_setCell_other _ _ _ _ HNM.out)).trans hq7
    have HE := hidM (HEnd.out _ _ _ ha1 ha2 ha3)
    clear ha1 ha2 ha3 hm7 hq7
    refine hK.out _ _ HQ7.out (fun hHeld => ?_)
    clear hK Kc
    (try simp only [Act.put]); (try simp only [List.setIfInBounds_toArray]); (try simp only [List.set_cons_succ]); (try simp only [List.set_cons_zero])
    refine wpAnyH_take (i := 9) (oi := { dst := some 14, op := Op.nilCheck (Operand.tmp 5), type := 0, pos := "leaf.go:78", after := #[{ on := 0, ground := Ground.data }, { on := 0, ground := Ground.phase }, { on := 1, ground := Ground.phase }, { on := 2, ground := Ground.phase }, { on := 3, ground := Ground.phase }, { on := 4, ground := Ground.phase }, { on := 5, ground := Ground.phase }, { on := 6, ground := Ground.phase }, { on := 7, ground := Ground.phase }, { on := 8, ground := Ground.phase }], guard := none }) (v := ?v9e1) rfl (by kernel_rfl) (by kernel_rfl) (by kernel_rfl) (fun _ _ _ h => h) (Or.inl ⟨by rfl, ?y9e1⟩) (by assumption) ?r9e1
    case y9e1 => (intro w hSw; go_simp; (try with_reducible rfl))
    (try simp only [Act.put]); (try simp only [List.setIfInBounds_toArray]); (try simp only [List.set_cons_succ]); (try simp only [List.set_cons_zero])
    refine wpAnyH_take (i := 10) (oi := { dst := some 15, op := Op.fieldAddr 329 (Operand.tmp 14) 1, type := 0, pos := "leaf.go:78", after := #[{ on := 9, ground := Ground.data }, { on := 0, ground := Ground.phase }, { on := 1, ground := Ground.phase }, { on := 2, ground := Ground.phase }, { on := 3, ground := Ground.phase }, { on := 4, ground := Ground.phase }, { on := 5, ground := Ground.phase }, { on := 6, ground := Ground.phase }, { on := 7, ground := Ground.phase }, { on := 8, ground := Ground.phase }], guard := none }) (v := ?v10e2) rfl (by kernel_rfl) (by kernel_rfl) (by kernel_rfl) (fun _ _ _ h => h) (Or.inl ⟨by rfl, ?y10e2⟩) (by assumption) ?r10e2
    case y10e2 => (intro w hSw; go_simp; (try with_reducible rfl))
    (try simp only [Act.put]); (try simp only [List.setIfInBounds_toArray]); (try simp only [List.set_cons_succ]); (try simp only [List.set_cons_zero])
    refine wpAnyH_ready (rs := [11]) (by kernel_rfl) (by simp) ?_
    refine AllReadyH.cons (o := { dst := none, op := Op.store 327 (Operand.tmp 15) (Operand.tmp 13), type := 0, pos := "leaf.go:78", after := #[{ on := 10, ground := Ground.data }, { on := 8, ground := Ground.data }, { on := 8, ground := Ground.chain }, { on := 0, ground := Ground.phase }, { on := 1, ground := Ground.phase }, { on := 2, ground := Ground.phase }, { on := 3, ground := Ground.phase }, { on := 4, ground := Ground.phase }, { on := 5, ground := Ground.phase }, { on := 6, ground := Ground.phase }, { on := 7, ground := Ground.phase }, { on := 8, ground := Ground.phase }], guard := none }) rfl (fun Kc hK => ?_) AllReadyH.nil
    go_simp
    refine hK.out _ _ (HQ8.out _) (fun hHeld => ?_)
    clear hK Kc
    (try simp only [Act.put]); (try simp only [List.setIfInBounds_toArray]); (try simp only [List.set_cons_succ]); (try simp only [List.set_cons_zero])
    refine wpAnyH_done (by kernel_rfl) ?_ _
    clear hHeld c0 c1 z1
    go_wp2_with fail
    go_ret
    exact ⟨uo, uc, rfl, HE.out⟩
end Go.Proofs.YteggcdhibcjneaaGreatDoor.Kit
