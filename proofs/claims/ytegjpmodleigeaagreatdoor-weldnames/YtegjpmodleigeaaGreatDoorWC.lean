import Derived.Test.YtegjpmodleigeaaGreatDoorTD
set_option maxRecDepth 100000
set_option maxHeartbeats 4000000
namespace Go.Proofs.YtegjpmodleigeaaGreatDoor.Kit
open Go.RowKit Go.Shelf Go.Deep
open Go.Proofs.YtegjpmodleigeaaGreatDoor.Kd (Ans AnsV cell5 cell2)
set_option linter.unusedVariables false
set_option linter.unusedSimpArgs false
attribute [local go_sem] run_store_func
theorem has65 (a q L i : Nat) (W : World) (ha : W.heap[a]? = some (.cells #[.pointer (some ⟨q, 0, none⟩), .int .i64 0, .int .i64 L, .pointer none] 111)) (hi : i < L) : Calls Tryz.prog 65 #[.pointer (some ⟨a, 0, none⟩), .int .i64 i] W fun e w' => e = .returned (.bool true) ∧ w' = W := by
  obtain ⟨a0, a1, a2, a3⟩ := cell4 ha
  have h1 : (i : Int) < (L : Int) := by omega
  have h2 : (0 : Int) ≤ (i : Int) := by omega
  clear ha hi
  go_enter Tryz.func65, Tryz.ntmps65
  go_wp2_with fail
  go_ret
  exact ⟨rfl, rfl⟩
/-- a row's value is told, whatever else is made -/
def GetA (W : World) (a i : Nat) (x : Int) : Prop := ∀ u, Gr W u → Calls Tryz.prog 42 #[.pointer (some ⟨a, 0, none⟩), .int .i64 i] u fun e w' => e = .returned (.tuple #[.agg #[.bool false, .int .i64 x, .string ⟨#[]⟩, .slice none 0 0], .int .i64 0]) ∧ Gr u w'
theorem GetA.gr {W u : World} {a i : Nat} {x : Int} (h : GetA W a i x) (g : Gr W u) : GetA u a i x := fun v gv => h v (g.trans gv (fun _ _ h => h))
theorem get42 (a q L i : Nat) (x : Int) (W : World) (ha : W.heap[a]? = some (.cells #[.pointer (some ⟨q, 0, none⟩), .int .i64 0, .int .i64 L, .pointer none] 111)) (hi : i < L) (hR : ∀ u l, Gr W u → u.heap[l]? = some (.cells #[.pointer none, .int .i64 (4194304 : Nat)] 140) → W.heap.size ≤ l → Calls Tryz.prog 66 #[.pointer (some ⟨a, 0, none⟩), .pointer (some ⟨l, 0, none⟩), .int .i64 i] u fun e w' => e = .returned (.tuple #[.agg #[.bool false, .int .i64 x, .string ⟨#[]⟩, .slice none 0 0], .int .i64 0]) ∧ Rd1 u w' l 4194304) :
    Calls Tryz.prog 42 #[.pointer (some ⟨a, 0, none⟩), .int .i64 i] W fun e w' => e = .returned (.tuple #[.agg #[.bool false, .int .i64 x, .string ⟨#[]⟩, .slice none 0 0], .int .i64 0]) ∧ Gr W w' := by
  obtain ⟨A, hA⟩ : ∃ A, W.alloc (.cells #[.bool false, .int .i64 0, .string ⟨#[]⟩, .slice none 0 0] 88) = A := ⟨_, rfl⟩
  have gA : Gr W A := by rw [← hA]; exact gr_alloc W _
  have hb : A.heap[W.heap.size]? = some (.cells #[.bool false, .int .i64 0, .string ⟨#[]⟩, .slice none 0 0] 88) := by rw [← hA]; exact heap_alloc_new W _
  have haA := (gA.block _ (lt_of_heap ha) id).trans ha
  have H65 := hidM (has65 a q L i A haA hi)
  have H67 := hidM (look49 L a q A haA)
  have HR : Hid (Calls Tryz.prog 66 #[.pointer (some ⟨a, 0, none⟩), .pointer (some ⟨A.heap.size, 0, none⟩), .int .i64 i] (A.alloc (.cells #[.pointer none, .int .i64 4194304] 140)) fun e w' => e = .returned (.tuple #[.agg #[.bool false, .int .i64 x, .string ⟨#[]⟩, .slice none 0 0], .int .i64 0]) ∧ Rd1 (A.alloc (.cells #[.pointer none, .int .i64 4194304] 140)) w' A.heap.size 4194304) := hR _ _ (gA.alloc _) (heap_alloc_new A _) gA.size
  have HT : Hid (∀ w3, Rd1 (A.alloc (.cells #[.pointer none, .int .i64 4194304] 140)) w3 A.heap.size 4194304 → w3.heap[W.heap.size]? = some (.cells #[.bool false, .int .i64 0, .string ⟨#[]⟩, .slice none 0 0] 88) ∧ (setAll w3 W.heap.size [(0, .bool false), (1, .int .i64 x), (2, .string ⟨#[]⟩), (3, .slice none 0 0)]).heap[W.heap.size]? = some (.cells #[.bool false, .int .i64 x, .string ⟨#[]⟩, .slice none 0 0] 88) ∧ Gr W (setAll w3 W.heap.size [(0, .bool false), (1, .int .i64 x), (2, .string ⟨#[]⟩), (3, .slice none 0 0)])) := fun w3 k => by
    have k1 := k.1
    have hl := lt_of_heap hb
    have g1 : Gr A (A.alloc (.cells #[.pointer none, .int .i64 4194304] 140)) := gr_alloc A _
    have hb1 := (g1.block _ hl id).trans hb
    have hb3 := (k1.block _ (lt_of_heap hb1) (fun e => by have e' : W.heap.size = A.heap.size := e; omega)).trans hb1
    refine ⟨hb3, setAll_blk W.heap.size 88 _ w3 _ hb3, ?_⟩
    have gW3 : Gr W w3 := (gA.trans g1 (fun _ _ h => h)).trans k1 (fun j hj e => by have e' : j = A.heap.size := e; omega)
    exact low_setAll gW3 (Nat.le_refl _) _
  clear gA hb ha haA hR hi
  go_enter Tryz.func42, Tryz.ntmps42
  go_wp2_with (first
    | (go_at_call 65; refine H65.out.mono ?_; rintro e w1 ⟨rfl, rfl⟩)
    | (go_at_call 67; refine H67.out.mono ?_; rintro e w2 ⟨rfl, rfl⟩)
    | (go_at_call 66; refine HR.out.mono ?_; rintro e w3 ⟨rfl, k3⟩; obtain ⟨h3, u3, g3⟩ := HT.out w3 k3; clear k3 hA; obtain ⟨y0, y1, y2, y3⟩ := cell4 h3; have x0 := frz h3 0; have x1 := frz h3 1; have x2 := frz h3 2; have x3 := frz h3 3; obtain ⟨U, hU⟩ : ∃ U, setAll w3 W.heap.size [(0, .bool false), (1, .int .i64 x), (2, .string ⟨#[]⟩), (3, .slice none 0 0)] = U := ⟨_, rfl⟩; rw [hU] at u3 g3; simp only [setAll] at hU; have HU := hidM u3; have HG := hidM g3; clear h3 u3 g3))
  (try simp only [Exit.inBlock, Exit.then])
  refine bodyPost_ret (results_cell37t rfl rfl (by with_reducible exact HU.out) (by kernel_rfl)) rfl ?_
  exact ⟨rfl, HG.out⟩
theorem getA_0 {W : World} {a q r rc : Nat} {nu : Bool} {ao : Option Addr} {ca L : Nat} {v2 n2 c2 : Nat} (hL : 0 < L) (ha : W.heap[a]? = some (.cells #[.pointer (some ⟨q, 0, none⟩), .int .i64 0, .int .i64 L, .pointer none] 111)) (h : NdA W q r rc nu ao ca L 0 v2 n2 c2) (hn0 : 1 ≤ n2) (hn : n2 ≤ 100000) (hc : n2 ≤ c2) (hx : W.cell? ⟨v2, 0, none⟩ = some (.int .u8 5)) : GetA W a 0 5 := fun u g => by
  have hau := (g.block _ (lt_of_heap ha) id).trans ha
  have hu := h.gr g
  have lq := Nat.lt_of_lt_of_le (lt_of_heap h.nd) g.size
  have lr := block_lt_of_cell hu.r1
  have lv := block_lt_of_cell (g.cell' hx id)
  simp only at lr lv
  refine get42 a q L 0 5 u hau hL (fun v l gv hl hle => ?_)
  have hv := hu.gr gv
  exact read50_0 a l 4194304 v q r rc nu ao ca L v2 n2 c2 ((gv.block _ (lt_of_heap hau) id).trans hau) hv hl (by omega) (by omega) (by omega) (by decide) (by decide) hn0 hn hc (gv.cell' (g.cell' hx id) id) (gv.cell' (g.cell' hx id) id)
theorem getA_1 {W : World} {a q r rc : Nat} {nu : Bool} {ao : Option Addr} {ca L : Nat} {v2 n2 c2 : Nat} (hL : 1 < L) (ha : W.heap[a]? = some (.cells #[.pointer (some ⟨q, 0, none⟩), .int .i64 0, .int .i64 L, .pointer none] 111)) (h : NdA W q r rc nu ao ca L 0 v2 n2 c2) (hn0 : 2 ≤ n2) (hn : n2 ≤ 100000) (hc : n2 ≤ c2) (hx : W.cell? ⟨v2, 1, none⟩ = some (.int .u8 6)) : GetA W a 1 6 := fun u g => by
  have hau := (g.block _ (lt_of_heap ha) id).trans ha
  have hu := h.gr g
  have lq := Nat.lt_of_lt_of_le (lt_of_heap h.nd) g.size
  have lr := block_lt_of_cell hu.r1
  have lv := block_lt_of_cell (g.cell' hx id)
  simp only at lr lv
  refine get42 a q L 1 6 u hau hL (fun v l gv hl hle => ?_)
  have hv := hu.gr gv
  exact read50_1 a l 4194304 v q r rc nu ao ca L v2 n2 c2 ((gv.block _ (lt_of_heap hau) id).trans hau) hv hl (by omega) (by omega) (by omega) (by decide) (by decide) hn0 hn hc (gv.cell' (g.cell' hx id) id) (gv.cell' (g.cell' hx id) id)
theorem getA_2 {W : World} {a q r rc : Nat} {nu : Bool} {ao : Option Addr} {ca L : Nat} {v2 n2 c2 : Nat} (hL : 0 < L) (ha : W.heap[a]? = some (.cells #[.pointer (some ⟨q, 0, none⟩), .int .i64 0, .int .i64 L, .pointer none] 111)) (h : NdA W q r rc nu ao ca L 1 v2 n2 c2) (hn0 : 2 ≤ n2) (hn : n2 ≤ 100000) (hc : n2 ≤ c2) (hx : W.cell? ⟨v2, 1, none⟩ = some (.int .u8 6)) : GetA W a 0 6 := fun u g => by
  have hau := (g.block _ (lt_of_heap ha) id).trans ha
  have hu := h.gr g
  have lq := Nat.lt_of_lt_of_le (lt_of_heap h.nd) g.size
  have lr := block_lt_of_cell hu.r1
  have lv := block_lt_of_cell (g.cell' hx id)
  simp only at lr lv
  refine get42 a q L 0 6 u hau hL (fun v l gv hl hle => ?_)
  have hv := hu.gr gv
  exact read50_2 a l 4194304 v q r rc nu ao ca L v2 n2 c2 ((gv.block _ (lt_of_heap hau) id).trans hau) hv hl (by omega) (by omega) (by omega) (by decide) (by decide) hn0 hn hc (gv.cell' (g.cell' hx id) id) (gv.cell' (g.cell' hx id) id)
theorem value28 (cb cc a i : Nat) (x : Int) (W : World) (hg : GetA W a i x) (hc : W.cell? ⟨cb, 0, none⟩ = some (.pointer (some ⟨a, 0, none⟩))) : Calls Tryz.prog 28 #[.agg #[.slice (some ⟨cb, 0, none⟩) 1 cc, .int .i64 i], .int .i64 0] W fun e w' => e = .returned (.agg #[.bool false, .int .i64 x, .string ⟨#[]⟩, .slice none 0 0]) ∧ Gr W w' := by
  obtain ⟨A0, hA0⟩ : ∃ A0, W.alloc (.cells #[.slice (some ⟨cb, 0, none⟩) 1 cc, .int .i64 i] 69) = A0 := ⟨_, rfl⟩
  have g0 : Gr W A0 := by rw [← hA0]; exact gr_alloc W _
  have b0 : A0.heap[W.heap.size]? = some (.cells #[.slice (some ⟨cb, 0, none⟩) 1 cc, .int .i64 i] 69) := by rw [← hA0]; exact heap_alloc_new W _
  obtain ⟨A, hA⟩ : ∃ A, A0.alloc (.cells #[.bool false, .int .i64 0, .string ⟨#[]⟩, .slice none 0 0] 88) = A := ⟨_, rfl⟩
  have g1 : Gr A0 A := by rw [← hA]; exact gr_alloc A0 _
  have br : A.heap[A0.heap.size]? = some (.cells #[.bool false, .int .i64 0, .string ⟨#[]⟩, .slice none 0 0] 88) := by rw [← hA]; exact heap_alloc_new A0 _
  have b1 := (g1.block _ (lt_of_heap b0) id).trans b0
  have gA : Gr W A := g0.trans g1 (fun _ _ h => h)
  have HS : Hid (∀ u, Gr A u → u.cell? ⟨W.heap.size, 0, none⟩ = some (.slice (some ⟨cb, 0, none⟩) 1 cc) ∧ u.cell? ⟨W.heap.size, 1, none⟩ = some (.int .i64 i) ∧ u.cell? ⟨cb, 0, none⟩ = some (.pointer (some ⟨a, 0, none⟩))) := fun u g => by
    obtain ⟨c0, c1⟩ := cell2 ((g.block _ (lt_of_heap b1) id).trans b1)
    exact ⟨c0, c1, g.cell' (gA.cell' hc id) id⟩
  have HGet : Hid (∀ u, Gr A u → Calls Tryz.prog 42 #[.pointer (some ⟨a, 0, none⟩), .int .i64 i] u fun e w' => e = .returned (.tuple #[.agg #[.bool false, .int .i64 x, .string ⟨#[]⟩, .slice none 0 0], .int .i64 0]) ∧ Gr u w') := fun u g => hg u (gA.trans g (fun _ _ h => h))
  have HE : Hid (∀ u b l, Gr A u → A.heap.size ≤ b → Gr A (setAll u b l)) := fun u b l g hb => low_setAll g hb l
  have HL : Hid (∀ u : World, Gr A u → A.heap.size ≤ u.heap.size) := fun u g => g.size
  have HB0 : Hid (A.heap.size ≤ A.heap.size) := Nat.le_refl _
  have HF : Hid (∀ u, Gr A u → u.heap[A0.heap.size]? = some (.cells #[.bool false, .int .i64 0, .string ⟨#[]⟩, .slice none 0 0] 88) ∧ (setAll u A0.heap.size [(0, .bool false), (1, .int .i64 x), (2, .string ⟨#[]⟩), (3, .slice none 0 0)]).heap[A0.heap.size]? = some (.cells #[.bool false, .int .i64 x, .string ⟨#[]⟩, .slice none 0 0] 88) ∧ Gr W (setAll u A0.heap.size [(0, .bool false), (1, .int .i64 x), (2, .string ⟨#[]⟩), (3, .slice none 0 0)])) := fun u g => by
    have hb := (g.block _ (lt_of_heap br) id).trans br
    exact ⟨hb, setAll_blk A0.heap.size 88 _ u _ hb, low_setAll (gA.trans g (fun _ _ h => h)) g0.size _⟩
  have HG : Hid (Gr A A.drew) := gr_drew
  clear g0 b0 g1 br b1 gA hg hc
  go_enter Tryz.func28, Tryz.ntmps28
  go_wp2_with fail
  clear hA0 hA
  refine wp_region_held_drew (S := fun w' => w'.cell? ⟨W.heap.size, 0, none⟩ = some (.slice (some ⟨cb, 0, none⟩) 1 cc) ∧ w'.cell? ⟨W.heap.size, 1, none⟩ = some (.int .i64 i) ∧ w'.cell? ⟨cb, 0, none⟩ = some (.pointer (some ⟨a, 0, none⟩))) (by kernel_rfl) (HS.out _ HG.out) (fun hHeld => ?_)
  refine wpAnyH_take (i := 0) (oi := { dst := some 8, op := Op.fieldAddr 69 (Operand.tmp 2) 0, type := 0, pos := "rows.go:24", after := #[], guard := none }) (v := ?v0a1) rfl (by kernel_rfl) (by kernel_rfl) (by kernel_rfl) (fun _ _ _ h => h) (Or.inl ⟨by rfl, ?y0a1⟩) (by assumption) ?r0a1
  case y0a1 => (intro w hSw; obtain ⟨s0, s1, s2⟩ := hSw; go_simp; (try with_reducible rfl))
  (try simp only [Act.put]); (try simp only [List.setIfInBounds_toArray]); (try simp only [List.set_cons_succ]); (try simp only [List.set_cons_zero])
  refine wpAnyH_take (i := 1) (oi := { dst := some 9, op := Op.load 57 (Operand.tmp 8), type := 57, pos := "rows.go:24", after := #[{ on := 0, ground := Ground.data }], guard := none }) (v := ?v1a2) rfl (by kernel_rfl) (by kernel_rfl) (by kernel_rfl) (fun _ _ _ h => h) (Or.inl ⟨by rfl, ?y1a2⟩) (by assumption) ?r1a2
  case y1a2 => (intro w hSw; obtain ⟨s0, s1, s2⟩ := hSw; go_simp; (try with_reducible rfl))
  (try simp only [Act.put]); (try simp only [List.setIfInBounds_toArray]); (try simp only [List.set_cons_succ]); (try simp only [List.set_cons_zero])
  refine wpAnyH_take (i := 2) (oi := { dst := some 10, op := Op.move (Operand.tmp 1), type := 3, pos := "rows.go:24", after := #[], guard := none }) (v := ?v2a3) rfl (by kernel_rfl) (by kernel_rfl) (by kernel_rfl) (fun _ _ _ h => h) (Or.inl ⟨by rfl, ?y2a3⟩) (by assumption) ?r2a3
  case y2a3 => (intro w hSw; obtain ⟨s0, s1, s2⟩ := hSw; go_simp; (try with_reducible rfl))
  (try simp only [Act.put]); (try simp only [List.setIfInBounds_toArray]); (try simp only [List.set_cons_succ]); (try simp only [List.set_cons_zero])
  refine wpAnyH_take (i := 3) (oi := { dst := some 11, op := Op.indexAddr 57 (Operand.tmp 9) (Operand.tmp 10), type := 0, pos := "rows.go:24", after := #[{ on := 1, ground := Ground.data }, { on := 2, ground := Ground.data }], guard := none }) (v := ?v3a4) rfl (by kernel_rfl) (by kernel_rfl) (by kernel_rfl) (fun _ _ _ h => h) (Or.inl ⟨by rfl, ?y3a4⟩) (by assumption) ?r3a4
  case y3a4 => (intro w hSw; obtain ⟨s0, s1, s2⟩ := hSw; go_simp; (try with_reducible rfl))
  (try simp only [Act.put]); (try simp only [List.setIfInBounds_toArray]); (try simp only [List.set_cons_succ]); (try simp only [List.set_cons_zero])
  refine wpAnyH_take (i := 4) (oi := { dst := some 12, op := Op.load 79 (Operand.tmp 11), type := 79, pos := "rows.go:24", after := #[{ on := 3, ground := Ground.data }], guard := none }) (v := ?v4a5) rfl (by kernel_rfl) (by kernel_rfl) (by kernel_rfl) (fun _ _ _ h => h) (Or.inl ⟨by rfl, ?y4a5⟩) (by assumption) ?r4a5
  case y4a5 => (intro w hSw; obtain ⟨s0, s1, s2⟩ := hSw; go_simp; (try with_reducible rfl))
  (try simp only [Act.put]); (try simp only [List.setIfInBounds_toArray]); (try simp only [List.set_cons_succ]); (try simp only [List.set_cons_zero])
  refine wpAnyH_take (i := 5) (oi := { dst := some 13, op := Op.fieldAddr 69 (Operand.tmp 2) 1, type := 0, pos := "rows.go:24", after := #[], guard := none }) (v := ?v5a6) rfl (by kernel_rfl) (by kernel_rfl) (by kernel_rfl) (fun _ _ _ h => h) (Or.inl ⟨by rfl, ?y5a6⟩) (by assumption) ?r5a6
  case y5a6 => (intro w hSw; obtain ⟨s0, s1, s2⟩ := hSw; go_simp; (try with_reducible rfl))
  (try simp only [Act.put]); (try simp only [List.setIfInBounds_toArray]); (try simp only [List.set_cons_succ]); (try simp only [List.set_cons_zero])
  refine wpAnyH_take (i := 6) (oi := { dst := some 14, op := Op.load 3 (Operand.tmp 13), type := 3, pos := "rows.go:24", after := #[{ on := 5, ground := Ground.data }], guard := none }) (v := ?v6a7) rfl (by kernel_rfl) (by kernel_rfl) (by kernel_rfl) (fun _ _ _ h => h) (Or.inl ⟨by rfl, ?y6a7⟩) (by assumption) ?r6a7
  case y6a7 => (intro w hSw; obtain ⟨s0, s1, s2⟩ := hSw; go_simp; (try with_reducible rfl))
  (try simp only [Act.put]); (try simp only [List.setIfInBounds_toArray]); (try simp only [List.set_cons_succ]); (try simp only [List.set_cons_zero])
  refine wpAnyH_ready (rs := [7, 11]) (by kernel_rfl) (by simp) ?_
  refine (AllReadyH.cons (o := { dst := some 15, op := Op.call { callee := Callee.value (Operand.func 42), args := #[Operand.tmp 12, Operand.tmp 14], argTypes := #[79, 3] }, type := 124, pos := "rows.go:24", after := #[{ on := 4, ground := Ground.data }, { on := 6, ground := Ground.data }], guard := none }) rfl (fun Kc hK => ?_) (AllReadyH.cons (o := { dst := some 5, op := Op.alloc 88, type := 0, pos := "rows.go:24", after := #[], guard := none }) rfl (fun Kc hK => ?_) AllReadyH.nil))
  · go_simp
    go_at_call 42
    refine Calls.mono (HGet.out _ HG.out) ?_
    rintro e' w1 ⟨rfl, g1⟩
    replace HG := hidM (HG.out.trans g1 (fun _ _ h => h))
    have HG1 := hidM g1
    clear g1
    go_wp2_with fail
    refine hK.out _ _ (HS.out _ HG.out) (fun hHeld => ?_)
    clear hK Kc
    (try simp only [Act.put]); (try simp only [List.setIfInBounds_toArray]); (try simp only [List.set_cons_succ]); (try simp only [List.set_cons_zero])
    refine wpAnyH_take (i := 8) (oi := { dst := some 7, op := Op.move (Operand.tmp 15), type := 124, pos := "rows.go:24", after := #[{ on := 7, ground := Ground.data }], guard := none }) (v := ?v8b1) rfl (by kernel_rfl) (by kernel_rfl) (by kernel_rfl) (fun _ _ _ h => h) (Or.inl ⟨by rfl, ?y8b1⟩) (by assumption) ?r8b1
    case y8b1 => (intro w hSw; obtain ⟨s0, s1, s2⟩ := hSw; go_simp; (try with_reducible rfl))
    (try simp only [Act.put]); (try simp only [List.setIfInBounds_toArray]); (try simp only [List.set_cons_succ]); (try simp only [List.set_cons_zero])
    refine wpAnyH_take (i := 9) (oi := { dst := some 16, op := Op.extract (Operand.tmp 7) 0, type := 88, pos := "rows.go:24", after := #[{ on := 8, ground := Ground.data }], guard := none }) (v := ?v9b2) rfl (by kernel_rfl) (by kernel_rfl) (by kernel_rfl) (fun _ _ _ h => h) (Or.inl ⟨by rfl, ?y9b2⟩) (by assumption) ?r9b2
    case y9b2 => (intro w hSw; obtain ⟨s0, s1, s2⟩ := hSw; go_simp; (try with_reducible rfl))
    (try simp only [Act.put]); (try simp only [List.setIfInBounds_toArray]); (try simp only [List.set_cons_succ]); (try simp only [List.set_cons_zero])
    refine wpAnyH_take (i := 10) (oi := { dst := some 17, op := Op.extract (Operand.tmp 7) 1, type := 33, pos := "rows.go:24", after := #[{ on := 8, ground := Ground.data }, { on := 12, ground := Ground.gcOnly Departure.lateStores }], guard := none }) (v := ?v10b3) rfl (by kernel_rfl) (by kernel_rfl) (by kernel_rfl) (fun _ _ _ h => h) (Or.inl ⟨by rfl, ?y10b3⟩) (by assumption) ?r10b3
    case y10b3 => (intro w hSw; obtain ⟨s0, s1, s2⟩ := hSw; go_simp; (try with_reducible rfl))
    (try simp only [Act.put]); (try simp only [List.setIfInBounds_toArray]); (try simp only [List.set_cons_succ]); (try simp only [List.set_cons_zero])
    refine wpAnyH_ready (rs := [11]) (by kernel_rfl) (by simp) ?_
    refine (AllReadyH.cons (o := { dst := some 5, op := Op.alloc 88, type := 0, pos := "rows.go:24", after := #[], guard := none }) rfl (fun Kc hK => ?_) AllReadyH.nil)
    have HG0 := hidM (HG.out.alloc (.cells #[.bool false, .int .i64 0, .string ⟨#[]⟩, .slice none 0 0] 88))
    have HG2 := hidM (HG.out.alloc (.cells #[.bool false, .int .i64 x, .string ⟨#[]⟩, .slice none 0 0] 88))
    have HB2 := hidM (heap_alloc_new w1 (.cells #[.bool false, .int .i64 x, .string ⟨#[]⟩, .slice none 0 0] 88))
    go_simp
    refine hK.out _ _ (HS.out _ HG0.out) (fun hHeld => ?_)
    clear hK Kc
    (try simp only [Act.put]); (try simp only [List.setIfInBounds_toArray]); (try simp only [List.set_cons_succ]); (try simp only [List.set_cons_zero])
    refine wpAnyH_ready (rs := [12]) (by kernel_rfl) (by simp) ?_
    refine (AllReadyH.cons (o := { dst := none, op := Op.store 88 (Operand.tmp 5) (Operand.tmp 16), type := 0, pos := "rows.go:24", after := #[{ on := 11, ground := Ground.data }, { on := 9, ground := Ground.data }, { on := 7, ground := Ground.chain }, { on := 0, ground := Ground.phase }, { on := 1, ground := Ground.phase }, { on := 2, ground := Ground.phase }, { on := 3, ground := Ground.phase }, { on := 4, ground := Ground.phase }, { on := 5, ground := Ground.phase }, { on := 6, ground := Ground.phase }, { on := 7, ground := Ground.phase }, { on := 8, ground := Ground.phase }, { on := 9, ground := Ground.phase }, { on := 10, ground := Ground.textOnly Departure.lateStores }, { on := 11, ground := Ground.phase }], guard := none }) rfl (fun Kc hK => ?_) AllReadyH.nil)
    go_simp
    refine hK.out _ _ (HS.out _ HG2.out) (fun hHeld => ?_)
    clear hK Kc
    (try simp only [Act.put]); (try simp only [List.setIfInBounds_toArray]); (try simp only [List.set_cons_succ]); (try simp only [List.set_cons_zero])
    refine wpAnyH_take (i := 13) (oi := { dst := some 6, op := Op.assign (Operand.tmp 17), type := 33, pos := "rows.go:24", after := #[{ on := 10, ground := Ground.data }, { on := 12, ground := Ground.chain }, { on := 0, ground := Ground.phase }, { on := 1, ground := Ground.phase }, { on := 2, ground := Ground.phase }, { on := 3, ground := Ground.phase }, { on := 4, ground := Ground.phase }, { on := 5, ground := Ground.phase }, { on := 6, ground := Ground.phase }, { on := 7, ground := Ground.phase }, { on := 8, ground := Ground.phase }, { on := 9, ground := Ground.phase }, { on := 10, ground := Ground.phase }, { on := 11, ground := Ground.phase }, { on := 12, ground := Ground.phase }], guard := none }) (v := ?v13c1) rfl (by kernel_rfl) (by kernel_rfl) (by kernel_rfl) (fun _ _ _ h => h) (Or.inl ⟨by rfl, ?y13c1⟩) (by assumption) ?r13c1
    case y13c1 => (intro w hSw; obtain ⟨s0, s1, s2⟩ := hSw; go_simp; (try with_reducible rfl))
    (try simp only [Act.put]); (try simp only [List.setIfInBounds_toArray]); (try simp only [List.set_cons_succ]); (try simp only [List.set_cons_zero])
    obtain ⟨UU, hUU⟩ : ∃ UU, w1.alloc (.cells #[.bool false, .int .i64 x, .string ⟨#[]⟩, .slice none 0 0] 88) = UU := ⟨_, rfl⟩
    rw [hUU] at HG2 HB2 ⊢
    refine wpAnyH_done (by kernel_rfl) ?_ _
    obtain ⟨y0, y1, y2, y3⟩ := cell4 HB2.out
    have HFX := HF.out _ HG2.out
    obtain ⟨h3, u3, g3⟩ := HFX
    obtain ⟨r0, r1, r2, r3⟩ := cell4 h3
    have z0 := frz h3 0
    have z1 := frz h3 1
    have z2 := frz h3 2
    have z3 := frz h3 3
    skip
    obtain ⟨R, hR⟩ : ∃ R, setAll (UU) A0.heap.size [(0, .bool false), (1, .int .i64 x), (2, .string ⟨#[]⟩), (3, .slice none 0 0)] = R := ⟨_, rfl⟩
    rw [hR] at u3 g3
    simp only [setAll] at hR
    have HU3 := hidM u3
    have HG3 := hidM g3
    clear h3 u3 g3
    go_wp2_with fail
    (try simp only [Exit.inBlock, Exit.then])
    refine bodyPost_ret (results_cell88 rfl rfl (by with_reducible exact HU3.out) (by kernel_rfl)) rfl ?_
    exact ⟨rfl, HG3.out⟩
  · have HG0 := HG
    replace HG := hidM (HG.out.alloc (.cells #[.bool false, .int .i64 0, .string ⟨#[]⟩, .slice none 0 0] 88))
    have hbn : (A.drew.alloc (.cells #[.bool false, .int .i64 0, .string ⟨#[]⟩, .slice none 0 0] 88)).heap[A.heap.size]? = some (.cells #[.bool false, .int .i64 0, .string ⟨#[]⟩, .slice none 0 0] 88) := heap_alloc_new A.drew _
    go_simp
    refine hK.out _ _ (HS.out _ HG.out) (fun hHeld => ?_)
    clear hK Kc
    (try simp only [Act.put]); (try simp only [List.setIfInBounds_toArray]); (try simp only [List.set_cons_succ]); (try simp only [List.set_cons_zero])
    refine wpAnyH_ready (rs := [7]) (by kernel_rfl) (by simp) ?_
    refine (AllReadyH.cons (o := { dst := some 15, op := Op.call { callee := Callee.value (Operand.func 42), args := #[Operand.tmp 12, Operand.tmp 14], argTypes := #[79, 3] }, type := 124, pos := "rows.go:24", after := #[{ on := 4, ground := Ground.data }, { on := 6, ground := Ground.data }], guard := none }) rfl (fun Kc hK => ?_) AllReadyH.nil)
    go_simp
    go_at_call 42
    refine Calls.mono (HGet.out _ HG.out) ?_
    rintro e' w1 ⟨rfl, g1⟩
    replace HG := hidM (HG.out.trans g1 (fun _ _ h => h))
    have HG1 := hidM g1
    clear g1
    go_wp2_with fail
    refine hK.out _ _ (HS.out _ HG.out) (fun hHeld => ?_)
    clear hK Kc
    (try simp only [Act.put]); (try simp only [List.setIfInBounds_toArray]); (try simp only [List.set_cons_succ]); (try simp only [List.set_cons_zero])
    refine wpAnyH_take (i := 8) (oi := { dst := some 7, op := Op.move (Operand.tmp 15), type := 124, pos := "rows.go:24", after := #[{ on := 7, ground := Ground.data }], guard := none }) (v := ?v8d1) rfl (by kernel_rfl) (by kernel_rfl) (by kernel_rfl) (fun _ _ _ h => h) (Or.inl ⟨by rfl, ?y8d1⟩) (by assumption) ?r8d1
    case y8d1 => (intro w hSw; obtain ⟨s0, s1, s2⟩ := hSw; go_simp; (try with_reducible rfl))
    (try simp only [Act.put]); (try simp only [List.setIfInBounds_toArray]); (try simp only [List.set_cons_succ]); (try simp only [List.set_cons_zero])
    refine wpAnyH_take (i := 9) (oi := { dst := some 16, op := Op.extract (Operand.tmp 7) 0, type := 88, pos := "rows.go:24", after := #[{ on := 8, ground := Ground.data }], guard := none }) (v := ?v9d2) rfl (by kernel_rfl) (by kernel_rfl) (by kernel_rfl) (fun _ _ _ h => h) (Or.inl ⟨by rfl, ?y9d2⟩) (by assumption) ?r9d2
    case y9d2 => (intro w hSw; obtain ⟨s0, s1, s2⟩ := hSw; go_simp; (try with_reducible rfl))
    (try simp only [Act.put]); (try simp only [List.setIfInBounds_toArray]); (try simp only [List.set_cons_succ]); (try simp only [List.set_cons_zero])
    refine wpAnyH_take (i := 10) (oi := { dst := some 17, op := Op.extract (Operand.tmp 7) 1, type := 33, pos := "rows.go:24", after := #[{ on := 8, ground := Ground.data }, { on := 12, ground := Ground.gcOnly Departure.lateStores }], guard := none }) (v := ?v10d3) rfl (by kernel_rfl) (by kernel_rfl) (by kernel_rfl) (fun _ _ _ h => h) (Or.inl ⟨by rfl, ?y10d3⟩) (by assumption) ?r10d3
    case y10d3 => (intro w hSw; obtain ⟨s0, s1, s2⟩ := hSw; go_simp; (try with_reducible rfl))
    (try simp only [Act.put]); (try simp only [List.setIfInBounds_toArray]); (try simp only [List.set_cons_succ]); (try simp only [List.set_cons_zero])
    replace hbn := (HG1.out.block _ (lt_of_heap hbn) id).trans hbn
    obtain ⟨y0, y1, y2, y3⟩ := cell4 hbn
    have z0 := frz hbn 0
    have z1 := frz hbn 1
    have z2 := frz hbn 2
    have z3 := frz hbn 3
    have HB2 := hidM (setAll_blk A.heap.size 88 [(0, .bool false), (1, .int .i64 x), (2, .string ⟨#[]⟩), (3, .slice none 0 0)] w1 _ hbn)
    have HG2 := hidM (HE.out _ A.heap.size [(0, .bool false), (1, .int .i64 x), (2, .string ⟨#[]⟩), (3, .slice none 0 0)] HG.out (Nat.le_refl _))
    obtain ⟨U, hU⟩ : ∃ U, setAll w1 A.heap.size [(0, .bool false), (1, .int .i64 x), (2, .string ⟨#[]⟩), (3, .slice none 0 0)] = U := ⟨_, rfl⟩
    rw [hU] at HB2 HG2
    replace HB2 : Hid (U.heap[A.heap.size]? = some (.cells #[.bool false, .int .i64 x, .string ⟨#[]⟩, .slice none 0 0] 88)) := HB2
    simp only [setAll] at hU
    refine wpAnyH_ready (rs := [12]) (by kernel_rfl) (by simp) ?_
    refine (AllReadyH.cons (o := { dst := none, op := Op.store 88 (Operand.tmp 5) (Operand.tmp 16), type := 0, pos := "rows.go:24", after := #[{ on := 11, ground := Ground.data }, { on := 9, ground := Ground.data }, { on := 7, ground := Ground.chain }, { on := 0, ground := Ground.phase }, { on := 1, ground := Ground.phase }, { on := 2, ground := Ground.phase }, { on := 3, ground := Ground.phase }, { on := 4, ground := Ground.phase }, { on := 5, ground := Ground.phase }, { on := 6, ground := Ground.phase }, { on := 7, ground := Ground.phase }, { on := 8, ground := Ground.phase }, { on := 9, ground := Ground.phase }, { on := 10, ground := Ground.textOnly Departure.lateStores }, { on := 11, ground := Ground.phase }], guard := none }) rfl (fun Kc hK => ?_) AllReadyH.nil)
    go_simp
    refine hK.out _ _ (HS.out _ HG2.out) (fun hHeld => ?_)
    clear hK Kc hU y0 y1 y2 y3 z0 z1 z2 z3 hbn
    (try simp only [Act.put]); (try simp only [List.setIfInBounds_toArray]); (try simp only [List.set_cons_succ]); (try simp only [List.set_cons_zero])
    refine wpAnyH_take (i := 13) (oi := { dst := some 6, op := Op.assign (Operand.tmp 17), type := 33, pos := "rows.go:24", after := #[{ on := 10, ground := Ground.data }, { on := 12, ground := Ground.chain }, { on := 0, ground := Ground.phase }, { on := 1, ground := Ground.phase }, { on := 2, ground := Ground.phase }, { on := 3, ground := Ground.phase }, { on := 4, ground := Ground.phase }, { on := 5, ground := Ground.phase }, { on := 6, ground := Ground.phase }, { on := 7, ground := Ground.phase }, { on := 8, ground := Ground.phase }, { on := 9, ground := Ground.phase }, { on := 10, ground := Ground.phase }, { on := 11, ground := Ground.phase }, { on := 12, ground := Ground.phase }], guard := none }) (v := ?v13e1) rfl (by kernel_rfl) (by kernel_rfl) (by kernel_rfl) (fun _ _ _ h => h) (Or.inl ⟨by rfl, ?y13e1⟩) (by assumption) ?r13e1
    case y13e1 => (intro w hSw; obtain ⟨s0, s1, s2⟩ := hSw; go_simp; (try with_reducible rfl))
    (try simp only [Act.put]); (try simp only [List.setIfInBounds_toArray]); (try simp only [List.set_cons_succ]); (try simp only [List.set_cons_zero])
    refine wpAnyH_done (by kernel_rfl) ?_ _
    obtain ⟨y0, y1, y2, y3⟩ := cell4 HB2.out
    have HFX := HF.out _ HG2.out
    obtain ⟨h3, u3, g3⟩ := HFX
    obtain ⟨r0, r1, r2, r3⟩ := cell4 h3
    have z0 := frz h3 0
    have z1 := frz h3 1
    have z2 := frz h3 2
    have z3 := frz h3 3
    skip
    obtain ⟨R, hR⟩ : ∃ R, setAll (U) A0.heap.size [(0, .bool false), (1, .int .i64 x), (2, .string ⟨#[]⟩), (3, .slice none 0 0)] = R := ⟨_, rfl⟩
    rw [hR] at u3 g3
    simp only [setAll] at hR
    have HU3 := hidM u3
    have HG3 := hidM g3
    clear h3 u3 g3
    go_wp2_with fail
    (try simp only [Exit.inBlock, Exit.then])
    refine bodyPost_ret (results_cell88 rfl rfl (by with_reducible exact HU3.out) (by kernel_rfl)) rfl ?_
    exact ⟨rfl, HG3.out⟩
end Go.Proofs.YtegjpmodleigeaaGreatDoor.Kit
