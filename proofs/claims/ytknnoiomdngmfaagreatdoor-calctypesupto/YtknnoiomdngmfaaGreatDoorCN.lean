import Derived.Test.YtknnoiomdngmfaaGreatDoorLQ
import Derived.Test.YtknnoiomdngmfaaGreatDoorKA
set_option maxRecDepth 100000
set_option maxHeartbeats 4000000
namespace Go.Proofs.YtknnoiomdngmfaaGreatDoor.Kit
open Go.RowKit Go.Shelf Go.Deep
open Go.Proofs.YtknnoiomdngmfaaGreatDoor.Ink (OwnRow)
set_option linter.unusedVariables false
set_option linter.unusedSimpArgs false
attribute [local go_sem] run_store_func
theorem info236 : (Tryz.prog.info? 311).map (fun i => (i.zero, i.size, i.bytes)) = some (some (.agg #[.slice none 0 0, .int .i64 0, .pointer none]), 3, 40) := by kernel_rfl
theorem cellB {W : World} {q : Nat} {nu : Bool} {ao : Option Addr} {ca : Nat} {L N : Int} {bv : Value} (h : W.heap[q]? = some (.cells (ndC nu ao ca L N bv) 120)) : W.cell? ⟨q, 11, none⟩ = some bv := by
  simp [World.cell?, h, ndC]
theorem partData95 (L N : Nat) (b : Value) (W : World) : Calls Tryz.prog 255 #[.agg (dC L N b)] W fun e w' => ∃ uo uc, e = .returned (.slice uo 0 uc) ∧ Gr W w' := by
  obtain ⟨A, hA⟩ := ex (W.alloc (.cells (dC L N b) 54))
  have gA := gr_al hA
  have hb : A.heap[W.heap.size]? = some (.cells (dC L N b) 54) := by rw [← hA]; exact heap_alloc_new W _
  obtain ⟨d0, d1, d2, d3, d4, d5⟩ := cell6 hb
  obtain ⟨B, hB⟩ := ex (A.alloc (.cells #[.slice none 0 0, .slice none 0 0] 52))
  have gB := gr_al hB
  have hb2 := al_new hB
  obtain ⟨z0, z1⟩ := cell2 hb2
  have HC := hidM (concat117 A.heap.size 2 B z0 z1)
  have HG := hidM (gA.tr gB)
  clear gA hb gB hb2 z0 z1
  unfold dC at hA ⊢
  go_enter Tryz.func255, Tryz.ntmps255
  go_wp2_with (go_at_call 289; refine HC.out.mono ?_; rintro e w2 ⟨uo, uc, rfl, g2⟩; have HG2 := hidM (HG.out.tr g2); clear g2)
  go_ret
  exact ⟨uo, uc, rfl, HG2.out⟩
def FillI (A wr : World) (q : Nat) (nu : Bool) (ao : Option Addr) (ca : Nat) (L N : Int) (vs : List Value) (k : Nat) (ro : Option Addr) (rc : Nat) : Prop :=
  Keeps A wr (fun z => z = q) ∧ wr.heap[q]? = some (.cells (ndC nu ao ca L N (.slice ro k rc)) 120) ∧ wr.ownsRow 0 311 3 (.slice ro k rc) k (vs.take (3 * k)) ∧ ∀ g, (Value.slice ro k rc).ownBlock = some g → A.heap.size ≤ g
theorem cellT {W : World} {q : Nat} {nu : Bool} {ao : Option Addr} {ca : Nat} {L N : Int} {bv : Value} (h : W.heap[q]? = some (.cells (ndC nu ao ca L N bv) 120)) : W.cell? ⟨q, 2, none⟩ = some (.int .i64 3) ∧ W.cell? ⟨q, 3, none⟩ = some (.int .i64 0) ∧ W.cell? ⟨q, 4, none⟩ = some (.int .i64 0) ∧ W.cell? ⟨q, 5, none⟩ = some (.int .i64 0) ∧ W.cell? ⟨q, 6, none⟩ = some (.slice ao 0 ca) := by
  refine ⟨?_, ?_, ?_, ?_, ?_⟩ <;> simp [World.cell?, h, ndC]
theorem FillI.gr {A wr u : World} {q : Nat} {nu : Bool} {ao : Option Addr} {ca : Nat} {L N : Int} {vs : List Value} {k : Nat} {ro : Option Addr} {rc : Nat} (h : FillI A wr q nu ao ca L N vs k ro rc) (g : Gr wr u) : FillI A u q nu ao ca L N vs k ro rc :=
  ⟨h.1.tr (g.mono fun _ _ h => h.elim), (g.block q (lt_of_heap h.2.1) id).trans h.2.1, row_kp h.2.2.1 fun j e => g.block j (own_lt h.2.2.1 j e) id, h.2.2.2⟩
theorem FillI.base {W A wr : World} {q : Nat} {nu : Bool} {ao : Option Addr} {ca : Nat} {L N : Int} {vs : List Value} {k : Nat} {ro : Option Addr} {rc : Nat} (h : FillI A wr q nu ao ca L N vs k ro rc) (g : Gr W A) : FillI W wr q nu ao ca L N vs k ro rc :=
  ⟨(g.mono fun _ _ h => h.elim).tr h.1, h.2.1, h.2.2.1, fun j e => Nat.le_trans g.size (h.2.2.2 j e)⟩
theorem fill_step {A wr w1 A2 : World} {q : Nat} {nu : Bool} {ao : Option Addr} {ca : Nat} {L N : Int} {vs : List Value} {k : Nat} {ro : Option Addr} {rc : Nat} {x : Value} (hI : FillI A wr q nu ao ca L N vs k ro rc) (hq : q < A.heap.size) (g1 : Gr wr w1) (hA2 : w1.alloc (.cells #[x, .int .i64 0, .pointer none] 311) = A2) (hx : x.oneCell' = true) (hv : vs.take (3 * (k + 1)) = vs.take (3 * k) ++ [x, .int .i64 0, .pointer none]) :
    Hid (A2.ownsRow 0 311 3 (.slice ro k rc) k (vs.take (3 * k))) ∧
    Hid (Src Tryz.prog 3 117 (.slice (some ⟨w1.heap.size, 0, none⟩) 1 1) 1 [x, .int .i64 0, .pointer none] A2) ∧
    Hid (∀ w7, A2.grownBy w7 (Value.slice ro k rc).ownBlock → w7.heap[q]? = some (.cells (ndC nu ao ca L N (.slice ro k rc)) 120)) ∧
    Hid (∀ uo uc w7, w7.ownsRow 0 311 3 (.slice uo (k + 1) uc) (k + 1) (vs.take (3 * k) ++ [x, .int .i64 0, .pointer none]) → A2.grownBy w7 (Value.slice ro k rc).ownBlock → ((Value.slice uo (k + 1) uc).ownBlock = (Value.slice ro k rc).ownBlock ∨ ∀ g, (Value.slice uo (k + 1) uc).ownBlock = some g → A2.heap.size ≤ g) → FillI A (w7.setCell ⟨q, 11, none⟩ (.slice uo (k + 1) uc)) q nu ao ca L N vs (k + 1) uo uc) ∧
    w1.cell? ⟨q, 11, none⟩ = some (.slice ro k rc) ∧ A2.cell? ⟨q, 11, none⟩ = some (.slice ro k rc) := by
  obtain ⟨hk, hn, ho, hl⟩ := hI
  have gA2 := gr_al hA2
  have g2 : Gr wr A2 := g1.tr gA2
  have hn1 := (g1.block q (lt_of_heap hn) id).trans hn
  have hn2 := (g2.block q (lt_of_heap hn) id).trans hn
  have hnew : A2.heap[w1.heap.size]? = some (.cells #[x, .int .i64 0, .pointer none] 311) := by rw [← hA2]; exact heap_alloc_new w1 _
  have hne : (Value.slice ro k rc).ownBlock ≠ some q := own_ne hn ho (by decide)
  have hAt : ∀ w7, A2.grownBy w7 (Value.slice ro k rc).ownBlock → w7.heap[q]? = some (.cells (ndC nu ao ca L N (.slice ro k rc)) 120) := fun w7 h => ((Keeps.ofGrown h).block q (lt_of_heap hn2) (fun e => hne e)).trans hn2
  refine ⟨row_kp ho fun g e => g2.block g (own_lt ho g e) id, ?_, hAt, ?_, cellB hn1, cellB hn2⟩
  · refine Src.ofSlice (w := A2) Tryz.underlying117 ⟨w1.heap.size, 0, none⟩ 1 1 [x, .int .i64 0, .pointer none] rfl (fun j v hj => ?_) (fun v hv => ?_)
    · rw [Addr.add_lit, Nat.zero_add]
      match j, hj with
      | 0, hj => cases hj; simp [World.cell?, hnew]
      | 1, hj => cases hj; simp [World.cell?, hnew]
      | 2, hj => cases hj; simp [World.cell?, hnew]
      | j + 3, hj => simp at hj
    simp at hv
    rcases hv with rfl | rfl | rfl
    · exact hx
    · rfl
    rfl
  intro uo uc w7 h1 h2 h3
  have hm7 := hAt w7 h2
  have hk7 : Keeps A w7 (fun z => z = q) := (hk.tr (g2.mono fun _ _ h => h.elim)).trans (Keeps.ofGrown h2) (fun j hj e => by have := hl j e; omega)
  refine ⟨hk7.setCell (p := ⟨q, 11, none⟩) (fun _ => rfl) _, ?_, ?_, fun g e => ?_⟩
  · rw [heap_setCell_same w7 q 11 _ _ _ hm7]
    simp [ndC]
  · rw [hv]
    exact row_kp h1 fun g e => heap_setCell_other _ _ _ _ (fun e' => own_ne hm7 h1 (by decide) (by rw [e, e']))
  rcases h3 with e2 | e2
  · exact hl g (e2 ▸ e)
  exact Nat.le_trans hk.size (Nat.le_trans g2.size (e2 g e))
theorem fill67 (c q qb bc : Nat) (vb : Nat → Option Addr) (vn vc : Nat → Nat) (nu : Bool) (ao : Option Addr) (ca L N : Nat) (W : World) (hq : W.heap[q]? = some (.cells (ndC nu ao ca L N (.slice none 0 0)) 120)) (hb : ∀ k, k < 2 → W.cell? ⟨qb, k, none⟩ = some (.slice (vb k) (vn k) (vc k))) (hqb : qb ≠ q) (hT : Tab W) (hqT : ∀ u, Keeps W u (fun z => z = q) → Tab u) :
    Calls Tryz.prog 173 #[.pointer (some ⟨c, 0, none⟩), .pointer (some ⟨q, 0, none⟩), .agg (dC L N (.slice (some ⟨qb, 0, none⟩) 2 bc))] W fun e w' => ∃ ro rc, e = .returned (.tuple #[]) ∧ FillI W w' q nu ao ca L N [.slice (vb 0) (vn 0) (vc 0), .int .i64 0, .pointer none, .slice (vb 1) (vn 1) (vc 1), .int .i64 0, .pointer none] 2 ro rc := by
  obtain ⟨vs, hvs⟩ := ex ([Value.slice (vb 0) (vn 0) (vc 0), .int .i64 0, .pointer none, .slice (vb 1) (vn 1) (vc 1), .int .i64 0, .pointer none])
  rw [hvs]
  have HV : Hid (∀ k, k < 2 → vs.take (3 * (k + 1)) = vs.take (3 * k) ++ [.slice (vb k) (vn k) (vc k), .int .i64 0, .pointer none]) := fun k hk => by
    subst hvs
    have : k = 0 ∨ k = 1 := by omega
    rcases this with rfl | rfl <;> rfl
  obtain ⟨A, hA⟩ := ex (W.alloc (.cells (dC L N (.slice (some ⟨qb, 0, none⟩) 2 bc)) 54))
  have gA := gr_al hA
  have hd : A.heap[W.heap.size]? = some (.cells (dC L N (.slice (some ⟨qb, 0, none⟩) 2 bc)) 54) := by rw [← hA]; exact heap_alloc_new W _
  have hqA := (gA.block q (lt_of_heap hq) id).trans hq
  obtain ⟨d0, d1, d2, d3, d4, d5⟩ := cell6 hd
  have HI0 : Hid (FillI A A q nu ao ca L N vs 0 none 0) := ⟨Keeps.refl _ _, hqA, ⟨rfl, .inl ⟨rfl, rfl⟩⟩, fun g e => by simp [Value.ownBlock] at e⟩
  have HQ : Hid (q < A.heap.size) := lt_of_heap hqA
  have HBc : Hid (∀ wr k, Keeps A wr (fun z => z = q) → k < 2 → wr.cell? ⟨qb, k, none⟩ = some (.slice (vb k) (vn k) (vc k))) := fun wr k g hk => g.cell' (gA.cell' (hb k hk) id) hqb
  have HD : Hid (∀ wr, Keeps A wr (fun z => z = q) → wr.heap[W.heap.size]? = some (.cells (dC L N (.slice (some ⟨qb, 0, none⟩) 2 bc)) 54)) := fun wr g => (g.block _ (lt_of_heap hd) (fun e => by have e' : W.heap.size = q := e; have := lt_of_heap hq; omega)).trans hd
  have HTT : Hid (∀ wr, Keeps A wr (fun z => z = q) → Tab wr) := fun wr g => hqT wr ((gA.mono fun _ _ h => h.elim).tr g)
  have HGA := hidM gA
  have HVS := hidM hvs
  clear gA hq hqA hd hb hT hqT hqb hvs
  unfold dC at hA ⊢
  go_enter Tryz.func173, Tryz.ntmps173
  go_wp2_with fail
  go_loopw [14] (fun i wr => ∃ (k : Nat) (ro : Option Addr) (rc : Nat), k ≤ 2 ∧ i = .int .i64 k ∧ Hid (FillI A wr q nu ao ca L N vs k ro rc)) (fun i _ => 2 - (intOf i).toNat)
  case atStart => exact ⟨0, none, 0, by omega, rfl, HI0⟩
  case round =>
    obtain ⟨k, ro, rc, hk, rfl, HI⟩ := hrel
    by_cases hlt : k < 2
    · have c1 := HBc.out wr k HI.out.1 hlt
      have c11 := cellB HI.out.2.1
      have HR : Hid (∀ w1 A2, w1.alloc (.cells #[.slice (vb k) (vn k) (vc k), .int .i64 0, .pointer none] 311) = A2 → Gr wr.drew w1 → _) := fun w1 A2 hA2 g1 => fill_step HI.out HQ.out (Keeps.trans gr_drew g1 (fun _ _ h => h)) hA2 rfl (HV.out k hlt)
      clear HI
      go_wp2_with fail
      refine wp_region_held_drew (S := fun w' => True) (by kernel_rfl) trivial (fun hHeld => ?_)
      refine tk 0 ?_
      refine tk 1 ?_
      refine tk 2 ?_
      refine tk 3 ?_
      refine tk 5 ?_
      refine wpAnyH_ready (rs := [4, 6]) (by kernel_rfl) (by simp) ?_
      refine AllReadyH.cons (o := { dst := some 22, op := Op.load 117 (Operand.tmp 21), type := 117, pos := "check.go:65", after := #[{ on := 3, ground := Ground.data }], guard := none }) rfl (fun Kc hK => ?_) (AllReadyH.cons (o := { dst := some 24, op := Op.call { callee := Callee.value (Operand.func 253), args := #[Operand.tmp 23], argTypes := #[50] }, type := 311, pos := "check.go:65", after := #[{ on := 5, ground := Ground.data }], guard := none }) rfl (fun Kc hK => ?_) AllReadyH.nil)
      · go_simp
        refine hK.out _ _ trivial (fun hHeld => ?_)
        clear hK Kc
        try simp only [Act.put, lA, lB, lC]
        refine rd1 6 fun Kc hK => ?_
        go_simp
        go_at_call 253
        refine Calls.mono (viewOf93 _ _ _ _) ?_
        rintro e' w1 ⟨rfl, g1⟩
        obtain ⟨A2, hA2⟩ := ex (w1.alloc (.cells #[.slice (vb k) (vn k) (vc k), .int .i64 0, .pointer none] 311))
        obtain ⟨HOw, HSr, HAt, HEnd, hc1, hc2⟩ := HR.out w1 A2 hA2 g1
        clear g1
        go_wp2_with fail
        refine hK.out _ _ trivial (fun hHeld => ?_)
        clear hK Kc
        try simp only [Act.put, lA, lB, lC]
        refine rd1 7 fun Kc hK => ?_
        go_simp
        refine hK.out _ _ (trivial) (fun hHeld => ?_)
        clear hK Kc
        try simp only [Act.put, lA, lB, lC]
        refine rd1 8 fun Kc hK => ?_
        refine step_append_anyN (P := Tryz.prog) _ rfl (.tmp 22) (.tmp 25) 117 117 rfl 311 (.agg #[.slice none 0 0, .int .i64 0, .pointer none]) 3 40 Tryz.underlying117 info236 rfl (.slice ro k rc) k (vs.take (3 * k)) rfl HOw.out (.slice (some ⟨w1.heap.size, 0, none⟩) 1 1) 1 [.slice (vb k) (vn k) (vc k), .int .i64 0, .pointer none] rfl HSr.out (by omega) (by omega) ?_
        intro v' w7 ha1 ha2 ha3
        obtain ⟨uo, uc, rfl⟩ := own_formN ha1
        have hm7 := HAt.out w7 ha2
        have c11 := cellB hm7
        have z11 := frz hm7 11
        have HE := hidM (HEnd.out _ _ _ ha1 ha2 ha3)
        clear ha1 ha2 ha3 hm7
        refine hK.out _ _ trivial (fun hHeld => ?_)
        clear hK Kc
        try simp only [Act.put, lA, lB, lC]
        refine tk 9 ?_
        refine tk 10 ?_
        refine rd1 11 fun Kc hK => ?_
        go_simp
        refine hK.out _ _ trivial (fun hHeld => ?_)
        clear hK Kc
        try simp only [Act.put, lA, lB, lC]
        refine wpAnyH_done (by kernel_rfl) ?_ _
        clear hHeld c11 z11
        go_wp2_with fail
        go_roundw
        case rel => exact ⟨k + 1, uo, uc, by omega, by go_num, HE⟩
        case measure => simp [intOf]; omega
      go_simp
      go_at_call 253
      refine Calls.mono (viewOf93 _ _ _ _) ?_
      rintro e' w1 ⟨rfl, g1⟩
      obtain ⟨A2, hA2⟩ := ex (w1.alloc (.cells #[.slice (vb k) (vn k) (vc k), .int .i64 0, .pointer none] 311))
      obtain ⟨HOw, HSr, HAt, HEnd, hc1, hc2⟩ := HR.out w1 A2 hA2 g1
      clear g1
      go_wp2_with fail
      refine hK.out _ _ trivial (fun hHeld => ?_)
      clear hK Kc
      try simp only [Act.put, lA, lB, lC]
      refine wpAnyH_ready (rs := [4, 7]) (by kernel_rfl) (by simp) ?_
      refine AllReadyH.cons (o := { dst := some 22, op := Op.load 117 (Operand.tmp 21), type := 117, pos := "check.go:65", after := #[{ on := 3, ground := Ground.data }], guard := none }) rfl (fun Kc hK => ?_) (AllReadyH.cons (o := { dst := some 25, op := Op.buildSlice 117 1 #[(0, Operand.tmp 24)], type := 117, pos := "check.go:65", after := #[{ on := 6, ground := Ground.data }], guard := none }) rfl (fun Kc hK => ?_) AllReadyH.nil)
      · go_simp
        refine hK.out _ _ trivial (fun hHeld => ?_)
        clear hK Kc
        try simp only [Act.put, lA, lB, lC]
        refine rd1 7 fun Kc hK => ?_
        go_simp
        refine hK.out _ _ (trivial) (fun hHeld => ?_)
        clear hK Kc
        try simp only [Act.put, lA, lB, lC]
        refine rd1 8 fun Kc hK => ?_
        refine step_append_anyN (P := Tryz.prog) _ rfl (.tmp 22) (.tmp 25) 117 117 rfl 311 (.agg #[.slice none 0 0, .int .i64 0, .pointer none]) 3 40 Tryz.underlying117 info236 rfl (.slice ro k rc) k (vs.take (3 * k)) rfl HOw.out (.slice (some ⟨w1.heap.size, 0, none⟩) 1 1) 1 [.slice (vb k) (vn k) (vc k), .int .i64 0, .pointer none] rfl HSr.out (by omega) (by omega) ?_
        intro v' w7 ha1 ha2 ha3
        obtain ⟨uo, uc, rfl⟩ := own_formN ha1
        have hm7 := HAt.out w7 ha2
        have c11 := cellB hm7
        have z11 := frz hm7 11
        have HE := hidM (HEnd.out _ _ _ ha1 ha2 ha3)
        clear ha1 ha2 ha3 hm7
        refine hK.out _ _ trivial (fun hHeld => ?_)
        clear hK Kc
        try simp only [Act.put, lA, lB, lC]
        refine tk 9 ?_
        refine tk 10 ?_
        refine rd1 11 fun Kc hK => ?_
        go_simp
        refine hK.out _ _ trivial (fun hHeld => ?_)
        clear hK Kc
        try simp only [Act.put, lA, lB, lC]
        refine wpAnyH_done (by kernel_rfl) ?_ _
        clear hHeld c11 z11
        go_wp2_with fail
        go_roundw
        case rel => exact ⟨k + 1, uo, uc, by omega, by go_num, HE⟩
        case measure => simp [intOf]; omega
      go_simp
      refine hK.out _ _ trivial (fun hHeld => ?_)
      clear hK Kc
      try simp only [Act.put, lA, lB, lC]
      refine rd1 4 fun Kc hK => ?_
      go_simp
      refine hK.out _ _ trivial (fun hHeld => ?_)
      clear hK Kc
      try simp only [Act.put, lA, lB, lC]
      refine rd1 8 fun Kc hK => ?_
      refine step_append_anyN (P := Tryz.prog) _ rfl (.tmp 22) (.tmp 25) 117 117 rfl 311 (.agg #[.slice none 0 0, .int .i64 0, .pointer none]) 3 40 Tryz.underlying117 info236 rfl (.slice ro k rc) k (vs.take (3 * k)) rfl HOw.out (.slice (some ⟨w1.heap.size, 0, none⟩) 1 1) 1 [.slice (vb k) (vn k) (vc k), .int .i64 0, .pointer none] rfl HSr.out (by omega) (by omega) ?_
      intro v' w7 ha1 ha2 ha3
      obtain ⟨uo, uc, rfl⟩ := own_formN ha1
      have hm7 := HAt.out w7 ha2
      have c11 := cellB hm7
      have z11 := frz hm7 11
      have HE := hidM (HEnd.out _ _ _ ha1 ha2 ha3)
      clear ha1 ha2 ha3 hm7
      refine hK.out _ _ trivial (fun hHeld => ?_)
      clear hK Kc
      try simp only [Act.put, lA, lB, lC]
      refine tk 9 ?_
      refine tk 10 ?_
      refine rd1 11 fun Kc hK => ?_
      go_simp
      refine hK.out _ _ trivial (fun hHeld => ?_)
      clear hK Kc
      try simp only [Act.put, lA, lB, lC]
      refine wpAnyH_done (by kernel_rfl) ?_ _
      clear hHeld c11 z11
      go_wp2_with fail
      go_roundw
      case rel => exact ⟨k + 1, uo, uc, by omega, by go_num, HE⟩
      case measure => simp [intOf]; omega
    obtain rfl : k = 2 := by omega
    have hT0 := hidM (HTT.out wr HI.out.1)
    obtain ⟨n2, n3, n4, n5, n6⟩ := cellT HI.out.2.1
    go_wp2_with (first
      | (go_at_call 254; refine (partFields94 ao ca _ hT0.out (fun u _ => copied37 ao ca u)).mono ?_; rintro e w2 ⟨fo, fc, rfl, g2⟩; have HI2 := hidM (HI.out.gr g2); have HG2 := hidM g2; clear g2 n2 n3 n4 n5 n6; obtain ⟨d0, d1, d2, d3, d4, d5⟩ := cell6 (HD.out w2 HI2.out.1))
      | (go_at_call 255; refine (partData95 L N (.slice (some ⟨qb, 0, none⟩) 2 bc) w2).mono ?_; rintro e w3 ⟨uo, uc, rfl, g3⟩; have HI3 := hidM (HI2.out.gr g3); clear g3 d0 d1 d2 d3 d4 d5))
    go_loopw [39] (fun i wr => i = .int .i64 0 ∧ wr = w3) (fun i _ => 0)
    case atStart => exact ⟨rfl, rfl⟩
    case round =>
      obtain ⟨rfl, rfl⟩ := hrel
      go_wp2_with fail
      go_end0
      exact ⟨ro, rc, rfl, HI3.out.base HGA.out⟩
theorem cell3V {W : World} {p t : Nat} {a b c : Value} (h : W.heap[p]? = some (.cells #[a, b, c] t)) : W.cell? ⟨p, 0, none⟩ = some a ∧ W.cell? ⟨p, 1, none⟩ = some b ∧ W.cell? ⟨p, 2, none⟩ = some c := by
  refine ⟨?_, ?_, ?_⟩ <;> simp [World.cell?, h]
theorem end139 (vo : Option Addr) (n c f m : Nat) (W : World) (h : f + m ≤ n) (hn : n ≤ 100000) : Calls Tryz.prog 321 #[.agg #[.slice vo n c, .int .i64 0, .pointer none], .int .i64 f, .int .i64 m] W fun e w' => e = .returned (.tuple #[.int .i64 ((f + m : Nat) : Int), .bool true]) ∧ Gr W w' := by
  obtain ⟨A, hA⟩ := ex (W.alloc (.cells #[.slice vo n c, .int .i64 0, .pointer none] 311))
  have gA := gr_al hA
  have hb : A.heap[W.heap.size]? = some (.cells #[.slice vo n c, .int .i64 0, .pointer none] 311) := by rw [← hA]; exact heap_alloc_new W _
  obtain ⟨B, hB⟩ := ex (A.alloc (.cells #[.int .i64 f, .int .i64 m] 3))
  have gB := gr_al hB
  have hb2 := al_new hB
  obtain ⟨z0, z1⟩ := cell2 hb2
  have HC := hidM (sum92 A.heap.size 2 f m B z0 z1 (by omega) (by omega))
  have HG := hidM (gA.tr gB)
  have HS0 : Hid (B.drew.cell? ⟨W.heap.size, 0, none⟩ = some (.slice vo n c)) := by
    have hbB := (gB.block _ (lt_of_heap hb) id).trans hb
    show B.cell? _ = _
    simp [World.cell?, hbB]
  obtain ⟨s, hs⟩ := ex (f + m)
  rw [hs] at h HC ⊢
  have b1 : ((s : Int) ≤ (n : Int)) := by omega
  clear gA hb gB hb2 z0 z1 hs h
  go_enter Tryz.func321, Tryz.ntmps321
  go_wp2_with (go_at_call 252; refine HC.out.mono ?_; rintro e w2 ⟨rfl, rfl⟩)
  go_region_held3 (fun u => u.cell? ⟨W.heap.size, 0, none⟩ = some (.slice vo n c)) (with_reducible exact HS0.out) (fail)
  go_wp2_with fail
  go_ret2
  exact ⟨rfl, HG.out.drew⟩
theorem ptr_nn (w : World) : (binOp .neq 121 (.pointer none) (.pointer none)).run Tryz.prog w = .ok (.bool false) w := by kernel_rfl
theorem tell140 (vo : Option Addr) (n c : Nat) (f s : Int) (W : World) : Calls Tryz.prog 322 #[.agg #[.slice vo n c, .int .i64 0, .pointer none], .int .i64 f, .int .i64 s] W fun e w' => e = .returned (.tuple #[]) ∧ Gr W w' := by
  have hp := ptr_nn
  go_enter Tryz.func322, Tryz.ntmps322
  go_wp2_with fail
  go_end0
  exact ⟨rfl, gr_alloc _ _⟩
theorem read136 (g n c f m : Nat) (W : World) (h : f + m ≤ n) (hn : n ≤ 100000) (hc : n ≤ c) (hm : 0 < m) : Calls Tryz.prog 318 #[.agg #[.slice (some ⟨g, 0, none⟩) n c, .int .i64 0, .pointer none], .int .i64 f, .int .i64 m] W fun e w' => e = .returned (.tuple #[.slice (some ⟨g, f, none⟩) m (c - f), .bool true]) ∧ Gr W w' := by
  obtain ⟨A, hA⟩ := ex (W.alloc (.cells #[.slice (some ⟨g, 0, none⟩) n c, .int .i64 0, .pointer none] 311))
  have gA := gr_al hA
  have hb : A.heap[W.heap.size]? = some (.cells #[.slice (some ⟨g, 0, none⟩) n c, .int .i64 0, .pointer none] 311) := by rw [← hA]; exact heap_alloc_new W _
  obtain ⟨e0, e1, e2⟩ := cell3V hb
  have HB := hidM hb
  have HG := hidM gA
  obtain ⟨s, hs⟩ := ex (f + m)
  have HC := hidM (end139 (some ⟨g, 0, none⟩) n c f m A h hn)
  rw [hs] at h HC
  have HE : Hid (s - f = m) := (by omega : s - f = m)
  have b1 : ¬ ((f : Int) < 0) := by omega
  have b2 : (f : Int) ≤ (s : Int) := by omega
  have b3 : (s : Int) ≤ (c : Int) := by omega
  have b4 : (0 : Int) ≤ (f : Int) := by omega
  have b5 : f ≤ s := by omega
  have b6 : s ≤ c := by omega
  have b7 : f < c := by omega
  have b8 : ¬ (c - f = 0) := by omega
  have b9 : ¬ (c ≤ f) := by omega
  have b10 : ¬ ((c : Int) = (f : Int)) := by omega
  have b11 : ¬ ((f : Int) = (c : Int)) := by omega
  clear gA hb hs
  go_enter Tryz.func318, Tryz.ntmps318
  go_wp2_with (first
    | (go_at_call 321; refine HC.out.mono ?_; rintro e w2 ⟨rfl, g2⟩; have HG2 := hidM (HG.out.tr g2); clear hA e0 e1 e2; have HB2 := hidM ((g2.block _ (lt_of_heap HB.out) id).trans HB.out); obtain ⟨e0, e1, e2⟩ := cell3V HB2.out; clear g2)
    | (go_at_call 322; refine (tell140 _ _ _ _ _ w2).mono ?_; rintro e w3 ⟨rfl, g3⟩; have HG3 := hidM (HG2.out.tr g3); clear e0 e1 e2; obtain ⟨e0, e1, e2⟩ := cell3V ((g3.block _ (lt_of_heap HB2.out) id).trans HB2.out); clear g3))
  go_ret2
  refine ⟨?_, HG3.out⟩
  have := HE.out
  simp [this]
structure NdA (W : World) (q r rc : Nat) (nu : Bool) (ao : Option Addr) (ca L N : Nat) (v2 n2 c2 : Nat) : Prop where
  nd : W.heap[q]? = some (.cells (ndC nu ao ca L N (.slice (some ⟨r, 0, none⟩) 2 rc)) 120)
  r0 : W.cell? ⟨r, 0, none⟩ = some (.slice none 0 0)
  r1 : W.cell? ⟨r, 1, none⟩ = some (.int .i64 0)
  r2 : W.cell? ⟨r, 2, none⟩ = some (.pointer none)
  r3 : W.cell? ⟨r, 3, none⟩ = some (.slice (some ⟨v2, 0, none⟩) n2 c2)
  r4 : W.cell? ⟨r, 4, none⟩ = some (.int .i64 0)
  r5 : W.cell? ⟨r, 5, none⟩ = some (.pointer none)
theorem NdA.kp {W u : World} {q r rc : Nat} {nu : Bool} {ao : Option Addr} {ca L N : Nat} {v2 n2 c2 : Nat} {S : Nat → Prop} (h : NdA W q r rc nu ao ca L N v2 n2 c2) (g : Keeps W u S) (hq : ¬ S q) (hr : ¬ S r) : NdA u q r rc nu ao ca L N v2 n2 c2 :=
  ⟨(g.block q (lt_of_heap h.nd) hq).trans h.nd, g.cell' h.r0 hr, g.cell' h.r1 hr, g.cell' h.r2 hr, g.cell' h.r3 hr, g.cell' h.r4 hr, g.cell' h.r5 hr⟩
theorem NdA.gr {W u : World} {q r rc : Nat} {nu : Bool} {ao : Option Addr} {ca L N : Nat} {v2 n2 c2 : Nat} (h : NdA W q r rc nu ao ca L N v2 n2 c2) (g : Gr W u) : NdA u q r rc nu ao ca L N v2 n2 c2 := h.kp g id id
def vwU (w : World) (b : Nat) (v : Value) : World := setAll w b [(0, v), (1, .int .i64 0), (2, .pointer none)]
theorem vw_blk {w : World} {b : Nat} {v : Value} {a0 a1 a2 : Value} (h : w.heap[b]? = some (.cells #[a0, a1, a2] 311)) : (vwU w b v).heap[b]? = some (.cells #[v, .int .i64 0, .pointer none] 311) := by
  unfold vwU
  rw [setAll_blk b 311 _ _ _ h]
  simp [setsA]
theorem vw_gr {W w : World} {b : Nat} {v : Value} (g : Gr W w) (hb : W.heap.size ≤ b) : Gr W (vwU w b v) := g.trans (setAll_kp _ _ _) (fun j hj (e : j = b) => by omega)
theorem watched135 (vo : Option Addr) (n c : Nat) (W : World) : Calls Tryz.prog 317 #[.agg #[.slice vo n c, .int .i64 0, .pointer none], .pointer none] W fun e w' => e = .returned (.agg #[.slice vo n c, .int .i64 0, .pointer none]) ∧ Gr W w' := by
  obtain ⟨A0, hA0⟩ := ex (W.alloc (.cells #[.slice vo n c, .int .i64 0, .pointer none] 311))
  have g0 := gr_al hA0
  have hs0 : A0.heap.size = W.heap.size + 1 := by rw [← hA0]; simp
  have hb0 := al_new hA0
  obtain ⟨A, hA⟩ := ex (A0.alloc (.cells #[.slice none 0 0, .int .i64 0, .pointer none] 311))
  have g1 := gr_al hA
  have hb1 := (g1.block _ (lt_of_heap hb0) id).trans hb0
  have hb2 : A.heap[A0.heap.size]? = some (.cells #[.slice none 0 0, .int .i64 0, .pointer none] 311) := by rw [← hA]; exact heap_alloc_new A0 _
  obtain ⟨e0, e1, e2⟩ := cell3V hb1
  obtain ⟨y0, y1, y2⟩ := cell3V hb2
  have z2 := frz hb1 2
  have x0 := frz hb2 0
  have x1 := frz hb2 1
  have x2 := frz hb2 2
  have s2 := set_id (j := 2) (v := .pointer none) hb1 rfl
  obtain ⟨U, hU⟩ := ex (vwU A A0.heap.size (.slice vo n c))
  have HUB := hidM (vw_blk (v := .slice vo n c) hb2)
  have HUG := hidM (vw_gr (v := .slice vo n c) (g0.tr g1) (b := A0.heap.size) (by omega))
  rw [hU] at HUB HUG
  simp only [vwU, setAll] at hU
  have HSZ := hidM hs0
  clear g0 hs0 hb0 g1 hb1 hb2
  go_enter Tryz.func317, Tryz.ntmps317
  go_wp2_with fail
  (try simp only [Exit.inBlock, Exit.then])
  refine bodyPost_ret (results_cell236 rfl rfl (by with_reducible exact HUB.out) (by kernel_rfl)) rfl ?_
  exact ⟨rfl, HUG.out⟩
theorem buffer128_1 (l : Nat) (W : World) (q r rc : Nat) (nu : Bool) (ao : Option Addr) (ca L N : Nat) (v2 n2 c2 : Nat) (h : NdA W q r rc nu ao ca L N v2 n2 c2) (hl : W.cell? ⟨l, 0, none⟩ = some (.pointer none)) : Calls Tryz.prog 308 #[.pointer (some ⟨l, 0, none⟩), .pointer (some ⟨q, 0, none⟩), .int .i64 1] W fun e w' => e = .returned (.agg #[.slice (some ⟨v2, 0, none⟩) n2 c2, .int .i64 0, .pointer none]) ∧ Gr W w' := by
  obtain ⟨A, hA⟩ := ex (W.alloc (.cells #[.slice none 0 0, .int .i64 0, .pointer none] 311))
  have gA := gr_al hA
  have hb : A.heap[W.heap.size]? = some (.cells #[.slice none 0 0, .int .i64 0, .pointer none] 311) := by rw [← hA]; exact heap_alloc_new W _
  have hS : ∀ u, Gr W u → u.cell? ⟨q, 11, none⟩ = some (.slice (some ⟨r, 0, none⟩) 2 rc) ∧ u.cell? ⟨r, 3, none⟩ = some (.slice (some ⟨v2, 0, none⟩) n2 c2) ∧ u.cell? ⟨r, 4, none⟩ = some (.int .i64 0) ∧ u.cell? ⟨r, 5, none⟩ = some (.pointer none) ∧ u.cell? ⟨l, 0, none⟩ = some (.pointer none) := fun u g => ⟨cellB (h.gr g).nd, (h.gr g).r3, (h.gr g).r4, (h.gr g).r5, g.cell' hl id⟩
  have HS0 := hidM (hS A.drew gA.drew)
  have HT : Hid (∀ w1, Gr A.drew w1 → Gr W w1 ∧ w1.heap[W.heap.size]? = some (.cells #[.slice none 0 0, .int .i64 0, .pointer none] 311) ∧ (w1.cell? ⟨q, 11, none⟩ = some (.slice (some ⟨r, 0, none⟩) 2 rc) ∧ w1.cell? ⟨r, 3, none⟩ = some (.slice (some ⟨v2, 0, none⟩) n2 c2) ∧ w1.cell? ⟨r, 4, none⟩ = some (.int .i64 0) ∧ w1.cell? ⟨r, 5, none⟩ = some (.pointer none) ∧ w1.cell? ⟨l, 0, none⟩ = some (.pointer none)) ∧ (vwU w1 W.heap.size (.slice (some ⟨v2, 0, none⟩) n2 c2)).heap[W.heap.size]? = some (.cells #[.slice (some ⟨v2, 0, none⟩) n2 c2, .int .i64 0, .pointer none] 311) ∧ Gr W (vwU w1 W.heap.size (.slice (some ⟨v2, 0, none⟩) n2 c2))) := fun w1 g1 => by
    have gW : Gr W w1 := gA.drew.tr g1
    have hb1 := (g1.block _ (lt_of_heap hb) id).trans hb
    exact ⟨gW, hb1, hS w1 gW, vw_blk hb1, vw_gr gW (Nat.le_refl _)⟩
  have HSA := hidM hS
  clear gA hb hS h hl
  go_enter Tryz.func308, Tryz.ntmps308
  go_wp2_with fail
  go_region_held3 (fun u => u.cell? ⟨q, 11, none⟩ = some (.slice (some ⟨r, 0, none⟩) 2 rc) ∧ u.cell? ⟨r, 3, none⟩ = some (.slice (some ⟨v2, 0, none⟩) n2 c2) ∧ u.cell? ⟨r, 4, none⟩ = some (.int .i64 0) ∧ u.cell? ⟨r, 5, none⟩ = some (.pointer none) ∧ u.cell? ⟨l, 0, none⟩ = some (.pointer none)) (first | with_reducible exact HS0.out | with_reducible exact HS1.out | with_reducible exact HSU.out) ((go_at_call 317; refine (watched135 _ _ _ _).mono ?_; rintro e w1 ⟨rfl, g1⟩; obtain ⟨gW, hb1, hs1, hub, hug⟩ := HT.out w1 g1; have HS1 := hidM hs1; obtain ⟨U, hU⟩ := ex (vwU w1 W.heap.size (.slice (some ⟨v2, 0, none⟩) n2 c2)); rw [hU] at hub hug; have HSU := hidM (HSA.out U hug); have HUB := hidM hub; have HUG := hidM hug; simp only [vwU, setAll] at hU; obtain ⟨y0, y1, y2⟩ := cell3V hb1; have x0 := frz hb1 0; have x1 := frz hb1 1; have x2 := frz hb1 2; clear g1 gW hb1 hs1 hub hug hA))
  go_wp2_with fail
  (try simp only [Exit.inBlock, Exit.then])
  refine bodyPost_ret (results_cell236 rfl rfl (by with_reducible exact HUB.out) (by kernel_rfl)) rfl ?_
  exact ⟨rfl, HUG.out⟩
theorem take104 (l left : Nat) (W : World) (h : W.heap[l]? = some (.cells #[.pointer none, .int .i64 left] 166)) (h1 : 16 ≤ left) (h2 : left ≤ 4194304) : Calls Tryz.prog 264 #[.pointer (some ⟨l, 0, none⟩), .int .i64 16] W fun e w' => e = .returned (.tuple #[]) ∧ Keeps W w' (fun z => z = l) ∧ w'.heap[l]? = some (.cells #[.pointer none, .int .i64 ((left - 16 : Nat) : Int)] 166) := by
  obtain ⟨c0, c1⟩ := cell2 h
  have z1 := frz h 1
  have wr1 : IntKind.i64.wrap ((left : Int) - 16) = ((left - 16 : Nat) : Int) := by rw [IntKind.wrap_i64]; omega
  have b1 : ¬ (((left - 16 : Nat) : Int) < 0) := by omega
  obtain ⟨U, hU⟩ := ex (W.setCell ⟨l, 1, none⟩ (.int .i64 ((left - 16 : Nat) : Int)))
  have hu : U.heap[l]? = some (.cells #[.pointer none, .int .i64 ((left - 16 : Nat) : Int)] 166) := by rw [← hU, heap_setCell_same W l 1 _ _ _ h]; simp
  have HK : Hid (Keeps W U (fun z => z = l)) := by rw [← hU]; exact (Keeps.refl W (fun z => z = l)).setCell (p := ⟨l, 1, none⟩) (fun _ => rfl) _
  have HU := hidM hu
  have u1 : U.cell? ⟨l, 1, none⟩ = some (.int .i64 ((left - 16 : Nat) : Int)) := by simp [World.cell?, hu]
  generalize ((left - 16 : Nat) : Int) = x at *
  clear h hu h1 h2
  go_enter Tryz.func264, Tryz.ntmps264
  go_wp2_with fail
  go_end0
  exact ⟨rfl, HK.out, HU.out⟩
theorem isWidth185 (W : World) : Calls Tryz.prog 367 #[.int .i64 1] W fun e w' => e = .returned (.bool true) ∧ w' = W := by
  go_enter Tryz.func367, Tryz.ntmps367
  go_wp2_with fail
  go_ret
  exact ⟨rfl, rfl⟩
theorem isOff102 (x : Int) (l : Nat) (W : World) (q r rc : Nat) (nu : Bool) (ao : Option Addr) (ca L N : Nat) (v2 n2 c2 : Nat) (h : NdA W q r rc nu ao ca L N v2 n2 c2) : Calls Tryz.prog 262 #[.pointer (some ⟨l, 0, none⟩), .pointer (some ⟨q, 0, none⟩), .int .i64 x] W fun e w' => e = .returned (.bool false) ∧ Gr W w' := by
  have HM := hidM (masked97 q nu ao ca L N (.slice (some ⟨r, 0, none⟩) 2 rc) W h.nd)
  have c11 := cellB h.nd
  obtain ⟨r0, r1, r2⟩ := And.intro h.r0 (And.intro h.r1 h.r2)
  clear h
  go_enter Tryz.func262, Tryz.ntmps262
  go_wp2_with (first
    | (go_at_call 257; refine HM.out.mono ?_; rintro e w1 ⟨rfl, rfl⟩)
    | (go_at_call 260; refine (len100 _ _ _ _).mono ?_; rintro e w2 ⟨rfl, g2⟩; have HG2 := hidM g2; clear g2))
  go_ret
  exact ⟨rfl, HG2.out⟩
theorem lowest285_0 (g c : Nat) (W : World) (h0 : W.cell? ⟨g, 0, none⟩ = some (.int .u8 3)) : Calls Tryz.prog 465 #[.slice (some ⟨g, 0, none⟩) 1 c] W fun e w' => e = .returned (.int .u64 3) ∧ w' = W := by
  have H0 := hidM h0
  clear h0
  go_enter Tryz.func465, Tryz.ntmps465
  go_wp2_with fail
  go_loopw [8, 3] (fun i s wr => ∃ k : Nat, k ≤ 1 ∧ i = .int .i64 k ∧ s = .int .u64 (if k = 0 then 0 else 3) ∧ wr = W) (fun i _ _ => 1 - (intOf i).toNat)
  case atStart => exact ⟨0, by omega, rfl, rfl, rfl⟩
  case round =>
    obtain ⟨k, hk, rfl, rfl, rfl⟩ := hrel
    have hk3 : k = 0 ∨ k = 1 := by omega
    rcases hk3 with rfl | rfl
    · have c0 := H0.out
      simp only [if_pos rfl]
      go_wp2_with fail
      go_roundw
      case rel => exact ⟨1, by omega, by go_num, by simp; kernel_rfl, trivial⟩
      case measure => simp [intOf]
    go_wp2_with fail
    go_ret
    exact ⟨by simp, rfl⟩
theorem lowest285_1 (g c : Nat) (W : World) (h0 : W.cell? ⟨g, 1, none⟩ = some (.int .u8 4)) : Calls Tryz.prog 465 #[.slice (some ⟨g, 1, none⟩) 1 c] W fun e w' => e = .returned (.int .u64 4) ∧ w' = W := by
  have H0 := hidM h0
  clear h0
  go_enter Tryz.func465, Tryz.ntmps465
  go_wp2_with fail
  go_loopw [8, 3] (fun i s wr => ∃ k : Nat, k ≤ 1 ∧ i = .int .i64 k ∧ s = .int .u64 (if k = 0 then 0 else 4) ∧ wr = W) (fun i _ _ => 1 - (intOf i).toNat)
  case atStart => exact ⟨0, by omega, rfl, rfl, rfl⟩
  case round =>
    obtain ⟨k, hk, rfl, rfl, rfl⟩ := hrel
    have hk3 : k = 0 ∨ k = 1 := by omega
    rcases hk3 with rfl | rfl
    · have c0 := H0.out
      simp only [if_pos rfl]
      go_wp2_with fail
      go_roundw
      case rel => exact ⟨1, by omega, by go_num, by simp; kernel_rfl, trivial⟩
      case measure => simp [intOf]
    go_wp2_with fail
    go_ret
    exact ⟨by simp, rfl⟩
end Go.Proofs.YtknnoiomdngmfaaGreatDoor.Kit
