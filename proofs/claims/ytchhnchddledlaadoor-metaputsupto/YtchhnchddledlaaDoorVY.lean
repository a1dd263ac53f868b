import Derived.Test.YtchhnchddledlaaDoorVU
import Derived.Test.YtchhnchddledlaaDoorVX
namespace Go.Proofs.YtchhnchddledlaaDoor.Kit
open Go.RowKit Go.Shelf Go.Deep
set_option linter.unusedVariables false
attribute [local go_sem] run_store_func

/-! ### Put -/
theorem ce1 {W : World} {B t : Nat} {x : Value} (h : W.heap[B]? = some (.cells #[x] t)) : W.cell? ⟨B, 0, none⟩ = some x := by simp [World.cell?, h]

set_option maxRecDepth 100000 in
set_option maxHeartbeats 4000000 in
theorem put_false {k di rows pr : Int} {dl : Bool} {fo no vo uo : Option Addr} {nf cf nn cn vc uc : Nat} {nds : List (Int × Int)} {sls : List (Int × Int × Int)} {w : World}
    (h8 : ∀ W, Gr w W → Calls Tryd.prog 8 #[.agg #[.int .i64 k, .slice fo nf cf, .slice no nn cn, .int .i64 di, .bool dl, .int .i64 rows, .int .i64 pr, .slice vo nds.length vc, .slice uo sls.length uc]] W fun e w' => e = .returned (.bool false) ∧ Gr W w') :
    Calls Tryd.prog 4 #[.agg #[.int .i64 k, .slice fo nf cf, .slice no nn cn, .int .i64 di, .bool dl, .int .i64 rows, .int .i64 pr, .slice vo nds.length vc, .slice uo sls.length uc]] w fun e w' => e = .returned (.tuple #[.slice none 0 0, .int .i64 50]) ∧ Gr w w' := by
  have hbx := World.alloc_heap_new w (.cells #[.int .i64 k, .slice fo nf cf, .slice no nn cn, .int .i64 di, .bool dl, .int .i64 rows, .int .i64 pr, .slice vo nds.length vc, .slice uo sls.length uc] 29)
  obtain ⟨p0, p1, p2, p3, p4, p5, p6, p7, p8⟩ := ce9 hbx
  have H8 := hidM h8
  clear hbx h8
  go_enter Tryd.func4, Tryd.ntmps4
  go_wp2_with (go_at_call 8; refine Hid.out ?_)
  unfold Hid
  refine Calls.mono (H8.out _ (gr_alloc w _)) ?_
  rintro e V ⟨rfl, hg⟩
  have HG := hidM ((gr_alloc w _).trans hg (fun _ _ h => h))
  clear hg
  go_wp2_with fail
  refine bodyPost_ret (v := .tuple #[.slice none 0 0, .int .i64 50]) ?_ rfl ⟨rfl, HG.out⟩
  simp [results, Tryd.f4, go_sem]
set_option maxRecDepth 100000 in
set_option maxHeartbeats 4000000 in
theorem putR_false {k di rows pr : Int} {dl : Bool} {fo no vo uo : Option Addr} {nf cf nn cn vc uc : Nat} {nds : List (Int × Int)} {sls : List (Int × Int × Int)} {w : World}
    (h12 : ∀ W, Gr w W → Calls Tryd.prog 12 #[.agg #[.int .i64 k, .slice fo nf cf, .slice no nn cn, .int .i64 di, .bool dl, .int .i64 rows, .int .i64 pr, .slice vo nds.length vc, .slice uo sls.length uc]] W fun e w' => e = .returned (.bool false) ∧ Gr W w') :
    Calls Tryd.prog 5 #[.agg #[.int .i64 k, .slice fo nf cf, .slice no nn cn, .int .i64 di, .bool dl, .int .i64 rows, .int .i64 pr, .slice vo nds.length vc, .slice uo sls.length uc]] w fun e w' => e = .returned (.tuple #[.slice none 0 0, .int .i64 50]) ∧ Gr w w' := by
  have hbx := World.alloc_heap_new w (.cells #[.int .i64 k, .slice fo nf cf, .slice no nn cn, .int .i64 di, .bool dl, .int .i64 rows, .int .i64 pr, .slice vo nds.length vc, .slice uo sls.length uc] 29)
  obtain ⟨p0, p1, p2, p3, p4, p5, p6, p7, p8⟩ := ce9 hbx
  have H12 := hidM h12
  clear hbx h12
  go_enter Tryd.func5, Tryd.ntmps5
  go_wp2_with (go_at_call 12; refine Hid.out ?_)
  unfold Hid
  refine Calls.mono (H12.out _ (gr_alloc w _)) ?_
  rintro e V ⟨rfl, hg⟩
  have HG := hidM ((gr_alloc w _).trans hg (fun _ _ h => h))
  clear hg
  go_wp2_with fail
  refine bodyPost_ret (v := .tuple #[.slice none 0 0, .int .i64 50]) ?_ rfl ⟨rfl, HG.out⟩
  simp [results, Tryd.f5, go_sem]
set_option maxRecDepth 100000 in
set_option maxHeartbeats 4000000 in
theorem put_true {k di rows pr : Int} {dl : Bool} {fo no vo uo : Option Addr} {nf cf nn cn vc uc : Nat} {nds : List (Int × Int)} {sls : List (Int × Int × Int)} {w : World} {bs : List UInt8} (hbs : bs.length ≤ 65536)
    (h8 : ∀ W, Gr w W → Calls Tryd.prog 8 #[.agg #[.int .i64 k, .slice fo nf cf, .slice no nn cn, .int .i64 di, .bool dl, .int .i64 rows, .int .i64 pr, .slice vo nds.length vc, .slice uo sls.length uc]] W fun e w' => e = .returned (.bool true) ∧ Gr W w')
    (h10 : ∀ W K, InkAt w W K [] → Calls Tryd.prog 10 #[.agg #[.pointer (some ⟨K, 0, none⟩)], .agg #[.int .i64 k, .slice fo nf cf, .slice no nn cn, .int .i64 di, .bool dl, .int .i64 rows, .int .i64 pr, .slice vo nds.length vc, .slice uo sls.length uc]] W fun e w' => e = .returned (.tuple #[]) ∧ InkAt w w' K bs ∧ KU K W w') :
    Calls Tryd.prog 4 #[.agg #[.int .i64 k, .slice fo nf cf, .slice no nn cn, .int .i64 di, .bool dl, .int .i64 rows, .int .i64 pr, .slice vo nds.length vc, .slice uo sls.length uc]] w fun e w' => ∃ B, e = .returned (.tuple #[.slice (some ⟨B, 0, none⟩) bs.length bs.length, .int .i64 0]) ∧ w.heap.size ≤ B ∧ w'.heap[B]? = some (.cells (bv bs).toArray 5 (0, 0)) ∧ Gr w w' := by
  have hbx := World.alloc_heap_new w (.cells #[.int .i64 k, .slice fo nf cf, .slice no nn cn, .int .i64 di, .bool dl, .int .i64 rows, .int .i64 pr, .slice vo nds.length vc, .slice uo sls.length uc] 29)
  obtain ⟨p0, p1, p2, p3, p4, p5, p6, p7, p8⟩ := ce9 hbx
  have H8 := hidM h8
  have H10 := hidM h10
  have HBs := hidM hbs
  clear hbx h8 h10 hbs
  go_enter Tryd.func4, Tryd.ntmps4
  go_wp2_with (go_at_call 8; refine Hid.out ?_)
  unfold Hid
  refine Calls.mono (H8.out _ (gr_alloc w _)) ?_
  rintro e V ⟨rfl, hg⟩

  have t0 := hg.cell' p0 id
  have t1 := hg.cell' p1 id
  have t2 := hg.cell' p2 id
  have t3 := hg.cell' p3 id
  have t4 := hg.cell' p4 id
  have t5 := hg.cell' p5 id
  have t6 := hg.cell' p6 id
  have t7 := hg.cell' p7 id
  have t8 := hg.cell' p8 id
  have HG := hidM ((gr_alloc w _).trans hg (fun _ _ h => h))
  clear hg p0 p1 p2 p3 p4 p5 p6 p7 p8
  go_wp2_with (go_at_call 9; refine Hid.out ?_)
  unfold Hid
  refine Calls.mono (newInk_any V) ?_
  rintro e V1 ⟨rfl, hV1⟩
  have hK : V1.heap[V.heap.size]? = some (.cells #[.slice none 0 0, .int .i64 65536] 63) := by rw [hV1]; exact heap_alloc_new V _
  have hs : V1.heap.size = V.heap.size + 1 := by rw [hV1]; simp
  have hg1 : Gr V V1 := by rw [hV1]; exact gr_alloc _ _
  have HI0 : Hid (InkAt w (V1.alloc (.cells #[.pointer (some ⟨V.heap.size, 0, none⟩)] 40)) V.heap.size []) := by
    have g2 : Gr V (V1.alloc (.cells #[.pointer (some ⟨V.heap.size, 0, none⟩)] 40)) := hg1.trans (gr_alloc _ _) (fun _ _ h => h)
    refine ⟨HG.out.trans g2 (fun _ _ h => h), HG.out.size, none, 0, 0, ?_, World.ownsRow_nil _ _ _ _, fun g e => by simp [Value.ownBlock] at e⟩
    exact ((gr_alloc V1 _).block _ (by omega) id).trans hK
  have HKU : Hid ((V1.alloc (.cells #[.pointer (some ⟨V.heap.size, 0, none⟩)] 40)).heap[V1.heap.size]? = some (.cells #[.pointer (some ⟨V.heap.size, 0, none⟩)] 40)) := heap_alloc_new V1 _
  have hne : V1.heap.size ≠ V.heap.size := by omega
  have u0 : (V1.alloc (.cells #[.pointer (some ⟨V.heap.size, 0, none⟩)] 40)).cell? ⟨V1.heap.size, 0, none⟩ = some (.pointer (some ⟨V.heap.size, 0, none⟩)) := (ce1 (heap_alloc_new V1 _))
  have q0 := (hg1.trans (gr_alloc V1 (.cells #[.pointer (some ⟨V.heap.size, 0, none⟩)] 40)) (fun _ _ h => h)).cell' t0 id
  have q1 := (hg1.trans (gr_alloc V1 (.cells #[.pointer (some ⟨V.heap.size, 0, none⟩)] 40)) (fun _ _ h => h)).cell' t1 id
  have q2 := (hg1.trans (gr_alloc V1 (.cells #[.pointer (some ⟨V.heap.size, 0, none⟩)] 40)) (fun _ _ h => h)).cell' t2 id
  have q3 := (hg1.trans (gr_alloc V1 (.cells #[.pointer (some ⟨V.heap.size, 0, none⟩)] 40)) (fun _ _ h => h)).cell' t3 id
  have q4 := (hg1.trans (gr_alloc V1 (.cells #[.pointer (some ⟨V.heap.size, 0, none⟩)] 40)) (fun _ _ h => h)).cell' t4 id
  have q5 := (hg1.trans (gr_alloc V1 (.cells #[.pointer (some ⟨V.heap.size, 0, none⟩)] 40)) (fun _ _ h => h)).cell' t5 id
  have q6 := (hg1.trans (gr_alloc V1 (.cells #[.pointer (some ⟨V.heap.size, 0, none⟩)] 40)) (fun _ _ h => h)).cell' t6 id
  have q7 := (hg1.trans (gr_alloc V1 (.cells #[.pointer (some ⟨V.heap.size, 0, none⟩)] 40)) (fun _ _ h => h)).cell' t7 id
  have q8 := (hg1.trans (gr_alloc V1 (.cells #[.pointer (some ⟨V.heap.size, 0, none⟩)] 40)) (fun _ _ h => h)).cell' t8 id
  have HNe := hidM hne
  have HS := hidM hs
  clear t0 t1 t2 t3 t4 t5 t6 t7 t8 hg1 hK hV1 hne hs
  go_wp2_with (go_at_call 10; refine Hid.out ?_)
  unfold Hid
  refine Calls.mono (H10.out _ _ HI0.out) ?_
  rintro e V3 ⟨rfl, hi, hku⟩
  have r0 : V3.cell? ⟨V1.heap.size, 0, none⟩ = some (.pointer (some ⟨V.heap.size, 0, none⟩)) := ce1 (hku.2 _ _ _ HKU.out (by decide) HNe.out)
  have HI := hidM hi
  clear hku hi q0 q1 q2 q3 q4 q5 q6 q7 q8 u0
  go_wp2_with (go_at_call 11; refine Hid.out ?_)
  unfold Hid
  refine Calls.mono (inkBytes_any HI.out HBs.out) ?_
  rintro e V4 ⟨rfl, hb, hbel⟩
  have HB := hidM hb
  have HGe : Hid (Gr w V4) := HI.out.gr.trans ((Keeps.ofBelow hbel).mono fun k h1 h2 => by omega) (fun _ _ h => h)
  have HLe : Hid (w.heap.size ≤ V3.heap.size) := HI.out.gr.size
  clear hb hbel r0
  go_wp2_with fail
  refine bodyPost_ret (v := .tuple #[.slice (some ⟨V3.heap.size, 0, none⟩) bs.length bs.length, .int .i64 0]) ?_ rfl ⟨_, rfl, HLe.out, HB.out, HGe.out⟩
  simp [results, Tryd.f4, go_sem]

end Go.Proofs.YtchhnchddledlaaDoor.Kit
