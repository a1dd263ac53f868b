import Derived.Test.YtknjnclopiklaabPV
namespace Go.Proofs.Ytknjnclopiklaab.Kit
open Go.RowKit Go.Shelf Go.Deep Go.Maps
set_option linter.unusedVariables false
attribute [local go_sem] run_store_func

/-! ### the latest places -/
def metsL (bs : List UInt8) (k : Nat) : List Value := (List.range k).map fun i => .int .i64 (metZ (metO bs i))
theorem metsL_succ (bs : List UInt8) (k : Nat) : metsL bs (k + 1) = metsL bs k ++ [.int .i64 (metZ (metO bs k))] := by simp [metsL, List.range_succ]
theorem info3 : (Try.prog.info? 3).map (fun i => (i.zero, i.size, i.bytes)) = some (some (.int .i64 0), 1, 8) := by kernel_rfl
theorem zero3 (w : World) : (zeroValue 3).run Try.prog w = .ok (.int .i64 0) w := by kernel_rfl
/-- ints of the call's own -/
structure Mets (w W : World) (B : Nat) (vo : Option Addr) (vc k : Nat) (bs : List UInt8) : Prop where
  own : W.ownsRow 0 3 1 (.slice vo k vc) k (metsL bs k)
  gr : Gr w W
  new : ∀ g, (Value.slice vo k vc).ownBlock = some g → B < g
theorem src_i64 (w : World) (z : Int) : Src Try.prog 1 50 (.slice (some ⟨w.heap.size, 0, none⟩) 1 1) 1 [.int .i64 z] (w.alloc (.cells #[.int .i64 z] 3)) := by
  refine Src.ofSlice (w.alloc (.cells #[.int .i64 z] 3)) Try.underlying50 ⟨w.heap.size, 0, none⟩ 1 1 [.int .i64 z] (by simp) (fun j x h => ?_) (fun x h => by simp at h; subst h; rfl)
  have hb := heap_alloc_new w (.cells #[.int .i64 z] 3)
  have e : (⟨w.heap.size, 0, none⟩ : Addr).add j = ⟨w.heap.size, j, none⟩ := by cases j <;> simp [Addr.add]
  rw [e]
  simp only [World.cell?, hb]
  simpa using h
theorem ce4 {W : World} {B t : Nat} {x y z u : Value} (h : W.heap[B]? = some (.cells #[x, y, z, u] t)) : W.cell? ⟨B, 0, none⟩ = some x ∧ W.cell? ⟨B, 1, none⟩ = some y ∧ W.cell? ⟨B, 2, none⟩ = some z ∧ W.cell? ⟨B, 3, none⟩ = some u := by simp [World.cell?, h]
set_option maxRecDepth 100000 in
set_option maxHeartbeats 4000000 in
theorem metAt_any {ao : Option Addr} {ca : Nat} {bs : List UInt8} {w : World} (h : BytesAt w ao bs) (hl : bs.length ≤ 100000) :
    Calls Try.prog 26 #[.slice ao bs.length ca] w fun e w' => ∃ vo vc, e = .returned (.slice vo (bs.length - 3) vc) ∧ Mets w w' w.heap.size vo vc (bs.length - 3) bs := by
  have HA := hidM h
  obtain ⟨N, hN⟩ : ∃ N, N = bs.length := ⟨_, rfl⟩
  rw [← hN] at hl ⊢
  have HN := hidM hN
  clear h hN
  have hmm := @run_makeMap Try.prog
  go_enter Try.func26, Try.ntmps26
  go_wp2_with fail
  go_loopw [3, 5] (fun v p wr => ∃ (k : Nat) (vo : Option Addr) (vc : Nat), k ≤ N - 3 ∧ p = .int .i64 (k : Int) ∧ v = .slice vo k vc ∧ Hid (Mets w wr w.heap.size vo vc k bs ∧ ∃ D : DataW Unit, Latest bs k D ∧ wr.ownsMap Try.prog 59 (plainElem Try.prog 3) w.heap.size k D)) (fun _ p _ => N - (intOf p).toNat)
  case atStart =>
    refine ⟨0, none, 0, by omega, rfl, rfl, ⟨World.ownsRow_nil _ _ _ _, gr_alloc _ _, fun g e => by simp [Value.ownBlock] at e⟩, .map [], Latest.none bs, World.ownsMap_made _ _ _ _⟩
  case round =>
    obtain ⟨k, vo, vc, hk, rfl, rfl, HR⟩ := hrel
    by_cases c : k + 4 ≤ N
    · have cI : (k : Int) + 4 ≤ (N : Int) := by omega
      have cb : k + 4 ≤ bs.length := by rw [← HN.out]; exact c
      obtain ⟨b, o, hao, hc⟩ := (HA.out.gr HR.out.1.gr).at (ne_nil (i := k) (by omega))
      subst hao
      have t0 := hc k (by omega)
      have t1 := hc (k + 1) (by omega)
      have t2 := hc (k + 2) (by omega)
      have t3 := hc (k + 3) (by omega)
      have HKey := hidM (key_at cb)
      obtain ⟨x0, hx0⟩ : ∃ x : Int, x = ((bs.getD k 0).toNat : Int) := ⟨_, rfl⟩
      obtain ⟨x1, hx1⟩ : ∃ x : Int, x = ((bs.getD (k + 1) 0).toNat : Int) := ⟨_, rfl⟩
      obtain ⟨x2, hx2⟩ : ∃ x : Int, x = ((bs.getD (k + 2) 0).toNat : Int) := ⟨_, rfl⟩
      obtain ⟨x3, hx3⟩ : ∃ x : Int, x = ((bs.getD (k + 3) 0).toNat : Int) := ⟨_, rfl⟩
      rw [← hx0, ← hx1, ← hx2, ← hx3] at HKey
      rw [← hx0] at t0
      rw [← hx1] at t1
      rw [← hx2] at t2
      rw [← hx3] at t3
      have HCb := hidM cb
      clear hc hx0 hx1 hx2 hx3 cb
      have hi0 : (0 : Int) ≤ (k : Int) := by omega
      have hi1 : (k : Int) < (N : Int) := by omega
      have hi2 : (k : Int) + 1 < (N : Int) := by omega
      have hi3 : (k : Int) + 2 < (N : Int) := by omega
      have hi4 : (k : Int) + 3 < (N : Int) := by omega
      have hw1 : IntKind.i64.wrap ((k : Int) + 1) = (k : Int) + 1 := by rw [IntKind.wrap_i64]; omega
      have hw2 : IntKind.i64.wrap ((k : Int) + 2) = (k : Int) + 2 := by rw [IntKind.wrap_i64]; omega
      have hw3 : IntKind.i64.wrap ((k : Int) + 3) = (k : Int) + 3 := by rw [IntKind.wrap_i64]; omega
      have hp1 : (0 : Int) ≤ (k : Int) + 1 := by omega
      have hp2 : (0 : Int) ≤ (k : Int) + 2 := by omega
      have hp3 : (0 : Int) ≤ (k : Int) + 3 := by omega
      have hn1 : ((k : Int) + 1).toNat = k + 1 := by omega
      have hn2 : ((k : Int) + 2).toNat = k + 2 := by omega
      have hn3 : ((k : Int) + 3).toNat = k + 3 := by omega
      go_wp2_with fail
      go_region_held3 (fun w' => w'.cell? ⟨b, o + k, none⟩ = some (.int .u8 x0) ∧ w'.cell? ⟨b, o + (k + 1), none⟩ = some (.int .u8 x1) ∧ w'.cell? ⟨b, o + (k + 2), none⟩ = some (.int .u8 x2) ∧ w'.cell? ⟨b, o + (k + 3), none⟩ = some (.int .u8 x3)) (go_keep) (fail)
      obtain ⟨D, hL, hown⟩ := HR.out.2
      have HM := hidM HR.out.1
      have HL := hidM hL
      have hg1 : Gr wr (wr.alloc (.cells #[.int .u8 x0, .int .u8 x1, .int .u8 x2, .int .u8 x3] 59)).drew := (gr_alloc wr _).drew
      have hown1 : (wr.alloc (.cells #[.int .u8 x0, .int .u8 x1, .int .u8 x2, .int .u8 x3] 59)).drew.ownsMap Try.prog 59 (plainElem Try.prog 3) w.heap.size k D := (hown.alloc _).drew
      have hbx : (wr.alloc (.cells #[.int .u8 x0, .int .u8 x1, .int .u8 x2, .int .u8 x3] 59)).drew.heap[wr.heap.size]? = some (.cells #[.int .u8 x0, .int .u8 x1, .int .u8 x2, .int .u8 x3] 59) := heap_alloc_new wr _
      have hlw := hown.lt
      obtain ⟨B, hB⟩ : ∃ B, B = wr.heap.size := ⟨_, rfl⟩
      obtain ⟨M, hMd⟩ : ∃ M, M = w.heap.size := ⟨_, rfl⟩
      generalize (wr.alloc (.cells #[.int .u8 x0, .int .u8 x1, .int .u8 x2, .int .u8 x3] 59)).drew = W1 at *
      rw [← hB] at hbx hlw ⊢
      rw [← hMd] at hown1 hown hlw HM ⊢
      have HBx := hidM hbx
      obtain ⟨d0, d1, d2, d3⟩ := ce4 hbx
      have HG1 := hidM hg1
      have HOn := hidM hown1
      have HBs := hidM hB
      have HMs := hidM hMd
      clear hL hown hg1 hown1 hbx HR t0 t1 t2 t3 hw1 hw2 hw3 hp1 hp2 hp3 hn1 hn2 hn3 hi1 hi2 hi3 hi4 hB hMd
      go_wp2_with (at_lookup; refine Hid.out ?_)
      unfold Hid
      refine wpList_lookup_own_ok_int _ rfl (.tmp 38) (.tmp 39) 58 rfl 59 3 .i64 law65 Try.underlying58 Try.underlying3 (zero3 _) M k D rfl HOn.out _ (.string (four bs k)) rfl HKey.out ?_
      intro c0 hat hwc
      have HNext : Hid (∀ V : World, V.ownsMap Try.prog 59 (plainElem Try.prog 3) M (k + 1) (D.put (.string (four bs k)) (.lit (.int .i64 (k : Int)))) → ∃ D' : DataW Unit, Latest bs (k + 1) D' ∧ V.ownsMap Try.prog 59 (plainElem Try.prog 3) M (k + 1) D') := fun V hV => ⟨_, HL.out.put, hV⟩
      obtain ⟨z, hz⟩ : ∃ z : Int, z = metZ (metO bs k) := ⟨_, rfl⟩
      have hmO : metO bs k = metGo bs (four bs k) k := by unfold metO; rw [if_pos HCb.out]
      have HZ := hidM hz
      cases hm : metGo bs (four bs k) k with
      | none =>
        have hhas : Maps.has D (.string (four bs k)) = false := by rw [HL.out.has, hm]; rfl
        have hz1 : (-1 : Int) = z := by rw [hz, hmO, hm]; rfl
        rw [hhas]
        clear hat hwc hhas hz hmO hm
        go_wp2_with (at_builtin; refine Hid.out ?_)
        unfold Hid
        rw [hz1]
        have hO1 : (W1.alloc (.cells #[.int .i64 z] 3)).ownsRow 0 3 1 (.slice vo k vc) k (metsL bs k) := own_kp HM.out.own fun g e => ((HG1.out.trans (gr_alloc W1 _) (fun _ _ h => h)).block g (own_lt HM.out.own g e) id)
        refine wpList_append_any _ rfl (.tmp 45) (.tmp 47) 50 50 rfl 3 (.int .i64 0) 8 Try.underlying50 info3 rfl _ k (metsL bs k) rfl hO1 _ 1 [.int .i64 z] rfl (src_i64 W1 z) (by omega) (by omega) ?_
        intro v' w1 hown2 hgrow hblk
        obtain ⟨vo2, vc2, rfl⟩ := own_form1 hown2
        have hka : Keeps W1 w1 (fun g => (Value.slice vo k vc).ownBlock = some g) := ((gr_alloc W1 (.cells #[.int .i64 z] 3)).mono fun _ _ f => f.elim).trans (Keeps.ofGrown hgrow) (fun _ _ e => e)
        have hMb : (Value.slice vo k vc).ownBlock ≠ some M := fun e => by have := HM.out.new M e; omega
        have hsz := HG1.out.size
        have hBn : (Value.slice vo k vc).ownBlock ≠ some B := fun e => by have := own_lt HM.out.own B e; have := HBs.out; omega
        have hmp : w1.ownsMap Try.prog 59 (plainElem Try.prog 3) M k D := (HOn.out.alloc _).kept hgrow (fun e => hMb e.symm)
        have hbx2 : w1.heap[B]? = some (.cells #[.int .u8 x0, .int .u8 x1, .int .u8 x2, .int .u8 x3] 59) := (hka.block B (lt_of_heap HBx.out) hBn).trans HBx.out
        have HGw : Hid (Gr w w1) := (HM.out.gr.trans HG1.out (fun _ _ h => h)).trans hka (fun j hj e => by have := HM.out.new j e; have := HMs.out; omega)
        have HNw : Hid (∀ g, (Value.slice vo2 (k + 1) vc2).ownBlock = some g → M < g) := fun g e => by
          rcases hblk with hb | hb
          · rw [hb] at e; exact HM.out.new g e
          · have := hb g e
            have h2 : W1.heap.size ≤ (W1.alloc (.cells #[.int .i64 z] 3)).heap.size := by simp
            have := HBs.out
            omega
        have HOw : Hid (w1.ownsRow 0 3 1 (.slice vo2 (k + 1) vc2) (k + 1) (metsL bs (k + 1))) := by rw [metsL_succ, ← HZ.out]; exact hown2
        have HMp := hidM hmp
        obtain ⟨e0, e1, e2, e3⟩ := ce4 hbx2
        clear hown2 hgrow hblk hka hmp hbx2 hO1 d0 d1 d2 d3 HG1 HOn HBx
        go_wp2_with (at_mapUpdate; refine Hid.out ?_)
        unfold Hid
        refine wpList_mapUpdate_own _ rfl (.tmp 49) (.tmp 50) (.tmp 51) 58 rfl 59 3 law65 Try.underlying58 _ M k D rfl HMp.out (by unfold maxLen; omega) _ _ (.string (four bs k)) rfl rfl HKey.out (.lit (.int .i64 (k : Int))) [] (plainElem_int Try.underlying3 (WalkArith.wf_i64 (by omega))) ?_
        intro w2 hmp2 hgr2
        have HFin : Hid (Mets w w2 M vo2 vc2 (k + 1) bs ∧ ∃ D : DataW Unit, Latest bs (k + 1) D ∧ w2.ownsMap Try.prog 59 (plainElem Try.prog 3) M (k + 1) D) := by
          refine ⟨⟨own_kp HOw.out fun g e => hgr2.block g (own_lt HOw.out g e) (fun e2 => by injection e2 with e2; have := HNw.out g e; omega), HGw.out.trans (Keeps.ofGrown hgr2) (fun j hj e => by injection e with e; have := HMs.out; omega), HNw.out⟩, HNext.out w2 hmp2⟩
        clear hmp2 hgr2 e0 e1 e2 e3 HMp
        simp only [Act.put]
        have hMs := HMs.out
        subst hMs
        go_wp2_with fail
        go_roundw
        case rel => exact ⟨k + 1, vo2, vc2, by omega, by simp, rfl, HFin.out⟩
        case measure => simp [intOf]; omega
      | some p =>
        have hhas : Maps.has D (.string (four bs k)) = true := by rw [HL.out.has, hm]; rfl
        have hc0 : c0 = z := by
          have := HL.out.get _ p hm
          rw [this] at hat
          injection hat with e1
          injection e1 with e2 e3
          rw [hz, hmO, hm, ← e3]
          rfl
        rw [hhas, hc0]
        clear hat hwc hhas hmO hm hc0 hz
        go_wp2_with (at_builtin; refine Hid.out ?_)
        unfold Hid
        have hO1 : (W1.alloc (.cells #[.int .i64 z] 3)).ownsRow 0 3 1 (.slice vo k vc) k (metsL bs k) := own_kp HM.out.own fun g e => ((HG1.out.trans (gr_alloc W1 _) (fun _ _ h => h)).block g (own_lt HM.out.own g e) id)
        refine wpList_append_any _ rfl (.tmp 45) (.tmp 47) 50 50 rfl 3 (.int .i64 0) 8 Try.underlying50 info3 rfl _ k (metsL bs k) rfl hO1 _ 1 [.int .i64 z] rfl (src_i64 W1 z) (by omega) (by omega) ?_
        intro v' w1 hown2 hgrow hblk
        obtain ⟨vo2, vc2, rfl⟩ := own_form1 hown2
        have hka : Keeps W1 w1 (fun g => (Value.slice vo k vc).ownBlock = some g) := ((gr_alloc W1 (.cells #[.int .i64 z] 3)).mono fun _ _ f => f.elim).trans (Keeps.ofGrown hgrow) (fun _ _ e => e)
        have hMb : (Value.slice vo k vc).ownBlock ≠ some M := fun e => by have := HM.out.new M e; omega
        have hsz := HG1.out.size
        have hBn : (Value.slice vo k vc).ownBlock ≠ some B := fun e => by have := own_lt HM.out.own B e; have := HBs.out; omega
        have hmp : w1.ownsMap Try.prog 59 (plainElem Try.prog 3) M k D := (HOn.out.alloc _).kept hgrow (fun e => hMb e.symm)
        have hbx2 : w1.heap[B]? = some (.cells #[.int .u8 x0, .int .u8 x1, .int .u8 x2, .int .u8 x3] 59) := (hka.block B (lt_of_heap HBx.out) hBn).trans HBx.out
        have HGw : Hid (Gr w w1) := (HM.out.gr.trans HG1.out (fun _ _ h => h)).trans hka (fun j hj e => by have := HM.out.new j e; have := HMs.out; omega)
        have HNw : Hid (∀ g, (Value.slice vo2 (k + 1) vc2).ownBlock = some g → M < g) := fun g e => by
          rcases hblk with hb | hb
          · rw [hb] at e; exact HM.out.new g e
          · have := hb g e
            have h2 : W1.heap.size ≤ (W1.alloc (.cells #[.int .i64 z] 3)).heap.size := by simp
            have := HBs.out
            omega
        have HOw : Hid (w1.ownsRow 0 3 1 (.slice vo2 (k + 1) vc2) (k + 1) (metsL bs (k + 1))) := by rw [metsL_succ, ← HZ.out]; exact hown2
        have HMp := hidM hmp
        obtain ⟨e0, e1, e2, e3⟩ := ce4 hbx2
        clear hown2 hgrow hblk hka hmp hbx2 hO1 d0 d1 d2 d3 HG1 HOn HBx
        go_wp2_with (at_mapUpdate; refine Hid.out ?_)
        unfold Hid
        refine wpList_mapUpdate_own _ rfl (.tmp 49) (.tmp 50) (.tmp 51) 58 rfl 59 3 law65 Try.underlying58 _ M k D rfl HMp.out (by unfold maxLen; omega) _ _ (.string (four bs k)) rfl rfl HKey.out (.lit (.int .i64 (k : Int))) [] (plainElem_int Try.underlying3 (WalkArith.wf_i64 (by omega))) ?_
        intro w2 hmp2 hgr2
        have HFin : Hid (Mets w w2 M vo2 vc2 (k + 1) bs ∧ ∃ D : DataW Unit, Latest bs (k + 1) D ∧ w2.ownsMap Try.prog 59 (plainElem Try.prog 3) M (k + 1) D) := by
          refine ⟨⟨own_kp HOw.out fun g e => hgr2.block g (own_lt HOw.out g e) (fun e2 => by injection e2 with e2; have := HNw.out g e; omega), HGw.out.trans (Keeps.ofGrown hgr2) (fun j hj e => by injection e with e; have := HMs.out; omega), HNw.out⟩, HNext.out w2 hmp2⟩
        clear hmp2 hgr2 e0 e1 e2 e3 HMp
        simp only [Act.put]
        have hMs := HMs.out
        subst hMs
        go_wp2_with fail
        go_roundw
        case rel => exact ⟨k + 1, vo2, vc2, by omega, by simp, rfl, HFin.out⟩
        case measure => simp [intOf]; omega
    · have cI : ¬ (k : Int) + 4 ≤ (N : Int) := by omega
      have hkk : k = N - 3 := by omega
      have HE := hidM HR.out.1
      go_wp2_with fail
      go_ret
      subst hkk
      exact ⟨vo, vc, rfl, HE.out⟩

end Go.Proofs.Ytknjnclopiklaab.Kit
