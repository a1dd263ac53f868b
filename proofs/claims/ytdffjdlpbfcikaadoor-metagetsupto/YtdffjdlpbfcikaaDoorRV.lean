import Derived.Test.YtdffjdlpbfcikaaDoorRU
namespace Go.Proofs.YtdffjdlpbfcikaaDoor.Kit
open Go.RowKit Go.Shelf Go.Deep
set_option linter.unusedVariables false
attribute [local go_sem] run_store_func

/-! ### Get 6 -/
set_option maxRecDepth 100000 in
set_option maxHeartbeats 2000000 in
theorem get6 (bo : Option Addr) (B : List UInt8) (bc : Nat) (Y : HD → Bool) (W : World) (hby : BytesAt W bo B) (hf : SForm bo B.length bc) (hlen : B.length ≤ 1000000000000) (hlow : ∀ b o, bo = some ⟨b, o, none⟩ → b < W.heap.size)
    (hM : ∀ U V hd s v, headR B (0, 0) = .ok (hd, s) → Gr W U → Gr U V → HV9 U V hd v → Calls Tryd.prog 22 #[v] V fun e w' => e = .returned (.bool (Y hd)) ∧ Gr V w') :
    Calls Tryd.prog 6 #[.slice bo B.length bc] W (GetQ W (getR Y B)) := by
  obtain ⟨R, hRes⟩ : ∃ R, R = getR Y B := ⟨_, rfl⟩
  obtain ⟨m, hm⟩ : ∃ m, m = B.length := ⟨_, rfl⟩
  obtain ⟨b, hb⟩ : ∃ b, b = W.heap.size := ⟨_, rfl⟩
  obtain ⟨V, hV⟩ : ∃ V, (W.alloc (.cells #[.int .i64 0, .slice none 0 0, .slice none 0 0, .int .i64 0, .bool false, .int .i64 0, .int .i64 0, .slice none 0 0, .slice none 0 0] 30)).alloc (.cells #[.int .i64 0, .slice none 0 0, .int .i64 0] 34) = V := ⟨_, rfl⟩
  have s1 : (W.alloc (.cells #[.int .i64 0, .slice none 0 0, .slice none 0 0, .int .i64 0, .bool false, .int .i64 0, .int .i64 0, .slice none 0 0, .slice none 0 0] 30)).heap.size = b + 1 := by rw [hb]; simp
  have g1 := gr_alloc W (.cells #[.int .i64 0, .slice none 0 0, .slice none 0 0, .int .i64 0, .bool false, .int .i64 0, .int .i64 0, .slice none 0 0, .slice none 0 0] 30)
  have g2 := gr_alloc (W.alloc (.cells #[.int .i64 0, .slice none 0 0, .slice none 0 0, .int .i64 0, .bool false, .int .i64 0, .int .i64 0, .slice none 0 0, .slice none 0 0] 30)) (.cells #[.int .i64 0, .slice none 0 0, .int .i64 0] 34)
  have c1 := heap_alloc_new W (.cells #[.int .i64 0, .slice none 0 0, .slice none 0 0, .int .i64 0, .bool false, .int .i64 0, .int .i64 0, .slice none 0 0, .slice none 0 0] 30)
  have c2 := heap_alloc_new (W.alloc (.cells #[.int .i64 0, .slice none 0 0, .slice none 0 0, .int .i64 0, .bool false, .int .i64 0, .int .i64 0, .slice none 0 0, .slice none 0 0] 30)) (.cells #[.int .i64 0, .slice none 0 0, .int .i64 0] 34)
  rw [← hb] at c1
  rw [s1] at c2
  have g12 := g1.trans g2 (fun _ _ h => h)
  rw [hV] at g2 g12 c2
  have HR : Hid (∀ V1, Gr V V1 → Calls Tryd.prog 13 #[.agg #[.slice bo m bc, .int .i64 0, .pointer none]] V1 (GetQ V1 R)) := fun V1 gV => by
    have gW := g12.trans gV (fun _ _ h => h)
    rw [hRes, hm]
    exact read13 bo B bc Y V1 (hby.gr gW) hf hlen (fun c o e => Nat.lt_of_lt_of_le (hlow c o e) gW.size) fun U V' hd s v hr gU gV' hv => hM U V' hd s v hr (gW.trans gU (fun _ _ h => h)) gV' hv
  have HO : Hid (∀ X, Calls Tryd.prog 14 #[.slice bo m bc] X fun e w' => e = .returned (.agg #[.slice bo m bc, .int .i64 0, .pointer none]) ∧ Gr X w') := fun X => of_any bo m bc X
  have h9 := (g2.block b (lt_of_heap c1) id).trans c1
  have H93 := hidM (And.intro h9 c2)
  have HG : Hid (Gr W V) := g12
  have HV := hidM hV
  have Hb := hidM hb
  rw [← hRes, ← hm]
  clear hby hf hlen hlow hM hRes hm g1 g2 g12 c1 c2 s1 hV hb h9
  go_enter Tryd.func6, Tryd.ntmps6
  go_wp2_with (go_at_call 14; refine Hid.out ?_)
  unfold Hid
  rw [HV.out, ← Hb.out]
  clear HV
  refine Calls.mono (HO.out V) ?_
  rintro e V1 ⟨rfl, gV⟩
  have HK := hidM (HR.out V1 gV)
  have HgV := hidM gV
  clear gV HR HO
  go_wp2_with (go_at_call 13; refine Hid.out ?_)
  unfold Hid
  refine Calls.mono HK.out ?_
  have Hz : Hid (b + 1 < V1.heap.size) := Nat.lt_of_lt_of_le (lt_of_heap H93.out.2) HgV.out.size
  have Hz1 : Hid (W.heap.size ≤ V1.heap.size) := Nat.le_trans HG.out.size HgV.out.size
  rintro e X ⟨gX, hq⟩
  clear HK
  cases R with
  | ok hd =>
    obtain ⟨v, rfl, hv⟩ := hq
    have HQ := hidM hv
    obtain ⟨fo, fc, no, nc, vo, vc, uo, uc, e, -⟩ := hv
    subst e
    have gVX := HgV.out.trans gX (fun _ _ h => h)
    have hX9 := (gVX.block b (lt_of_heap H93.out.1) id).trans H93.out.1
    have hX3 := (gVX.block (b + 1) (lt_of_heap H93.out.2) id).trans H93.out.2
    have w0 : X.cell? ⟨b, 0, none⟩ = some (.int .i64 0) := by simp [World.cell?, hX9]
    have g0 := frz hX9 0
    have w1 : X.cell? ⟨b, 1, none⟩ = some (.slice none 0 0) := by simp [World.cell?, hX9]
    have g1 := frz hX9 1
    have w2 : X.cell? ⟨b, 2, none⟩ = some (.slice none 0 0) := by simp [World.cell?, hX9]
    have g2 := frz hX9 2
    have w3 : X.cell? ⟨b, 3, none⟩ = some (.int .i64 0) := by simp [World.cell?, hX9]
    have g3 := frz hX9 3
    have w4 : X.cell? ⟨b, 4, none⟩ = some (.bool false) := by simp [World.cell?, hX9]
    have g4 := frz hX9 4
    have w5 : X.cell? ⟨b, 5, none⟩ = some (.int .i64 0) := by simp [World.cell?, hX9]
    have g5 := frz hX9 5
    have w6 : X.cell? ⟨b, 6, none⟩ = some (.int .i64 0) := by simp [World.cell?, hX9]
    have g6 := frz hX9 6
    have w7 : X.cell? ⟨b, 7, none⟩ = some (.slice none 0 0) := by simp [World.cell?, hX9]
    have g7 := frz hX9 7
    have w8 : X.cell? ⟨b, 8, none⟩ = some (.slice none 0 0) := by simp [World.cell?, hX9]
    have g8 := frz hX9 8
    have r0 : X.cell? ⟨b + 1, 0, none⟩ = some (.int .i64 0) := by simp [World.cell?, hX3]
    have t0 := frz hX3 0
    have r1 : X.cell? ⟨b + 1, 1, none⟩ = some (.slice none 0 0) := by simp [World.cell?, hX3]
    have t1 := frz hX3 1
    have r2 : X.cell? ⟨b + 1, 2, none⟩ = some (.int .i64 0) := by simp [World.cell?, hX3]
    have t2 := frz hX3 2
    have E := fault_end (.int .i64 hd.kind) (.slice fo hd.fs.length fc) (.slice no hd.ns.length nc) (.int .i64 hd.id) (.bool hd.delta) (.int .i64 hd.rows) (.int .i64 hd.press) (.slice vo hd.nds.length vc) (.slice uo hd.sls.length uc) (.int .i64 0) (.slice none 0 0) (.int .i64 0) (by omega) hX9 hX3
    obtain ⟨U2, hU2⟩ : ∃ U2, ((((((((((((X.setCell ⟨b, 0, none⟩ (.int .i64 hd.kind)).setCell ⟨b, 1, none⟩ (.slice fo hd.fs.length fc)).setCell ⟨b, 2, none⟩ (.slice no hd.ns.length nc)).setCell ⟨b, 3, none⟩ (.int .i64 hd.id)).setCell ⟨b, 4, none⟩ (.bool hd.delta)).setCell ⟨b, 5, none⟩ (.int .i64 hd.rows)).setCell ⟨b, 6, none⟩ (.int .i64 hd.press)).setCell ⟨b, 7, none⟩ (.slice vo hd.nds.length vc)).setCell ⟨b, 8, none⟩ (.slice uo hd.sls.length uc)).setCell ⟨b + 1, 0, none⟩ (.int .i64 0)).setCell ⟨b + 1, 1, none⟩ (.slice none 0 0)).setCell ⟨b + 1, 2, none⟩ (.int .i64 0)) = U2 := ⟨_, rfl⟩
    rw [hU2] at E
    have HF := hidM E
    have HGX := hidM (HG.out.trans gVX (fun _ _ h => h))
    clear E gX gVX hX9 hX3
    go_wp2_with fail
    have gW : Gr W U2 := HGX.out.trans HF.out.2.2 fun j hj h => by have := Hb.out; omega
    exact bodyPost_ret (results_3034 (fn := Tryd.f6) rfl rfl rfl HF.out.1 HF.out.2.1 (by kernel_rfl) (by kernel_rfl)) rfl ⟨gW, _, rfl, (HQ.out.kp HF.out.2.2 fun z hz => by have := Hz.out; omega).low Hz1.out⟩
  | error er =>
    subst hq
    obtain ⟨e1, e2⟩ := er
    have gVX := HgV.out.trans gX (fun _ _ h => h)
    have hX9 := (gVX.block b (lt_of_heap H93.out.1) id).trans H93.out.1
    have hX3 := (gVX.block (b + 1) (lt_of_heap H93.out.2) id).trans H93.out.2
    have w0 : X.cell? ⟨b, 0, none⟩ = some (.int .i64 0) := by simp [World.cell?, hX9]
    have g0 := frz hX9 0
    have w1 : X.cell? ⟨b, 1, none⟩ = some (.slice none 0 0) := by simp [World.cell?, hX9]
    have g1 := frz hX9 1
    have w2 : X.cell? ⟨b, 2, none⟩ = some (.slice none 0 0) := by simp [World.cell?, hX9]
    have g2 := frz hX9 2
    have w3 : X.cell? ⟨b, 3, none⟩ = some (.int .i64 0) := by simp [World.cell?, hX9]
    have g3 := frz hX9 3
    have w4 : X.cell? ⟨b, 4, none⟩ = some (.bool false) := by simp [World.cell?, hX9]
    have g4 := frz hX9 4
    have w5 : X.cell? ⟨b, 5, none⟩ = some (.int .i64 0) := by simp [World.cell?, hX9]
    have g5 := frz hX9 5
    have w6 : X.cell? ⟨b, 6, none⟩ = some (.int .i64 0) := by simp [World.cell?, hX9]
    have g6 := frz hX9 6
    have w7 : X.cell? ⟨b, 7, none⟩ = some (.slice none 0 0) := by simp [World.cell?, hX9]
    have g7 := frz hX9 7
    have w8 : X.cell? ⟨b, 8, none⟩ = some (.slice none 0 0) := by simp [World.cell?, hX9]
    have g8 := frz hX9 8
    have r0 : X.cell? ⟨b + 1, 0, none⟩ = some (.int .i64 0) := by simp [World.cell?, hX3]
    have t0 := frz hX3 0
    have r1 : X.cell? ⟨b + 1, 1, none⟩ = some (.slice none 0 0) := by simp [World.cell?, hX3]
    have t1 := frz hX3 1
    have r2 : X.cell? ⟨b + 1, 2, none⟩ = some (.int .i64 0) := by simp [World.cell?, hX3]
    have t2 := frz hX3 2
    have E := fault_end (.int .i64 0) (.slice none 0 0) (.slice none 0 0) (.int .i64 0) (.bool false) (.int .i64 0) (.int .i64 0) (.slice none 0 0) (.slice none 0 0) (.int .i64 e1) (.slice none 0 0) (.int .i64 (e2 : Int)) (by omega) hX9 hX3
    obtain ⟨U2, hU2⟩ : ∃ U2, ((((((((((((X.setCell ⟨b, 0, none⟩ (.int .i64 0)).setCell ⟨b, 1, none⟩ (.slice none 0 0)).setCell ⟨b, 2, none⟩ (.slice none 0 0)).setCell ⟨b, 3, none⟩ (.int .i64 0)).setCell ⟨b, 4, none⟩ (.bool false)).setCell ⟨b, 5, none⟩ (.int .i64 0)).setCell ⟨b, 6, none⟩ (.int .i64 0)).setCell ⟨b, 7, none⟩ (.slice none 0 0)).setCell ⟨b, 8, none⟩ (.slice none 0 0)).setCell ⟨b + 1, 0, none⟩ (.int .i64 e1)).setCell ⟨b + 1, 1, none⟩ (.slice none 0 0)).setCell ⟨b + 1, 2, none⟩ (.int .i64 (e2 : Int))) = U2 := ⟨_, rfl⟩
    rw [hU2] at E
    have HF := hidM E
    have HGX := hidM (HG.out.trans gVX (fun _ _ h => h))
    clear E gX gVX hX9 hX3
    go_wp2_with fail
    have gW : Gr W U2 := HGX.out.trans HF.out.2.2 fun j hj h => by have := Hb.out; omega
    exact bodyPost_ret (results_3034 (fn := Tryd.f6) rfl rfl rfl HF.out.1 HF.out.2.1 (by kernel_rfl) (by kernel_rfl)) rfl ⟨gW, rfl⟩
end Go.Proofs.YtdffjdlpbfcikaaDoor.Kit
