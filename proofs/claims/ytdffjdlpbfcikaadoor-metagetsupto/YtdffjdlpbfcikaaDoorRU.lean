import Derived.Test.YtdffjdlpbfcikaaDoorRT
import Derived.Test.YtdffjdlpbfcikaaDoorRS
namespace Go.Proofs.YtdffjdlpbfcikaaDoor.Kit
open Go.RowKit Go.Shelf Go.Deep
set_option linter.unusedVariables false
attribute [local go_sem] run_store_func

/-! ### read 13 -/
/-- what Get answers -/
def GetQ (W : World) (r : Except (Int × Nat) HD) (e : Ending) (w' : World) : Prop :=
  Gr W w' ∧ match r with
  | .ok hd => ∃ v, e = .returned (.tuple #[v, .agg #[.int .i64 0, .slice none 0 0, .int .i64 0]]) ∧ HV9 W w' hd v
  | .error er => e = .returned (.tuple #[.agg #[.int .i64 0, .slice none 0 0, .slice none 0 0, .int .i64 0, .bool false, .int .i64 0, .int .i64 0, .slice none 0 0, .slice none 0 0], .agg #[.int .i64 er.1, .slice none 0 0, .int .i64 (er.2 : Int)]])
theorem results_3034 {fn : Func} {t u : Tmp} {tmps : Array Value} {g k : Nat} {cs ds : Array Value} {w : World} (h : fn.results = #[.cell t 30, .cell u 34]) (ht : tmps.getD t undef = .pointer (some ⟨g, 0, none⟩)) (hu : tmps.getD u undef = .pointer (some ⟨k, 0, none⟩)) (hg : w.heap[g]? = some (.cells cs 30 (0, 0))) (hk : w.heap[k]? = some (.cells ds 34 (0, 0))) (hi : (Tryd.prog.info? 30).map (·.size) = some cs.size) (hj : (Tryd.prog.info? 34).map (·.size) = some ds.size) :
    (results fn tmps).run Tryd.prog w = .ok (.tuple #[.agg cs, .agg ds]) w := by
  have hl := run_loadVar_row (P := Tryd.prog) w g 30 30 cs (0, 0) _ hg Tryd.underlying30 rfl hi
  have hl' := run_loadVar_row (P := Tryd.prog) w k 34 34 ds (0, 0) _ hk Tryd.underlying34 rfl hj
  unfold results
  rw [h]
  simp only [Array.mapM_eq_mapM_toList, List.mapM_cons, List.mapM_nil, ht, hu]
  simp [asAddr, hl, hl']
structure RB4 (W U : World) (b : Nat) (bo : Option Addr) (m bc : Nat) (y0 y1 y2 y3 y4 y5 y6 y7 y8 : Value) : Prop where
  vb : U.heap[b]? = some (.cells #[.slice bo m bc, .int .i64 0, .pointer none] 48 (0, 0))
  hb : U.heap[b + 1]? = some (.cells #[y0, y1, y2, y3, y4, y5, y6, y7, y8] 30 (0, 0))
  xb : U.heap[b + 1 + 1]? = some (.cells #[.int .i64 0, .slice none 0 0, .int .i64 0] 34 (0, 0))
  eq : b = W.heap.size
theorem RB4.kp {W U U' : World} {b : Nat} {bo : Option Addr} {m bc : Nat} {y0 y1 y2 y3 y4 y5 y6 y7 y8 : Value} (h : RB4 W U b bo m bc y0 y1 y2 y3 y4 y5 y6 y7 y8) (q : Keeps U U' (fun z => z = b + 1 + 1 + 1)) : RB4 W U' b bo m bc y0 y1 y2 y3 y4 y5 y6 y7 y8 :=
  ⟨(q.block b (lt_of_heap h.vb) (by omega)).trans h.vb, (q.block (b + 1) (lt_of_heap h.hb) (by omega)).trans h.hb, (q.block (b + 1 + 1) (lt_of_heap h.xb) (by omega)).trans h.xb, h.eq⟩
theorem RB4.gr {W U U' : World} {b : Nat} {bo : Option Addr} {m bc : Nat} {y0 y1 y2 y3 y4 y5 y6 y7 y8 : Value} (h : RB4 W U b bo m bc y0 y1 y2 y3 y4 y5 y6 y7 y8) (q : Gr U U') : RB4 W U' b bo m bc y0 y1 y2 y3 y4 y5 y6 y7 y8 := h.kp (q.mono fun _ _ h => h.elim)
/-- the end where something is wrong -/
theorem read_wrong {W U : World} {b : Nat} {bo : Option Addr} {m bc : Nat} {y0 y1 y2 y3 y4 y5 y6 y7 y8 : Value} {tmps : Array Value} {R : Except (Int × Nat) HD} {er : Int × Nat} (hB : RB4 W U b bo m bc y0 y1 y2 y3 y4 y5 y6 y7 y8) (hg : Gr W U) (h2 : tmps.getD 2 undef = .pointer (some ⟨b + 1, 0, none⟩)) (h3 : tmps.getD 3 undef = .pointer (some ⟨b + 1 + 1, 0, none⟩)) (hR : R = .error er) :
    Leaves Tryd.prog Tryd.f13 tmps (GetQ W R) [{ target := .fn (.func 26) #[.pointer (some ⟨b + 1, 0, none⟩), .pointer (some ⟨b + 1 + 1, 0, none⟩)], args := #[] }] (.panicking [{ v := flt er, recovered := false }]) U := by
  refine leaves_cons (f := 26) (args := #[.pointer (some ⟨b + 1, 0, none⟩), .pointer (some ⟨b + 1 + 1, 0, none⟩)]) (by simp) (by simp [go_sem]) ?_
  refine (catch_fault (b + 1) (b + 1 + 1) er [] U _ _ _ _ _ _ _ _ _ _ _ _ (by omega) hB.hb hB.xb).mono ?_
  rintro e u' w' ⟨rfl, rfl, q9, q3, k⟩
  refine ⟨_, results_3034 rfl h2 h3 q9 q3 (by kernel_rfl) (by kernel_rfl), ?_⟩
  rw [hR]
  exact ⟨(hg.trans k fun j hj h => by have := hB.eq; omega), rfl⟩
theorem HV9.kp {W w' w2 : World} {hd : HD} {v : Value} {S : Nat → Prop} (h : HV9 W w' hd v) (k : Keeps w' w2 S) (hS : ∀ z, S z → z < W.heap.size) : HV9 W w2 hd v := by
  obtain ⟨fo, fc, no, nc, vo, vc, uo, uc, e, hcap, hrow, hns, hnd, hsl⟩ := h
  refine ⟨fo, fc, no, nc, vo, vc, uo, uc, e, hcap, (hrow.kept fun z hz => k.block z hz.2 (fun h => by have := hS z h; omega)).mono fun z hz => ⟨hz.1, Nat.lt_of_lt_of_le hz.2 k.size⟩, ?_, ?_, ?_⟩
  · exact ⟨row_kp hns.own fun g e => k.block g (own_lt hns.own g e) (fun h => by have := hS g h; have := hns.new g e; omega), hns.new⟩
  · exact ⟨row_kp hnd.own fun g e => k.block g (own_lt hnd.own g e) (fun h => by have := hS g h; have := hnd.new g e; omega), hnd.new⟩
  · exact ⟨row_kp hsl.own fun g e => k.block g (own_lt hsl.own g e) (fun h => by have := hS g h; have := hsl.new g e; omega), hsl.new⟩
theorem HV9.gr {W w' w2 : World} {hd : HD} {v : Value} (h : HV9 W w' hd v) (k : Gr w' w2) : HV9 W w2 hd v := h.kp k fun _ h => h.elim
theorem HV9.low {W V w' : World} {hd : HD} {v : Value} (h : HV9 V w' hd v) (k : W.heap.size ≤ V.heap.size) : HV9 W w' hd v := by
  obtain ⟨fo, fc, no, nc, vo, vc, uo, uc, e, hcap, hrow, hns, hnd, hsl⟩ := h
  exact ⟨fo, fc, no, nc, vo, vc, uo, uc, e, hcap, hrow.mono fun z hz => ⟨Nat.le_trans k hz.1, hz.2⟩, ⟨hns.own, fun g e => Nat.le_trans k (hns.new g e)⟩, ⟨hnd.own, fun g e => Nat.le_trans k (hnd.new g e)⟩, ⟨hsl.own, fun g e => Nat.le_trans k (hsl.new g e)⟩⟩
theorem r4_mk {U1 : World} {b p : Nat} {x0 x1 x2 x4 : Value} {bo : Option Addr} {m bc a1 : Nat} (hx : U1.heap[p]? = some (.cells #[x0, x1, x2, .int .i64 (a1 : Int), x4] 74 (0, 0))) (hv : U1.heap[b]? = some (.cells #[.slice bo m bc, .int .i64 0, .pointer none] 48 (0, 0))) : U1.drew.cell? ⟨p, 3, none⟩ = some (.int .i64 (a1 : Int)) ∧ U1.drew.cell? ⟨b, 0, none⟩ = some (.slice bo m bc) ∧ U1.drew.cell? ⟨b, 1, none⟩ = some (.int .i64 0) ∧ U1.drew.cell? ⟨b, 2, none⟩ = some (.pointer none) :=
  (by simp [World.cell?, hx, hv] : U1.cell? _ = _ ∧ U1.cell? _ = _ ∧ U1.cell? _ = _ ∧ U1.cell? _ = _)
theorem r4v_gr {W W' : World} {p b : Nat} {v0 v1 v2 v3 : Value} (g : Gr W W') (h : W.cell? ⟨p, 3, none⟩ = some v3 ∧ W.cell? ⟨b, 0, none⟩ = some v0 ∧ W.cell? ⟨b, 1, none⟩ = some v1 ∧ W.cell? ⟨b, 2, none⟩ = some v2) : W'.cell? ⟨p, 3, none⟩ = some v3 ∧ W'.cell? ⟨b, 0, none⟩ = some v0 ∧ W'.cell? ⟨b, 1, none⟩ = some v1 ∧ W'.cell? ⟨b, 2, none⟩ = some v2 := ⟨g.cell' h.1 id, g.cell' h.2.1 id, g.cell' h.2.2.1 id, g.cell' h.2.2.2 id⟩
set_option maxRecDepth 100000 in
set_option maxHeartbeats 2000000 in
theorem read13 (bo : Option Addr) (B : List UInt8) (bc : Nat) (Y : HD → Bool) (W : World) (hby : BytesAt W bo B) (hf : SForm bo B.length bc) (hlen : B.length ≤ 1000000000000) (hlow : ∀ b o, bo = some ⟨b, o, none⟩ → b < W.heap.size)
    (hM : ∀ U V hd s v, headR B (0, 0) = .ok (hd, s) → Gr W U → Gr U V → HV9 U V hd v → Calls Tryd.prog 22 #[v] V fun e w' => e = .returned (.bool (Y hd)) ∧ Gr V w') :
    Calls Tryd.prog 13 #[.agg #[.slice bo B.length bc, .int .i64 0, .pointer none]] W (GetQ W (getR Y B)) := by
  have hmf : ∀ (fn : Fn) (first cap : Array Value) (w : World), (Instr.makeFunc fn first cap).run Tryd.prog w = .ok (.func fn first cap) w := fun _ _ _ _ => rfl
  have HM := hidM hM
  obtain ⟨R, hRes⟩ : ∃ R, R = getR Y B := ⟨_, rfl⟩
  rw [← hRes]
  have HRes := hidM hRes
  obtain ⟨m, hm⟩ : ∃ m, m = B.length := ⟨_, rfl⟩
  obtain ⟨b, hb⟩ : ∃ b, b = W.heap.size := ⟨_, rfl⟩
  obtain ⟨V, hV⟩ : ∃ V, (((W.alloc (.cells #[.slice bo m bc, .int .i64 0, .pointer none] 48)).alloc (.cells #[.int .i64 0, .slice none 0 0, .slice none 0 0, .int .i64 0, .bool false, .int .i64 0, .int .i64 0, .slice none 0 0, .slice none 0 0] 30)).alloc (.cells #[.int .i64 0, .slice none 0 0, .int .i64 0] 34)).alloc (.cells #[.slice bo m bc, .int .i64 0, .pointer none, .int .i64 0, .int .i64 0] 74) = V := ⟨_, rfl⟩
  have s1 : (W.alloc (.cells #[.slice bo m bc, .int .i64 0, .pointer none] 48)).heap.size = b + 1 := by rw [hb]; simp
  have s2 : ((W.alloc (.cells #[.slice bo m bc, .int .i64 0, .pointer none] 48)).alloc (.cells #[.int .i64 0, .slice none 0 0, .slice none 0 0, .int .i64 0, .bool false, .int .i64 0, .int .i64 0, .slice none 0 0, .slice none 0 0] 30)).heap.size = b + 1 + 1 := by rw [hb]; simp
  have s3 : (((W.alloc (.cells #[.slice bo m bc, .int .i64 0, .pointer none] 48)).alloc (.cells #[.int .i64 0, .slice none 0 0, .slice none 0 0, .int .i64 0, .bool false, .int .i64 0, .int .i64 0, .slice none 0 0, .slice none 0 0] 30)).alloc (.cells #[.int .i64 0, .slice none 0 0, .int .i64 0] 34)).heap.size = b + 1 + 1 + 1 := by rw [hb]; simp
  have g1 := gr_alloc W (.cells #[.slice bo m bc, .int .i64 0, .pointer none] 48)
  have g2 := gr_alloc (W.alloc (.cells #[.slice bo m bc, .int .i64 0, .pointer none] 48)) (.cells #[.int .i64 0, .slice none 0 0, .slice none 0 0, .int .i64 0, .bool false, .int .i64 0, .int .i64 0, .slice none 0 0, .slice none 0 0] 30)
  have g3 := gr_alloc ((W.alloc (.cells #[.slice bo m bc, .int .i64 0, .pointer none] 48)).alloc (.cells #[.int .i64 0, .slice none 0 0, .slice none 0 0, .int .i64 0, .bool false, .int .i64 0, .int .i64 0, .slice none 0 0, .slice none 0 0] 30)) (.cells #[.int .i64 0, .slice none 0 0, .int .i64 0] 34)
  have g4 := gr_alloc (((W.alloc (.cells #[.slice bo m bc, .int .i64 0, .pointer none] 48)).alloc (.cells #[.int .i64 0, .slice none 0 0, .slice none 0 0, .int .i64 0, .bool false, .int .i64 0, .int .i64 0, .slice none 0 0, .slice none 0 0] 30)).alloc (.cells #[.int .i64 0, .slice none 0 0, .int .i64 0] 34)) (.cells #[.slice bo m bc, .int .i64 0, .pointer none, .int .i64 0, .int .i64 0] 74)
  have c1 := heap_alloc_new W (.cells #[.slice bo m bc, .int .i64 0, .pointer none] 48)
  have c2 := heap_alloc_new (W.alloc (.cells #[.slice bo m bc, .int .i64 0, .pointer none] 48)) (.cells #[.int .i64 0, .slice none 0 0, .slice none 0 0, .int .i64 0, .bool false, .int .i64 0, .int .i64 0, .slice none 0 0, .slice none 0 0] 30)
  have c3 := heap_alloc_new ((W.alloc (.cells #[.slice bo m bc, .int .i64 0, .pointer none] 48)).alloc (.cells #[.int .i64 0, .slice none 0 0, .slice none 0 0, .int .i64 0, .bool false, .int .i64 0, .int .i64 0, .slice none 0 0, .slice none 0 0] 30)) (.cells #[.int .i64 0, .slice none 0 0, .int .i64 0] 34)
  have c4 := heap_alloc_new (((W.alloc (.cells #[.slice bo m bc, .int .i64 0, .pointer none] 48)).alloc (.cells #[.int .i64 0, .slice none 0 0, .slice none 0 0, .int .i64 0, .bool false, .int .i64 0, .int .i64 0, .slice none 0 0, .slice none 0 0] 30)).alloc (.cells #[.int .i64 0, .slice none 0 0, .int .i64 0] 34)) (.cells #[.slice bo m bc, .int .i64 0, .pointer none, .int .i64 0, .int .i64 0] 74)
  rw [← hb] at c1
  rw [s1] at c2
  rw [s2] at c3
  rw [s3] at c4
  have g34 := g3.trans g4 (fun _ _ h => h)
  have g24 := g2.trans g34 (fun _ _ h => h)
  have g14 := g1.trans g24 (fun _ _ h => h)
  rw [hV] at g4 g34 g24 g14 c4
  have HG : Hid (Gr W V) := g14
  have HB : Hid (RB4 W V b bo m bc (.int .i64 0) (.slice none 0 0) (.slice none 0 0) (.int .i64 0) (.bool false) (.int .i64 0) (.int .i64 0) (.slice none 0 0) (.slice none 0 0)) := ⟨(g24.block b (lt_of_heap c1) id).trans c1, (g34.block (b + 1) (lt_of_heap c2) id).trans c2, (g4.block (b + 1 + 1) (lt_of_heap c3) id).trans c3, hb⟩
  have HR : Hid (RAt V (b + 1 + 1 + 1) bo B bc 0 0) := ⟨by rw [← hm]; exact c4, hby.gr g14, hf, fun c o e => by have := hlow c o e; omega, hlen, Nat.zero_le _, Nat.zero_le _⟩
  have HV := hidM hV
  have Hb := hidM hb
  have Hm := hidM hm
  rw [← hm]
  clear hby hf hlen hlow hM hRes hm g1 g2 g3 g4 g34 g24 g14 c1 c2 c3 c4 s1 s2 s3 hV hb
  go_enter_defers Tryd.func13, Tryd.ntmps13
  go_wp2_with (go_at_call 27; refine Hid.out ?_)
  unfold Hid
  rw [HV.out, ← Hb.out]
  clear HV
  have hq := head27 (b + 1 + 1 + 1) bo B bc V 0 0 HR.out
  cases hr : headR B (0, 0) with
  | error er =>
    rw [hr] at hq
    refine Calls.mono hq ?_
    rintro e' U ⟨hk, rfl⟩
    have HB1 := hidM (HB.out.kp hk)
    have HG1 : Hid (Gr W U) := HG.out.trans hk fun j hj h => by have := Hb.out; omega
    have HE : Hid (R = .error er) := by show R = _; rw [HRes.out]; unfold getR; rw [hr]
    clear hk hq hr HR HB HM
    go_wp2_with fail
    exact read_wrong HB1.out HG1.out rfl rfl HE.out
  | ok q =>
    obtain ⟨hd, a1, n1⟩ := q
    rw [hr] at hq
    refine Calls.mono hq ?_
    rintro e' U ⟨hk, v, rfl, hv, hR⟩
    obtain ⟨fo, fc, no, nc, vo, vc, uo, uc, rfl, hcap, hrow, hns, hnd, hsl⟩ := hv
    have hvv : HV9 V U hd (.agg #[.int .i64 hd.kind, .slice fo hd.fs.length fc, .slice no hd.ns.length nc, .int .i64 hd.id, .bool hd.delta, .int .i64 hd.rows, .int .i64 hd.press, .slice vo hd.nds.length vc, .slice uo hd.sls.length uc]) := ⟨fo, fc, no, nc, vo, vc, uo, uc, rfl, hcap, hrow, hns, hnd, hsl⟩
    have hB1 := HB.out.kp hk
    have k9 := put9_keeps U (b + 1) (.int .i64 hd.kind) (.slice fo hd.fs.length fc) (.slice no hd.ns.length nc) (.int .i64 hd.id) (.bool hd.delta) (.int .i64 hd.rows) (.int .i64 hd.press) (.slice vo hd.nds.length vc) (.slice uo hd.sls.length uc)
    have q9 := put9_box (.int .i64 hd.kind) (.slice fo hd.fs.length fc) (.slice no hd.ns.length nc) (.int .i64 hd.id) (.bool hd.delta) (.int .i64 hd.rows) (.int .i64 hd.press) (.slice vo hd.nds.length vc) (.slice uo hd.sls.length uc) hB1.hb
    obtain ⟨U1, hU1⟩ : ∃ U1, (((((((((U.setCell ⟨b + 1, 0, none⟩ (.int .i64 hd.kind)).setCell ⟨b + 1, 1, none⟩ (.slice fo hd.fs.length fc)).setCell ⟨b + 1, 2, none⟩ (.slice no hd.ns.length nc)).setCell ⟨b + 1, 3, none⟩ (.int .i64 hd.id)).setCell ⟨b + 1, 4, none⟩ (.bool hd.delta)).setCell ⟨b + 1, 5, none⟩ (.int .i64 hd.rows)).setCell ⟨b + 1, 6, none⟩ (.int .i64 hd.press)).setCell ⟨b + 1, 7, none⟩ (.slice vo hd.nds.length vc)).setCell ⟨b + 1, 8, none⟩ (.slice uo hd.sls.length uc)) = U1 := ⟨_, rfl⟩
    rw [hU1] at k9 q9
    have HB2 : Hid (RB4 W U1 b bo m bc (.int .i64 hd.kind) (.slice fo hd.fs.length fc) (.slice no hd.ns.length nc) (.int .i64 hd.id) (.bool hd.delta) (.int .i64 hd.rows) (.int .i64 hd.press) (.slice vo hd.nds.length vc) (.slice uo hd.sls.length uc)) := ⟨(k9.block b (lt_of_heap hB1.vb) (by omega)).trans hB1.vb, q9, (k9.block (b + 1 + 1) (lt_of_heap hB1.xb) (by omega)).trans hB1.xb, hB1.eq⟩
    have hx := (k9.block (b + 1 + 1 + 1) (lt_of_heap hR.box) (by omega)).trans hR.box
    have HX := hidM hx
    have HG2 : Hid (Gr W U1) := (HG.out.trans hk fun j hj h => by have := Hb.out; omega).trans k9 fun j hj h => by have := Hb.out; omega
    have HV2 : Hid (HV9 V U1 hd (.agg #[.int .i64 hd.kind, .slice fo hd.fs.length fc, .slice no hd.ns.length nc, .int .i64 hd.id, .bool hd.delta, .int .i64 hd.rows, .int .i64 hd.press, .slice vo hd.nds.length vc, .slice uo hd.sls.length uc])) := hvv.kp k9 fun z hz => by rw [hz]; exact lt_of_heap HB.out.hb
    have Hr := hidM hr
    have HVs : Hid (W.heap.size ≤ V.heap.size) := HG.out.size
    have HVz : Hid (b + 1 + 1 < V.heap.size) := lt_of_heap HB.out.xb
    have z0 : U.cell? ⟨b + 1, 0, none⟩ = some (.int .i64 0) := by simp [World.cell?, hB1.hb]
    have f0 := frz hB1.hb 0
    have z1 : U.cell? ⟨b + 1, 1, none⟩ = some (.slice none 0 0) := by simp [World.cell?, hB1.hb]
    have f1 := frz hB1.hb 1
    have z2 : U.cell? ⟨b + 1, 2, none⟩ = some (.slice none 0 0) := by simp [World.cell?, hB1.hb]
    have f2 := frz hB1.hb 2
    have z3 : U.cell? ⟨b + 1, 3, none⟩ = some (.int .i64 0) := by simp [World.cell?, hB1.hb]
    have f3 := frz hB1.hb 3
    have z4 : U.cell? ⟨b + 1, 4, none⟩ = some (.bool false) := by simp [World.cell?, hB1.hb]
    have f4 := frz hB1.hb 4
    have z5 : U.cell? ⟨b + 1, 5, none⟩ = some (.int .i64 0) := by simp [World.cell?, hB1.hb]
    have f5 := frz hB1.hb 5
    have z6 : U.cell? ⟨b + 1, 6, none⟩ = some (.int .i64 0) := by simp [World.cell?, hB1.hb]
    have f6 := frz hB1.hb 6
    have z7 : U.cell? ⟨b + 1, 7, none⟩ = some (.slice none 0 0) := by simp [World.cell?, hB1.hb]
    have f7 := frz hB1.hb 7
    have z8 : U.cell? ⟨b + 1, 8, none⟩ = some (.slice none 0 0) := by simp [World.cell?, hB1.hb]
    have f8 := frz hB1.hb 8
    have HQd : Hid (Gr U1 U1.drew) := (Keeps.refl U1 (fun _ => False)).drew
    have HL : Hid (∀ X, Calls Tryd.prog 28 #[.agg #[.slice bo m bc, .int .i64 0, .pointer none]] X fun e w' => e = .returned (.int .i64 m) ∧ Gr X w') := fun X => vlen_any bo m bc 0 none X
    have HC : Hid (U1.drew.cell? ⟨b + 1 + 1 + 1, 3, none⟩ = some (.int .i64 (a1 : Int)) ∧ U1.drew.cell? ⟨b, 0, none⟩ = some (.slice bo m bc) ∧ U1.drew.cell? ⟨b, 1, none⟩ = some (.int .i64 0) ∧ U1.drew.cell? ⟨b, 2, none⟩ = some (.pointer none)) := r4_mk hx HB2.out.vb
    clear hk hq hr hR hvv hB1 k9 q9 hx hcap hrow hns hnd hsl HR HB
    go_wp2
    clear hU1
    go_region_held3 (fun w' => w'.cell? ⟨b + 1 + 1 + 1, 3, none⟩ = some (.int .i64 (a1 : Int)) ∧ w'.cell? ⟨b, 0, none⟩ = some (.slice bo m bc) ∧ w'.cell? ⟨b, 1, none⟩ = some (.int .i64 0) ∧ w'.cell? ⟨b, 2, none⟩ = some (.pointer none)) (first | with_reducible exact HC.out | with_reducible exact r4v_gr HE1.out HC.out) (first | (go_at_call 28; refine Calls.mono (HL.out _) ?_; rintro e u1 ⟨rfl, hg2⟩; have HE1 := hidM hg2; clear hg2))
    have g1 := HQd.out.trans HE1.out (fun _ _ h => h)
    have hb3 := HB2.out.gr g1
    have HB3 := hidM hb3
    have HG3 : Hid (Gr W u1) := HG2.out.trans g1 fun _ _ h => h
    have HV3 := hidM (HV2.out.gr g1)
    have hx3 := (g1.block (b + 1 + 1 + 1) (lt_of_heap HX.out) id).trans HX.out
    have x3 : u1.cell? ⟨b + 1 + 1 + 1, 3, none⟩ = some (.int .i64 (a1 : Int)) := by simp [World.cell?, hx3]
    clear g1 HC HE1 HQd HB2 HG2 HV2 HX hx3 HL
    by_cases hlt : a1 < B.length
    · have HE : Hid (R = .error (52, a1)) := by show R = _; rw [HRes.out]; unfold getR; rw [Hr.out]; dsimp only; rw [if_pos hlt]
      have hlt' : (a1 : Int) < (m : Int) := by rw [Hm.out]; omega
      clear hb3 hlt HM
      go_wp2_with (go_at_call 29; refine Hid.out ?_)
      unfold Hid
      refine Calls.mono (giveUp_any 52 a1 _) ?_
      rintro e W2 ⟨rfl, rfl⟩
      go_wp2_with fail
      exact read_wrong HB3.out HG3.out rfl rfl HE.out
    · have hlt' : ¬ (a1 : Int) < (m : Int) := by rw [Hm.out]; omega
      have y0 : u1.cell? ⟨b + 1, 0, none⟩ = some (.int .i64 hd.kind) := by simp [World.cell?, hb3.hb]
      have y1 : u1.cell? ⟨b + 1, 1, none⟩ = some (.slice fo hd.fs.length fc) := by simp [World.cell?, hb3.hb]
      have y2 : u1.cell? ⟨b + 1, 2, none⟩ = some (.slice no hd.ns.length nc) := by simp [World.cell?, hb3.hb]
      have y3 : u1.cell? ⟨b + 1, 3, none⟩ = some (.int .i64 hd.id) := by simp [World.cell?, hb3.hb]
      have y4 : u1.cell? ⟨b + 1, 4, none⟩ = some (.bool hd.delta) := by simp [World.cell?, hb3.hb]
      have y5 : u1.cell? ⟨b + 1, 5, none⟩ = some (.int .i64 hd.rows) := by simp [World.cell?, hb3.hb]
      have y6 : u1.cell? ⟨b + 1, 6, none⟩ = some (.int .i64 hd.press) := by simp [World.cell?, hb3.hb]
      have y7 : u1.cell? ⟨b + 1, 7, none⟩ = some (.slice vo hd.nds.length vc) := by simp [World.cell?, hb3.hb]
      have y8 : u1.cell? ⟨b + 1, 8, none⟩ = some (.slice uo hd.sls.length uc) := by simp [World.cell?, hb3.hb]
      have HK : Hid (Calls Tryd.prog 22 #[.agg #[.int .i64 hd.kind, .slice fo hd.fs.length fc, .slice no hd.ns.length nc, .int .i64 hd.id, .bool hd.delta, .int .i64 hd.rows, .int .i64 hd.press, .slice vo hd.nds.length vc, .slice uo hd.sls.length uc]] u1 fun e w' => e = .returned (.bool (Y hd)) ∧ Gr u1 w') := HM.out W u1 hd (a1, n1) _ Hr.out (Keeps.refl W _) HG3.out (HV3.out.low HVs.out)
      have Hlt := hidM hlt
      clear hb3 hlt HM x3
      go_wp2_with (go_at_call 22; refine Hid.out ?_)
      unfold Hid
      refine Calls.mono HK.out ?_
      rintro e X ⟨rfl, gX⟩
      have HB4 := hidM (HB3.out.gr gX)
      have HG4 : Hid (Gr W X) := HG3.out.trans gX fun _ _ h => h
      have HV4 := hidM (HV3.out.gr gX)
      clear gX HB3 HG3 HV3 HK y0 y1 y2 y3 y4 y5 y6 y7 y8
      cases hY : Y hd with
      | false =>
        have HE : Hid (R = .error (50, 0)) := by show R = _; rw [HRes.out]; unfold getR; rw [Hr.out]; dsimp only; rw [if_neg Hlt.out, if_pos hY]
        clear hY
        go_wp2_with (go_at_call 29; refine Hid.out ?_)
        unfold Hid
        refine Calls.mono (giveUp_any 50 0 _) ?_
        rintro e W2 ⟨rfl, rfl⟩
        go_wp2_with fail
        exact read_wrong HB4.out HG4.out rfl rfl HE.out
      | true =>
        have HE : Hid (R = .ok hd) := by show R = _; rw [HRes.out]; unfold getR; rw [Hr.out]; dsimp only; rw [if_neg Hlt.out, if_neg (by rw [hY]; decide)]
        clear hY
        have hb4 := HB4.out
        have w0 : X.cell? ⟨b + 1, 0, none⟩ = some (.int .i64 hd.kind) := by simp [World.cell?, hb4.hb]
        have g0 := frz hb4.hb 0
        have w1 : X.cell? ⟨b + 1, 1, none⟩ = some (.slice fo hd.fs.length fc) := by simp [World.cell?, hb4.hb]
        have g1 := frz hb4.hb 1
        have w2 : X.cell? ⟨b + 1, 2, none⟩ = some (.slice no hd.ns.length nc) := by simp [World.cell?, hb4.hb]
        have g2 := frz hb4.hb 2
        have w3 : X.cell? ⟨b + 1, 3, none⟩ = some (.int .i64 hd.id) := by simp [World.cell?, hb4.hb]
        have g3 := frz hb4.hb 3
        have w4 : X.cell? ⟨b + 1, 4, none⟩ = some (.bool hd.delta) := by simp [World.cell?, hb4.hb]
        have g4 := frz hb4.hb 4
        have w5 : X.cell? ⟨b + 1, 5, none⟩ = some (.int .i64 hd.rows) := by simp [World.cell?, hb4.hb]
        have g5 := frz hb4.hb 5
        have w6 : X.cell? ⟨b + 1, 6, none⟩ = some (.int .i64 hd.press) := by simp [World.cell?, hb4.hb]
        have g6 := frz hb4.hb 6
        have w7 : X.cell? ⟨b + 1, 7, none⟩ = some (.slice vo hd.nds.length vc) := by simp [World.cell?, hb4.hb]
        have g7 := frz hb4.hb 7
        have w8 : X.cell? ⟨b + 1, 8, none⟩ = some (.slice uo hd.sls.length uc) := by simp [World.cell?, hb4.hb]
        have g8 := frz hb4.hb 8
        have r0 : X.cell? ⟨b + 1 + 1, 0, none⟩ = some (.int .i64 0) := by simp [World.cell?, hb4.xb]
        have t0 := frz hb4.xb 0
        have r1 : X.cell? ⟨b + 1 + 1, 1, none⟩ = some (.slice none 0 0) := by simp [World.cell?, hb4.xb]
        have t1 := frz hb4.xb 1
        have r2 : X.cell? ⟨b + 1 + 1, 2, none⟩ = some (.int .i64 0) := by simp [World.cell?, hb4.xb]
        have t2 := frz hb4.xb 2
        have E := fault_end (.int .i64 hd.kind) (.slice fo hd.fs.length fc) (.slice no hd.ns.length nc) (.int .i64 hd.id) (.bool hd.delta) (.int .i64 hd.rows) (.int .i64 hd.press) (.slice vo hd.nds.length vc) (.slice uo hd.sls.length uc) (.int .i64 0) (.slice none 0 0) (.int .i64 0) (by omega) hb4.hb hb4.xb
        obtain ⟨U2, hU2⟩ : ∃ U2, ((((((((((((X.setCell ⟨b + 1, 0, none⟩ (.int .i64 hd.kind)).setCell ⟨b + 1, 1, none⟩ (.slice fo hd.fs.length fc)).setCell ⟨b + 1, 2, none⟩ (.slice no hd.ns.length nc)).setCell ⟨b + 1, 3, none⟩ (.int .i64 hd.id)).setCell ⟨b + 1, 4, none⟩ (.bool hd.delta)).setCell ⟨b + 1, 5, none⟩ (.int .i64 hd.rows)).setCell ⟨b + 1, 6, none⟩ (.int .i64 hd.press)).setCell ⟨b + 1, 7, none⟩ (.slice vo hd.nds.length vc)).setCell ⟨b + 1, 8, none⟩ (.slice uo hd.sls.length uc)).setCell ⟨b + 1 + 1, 0, none⟩ (.int .i64 0)).setCell ⟨b + 1 + 1, 1, none⟩ (.slice none 0 0)).setCell ⟨b + 1 + 1, 2, none⟩ (.int .i64 0)) = U2 := ⟨_, rfl⟩
        rw [hU2] at E
        have HF := hidM E
        clear E hb4
        go_wp2_with fail
        refine leaves_cons (f := 26) (args := #[.pointer (some ⟨b + 1, 0, none⟩), .pointer (some ⟨b + 1 + 1, 0, none⟩)]) (by simp) (by simp [go_sem]) ?_
        refine (catch_idle ⟨b + 1, 0, none⟩ ⟨b + 1 + 1, 0, none⟩ U2).mono ?_
        rintro e u' w' ⟨rfl, rfl, rfl⟩
        refine ⟨_, results_3034 (fn := Tryd.f13) rfl rfl rfl HF.out.1 HF.out.2.1 (by kernel_rfl) (by kernel_rfl), ?_⟩
        rw [HE.out]
        exact ⟨HG4.out.trans HF.out.2.2 fun j hj h => by have := Hb.out; omega, _, rfl, (HV4.out.kp HF.out.2.2 fun z hz => by have := Hb.out; have := HVz.out; omega).low HVs.out⟩
end Go.Proofs.YtdffjdlpbfcikaaDoor.Kit
