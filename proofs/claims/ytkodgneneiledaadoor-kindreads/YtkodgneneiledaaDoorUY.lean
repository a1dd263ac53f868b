import Derived.Test.YtkodgneneiledaaDoorUX
namespace Go.Proofs.YtkodgneneiledaaDoor.Kit
open Go.RowKit Go.Shelf Go.Deep
set_option linter.unusedVariables false
attribute [local go_sem] run_store_func

/-! ### Parse 5 -/
theorem results_parse {fn : Func} {t u r : Tmp} {tmps : Array Value} {b : Nat} {y0 y1 z x : Value} {w : World} (h : fn.results = #[.cell t 26, .tmp u, .tmp r]) (ht : tmps.getD t undef = .pointer (some ⟨b, 0, none⟩)) (hu : tmps.getD u undef = z) (hr : tmps.getD r undef = x) (hb : w.heap[b]? = some (.cells #[y0, y1] 26 (0, 0))) :
    (results fn tmps).run Tryd.prog w = .ok (.tuple #[.agg #[y0, y1], z, x]) w := by
  have c0 : w.cell? ⟨b, 0, none⟩ = some y0 := by simp [World.cell?, hb]
  have c0b : w.cell? ⟨b, 1, none⟩ = some y1 := by simp [World.cell?, hb]
  unfold results
  rw [h]
  simp only [Array.mapM_eq_mapM_toList, List.mapM_cons, List.mapM_nil, ht, hu, hr]
  simp [asAddr, loadVar, go_sem, c0, c0b]
theorem read_any (s : ByteArray) (W : World) (hT : Tab W) : Calls Tryd.prog 13 #[.string s, .func (.func 14) #[] #[]] W (ParQ W s) := by
  by_cases h : s.size ≤ 65536
  · exact read13 s h W hT
  · exact read_long s (by omega) W
/-- an answer of read as one of Parse: the box b is new -/
theorem ParQ.box {W V w1 w2 : World} {s : ByteArray} {e : Ending} {b : Nat} (h : ParQ V s e w1) (hb : b = W.heap.size) (hbv : b < V.heap.size) (gV : Gr W V) (k : Keeps w1 w2 (fun z => z = b)) : ParQ W s e w2 := by
  obtain ⟨hg, h⟩ := h
  refine ⟨(gV.trans hg fun _ _ h => h).trans k fun j hj h => by omega, h.imp id fun h => ?_⟩
  obtain ⟨l, ns, a, g, fo, fc, no, nc, h1, h2, h3, h4, h5, h6, h7, h8, h9⟩ := h
  refine ⟨l, ns, a, g, fo, fc, no, nc, h1, h2, h3, h4, h5, h6, h7, ?_, ?_⟩
  · exact (h8.kept fun z hz => k.block z hz.2 (by omega)).mono fun z hz => ⟨Nat.le_trans gV.size hz.1, Nat.lt_of_lt_of_le hz.2 k.size⟩
  · exact (h9.blk k fun z h hz hS => by omega).low gV.size
theorem ParQ.form {V w1 : World} {s : ByteArray} {e : Ending} (h : ParQ V s e w1) : ∃ fo nf fc no nn nc er at_, e = .returned (.tuple #[.agg #[.slice fo nf fc, .slice no nn nc], .int .i64 er, .int .i64 at_]) := by
  rcases h.2 with ⟨er, at_, _, _, rfl⟩ | ⟨l, ns, a, g, fo, fc, no, nc, _, _, _, _, _, rfl, _⟩
  · exact ⟨_, _, _, _, _, _, _, _, rfl⟩
  · exact ⟨_, _, _, _, _, _, _, _, rfl⟩
set_option maxRecDepth 100000 in
set_option maxHeartbeats 2000000 in
theorem parse5 (s : ByteArray) (W : World) (hT : Tab W) : Calls Tryd.prog 5 #[.string s] W (ParQ W s) := by
  obtain ⟨V0, hV0⟩ : ∃ V0, W.alloc (.cells #[.slice none 0 0, .slice none 0 0] 26) = V0 := ⟨_, rfl⟩
  have g0' : Gr W V0 := by rw [← hV0]; exact gr_alloc W _
  have HBx0 : Hid (V0.heap[W.heap.size]? = some (.cells #[.slice none 0 0, .slice none 0 0] 26 (0, 0))) := by show _ = _; rw [← hV0]; exact heap_alloc_new W _
  have HQ := hidP (read_any s V0 (hT.gr g0'))
  have HG0 := hidP g0'
  obtain ⟨b, hb⟩ : ∃ b, b = W.heap.size := ⟨_, rfl⟩
  have HV := hidP hV0
  clear hT g0' hV0
  go_enter Tryd.func5, Tryd.ntmps5
  go_wp2_with (go_at_call 13; refine Hid.out ?_)
  unfold Hid
  rw [HV.out, ← hb]
  rw [← hb] at HBx0
  have HB := hidP hb
  clear HV hb
  refine Calls.mono HQ.out ?_
  intro e' U hq
  obtain ⟨fo, nf, fc, no, nn, nc, er, at_, rfl⟩ := hq.form
  have hbx := (hq.1.block b (lt_of_heap HBx0.out) id).trans HBx0.out
  have HBx := hidP hbx
  have HP := hidP hq
  have z0 := frz hbx 0
  have z1 := frz hbx 1
  have t0 : U.cell? ⟨b, 0, none⟩ = some (.slice none 0 0) := by simp [World.cell?, hbx]
  have t1 : U.cell? ⟨b, 1, none⟩ = some (.slice none 0 0) := by simp [World.cell?, hbx]
  have HLt : Hid (b < V0.heap.size) := lt_of_heap HBx0.out
  clear hq hbx HBx0 HQ
  go_wp2_with fail
  have hb3 := put2_box (.slice fo nf fc) (.slice no nn nc) HBx.out
  have k3 := put2_keeps U b (.slice fo nf fc) (.slice no nn nc)
  (try simp only [Exit.inBlock, Exit.then])
  exact bodyPost_ret (results_parse (z := .int .i64 er) (x := .int .i64 at_) rfl rfl rfl rfl hb3) rfl (HP.out.box HB.out HLt.out HG0.out k3)
end Go.Proofs.YtkodgneneiledaaDoor.Kit
