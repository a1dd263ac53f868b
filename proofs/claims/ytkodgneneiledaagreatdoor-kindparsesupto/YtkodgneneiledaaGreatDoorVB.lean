import Derived.Test.YtkodgneneiledaaGreatDoorWX
import Derived.Test.YtkodgneneiledaaGreatDoorUB
import Derived.Test.YtkodgneneiledaaGreatDoorSF
import Derived.Test.YtkodgneneiledaaGreatDoorYO
set_option maxRecDepth 100000
set_option maxHeartbeats 4000000
namespace Go.Proofs.YtkodgneneiledaaGreatDoor.Kit
open Go.RowKit Go.Shelf Go.Deep
set_option linter.unusedVariables false
attribute [local go_sem] run_store_func
theorem results_parse {fn : Func} {t u r : Tmp} {tmps : Array Value} {b : Nat} {y0 y1 z x : Value} {w : World} (h : fn.results = #[.cell t 27, .tmp u, .tmp r]) (ht : tmps.getD t undef = .pointer (some ⟨b, 0, none⟩)) (hu : tmps.getD u undef = z) (hr : tmps.getD r undef = x) (hb : w.heap[b]? = some (.cells #[y0, y1] 27 (0, 0))) :
    (results fn tmps).run Tryz.prog w = .ok (.tuple #[.agg #[y0, y1], z, x]) w := by
  have c0 : w.cell? ⟨b, 0, none⟩ = some y0 := by simp [World.cell?, hb]
  have c0b : w.cell? ⟨b, 1, none⟩ = some y1 := by simp [World.cell?, hb]
  unfold results
  rw [h]
  simp only [Array.mapM_eq_mapM_toList, List.mapM_cons, List.mapM_nil, ht, hu, hr]
  simp [asAddr, loadVar, go_sem, c0, c0b]
theorem read_any (s : ByteArray) (W : World) (hT : Tab W) : Calls Tryz.prog 21 #[.string s, .func (.func 22) #[] #[]] W (ParQ W s (schP s.data.toList)) := by
  by_cases h : s.size ≤ 65536
  · exact read13 s _ (fun p => part14 p s) (fun _ _ _ h => sch_notes h) (fun _ _ _ h => sch_names h) h W hT
  exact read_long s _ (by omega) W
theorem ParQ.box {W V w1 w2 : World} {s : ByteArray} {r : RSch} {e : Ending} {b : Nat} (h : ParQ V s r e w1) (hb : b = W.heap.size) (hbv : b < V.heap.size) (gV : Gr W V) (k : Keeps w1 w2 (fun z => z = b)) : ParQ W s r e w2 := by
  obtain ⟨hg, h⟩ := h
  refine ⟨(gV.trans hg fun _ _ h => h).trans k fun j hj h => by omega, h.imp id fun h => ?_⟩
  obtain ⟨l, ns, a, g, fo, fc, no, nc, h1, h2, h3, h4, h5, h6, h7, h8, h9⟩ := h
  refine ⟨l, ns, a, g, fo, fc, no, nc, h1, h2, h3, h4, h5, h6, h7, ?_, ?_⟩
  · exact (h8.kept fun z hz => k.block z hz.2 (by omega)).mono fun z hz => ⟨Nat.le_trans gV.size hz.1, Nat.lt_of_lt_of_le hz.2 k.size⟩
  exact (h9.blk k fun z h hz hS => by omega).low gV.size
theorem ParQ.form {V w1 : World} {s : ByteArray} {r : RSch} {e : Ending} (h : ParQ V s r e w1) : ∃ fo nf fc no nn nc er at_, e = .returned (.tuple #[.agg #[.slice fo nf fc, .slice no nn nc], .int .i64 er, .int .i64 at_]) := by
  rcases h.2 with ⟨er, at_, _, _, rfl⟩ | ⟨l, ns, a, g, fo, fc, no, nc, _, _, _, _, _, rfl, _⟩
  · exact ⟨_, _, _, _, _, _, _, _, rfl⟩
  exact ⟨_, _, _, _, _, _, _, _, rfl⟩
theorem parse5 (s : ByteArray) (W : World) (hT : Tab W) : Calls Tryz.prog 6 #[.string s] W (ParQ W s (schP s.data.toList)) := by
  obtain ⟨V0, hV0⟩ : ∃ V0, W.alloc (.cells #[.slice none 0 0, .slice none 0 0] 27) = V0 := ⟨_, rfl⟩
  have g0' : Gr W V0 := by rw [← hV0]; exact gr_alloc W _
  have HBx0 : Hid (V0.heap[W.heap.size]? = some (.cells #[.slice none 0 0, .slice none 0 0] 27 (0, 0))) := by show _ = _; rw [← hV0]; exact heap_alloc_new W _
  have HQ := hidP (read_any s V0 (hT.gr g0'))
  have HG0 := hidP g0'
  obtain ⟨b, hb⟩ : ∃ b, b = W.heap.size := ⟨_, rfl⟩
  have HV := hidP hV0
  clear hT g0' hV0
  go_enter Tryz.func6, Tryz.ntmps6
  go_wp2_with (go_at_call 21; refine Hid.out ?_)
  unfold Hid
  rw [HV.out, ← hb]
  rw [← hb] at HBx0
  have HB := hidP hb
  clear HV hb
  refine Calls.mono HQ.out ?_
  intro e' U hq
  obtain ⟨fo, nf, fc, no, nn, nc, er, at_, rfl⟩ := hq.form
  have hbx := (hq.1.block b (lt_of_heap HBx0.out) id).trans HBx0.out
  have HBx := hidP hbx
  have HP := hidP hq
  have z0 := frz hbx 0
  have z1 := frz hbx 1
  have t0 : U.cell? ⟨b, 0, none⟩ = some (.slice none 0 0) := by simp [World.cell?, hbx]
  have t1 : U.cell? ⟨b, 1, none⟩ = some (.slice none 0 0) := by simp [World.cell?, hbx]
  have HLt : Hid (b < V0.heap.size) := lt_of_heap HBx0.out
  clear hq hbx HBx0 HQ
  go_wp2_with fail
  have hb3 := put2_box (.slice fo nf fc) (.slice no nn nc) HBx.out
  have k3 := put2_keeps U b (.slice fo nf fc) (.slice no nn nc)
  (try simp only [Exit.inBlock, Exit.then])
  exact bodyPost_ret (results_parse (z := .int .i64 er) (x := .int .i64 at_) rfl rfl rfl rfl hb3) rfl (HP.out.box HB.out HLt.out HG0.out k3)
theorem eqSchema8 {fo eo no mo : Option Addr} {nf fc ec nc mc : Nat} {ns : List (ByteArray × ByteArray)} {w : World} (hF : Ans 31 #[.slice fo nf fc, .slice eo nf ec] true w) (h1 : NotesAt w no ns) (h2 : NotesAt w mo ns) :
    Ans 8 #[.agg #[.slice fo nf fc, .slice no ns.length nc], .agg #[.slice eo nf ec, .slice mo ns.length mc]] true w := by
  intro W g
  have hk := h1.1
  have hbig : ns.length ≤ 1000000000000 := hk
  have H1 := hidP (h1.gr g)
  have H2 := hidP (h2.gr g)
  have HF := hidP (hF.gr g)
  obtain ⟨m, hm⟩ : ∃ m, m = ns.length := ⟨_, rfl⟩
  rw [← hm] at hbig ⊢
  have Hm := hidP hm
  clear h1 h2 hF hk hm g
  have hbx := heap_alloc_new W (.cells #[.slice fo nf fc, .slice no m nc] 27)
  have hby := heap_alloc_new (W.alloc (.cells #[.slice fo nf fc, .slice no m nc] 27)) (.cells #[.slice eo nf ec, .slice mo m mc] 27)
  have hs1 : (W.alloc (.cells #[.slice fo nf fc, .slice no m nc] 27)).heap.size = W.heap.size + 1 := by simp
  have g1 := gr_alloc W (.cells #[.slice fo nf fc, .slice no m nc] 27)
  have g2 := gr_alloc (W.alloc (.cells #[.slice fo nf fc, .slice no m nc] 27)) (.cells #[.slice eo nf ec, .slice mo m mc] 27)
  obtain ⟨V, hV⟩ : ∃ V, (W.alloc (.cells #[.slice fo nf fc, .slice no m nc] 27)).alloc (.cells #[.slice eo nf ec, .slice mo m mc] 27) = V := ⟨_, rfl⟩
  rw [hs1] at hby
  rw [hV] at hby g2
  have hbx' := (g2.block _ (lt_of_heap hbx) id).trans hbx
  obtain ⟨b, hb⟩ : ∃ b, b = W.heap.size := ⟨_, rfl⟩
  rw [← hb] at hbx' hby
  have HG : Hid (Gr W V) := g1.trans g2 fun _ _ h => h
  have HX : Hid (V.heap[b]? = some (.cells #[.slice fo nf fc, .slice no m nc] 27 (0, 0)) ∧ V.heap[b + 1]? = some (.cells #[.slice eo nf ec, .slice mo m mc] 27 (0, 0))) := ⟨hbx', hby⟩
  have HV := hidP hV
  have Hb := hidP hb
  have x0 := (cell2 hbx').1
  have x1 := (cell2 hbx').2
  have y0 := (cell2 hby).1
  have y1 := (cell2 hby).2
  have HFV := hidP (HF.out V HG.out)
  clear hbx hby hs1 g1 g2 hV hb hbx' HF
  go_enter Tryz.func8, Tryz.ntmps8
  go_wp2_with (go_at_call 31; rw [HV.out, ← Hb.out]; refine Hid.out ?_)
  unfold Hid
  refine Calls.mono HFV.out ?_
  rintro e U ⟨rfl, gU⟩
  have HXU : Hid (U.heap[b]? = some (.cells #[.slice fo nf fc, .slice no m nc] 27 (0, 0)) ∧ U.heap[b + 1]? = some (.cells #[.slice eo nf ec, .slice mo m mc] 27 (0, 0))) := ⟨(gU.block _ (lt_of_heap HX.out.1) id).trans HX.out.1, (gU.block _ (lt_of_heap HX.out.2) id).trans HX.out.2⟩
  have HGU : Hid (Gr W U) := HG.out.trans gU fun _ _ h => h
  clear gU HX HG x0 x1 y0 y1 HFV HV
  have x1 := (cell2 HXU.out.1).2
  have y1 := (cell2 HXU.out.2).2
  go_wp2_with fail
  go_loopw [24] (fun i wr => ∃ k : Nat, k ≤ m ∧ i = .int .i64 (k : Int) ∧ Hid (Gr U wr)) (fun i _ => m - (intOf i).toNat)
  case atStart => exact ⟨0, Nat.zero_le _, rfl, Keeps.refl _ _⟩
  case round =>
    clear x1 y1
    obtain ⟨k, hk, rfl, HK⟩ := hrel
    by_cases hlt : k < m
    · have hltI : (k : Int) < (m : Int) := by omega
      have hne : ns ≠ [] := fun e => by have := Hm.out; rw [e] at this; simp at this; omega
      obtain ⟨c1, o1, rfl, hc1⟩ := H1.out.2 hne
      obtain ⟨c2, o2, rfl, hc2⟩ := H2.out.2 hne
      have hk' : k < ns.length := by rw [← Hm.out]; exact hlt
      have gW : Gr W wr := HGU.out.trans HK.out fun _ _ h => h
      have p0 := gW.cell' (hc1 k hk').1 id
      have p1 := gW.cell' (hc1 k hk').2 id
      have q0 := gW.cell' (hc2 k hk').1 id
      have q1 := gW.cell' (hc2 k hk').2 id
      have hx := (HK.out.block _ (lt_of_heap HXU.out.1) id).trans HXU.out.1
      have hy := (HK.out.block _ (lt_of_heap HXU.out.2) id).trans HXU.out.2
      have x1 := (cell2 hx).2
      have y1 := (cell2 hy).2
      generalize ns[k].1 = s1 at p0 q0
      generalize ns[k].2 = s2 at p1 q1
      have hadd : IntKind.i64.wrap ((k : Int) + 1) = ((k + 1 : Nat) : Int) := by rw [IntKind.wrap_i64]; omega
      clear hc1 hc2 hk' gW hx hy hne
      go_wp2_with fail
      go_region
      go_wp2_with fail
      go_roundw
      case rel => exact ⟨k + 1, by omega, by simp, HK.out.drew⟩
      case measure => simp [intOf]; omega
    have hkm : k = m := by omega
    subst hkm
    have hltI : ¬ (k : Int) < (k : Int) := by omega
    go_wp2_with fail
    go_ret
    exact ⟨rfl, HGU.out.trans HK.out fun _ _ h => h⟩
end Go.Proofs.YtkodgneneiledaaGreatDoor.Kit
