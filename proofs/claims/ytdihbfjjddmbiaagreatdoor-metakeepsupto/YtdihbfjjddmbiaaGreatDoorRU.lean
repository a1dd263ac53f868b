import Derived.Test.YtdihbfjjddmbiaaGreatDoorRL
import Derived.Recover
import Derived.Defers
import Derived.Test.YtdihbfjjddmbiaaGreatDoorRB
import Derived.Test.YtdihbfjjddmbiaaGreatDoorVD
import Derived.Test.YtdihbfjjddmbiaaGreatDoorRP
set_option maxRecDepth 100000
set_option maxHeartbeats 4000000
namespace Go.Proofs.YtdihbfjjddmbiaaGreatDoor.Kit
open Go.RowKit Go.Shelf Go.Deep
set_option linter.unusedVariables false
attribute [local go_sem] run_store_func
theorem catch_idle (q r : Addr) (w : World) :
    CallsD Tryz.prog 62 #[.pointer (some q), .pointer (some r)] .returning w fun e u' w' => e = .returned (.tuple #[]) ∧ u' = .returning ∧ w' = w := by
  refine callsD_of_wpS Tryz.func62 rfl fun c₀ cs hu => ?_
  apply wpS_seq
  apply wpS_region
  simp [wpOpsS, go_sem, recoverD, hu, Tryz.ntmps62, Exit.thenS]
  refine wpS_of_wp ?_
  go_wp2
  cases c₀
  simp_all [bodyPostS, results, Tryz.results62]
theorem put3f_box {V : World} {Y t : Nat} {x0 x1 x2 : Value} (y0 y1 y2 : Value) (h : V.heap[Y]? = some (.cells #[x0, x1, x2] t (0, 0))) : (((V.setCell ⟨Y, 0, none⟩ y0).setCell ⟨Y, 1, none⟩ y1).setCell ⟨Y, 2, none⟩ y2).heap[Y]? = some (.cells #[y0, y1, y2] t (0, 0)) := by
  have h0 : (V.setCell ⟨Y, 0, none⟩ y0).heap[Y]? = some (.cells #[y0, x1, x2] t (0, 0)) := heap_setCell_same _ Y 0 _ _ y0 h
  have h1 : ((V.setCell ⟨Y, 0, none⟩ y0).setCell ⟨Y, 1, none⟩ y1).heap[Y]? = some (.cells #[y0, y1, x2] t (0, 0)) := heap_setCell_same _ Y 1 _ _ y1 h0
  exact heap_setCell_same _ Y 2 _ _ y2 h1
theorem put3f_keeps (V : World) (Y : Nat) (y0 y1 y2 : Value) : Keeps V (((V.setCell ⟨Y, 0, none⟩ y0).setCell ⟨Y, 1, none⟩ y1).setCell ⟨Y, 2, none⟩ y2) (fun z => z = Y) :=
  (((Keeps.refl V (fun z => z = Y)).setCell (p := ⟨Y, 0, none⟩) (fun _ => rfl) _).setCell (p := ⟨Y, 1, none⟩) (fun _ => rfl) _).setCell (p := ⟨Y, 2, none⟩) (fun _ => rfl) _
theorem fault_end {V : World} {h x t u : Nat} {y0 y1 y2 y3 y4 y5 y6 y7 y8 z0 z1 z2 : Value} (p0 p1 p2 p3 p4 p5 p6 p7 p8 q0 q1 q2 : Value) (hne : h ≠ x) (v9 : V.heap[h]? = some (.cells #[y0, y1, y2, y3, y4, y5, y6, y7, y8] t (0, 0))) (v3 : V.heap[x]? = some (.cells #[z0, z1, z2] u (0, 0))) :
    ((((((((((((V.setCell ⟨h, 0, none⟩ p0).setCell ⟨h, 1, none⟩ p1).setCell ⟨h, 2, none⟩ p2).setCell ⟨h, 3, none⟩ p3).setCell ⟨h, 4, none⟩ p4).setCell ⟨h, 5, none⟩ p5).setCell ⟨h, 6, none⟩ p6).setCell ⟨h, 7, none⟩ p7).setCell ⟨h, 8, none⟩ p8).setCell ⟨x, 0, none⟩ q0).setCell ⟨x, 1, none⟩ q1).setCell ⟨x, 2, none⟩ q2).heap[h]? = some (.cells #[p0, p1, p2, p3, p4, p5, p6, p7, p8] t (0, 0)) ∧ ((((((((((((V.setCell ⟨h, 0, none⟩ p0).setCell ⟨h, 1, none⟩ p1).setCell ⟨h, 2, none⟩ p2).setCell ⟨h, 3, none⟩ p3).setCell ⟨h, 4, none⟩ p4).setCell ⟨h, 5, none⟩ p5).setCell ⟨h, 6, none⟩ p6).setCell ⟨h, 7, none⟩ p7).setCell ⟨h, 8, none⟩ p8).setCell ⟨x, 0, none⟩ q0).setCell ⟨x, 1, none⟩ q1).setCell ⟨x, 2, none⟩ q2).heap[x]? = some (.cells #[q0, q1, q2] u (0, 0)) ∧ Keeps V ((((((((((((V.setCell ⟨h, 0, none⟩ p0).setCell ⟨h, 1, none⟩ p1).setCell ⟨h, 2, none⟩ p2).setCell ⟨h, 3, none⟩ p3).setCell ⟨h, 4, none⟩ p4).setCell ⟨h, 5, none⟩ p5).setCell ⟨h, 6, none⟩ p6).setCell ⟨h, 7, none⟩ p7).setCell ⟨h, 8, none⟩ p8).setCell ⟨x, 0, none⟩ q0).setCell ⟨x, 1, none⟩ q1).setCell ⟨x, 2, none⟩ q2) (fun z => z = h ∨ z = x) := by
  have k9 := put9_keeps V h p0 p1 p2 p3 p4 p5 p6 p7 p8
  have b9 := put9_box p0 p1 p2 p3 p4 p5 p6 p7 p8 v9
  have b3 := (k9.block x (lt_of_heap v3) (fun e => hne e.symm)).trans v3
  have k3 := put3f_keeps (((((((((V.setCell ⟨h, 0, none⟩ p0).setCell ⟨h, 1, none⟩ p1).setCell ⟨h, 2, none⟩ p2).setCell ⟨h, 3, none⟩ p3).setCell ⟨h, 4, none⟩ p4).setCell ⟨h, 5, none⟩ p5).setCell ⟨h, 6, none⟩ p6).setCell ⟨h, 7, none⟩ p7).setCell ⟨h, 8, none⟩ p8) x q0 q1 q2
  have b3' := put3f_box q0 q1 q2 b3
  exact ⟨(k3.block h (lt_of_heap b9) hne).trans b9, b3', (k9.mono (T := fun z => z = h ∨ z = x) fun _ _ h => .inl h).tr (k3.mono (T := fun z => z = h ∨ z = x) fun _ _ h => .inr h)⟩
theorem catch_fault (h x : Nat) (er : Int × Nat) (older : List PanicEntry) (w : World) (y0 y1 y2 y3 y4 y5 y6 y7 y8 z0 z1 z2 : Value) (hne : h ≠ x) (h9 : w.heap[h]? = some (.cells #[y0, y1, y2, y3, y4, y5, y6, y7, y8] 29 (0, 0))) (h3 : w.heap[x]? = some (.cells #[z0, z1, z2] 67 (0, 0))) :
    CallsD Tryz.prog 62 #[.pointer (some ⟨h, 0, none⟩), .pointer (some ⟨x, 0, none⟩)] (.panicking ({ v := flt er, recovered := false } :: older)) w fun e u' w' => e = .returned (.tuple #[]) ∧ u' = .panicking ({ v := flt er, recovered := true } :: older) ∧ w'.heap[h]? = some (.cells #[.int .i64 0, .slice none 0 0, .slice none 0 0, .int .i64 0, .bool false, .int .i64 0, .int .i64 0, .slice none 0 0, .slice none 0 0] 29 (0, 0)) ∧ w'.heap[x]? = some (.cells #[.int .i64 er.1, .slice none 0 0, .int .i64 (er.2 : Int)] 67 (0, 0)) ∧ Keeps w w' (fun z => z = h ∨ z = x) := by
  unfold flt
  have hta : ∀ (v : Value) (W : World), (Instr.typeAssert (.iface 67 v) 20 67 true).run Tryz.prog W = .ok (.tuple #[v, .bool true]) W := fun v W => rfl
  obtain ⟨e1, he1⟩ : ∃ e, e = er.1 := ⟨_, rfl⟩
  obtain ⟨e2, he2⟩ : ∃ e : Int, e = (er.2 : Int) := ⟨_, rfl⟩
  rw [← he1, ← he2]
  clear he1 he2
  obtain ⟨n, hn⟩ : ∃ n, n = w.heap.size := ⟨_, rfl⟩
  obtain ⟨V, hV⟩ := ex (w.alloc (.cells #[.int .i64 e1, .slice none 0 0, .int .i64 e2] 67))
  have gV := gr_al hV
  have hnew : V.heap[n]? = some (.cells #[.int .i64 e1, .slice none 0 0, .int .i64 e2] 67 (0, 0)) := by rw [hn, ← hV]; exact heap_alloc_new w _
  have v9 := (gV.block h (lt_of_heap h9) id).trans h9
  have v3 := (gV.block x (lt_of_heap h3) id).trans h3
  have l9 := lt_of_heap h9
  have l3 := lt_of_heap h3
  have n1 : ¬ h = n := by omega
  have n2 : ¬ x = n := by omega
  have n3 : ¬ x = h := fun e => hne e.symm
  have n4 : ¬ n = h := by omega
  have n5 : ¬ n = x := by omega
  have a0 : V.cell? ⟨h, 0, none⟩ = some y0 := by simp [World.cell?, v9]
  have fa0 : V.frozen? ⟨h, 0, none⟩ = false := frz v9 0
  have a1 : V.cell? ⟨h, 1, none⟩ = some y1 := by simp [World.cell?, v9]
  have fa1 : V.frozen? ⟨h, 1, none⟩ = false := frz v9 1
  have a2 : V.cell? ⟨h, 2, none⟩ = some y2 := by simp [World.cell?, v9]
  have fa2 : V.frozen? ⟨h, 2, none⟩ = false := frz v9 2
  have a3 : V.cell? ⟨h, 3, none⟩ = some y3 := by simp [World.cell?, v9]
  have fa3 : V.frozen? ⟨h, 3, none⟩ = false := frz v9 3
  have a4 : V.cell? ⟨h, 4, none⟩ = some y4 := by simp [World.cell?, v9]
  have fa4 : V.frozen? ⟨h, 4, none⟩ = false := frz v9 4
  have a5 : V.cell? ⟨h, 5, none⟩ = some y5 := by simp [World.cell?, v9]
  have fa5 : V.frozen? ⟨h, 5, none⟩ = false := frz v9 5
  have a6 : V.cell? ⟨h, 6, none⟩ = some y6 := by simp [World.cell?, v9]
  have fa6 : V.frozen? ⟨h, 6, none⟩ = false := frz v9 6
  have a7 : V.cell? ⟨h, 7, none⟩ = some y7 := by simp [World.cell?, v9]
  have fa7 : V.frozen? ⟨h, 7, none⟩ = false := frz v9 7
  have a8 : V.cell? ⟨h, 8, none⟩ = some y8 := by simp [World.cell?, v9]
  have fa8 : V.frozen? ⟨h, 8, none⟩ = false := frz v9 8
  have b0 : V.cell? ⟨x, 0, none⟩ = some z0 := by simp [World.cell?, v3]
  have fb0 : V.frozen? ⟨x, 0, none⟩ = false := frz v3 0
  have b1 : V.cell? ⟨x, 1, none⟩ = some z1 := by simp [World.cell?, v3]
  have fb1 : V.frozen? ⟨x, 1, none⟩ = false := frz v3 1
  have b2 : V.cell? ⟨x, 2, none⟩ = some z2 := by simp [World.cell?, v3]
  have fb2 : V.frozen? ⟨x, 2, none⟩ = false := frz v3 2
  obtain ⟨c0, c1, c2⟩ := ce3 hnew
  have E := fault_end (.int .i64 0) (.slice none 0 0) (.slice none 0 0) (.int .i64 0) (.bool false) (.int .i64 0) (.int .i64 0) (.slice none 0 0) (.slice none 0 0) (.int .i64 e1) (.slice none 0 0) (.int .i64 e2) hne v9 v3
  have HE : Hid (_ ∧ _ ∧ _) := ⟨E.1, E.2.1, ((gV.mono (T := fun z => z = h ∨ z = x) fun _ _ h => h.elim).tr E.2.2).drew⟩
  have HN := hidM hn
  clear h9 h3 v9 v3 hnew gV hne l9 l3 E
  refine callsD_of_wpS Tryz.func62 rfl fun c₀ cs hu => ?_
  change Code.wpS _ _ _ { tmps := #[.pointer (some ⟨h, 0, none⟩), .pointer (some ⟨x, 0, none⟩), undef, undef, undef, undef, undef, undef, undef, undef, undef, undef, undef], defers := [] } _ _
  apply wpS_seq
  apply wpS_region
  simp [wpOpsS, go_sem, recoverD, hu, Exit.thenS]
  refine wpS_of_wp ?_
  go_wp2
  rw [← HN.out]
  clear hn hV
  go_region
  clear a0 a1 a2 a3 a4 a5 a6 a7 a8 b0 b1 b2 c0 c1 c2 fa0 fa1 fa2 fa3 fa4 fa5 fa6 fa7 fa8 fb0 fb1 fb2
  generalize ((((((((((((V.setCell ⟨h, 0, none⟩ (.int .i64 0)).setCell ⟨h, 1, none⟩ (.slice none 0 0)).setCell ⟨h, 2, none⟩ (.slice none 0 0)).setCell ⟨h, 3, none⟩ (.int .i64 0)).setCell ⟨h, 4, none⟩ (.bool false)).setCell ⟨h, 5, none⟩ (.int .i64 0)).setCell ⟨h, 6, none⟩ (.int .i64 0)).setCell ⟨h, 7, none⟩ (.slice none 0 0)).setCell ⟨h, 8, none⟩ (.slice none 0 0)).setCell ⟨x, 0, none⟩ (.int .i64 e1)).setCell ⟨x, 1, none⟩ (.slice none 0 0)).setCell ⟨x, 2, none⟩ (.int .i64 e2)) = U at HE ⊢
  (try simp only [Exit.inBlock])
  (try go_wp2_with fail)
  (try simp only [bodyPostS])
  refine ⟨trivial, _, rfl, _, results_none (fn := Tryz.f62) rfl _ _ _, rfl, rfl, ?_⟩
  have HE' := HE.out
  exact HE'
end Go.Proofs.YtdihbfjjddmbiaaGreatDoor.Kit
namespace Go.Proofs.YtdihbfjjddmbiaaGreatDoor.Kit
open Go.RowKit Go.Shelf Go.Deep
set_option linter.unusedVariables false
def hdOf (k : Int) (fs : List FT) (ns : List (ByteArray × ByteArray)) (di : Int) (dl : Bool) (rows pr : Int) (nds : List (Int × Int)) (sls : List (Int × Int × Int)) : HD := ⟨k.toNat, fs, ns, di.toNat, dl, rows.toNat, pr.toNat, nds, sls⟩
def getR (Y : HD → Bool) (B : List UInt8) : Except (Int × Nat) HD :=
  match headR B (0, 0) with
  | .error er => .error er
  | .ok (h, s) => if s.1 < B.length then .error (52, s.1) else if Y h = false then .error (50, 0) else .ok h
end Go.Proofs.YtdihbfjjddmbiaaGreatDoor.Kit
namespace Go.Proofs.YtdihbfjjddmbiaaGreatDoor.Kit
open Go.RowKit Go.Shelf Go.Deep
set_option linter.unusedVariables false
attribute [local go_sem] run_store_func
def GetQ (W : World) (r : Except (Int × Nat) HD) (e : Ending) (w' : World) : Prop :=
  Gr W w' ∧ match r with
  | .ok hd => ∃ v, e = .returned (.tuple #[v, .agg #[.int .i64 0, .slice none 0 0, .int .i64 0]]) ∧ HV9 W w' hd v
  | .error er => e = .returned (.tuple #[.agg #[.int .i64 0, .slice none 0 0, .slice none 0 0, .int .i64 0, .bool false, .int .i64 0, .int .i64 0, .slice none 0 0, .slice none 0 0], .agg #[.int .i64 er.1, .slice none 0 0, .int .i64 (er.2 : Int)]])
theorem results_3034 {fn : Func} {t u : Tmp} {tmps : Array Value} {g k : Nat} {cs ds : Array Value} {w : World} (h : fn.results = #[.cell t 29, .cell u 67]) (ht : tmps.getD t undef = .pointer (some ⟨g, 0, none⟩)) (hu : tmps.getD u undef = .pointer (some ⟨k, 0, none⟩)) (hg : w.heap[g]? = some (.cells cs 29 (0, 0))) (hk : w.heap[k]? = some (.cells ds 67 (0, 0))) (hi : (Tryz.prog.info? 29).map (·.size) = some cs.size) (hj : (Tryz.prog.info? 67).map (·.size) = some ds.size) :
    (results fn tmps).run Tryz.prog w = .ok (.tuple #[.agg cs, .agg ds]) w := by
  have hl := run_loadVar_row (P := Tryz.prog) w g 29 29 cs (0, 0) _ hg Tryz.underlying29 rfl hi
  have hl' := run_loadVar_row (P := Tryz.prog) w k 67 67 ds (0, 0) _ hk Tryz.underlying67 rfl hj
  unfold results
  rw [h]
  simp only [Array.mapM_eq_mapM_toList, List.mapM_cons, List.mapM_nil, ht, hu]
  simp [asAddr, hl, hl']
structure RB4 (W U : World) (b : Nat) (bo : Option Addr) (m bc : Nat) (y0 y1 y2 y3 y4 y5 y6 y7 y8 : Value) : Prop where
  vb : U.heap[b]? = some (.cells #[.slice bo m bc, .int .i64 0, .pointer none] 94 (0, 0))
  hb : U.heap[b + 1]? = some (.cells #[y0, y1, y2, y3, y4, y5, y6, y7, y8] 29 (0, 0))
  xb : U.heap[b + 1 + 1]? = some (.cells #[.int .i64 0, .slice none 0 0, .int .i64 0] 67 (0, 0))
  eq : b = W.heap.size
theorem RB4.kp {W U U' : World} {b : Nat} {bo : Option Addr} {m bc : Nat} {y0 y1 y2 y3 y4 y5 y6 y7 y8 : Value} (h : RB4 W U b bo m bc y0 y1 y2 y3 y4 y5 y6 y7 y8) (q : Keeps U U' (fun z => z = b + 1 + 1 + 1)) : RB4 W U' b bo m bc y0 y1 y2 y3 y4 y5 y6 y7 y8 :=
  ⟨(q.block b (lt_of_heap h.vb) (by omega)).trans h.vb, (q.block (b + 1) (lt_of_heap h.hb) (by omega)).trans h.hb, (q.block (b + 1 + 1) (lt_of_heap h.xb) (by omega)).trans h.xb, h.eq⟩
theorem RB4.gr {W U U' : World} {b : Nat} {bo : Option Addr} {m bc : Nat} {y0 y1 y2 y3 y4 y5 y6 y7 y8 : Value} (h : RB4 W U b bo m bc y0 y1 y2 y3 y4 y5 y6 y7 y8) (q : Gr U U') : RB4 W U' b bo m bc y0 y1 y2 y3 y4 y5 y6 y7 y8 := h.kp (q.mono fun _ _ h => h.elim)
theorem read_wrong {W U : World} {b : Nat} {bo : Option Addr} {m bc : Nat} {y0 y1 y2 y3 y4 y5 y6 y7 y8 : Value} {tmps : Array Value} {R : Except (Int × Nat) HD} {er : Int × Nat} (hB : RB4 W U b bo m bc y0 y1 y2 y3 y4 y5 y6 y7 y8) (hg : Gr W U) (h2 : tmps.getD 2 undef = .pointer (some ⟨b + 1, 0, none⟩)) (h3 : tmps.getD 3 undef = .pointer (some ⟨b + 1 + 1, 0, none⟩)) (hR : R = .error er) :
    Leaves Tryz.prog Tryz.f46 tmps (GetQ W R) [{ target := .fn (.func 62) #[.pointer (some ⟨b + 1, 0, none⟩), .pointer (some ⟨b + 1 + 1, 0, none⟩)], args := #[] }] (.panicking [{ v := flt er, recovered := false }]) U := by
  refine leaves_cons (f := 62) (args := #[.pointer (some ⟨b + 1, 0, none⟩), .pointer (some ⟨b + 1 + 1, 0, none⟩)]) (by simp) (by simp [go_sem]) ?_
  refine (catch_fault (b + 1) (b + 1 + 1) er [] U _ _ _ _ _ _ _ _ _ _ _ _ (by omega) hB.hb hB.xb).mono ?_
  rintro e u' w' ⟨rfl, rfl, q9, q3, k⟩
  refine ⟨_, results_3034 rfl h2 h3 q9 q3 (by kernel_rfl) (by kernel_rfl), ?_⟩
  rw [hR]
  exact ⟨(hg.trans k fun j hj h => by have := hB.eq; omega), rfl⟩
theorem HV9.kp {W w' w2 : World} {hd : HD} {v : Value} {S : Nat → Prop} (h : HV9 W w' hd v) (k : Keeps w' w2 S) (hS : ∀ z, S z → z < W.heap.size) : HV9 W w2 hd v := by
  obtain ⟨fo, fc, no, nc, vo, vc, uo, uc, e, hcap, hrow, hns, hnd, hsl⟩ := h
  refine ⟨fo, fc, no, nc, vo, vc, uo, uc, e, hcap, (hrow.kept fun z z1 z2 => k.block z z2 (fun h => by have := hS z h; omega)).wide (Nat.le_refl _) k.size, ?_, ?_, ?_⟩
  · exact ⟨row_kp hns.own fun g e => k.block g (own_lt hns.own g e) (fun h => by have := hS g h; have := hns.new g e; omega), hns.new⟩
  · exact ⟨row_kp hnd.own fun g e => k.block g (own_lt hnd.own g e) (fun h => by have := hS g h; have := hnd.new g e; omega), hnd.new⟩
  exact ⟨row_kp hsl.own fun g e => k.block g (own_lt hsl.own g e) (fun h => by have := hS g h; have := hsl.new g e; omega), hsl.new⟩
theorem HV9.gr {W w' w2 : World} {hd : HD} {v : Value} (h : HV9 W w' hd v) (k : Gr w' w2) : HV9 W w2 hd v := h.kp k fun _ h => h.elim
theorem HV9.low {W V w' : World} {hd : HD} {v : Value} (h : HV9 V w' hd v) (k : W.heap.size ≤ V.heap.size) : HV9 W w' hd v := by
  obtain ⟨fo, fc, no, nc, vo, vc, uo, uc, e, hcap, hrow, hns, hnd, hsl⟩ := h
  exact ⟨fo, fc, no, nc, vo, vc, uo, uc, e, hcap, hrow.wide k (Nat.le_refl _), ⟨hns.own, fun g e => Nat.le_trans k (hns.new g e)⟩, ⟨hnd.own, fun g e => Nat.le_trans k (hnd.new g e)⟩, ⟨hsl.own, fun g e => Nat.le_trans k (hsl.new g e)⟩⟩
theorem r4_mk {U1 : World} {b p : Nat} {x0 x1 x2 x4 : Value} {bo : Option Addr} {m bc a1 : Nat} (hx : U1.heap[p]? = some (.cells #[x0, x1, x2, .int .i64 (a1 : Int), x4] 111 (0, 0))) (hv : U1.heap[b]? = some (.cells #[.slice bo m bc, .int .i64 0, .pointer none] 94 (0, 0))) : U1.drew.cell? ⟨p, 3, none⟩ = some (.int .i64 (a1 : Int)) ∧ U1.drew.cell? ⟨b, 0, none⟩ = some (.slice bo m bc) ∧ U1.drew.cell? ⟨b, 1, none⟩ = some (.int .i64 0) ∧ U1.drew.cell? ⟨b, 2, none⟩ = some (.pointer none) :=
  (by simp [World.cell?, hx, hv] : U1.cell? _ = _ ∧ U1.cell? _ = _ ∧ U1.cell? _ = _ ∧ U1.cell? _ = _)
theorem r4v_gr {W W' : World} {p b : Nat} {v0 v1 v2 v3 : Value} (g : Gr W W') (h : W.cell? ⟨p, 3, none⟩ = some v3 ∧ W.cell? ⟨b, 0, none⟩ = some v0 ∧ W.cell? ⟨b, 1, none⟩ = some v1 ∧ W.cell? ⟨b, 2, none⟩ = some v2) : W'.cell? ⟨p, 3, none⟩ = some v3 ∧ W'.cell? ⟨b, 0, none⟩ = some v0 ∧ W'.cell? ⟨b, 1, none⟩ = some v1 ∧ W'.cell? ⟨b, 2, none⟩ = some v2 := ⟨g.cell' h.1 id, g.cell' h.2.1 id, g.cell' h.2.2.1 id, g.cell' h.2.2.2 id⟩
theorem read13 (bo : Option Addr) (B : List UInt8) (bc : Nat) (Y : HD → Bool) (W : World) (hby : BytesAt W bo B) (hf : SForm bo B.length bc) (hlen : B.length ≤ 1000000000000) (hlow : ∀ b o, bo = some ⟨b, o, none⟩ → b < W.heap.size)
    (hM : ∀ U V hd s v, headR B (0, 0) = .ok (hd, s) → Gr W U → Gr U V → HV9 U V hd v → Calls Tryz.prog 19 #[v] V fun e w' => e = .returned (.bool (Y hd)) ∧ Gr V w') :
    Calls Tryz.prog 46 #[.agg #[.slice bo B.length bc, .int .i64 0, .pointer none]] W (GetQ W (getR Y B)) := by
  have hmf : ∀ (fn : Fn) (first cap : Array Value) (w : World), (Instr.makeFunc fn first cap).run Tryz.prog w = .ok (.func fn first cap) w := fun _ _ _ _ => rfl
  have HM := hidM hM
  obtain ⟨R, hRes⟩ : ∃ R, R = getR Y B := ⟨_, rfl⟩
  rw [← hRes]
  have HRes := hidM hRes
  obtain ⟨m, hm⟩ : ∃ m, m = B.length := ⟨_, rfl⟩
  obtain ⟨b, hb⟩ : ∃ b, b = W.heap.size := ⟨_, rfl⟩
  obtain ⟨V, hV⟩ := ex ((((W.alloc (.cells #[.slice bo m bc, .int .i64 0, .pointer none] 94)).alloc (.cells #[.int .i64 0, .slice none 0 0, .slice none 0 0, .int .i64 0, .bool false, .int .i64 0, .int .i64 0, .slice none 0 0, .slice none 0 0] 29)).alloc (.cells #[.int .i64 0, .slice none 0 0, .int .i64 0] 67)).alloc (.cells #[.slice bo m bc, .int .i64 0, .pointer none, .int .i64 0, .int .i64 0] 111))
  have s1 : (W.alloc (.cells #[.slice bo m bc, .int .i64 0, .pointer none] 94)).heap.size = b + 1 := by rw [hb]; simp
  have s2 : ((W.alloc (.cells #[.slice bo m bc, .int .i64 0, .pointer none] 94)).alloc (.cells #[.int .i64 0, .slice none 0 0, .slice none 0 0, .int .i64 0, .bool false, .int .i64 0, .int .i64 0, .slice none 0 0, .slice none 0 0] 29)).heap.size = b + 1 + 1 := by rw [hb]; simp
  have s3 : (((W.alloc (.cells #[.slice bo m bc, .int .i64 0, .pointer none] 94)).alloc (.cells #[.int .i64 0, .slice none 0 0, .slice none 0 0, .int .i64 0, .bool false, .int .i64 0, .int .i64 0, .slice none 0 0, .slice none 0 0] 29)).alloc (.cells #[.int .i64 0, .slice none 0 0, .int .i64 0] 67)).heap.size = b + 1 + 1 + 1 := by rw [hb]; simp
  have g1 := gr_alloc W (.cells #[.slice bo m bc, .int .i64 0, .pointer none] 94)
  have g2 := gr_alloc (W.alloc (.cells #[.slice bo m bc, .int .i64 0, .pointer none] 94)) (.cells #[.int .i64 0, .slice none 0 0, .slice none 0 0, .int .i64 0, .bool false, .int .i64 0, .int .i64 0, .slice none 0 0, .slice none 0 0] 29)
  have g3 := gr_alloc ((W.alloc (.cells #[.slice bo m bc, .int .i64 0, .pointer none] 94)).alloc (.cells #[.int .i64 0, .slice none 0 0, .slice none 0 0, .int .i64 0, .bool false, .int .i64 0, .int .i64 0, .slice none 0 0, .slice none 0 0] 29)) (.cells #[.int .i64 0, .slice none 0 0, .int .i64 0] 67)
  have g4 := gr_alloc (((W.alloc (.cells #[.slice bo m bc, .int .i64 0, .pointer none] 94)).alloc (.cells #[.int .i64 0, .slice none 0 0, .slice none 0 0, .int .i64 0, .bool false, .int .i64 0, .int .i64 0, .slice none 0 0, .slice none 0 0] 29)).alloc (.cells #[.int .i64 0, .slice none 0 0, .int .i64 0] 67)) (.cells #[.slice bo m bc, .int .i64 0, .pointer none, .int .i64 0, .int .i64 0] 111)
  have c1 := heap_alloc_new W (.cells #[.slice bo m bc, .int .i64 0, .pointer none] 94)
  have c2 := heap_alloc_new (W.alloc (.cells #[.slice bo m bc, .int .i64 0, .pointer none] 94)) (.cells #[.int .i64 0, .slice none 0 0, .slice none 0 0, .int .i64 0, .bool false, .int .i64 0, .int .i64 0, .slice none 0 0, .slice none 0 0] 29)
  have c3 := heap_alloc_new ((W.alloc (.cells #[.slice bo m bc, .int .i64 0, .pointer none] 94)).alloc (.cells #[.int .i64 0, .slice none 0 0, .slice none 0 0, .int .i64 0, .bool false, .int .i64 0, .int .i64 0, .slice none 0 0, .slice none 0 0] 29)) (.cells #[.int .i64 0, .slice none 0 0, .int .i64 0] 67)
  have c4 := heap_alloc_new (((W.alloc (.cells #[.slice bo m bc, .int .i64 0, .pointer none] 94)).alloc (.cells #[.int .i64 0, .slice none 0 0, .slice none 0 0, .int .i64 0, .bool false, .int .i64 0, .int .i64 0, .slice none 0 0, .slice none 0 0] 29)).alloc (.cells #[.int .i64 0, .slice none 0 0, .int .i64 0] 67)) (.cells #[.slice bo m bc, .int .i64 0, .pointer none, .int .i64 0, .int .i64 0] 111)
  rw [← hb] at c1
  rw [s1] at c2
  rw [s2] at c3
  rw [s3] at c4
  have g34 := g3.tr g4
  have g24 := g2.tr g34
  have g14 := g1.tr g24
  rw [hV] at g4 g34 g24 g14 c4
  have HG : Hid (Gr W V) := g14
  have HB : Hid (RB4 W V b bo m bc (.int .i64 0) (.slice none 0 0) (.slice none 0 0) (.int .i64 0) (.bool false) (.int .i64 0) (.int .i64 0) (.slice none 0 0) (.slice none 0 0)) := ⟨(g24.block b (lt_of_heap c1) id).trans c1, (g34.block (b + 1) (lt_of_heap c2) id).trans c2, (g4.block (b + 1 + 1) (lt_of_heap c3) id).trans c3, hb⟩
  have HR : Hid (RAt V (b + 1 + 1 + 1) bo B bc 0 0) := ⟨by rw [← hm]; exact c4, hby.gr g14, hf, fun c o e => by have := hlow c o e; omega, hlen, Nat.zero_le _, Nat.zero_le _⟩
  have HV := hidM hV
  have Hb := hidM hb
  have Hm := hidM hm
  rw [← hm]
  clear hby hf hlen hlow hM hRes hm g1 g2 g3 g4 g34 g24 g14 c1 c2 c3 c4 s1 s2 s3 hV hb
  go_enter_defers Tryz.func46, Tryz.ntmps46
  go_wp2_with (go_at_call 63; refine Hid.out ?_)
  unfold Hid
  rw [HV.out, ← Hb.out]
  clear HV
  have hq := head27 (b + 1 + 1 + 1) bo B bc V 0 0 HR.out
  cases hr : headR B (0, 0) with
  | error er =>
    rw [hr] at hq
    refine Calls.mono hq ?_
    rintro e' U ⟨hk, rfl⟩
    have HB1 := hidM (HB.out.kp hk)
    have HG1 : Hid (Gr W U) := HG.out.trans hk fun j hj h => by have := Hb.out; omega
    have HE : Hid (R = .error er) := by show R = _; rw [HRes.out]; unfold getR; rw [hr]
    clear hk hq hr HR HB HM
    go_wp2_with fail
    exact read_wrong HB1.out HG1.out rfl rfl HE.out
  | ok q =>
    obtain ⟨hd, a1, n1⟩ := q
    rw [hr] at hq
    refine Calls.mono hq ?_
    rintro e' U ⟨hk, v, rfl, hv, hR⟩
    obtain ⟨fo, fc, no, nc, vo, vc, uo, uc, rfl, hcap, hrow, hns, hnd, hsl⟩ := hv
    have hvv : HV9 V U hd (.agg #[.int .i64 hd.kind, .slice fo hd.fs.length fc, .slice no hd.ns.length nc, .int .i64 hd.id, .bool hd.delta, .int .i64 hd.rows, .int .i64 hd.press, .slice vo hd.nds.length vc, .slice uo hd.sls.length uc]) := ⟨fo, fc, no, nc, vo, vc, uo, uc, rfl, hcap, hrow, hns, hnd, hsl⟩
    have hB1 := HB.out.kp hk
    have k9 := put9_keeps U (b + 1) (.int .i64 hd.kind) (.slice fo hd.fs.length fc) (.slice no hd.ns.length nc) (.int .i64 hd.id) (.bool hd.delta) (.int .i64 hd.rows) (.int .i64 hd.press) (.slice vo hd.nds.length vc) (.slice uo hd.sls.length uc)
    have q9 := put9_box (.int .i64 hd.kind) (.slice fo hd.fs.length fc) (.slice no hd.ns.length nc) (.int .i64 hd.id) (.bool hd.delta) (.int .i64 hd.rows) (.int .i64 hd.press) (.slice vo hd.nds.length vc) (.slice uo hd.sls.length uc) hB1.hb
    obtain ⟨U1, hU1⟩ := ex ((((((((((U.setCell ⟨b + 1, 0, none⟩ (.int .i64 hd.kind)).setCell ⟨b + 1, 1, none⟩ (.slice fo hd.fs.length fc)).setCell ⟨b + 1, 2, none⟩ (.slice no hd.ns.length nc)).setCell ⟨b + 1, 3, none⟩ (.int .i64 hd.id)).setCell ⟨b + 1, 4, none⟩ (.bool hd.delta)).setCell ⟨b + 1, 5, none⟩ (.int .i64 hd.rows)).setCell ⟨b + 1, 6, none⟩ (.int .i64 hd.press)).setCell ⟨b + 1, 7, none⟩ (.slice vo hd.nds.length vc)).setCell ⟨b + 1, 8, none⟩ (.slice uo hd.sls.length uc)))
    rw [hU1] at k9 q9
    have HB2 : Hid (RB4 W U1 b bo m bc (.int .i64 hd.kind) (.slice fo hd.fs.length fc) (.slice no hd.ns.length nc) (.int .i64 hd.id) (.bool hd.delta) (.int .i64 hd.rows) (.int .i64 hd.press) (.slice vo hd.nds.length vc) (.slice uo hd.sls.length uc)) := ⟨(k9.block b (lt_of_heap hB1.vb) (by omega)).trans hB1.vb, q9, (k9.block (b + 1 + 1) (lt_of_heap hB1.xb) (by omega)).trans hB1.xb, hB1.eq⟩
    have hx := (k9.block (b + 1 + 1 + 1) (lt_of_heap hR.box) (by omega)).trans hR.box
    have HX := hidM hx
    have HG2 : Hid (Gr W U1) := (HG.out.trans hk fun j hj h => by have := Hb.out; omega).trans k9 fun j hj h => by have := Hb.out; omega
    have HV2 : Hid (HV9 V U1 hd (.agg #[.int .i64 hd.kind, .slice fo hd.fs.length fc, .slice no hd.ns.length nc, .int .i64 hd.id, .bool hd.delta, .int .i64 hd.rows, .int .i64 hd.press, .slice vo hd.nds.length vc, .slice uo hd.sls.length uc])) := hvv.kp k9 fun z hz => by rw [hz]; exact lt_of_heap HB.out.hb
    have Hr := hidM hr
    have HVs : Hid (W.heap.size ≤ V.heap.size) := HG.out.size
    have HVz : Hid (b + 1 + 1 < V.heap.size) := lt_of_heap HB.out.xb
    obtain ⟨z0, z1, z2, z3, z4, z5, z6, z7, z8⟩ := ce9 hB1.hb
    obtain ⟨f0, f1, f2, f3, f4, f5, f6, f7, f8⟩ := fz9 hB1.hb
    have HQd : Hid (Gr U1 U1.drew) := (Keeps.refl U1 (fun _ => False)).drew
    have HL : Hid (∀ X, Calls Tryz.prog 64 #[.agg #[.slice bo m bc, .int .i64 0, .pointer none]] X fun e w' => e = .returned (.int .i64 m) ∧ Gr X w') := fun X => vlen_any bo m bc 0 none X
    have HC : Hid (U1.drew.cell? ⟨b + 1 + 1 + 1, 3, none⟩ = some (.int .i64 (a1 : Int)) ∧ U1.drew.cell? ⟨b, 0, none⟩ = some (.slice bo m bc) ∧ U1.drew.cell? ⟨b, 1, none⟩ = some (.int .i64 0) ∧ U1.drew.cell? ⟨b, 2, none⟩ = some (.pointer none)) := r4_mk hx HB2.out.vb
    clear hk hq hr hR hvv hB1 k9 q9 hx hcap hrow hns hnd hsl HR HB
    go_wp2
    clear hU1
    go_region_held3 (fun w' => w'.cell? ⟨b + 1 + 1 + 1, 3, none⟩ = some (.int .i64 (a1 : Int)) ∧ w'.cell? ⟨b, 0, none⟩ = some (.slice bo m bc) ∧ w'.cell? ⟨b, 1, none⟩ = some (.int .i64 0) ∧ w'.cell? ⟨b, 2, none⟩ = some (.pointer none)) (first | with_reducible exact HC.out | with_reducible exact r4v_gr HE1.out HC.out) (first | (go_at_call 64; refine Calls.mono (HL.out _) ?_; rintro e u1 ⟨rfl, hg2⟩; have HE1 := hidM hg2; clear hg2))
    have g1 := HQd.out.tr HE1.out
    have hb3 := HB2.out.gr g1
    have HB3 := hidM hb3
    have HG3 : Hid (Gr W u1) := HG2.out.trans g1 fun _ _ h => h
    have HV3 := hidM (HV2.out.gr g1)
    have hx3 := (g1.block (b + 1 + 1 + 1) (lt_of_heap HX.out) id).trans HX.out
    have x3 : u1.cell? ⟨b + 1 + 1 + 1, 3, none⟩ = some (.int .i64 (a1 : Int)) := by simp [World.cell?, hx3]
    clear g1 HC HE1 HQd HB2 HG2 HV2 HX hx3 HL
    by_cases hlt : a1 < B.length
    · have HE : Hid (R = .error (52, a1)) := by show R = _; rw [HRes.out]; unfold getR; rw [Hr.out]; dsimp only; rw [if_pos hlt]
      have hlt' : (a1 : Int) < (m : Int) := by rw [Hm.out]; omega
      clear hb3 hlt HM
      go_wp2_with (go_at_call 65; refine Hid.out ?_)
      unfold Hid
      refine Calls.mono (giveUp_any 52 a1 _) ?_
      rintro e W2 ⟨rfl, rfl⟩
      go_wp2_with fail
      exact read_wrong HB3.out HG3.out rfl rfl HE.out
    have hlt' : ¬ (a1 : Int) < (m : Int) := by rw [Hm.out]; omega
    obtain ⟨y0, y1, y2, y3, y4, y5, y6, y7, y8⟩ := ce9 hb3.hb
    have HK : Hid (Calls Tryz.prog 19 #[.agg #[.int .i64 hd.kind, .slice fo hd.fs.length fc, .slice no hd.ns.length nc, .int .i64 hd.id, .bool hd.delta, .int .i64 hd.rows, .int .i64 hd.press, .slice vo hd.nds.length vc, .slice uo hd.sls.length uc]] u1 fun e w' => e = .returned (.bool (Y hd)) ∧ Gr u1 w') := HM.out W u1 hd (a1, n1) _ Hr.out (Keeps.refl W _) HG3.out (HV3.out.low HVs.out)
    have Hlt := hidM hlt
    clear hb3 hlt HM x3
    go_wp2_with (go_at_call 19; refine Hid.out ?_)
    unfold Hid
    refine Calls.mono HK.out ?_
    rintro e X ⟨rfl, gX⟩
    have HB4 := hidM (HB3.out.gr gX)
    have HG4 : Hid (Gr W X) := HG3.out.trans gX fun _ _ h => h
    have HV4 := hidM (HV3.out.gr gX)
    clear gX HB3 HG3 HV3 HK y0 y1 y2 y3 y4 y5 y6 y7 y8
    cases hY : Y hd with
    | false =>
      have HE : Hid (R = .error (50, 0)) := by show R = _; rw [HRes.out]; unfold getR; rw [Hr.out]; dsimp only; rw [if_neg Hlt.out, if_pos hY]
      clear hY
      go_wp2_with (go_at_call 65; refine Hid.out ?_)
      unfold Hid
      refine Calls.mono (giveUp_any 50 0 _) ?_
      rintro e W2 ⟨rfl, rfl⟩
      go_wp2_with fail
      exact read_wrong HB4.out HG4.out rfl rfl HE.out
    | true =>
      have HE : Hid (R = .ok hd) := by show R = _; rw [HRes.out]; unfold getR; rw [Hr.out]; dsimp only; rw [if_neg Hlt.out, if_neg (by rw [hY]; decide)]
      clear hY
      have hb4 := HB4.out
      obtain ⟨w0, w1, w2, w3, w4, w5, w6, w7, w8⟩ := ce9 hb4.hb
      obtain ⟨g0, g1, g2, g3, g4, g5, g6, g7, g8⟩ := fz9 hb4.hb
      obtain ⟨r0, r1, r2⟩ := ce3 hb4.xb
      obtain ⟨t0, t1, t2⟩ := fz3 hb4.xb
      have E := fault_end (.int .i64 hd.kind) (.slice fo hd.fs.length fc) (.slice no hd.ns.length nc) (.int .i64 hd.id) (.bool hd.delta) (.int .i64 hd.rows) (.int .i64 hd.press) (.slice vo hd.nds.length vc) (.slice uo hd.sls.length uc) (.int .i64 0) (.slice none 0 0) (.int .i64 0) (by omega) hb4.hb hb4.xb
      obtain ⟨U2, hU2⟩ := ex (((((((((((((X.setCell ⟨b + 1, 0, none⟩ (.int .i64 hd.kind)).setCell ⟨b + 1, 1, none⟩ (.slice fo hd.fs.length fc)).setCell ⟨b + 1, 2, none⟩ (.slice no hd.ns.length nc)).setCell ⟨b + 1, 3, none⟩ (.int .i64 hd.id)).setCell ⟨b + 1, 4, none⟩ (.bool hd.delta)).setCell ⟨b + 1, 5, none⟩ (.int .i64 hd.rows)).setCell ⟨b + 1, 6, none⟩ (.int .i64 hd.press)).setCell ⟨b + 1, 7, none⟩ (.slice vo hd.nds.length vc)).setCell ⟨b + 1, 8, none⟩ (.slice uo hd.sls.length uc)).setCell ⟨b + 1 + 1, 0, none⟩ (.int .i64 0)).setCell ⟨b + 1 + 1, 1, none⟩ (.slice none 0 0)).setCell ⟨b + 1 + 1, 2, none⟩ (.int .i64 0)))
      rw [hU2] at E
      have HF := hidM E
      clear E hb4
      go_wp2_with fail
      refine leaves_cons (f := 62) (args := #[.pointer (some ⟨b + 1, 0, none⟩), .pointer (some ⟨b + 1 + 1, 0, none⟩)]) (by simp) (by simp [go_sem]) ?_
      refine (catch_idle ⟨b + 1, 0, none⟩ ⟨b + 1 + 1, 0, none⟩ U2).mono ?_
      rintro e u' w' ⟨rfl, rfl, rfl⟩
      refine ⟨_, results_3034 (fn := Tryz.f46) rfl rfl rfl HF.out.1 HF.out.2.1 (by kernel_rfl) (by kernel_rfl), ?_⟩
      rw [HE.out]
      exact ⟨HG4.out.trans HF.out.2.2 fun j hj h => by have := Hb.out; omega, _, rfl, (HV4.out.kp HF.out.2.2 fun z hz => by have := Hb.out; have := HVz.out; omega).low HVs.out⟩
end Go.Proofs.YtdihbfjjddmbiaaGreatDoor.Kit
