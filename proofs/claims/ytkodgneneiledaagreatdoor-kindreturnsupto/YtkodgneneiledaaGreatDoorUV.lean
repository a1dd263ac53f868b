import Derived.Test.YtkodgneneiledaaGreatDoorUU
import Derived.Recover
import Derived.Defers
namespace Go.Proofs.YtkodgneneiledaaGreatDoor.Kit
open Go.RowKit Go.Shelf Go.Deep
set_option linter.unusedVariables false
attribute [local go_sem] run_store_func

/-! ### the deferred read$1 25 -/
set_option maxRecDepth 100000 in
theorem catch_idle (q r t : Addr) (w : World) :
    CallsD Tryz.prog 48 #[.pointer (some q), .pointer (some r), .pointer (some t)] .returning w fun e u' w' => e = .returned (.tuple #[]) ∧ u' = .returning ∧ w' = w := by
  refine callsD_of_wpS Tryz.func48 rfl fun c₀ cs hu => ?_
  apply wpS_seq
  apply wpS_region
  simp [wpOpsS, go_sem, recoverD, hu, Tryz.ntmps48, Exit.thenS]
  refine wpS_of_wp ?_
  go_wp2
  cases c₀
  simp_all [bodyPostS, results, Tryz.results48]
theorem three_end {V : World} {b : Nat} {y0 y1 z x : Value} (p0 p1 q r : Value) (v2 : V.heap[b]? = some (.cells #[y0, y1] 27 (0, 0))) (v1 : V.heap[b + 1]? = some (.cells #[z] 28 (0, 0))) (v3 : V.heap[b + 1 + 1]? = some (.cells #[x] 3 (0, 0))) :
    ((((V.setCell ⟨b, 0, none⟩ p0).setCell ⟨b, 1, none⟩ p1).setCell ⟨b + 1, 0, none⟩ q).setCell ⟨b + 1 + 1, 0, none⟩ r).heap[b]? = some (.cells #[p0, p1] 27 (0, 0)) ∧
    ((((V.setCell ⟨b, 0, none⟩ p0).setCell ⟨b, 1, none⟩ p1).setCell ⟨b + 1, 0, none⟩ q).setCell ⟨b + 1 + 1, 0, none⟩ r).heap[b + 1]? = some (.cells #[q] 28 (0, 0)) ∧
    ((((V.setCell ⟨b, 0, none⟩ p0).setCell ⟨b, 1, none⟩ p1).setCell ⟨b + 1, 0, none⟩ q).setCell ⟨b + 1 + 1, 0, none⟩ r).heap[b + 1 + 1]? = some (.cells #[r] 3 (0, 0)) ∧
    Keeps V ((((V.setCell ⟨b, 0, none⟩ p0).setCell ⟨b, 1, none⟩ p1).setCell ⟨b + 1, 0, none⟩ q).setCell ⟨b + 1 + 1, 0, none⟩ r) (fun z => z = b ∨ z = b + 1 ∨ z = b + 1 + 1) := by
  have a1 := put2_box p0 p1 v2
  have a2 : (((V.setCell ⟨b, 0, none⟩ p0).setCell ⟨b, 1, none⟩ p1).setCell ⟨b + 1, 0, none⟩ q).heap[b + 1]? = some (.cells #[q] 28 (0, 0)) := heap_setCell_same _ (b + 1) 0 _ _ q ((set_other _ (by omega)).trans ((set_other _ (by omega)).trans v1))
  have a3 := heap_setCell_same (((V.setCell ⟨b, 0, none⟩ p0).setCell ⟨b, 1, none⟩ p1).setCell ⟨b + 1, 0, none⟩ q) (b + 1 + 1) 0 _ _ r ((set_other _ (by omega)).trans ((set_other _ (by omega)).trans ((set_other _ (by omega)).trans v3)))
  refine ⟨(set_other _ (by omega)).trans ((set_other _ (by omega)).trans a1), (set_other _ (by omega)).trans a2, a3, ?_⟩
  exact ((((Keeps.refl V (fun z => z = b ∨ z = b + 1 ∨ z = b + 1 + 1)).setCell (p := ⟨b, 0, none⟩) (fun _ => .inl rfl) _).setCell (p := ⟨b, 1, none⟩) (fun _ => .inl rfl) _).setCell (p := ⟨b + 1, 0, none⟩) (fun _ => .inr (.inl rfl)) _).setCell (p := ⟨b + 1 + 1, 0, none⟩) (fun _ => .inr (.inr rfl)) _
set_option maxRecDepth 100000 in
set_option maxHeartbeats 1000000 in
theorem catch_stuck (b o : Nat) (older : List PanicEntry) (w : World) (y0 y1 z x : Value) (h2 : w.heap[b]? = some (.cells #[y0, y1] 27 (0, 0))) (h1 : w.heap[b + 1]? = some (.cells #[z] 28 (0, 0))) (h3 : w.heap[b + 1 + 1]? = some (.cells #[x] 3 (0, 0))) :
    CallsD Tryz.prog 48 #[.pointer (some ⟨b, 0, none⟩), .pointer (some ⟨b + 1, 0, none⟩), .pointer (some ⟨b + 1 + 1, 0, none⟩)] (.panicking ({ v := stuckV o, recovered := false } :: older)) w fun e u' w' => e = .returned (.tuple #[]) ∧ u' = .panicking ({ v := stuckV o, recovered := true } :: older) ∧ w'.heap[b]? = some (.cells #[.slice none 0 0, .slice none 0 0] 27 (0, 0)) ∧ w'.heap[b + 1]? = some (.cells #[.int .i64 8] 28 (0, 0)) ∧ w'.heap[b + 1 + 1]? = some (.cells #[.int .i64 (o : Int)] 3 (0, 0)) ∧ Keeps w w' (fun z => z = b ∨ z = b + 1 ∨ z = b + 1 + 1) := by
  unfold stuckV
  have hta : ∀ (v : Value) (W : World), (Instr.typeAssert (.iface 85 v) 20 85 true).run Tryz.prog W = .ok (.tuple #[v, .bool true]) W := fun v W => rfl
  have a0 : w.cell? ⟨b, 0, none⟩ = some y0 := by simp [World.cell?, h2]
  have a1 : w.cell? ⟨b, 1, none⟩ = some y1 := by simp [World.cell?, h2]
  have a2 : w.cell? ⟨b + 1, 0, none⟩ = some z := by simp [World.cell?, h1]
  have a3 : w.cell? ⟨b + 1 + 1, 0, none⟩ = some x := by simp [World.cell?, h3]
  have f0 := frz h2 0
  have f1 := frz h2 1
  have f2 := frz h1 0
  have f3 := frz h3 0
  have n1 : ¬ b + 1 = b := by omega
  have n2 : ¬ b + 1 + 1 = b := by omega
  have n3 : ¬ b + 1 + 1 = b + 1 := by omega
  have HE := hidP (three_end (.slice none 0 0) (.slice none 0 0) (.int .i64 8) (.int .i64 (o : Int)) h2 h1 h3)
  clear h2 h1 h3
  refine callsD_of_wpS Tryz.func48 rfl fun c₀ cs hu => ?_
  change Code.wpS _ _ _ { tmps := #[.pointer (some ⟨b, 0, none⟩), .pointer (some ⟨b + 1, 0, none⟩), .pointer (some ⟨b + 1 + 1, 0, none⟩), undef, undef, undef, undef, undef, undef, undef, undef, undef, undef, undef], defers := [] } _ _
  apply wpS_seq
  apply wpS_region
  simp [wpOpsS, go_sem, recoverD, hu, Exit.thenS]
  refine wpS_of_wp ?_
  go_wp2
  (try simp only [Exit.inBlock])
  (try go_wp2_with fail)
  (try simp only [bodyPostS])
  refine ⟨trivial, _, rfl, _, results_none (fn := Tryz.f48) rfl _ _ _, rfl, rfl, ?_⟩
  have HE' := HE.out
  exact HE'
/-! ### Parse$1 14 -/
set_option maxRecDepth 100000 in
set_option maxHeartbeats 4000000 in
theorem part14 (p : Nat) (s : ByteArray) : PnC p s D0 22 #[.pointer (some ⟨p, 0, none⟩)] (schP s.data.toList) (SV p) := by
  intro W a g hN hd
  obtain ⟨V0, hV0⟩ : ∃ V0, W.alloc (.cells #[.slice none 0 0, .slice none 0 0] 27) = V0 := ⟨_, rfl⟩
  have g0' : Gr W V0 := by rw [← hV0]; exact gr_alloc W _
  have HBx0 : Hid (V0.heap[W.heap.size]? = some (.cells #[.slice none 0 0, .slice none 0 0] 27 (0, 0))) := by show _ = _; rw [← hV0]; exact heap_alloc_new W _
  have HQ := hidP (schema15 p s V0 a g (hN.gr g0') hd)
  have HG0 : Hid (KpN W V0 p) := Gr.n p g0'
  have HNe : Hid (p < W.heap.size) := hN.lt
  have Hpz : Hid (p ≠ 0) := by obtain ⟨_, _, h⟩ := hN; exact h.pz
  obtain ⟨b, hb⟩ : ∃ b, b = W.heap.size := ⟨_, rfl⟩
  have HV := hidP hV0
  clear hN hd g0' hV0
  go_enter Tryz.func22, Tryz.ntmps22
  go_wp2_with (go_at_call 23; refine Hid.out ?_)
  unfold Hid
  rw [HV.out, ← hb]
  rw [← hb] at HBx0
  have HB := hidP hb
  clear HV hb
  cases hr : schP s.data.toList (a, g) with
  | error o =>
    rw [hr] at HQ
    have Hr := hidP hr
    clear hr
    refine Calls.mono HQ.out ?_
    rintro e' U ⟨hk, rfl⟩
    have HK := hidP (HG0.out.tr hk)
    clear hk
    go_wp2_with fail
    exact ⟨rfl, PnQ.err HK.out (by first | exact rfl | exact Hr.out)⟩
  | ok q =>
    obtain ⟨x, a1, g1⟩ := q
    rw [hr] at HQ
    have Hr := hidP hr
    clear hr
    refine Calls.mono HQ.out ?_
    rintro e' U ⟨hk, v, rfl, ⟨fo, fc, no, nc, rfl, hfc, hrow, hns⟩, hR⟩
    have hbx := (hk.blk (lt_of_heap HBx0.out) (by have := HNe.out; have := HB.out; omega) (IntsB.of HBx0.out (by decide))).trans HBx0.out
    have HBx := hidP hbx
    have HK := hidP (HG0.out.tr hk)
    have HR := hidP hR
    have HL := hidP (And.intro hfc (And.intro hrow hns))
    have HLt : Hid (b < V0.heap.size ∧ W.heap.size ≤ V0.heap.size) := ⟨lt_of_heap HBx0.out, HG0.out.size⟩
    have z0 := frz hbx 0
    have z1 := frz hbx 1
    have t0 : U.cell? ⟨b, 0, none⟩ = some (.slice none 0 0) := by simp [World.cell?, hbx]
    have t1 : U.cell? ⟨b, 1, none⟩ = some (.slice none 0 0) := by simp [World.cell?, hbx]
    clear hk hR hbx hfc hrow hns HBx0
    go_wp2_with fail
    have hb3 := put2_box (.slice fo x.1.length fc) (.slice no x.2.length nc) HBx.out
    have k3 := put2_keeps U b (.slice fo x.1.length fc) (.slice no x.2.length nc)
    have kW : KpN W _ p := HK.out.trans k3 fun z hz h => by have := HB.out; omega
    (try simp only [Exit.inBlock, Exit.then])
    exact bodyPost_ret (results_cell26 rfl rfl hb3 (by kernel_rfl)) rfl (PnQ.ok kW (by first | exact rfl | exact Hr.out) ⟨fo, fc, no, nc, rfl, HL.out.1, (HL.out.2.1.nb (fun z hz => k3.block z hz.2.1 (by have := hz.1; have := HLt.out; omega)) k3.size).low HLt.out.2, (HL.out.2.2.blk k3 fun z h hz hS => by have := HLt.out; omega).low HLt.out.2⟩ (HR.out.kept k3 fun z h => by rw [h]; exact ⟨by have := HNe.out; have := HB.out; omega, by have := HNe.out; have := HB.out; omega, IntsB.of HBx.out (by decide)⟩))
end Go.Proofs.YtkodgneneiledaaGreatDoor.Kit
