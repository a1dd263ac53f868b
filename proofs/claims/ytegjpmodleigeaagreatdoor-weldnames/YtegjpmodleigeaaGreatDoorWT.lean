import Derived.Test.YtegjpmodleigeaaGreatDoorWR
import Derived.LoopN
set_option maxRecDepth 100000
set_option maxHeartbeats 4000000
namespace Go.Proofs.YtegjpmodleigeaaGreatDoor.Kit
open Go.RowKit Go.Shelf Go.Deep
open Go.Proofs.YtegjpmodleigeaaGreatDoor.Kd (Ans AnsV cell5 cell2)
set_option linter.unusedVariables false
set_option linter.unusedSimpArgs false
attribute [local go_sem] run_store_func
attribute [local go_sem] Oper.semAt_some
/-- a block outside an interval -/
def Off (lo hi b : Nat) : Prop := b < lo ∨ hi ≤ b
/-- an array that is looked into, whose memory lies outside an interval -/
def Rr_a (lo hi : Nat) (u : World) (a : Nat) : Prop := ∃ q r rc fo fc v2 c2, u.heap[a]? = some (.cells #[.pointer (some ⟨q, 0, none⟩), .int .i64 0, .int .i64 1, .pointer none] 111) ∧ NdA u q r rc false fo fc 1 0 v2 1 c2 ∧ 1 ≤ c2 ∧ (Off lo hi a ∧ Off lo hi q ∧ Off lo hi r ∧ Off lo hi v2) ∧ u.cell? ⟨v2, 0, none⟩ = some (.int .u8 5)
theorem Rr_a.kp {lo hi : Nat} {u v : World} {a : Nat} {S : Nat → Prop} (h : Rr_a lo hi u a) (k : Keeps u v S) (hS : ∀ b, S b → lo ≤ b ∧ b < hi) : Rr_a lo hi v a := by
  obtain ⟨q, r, rc, fo, fc, v2, c2, ha, hn, hc, ⟨o1, o2, o3, o4⟩, x0⟩ := h
  have no : ∀ b, Off lo hi b → ¬ S b := fun b ho hs => by have := hS b hs; unfold Off at ho; omega
  exact ⟨q, r, rc, fo, fc, v2, c2, (k.block _ (lt_of_heap ha) (no a o1)).trans ha, hn.kp k (no q o2) (no r o3), hc, ⟨o1, o2, o3, o4⟩, k.cell' x0 (no v2 o4)⟩
theorem Rr_a.get0 {lo hi : Nat} {u : World} {a : Nat} (h : Rr_a lo hi u a) : GetA u a 0 5 := by
  obtain ⟨q, r, rc, fo, fc, v2, c2, ha, hn, hc, -, x0⟩ := h
  exact getA_0 (by decide) ha hn (by decide) (by decide) hc x0
theorem op_a (z fb fcc xb xc : Nat) (ao : Option Addr) (ca : Nat) (qb bc v2 c2 : Nat) (W : World) (hz : z ≤ W.heap.size) (hv2 : v2 < z) (hf : W.heap[fb]? = some (.cells #[.string nmA, .bool false, .int .i64 3, .int .i64 0, .int .i64 0, .int .i64 0, .slice ao 0 ca] 27)) (hx : W.heap[xb]? = some (.cells #[.int .i64 1, .int .i64 0, .int .i64 0, .slice (some ⟨qb, 0, none⟩) 2 bc, .slice none 0 0, .slice none 0 0] 32)) (hD : DatC_a W qb v2 c2) :
    Calls Tryz.prog 17 #[.slice (some ⟨fb, 0, none⟩) 1 fcc, .agg #[.int .i64 1, .slice (some ⟨xb, 0, none⟩) 1 xc]] W fun e w' => ∃ cb a, e = .returned (.tuple #[.agg #[.int .i64 1, .slice (some ⟨cb, 0, none⟩) 1 1], .int .i64 0]) ∧ OpI W w' cb a (Rr_a z (W.heap.size + 4)) := by
  refine opened17 (Rr_a z (W.heap.size + 4)) fb fcc xb xc ao ca 1 1 0 (some ⟨qb, 0, none⟩) bc W hf hx (fun u v a S h k hS => h.kp k (fun b hb => by have := hS b hb; omega)) (fun u g hu => ?_)
  refine (open18_a qb bc v2 c2 ao ca u (hD.gr g)).mono ?_
  rintro e w' ⟨a, q, r, rc, fo, fc, rfl, g', ⟨l1, l2, l3⟩, hn, ha⟩
  have hDw := hD.gr (g.trans g' (fun _ _ h => h))
  exact ⟨a, rfl, g', q, r, rc, fo, fc, v2, c2, ha, hn, hD.n2, ⟨.inr (by omega), .inr (by omega), .inr (by omega), .inl hv2⟩, hDw.x0⟩
/-- an array that is looked into, whose memory lies outside an interval -/
def Rr_b (lo hi : Nat) (u : World) (a : Nat) : Prop := ∃ q r rc fo fc v2 c2, u.heap[a]? = some (.cells #[.pointer (some ⟨q, 0, none⟩), .int .i64 0, .int .i64 1, .pointer none] 111) ∧ NdA u q r rc false fo fc 1 1 v2 2 c2 ∧ 2 ≤ c2 ∧ (Off lo hi a ∧ Off lo hi q ∧ Off lo hi r ∧ Off lo hi v2) ∧ u.cell? ⟨v2, 1, none⟩ = some (.int .u8 6)
theorem Rr_b.kp {lo hi : Nat} {u v : World} {a : Nat} {S : Nat → Prop} (h : Rr_b lo hi u a) (k : Keeps u v S) (hS : ∀ b, S b → lo ≤ b ∧ b < hi) : Rr_b lo hi v a := by
  obtain ⟨q, r, rc, fo, fc, v2, c2, ha, hn, hc, ⟨o1, o2, o3, o4⟩, x0⟩ := h
  have no : ∀ b, Off lo hi b → ¬ S b := fun b ho hs => by have := hS b hs; unfold Off at ho; omega
  exact ⟨q, r, rc, fo, fc, v2, c2, (k.block _ (lt_of_heap ha) (no a o1)).trans ha, hn.kp k (no q o2) (no r o3), hc, ⟨o1, o2, o3, o4⟩, k.cell' x0 (no v2 o4)⟩
theorem Rr_b.get0 {lo hi : Nat} {u : World} {a : Nat} (h : Rr_b lo hi u a) : GetA u a 0 6 := by
  obtain ⟨q, r, rc, fo, fc, v2, c2, ha, hn, hc, -, x0⟩ := h
  exact getA_2 (by decide) ha hn (by decide) (by decide) hc x0
theorem op_b (z fb fcc xb xc : Nat) (ao : Option Addr) (ca : Nat) (qb bc v2 c2 : Nat) (W : World) (hz : z ≤ W.heap.size) (hv2 : v2 < z) (hf : W.heap[fb]? = some (.cells #[.string nmA, .bool false, .int .i64 3, .int .i64 0, .int .i64 0, .int .i64 0, .slice ao 0 ca] 27)) (hx : W.heap[xb]? = some (.cells #[.int .i64 1, .int .i64 1, .int .i64 0, .slice (some ⟨qb, 0, none⟩) 2 bc, .slice none 0 0, .slice none 0 0] 32)) (hD : DatC_b W qb v2 c2) :
    Calls Tryz.prog 17 #[.slice (some ⟨fb, 0, none⟩) 1 fcc, .agg #[.int .i64 1, .slice (some ⟨xb, 0, none⟩) 1 xc]] W fun e w' => ∃ cb a, e = .returned (.tuple #[.agg #[.int .i64 1, .slice (some ⟨cb, 0, none⟩) 1 1], .int .i64 0]) ∧ OpI W w' cb a (Rr_b z (W.heap.size + 4)) := by
  refine opened17 (Rr_b z (W.heap.size + 4)) fb fcc xb xc ao ca 1 1 1 (some ⟨qb, 0, none⟩) bc W hf hx (fun u v a S h k hS => h.kp k (fun b hb => by have := hS b hb; omega)) (fun u g hu => ?_)
  refine (open18_b qb bc v2 c2 ao ca u (hD.gr g)).mono ?_
  rintro e w' ⟨a, q, r, rc, fo, fc, rfl, g', ⟨l1, l2, l3⟩, hn, ha⟩
  have hDw := hD.gr (g.trans g' (fun _ _ h => h))
  exact ⟨a, rfl, g', q, r, rc, fo, fc, v2, c2, ha, hn, hD.n2, ⟨.inr (by omega), .inr (by omega), .inr (by omega), .inl hv2⟩, hDw.x0⟩
/-- an array that is looked into, whose memory lies outside an interval -/
def Rr_c (lo hi : Nat) (u : World) (a : Nat) : Prop := ∃ q r rc fo fc v2 c2, u.heap[a]? = some (.cells #[.pointer (some ⟨q, 0, none⟩), .int .i64 0, .int .i64 2, .pointer none] 111) ∧ NdA u q r rc false fo fc 2 0 v2 2 c2 ∧ 2 ≤ c2 ∧ (Off lo hi a ∧ Off lo hi q ∧ Off lo hi r ∧ Off lo hi v2) ∧ u.cell? ⟨v2, 0, none⟩ = some (.int .u8 5) ∧ u.cell? ⟨v2, 1, none⟩ = some (.int .u8 6)
theorem Rr_c.kp {lo hi : Nat} {u v : World} {a : Nat} {S : Nat → Prop} (h : Rr_c lo hi u a) (k : Keeps u v S) (hS : ∀ b, S b → lo ≤ b ∧ b < hi) : Rr_c lo hi v a := by
  obtain ⟨q, r, rc, fo, fc, v2, c2, ha, hn, hc, ⟨o1, o2, o3, o4⟩, x0, x1⟩ := h
  have no : ∀ b, Off lo hi b → ¬ S b := fun b ho hs => by have := hS b hs; unfold Off at ho; omega
  exact ⟨q, r, rc, fo, fc, v2, c2, (k.block _ (lt_of_heap ha) (no a o1)).trans ha, hn.kp k (no q o2) (no r o3), hc, ⟨o1, o2, o3, o4⟩, k.cell' x0 (no v2 o4), k.cell' x1 (no v2 o4)⟩
theorem Rr_c.get0 {lo hi : Nat} {u : World} {a : Nat} (h : Rr_c lo hi u a) : GetA u a 0 5 := by
  obtain ⟨q, r, rc, fo, fc, v2, c2, ha, hn, hc, -, x0, x1⟩ := h
  exact getA_0 (by decide) ha hn (by decide) (by decide) hc x0
theorem Rr_c.get1 {lo hi : Nat} {u : World} {a : Nat} (h : Rr_c lo hi u a) : GetA u a 1 6 := by
  obtain ⟨q, r, rc, fo, fc, v2, c2, ha, hn, hc, -, x0, x1⟩ := h
  exact getA_1 (by decide) ha hn (by decide) (by decide) hc x1
theorem op_c (z fb fcc xb xc : Nat) (ao : Option Addr) (ca : Nat) (qb bc v2 c2 : Nat) (W : World) (hz : z ≤ W.heap.size) (hv2 : v2 < z) (hf : W.heap[fb]? = some (.cells #[.string nmA, .bool false, .int .i64 3, .int .i64 0, .int .i64 0, .int .i64 0, .slice ao 0 ca] 27)) (hx : W.heap[xb]? = some (.cells #[.int .i64 2, .int .i64 0, .int .i64 0, .slice (some ⟨qb, 0, none⟩) 2 bc, .slice none 0 0, .slice none 0 0] 32)) (hD : DatC_c W qb v2 c2) :
    Calls Tryz.prog 17 #[.slice (some ⟨fb, 0, none⟩) 1 fcc, .agg #[.int .i64 2, .slice (some ⟨xb, 0, none⟩) 1 xc]] W fun e w' => ∃ cb a, e = .returned (.tuple #[.agg #[.int .i64 2, .slice (some ⟨cb, 0, none⟩) 1 1], .int .i64 0]) ∧ OpI W w' cb a (Rr_c z (W.heap.size + 4)) := by
  refine opened17 (Rr_c z (W.heap.size + 4)) fb fcc xb xc ao ca 2 2 0 (some ⟨qb, 0, none⟩) bc W hf hx (fun u v a S h k hS => h.kp k (fun b hb => by have := hS b hb; omega)) (fun u g hu => ?_)
  refine (open18_c qb bc v2 c2 ao ca u (hD.gr g)).mono ?_
  rintro e w' ⟨a, q, r, rc, fo, fc, rfl, g', ⟨l1, l2, l3⟩, hn, ha⟩
  have hDw := hD.gr (g.trans g' (fun _ _ h => h))
  exact ⟨a, rfl, g', q, r, rc, fo, fc, v2, c2, ha, hn, hD.n2, ⟨.inr (by omega), .inr (by omega), .inr (by omega), .inl hv2⟩, hDw.x0, hDw.x1⟩
end Go.Proofs.YtegjpmodleigeaaGreatDoor.Kit
namespace Go.Proofs.YtegjpmodleigeaaGreatDoor.Kit
open Go.RowKit Go.Shelf Go.Deep
open Go.Proofs.YtegjpmodleigeaaGreatDoor.Kd (Ans AnsV cell5 cell2)
set_option linter.unusedVariables false
set_option linter.unusedSimpArgs false
attribute [local go_sem] run_store_func
attribute [local go_sem] Oper.semAt_some
theorem mk48p (w : World) : (Instr.makeSlice 48 (.int .i64 2) (.int .i64 2)).run Tryz.prog w = .ok (.slice (some ⟨w.heap.size, 0, none⟩) 2 2) (w.alloc (.cells #[.int .i64 0, .slice none 0 0, .int .i64 0, .slice none 0 0] 59)) := by kernel_rfl
/-- behind one array; behind both -/
def St1 (W V : World) (z cb0 a0 : Nat) : Prop := Gr W V ∧ V.heap[z]? = some (.cells #[.int .i64 1, .slice (some ⟨cb0, 0, none⟩) 1 1, .int .i64 0, .slice none 0 0] 59) ∧ V.heap[cb0]? = some (.cells #[.pointer (some ⟨a0, 0, none⟩)] 79) ∧ ∃ h, z < h ∧ Rr_a z h V a0
def St2 (W V : World) (z cb0 a0 cb1 a1 : Nat) : Prop := Gr W V ∧ V.heap[z]? = some (.cells #[.int .i64 1, .slice (some ⟨cb0, 0, none⟩) 1 1, .int .i64 1, .slice (some ⟨cb1, 0, none⟩) 1 1] 59) ∧ V.heap[cb1]? = some (.cells #[.pointer (some ⟨a1, 0, none⟩)] 79) ∧ (∃ h, z < h ∧ Rr_b z h V a1) ∧ V.heap[cb0]? = some (.cells #[.pointer (some ⟨a0, 0, none⟩)] 79) ∧ ∃ h, z < h ∧ Rr_a z h V a0
theorem openedArrays8 (fb fcc xb xc : Nat) (ao : Option Addr) (ca : Nat) (qa bca va cca qb bcb vb ccb : Nat) (W : World) (hf : W.heap[fb]? = some (.cells #[.string nmA, .bool false, .int .i64 3, .int .i64 0, .int .i64 0, .int .i64 0, .slice ao 0 ca] 27)) (hx : W.heap[xb]? = some (.cells #[.int .i64 1, .int .i64 0, .int .i64 0, .slice (some ⟨qa, 0, none⟩) 2 bca, .slice none 0 0, .slice none 0 0, .int .i64 1, .int .i64 1, .int .i64 0, .slice (some ⟨qb, 0, none⟩) 2 bcb, .slice none 0 0, .slice none 0 0] 32)) (hc : 2 ≤ xc) (hDa : DatC_a W qa va cca) (hDb : DatC_b W qb vb ccb) (hva : va < W.heap.size) (hvb : vb < W.heap.size) :
    Calls Tryz.prog 8 #[.slice (some ⟨fb, 0, none⟩) 1 fcc, .slice (some ⟨xb, 0, none⟩) 2 xc] W fun e w' => ∃ cb0 a0 cb1 a1, e = .returned (.tuple #[.slice (some ⟨W.heap.size, 0, none⟩) 2 2, .int .i64 0]) ∧ St2 W w' W.heap.size cb0 a0 cb1 a1 := by
  obtain ⟨z, hz⟩ : ∃ z, W.heap.size = z := ⟨_, rfl⟩
  obtain ⟨V0, hV0⟩ : ∃ V, W.alloc (.cells #[.int .i64 0, .slice none 0 0, .int .i64 0, .slice none 0 0] 59) = V := ⟨_, rfl⟩
  have HSt0 : Hid (Gr W V0 ∧ V0.heap[z]? = some (.cells #[.int .i64 0, .slice none 0 0, .int .i64 0, .slice none 0 0] 59) ∧ True) := by
    rw [← hV0, ← hz]
    exact ⟨gr_alloc W _, heap_alloc_new W _, trivial⟩
  have HX := hidM hx
  have HFb := hidM hf
  have HDa := hidM hDa
  have HDb := hidM hDb
  have HV := hidM (And.intro hva hvb)
  have HZ := hidM hz
  have hmk := mk48p
  have hxc : (2 : Int) ≤ (xc : Int) := by omega
  clear hf hx hDa hDb hva hvb hc
  go_enter Tryz.func8, Tryz.ntmps8
  go_wp2_with fail
  (try rw [hz])
  clear hV0
  refine wp_loop_rounds 3 ?_
  obtain ⟨g0, hP0, HR0⟩ := HSt0.out
  have hx0 := (g0.block _ (lt_of_heap HX.out) id).trans HX.out
  have d00 : V0.cell? ⟨xb, 0, none⟩ = some (.int .i64 1) := by simp [World.cell?, hx0]
  have d01 : V0.cell? ⟨xb, 1, none⟩ = some (.int .i64 0) := by simp [World.cell?, hx0]
  have d02 : V0.cell? ⟨xb, 2, none⟩ = some (.int .i64 0) := by simp [World.cell?, hx0]
  have d03 : V0.cell? ⟨xb, 3, none⟩ = some (.slice (some ⟨qa, 0, none⟩) 2 bca) := by simp [World.cell?, hx0]
  have d04 : V0.cell? ⟨xb, 4, none⟩ = some (.slice none 0 0) := by simp [World.cell?, hx0]
  have d05 : V0.cell? ⟨xb, 5, none⟩ = some (.slice none 0 0) := by simp [World.cell?, hx0]
  obtain ⟨y0, hy0⟩ : ∃ y, V0.heap.size = y := ⟨_, rfl⟩
  obtain ⟨X0, hX0⟩ : ∃ X, V0.alloc (.cells #[.int .i64 1, .int .i64 0, .int .i64 0, .slice (some ⟨qa, 0, none⟩) 2 bca, .slice none 0 0, .slice none 0 0] 32) = X := ⟨_, rfl⟩
  have gX0 : Gr V0 X0 := by rw [← hX0]; exact gr_alloc V0 _
  have sX0 : X0.heap.size = y0 + 1 := by rw [← hX0, ← hy0]; simp
  have bX0 : X0.heap[y0]? = some (.cells #[.int .i64 1, .int .i64 0, .int .i64 0, .slice (some ⟨qa, 0, none⟩) 2 bca, .slice none 0 0, .slice none 0 0] 32) := by rw [← hX0, ← hy0]; exact heap_alloc_new V0 _
  obtain ⟨Z0, hZ0⟩ : ∃ Z, X0.alloc (.cells #[.int .i64 1, .int .i64 0, .int .i64 0, .slice (some ⟨qa, 0, none⟩) 2 bca, .slice none 0 0, .slice none 0 0] 32) = Z := ⟨_, rfl⟩
  have gZ0 : Gr X0 Z0 := by rw [← hZ0]; exact gr_alloc X0 _
  have bZ0 : Z0.heap[y0 + 1]? = some (.cells #[.int .i64 1, .int .i64 0, .int .i64 0, .slice (some ⟨qa, 0, none⟩) 2 bca, .slice none 0 0, .slice none 0 0] 32) := by rw [← hZ0, ← sX0]; exact heap_alloc_new X0 _
  have gVZ0 : Gr V0 Z0 := gX0.trans gZ0 (fun _ _ h => h)
  have gWZ0 : Gr W Z0 := g0.trans gVZ0 (fun _ _ h => h)
  have HO0 : Hid (Calls Tryz.prog 17 #[.slice (some ⟨fb, 0, none⟩) 1 fcc, .agg #[.int .i64 1, .slice (some ⟨y0 + 1, 0, none⟩) 1 1]] Z0 fun e w' => ∃ cb0 a0, e = .returned (.tuple #[.agg #[.int .i64 1, .slice (some ⟨cb0, 0, none⟩) 1 1], .int .i64 0]) ∧ ∃ U U', w'.alloc (.cells #[.int .i64 1, .slice (some ⟨cb0, 0, none⟩) 1 1] 59) = U ∧ (U.setCell ⟨z, 0, none⟩ (.int .i64 1)).setCell ⟨z, 1, none⟩ (.slice (some ⟨cb0, 0, none⟩) 1 1) = U' ∧ U.heap[w'.heap.size]? = some (.cells #[.int .i64 1, .slice (some ⟨cb0, 0, none⟩) 1 1] 59) ∧ U.heap[z]? = some (.cells #[.int .i64 0, .slice none 0 0, .int .i64 0, .slice none 0 0] 59) ∧ Hid (St1 W U' z cb0 a0)) := by
    refine (op_a z fb fcc (y0 + 1) 1 ao ca qa bca va cca Z0 (by have := gWZ0.size; omega) (by have := HV.out; omega) ((gWZ0.block _ (lt_of_heap HFb.out) id).trans HFb.out) bZ0 (HDa.out.gr gWZ0)).mono ?_
    rintro e w' ⟨cb0, a0, rfl, go, lcb, hcb, hr⟩
    have gU : Gr w' (w'.alloc (.cells #[.int .i64 1, .slice (some ⟨cb0, 0, none⟩) 1 1] 59)) := gr_alloc w' _
    have bU := heap_alloc_new w' (.cells #[.int .i64 1, .slice (some ⟨cb0, 0, none⟩) 1 1] 59)
    obtain ⟨U, hU⟩ : ∃ U, w'.alloc (.cells #[.int .i64 1, .slice (some ⟨cb0, 0, none⟩) 1 1] 59) = U := ⟨_, rfl⟩
    rw [hU] at gU bU
    have gVU : Gr V0 U := (gVZ0.trans go (fun _ _ h => h)).trans gU (fun _ _ h => h)
    have pU := (gVU.block _ (lt_of_heap hP0) id).trans hP0
    have ks := setAll_kp z [(0, .int .i64 1), (1, .slice (some ⟨cb0, 0, none⟩) 1 1)] U
    have kb := setAll_blk z 59 [(0, .int .i64 1), (1, .slice (some ⟨cb0, 0, none⟩) 1 1)] U _ pU
    obtain ⟨U', hU'⟩ : ∃ U', setAll U z [(0, .int .i64 1), (1, .slice (some ⟨cb0, 0, none⟩) 1 1)] = U' := ⟨_, rfl⟩
    rw [hU'] at ks kb
    have lz := lt_of_heap hP0
    have lgz := gVZ0.size
    have ez := HZ.out
    have cU : U'.heap[cb0]? = some (.cells #[.pointer (some ⟨a0, 0, none⟩)] 79) := (ks.block _ (by have := lt_of_heap hcb; have := gU.size; omega) (fun e => by have e' : cb0 = z := e; omega)).trans ((gU.block _ (lt_of_heap hcb) id).trans hcb)
    have kw : Keeps w' U' (fun b => b = z) := (gU.mono fun _ _ h => h.elim).trans ks (fun _ _ h => h)
    refine ⟨cb0, a0, rfl, U, U', hU, hU', bU, pU, ?_⟩
    refine ⟨?_, kb, cU, ⟨Z0.heap.size + 4, by omega, hr.kp kw (fun b hb => by have e' : b = z := hb; omega)⟩⟩
    · exact (g0.trans gVU (fun _ _ h => h)).trans ks (fun k hk e => by have e' : k = z := e; omega)
  obtain ⟨x00, x01, x02, x03, x04, x05⟩ := cell6 bX0
  have zx40 := frz bX0 4
  have zx50 := frz bX0 5
  have ix40 := set_idT (j := 4) (v := .slice none 0 0) bX0 rfl
  have ix50 := set_idT (j := 5) (v := .slice none 0 0) bX0 rfl
  clear hx0 gX0 bX0 gZ0 bZ0 gVZ0 gWZ0 g0 hP0 HR0 HSt0
  refine Eq.mpr (rounds_succ (n := 2)) ?_
  go_wp2_with (go_at_call 17; (try rw [hZ0]); refine HO0.out.mono ?_; rintro e w' ⟨cb0, a0, rfl, U, V1, hU, hU', bU, pU, HSt1⟩; obtain ⟨u0, u1⟩ := cell2 bU; obtain ⟨p0, p1, p2, p3⟩ := cell4 pU; have f0 := frz pU 0; have f1 := frz pU 1; clear bU pU d00 d01 d02 d03 d04 d05 x00 x01 x02 x03 x04 x05 zx40 zx50 ix40 ix50 hX0 hZ0 sX0 hy0 HO0)
  clear hU hU' u0 u1 p0 p1 p2 p3 f0 f1
  obtain ⟨g1, hP1, HR1⟩ := HSt1.out
  have hx1 := (g1.block _ (lt_of_heap HX.out) id).trans HX.out
  have d10 : V1.cell? ⟨xb, 6, none⟩ = some (.int .i64 1) := by simp [World.cell?, hx1]
  have d11 : V1.cell? ⟨xb, 7, none⟩ = some (.int .i64 1) := by simp [World.cell?, hx1]
  have d12 : V1.cell? ⟨xb, 8, none⟩ = some (.int .i64 0) := by simp [World.cell?, hx1]
  have d13 : V1.cell? ⟨xb, 9, none⟩ = some (.slice (some ⟨qb, 0, none⟩) 2 bcb) := by simp [World.cell?, hx1]
  have d14 : V1.cell? ⟨xb, 10, none⟩ = some (.slice none 0 0) := by simp [World.cell?, hx1]
  have d15 : V1.cell? ⟨xb, 11, none⟩ = some (.slice none 0 0) := by simp [World.cell?, hx1]
  obtain ⟨y1, hy1⟩ : ∃ y, V1.heap.size = y := ⟨_, rfl⟩
  obtain ⟨X1, hX1⟩ : ∃ X, V1.alloc (.cells #[.int .i64 1, .int .i64 1, .int .i64 0, .slice (some ⟨qb, 0, none⟩) 2 bcb, .slice none 0 0, .slice none 0 0] 32) = X := ⟨_, rfl⟩
  have gX1 : Gr V1 X1 := by rw [← hX1]; exact gr_alloc V1 _
  have sX1 : X1.heap.size = y1 + 1 := by rw [← hX1, ← hy1]; simp
  have bX1 : X1.heap[y1]? = some (.cells #[.int .i64 1, .int .i64 1, .int .i64 0, .slice (some ⟨qb, 0, none⟩) 2 bcb, .slice none 0 0, .slice none 0 0] 32) := by rw [← hX1, ← hy1]; exact heap_alloc_new V1 _
  obtain ⟨Z1, hZ1⟩ : ∃ Z, X1.alloc (.cells #[.int .i64 1, .int .i64 1, .int .i64 0, .slice (some ⟨qb, 0, none⟩) 2 bcb, .slice none 0 0, .slice none 0 0] 32) = Z := ⟨_, rfl⟩
  have gZ1 : Gr X1 Z1 := by rw [← hZ1]; exact gr_alloc X1 _
  have bZ1 : Z1.heap[y1 + 1]? = some (.cells #[.int .i64 1, .int .i64 1, .int .i64 0, .slice (some ⟨qb, 0, none⟩) 2 bcb, .slice none 0 0, .slice none 0 0] 32) := by rw [← hZ1, ← sX1]; exact heap_alloc_new X1 _
  have gVZ1 : Gr V1 Z1 := gX1.trans gZ1 (fun _ _ h => h)
  have gWZ1 : Gr W Z1 := g1.trans gVZ1 (fun _ _ h => h)
  have HO1 : Hid (Calls Tryz.prog 17 #[.slice (some ⟨fb, 0, none⟩) 1 fcc, .agg #[.int .i64 1, .slice (some ⟨y1 + 1, 0, none⟩) 1 1]] Z1 fun e w' => ∃ cb1 a1, e = .returned (.tuple #[.agg #[.int .i64 1, .slice (some ⟨cb1, 0, none⟩) 1 1], .int .i64 0]) ∧ ∃ U U', w'.alloc (.cells #[.int .i64 1, .slice (some ⟨cb1, 0, none⟩) 1 1] 59) = U ∧ (U.setCell ⟨z, 2, none⟩ (.int .i64 1)).setCell ⟨z, 3, none⟩ (.slice (some ⟨cb1, 0, none⟩) 1 1) = U' ∧ U.heap[w'.heap.size]? = some (.cells #[.int .i64 1, .slice (some ⟨cb1, 0, none⟩) 1 1] 59) ∧ U.heap[z]? = some (.cells #[.int .i64 1, .slice (some ⟨cb0, 0, none⟩) 1 1, .int .i64 0, .slice none 0 0] 59) ∧ Hid (St2 W U' z cb0 a0 cb1 a1)) := by
    refine (op_b z fb fcc (y1 + 1) 1 ao ca qb bcb vb ccb Z1 (by have := gWZ1.size; omega) (by have := HV.out; omega) ((gWZ1.block _ (lt_of_heap HFb.out) id).trans HFb.out) bZ1 (HDb.out.gr gWZ1)).mono ?_
    rintro e w' ⟨cb1, a1, rfl, go, lcb, hcb, hr⟩
    have gU : Gr w' (w'.alloc (.cells #[.int .i64 1, .slice (some ⟨cb1, 0, none⟩) 1 1] 59)) := gr_alloc w' _
    have bU := heap_alloc_new w' (.cells #[.int .i64 1, .slice (some ⟨cb1, 0, none⟩) 1 1] 59)
    obtain ⟨U, hU⟩ : ∃ U, w'.alloc (.cells #[.int .i64 1, .slice (some ⟨cb1, 0, none⟩) 1 1] 59) = U := ⟨_, rfl⟩
    rw [hU] at gU bU
    have gVU : Gr V1 U := (gVZ1.trans go (fun _ _ h => h)).trans gU (fun _ _ h => h)
    have pU := (gVU.block _ (lt_of_heap hP1) id).trans hP1
    have ks := setAll_kp z [(2, .int .i64 1), (3, .slice (some ⟨cb1, 0, none⟩) 1 1)] U
    have kb := setAll_blk z 59 [(2, .int .i64 1), (3, .slice (some ⟨cb1, 0, none⟩) 1 1)] U _ pU
    obtain ⟨U', hU'⟩ : ∃ U', setAll U z [(2, .int .i64 1), (3, .slice (some ⟨cb1, 0, none⟩) 1 1)] = U' := ⟨_, rfl⟩
    rw [hU'] at ks kb
    have lz := lt_of_heap hP1
    have lgz := gVZ1.size
    have ez := HZ.out
    have cU : U'.heap[cb1]? = some (.cells #[.pointer (some ⟨a1, 0, none⟩)] 79) := (ks.block _ (by have := lt_of_heap hcb; have := gU.size; omega) (fun e => by have e' : cb1 = z := e; omega)).trans ((gU.block _ (lt_of_heap hcb) id).trans hcb)
    have kw : Keeps w' U' (fun b => b = z) := (gU.mono fun _ _ h => h.elim).trans ks (fun _ _ h => h)
    refine ⟨cb1, a1, rfl, U, U', hU, hU', bU, pU, ?_⟩
    refine ⟨?_, kb, cU, ⟨Z1.heap.size + 4, by omega, hr.kp kw (fun b hb => by have e' : b = z := hb; omega)⟩, ?_⟩
    · exact (g1.trans gVU (fun _ _ h => h)).trans ks (fun k hk e => by have e' : k = z := e; omega)
    · obtain ⟨hc0, h0, hr0⟩ := HR1
      have kv : Keeps V1 U' (fun b => b = z) := (gVU.mono fun _ _ h => h.elim).trans ks (fun _ _ h => h)
      have hne : cb0 ≠ z := fun e => by rw [e, hP1] at hc0; cases hc0
      refine ⟨(kv.block _ (lt_of_heap hc0) hne).trans hc0, h0, hr0.1, hr0.2.kp kv (fun b hb => ?_)⟩
      have e' : b = z := hb
      have := hr0.1
      omega
  obtain ⟨x10, x11, x12, x13, x14, x15⟩ := cell6 bX1
  have zx41 := frz bX1 4
  have zx51 := frz bX1 5
  have ix41 := set_idT (j := 4) (v := .slice none 0 0) bX1 rfl
  have ix51 := set_idT (j := 5) (v := .slice none 0 0) bX1 rfl
  clear hx1 gX1 bX1 gZ1 bZ1 gVZ1 gWZ1 g1 hP1 HR1 HSt1
  refine Eq.mpr (rounds_succ (n := 1)) ?_
  go_wp2_with (go_at_call 17; (try rw [hZ1]); refine HO1.out.mono ?_; rintro e w' ⟨cb1, a1, rfl, U, V2, hU, hU', bU, pU, HSt2⟩; obtain ⟨u0, u1⟩ := cell2 bU; obtain ⟨p0, p1, p2, p3⟩ := cell4 pU; have f0 := frz pU 2; have f1 := frz pU 3; clear bU pU d10 d11 d12 d13 d14 d15 x10 x11 x12 x13 x14 x15 zx41 zx51 ix41 ix51 hX1 hZ1 sX1 hy1 HO1)
  clear hU hU' u0 u1 p0 p1 p2 p3 f0 f1
  refine Eq.mpr (rounds_succ (n := 0)) ?_
  go_wp2_with fail
  go_ret2
  rw [HZ.out]
  exact ⟨cb0, a0, cb1, a1, rfl, HSt2.out⟩
theorem openedBatch12 (fb fcc xb xc : Nat) (ao : Option Addr) (ca : Nat) (qb bc v2 c2 : Nat) (W : World) (hf : W.heap[fb]? = some (.cells #[.string nmA, .bool false, .int .i64 3, .int .i64 0, .int .i64 0, .int .i64 0, .slice ao 0 ca] 27)) (hx : W.heap[xb]? = some (.cells #[.int .i64 2, .int .i64 0, .int .i64 0, .slice (some ⟨qb, 0, none⟩) 2 bc, .slice none 0 0, .slice none 0 0] 32)) (hD : DatC_c W qb v2 c2) (hv : v2 < W.heap.size) :
    Calls Tryz.prog 12 #[.slice (some ⟨fb, 0, none⟩) 1 fcc, .agg #[.int .i64 2, .slice (some ⟨xb, 0, none⟩) 1 xc]] W fun e w' => ∃ cb a, e = .returned (.tuple #[.agg #[.int .i64 2, .slice (some ⟨cb, 0, none⟩) 1 1], .int .i64 0]) ∧ Gr W w' ∧ w'.heap[cb]? = some (.cells #[.pointer (some ⟨a, 0, none⟩)] 79) ∧ GetA w' a 0 5 ∧ GetA w' a 1 6 := by
  obtain ⟨z, hz⟩ : ∃ z, W.heap.size = z := ⟨_, rfl⟩
  obtain ⟨A1, hA1⟩ : ∃ A, W.alloc (.cells #[.int .i64 2, .slice (some ⟨xb, 0, none⟩) 1 xc] 43) = A := ⟨_, rfl⟩
  have g1 : Gr W A1 := by rw [← hA1]; exact gr_alloc W _
  have s1 : A1.heap.size = z + 1 := by rw [← hA1, ← hz]; simp
  have b1 : A1.heap[z]? = some (.cells #[.int .i64 2, .slice (some ⟨xb, 0, none⟩) 1 xc] 43) := by rw [← hA1, ← hz]; exact heap_alloc_new W _
  obtain ⟨A2, hA2⟩ : ∃ A, A1.alloc (.cells #[.int .i64 0, .slice none 0 0] 59) = A := ⟨_, rfl⟩
  have g2 : Gr A1 A2 := by rw [← hA2]; exact gr_alloc A1 _
  have b2 : A2.heap[z + 1]? = some (.cells #[.int .i64 0, .slice none 0 0] 59) := by rw [← hA2, ← s1]; exact heap_alloc_new A1 _
  have gW : Gr W A2 := g1.trans g2 (fun _ _ h => h)
  have b12 := (g2.block _ (lt_of_heap b1) id).trans b1
  have HH := hidM (hasColumns23 (some ⟨fb, 0, none⟩) fcc xb xc (some ⟨qb, 0, none⟩) bc A2 ((gW.block _ (lt_of_heap hx) id).trans hx))
  have HBX : Hid (∀ u, Gr A2 u → u.cell? ⟨z, 0, none⟩ = some (.int .i64 2) ∧ u.cell? ⟨z, 1, none⟩ = some (.slice (some ⟨xb, 0, none⟩) 1 xc)) := fun u g => cell2 ((g.block _ (lt_of_heap b12) id).trans b12)
  have HO : Hid (∀ u, Gr A2 u → Calls Tryz.prog 17 #[.slice (some ⟨fb, 0, none⟩) 1 fcc, .agg #[.int .i64 2, .slice (some ⟨xb, 0, none⟩) 1 xc]] u fun e w' => ∃ cb a, e = .returned (.tuple #[.agg #[.int .i64 2, .slice (some ⟨cb, 0, none⟩) 1 1], .int .i64 0]) ∧ w'.heap[z + 1]? = some (.cells #[.int .i64 0, .slice none 0 0] 59) ∧ ∃ U, (w'.setCell ⟨z + 1, 0, none⟩ (.int .i64 2)).setCell ⟨z + 1, 1, none⟩ (.slice (some ⟨cb, 0, none⟩) 1 1) = U ∧ Hid (U.heap[z + 1]? = some (.cells #[.int .i64 2, .slice (some ⟨cb, 0, none⟩) 1 1] 59) ∧ Gr W U ∧ U.heap[cb]? = some (.cells #[.pointer (some ⟨a, 0, none⟩)] 79) ∧ GetA U a 0 5 ∧ GetA U a 1 6)) := fun u g => by
    have gu := gW.trans g (fun _ _ h => h)
    have lb2 := lt_of_heap b2
    have lu := g.size
    refine (op_c z fb fcc xb xc ao ca qb bc v2 c2 u (by omega) (by omega) ((gu.block _ (lt_of_heap hf) id).trans hf) ((gu.block _ (lt_of_heap hx) id).trans hx) (hD.gr gu)).mono ?_
    rintro e w' ⟨cb, a, rfl, go, lcb, hcb, hr⟩
    have bw := ((g.trans go (fun _ _ h => h)).block _ (lt_of_heap b2) id).trans b2
    have ks := setAll_kp (z + 1) [(0, .int .i64 2), (1, .slice (some ⟨cb, 0, none⟩) 1 1)] w'
    have kb := setAll_blk (z + 1) 59 [(0, .int .i64 2), (1, .slice (some ⟨cb, 0, none⟩) 1 1)] w' _ bw
    obtain ⟨U, hU⟩ : ∃ U, setAll w' (z + 1) [(0, .int .i64 2), (1, .slice (some ⟨cb, 0, none⟩) 1 1)] = U := ⟨_, rfl⟩
    rw [hU] at ks kb
    have hrU := hr.kp ks (fun b hb => by have e' : b = z + 1 := hb; omega)
    refine ⟨cb, a, rfl, bw, U, hU, kb, (gu.trans go (fun _ _ h => h)).trans ks (fun j hj e => by have e' : j = z + 1 := e; omega), (ks.block _ (lt_of_heap hcb) (fun e => by have e' : cb = z + 1 := e; omega)).trans hcb, hrU.get0, hrU.get1⟩
  obtain ⟨q0, q1⟩ := HBX.out A2 (Keeps.refl _ _)
  clear hf hx hD hv g1 b1 g2 b2 gW b12
  go_enter Tryz.func12, Tryz.ntmps12
  go_wp2_with (first
    | (go_at_call 23; refine HH.out.mono ?_; rintro e w1 ⟨rfl, g1⟩; clear q0 q1; obtain ⟨q0, q1⟩ := HBX.out w1 g1; have HO1 := hidM (HO.out w1 g1))
    | (go_at_call 17; refine HO1.out.mono ?_; rintro e w2 ⟨cb, a, rfl, bw, U, hU, HE⟩; obtain ⟨y0, y1⟩ := cell2 bw; have f0 := frz bw 0; have f1 := frz bw 1; clear q0 q1 bw HO1))
  (try simp only [Exit.inBlock, Exit.then])
  refine bodyPost_ret (results_cell59t rfl rfl (by with_reducible exact HE.out.1) (by kernel_rfl)) rfl ?_
  exact ⟨cb, a, rfl, HE.out.2⟩
end Go.Proofs.YtegjpmodleigeaaGreatDoor.Kit
