import Derived.Test.YtdihbfjjddmbiaaGreatDoorXI
import Derived.Test.YtdihbfjjddmbiaaGreatDoorOA
set_option maxRecDepth 100000
set_option maxHeartbeats 4000000
namespace Go.Proofs.YtdihbfjjddmbiaaGreatDoor.Kit
open Go.RowKit Go.Shelf Go.Deep
set_option linter.unusedVariables false
attribute [local go_sem] run_store_func
theorem same_fault (e f : Int) (W : World) : Calls Tryz.prog 27 #[.agg #[.int .i64 e, .slice none 0 0, .int .i64 f], .agg #[.int .i64 e, .slice none 0 0, .int .i64 f]] W fun x w' => x = .returned (.bool true) ∧ Gr W w' := by
  obtain ⟨b, hb⟩ : ∃ b, b = W.heap.size := ⟨_, rfl⟩
  obtain ⟨V, hV⟩ := ex ((W.alloc (.cells #[.int .i64 e, .slice none 0 0, .int .i64 f] 67)).alloc (.cells #[.int .i64 e, .slice none 0 0, .int .i64 f] 67))
  have c1 := heap_alloc_new W (.cells #[.int .i64 e, .slice none 0 0, .int .i64 f] 67)
  rw [← hb] at c1
  have g2 := gr_alloc (W.alloc (.cells #[.int .i64 e, .slice none 0 0, .int .i64 f] 67)) (.cells #[.int .i64 e, .slice none 0 0, .int .i64 f] 67)
  have c1' := (g2.block b (lt_of_heap c1) id).trans c1
  rw [hV] at c1'
  have HG : Hid (Gr W V) := by show Keeps _ _ _; rw [← hV]; exact (gr_alloc W _).alloc _
  have t1 : V.cell? ⟨b, 1, none⟩ = some (.slice none 0 0) := by simp [World.cell?, c1']
  have HV := hidM hV
  have Hb := hidM hb
  clear c1 g2 c1' hV hb
  go_enter Tryz.func27, Tryz.ntmps27
  go_wp2
  rw [HV.out, ← Hb.out]
  clear HV
  go_loopw [5] (fun p wr => p = .int .i64 0 ∧ Hid (wr = V)) (fun _ _ => 0)
  case atStart => exact ⟨rfl, rfl⟩
  case round =>
    obtain ⟨rfl, Hw⟩ := hrel
    have hw := Hw.out
    subst hw
    go_wp2_with fail
    go_ret
    exact ⟨rfl, HG.out⟩
end Go.Proofs.YtdihbfjjddmbiaaGreatDoor.Kit
namespace Go.Proofs.YtdihbfjjddmbiaaGreatDoor.Kit
open Go.RowKit Go.Shelf Go.Deep
set_option linter.unusedVariables false
set_option linter.unusedSimpArgs false
def zeroHD : HD := ⟨0, [], [], 0, false, 0, 0, [], []⟩
def hdR : Except (Int × Nat) HD → HD
  | .ok h => h
  | .error _ => zeroHD
def feR : Except (Int × Nat) HD → Int
  | .ok _ => 0
  | .error er => er.1
def faR : Except (Int × Nat) HD → Int
  | .ok _ => 0
  | .error er => er.2
theorem zero_rd : HRd zeroHD := ⟨by cases (64 : Nat) <;> simp [deep, zeroHD], by simp [zeroHD], by simp [zeroHD], by simp [zeroHD], by simp [zeroHD]⟩
theorem hdR_rd (B : List UInt8) : HRd (hdR (getR Yh B)) := by
  cases h : getR Yh B with
  | ok x => exact (get_right h).1
  | error e => exact zero_rd
theorem get_form {W w' : World} {r : Except (Int × Nat) HD} {e : Ending} (h : GetQ W r e w') : ∃ fo fc no nc vo vc uo uc, e = .returned (.tuple #[.agg #[.int .i64 ((hdR r).kind : Int), .slice fo (hdR r).fs.length fc, .slice no (hdR r).ns.length nc, .int .i64 ((hdR r).id : Int), .bool (hdR r).delta, .int .i64 ((hdR r).rows : Int), .int .i64 ((hdR r).press : Int), .slice vo (hdR r).nds.length vc, .slice uo (hdR r).sls.length uc], .agg #[.int .i64 (feR r), .slice none 0 0, .int .i64 (faR r)]]) ∧ Gr W w' ∧ HV9 W w' (hdR r) (.agg #[.int .i64 ((hdR r).kind : Int), .slice fo (hdR r).fs.length fc, .slice no (hdR r).ns.length nc, .int .i64 ((hdR r).id : Int), .bool (hdR r).delta, .int .i64 ((hdR r).rows : Int), .int .i64 ((hdR r).press : Int), .slice vo (hdR r).nds.length vc, .slice uo (hdR r).sls.length uc]) := by
  obtain ⟨g, h⟩ := h
  cases r with
  | ok x =>
    obtain ⟨v, rfl, hv⟩ := h
    obtain ⟨fo, fc, no, nc, vo, vc, uo, uc, rfl, hr⟩ := hv
    exact ⟨fo, fc, no, nc, vo, vc, uo, uc, rfl, g, fo, fc, no, nc, vo, vc, uo, uc, rfl, hr⟩
  | error er =>
    subst h
    exact ⟨none, 0, none, 0, none, 0, none, 0, rfl, g, none, 0, none, 0, none, 0, none, 0, rfl, Nat.le_refl _, RowI.nil _ _ _ _, LAt.nil _ _ _ _ _, LAt.nil _ _ _ _ _, LAt.nil _ _ _ _ _⟩
theorem HV9.at_ {U V W : World} {x : HD} {v : Value} (h : HV9 U V x v) (k : ∀ z, U.heap.size ≤ z → z < V.heap.size → W.heap[z]? = V.heap[z]?) (hs : V.heap.size ≤ W.heap.size) : HV9 U W x v := by
  obtain ⟨fo, fc, no, nc, vo, vc, uo, uc, e, hcap, hrow, hns, hnd, hsl⟩ := h
  refine ⟨fo, fc, no, nc, vo, vc, uo, uc, e, hcap, (hrow.kept k).wide (Nat.le_refl _) hs, ?_, ?_, ?_⟩
  · exact ⟨row_kp hns.own fun g e => k g (hns.new g e) (own_lt hns.own g e), hns.new⟩
  · exact ⟨row_kp hnd.own fun g e => k g (hnd.new g e) (own_lt hnd.own g e), hnd.new⟩
  exact ⟨row_kp hsl.own fun g e => k g (hsl.new g e) (own_lt hsl.own g e), hsl.new⟩
theorem heads_same {U1 U2 W : World} {x : HD} {v1 v2 : Value} (hx : HRd x) (hT : Tab W) (h1 : HV9 U1 W x v1) (h2 : HV9 U2 W x v2) : Calls Tryz.prog 23 #[v1, v2] W fun e w' => e = .returned (.bool true) ∧ Gr W w' := by
  obtain ⟨fo, no, vo, uo, cf, cn, vc, uc, rfl, hH⟩ := h1.headx hT hx
  obtain ⟨fo', no', vo', uo', cf', cn', vc', uc', rfl, hH'⟩ := h2.headx hT hx
  exact same_head hH hH' W (Keeps.refl _ _)
end Go.Proofs.YtdihbfjjddmbiaaGreatDoor.Kit
