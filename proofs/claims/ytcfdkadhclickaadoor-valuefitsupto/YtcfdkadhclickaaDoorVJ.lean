import Derived.Test.YtcfdkadhclickaaDoorVG
import Derived.Deep.RegionHeld3
namespace Go.Proofs.YtcfdkadhclickaaDoor.Kit
open Go.RowKit Go.Shelf Go.Deep
set_option linter.unusedVariables false
attribute [local go_sem] run_store_func

theorem keep9 {V v1 : World} {sb : Nat} {l : Int} {a b kb ko : Nat} {x y c0 c1 c2 c3 c4 c5 c6 : Value} (h : Sc V v1 sb l) (ha : a ≠ sb) (hb : b ≠ sb) (hk : kb ≠ sb)
    (hc : V.cell? ⟨a, 4, none⟩ = some x ∧ V.cell? ⟨b, 3, none⟩ = some y ∧ V.cell? ⟨kb, ko, none⟩ = some c0 ∧ V.cell? ⟨kb, ko + 1, none⟩ = some c1 ∧ V.cell? ⟨kb, ko + 2, none⟩ = some c2 ∧ V.cell? ⟨kb, ko + 3, none⟩ = some c3 ∧ V.cell? ⟨kb, ko + 4, none⟩ = some c4 ∧ V.cell? ⟨kb, ko + 5, none⟩ = some c5 ∧ V.cell? ⟨kb, ko + 6, none⟩ = some c6) :
    v1.cell? ⟨a, 4, none⟩ = some x ∧ v1.cell? ⟨b, 3, none⟩ = some y ∧ v1.cell? ⟨kb, ko, none⟩ = some c0 ∧ v1.cell? ⟨kb, ko + 1, none⟩ = some c1 ∧ v1.cell? ⟨kb, ko + 2, none⟩ = some c2 ∧ v1.cell? ⟨kb, ko + 3, none⟩ = some c3 ∧ v1.cell? ⟨kb, ko + 4, none⟩ = some c4 ∧ v1.cell? ⟨kb, ko + 5, none⟩ = some c5 ∧ v1.cell? ⟨kb, ko + 6, none⟩ = some c6 :=
  ⟨h.other hc.1 ha, h.other hc.2.1 hb, h.other hc.2.2.1 hk, h.other hc.2.2.2.1 hk, h.other hc.2.2.2.2.1 hk, h.other hc.2.2.2.2.2.1 hk, h.other hc.2.2.2.2.2.2.1 hk, h.other hc.2.2.2.2.2.2.2.1 hk, h.other hc.2.2.2.2.2.2.2.2 hk⟩
theorem keep12 {V v1 : World} {sb : Nat} {l : Int} {a b kb ko : Nat} {x y0 y1 y2 y3 c0 c1 c2 c3 c4 c5 c6 : Value} (h : Sc V v1 sb l) (ha : a ≠ sb) (hb : b ≠ sb) (hk : kb ≠ sb)
    (hc : V.cell? ⟨a, 4, none⟩ = some x ∧ V.cell? ⟨b, 0, none⟩ = some y0 ∧ V.cell? ⟨b, 1, none⟩ = some y1 ∧ V.cell? ⟨b, 2, none⟩ = some y2 ∧ V.cell? ⟨b, 3, none⟩ = some y3 ∧ V.cell? ⟨kb, ko, none⟩ = some c0 ∧ V.cell? ⟨kb, ko + 1, none⟩ = some c1 ∧ V.cell? ⟨kb, ko + 2, none⟩ = some c2 ∧ V.cell? ⟨kb, ko + 3, none⟩ = some c3 ∧ V.cell? ⟨kb, ko + 4, none⟩ = some c4 ∧ V.cell? ⟨kb, ko + 5, none⟩ = some c5 ∧ V.cell? ⟨kb, ko + 6, none⟩ = some c6) :
    v1.cell? ⟨a, 4, none⟩ = some x ∧ v1.cell? ⟨b, 0, none⟩ = some y0 ∧ v1.cell? ⟨b, 1, none⟩ = some y1 ∧ v1.cell? ⟨b, 2, none⟩ = some y2 ∧ v1.cell? ⟨b, 3, none⟩ = some y3 ∧ v1.cell? ⟨kb, ko, none⟩ = some c0 ∧ v1.cell? ⟨kb, ko + 1, none⟩ = some c1 ∧ v1.cell? ⟨kb, ko + 2, none⟩ = some c2 ∧ v1.cell? ⟨kb, ko + 3, none⟩ = some c3 ∧ v1.cell? ⟨kb, ko + 4, none⟩ = some c4 ∧ v1.cell? ⟨kb, ko + 5, none⟩ = some c5 ∧ v1.cell? ⟨kb, ko + 6, none⟩ = some c6 :=
  ⟨h.other hc.1 ha, h.other hc.2.1 hb, h.other hc.2.2.1 hb, h.other hc.2.2.2.1 hb, h.other hc.2.2.2.2.1 hb, h.other hc.2.2.2.2.2.1 hk, h.other hc.2.2.2.2.2.2.1 hk, h.other hc.2.2.2.2.2.2.2.1 hk, h.other hc.2.2.2.2.2.2.2.2.1 hk, h.other hc.2.2.2.2.2.2.2.2.2.1 hk, h.other hc.2.2.2.2.2.2.2.2.2.2.1 hk, h.other hc.2.2.2.2.2.2.2.2.2.2.2 hk⟩
theorem keep10 {V v1 : World} {sb : Nat} {l : Int} {a b kb ko : Nat} {q x y c0 c1 c2 c3 c4 c5 c6 : Value} (h : Sc V v1 sb l) (ha : a ≠ sb) (hb : b ≠ sb) (hk : kb ≠ sb)
    (hc : V.cell? ⟨a, 1, none⟩ = some q ∧ V.cell? ⟨a, 4, none⟩ = some x ∧ V.cell? ⟨b, 3, none⟩ = some y ∧ V.cell? ⟨kb, ko, none⟩ = some c0 ∧ V.cell? ⟨kb, ko + 1, none⟩ = some c1 ∧ V.cell? ⟨kb, ko + 2, none⟩ = some c2 ∧ V.cell? ⟨kb, ko + 3, none⟩ = some c3 ∧ V.cell? ⟨kb, ko + 4, none⟩ = some c4 ∧ V.cell? ⟨kb, ko + 5, none⟩ = some c5 ∧ V.cell? ⟨kb, ko + 6, none⟩ = some c6) :
    v1.cell? ⟨a, 1, none⟩ = some q ∧ v1.cell? ⟨a, 4, none⟩ = some x ∧ v1.cell? ⟨b, 3, none⟩ = some y ∧ v1.cell? ⟨kb, ko, none⟩ = some c0 ∧ v1.cell? ⟨kb, ko + 1, none⟩ = some c1 ∧ v1.cell? ⟨kb, ko + 2, none⟩ = some c2 ∧ v1.cell? ⟨kb, ko + 3, none⟩ = some c3 ∧ v1.cell? ⟨kb, ko + 4, none⟩ = some c4 ∧ v1.cell? ⟨kb, ko + 5, none⟩ = some c5 ∧ v1.cell? ⟨kb, ko + 6, none⟩ = some c6 :=
  ⟨h.other hc.1 ha, h.other hc.2.1 ha, h.other hc.2.2.1 hb, h.other hc.2.2.2.1 hk, h.other hc.2.2.2.2.1 hk, h.other hc.2.2.2.2.2.1 hk, h.other hc.2.2.2.2.2.2.1 hk, h.other hc.2.2.2.2.2.2.2.1 hk, h.other hc.2.2.2.2.2.2.2.2.1 hk, h.other hc.2.2.2.2.2.2.2.2.2 hk⟩
set_option maxRecDepth 100000 in
set_option maxHeartbeats 2000000 in
theorem type15 (f0 : ByteArray) (f1 : Bool) (f3 f4 f5 : Int) (n ca : Nat) (kb ko : Nat) (k0 : ByteArray) (k1 : Bool) (k2 k3 k4 k5 : Int) (kp : Option Addr) (kn kc : Nat) (v2 : ByteArray) (vo : Option Addr) (m vc : Nat) (w W : World) (sb : Nat) (l : Int) (x : Option Int) (r : Int → Option Int) (hs : Sc w W sb l) (hl0 : 0 ≤ l) (hl : l ≤ 4194304) (hn : 0 < n) (hx : x = r l) (hkb : kb ≠ sb) (hv : v2.toList.isEmpty = true) (g0 : W.cell? ⟨kb, ko, none⟩ = some (.string k0)) (g1 : W.cell? ⟨kb, ko + 1, none⟩ = some (.bool k1)) (g2 : W.cell? ⟨kb, ko + 2, none⟩ = some (.int .i64 k2)) (g3 : W.cell? ⟨kb, ko + 3, none⟩ = some (.int .i64 k3)) (g4 : W.cell? ⟨kb, ko + 4, none⟩ = some (.int .i64 k4)) (g5 : W.cell? ⟨kb, ko + 5, none⟩ = some (.int .i64 k5)) (g6 : W.cell? ⟨kb, ko + 6, none⟩ = some (.slice kp kn kc)) (hF : FitC w sb 90 (.agg #[.string k0, .bool k1, .int .i64 k2, .int .i64 k3, .int .i64 k4, .int .i64 k5, .slice kp kn kc]) (.slice vo m vc) r) :
    Calls Tryd.prog 70 #[.pointer (some ⟨sb, 0, none⟩), .agg #[.string f0, .bool f1, .int .i64 15, .int .i64 f3, .int .i64 f4, .int .i64 f5, .slice (some ⟨kb, ko, none⟩) n ca], .agg #[.bool false, .int .i64 0, .string v2, .slice vo m vc]] W fun e w' => FitQ W sb x e w' := by
  obtain ⟨V, hV⟩ : ∃ V, (((W.alloc (.cells #[.string f0, .bool f1, .int .i64 15, .int .i64 f3, .int .i64 f4, .int .i64 f5, .slice (some ⟨kb, ko, none⟩) n ca] 26)).alloc (.cells #[.bool false, .int .i64 0, .string v2, .slice vo m vc] 29)).alloc (.cells #[.int .i64 15, .int .i64 f3, .int .i64 f4, .int .i64 f5, .slice (some ⟨kb, ko, none⟩) n ca] 24)).drew = V := ⟨_, rfl⟩
  have hA := alloc3 W (.cells #[.string f0, .bool f1, .int .i64 15, .int .i64 f3, .int .i64 f4, .int .i64 f5, .slice (some ⟨kb, ko, none⟩) n ca] 26) (.cells #[.bool false, .int .i64 0, .string v2, .slice vo m vc] 29) (.cells #[.int .i64 15, .int .i64 f3, .int .i64 f4, .int .i64 f5, .slice (some ⟨kb, ko, none⟩) n ca] 24)
  rw [hV] at hA
  obtain ⟨_, b4, b5, gr⟩ := hA
  obtain ⟨p0, p1, p2, p3⟩ := B4.cells b4
  obtain ⟨q0, q1, q2, q3, q4⟩ := B5.cells b5
  have g0 := gr.cell' g0 id
  have g1 := gr.cell' g1 id
  have g2 := gr.cell' g2 id
  have g3 := gr.cell' g3 id
  have g4 := gr.cell' g4 id
  have g5 := gr.cell' g5 id
  have g6 := gr.cell' g6 id
  have HS := hidM (hs.self.gr gr)
  have HK := hidM hs.kp
  have HF := hidM hF
  have HX := hidM hx
  have hn' : (0 : Int) < (n : Int) := by omega
  have hlt := hs.lt
  have hN := hidM (And.intro (show W.heap.size + 1 + 1 ≠ sb by omega) (And.intro (show W.heap.size + 1 ≠ sb by omega) hkb))
  have HC : Hid (V.drew.cell? ⟨W.heap.size + 1 + 1, 4, none⟩ = some (.slice (some ⟨kb, ko, none⟩) n ca) ∧ V.drew.cell? ⟨W.heap.size + 1, 3, none⟩ = some (.slice vo m vc) ∧ V.drew.cell? ⟨kb, ko, none⟩ = some (.string k0) ∧ V.drew.cell? ⟨kb, ko + 1, none⟩ = some (.bool k1) ∧ V.drew.cell? ⟨kb, ko + 2, none⟩ = some (.int .i64 k2) ∧ V.drew.cell? ⟨kb, ko + 3, none⟩ = some (.int .i64 k3) ∧ V.drew.cell? ⟨kb, ko + 4, none⟩ = some (.int .i64 k4) ∧ V.drew.cell? ⟨kb, ko + 5, none⟩ = some (.int .i64 k5) ∧ V.drew.cell? ⟨kb, ko + 6, none⟩ = some (.slice kp kn kc)) := ⟨q4, p3, g0, g1, g2, g3, g4, g5, g6⟩
  have HL := hidM (And.intro hl0 hl)
  clear b4 b5 gr hs hF hx p2 hlt hkb hl0 hl
  go_enter Tryd.func70, Tryd.ntmps70
  go_wp2
  go_region
  all_goals
    go_wp2
    clear hV p0 p1 p3 q0 q1 q2 q3 q4 g0 g1 g2 g3 g4 g5 g6
    go_region_held3 (fun w' => w'.cell? ⟨W.heap.size + 1 + 1, 4, none⟩ = some (.slice (some ⟨kb, ko, none⟩) n ca) ∧ w'.cell? ⟨W.heap.size + 1, 3, none⟩ = some (.slice vo m vc) ∧ w'.cell? ⟨kb, ko, none⟩ = some (.string k0) ∧ w'.cell? ⟨kb, ko + 1, none⟩ = some (.bool k1) ∧ w'.cell? ⟨kb, ko + 2, none⟩ = some (.int .i64 k2) ∧ w'.cell? ⟨kb, ko + 3, none⟩ = some (.int .i64 k3) ∧ w'.cell? ⟨kb, ko + 4, none⟩ = some (.int .i64 k4) ∧ w'.cell? ⟨kb, ko + 5, none⟩ = some (.int .i64 k5) ∧ w'.cell? ⟨kb, ko + 6, none⟩ = some (.slice kp kn kc)) (first | with_reducible exact HC.out | with_reducible exact keep9 HE.out.1 hN.out.1 hN.out.2.1 hN.out.2.2 HC.out) ((go_at_call 90; refine Calls.mono (HF.out _ _ ((HS.out.drew).base HK.out) HL.out.1 HL.out.2) ?_; rintro e v1' ⟨l', rfl, hs', hr⟩; have HE := hidM (And.intro hs' hr); clear hs' hr))
  all_goals
    go_wp2_with fail
    go_ret
    exact .of HX.out rfl (HE.out.1.base HS.out.drew.kp) HE.out.2
set_option maxRecDepth 100000 in
set_option maxHeartbeats 2000000 in
theorem type16 (f0 : ByteArray) (f1 : Bool) (f3 f4 f5 : Int) (n ca : Nat) (kb ko : Nat) (k0 : ByteArray) (k1 : Bool) (k2 k3 k4 k5 : Int) (kp : Option Addr) (kn kc : Nat) (v2 : ByteArray) (vo : Option Addr) (m vc : Nat) (w W : World) (sb : Nat) (l : Int) (x : Option Int) (r : Int → Option Int) (hs : Sc w W sb l) (hl0 : 0 ≤ l) (hl : l ≤ 4194304) (hn : 0 < n) (hx : x = r l) (hkb : kb ≠ sb) (hv : v2.toList.isEmpty = true) (hm : ((m : Int) == f3) = true) (g0 : W.cell? ⟨kb, ko, none⟩ = some (.string k0)) (g1 : W.cell? ⟨kb, ko + 1, none⟩ = some (.bool k1)) (g2 : W.cell? ⟨kb, ko + 2, none⟩ = some (.int .i64 k2)) (g3 : W.cell? ⟨kb, ko + 3, none⟩ = some (.int .i64 k3)) (g4 : W.cell? ⟨kb, ko + 4, none⟩ = some (.int .i64 k4)) (g5 : W.cell? ⟨kb, ko + 5, none⟩ = some (.int .i64 k5)) (g6 : W.cell? ⟨kb, ko + 6, none⟩ = some (.slice kp kn kc)) (hF : FitC w sb 90 (.agg #[.string k0, .bool k1, .int .i64 k2, .int .i64 k3, .int .i64 k4, .int .i64 k5, .slice kp kn kc]) (.slice vo m vc) r) :
    Calls Tryd.prog 70 #[.pointer (some ⟨sb, 0, none⟩), .agg #[.string f0, .bool f1, .int .i64 16, .int .i64 f3, .int .i64 f4, .int .i64 f5, .slice (some ⟨kb, ko, none⟩) n ca], .agg #[.bool false, .int .i64 0, .string v2, .slice vo m vc]] W fun e w' => FitQ W sb x e w' := by
  obtain ⟨V, hV⟩ : ∃ V, (((W.alloc (.cells #[.string f0, .bool f1, .int .i64 16, .int .i64 f3, .int .i64 f4, .int .i64 f5, .slice (some ⟨kb, ko, none⟩) n ca] 26)).alloc (.cells #[.bool false, .int .i64 0, .string v2, .slice vo m vc] 29)).alloc (.cells #[.int .i64 16, .int .i64 f3, .int .i64 f4, .int .i64 f5, .slice (some ⟨kb, ko, none⟩) n ca] 24)).drew = V := ⟨_, rfl⟩
  have hA := alloc3 W (.cells #[.string f0, .bool f1, .int .i64 16, .int .i64 f3, .int .i64 f4, .int .i64 f5, .slice (some ⟨kb, ko, none⟩) n ca] 26) (.cells #[.bool false, .int .i64 0, .string v2, .slice vo m vc] 29) (.cells #[.int .i64 16, .int .i64 f3, .int .i64 f4, .int .i64 f5, .slice (some ⟨kb, ko, none⟩) n ca] 24)
  rw [hV] at hA
  obtain ⟨_, b4, b5, gr⟩ := hA
  obtain ⟨p0, p1, p2, p3⟩ := B4.cells b4
  obtain ⟨q0, q1, q2, q3, q4⟩ := B5.cells b5
  have g0 := gr.cell' g0 id
  have g1 := gr.cell' g1 id
  have g2 := gr.cell' g2 id
  have g3 := gr.cell' g3 id
  have g4 := gr.cell' g4 id
  have g5 := gr.cell' g5 id
  have g6 := gr.cell' g6 id
  have HS := hidM (hs.self.gr gr)
  have HK := hidM hs.kp
  have HF := hidM hF
  have HX := hidM hx
  have hn' : (0 : Int) < (n : Int) := by omega
  have hlt := hs.lt
  have hN := hidM (And.intro (show W.heap.size + 1 + 1 ≠ sb by omega) (And.intro (show W.heap.size + 1 ≠ sb by omega) hkb))
  have HC : Hid (V.drew.cell? ⟨W.heap.size + 1 + 1, 1, none⟩ = some (.int .i64 f3) ∧ V.drew.cell? ⟨W.heap.size + 1 + 1, 4, none⟩ = some (.slice (some ⟨kb, ko, none⟩) n ca) ∧ V.drew.cell? ⟨W.heap.size + 1, 3, none⟩ = some (.slice vo m vc) ∧ V.drew.cell? ⟨kb, ko, none⟩ = some (.string k0) ∧ V.drew.cell? ⟨kb, ko + 1, none⟩ = some (.bool k1) ∧ V.drew.cell? ⟨kb, ko + 2, none⟩ = some (.int .i64 k2) ∧ V.drew.cell? ⟨kb, ko + 3, none⟩ = some (.int .i64 k3) ∧ V.drew.cell? ⟨kb, ko + 4, none⟩ = some (.int .i64 k4) ∧ V.drew.cell? ⟨kb, ko + 5, none⟩ = some (.int .i64 k5) ∧ V.drew.cell? ⟨kb, ko + 6, none⟩ = some (.slice kp kn kc)) := ⟨q1, q4, p3, g0, g1, g2, g3, g4, g5, g6⟩
  have HL := hidM (And.intro hl0 hl)
  clear b4 b5 gr hs hF hx p2 hlt hkb hl0 hl
  go_enter Tryd.func70, Tryd.ntmps70
  go_wp2
  go_region
  all_goals
    go_wp2
    clear hV p0 p1 p3 q0 q1 q2 q3 q4 g0 g1 g2 g3 g4 g5 g6
    go_region_held3 (fun w' => w'.cell? ⟨W.heap.size + 1 + 1, 1, none⟩ = some (.int .i64 f3) ∧ w'.cell? ⟨W.heap.size + 1 + 1, 4, none⟩ = some (.slice (some ⟨kb, ko, none⟩) n ca) ∧ w'.cell? ⟨W.heap.size + 1, 3, none⟩ = some (.slice vo m vc) ∧ w'.cell? ⟨kb, ko, none⟩ = some (.string k0) ∧ w'.cell? ⟨kb, ko + 1, none⟩ = some (.bool k1) ∧ w'.cell? ⟨kb, ko + 2, none⟩ = some (.int .i64 k2) ∧ w'.cell? ⟨kb, ko + 3, none⟩ = some (.int .i64 k3) ∧ w'.cell? ⟨kb, ko + 4, none⟩ = some (.int .i64 k4) ∧ w'.cell? ⟨kb, ko + 5, none⟩ = some (.int .i64 k5) ∧ w'.cell? ⟨kb, ko + 6, none⟩ = some (.slice kp kn kc)) (first | with_reducible exact HC.out | with_reducible exact keep10 HE.out.1 hN.out.1 hN.out.2.1 hN.out.2.2 HC.out) ((go_at_call 90; refine Calls.mono (HF.out _ _ ((HS.out.drew).base HK.out) HL.out.1 HL.out.2) ?_; rintro e v1' ⟨l', rfl, hs', hr⟩; have HE := hidM (And.intro hs' hr); clear hs' hr))
  all_goals
    go_wp2_with fail
    go_ret
    exact .of HX.out rfl (HE.out.1.base HS.out.drew.kp) HE.out.2
set_option maxRecDepth 100000 in
set_option maxHeartbeats 2000000 in
theorem type19 (f0 : ByteArray) (f1 : Bool) (f3 f4 f5 : Int) (n ca : Nat) (kb ko : Nat) (k0 : ByteArray) (k1 : Bool) (k2 k3 k4 k5 : Int) (kp : Option Addr) (kn kc : Nat) (v1 : Int) (v2 : ByteArray) (vo : Option Addr) (m vc : Nat) (w W : World) (sb : Nat) (l : Int) (x : Option Int) (r : Int → Option Int) (hs : Sc w W sb l) (hl0 : 0 ≤ l) (hl : l ≤ 4194304) (hn : 0 < n) (hx : x = r l) (hkb : kb ≠ sb) (g0 : W.cell? ⟨kb, ko, none⟩ = some (.string k0)) (g1 : W.cell? ⟨kb, ko + 1, none⟩ = some (.bool k1)) (g2 : W.cell? ⟨kb, ko + 2, none⟩ = some (.int .i64 k2)) (g3 : W.cell? ⟨kb, ko + 3, none⟩ = some (.int .i64 k3)) (g4 : W.cell? ⟨kb, ko + 4, none⟩ = some (.int .i64 k4)) (g5 : W.cell? ⟨kb, ko + 5, none⟩ = some (.int .i64 k5)) (g6 : W.cell? ⟨kb, ko + 6, none⟩ = some (.slice kp kn kc)) (hF : FitC w sb 70 (.agg #[.string k0, .bool k1, .int .i64 k2, .int .i64 k3, .int .i64 k4, .int .i64 k5, .slice kp kn kc]) (.agg #[.bool false, .int .i64 v1, .string v2, .slice vo m vc]) r) :
    Calls Tryd.prog 70 #[.pointer (some ⟨sb, 0, none⟩), .agg #[.string f0, .bool f1, .int .i64 19, .int .i64 f3, .int .i64 f4, .int .i64 f5, .slice (some ⟨kb, ko, none⟩) n ca], .agg #[.bool false, .int .i64 v1, .string v2, .slice vo m vc]] W fun e w' => FitQ W sb x e w' := by
  obtain ⟨V, hV⟩ : ∃ V, (((W.alloc (.cells #[.string f0, .bool f1, .int .i64 19, .int .i64 f3, .int .i64 f4, .int .i64 f5, .slice (some ⟨kb, ko, none⟩) n ca] 26)).alloc (.cells #[.bool false, .int .i64 v1, .string v2, .slice vo m vc] 29)).alloc (.cells #[.int .i64 19, .int .i64 f3, .int .i64 f4, .int .i64 f5, .slice (some ⟨kb, ko, none⟩) n ca] 24)).drew = V := ⟨_, rfl⟩
  have hA := alloc3 W (.cells #[.string f0, .bool f1, .int .i64 19, .int .i64 f3, .int .i64 f4, .int .i64 f5, .slice (some ⟨kb, ko, none⟩) n ca] 26) (.cells #[.bool false, .int .i64 v1, .string v2, .slice vo m vc] 29) (.cells #[.int .i64 19, .int .i64 f3, .int .i64 f4, .int .i64 f5, .slice (some ⟨kb, ko, none⟩) n ca] 24)
  rw [hV] at hA
  obtain ⟨_, b4, b5, gr⟩ := hA
  obtain ⟨p0, p1, p2, p3⟩ := B4.cells b4
  obtain ⟨q0, q1, q2, q3, q4⟩ := B5.cells b5
  have g0 := gr.cell' g0 id
  have g1 := gr.cell' g1 id
  have g2 := gr.cell' g2 id
  have g3 := gr.cell' g3 id
  have g4 := gr.cell' g4 id
  have g5 := gr.cell' g5 id
  have g6 := gr.cell' g6 id
  have HS := hidM (hs.self.gr gr)
  have HK := hidM hs.kp
  have HF := hidM hF
  have HX := hidM hx
  have hn' : (0 : Int) < (n : Int) := by omega
  have hlt := hs.lt
  have hN := hidM (And.intro (show W.heap.size + 1 + 1 ≠ sb by omega) (And.intro (show W.heap.size + 1 ≠ sb by omega) hkb))
  have HC : Hid (V.drew.cell? ⟨W.heap.size + 1 + 1, 4, none⟩ = some (.slice (some ⟨kb, ko, none⟩) n ca) ∧ V.drew.cell? ⟨W.heap.size + 1, 0, none⟩ = some (.bool false) ∧ V.drew.cell? ⟨W.heap.size + 1, 1, none⟩ = some (.int .i64 v1) ∧ V.drew.cell? ⟨W.heap.size + 1, 2, none⟩ = some (.string v2) ∧ V.drew.cell? ⟨W.heap.size + 1, 3, none⟩ = some (.slice vo m vc) ∧ V.drew.cell? ⟨kb, ko, none⟩ = some (.string k0) ∧ V.drew.cell? ⟨kb, ko + 1, none⟩ = some (.bool k1) ∧ V.drew.cell? ⟨kb, ko + 2, none⟩ = some (.int .i64 k2) ∧ V.drew.cell? ⟨kb, ko + 3, none⟩ = some (.int .i64 k3) ∧ V.drew.cell? ⟨kb, ko + 4, none⟩ = some (.int .i64 k4) ∧ V.drew.cell? ⟨kb, ko + 5, none⟩ = some (.int .i64 k5) ∧ V.drew.cell? ⟨kb, ko + 6, none⟩ = some (.slice kp kn kc)) := ⟨q4, p0, p1, p2, p3, g0, g1, g2, g3, g4, g5, g6⟩
  have HL := hidM (And.intro hl0 hl)
  clear b4 b5 gr hs hF hx p2 hlt hkb hl0 hl
  go_enter Tryd.func70, Tryd.ntmps70
  go_wp2
  go_region
  all_goals
    go_wp2
    clear hV p0 p1 p3 q0 q1 q2 q3 q4 g0 g1 g2 g3 g4 g5 g6
    go_region_held3 (fun w' => w'.cell? ⟨W.heap.size + 1 + 1, 4, none⟩ = some (.slice (some ⟨kb, ko, none⟩) n ca) ∧ w'.cell? ⟨W.heap.size + 1, 0, none⟩ = some (.bool false) ∧ w'.cell? ⟨W.heap.size + 1, 1, none⟩ = some (.int .i64 v1) ∧ w'.cell? ⟨W.heap.size + 1, 2, none⟩ = some (.string v2) ∧ w'.cell? ⟨W.heap.size + 1, 3, none⟩ = some (.slice vo m vc) ∧ w'.cell? ⟨kb, ko, none⟩ = some (.string k0) ∧ w'.cell? ⟨kb, ko + 1, none⟩ = some (.bool k1) ∧ w'.cell? ⟨kb, ko + 2, none⟩ = some (.int .i64 k2) ∧ w'.cell? ⟨kb, ko + 3, none⟩ = some (.int .i64 k3) ∧ w'.cell? ⟨kb, ko + 4, none⟩ = some (.int .i64 k4) ∧ w'.cell? ⟨kb, ko + 5, none⟩ = some (.int .i64 k5) ∧ w'.cell? ⟨kb, ko + 6, none⟩ = some (.slice kp kn kc)) (first | with_reducible exact HC.out | with_reducible exact keep12 HE.out.1 hN.out.1 hN.out.2.1 hN.out.2.2 HC.out) ((go_at_call 70; refine Calls.mono (HF.out _ _ ((HS.out.drew).base HK.out) HL.out.1 HL.out.2) ?_; rintro e v1' ⟨l', rfl, hs', hr⟩; have HE := hidM (And.intro hs' hr); clear hs' hr))
  all_goals
    go_wp2_with fail
    go_ret
    exact .of HX.out rfl (HE.out.1.base HS.out.drew.kp) HE.out.2
set_option maxRecDepth 100000 in
set_option maxHeartbeats 2000000 in
theorem type20 (f0 : ByteArray) (f1 : Bool) (f3 f4 f5 : Int) (n ca : Nat) (kb ko : Nat) (k0 : ByteArray) (k1 : Bool) (k2 k3 k4 k5 : Int) (kp : Option Addr) (kn kc : Nat) (v1 : Int) (v2 : ByteArray) (vo : Option Addr) (m vc : Nat) (w W : World) (sb : Nat) (l : Int) (x : Option Int) (r : Int → Option Int) (hs : Sc w W sb l) (hl0 : 0 ≤ l) (hl : l ≤ 4194304) (hn : 0 < n) (hx : x = r l) (hkb : kb ≠ sb) (g0 : W.cell? ⟨kb, ko, none⟩ = some (.string k0)) (g1 : W.cell? ⟨kb, ko + 1, none⟩ = some (.bool k1)) (g2 : W.cell? ⟨kb, ko + 2, none⟩ = some (.int .i64 k2)) (g3 : W.cell? ⟨kb, ko + 3, none⟩ = some (.int .i64 k3)) (g4 : W.cell? ⟨kb, ko + 4, none⟩ = some (.int .i64 k4)) (g5 : W.cell? ⟨kb, ko + 5, none⟩ = some (.int .i64 k5)) (g6 : W.cell? ⟨kb, ko + 6, none⟩ = some (.slice kp kn kc)) (hF : FitC w sb 70 (.agg #[.string k0, .bool k1, .int .i64 k2, .int .i64 k3, .int .i64 k4, .int .i64 k5, .slice kp kn kc]) (.agg #[.bool false, .int .i64 v1, .string v2, .slice vo m vc]) r) :
    Calls Tryd.prog 70 #[.pointer (some ⟨sb, 0, none⟩), .agg #[.string f0, .bool f1, .int .i64 20, .int .i64 f3, .int .i64 f4, .int .i64 f5, .slice (some ⟨kb, ko, none⟩) n ca], .agg #[.bool false, .int .i64 v1, .string v2, .slice vo m vc]] W fun e w' => FitQ W sb x e w' := by
  obtain ⟨V, hV⟩ : ∃ V, (((W.alloc (.cells #[.string f0, .bool f1, .int .i64 20, .int .i64 f3, .int .i64 f4, .int .i64 f5, .slice (some ⟨kb, ko, none⟩) n ca] 26)).alloc (.cells #[.bool false, .int .i64 v1, .string v2, .slice vo m vc] 29)).alloc (.cells #[.int .i64 20, .int .i64 f3, .int .i64 f4, .int .i64 f5, .slice (some ⟨kb, ko, none⟩) n ca] 24)).drew = V := ⟨_, rfl⟩
  have hA := alloc3 W (.cells #[.string f0, .bool f1, .int .i64 20, .int .i64 f3, .int .i64 f4, .int .i64 f5, .slice (some ⟨kb, ko, none⟩) n ca] 26) (.cells #[.bool false, .int .i64 v1, .string v2, .slice vo m vc] 29) (.cells #[.int .i64 20, .int .i64 f3, .int .i64 f4, .int .i64 f5, .slice (some ⟨kb, ko, none⟩) n ca] 24)
  rw [hV] at hA
  obtain ⟨_, b4, b5, gr⟩ := hA
  obtain ⟨p0, p1, p2, p3⟩ := B4.cells b4
  obtain ⟨q0, q1, q2, q3, q4⟩ := B5.cells b5
  have g0 := gr.cell' g0 id
  have g1 := gr.cell' g1 id
  have g2 := gr.cell' g2 id
  have g3 := gr.cell' g3 id
  have g4 := gr.cell' g4 id
  have g5 := gr.cell' g5 id
  have g6 := gr.cell' g6 id
  have HS := hidM (hs.self.gr gr)
  have HK := hidM hs.kp
  have HF := hidM hF
  have HX := hidM hx
  have hn' : (0 : Int) < (n : Int) := by omega
  have hlt := hs.lt
  have hN := hidM (And.intro (show W.heap.size + 1 + 1 ≠ sb by omega) (And.intro (show W.heap.size + 1 ≠ sb by omega) hkb))
  have HC : Hid (V.drew.cell? ⟨W.heap.size + 1 + 1, 4, none⟩ = some (.slice (some ⟨kb, ko, none⟩) n ca) ∧ V.drew.cell? ⟨W.heap.size + 1, 0, none⟩ = some (.bool false) ∧ V.drew.cell? ⟨W.heap.size + 1, 1, none⟩ = some (.int .i64 v1) ∧ V.drew.cell? ⟨W.heap.size + 1, 2, none⟩ = some (.string v2) ∧ V.drew.cell? ⟨W.heap.size + 1, 3, none⟩ = some (.slice vo m vc) ∧ V.drew.cell? ⟨kb, ko, none⟩ = some (.string k0) ∧ V.drew.cell? ⟨kb, ko + 1, none⟩ = some (.bool k1) ∧ V.drew.cell? ⟨kb, ko + 2, none⟩ = some (.int .i64 k2) ∧ V.drew.cell? ⟨kb, ko + 3, none⟩ = some (.int .i64 k3) ∧ V.drew.cell? ⟨kb, ko + 4, none⟩ = some (.int .i64 k4) ∧ V.drew.cell? ⟨kb, ko + 5, none⟩ = some (.int .i64 k5) ∧ V.drew.cell? ⟨kb, ko + 6, none⟩ = some (.slice kp kn kc)) := ⟨q4, p0, p1, p2, p3, g0, g1, g2, g3, g4, g5, g6⟩
  have HL := hidM (And.intro hl0 hl)
  clear b4 b5 gr hs hF hx p2 hlt hkb hl0 hl
  go_enter Tryd.func70, Tryd.ntmps70
  go_wp2
  go_region
  all_goals
    go_wp2
    clear hV p0 p1 p3 q0 q1 q2 q3 q4 g0 g1 g2 g3 g4 g5 g6
    go_region_held3 (fun w' => w'.cell? ⟨W.heap.size + 1 + 1, 4, none⟩ = some (.slice (some ⟨kb, ko, none⟩) n ca) ∧ w'.cell? ⟨W.heap.size + 1, 0, none⟩ = some (.bool false) ∧ w'.cell? ⟨W.heap.size + 1, 1, none⟩ = some (.int .i64 v1) ∧ w'.cell? ⟨W.heap.size + 1, 2, none⟩ = some (.string v2) ∧ w'.cell? ⟨W.heap.size + 1, 3, none⟩ = some (.slice vo m vc) ∧ w'.cell? ⟨kb, ko, none⟩ = some (.string k0) ∧ w'.cell? ⟨kb, ko + 1, none⟩ = some (.bool k1) ∧ w'.cell? ⟨kb, ko + 2, none⟩ = some (.int .i64 k2) ∧ w'.cell? ⟨kb, ko + 3, none⟩ = some (.int .i64 k3) ∧ w'.cell? ⟨kb, ko + 4, none⟩ = some (.int .i64 k4) ∧ w'.cell? ⟨kb, ko + 5, none⟩ = some (.int .i64 k5) ∧ w'.cell? ⟨kb, ko + 6, none⟩ = some (.slice kp kn kc)) (first | with_reducible exact HC.out | with_reducible exact keep12 HE.out.1 hN.out.1 hN.out.2.1 hN.out.2.2 HC.out) ((go_at_call 70; refine Calls.mono (HF.out _ _ ((HS.out.drew).base HK.out) HL.out.1 HL.out.2) ?_; rintro e v1' ⟨l', rfl, hs', hr⟩; have HE := hidM (And.intro hs' hr); clear hs' hr))
  all_goals
    go_wp2_with fail
    go_ret
    exact .of HX.out rfl (HE.out.1.base HS.out.drew.kp) HE.out.2
set_option maxRecDepth 100000 in
set_option maxHeartbeats 2000000 in
theorem type17 (f0 : ByteArray) (f1 : Bool) (f3 f4 f5 : Int) (ao : Option Addr) (n ca : Nat) (v1 : Int) (v2 : ByteArray) (vo : Option Addr) (m vc : Nat) (w W : World) (sb : Nat) (l : Int) (x : Option Int) (b1 b2 b3 : Bool) (hb1 : (v1 == 0) = b1) (hb2 : v2.toList.isEmpty = b2) (hb3 : ((m : Int) == 0) = b3) (hs : Sc w W sb l) (r : Int → Option Int) (hl0 : 0 ≤ l) (hl : l ≤ 4194304) (hF : FitC w sb 91 (.slice ao n ca) (.slice vo m vc) r) (hx : x = if (b1 && b2) = true then r l else none) :
    Calls Tryd.prog 70 #[.pointer (some ⟨sb, 0, none⟩), .agg #[.string f0, .bool f1, .int .i64 17, .int .i64 f3, .int .i64 f4, .int .i64 f5, .slice ao n ca], .agg #[.bool false, .int .i64 v1, .string v2, .slice vo m vc]] W fun e w' => FitQ W sb x e w' := by
  have HS := hidM hs.self
  have HK := hidM hs.kp
  have HF := hidM hF
  have HL := hidM (And.intro hl0 hl)
  clear hs hF hl0 hl
  cases b1 <;> cases b2 <;> simp only [Bool.and_true, Bool.and_false, if_true, if_false, Bool.false_eq_true] at hx
  all_goals
    have HX := hidM hx
    clear hx
    go_enter Tryd.func70, Tryd.ntmps70
    go_wp2
    go_region
    all_goals
      go_wp2_with (go_at_call 91; refine Calls.mono (HF.out _ _ ((((HS.out.alloc _).alloc _).alloc _).drew.base HK.out) HL.out.1 HL.out.2) ?_; rintro e v1' ⟨l', rfl, hs', hr⟩; have HE := hidM (And.intro hs' hr); clear hs' hr)
      go_ret
      first | exact .no HX.out rfl ((((HS.out.alloc _).alloc _).alloc _).drew) | exact .of HX.out rfl (HE.out.1.base ((((HS.out.alloc _).alloc _).alloc _).drew).kp) HE.out.2
set_option maxRecDepth 100000 in
set_option maxHeartbeats 2000000 in
theorem type18 (f0 : ByteArray) (f1 : Bool) (f3 f4 f5 : Int) (ao : Option Addr) (n ca : Nat) (v1 : Int) (v2 : ByteArray) (vo : Option Addr) (m vc : Nat) (w W : World) (sb : Nat) (l : Int) (x : Option Int) (b1 b2 b3 : Bool) (hb1 : (v1 == 0) = b1) (hb2 : v2.toList.isEmpty = b2) (hb3 : ((m : Int) == 0) = b3) (hs : Sc w W sb l) (r : Int → Option Int) (hl0 : 0 ≤ l) (hl : l ≤ 4194304) (hF : FitC w sb 92 (.slice ao n ca) (.agg #[.bool false, .int .i64 v1, .string v2, .slice vo m vc]) r) (hx : x = if (b2) = true then r l else none) :
    Calls Tryd.prog 70 #[.pointer (some ⟨sb, 0, none⟩), .agg #[.string f0, .bool f1, .int .i64 18, .int .i64 f3, .int .i64 f4, .int .i64 f5, .slice ao n ca], .agg #[.bool false, .int .i64 v1, .string v2, .slice vo m vc]] W fun e w' => FitQ W sb x e w' := by
  have HS := hidM hs.self
  have HK := hidM hs.kp
  have HF := hidM hF
  have HL := hidM (And.intro hl0 hl)
  clear hs hF hl0 hl
  cases b2 <;> simp only [if_true, if_false, Bool.false_eq_true] at hx
  all_goals
    have HX := hidM hx
    clear hx
    go_enter Tryd.func70, Tryd.ntmps70
    go_wp2
    go_region
    all_goals
      go_wp2_with (go_at_call 92; refine Calls.mono (HF.out _ _ ((((HS.out.alloc _).alloc _).alloc _).drew.base HK.out) HL.out.1 HL.out.2) ?_; rintro e v1' ⟨l', rfl, hs', hr⟩; have HE := hidM (And.intro hs' hr); clear hs' hr)
      go_ret
      first | exact .no HX.out rfl ((((HS.out.alloc _).alloc _).alloc _).drew) | exact .of HX.out rfl (HE.out.1.base ((((HS.out.alloc _).alloc _).alloc _).drew).kp) HE.out.2
end Go.Proofs.YtcfdkadhclickaaDoor.Kit
