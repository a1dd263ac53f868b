import Derived.Test.YtfoifmacobldbaaGreatDoorTA
import Derived.Deep.RegionHeld3
set_option maxRecDepth 100000
set_option maxHeartbeats 4000000
namespace Go.Proofs.YtfoifmacobldbaaGreatDoor.Kit
open Go.RowKit Go.Shelf Go.Deep
set_option linter.unusedVariables false
attribute [local go_sem] run_store_func
theorem keep9 {V v1 : World} {sb : Nat} {l : Int} {a b kb ko : Nat} {x y c0 c1 c2 c3 c4 c5 c6 : Value} (h : Sc V v1 sb l) (ha : a ≠ sb) (hb : b ≠ sb) (hk : kb ≠ sb)
    (hc : V.cell? ⟨a, 4, none⟩ = some x ∧ V.cell? ⟨b, 3, none⟩ = some y ∧ V.cell? ⟨kb, ko, none⟩ = some c0 ∧ V.cell? ⟨kb, ko + 1, none⟩ = some c1 ∧ V.cell? ⟨kb, ko + 2, none⟩ = some c2 ∧ V.cell? ⟨kb, ko + 3, none⟩ = some c3 ∧ V.cell? ⟨kb, ko + 4, none⟩ = some c4 ∧ V.cell? ⟨kb, ko + 5, none⟩ = some c5 ∧ V.cell? ⟨kb, ko + 6, none⟩ = some c6) :
    v1.cell? ⟨a, 4, none⟩ = some x ∧ v1.cell? ⟨b, 3, none⟩ = some y ∧ v1.cell? ⟨kb, ko, none⟩ = some c0 ∧ v1.cell? ⟨kb, ko + 1, none⟩ = some c1 ∧ v1.cell? ⟨kb, ko + 2, none⟩ = some c2 ∧ v1.cell? ⟨kb, ko + 3, none⟩ = some c3 ∧ v1.cell? ⟨kb, ko + 4, none⟩ = some c4 ∧ v1.cell? ⟨kb, ko + 5, none⟩ = some c5 ∧ v1.cell? ⟨kb, ko + 6, none⟩ = some c6 :=
  ⟨h.other hc.1 ha, h.other hc.2.1 hb, h.other hc.2.2.1 hk, h.other hc.2.2.2.1 hk, h.other hc.2.2.2.2.1 hk, h.other hc.2.2.2.2.2.1 hk, h.other hc.2.2.2.2.2.2.1 hk, h.other hc.2.2.2.2.2.2.2.1 hk, h.other hc.2.2.2.2.2.2.2.2 hk⟩
theorem keep12 {V v1 : World} {sb : Nat} {l : Int} {a b kb ko : Nat} {x y0 y1 y2 y3 c0 c1 c2 c3 c4 c5 c6 : Value} (h : Sc V v1 sb l) (ha : a ≠ sb) (hb : b ≠ sb) (hk : kb ≠ sb)
    (hc : V.cell? ⟨a, 4, none⟩ = some x ∧ V.cell? ⟨b, 0, none⟩ = some y0 ∧ V.cell? ⟨b, 1, none⟩ = some y1 ∧ V.cell? ⟨b, 2, none⟩ = some y2 ∧ V.cell? ⟨b, 3, none⟩ = some y3 ∧ V.cell? ⟨kb, ko, none⟩ = some c0 ∧ V.cell? ⟨kb, ko + 1, none⟩ = some c1 ∧ V.cell? ⟨kb, ko + 2, none⟩ = some c2 ∧ V.cell? ⟨kb, ko + 3, none⟩ = some c3 ∧ V.cell? ⟨kb, ko + 4, none⟩ = some c4 ∧ V.cell? ⟨kb, ko + 5, none⟩ = some c5 ∧ V.cell? ⟨kb, ko + 6, none⟩ = some c6) :
    v1.cell? ⟨a, 4, none⟩ = some x ∧ v1.cell? ⟨b, 0, none⟩ = some y0 ∧ v1.cell? ⟨b, 1, none⟩ = some y1 ∧ v1.cell? ⟨b, 2, none⟩ = some y2 ∧ v1.cell? ⟨b, 3, none⟩ = some y3 ∧ v1.cell? ⟨kb, ko, none⟩ = some c0 ∧ v1.cell? ⟨kb, ko + 1, none⟩ = some c1 ∧ v1.cell? ⟨kb, ko + 2, none⟩ = some c2 ∧ v1.cell? ⟨kb, ko + 3, none⟩ = some c3 ∧ v1.cell? ⟨kb, ko + 4, none⟩ = some c4 ∧ v1.cell? ⟨kb, ko + 5, none⟩ = some c5 ∧ v1.cell? ⟨kb, ko + 6, none⟩ = some c6 :=
  ⟨h.other hc.1 ha, h.other hc.2.1 hb, h.other hc.2.2.1 hb, h.other hc.2.2.2.1 hb, h.other hc.2.2.2.2.1 hb, h.other hc.2.2.2.2.2.1 hk, h.other hc.2.2.2.2.2.2.1 hk, h.other hc.2.2.2.2.2.2.2.1 hk, h.other hc.2.2.2.2.2.2.2.2.1 hk, h.other hc.2.2.2.2.2.2.2.2.2.1 hk, h.other hc.2.2.2.2.2.2.2.2.2.2.1 hk, h.other hc.2.2.2.2.2.2.2.2.2.2.2 hk⟩
theorem keep10 {V v1 : World} {sb : Nat} {l : Int} {a b kb ko : Nat} {q x y c0 c1 c2 c3 c4 c5 c6 : Value} (h : Sc V v1 sb l) (ha : a ≠ sb) (hb : b ≠ sb) (hk : kb ≠ sb)
    (hc : V.cell? ⟨a, 1, none⟩ = some q ∧ V.cell? ⟨a, 4, none⟩ = some x ∧ V.cell? ⟨b, 3, none⟩ = some y ∧ V.cell? ⟨kb, ko, none⟩ = some c0 ∧ V.cell? ⟨kb, ko + 1, none⟩ = some c1 ∧ V.cell? ⟨kb, ko + 2, none⟩ = some c2 ∧ V.cell? ⟨kb, ko + 3, none⟩ = some c3 ∧ V.cell? ⟨kb, ko + 4, none⟩ = some c4 ∧ V.cell? ⟨kb, ko + 5, none⟩ = some c5 ∧ V.cell? ⟨kb, ko + 6, none⟩ = some c6) :
    v1.cell? ⟨a, 1, none⟩ = some q ∧ v1.cell? ⟨a, 4, none⟩ = some x ∧ v1.cell? ⟨b, 3, none⟩ = some y ∧ v1.cell? ⟨kb, ko, none⟩ = some c0 ∧ v1.cell? ⟨kb, ko + 1, none⟩ = some c1 ∧ v1.cell? ⟨kb, ko + 2, none⟩ = some c2 ∧ v1.cell? ⟨kb, ko + 3, none⟩ = some c3 ∧ v1.cell? ⟨kb, ko + 4, none⟩ = some c4 ∧ v1.cell? ⟨kb, ko + 5, none⟩ = some c5 ∧ v1.cell? ⟨kb, ko + 6, none⟩ = some c6 :=
  ⟨h.other hc.1 ha, h.other hc.2.1 ha, h.other hc.2.2.1 hb, h.other hc.2.2.2.1 hk, h.other hc.2.2.2.2.1 hk, h.other hc.2.2.2.2.2.1 hk, h.other hc.2.2.2.2.2.2.1 hk, h.other hc.2.2.2.2.2.2.2.1 hk, h.other hc.2.2.2.2.2.2.2.2.1 hk, h.other hc.2.2.2.2.2.2.2.2.2 hk⟩
theorem type15 (f0 : ByteArray) (f1 : Bool) (f3 f4 f5 : Int) (n ca : Nat) (kb ko : Nat) (k0 : ByteArray) (k1 : Bool) (k2 k3 k4 k5 : Int) (kp : Option Addr) (kn kc : Nat) (v2 : ByteArray) (vo : Option Addr) (m vc : Nat) (w W : World) (sb : Nat) (l : Int) (x : Option Int) (r : Int → Option Int) (hs : Sc w W sb l) (hl0 : 0 ≤ l) (hl : l ≤ 4194304) (hn : 0 < n) (hx : x = r l) (hkb : kb ≠ sb) (hv : v2.toList.isEmpty = true) (g0 : W.cell? ⟨kb, ko, none⟩ = some (.string k0)) (g1 : W.cell? ⟨kb, ko + 1, none⟩ = some (.bool k1)) (g2 : W.cell? ⟨kb, ko + 2, none⟩ = some (.int .i64 k2)) (g3 : W.cell? ⟨kb, ko + 3, none⟩ = some (.int .i64 k3)) (g4 : W.cell? ⟨kb, ko + 4, none⟩ = some (.int .i64 k4)) (g5 : W.cell? ⟨kb, ko + 5, none⟩ = some (.int .i64 k5)) (g6 : W.cell? ⟨kb, ko + 6, none⟩ = some (.slice kp kn kc)) (hF : FitC w sb 110 (.agg #[.string k0, .bool k1, .int .i64 k2, .int .i64 k3, .int .i64 k4, .int .i64 k5, .slice kp kn kc]) (.slice vo m vc) r) :
    Calls Tryz.prog 76 #[.pointer (some ⟨sb, 0, none⟩), .agg #[.string f0, .bool f1, .int .i64 15, .int .i64 f3, .int .i64 f4, .int .i64 f5, .slice (some ⟨kb, ko, none⟩) n ca], .agg #[.bool false, .int .i64 0, .string v2, .slice vo m vc]] W fun e w' => FitQ W sb x e w' := by
  obtain ⟨V, hV⟩ : ∃ V, (((W.alloc (.cells #[.string f0, .bool f1, .int .i64 15, .int .i64 f3, .int .i64 f4, .int .i64 f5, .slice (some ⟨kb, ko, none⟩) n ca] 26)).alloc (.cells #[.bool false, .int .i64 0, .string v2, .slice vo m vc] 29)).alloc (.cells #[.int .i64 15, .int .i64 f3, .int .i64 f4, .int .i64 f5, .slice (some ⟨kb, ko, none⟩) n ca] 24)).drew = V := ⟨_, rfl⟩
  have hA := alloc3 W (.cells #[.string f0, .bool f1, .int .i64 15, .int .i64 f3, .int .i64 f4, .int .i64 f5, .slice (some ⟨kb, ko, none⟩) n ca] 26) (.cells #[.bool false, .int .i64 0, .string v2, .slice vo m vc] 29) (.cells #[.int .i64 15, .int .i64 f3, .int .i64 f4, .int .i64 f5, .slice (some ⟨kb, ko, none⟩) n ca] 24)
  rw [hV] at hA
  obtain ⟨_, b4, b5, gr⟩ := hA
  obtain ⟨p0, p1, p2, p3⟩ := B4.cells b4
  obtain ⟨q0, q1, q2, q3, q4⟩ := B5.cells b5
  have g0 := gr.cell' g0 id
  have g1 := gr.cell' g1 id
  have g2 := gr.cell' g2 id
  have g3 := gr.cell' g3 id
  have g4 := gr.cell' g4 id
  have g5 := gr.cell' g5 id
  have g6 := gr.cell' g6 id
  have HS := hidM (hs.self.gr gr)
  have HK := hidM hs.kp
  have HF := hidM hF
  have HX := hidM hx
  have hn' : (0 : Int) < (n : Int) := by omega
  have hlt := hs.lt
  have hN := hidM (And.intro (show W.heap.size + 1 + 1 ≠ sb by omega) (And.intro (show W.heap.size + 1 ≠ sb by omega) hkb))
  have HC : Hid (V.drew.cell? ⟨W.heap.size + 1 + 1, 4, none⟩ = some (.slice (some ⟨kb, ko, none⟩) n ca) ∧ V.drew.cell? ⟨W.heap.size + 1, 3, none⟩ = some (.slice vo m vc) ∧ V.drew.cell? ⟨kb, ko, none⟩ = some (.string k0) ∧ V.drew.cell? ⟨kb, ko + 1, none⟩ = some (.bool k1) ∧ V.drew.cell? ⟨kb, ko + 2, none⟩ = some (.int .i64 k2) ∧ V.drew.cell? ⟨kb, ko + 3, none⟩ = some (.int .i64 k3) ∧ V.drew.cell? ⟨kb, ko + 4, none⟩ = some (.int .i64 k4) ∧ V.drew.cell? ⟨kb, ko + 5, none⟩ = some (.int .i64 k5) ∧ V.drew.cell? ⟨kb, ko + 6, none⟩ = some (.slice kp kn kc)) := ⟨q4, p3, g0, g1, g2, g3, g4, g5, g6⟩
  have HL := hidM (And.intro hl0 hl)
  clear b4 b5 gr hs hF hx p2 hlt hkb hl0 hl
  go_enter Tryz.func76, Tryz.ntmps76
  go_wp2
  go_region
  all_goals
    go_wp2
    clear hV p0 p1 p3 q0 q1 q2 q3 q4 g0 g1 g2 g3 g4 g5 g6
    go_region_held3 (fun w' => w'.cell? ⟨W.heap.size + 1 + 1, 4, none⟩ = some (.slice (some ⟨kb, ko, none⟩) n ca) ∧ w'.cell? ⟨W.heap.size + 1, 3, none⟩ = some (.slice vo m vc) ∧ w'.cell? ⟨kb, ko, none⟩ = some (.string k0) ∧ w'.cell? ⟨kb, ko + 1, none⟩ = some (.bool k1) ∧ w'.cell? ⟨kb, ko + 2, none⟩ = some (.int .i64 k2) ∧ w'.cell? ⟨kb, ko + 3, none⟩ = some (.int .i64 k3) ∧ w'.cell? ⟨kb, ko + 4, none⟩ = some (.int .i64 k4) ∧ w'.cell? ⟨kb, ko + 5, none⟩ = some (.int .i64 k5) ∧ w'.cell? ⟨kb, ko + 6, none⟩ = some (.slice kp kn kc)) (first | with_reducible exact HC.out | with_reducible exact keep9 HE.out.1 hN.out.1 hN.out.2.1 hN.out.2.2 HC.out) ((go_at_call 110; refine Calls.mono (HF.out _ _ ((HS.out.drew).base HK.out) HL.out.1 HL.out.2) ?_; rintro e v1' ⟨l', rfl, hs', hr⟩; have HE := hidM (And.intro hs' hr); clear hs' hr))
  all_goals
    go_wp2_with fail
    go_ret
    exact .of HX.out rfl (HE.out.1.base HS.out.drew.kp) HE.out.2
theorem type16 (f0 : ByteArray) (f1 : Bool) (f3 f4 f5 : Int) (n ca : Nat) (kb ko : Nat) (k0 : ByteArray) (k1 : Bool) (k2 k3 k4 k5 : Int) (kp : Option Addr) (kn kc : Nat) (v2 : ByteArray) (vo : Option Addr) (m vc : Nat) (w W : World) (sb : Nat) (l : Int) (x : Option Int) (r : Int → Option Int) (hs : Sc w W sb l) (hl0 : 0 ≤ l) (hl : l ≤ 4194304) (hn : 0 < n) (hx : x = r l) (hkb : kb ≠ sb) (hv : v2.toList.isEmpty = true) (hm : ((m : Int) == f3) = true) (g0 : W.cell? ⟨kb, ko, none⟩ = some (.string k0)) (g1 : W.cell? ⟨kb, ko + 1, none⟩ = some (.bool k1)) (g2 : W.cell? ⟨kb, ko + 2, none⟩ = some (.int .i64 k2)) (g3 : W.cell? ⟨kb, ko + 3, none⟩ = some (.int .i64 k3)) (g4 : W.cell? ⟨kb, ko + 4, none⟩ = some (.int .i64 k4)) (g5 : W.cell? ⟨kb, ko + 5, none⟩ = some (.int .i64 k5)) (g6 : W.cell? ⟨kb, ko + 6, none⟩ = some (.slice kp kn kc)) (hF : FitC w sb 110 (.agg #[.string k0, .bool k1, .int .i64 k2, .int .i64 k3, .int .i64 k4, .int .i64 k5, .slice kp kn kc]) (.slice vo m vc) r) :
    Calls Tryz.prog 76 #[.pointer (some ⟨sb, 0, none⟩), .agg #[.string f0, .bool f1, .int .i64 16, .int .i64 f3, .int .i64 f4, .int .i64 f5, .slice (some ⟨kb, ko, none⟩) n ca], .agg #[.bool false, .int .i64 0, .string v2, .slice vo m vc]] W fun e w' => FitQ W sb x e w' := by
  obtain ⟨V, hV⟩ : ∃ V, (((W.alloc (.cells #[.string f0, .bool f1, .int .i64 16, .int .i64 f3, .int .i64 f4, .int .i64 f5, .slice (some ⟨kb, ko, none⟩) n ca] 26)).alloc (.cells #[.bool false, .int .i64 0, .string v2, .slice vo m vc] 29)).alloc (.cells #[.int .i64 16, .int .i64 f3, .int .i64 f4, .int .i64 f5, .slice (some ⟨kb, ko, none⟩) n ca] 24)).drew = V := ⟨_, rfl⟩
  have hA := alloc3 W (.cells #[.string f0, .bool f1, .int .i64 16, .int .i64 f3, .int .i64 f4, .int .i64 f5, .slice (some ⟨kb, ko, none⟩) n ca] 26) (.cells #[.bool false, .int .i64 0, .string v2, .slice vo m vc] 29) (.cells #[.int .i64 16, .int .i64 f3, .int .i64 f4, .int .i64 f5, .slice (some ⟨kb, ko, none⟩) n ca] 24)
  rw [hV] at hA
  obtain ⟨_, b4, b5, gr⟩ := hA
  obtain ⟨p0, p1, p2, p3⟩ := B4.cells b4
  obtain ⟨q0, q1, q2, q3, q4⟩ := B5.cells b5
  have g0 := gr.cell' g0 id
  have g1 := gr.cell' g1 id
  have g2 := gr.cell' g2 id
  have g3 := gr.cell' g3 id
  have g4 := gr.cell' g4 id
  have g5 := gr.cell' g5 id
  have g6 := gr.cell' g6 id
  have HS := hidM (hs.self.gr gr)
  have HK := hidM hs.kp
  have HF := hidM hF
  have HX := hidM hx
  have hn' : (0 : Int) < (n : Int) := by omega
  have hlt := hs.lt
  have hN := hidM (And.intro (show W.heap.size + 1 + 1 ≠ sb by omega) (And.intro (show W.heap.size + 1 ≠ sb by omega) hkb))
  have HC : Hid (V.drew.cell? ⟨W.heap.size + 1 + 1, 1, none⟩ = some (.int .i64 f3) ∧ V.drew.cell? ⟨W.heap.size + 1 + 1, 4, none⟩ = some (.slice (some ⟨kb, ko, none⟩) n ca) ∧ V.drew.cell? ⟨W.heap.size + 1, 3, none⟩ = some (.slice vo m vc) ∧ V.drew.cell? ⟨kb, ko, none⟩ = some (.string k0) ∧ V.drew.cell? ⟨kb, ko + 1, none⟩ = some (.bool k1) ∧ V.drew.cell? ⟨kb, ko + 2, none⟩ = some (.int .i64 k2) ∧ V.drew.cell? ⟨kb, ko + 3, none⟩ = some (.int .i64 k3) ∧ V.drew.cell? ⟨kb, ko + 4, none⟩ = some (.int .i64 k4) ∧ V.drew.cell? ⟨kb, ko + 5, none⟩ = some (.int .i64 k5) ∧ V.drew.cell? ⟨kb, ko + 6, none⟩ = some (.slice kp kn kc)) := ⟨q1, q4, p3, g0, g1, g2, g3, g4, g5, g6⟩
  have HL := hidM (And.intro hl0 hl)
  clear b4 b5 gr hs hF hx p2 hlt hkb hl0 hl
  go_enter Tryz.func76, Tryz.ntmps76
  go_wp2
  go_region
  all_goals
    go_wp2
    clear hV p0 p1 p3 q0 q1 q2 q3 q4 g0 g1 g2 g3 g4 g5 g6
    go_region_held3 (fun w' => w'.cell? ⟨W.heap.size + 1 + 1, 1, none⟩ = some (.int .i64 f3) ∧ w'.cell? ⟨W.heap.size + 1 + 1, 4, none⟩ = some (.slice (some ⟨kb, ko, none⟩) n ca) ∧ w'.cell? ⟨W.heap.size + 1, 3, none⟩ = some (.slice vo m vc) ∧ w'.cell? ⟨kb, ko, none⟩ = some (.string k0) ∧ w'.cell? ⟨kb, ko + 1, none⟩ = some (.bool k1) ∧ w'.cell? ⟨kb, ko + 2, none⟩ = some (.int .i64 k2) ∧ w'.cell? ⟨kb, ko + 3, none⟩ = some (.int .i64 k3) ∧ w'.cell? ⟨kb, ko + 4, none⟩ = some (.int .i64 k4) ∧ w'.cell? ⟨kb, ko + 5, none⟩ = some (.int .i64 k5) ∧ w'.cell? ⟨kb, ko + 6, none⟩ = some (.slice kp kn kc)) (first | with_reducible exact HC.out | with_reducible exact keep10 HE.out.1 hN.out.1 hN.out.2.1 hN.out.2.2 HC.out) ((go_at_call 110; refine Calls.mono (HF.out _ _ ((HS.out.drew).base HK.out) HL.out.1 HL.out.2) ?_; rintro e v1' ⟨l', rfl, hs', hr⟩; have HE := hidM (And.intro hs' hr); clear hs' hr))
  all_goals
    go_wp2_with fail
    go_ret
    exact .of HX.out rfl (HE.out.1.base HS.out.drew.kp) HE.out.2
theorem type19 (f0 : ByteArray) (f1 : Bool) (f3 f4 f5 : Int) (n ca : Nat) (kb ko : Nat) (k0 : ByteArray) (k1 : Bool) (k2 k3 k4 k5 : Int) (kp : Option Addr) (kn kc : Nat) (v1 : Int) (v2 : ByteArray) (vo : Option Addr) (m vc : Nat) (w W : World) (sb : Nat) (l : Int) (x : Option Int) (r : Int → Option Int) (hs : Sc w W sb l) (hl0 : 0 ≤ l) (hl : l ≤ 4194304) (hn : 0 < n) (hx : x = r l) (hkb : kb ≠ sb) (g0 : W.cell? ⟨kb, ko, none⟩ = some (.string k0)) (g1 : W.cell? ⟨kb, ko + 1, none⟩ = some (.bool k1)) (g2 : W.cell? ⟨kb, ko + 2, none⟩ = some (.int .i64 k2)) (g3 : W.cell? ⟨kb, ko + 3, none⟩ = some (.int .i64 k3)) (g4 : W.cell? ⟨kb, ko + 4, none⟩ = some (.int .i64 k4)) (g5 : W.cell? ⟨kb, ko + 5, none⟩ = some (.int .i64 k5)) (g6 : W.cell? ⟨kb, ko + 6, none⟩ = some (.slice kp kn kc)) (hF : FitC w sb 76 (.agg #[.string k0, .bool k1, .int .i64 k2, .int .i64 k3, .int .i64 k4, .int .i64 k5, .slice kp kn kc]) (.agg #[.bool false, .int .i64 v1, .string v2, .slice vo m vc]) r) :
    Calls Tryz.prog 76 #[.pointer (some ⟨sb, 0, none⟩), .agg #[.string f0, .bool f1, .int .i64 19, .int .i64 f3, .int .i64 f4, .int .i64 f5, .slice (some ⟨kb, ko, none⟩) n ca], .agg #[.bool false, .int .i64 v1, .string v2, .slice vo m vc]] W fun e w' => FitQ W sb x e w' := by
  obtain ⟨V, hV⟩ : ∃ V, (((W.alloc (.cells #[.string f0, .bool f1, .int .i64 19, .int .i64 f3, .int .i64 f4, .int .i64 f5, .slice (some ⟨kb, ko, none⟩) n ca] 26)).alloc (.cells #[.bool false, .int .i64 v1, .string v2, .slice vo m vc] 29)).alloc (.cells #[.int .i64 19, .int .i64 f3, .int .i64 f4, .int .i64 f5, .slice (some ⟨kb, ko, none⟩) n ca] 24)).drew = V := ⟨_, rfl⟩
  have hA := alloc3 W (.cells #[.string f0, .bool f1, .int .i64 19, .int .i64 f3, .int .i64 f4, .int .i64 f5, .slice (some ⟨kb, ko, none⟩) n ca] 26) (.cells #[.bool false, .int .i64 v1, .string v2, .slice vo m vc] 29) (.cells #[.int .i64 19, .int .i64 f3, .int .i64 f4, .int .i64 f5, .slice (some ⟨kb, ko, none⟩) n ca] 24)
  rw [hV] at hA
  obtain ⟨_, b4, b5, gr⟩ := hA
  obtain ⟨p0, p1, p2, p3⟩ := B4.cells b4
  obtain ⟨q0, q1, q2, q3, q4⟩ := B5.cells b5
  have g0 := gr.cell' g0 id
  have g1 := gr.cell' g1 id
  have g2 := gr.cell' g2 id
  have g3 := gr.cell' g3 id
  have g4 := gr.cell' g4 id
  have g5 := gr.cell' g5 id
  have g6 := gr.cell' g6 id
  have HS := hidM (hs.self.gr gr)
  have HK := hidM hs.kp
  have HF := hidM hF
  have HX := hidM hx
  have hn' : (0 : Int) < (n : Int) := by omega
  have hlt := hs.lt
  have hN := hidM (And.intro (show W.heap.size + 1 + 1 ≠ sb by omega) (And.intro (show W.heap.size + 1 ≠ sb by omega) hkb))
  have HC : Hid (V.drew.cell? ⟨W.heap.size + 1 + 1, 4, none⟩ = some (.slice (some ⟨kb, ko, none⟩) n ca) ∧ V.drew.cell? ⟨W.heap.size + 1, 0, none⟩ = some (.bool false) ∧ V.drew.cell? ⟨W.heap.size + 1, 1, none⟩ = some (.int .i64 v1) ∧ V.drew.cell? ⟨W.heap.size + 1, 2, none⟩ = some (.string v2) ∧ V.drew.cell? ⟨W.heap.size + 1, 3, none⟩ = some (.slice vo m vc) ∧ V.drew.cell? ⟨kb, ko, none⟩ = some (.string k0) ∧ V.drew.cell? ⟨kb, ko + 1, none⟩ = some (.bool k1) ∧ V.drew.cell? ⟨kb, ko + 2, none⟩ = some (.int .i64 k2) ∧ V.drew.cell? ⟨kb, ko + 3, none⟩ = some (.int .i64 k3) ∧ V.drew.cell? ⟨kb, ko + 4, none⟩ = some (.int .i64 k4) ∧ V.drew.cell? ⟨kb, ko + 5, none⟩ = some (.int .i64 k5) ∧ V.drew.cell? ⟨kb, ko + 6, none⟩ = some (.slice kp kn kc)) := ⟨q4, p0, p1, p2, p3, g0, g1, g2, g3, g4, g5, g6⟩
  have HL := hidM (And.intro hl0 hl)
  clear b4 b5 gr hs hF hx p2 hlt hkb hl0 hl
  go_enter Tryz.func76, Tryz.ntmps76
  go_wp2
  go_region
  all_goals
    go_wp2
    clear hV p0 p1 p3 q0 q1 q2 q3 q4 g0 g1 g2 g3 g4 g5 g6
    go_region_held3 (fun w' => w'.cell? ⟨W.heap.size + 1 + 1, 4, none⟩ = some (.slice (some ⟨kb, ko, none⟩) n ca) ∧ w'.cell? ⟨W.heap.size + 1, 0, none⟩ = some (.bool false) ∧ w'.cell? ⟨W.heap.size + 1, 1, none⟩ = some (.int .i64 v1) ∧ w'.cell? ⟨W.heap.size + 1, 2, none⟩ = some (.string v2) ∧ w'.cell? ⟨W.heap.size + 1, 3, none⟩ = some (.slice vo m vc) ∧ w'.cell? ⟨kb, ko, none⟩ = some (.string k0) ∧ w'.cell? ⟨kb, ko + 1, none⟩ = some (.bool k1) ∧ w'.cell? ⟨kb, ko + 2, none⟩ = some (.int .i64 k2) ∧ w'.cell? ⟨kb, ko + 3, none⟩ = some (.int .i64 k3) ∧ w'.cell? ⟨kb, ko + 4, none⟩ = some (.int .i64 k4) ∧ w'.cell? ⟨kb, ko + 5, none⟩ = some (.int .i64 k5) ∧ w'.cell? ⟨kb, ko + 6, none⟩ = some (.slice kp kn kc)) (first | with_reducible exact HC.out | with_reducible exact keep12 HE.out.1 hN.out.1 hN.out.2.1 hN.out.2.2 HC.out) ((go_at_call 76; refine Calls.mono (HF.out _ _ ((HS.out.drew).base HK.out) HL.out.1 HL.out.2) ?_; rintro e v1' ⟨l', rfl, hs', hr⟩; have HE := hidM (And.intro hs' hr); clear hs' hr))
  all_goals
    go_wp2_with fail
    go_ret
    exact .of HX.out rfl (HE.out.1.base HS.out.drew.kp) HE.out.2
theorem type20 (f0 : ByteArray) (f1 : Bool) (f3 f4 f5 : Int) (n ca : Nat) (kb ko : Nat) (k0 : ByteArray) (k1 : Bool) (k2 k3 k4 k5 : Int) (kp : Option Addr) (kn kc : Nat) (v1 : Int) (v2 : ByteArray) (vo : Option Addr) (m vc : Nat) (w W : World) (sb : Nat) (l : Int) (x : Option Int) (r : Int → Option Int) (hs : Sc w W sb l) (hl0 : 0 ≤ l) (hl : l ≤ 4194304) (hn : 0 < n) (hx : x = r l) (hkb : kb ≠ sb) (g0 : W.cell? ⟨kb, ko, none⟩ = some (.string k0)) (g1 : W.cell? ⟨kb, ko + 1, none⟩ = some (.bool k1)) (g2 : W.cell? ⟨kb, ko + 2, none⟩ = some (.int .i64 k2)) (g3 : W.cell? ⟨kb, ko + 3, none⟩ = some (.int .i64 k3)) (g4 : W.cell? ⟨kb, ko + 4, none⟩ = some (.int .i64 k4)) (g5 : W.cell? ⟨kb, ko + 5, none⟩ = some (.int .i64 k5)) (g6 : W.cell? ⟨kb, ko + 6, none⟩ = some (.slice kp kn kc)) (hF : FitC w sb 76 (.agg #[.string k0, .bool k1, .int .i64 k2, .int .i64 k3, .int .i64 k4, .int .i64 k5, .slice kp kn kc]) (.agg #[.bool false, .int .i64 v1, .string v2, .slice vo m vc]) r) :
    Calls Tryz.prog 76 #[.pointer (some ⟨sb, 0, none⟩), .agg #[.string f0, .bool f1, .int .i64 20, .int .i64 f3, .int .i64 f4, .int .i64 f5, .slice (some ⟨kb, ko, none⟩) n ca], .agg #[.bool false, .int .i64 v1, .string v2, .slice vo m vc]] W fun e w' => FitQ W sb x e w' := by
  obtain ⟨V, hV⟩ : ∃ V, (((W.alloc (.cells #[.string f0, .bool f1, .int .i64 20, .int .i64 f3, .int .i64 f4, .int .i64 f5, .slice (some ⟨kb, ko, none⟩) n ca] 26)).alloc (.cells #[.bool false, .int .i64 v1, .string v2, .slice vo m vc] 29)).alloc (.cells #[.int .i64 20, .int .i64 f3, .int .i64 f4, .int .i64 f5, .slice (some ⟨kb, ko, none⟩) n ca] 24)).drew = V := ⟨_, rfl⟩
  have hA := alloc3 W (.cells #[.string f0, .bool f1, .int .i64 20, .int .i64 f3, .int .i64 f4, .int .i64 f5, .slice (some ⟨kb, ko, none⟩) n ca] 26) (.cells #[.bool false, .int .i64 v1, .string v2, .slice vo m vc] 29) (.cells #[.int .i64 20, .int .i64 f3, .int .i64 f4, .int .i64 f5, .slice (some ⟨kb, ko, none⟩) n ca] 24)
  rw [hV] at hA
  obtain ⟨_, b4, b5, gr⟩ := hA
  obtain ⟨p0, p1, p2, p3⟩ := B4.cells b4
  obtain ⟨q0, q1, q2, q3, q4⟩ := B5.cells b5
  have g0 := gr.cell' g0 id
  have g1 := gr.cell' g1 id
  have g2 := gr.cell' g2 id
  have g3 := gr.cell' g3 id
  have g4 := gr.cell' g4 id
  have g5 := gr.cell' g5 id
  have g6 := gr.cell' g6 id
  have HS := hidM (hs.self.gr gr)
  have HK := hidM hs.kp
  have HF := hidM hF
  have HX := hidM hx
  have hn' : (0 : Int) < (n : Int) := by omega
  have hlt := hs.lt
  have hN := hidM (And.intro (show W.heap.size + 1 + 1 ≠ sb by omega) (And.intro (show W.heap.size + 1 ≠ sb by omega) hkb))
  have HC : Hid (V.drew.cell? ⟨W.heap.size + 1 + 1, 4, none⟩ = some (.slice (some ⟨kb, ko, none⟩) n ca) ∧ V.drew.cell? ⟨W.heap.size + 1, 0, none⟩ = some (.bool false) ∧ V.drew.cell? ⟨W.heap.size + 1, 1, none⟩ = some (.int .i64 v1) ∧ V.drew.cell? ⟨W.heap.size + 1, 2, none⟩ = some (.string v2) ∧ V.drew.cell? ⟨W.heap.size + 1, 3, none⟩ = some (.slice vo m vc) ∧ V.drew.cell? ⟨kb, ko, none⟩ = some (.string k0) ∧ V.drew.cell? ⟨kb, ko + 1, none⟩ = some (.bool k1) ∧ V.drew.cell? ⟨kb, ko + 2, none⟩ = some (.int .i64 k2) ∧ V.drew.cell? ⟨kb, ko + 3, none⟩ = some (.int .i64 k3) ∧ V.drew.cell? ⟨kb, ko + 4, none⟩ = some (.int .i64 k4) ∧ V.drew.cell? ⟨kb, ko + 5, none⟩ = some (.int .i64 k5) ∧ V.drew.cell? ⟨kb, ko + 6, none⟩ = some (.slice kp kn kc)) := ⟨q4, p0, p1, p2, p3, g0, g1, g2, g3, g4, g5, g6⟩
  have HL := hidM (And.intro hl0 hl)
  clear b4 b5 gr hs hF hx p2 hlt hkb hl0 hl
  go_enter Tryz.func76, Tryz.ntmps76
  go_wp2
  go_region
  all_goals
    go_wp2
    clear hV p0 p1 p3 q0 q1 q2 q3 q4 g0 g1 g2 g3 g4 g5 g6
    go_region_held3 (fun w' => w'.cell? ⟨W.heap.size + 1 + 1, 4, none⟩ = some (.slice (some ⟨kb, ko, none⟩) n ca) ∧ w'.cell? ⟨W.heap.size + 1, 0, none⟩ = some (.bool false) ∧ w'.cell? ⟨W.heap.size + 1, 1, none⟩ = some (.int .i64 v1) ∧ w'.cell? ⟨W.heap.size + 1, 2, none⟩ = some (.string v2) ∧ w'.cell? ⟨W.heap.size + 1, 3, none⟩ = some (.slice vo m vc) ∧ w'.cell? ⟨kb, ko, none⟩ = some (.string k0) ∧ w'.cell? ⟨kb, ko + 1, none⟩ = some (.bool k1) ∧ w'.cell? ⟨kb, ko + 2, none⟩ = some (.int .i64 k2) ∧ w'.cell? ⟨kb, ko + 3, none⟩ = some (.int .i64 k3) ∧ w'.cell? ⟨kb, ko + 4, none⟩ = some (.int .i64 k4) ∧ w'.cell? ⟨kb, ko + 5, none⟩ = some (.int .i64 k5) ∧ w'.cell? ⟨kb, ko + 6, none⟩ = some (.slice kp kn kc)) (first | with_reducible exact HC.out | with_reducible exact keep12 HE.out.1 hN.out.1 hN.out.2.1 hN.out.2.2 HC.out) ((go_at_call 76; refine Calls.mono (HF.out _ _ ((HS.out.drew).base HK.out) HL.out.1 HL.out.2) ?_; rintro e v1' ⟨l', rfl, hs', hr⟩; have HE := hidM (And.intro hs' hr); clear hs' hr))
  all_goals
    go_wp2_with fail
    go_ret
    exact .of HX.out rfl (HE.out.1.base HS.out.drew.kp) HE.out.2
theorem type17 (f0 : ByteArray) (f1 : Bool) (f3 f4 f5 : Int) (ao : Option Addr) (n ca : Nat) (v1 : Int) (v2 : ByteArray) (vo : Option Addr) (m vc : Nat) (w W : World) (sb : Nat) (l : Int) (x : Option Int) (b1 b2 b3 : Bool) (hb1 : (v1 == 0) = b1) (hb2 : v2.toList.isEmpty = b2) (hb3 : ((m : Int) == 0) = b3) (hs : Sc w W sb l) (r : Int → Option Int) (hl0 : 0 ≤ l) (hl : l ≤ 4194304) (hF : FitC w sb 111 (.slice ao n ca) (.slice vo m vc) r) (hx : x = if (b1 && b2) = true then r l else none) :
    Calls Tryz.prog 76 #[.pointer (some ⟨sb, 0, none⟩), .agg #[.string f0, .bool f1, .int .i64 17, .int .i64 f3, .int .i64 f4, .int .i64 f5, .slice ao n ca], .agg #[.bool false, .int .i64 v1, .string v2, .slice vo m vc]] W fun e w' => FitQ W sb x e w' := by
  have HS := hidM hs.self
  have HK := hidM hs.kp
  have HF := hidM hF
  have HL := hidM (And.intro hl0 hl)
  clear hs hF hl0 hl
  cases b1 <;> cases b2 <;> simp only [Bool.and_true, Bool.and_false, if_true, if_false, Bool.false_eq_true] at hx
  all_goals
    have HX := hidM hx
    clear hx
    go_enter Tryz.func76, Tryz.ntmps76
    go_wp2
    go_region
    all_goals
      go_wp2_with (go_at_call 111; refine Calls.mono (HF.out _ _ ((((HS.out.alloc _).alloc _).alloc _).drew.base HK.out) HL.out.1 HL.out.2) ?_; rintro e v1' ⟨l', rfl, hs', hr⟩; have HE := hidM (And.intro hs' hr); clear hs' hr)
      go_ret
      first | exact .no HX.out rfl ((((HS.out.alloc _).alloc _).alloc _).drew) | exact .of HX.out rfl (HE.out.1.base ((((HS.out.alloc _).alloc _).alloc _).drew).kp) HE.out.2
theorem type18 (f0 : ByteArray) (f1 : Bool) (f3 f4 f5 : Int) (ao : Option Addr) (n ca : Nat) (v1 : Int) (v2 : ByteArray) (vo : Option Addr) (m vc : Nat) (w W : World) (sb : Nat) (l : Int) (x : Option Int) (b1 b2 b3 : Bool) (hb1 : (v1 == 0) = b1) (hb2 : v2.toList.isEmpty = b2) (hb3 : ((m : Int) == 0) = b3) (hs : Sc w W sb l) (r : Int → Option Int) (hl0 : 0 ≤ l) (hl : l ≤ 4194304) (hF : FitC w sb 112 (.slice ao n ca) (.agg #[.bool false, .int .i64 v1, .string v2, .slice vo m vc]) r) (hx : x = if (b2) = true then r l else none) :
    Calls Tryz.prog 76 #[.pointer (some ⟨sb, 0, none⟩), .agg #[.string f0, .bool f1, .int .i64 18, .int .i64 f3, .int .i64 f4, .int .i64 f5, .slice ao n ca], .agg #[.bool false, .int .i64 v1, .string v2, .slice vo m vc]] W fun e w' => FitQ W sb x e w' := by
  have HS := hidM hs.self
  have HK := hidM hs.kp
  have HF := hidM hF
  have HL := hidM (And.intro hl0 hl)
  clear hs hF hl0 hl
  cases b2 <;> simp only [if_true, if_false, Bool.false_eq_true] at hx
  all_goals
    have HX := hidM hx
    clear hx
    go_enter Tryz.func76, Tryz.ntmps76
    go_wp2
    go_region
    all_goals
      go_wp2_with (go_at_call 112; refine Calls.mono (HF.out _ _ ((((HS.out.alloc _).alloc _).alloc _).drew.base HK.out) HL.out.1 HL.out.2) ?_; rintro e v1' ⟨l', rfl, hs', hr⟩; have HE := hidM (And.intro hs' hr); clear hs' hr)
      go_ret
      first | exact .no HX.out rfl ((((HS.out.alloc _).alloc _).alloc _).drew) | exact .of HX.out rfl (HE.out.1.base ((((HS.out.alloc _).alloc _).alloc _).drew).kp) HE.out.2
/-! ### fitsItems: one field, a value after the other -/
theorem fitsL_drop {r : VT → Int → Option Int} {l : List VT} {k : Nat} (h : k < l.length) (x : Int) : fitsL r (l.drop k) x = (r l[k] x).bind (fitsL r (l.drop (k + 1))) := by
  rw [List.drop_eq_getElem_cons h, fitsL]
theorem items_any (S : Nat → Prop) (d : Nat) (list : List VT) (k0 : ByteArray) (k1 : Bool) (k2 k3 k4 k5 : Int) (kp : Option Addr) (kn kc : Nat) (vo : Option Addr) (vc : Nat) (w : World) (sb : Nat) (r : VT → Int → Option Int) (hr : Falls r)
    (hS : ∀ b, S b → b < w.heap.size ∧ b ≠ sb) (hv : VRow S w (d + 1) vo list)
    (h47 : ∀ v ao ca, VOk v → VRow S w d ao v.list → FitC w sb 43 (.agg #[.string k0, .bool k1, .int .i64 k2, .int .i64 k3, .int .i64 k4, .int .i64 k5, .slice kp kn kc]) (.agg #[.bool v.nul, .int .i64 v.num, .string v.text, .slice ao v.list.length ca]) (weigh r v)) :
    FitC w sb 110 (.agg #[.string k0, .bool k1, .int .i64 k2, .int .i64 k3, .int .i64 k4, .int .i64 k5, .slice kp kn kc]) (.slice vo list.length vc) (fun l => if list.length ≤ 4096 then fitsL (weigh r) list l else none) := by
  intro W l hs hl0 hl1
  dsimp only
  obtain ⟨x, hx⟩ : ∃ x, x = (if list.length ≤ 4096 then fitsL (weigh r) list l else none) := ⟨_, rfl⟩
  rw [← hx]
  obtain ⟨L, hL⟩ : ∃ L, L = list.length := ⟨_, rfl⟩
  rw [← hL] at hx ⊢
  have hLb : L ≤ 1000000000000 := by rw [hL]; exact hv.len
  have HLE := hidM hL
  have HS := hidM hs.self
  have HK := hidM hs.kp
  have HR := hidM hr
  have HB := hidM hS
  have HV := hidM hv
  have H47 := hidM h47
  have HL := hidM (And.intro hl0 hl1)
  have hlt := hs.lt
  have hne : Hid (W.heap.size ≠ sb) := by show _ ≠ _; omega
  have hb7 : Hid (B7 (W.alloc (.cells #[.string k0, .bool k1, .int .i64 k2, .int .i64 k3, .int .i64 k4, .int .i64 k5, .slice kp kn kc] 26)) W.heap.size k0 k1 k2 k3 k4 k5 kp kn kc) := heap_alloc_new W _
  clear hs hr hS hv h47 hl0 hl1 hlt hL
  by_cases hm : L ≤ 4096
  · rw [if_pos hm] at hx
    have HX := hidM hx
    clear hx
    go_enter Tryz.func110, Tryz.ntmps110
    go_wp2
    obtain ⟨W1, hW1⟩ : ∃ W1, W.alloc (.cells #[.string k0, .bool k1, .int .i64 k2, .int .i64 k3, .int .i64 k4, .int .i64 k5, .slice kp kn kc] 26) = W1 := ⟨_, rfl⟩
    have HS1 : Hid (Sc W W1 sb l) := by rw [← hW1]; exact HS.out.alloc _
    rw [hW1] at hb7 ⊢
    clear hW1 HS
    go_loopw [14] (fun p wr => ∃ k : Nat, k ≤ L ∧ p = .int .i64 (k : Int) ∧ Hid (∃ l', Sc W1 wr sb l' ∧ 0 ≤ l' ∧ l' ≤ 4194304 ∧ x = fitsL (weigh r) (list.drop k) l')) (fun p _ => L - (intOf p).toNat)
    case atStart => exact ⟨0, by omega, rfl, l, HS1.out.self, HL.out.1, HL.out.2, by rw [HX.out]; rfl⟩
    case round =>
      obtain ⟨k, hk, rfl, HI⟩ := hrel
      obtain ⟨l', hs', h0', h1', hx'⟩ := HI.out
      have HS' := hidM hs'
      have HL' := hidM (And.intro h0' h1')
      clear HI
      by_cases hlt : k < L
      · have hkl : k < list.length := by have := HLE.out; omega
        obtain ⟨b, o, rfl, hb, hcs⟩ := HV.out.2 (fun e => by subst e; simp at hkl)
        obtain ⟨ao', ca', hc, hle, hok, hrow⟩ := hcs k hkl
        have hcall := H47.out list[k] ao' ca' hok hrow
        rw [fitsL_drop hkl] at hx'
        obtain ⟨v, hve⟩ : ∃ v, v = list[k]'hkl := ⟨_, rfl⟩
        rw [← hve] at hcall hx' hc
        have hk1 : Sc w wr sb l' := (hs'.base HS1.out.kp).base HK.out
        have hcw := hc.kept (hk1.kp.block b (HB.out b hb).1 (HB.out b hb).2)
        obtain ⟨c0, c1, c2, c3⟩ := hcw
        have b7 : B7 wr W.heap.size k0 k1 k2 k3 k4 k5 kp kn kc := (hs'.kp.block _ (lt_of_heap hb7.out) hne.out).trans hb7.out
        obtain ⟨p0, p1, p2, p3, p4, p5, p6⟩ := b7.cells
        have p0 := fun o => (gr_alloc wr o).cell' p0 id
        have p1 := fun o => (gr_alloc wr o).cell' p1 id
        have p2 := fun o => (gr_alloc wr o).cell' p2 id
        have p3 := fun o => (gr_alloc wr o).cell' p3 id
        have p4 := fun o => (gr_alloc wr o).cell' p4 id
        have p5 := fun o => (gr_alloc wr o).cell' p5 id
        have p6 := fun o => (gr_alloc wr o).cell' p6 id
        have HC := hidM hcall
        have HK1 := hidM hk1
        have hltI : (k : Int) < (L : Int) := by omega
        have HF := hidM (fun l1 (h : weigh r v l' = some l1) => HR.out.weigh v l' l1 h0' h)
        obtain ⟨y, hy⟩ : ∃ y, y = weigh r v l' := ⟨_, rfl⟩
        rw [← hy] at hx' HF
        have HX' := hidM hx'
        have HY := hidM hy
        clear hcs hc hok hrow hcall hs' h0' h1' hx' hk1 b7 hve hy hle
        cases y with
        | some l2 =>
          go_wp2_with (go_at_call 43; refine Hid.out ?_)
          unfold Hid
          refine Calls.mono (HC.out _ _ (HK1.out.alloc _) HL'.out.1 HL'.out.2) ?_
          rintro e w2 ⟨l3, rfl, hs3, hl3⟩
          have hl3 := hl3 l2 HY.out.symm
          subst hl3
          rw [← HY.out]
          have HE := hidM hs3
          clear hs3
          go_wp2_with fail
          go_roundw
          case rel =>
            have := HF.out l3 rfl
            exact ⟨k + 1, by omega, by simp, l3, HE.out.base (HS'.out.alloc _).kp, this.1, by have := HL'.out.2; omega, HX'.out⟩
          case measure => simp [intOf]; omega
        | none =>
          go_wp2_with (go_at_call 43; refine Hid.out ?_)
          unfold Hid
          refine Calls.mono (HC.out _ _ (HK1.out.alloc _) HL'.out.1 HL'.out.2) ?_
          rintro e w2 ⟨l3, rfl, hs3, hl3⟩
          rw [← HY.out]
          have HE := hidM hs3
          clear hs3 hl3
          go_wp2_with fail
          go_ret
          exact .no HX'.out rfl (HE.out.base ((HS'.out.alloc _).base HS1.out.kp).kp)
      · have hkL : k = L := by omega
        subst hkL
        have HX' : Hid (x = some l') := by
          show x = some l'
          rw [hx', List.drop_of_length_le (by have := HLE.out; omega)]
          rfl
        clear hx' hs' h0' h1'
        go_wp2
        go_ret
        exact .yes HX'.out rfl (HS'.out.base HS1.out.kp)
  · rw [if_neg hm] at hx
    have HX := hidM hx
    have hmI : (4096 : Int) < (L : Int) := by omega
    clear hx
    go_enter Tryz.func110, Tryz.ntmps110
    go_wp2
    go_ret
    exact .no HX.out rfl (HS.out.alloc _)
end Go.Proofs.YtfoifmacobldbaaGreatDoor.Kit
