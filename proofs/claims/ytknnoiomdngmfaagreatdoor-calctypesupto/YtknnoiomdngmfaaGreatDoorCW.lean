import Derived.Test.YtknnoiomdngmfaaGreatDoorKF
import Derived.Test.YtknnoiomdngmfaaGreatDoorLQ
import Derived.Test.YtknnoiomdngmfaaGreatDoorKC
import Derived.Shelf.Spec.SlicesInsertGrow
import Derived.Test.YtknnoiomdngmfaaGreatDoorProg
import Derived.Test.YtknnoiomdngmfaaGreatDoorCU
set_option maxRecDepth 100000
set_option maxHeartbeats 4000000
namespace Go.Proofs.YtknnoiomdngmfaaGreatDoor.Kit
open Go.RowKit Go.Shelf Go.Deep
open Go.Proofs.YtknnoiomdngmfaaGreatDoor.Ink (OwnRow)
set_option linter.unusedVariables false
set_option linter.unusedSimpArgs false
attribute [local go_sem] run_store_func
theorem each11 (cb ga gb p d : Nat) (W : World) (hC : ColA W cb ga gb) (hp : W.heap[p]? = some (.cells #[.int .i64 3] 3)) (hd : W.heap[d]? = some (.cells #[.func (.func 184) #[] #[]] 174)) : Calls Tryz.prog 41 #[.agg #[.bool false, .func (.func 123) #[] #[.pointer (some ⟨p, 0, none⟩), .pointer (some ⟨d, 0, none⟩)]], .slice (some ⟨cb, 0, none⟩) 2 2] W fun e w' => ∃ z, e = .returned (.tuple #[.slice (some ⟨z, 0, none⟩) 2 2, .int .i64 0, .int .i64 0]) ∧ Gr W w' ∧ W.heap.size ≤ z ∧ w'.heap[z]? = some (.cells #[.bool false, .int .i64 9, .string ⟨#[]⟩, .slice none 0 0, .bool false, .int .i64 16, .string ⟨#[]⟩, .slice none 0 0] 98) := by
  obtain ⟨A0, hA0⟩ := ex (W.alloc (.cells #[.bool false, .func (.func 123) #[] #[.pointer (some ⟨p, 0, none⟩), .pointer (some ⟨d, 0, none⟩)]] 77))
  have g0 := gr_al hA0
  have b0 := al_new hA0
  obtain ⟨z7, hz7⟩ := ex (A0.heap.size)
  obtain ⟨A1, hA1⟩ := ex (A0.alloc (.cells #[.bool false, .int .i64 0, .string ⟨#[]⟩, .slice none 0 0, .bool false, .int .i64 0, .string ⟨#[]⟩, .slice none 0 0] 98))
  have g1 := gr_al hA1
  have b1 : A1.heap[z7]? = some (.cells #[.bool false, .int .i64 0, .string ⟨#[]⟩, .slice none 0 0, .bool false, .int .i64 0, .string ⟨#[]⟩, .slice none 0 0] 98) := by rw [← hA1, ← hz7]; exact heap_alloc_new A0 _
  obtain ⟨z8, hz8⟩ := ex (A1.heap.size)
  obtain ⟨A, hA⟩ := ex (A1.alloc (.cells #[.bool false, .int .i64 0, .string ⟨#[]⟩, .slice none 0 0, .bool false, .int .i64 0, .string ⟨#[]⟩, .slice none 0 0] 98))
  have g2 := gr_al hA
  have b2 : A.heap[z8]? = some (.cells #[.bool false, .int .i64 0, .string ⟨#[]⟩, .slice none 0 0, .bool false, .int .i64 0, .string ⟨#[]⟩, .slice none 0 0] 98) := by rw [← hA, ← hz8]; exact heap_alloc_new A1 _
  have b1' := (g2.block _ (lt_of_heap b1) id).trans b1
  have g12 := g1.tr g2
  have gA : Gr W A := g0.tr g12
  have b0' := (g12.block _ (lt_of_heap b0) id).trans b0
  have l0 := lt_of_heap b0
  have l1 := lt_of_heap b1
  have lW := g0.size
  have nW : ∀ b, b < W.heap.size → ¬ (b = z7 ∨ b = z8) := fun b hb e => by rcases e with e | e <;> omega
  have HCo : Hid (∀ u, Keeps A u (fun b => b = z7 ∨ b = z8) → ColA u cb ga gb) := fun u g => (hC.kp (S := fun _ => False) gA id id id).kp g (nW _ (lt_of_heap hC.c0)) (nW _ (lt_of_heap hC.a)) (nW _ (lt_of_heap hC.b))
  have HBx : Hid (∀ u, Keeps A u (fun b => b = z7 ∨ b = z8) → u.heap[W.heap.size]? = some (.cells #[.bool false, .func (.func 123) #[] #[.pointer (some ⟨p, 0, none⟩), .pointer (some ⟨d, 0, none⟩)]] 77)) := fun u g => (g.block _ (lt_of_heap b0') (fun e => by rcases e with e | e <;> omega)).trans b0'
  have HPD : Hid (∀ u, Keeps A u (fun b => b = z7 ∨ b = z8) → u.heap[p]? = some (.cells #[.int .i64 3] 3) ∧ u.heap[d]? = some (.cells #[.func (.func 184) #[] #[]] 174)) := fun u g => ⟨(g.block _ (Nat.lt_of_lt_of_le (lt_of_heap hp) gA.size) (nW _ (lt_of_heap hp))).trans ((gA.block p (lt_of_heap hp) id).trans hp), (g.block _ (Nat.lt_of_lt_of_le (lt_of_heap hd) gA.size) (nW _ (lt_of_heap hd))).trans ((gA.block d (lt_of_heap hd) id).trans hd)⟩
  have HN78 : Hid (¬ z7 = z8) := by show ¬ z7 = z8; omega
  have HI0 : Hid (EaI A z7 z8 0 A) := ⟨Keeps.refl _ _, b1', b2⟩
  have HEnd : Hid (∀ u, Keeps A u (fun b => b = z7 ∨ b = z8) → Gr W u ∧ W.heap.size ≤ z7) := fun u g => ⟨gA.trans g (fun j hj e => by rcases e with e | e <;> omega), by omega⟩
  have hcl := hC.kp (S := fun _ => False) g0 id id id
  obtain ⟨p0, p1⟩ := cell2 hcl.c0
  have hmk := mk42
  clear g0 b0 g1 b1 g2 b2 b1' g12 gA b0' l0 l1 lW nW hC hp hd hcl
  go_enter Tryz.func41, Tryz.ntmps41
  go_wp2_with fail
  clear hA0 hA1 hA p0 p1 hmk
  go_loopw [24] (fun i wr => ∃ k : Nat, k ≤ 2 ∧ i = .int .i64 k ∧ Hid (EaI A z7 z8 k wr)) (fun i _ => 2 - (intOf i).toNat)
  case atStart => exact ⟨0, by omega, rfl, HI0⟩
  case round =>
    clear HI0
    obtain ⟨k, hk, rfl, HI⟩ := hrel
    have hk3 : k = 0 ∨ k = 1 ∨ k = 2 := by omega
    rcases hk3 with rfl | rfl | rfl
    · go_wp2_with fail
      go_loopw [29] (fun j ww => ∃ m : Nat, m ≤ 2 ∧ j = .int .i64 m ∧ Hid (EbI wr z8 0 m ww)) (fun j _ => 2 - (intOf j).toNat)
      case atStart => exact ⟨0, by omega, rfl, ⟨Keeps.refl _ _, HI.out.2.2⟩⟩
      case round =>
        obtain ⟨m, hm, rfl, HJ⟩ := hrel
        have hm3 : m = 0 ∨ m = 1 ∨ m = 2 := by omega
        rcases hm3 with rfl | rfl | rfl
        · have hcl := HCo.out wr (HI.out.1.trans HJ.out.1 (fun _ _ h => .inr h))
          obtain ⟨p0, p1⟩ := cell2 hcl.c0
          obtain ⟨a0, a1, a2, a3, -⟩ := cell8 hcl.a
          have hz8 := HJ.out.2
          obtain ⟨y0, y1, y2, y3, -⟩ := cell8 hz8
          have x0 := frz HJ.out.2 0
          have x1 := frz HJ.out.2 1
          have x2 := frz HJ.out.2 2
          have x3 := frz HJ.out.2 3
          have hn : EbI _ z8 0 1 (v40 wr z8 3) := ⟨HJ.out.1.tr (setAll_kp _ _ _), ag_00 HJ.out.2⟩
          obtain ⟨U, hU⟩ := ex (v40 wr z8 3)
          rw [hU] at hn
          simp only [v40, setAll] at hU
          have HN := hidM hn
          clear hn hcl hz8 HJ
          go_wp2_with fail
          go_roundw
          case rel => exact ⟨1, by omega, by go_num, HN⟩
          case measure => simp [intOf]
        · have hcl := HCo.out wr (HI.out.1.trans HJ.out.1 (fun _ _ h => .inr h))
          obtain ⟨p0, p1⟩ := cell2 hcl.c0
          obtain ⟨a0, a1, a2, a3, -⟩ := cell8 hcl.b
          have hz8 := HJ.out.2
          obtain ⟨-, -, -, -, y0, y1, y2, y3⟩ := cell8 hz8
          have x0 := frz HJ.out.2 4
          have x1 := frz HJ.out.2 5
          have x2 := frz HJ.out.2 6
          have x3 := frz HJ.out.2 7
          have hn : EbI _ z8 0 2 (v41 wr z8 3) := ⟨HJ.out.1.tr (setAll_kp _ _ _), ag_01 HJ.out.2⟩
          obtain ⟨U, hU⟩ := ex (v41 wr z8 3)
          rw [hU] at hn
          simp only [v41, setAll] at hU
          have HN := hidM hn
          clear hn hcl hz8 HJ
          go_wp2_with fail
          go_roundw
          case rel => exact ⟨2, by omega, by go_num, HN⟩
          case measure => simp [intOf]
        have kO := HI.out.1.trans HJ.out.1 (fun _ _ h => .inr h)
        have hz7 := (HJ.out.1.block z7 (lt_of_heap HI.out.2.1) HN78.out).trans HI.out.2.1
        have hz8 : wr.heap[z8]? = some (.cells (vl2 3) 98) := HJ.out.2
        have H36 := hidM (one36_0 z8 2 p d wr hz8 (HPD.out wr kO).1 (HPD.out wr kO).2)
        obtain ⟨q0, q1⟩ := cell2 (HBx.out wr kO)
        have HT : Hid (∀ w2, Gr wr w2 → Keeps A w2 (fun b => b = z7 ∨ b = z8) ∧ w2.heap[z7]? = some (.cells (rsK 0) 98) ∧ w2.heap[z8]? = some (.cells (agB 1) 98) ∧ z7 < w2.heap.size ∧ z8 < w2.heap.size) := fun w2 g => ⟨kO.tr (g.mono fun _ _ h => h.elim), (g.block _ (lt_of_heap hz7) id).trans hz7, (g.block _ (lt_of_heap hz8) id).trans hz8, Nat.lt_of_lt_of_le (lt_of_heap hz7) g.size, Nat.lt_of_lt_of_le (lt_of_heap hz8) g.size⟩
        clear kO hz7 hz8 HJ HI
        go_wp2_with (go_at_call 68; refine H36.out.mono ?_; rintro e w2 ⟨rfl, g2⟩; obtain ⟨k2, h72, h82, l7, l8⟩ := HT.out w2 g2; clear g2 q0 q1; obtain ⟨A5, hA5⟩ := ex (w2.alloc (.cells #[.bool false, .int .i64 0, .string ⟨#[]⟩, .slice none 0 0] 98)); have g5 := gr_al hA5; have hb5 := al_new hA5; obtain ⟨u0, u1, u2, u3⟩ := cell4 hb5; have f0 := frz hb5 0; have f1 := frz hb5 1; have f2 := frz hb5 2; have f3 := frz hb5 3; have hv5 := vl_blk (vn := false) (x := 9) hb5; have gv5 : Gr w2 (vlU A5 w2.heap.size false 9) := g5.trans (vl_kp _ _ _ _) (fun j hj e => (by have e' : j = w2.heap.size := e; omega)); obtain ⟨Q, hQ⟩ := ex (vlU A5 w2.heap.size false 9); rw [hQ] at hv5 gv5; simp only [vlU, setAll] at hQ; obtain ⟨t0, t1, t2, t3⟩ := cell4 hv5; have h7 := (gv5.block z7 l7 id).trans h72; have h8 := (gv5.block z8 l8 id).trans h82; obtain ⟨y0, y1, y2, y3, -⟩ := cell8 h7; have x0 := frz h7 0; have x1 := frz h7 1; have x2 := frz h7 2; have x3 := frz h7 3; have hn : EaI A z7 z8 1 (v40 Q z7 9) := ⟨(k2.tr (gv5.mono fun _ _ h => h.elim)).trans (setAll_kp _ _ _) (fun _ _ h => .inl h), rs_0 h7, ((setAll_kp _ _ _).block z8 (lt_of_heap h8) (fun e => HN78.out (Eq.symm e))).trans h8⟩; obtain ⟨U, hU⟩ := ex (v40 Q z7 9); rw [hU] at hn; simp only [v40, setAll] at hU; have HN := hidM hn; clear k2 h72 h82 l7 l8 g5 hb5 hv5 gv5 h7 h8 hn)
        go_roundw
        case rel => exact ⟨1, by omega, by go_num, HN⟩
        case measure => simp [intOf]
    · go_wp2_with fail
      go_loopw [29] (fun j ww => ∃ m : Nat, m ≤ 2 ∧ j = .int .i64 m ∧ Hid (EbI wr z8 1 m ww)) (fun j _ => 2 - (intOf j).toNat)
      case atStart => exact ⟨0, by omega, rfl, ⟨Keeps.refl _ _, HI.out.2.2⟩⟩
      case round =>
        obtain ⟨m, hm, rfl, HJ⟩ := hrel
        have hm3 : m = 0 ∨ m = 1 ∨ m = 2 := by omega
        rcases hm3 with rfl | rfl | rfl
        · have hcl := HCo.out wr (HI.out.1.trans HJ.out.1 (fun _ _ h => .inr h))
          obtain ⟨p0, p1⟩ := cell2 hcl.c0
          obtain ⟨-, -, -, -, a0, a1, a2, a3⟩ := cell8 hcl.a
          have hz8 := HJ.out.2
          obtain ⟨y0, y1, y2, y3, -⟩ := cell8 hz8
          have x0 := frz HJ.out.2 0
          have x1 := frz HJ.out.2 1
          have x2 := frz HJ.out.2 2
          have x3 := frz HJ.out.2 3
          have hn : EbI _ z8 1 1 (v40 wr z8 4) := ⟨HJ.out.1.tr (setAll_kp _ _ _), ag_10 HJ.out.2⟩
          obtain ⟨U, hU⟩ := ex (v40 wr z8 4)
          rw [hU] at hn
          simp only [v40, setAll] at hU
          have HN := hidM hn
          clear hn hcl hz8 HJ
          go_wp2_with fail
          go_roundw
          case rel => exact ⟨1, by omega, by go_num, HN⟩
          case measure => simp [intOf]
        · have hcl := HCo.out wr (HI.out.1.trans HJ.out.1 (fun _ _ h => .inr h))
          obtain ⟨p0, p1⟩ := cell2 hcl.c0
          obtain ⟨-, -, -, -, a0, a1, a2, a3⟩ := cell8 hcl.b
          have hz8 := HJ.out.2
          obtain ⟨-, -, -, -, y0, y1, y2, y3⟩ := cell8 hz8
          have x0 := frz HJ.out.2 4
          have x1 := frz HJ.out.2 5
          have x2 := frz HJ.out.2 6
          have x3 := frz HJ.out.2 7
          have hn : EbI _ z8 1 2 (v41 wr z8 4) := ⟨HJ.out.1.tr (setAll_kp _ _ _), ag_11 HJ.out.2⟩
          obtain ⟨U, hU⟩ := ex (v41 wr z8 4)
          rw [hU] at hn
          simp only [v41, setAll] at hU
          have HN := hidM hn
          clear hn hcl hz8 HJ
          go_wp2_with fail
          go_roundw
          case rel => exact ⟨2, by omega, by go_num, HN⟩
          case measure => simp [intOf]
        have kO := HI.out.1.trans HJ.out.1 (fun _ _ h => .inr h)
        have hz7 := (HJ.out.1.block z7 (lt_of_heap HI.out.2.1) HN78.out).trans HI.out.2.1
        have hz8 : wr.heap[z8]? = some (.cells (vl2 4) 98) := HJ.out.2
        have H36 := hidM (one36_1 z8 2 p d wr hz8 (HPD.out wr kO).1 (HPD.out wr kO).2)
        obtain ⟨q0, q1⟩ := cell2 (HBx.out wr kO)
        have HT : Hid (∀ w2, Gr wr w2 → Keeps A w2 (fun b => b = z7 ∨ b = z8) ∧ w2.heap[z7]? = some (.cells (rsK 1) 98) ∧ w2.heap[z8]? = some (.cells (agB 2) 98) ∧ z7 < w2.heap.size ∧ z8 < w2.heap.size) := fun w2 g => ⟨kO.tr (g.mono fun _ _ h => h.elim), (g.block _ (lt_of_heap hz7) id).trans hz7, (g.block _ (lt_of_heap hz8) id).trans hz8, Nat.lt_of_lt_of_le (lt_of_heap hz7) g.size, Nat.lt_of_lt_of_le (lt_of_heap hz8) g.size⟩
        clear kO hz7 hz8 HJ HI
        go_wp2_with (go_at_call 68; refine H36.out.mono ?_; rintro e w2 ⟨rfl, g2⟩; obtain ⟨k2, h72, h82, l7, l8⟩ := HT.out w2 g2; clear g2 q0 q1; obtain ⟨A5, hA5⟩ := ex (w2.alloc (.cells #[.bool false, .int .i64 0, .string ⟨#[]⟩, .slice none 0 0] 98)); have g5 := gr_al hA5; have hb5 := al_new hA5; obtain ⟨u0, u1, u2, u3⟩ := cell4 hb5; have f0 := frz hb5 0; have f1 := frz hb5 1; have f2 := frz hb5 2; have f3 := frz hb5 3; have hv5 := vl_blk (vn := false) (x := 16) hb5; have gv5 : Gr w2 (vlU A5 w2.heap.size false 16) := g5.trans (vl_kp _ _ _ _) (fun j hj e => (by have e' : j = w2.heap.size := e; omega)); obtain ⟨Q, hQ⟩ := ex (vlU A5 w2.heap.size false 16); rw [hQ] at hv5 gv5; simp only [vlU, setAll] at hQ; obtain ⟨t0, t1, t2, t3⟩ := cell4 hv5; have h7 := (gv5.block z7 l7 id).trans h72; have h8 := (gv5.block z8 l8 id).trans h82; obtain ⟨-, -, -, -, y0, y1, y2, y3⟩ := cell8 h7; have x0 := frz h7 4; have x1 := frz h7 5; have x2 := frz h7 6; have x3 := frz h7 7; have hn : EaI A z7 z8 2 (v41 Q z7 16) := ⟨(k2.tr (gv5.mono fun _ _ h => h.elim)).trans (setAll_kp _ _ _) (fun _ _ h => .inl h), rs_1 h7, ((setAll_kp _ _ _).block z8 (lt_of_heap h8) (fun e => HN78.out (Eq.symm e))).trans h8⟩; obtain ⟨U, hU⟩ := ex (v41 Q z7 16); rw [hU] at hn; simp only [v41, setAll] at hU; have HN := hidM hn; clear k2 h72 h82 l7 l8 g5 hb5 hv5 gv5 h7 h8 hn)
        go_roundw
        case rel => exact ⟨2, by omega, by go_num, HN⟩
        case measure => simp [intOf]
    obtain ⟨e1, e2⟩ := HEnd.out wr HI.out.1
    have HE := hidM (And.intro e1 (And.intro e2 HI.out.2.1))
    clear e1 e2 HI
    go_wp2_with fail
    go_ret3
    exact ⟨z7, rfl, HE.out⟩
theorem results_cell27t {fn : Func} {t u : Tmp} {tmps : Array Value} {g : Nat} {cs : Array Value} {w : World} (h : fn.results = #[.cell t 26, .tmp u]) (ht : tmps.getD t undef = .pointer (some ⟨g, 0, none⟩)) (hg : w.heap[g]? = some (.cells cs 26 (0, 0))) (hi : (Tryz.prog.info? 26).map (·.size) = some cs.size) :
    (results fn tmps).run Tryz.prog w = .ok (.tuple #[.agg cs, tmps.getD u undef]) w := by
  have hl := run_loadVar_row (P := Tryz.prog) w g 26 26 cs (0, 0) _ hg Tryz.underlying26 rfl hi
  unfold results
  rw [h]
  simp only [Array.mapM_eq_mapM_toList, List.mapM_cons, List.mapM_nil, ht]
  simp [asAddr, hl]
def f9U (w : World) (b : Nat) (fo : Option Addr) (fc : Nat) : World := setAll w b [(0, .string nmA), (1, .bool false), (2, .int .i64 3), (3, .int .i64 0), (4, .int .i64 0), (5, .int .i64 0), (6, .slice fo 0 fc)]
theorem f9_blk {w : World} {b : Nat} {fo : Option Addr} {fc : Nat} (h : w.heap[b]? = some (.cells fdZ 26)) : (f9U w b fo fc).heap[b]? = some (.cells #[.string nmA, .bool false, .int .i64 3, .int .i64 0, .int .i64 0, .int .i64 0, .slice fo 0 fc] 26) := by
  unfold f9U
  rw [setAll_blk b 26 _ _ _ h]
  simp [setsA, fdZ]
theorem type7 (b c : Nat) (W : World) (hT : Tab W) (hb : W.heap[b]? = some (.cells fd2 26)) : Calls Tryz.prog 4 #[.int .i64 3, .slice (some ⟨b, 0, none⟩) 2 c] W fun e w' => ∃ fo fc, e = .returned (.tuple #[.agg #[.string nmA, .bool false, .int .i64 3, .int .i64 0, .int .i64 0, .int .i64 0, .slice fo 0 fc], .int .i64 0]) ∧ Gr W w' := by
  obtain ⟨A0, hA0⟩ := ex (W.alloc (.cells fdZ 26))
  have g0 := gr_al hA0
  have b0 := al_new hA0
  have hbA := (g0.block b (lt_of_heap hb) id).trans hb
  have HB : Hid (∀ u, Gr A0 u → u.heap[b]? = some (.cells fd2 26)) := fun u g => (g.block b (lt_of_heap hbA) id).trans hbA
  have HB0 : Hid (∀ u, Gr A0 u → u.heap[W.heap.size]? = some (.cells fdZ 26)) := fun u g => (g.block _ (lt_of_heap b0) id).trans b0
  have HTb : Hid (∀ u, Gr A0 u → Tab u) := fun u g => (hT.gr g0).gr g
  have HGW : Hid (∀ u, Gr A0 u → Gr W u) := fun u g => g0.tr g
  clear g0 b0 hbA hb hT
  unfold fdZ at hA0
  go_enter Tryz.func4, Tryz.ntmps4
  go_wp2_with (first
    | (go_at_call 8; refine (args14 _).mono ?_; rintro e w1 ⟨rfl, hw⟩; replace hw := hw.symm; subst hw)
    | (go_at_call 9; refine (has15_16 b c A0 (HTb.out A0 (Keeps.refl _ _)) (HB.out A0 (Keeps.refl _ _))).mono ?_; rintro e w2 ⟨rfl, g2⟩; have HG2 := hidM g2; clear g2)
    | (go_at_call 12; refine (types18 b c w2 (HB.out w2 HG2.out)).mono ?_; rintro e w3 ⟨z, rfl, g3, hz, hty⟩; have HG3 := hidM (HG2.out.tr g3); have HTy := hidM hty; clear g3 hz hty)
    | (go_at_call 11; refine (outcome17 z w3 (HTb.out w3 HG3.out) HTy.out).mono ?_; rintro e w4 ⟨rfl, g4⟩; have HG4 := hidM (HG3.out.tr g4); clear g4; unfold tyC; obtain ⟨A5, hA5⟩ := ex (w4.alloc (.cells tyZ 24)); have g5 := gr_al hA5; have hb5 := al_new hA5; obtain ⟨c0, c1, c2, c3, c4⟩ := cell5 hb5; obtain ⟨x0, x1, x2, x3, x4⟩ := frz5 hb5; have hv5 := ty_blk hb5; have gv5 : Gr w4 (tyU A5 w4.heap.size) := g5.trans (setAll_kp _ _ _) (fun j hj e => (by have e' : j = w4.heap.size := e; omega)); obtain ⟨V, hV⟩ := ex (tyU A5 w4.heap.size); rw [hV] at hv5 gv5; simp only [tyU, setAll] at hV; unfold tyZ at hA5; have HV5 := hidM hv5; have HGV := hidM (HG4.out.tr gv5); clear g5 hb5 hv5 gv5))
  clear c0 c1 c2 c3 c4 x0 x1 x2 x3 x4 hA5 hV hA0
  obtain ⟨b7, hb7⟩ := ex (w4.heap.size)
  rw [hb7] at HV5 ⊢
  clear hb7
  have hS : ∀ u, Gr V u → u.cell? ⟨b, 0, none⟩ = some (.string nmA) ∧ u.cell? ⟨b7, 0, none⟩ = some (.int .i64 3) ∧ u.cell? ⟨b7, 1, none⟩ = some (.int .i64 0) ∧ u.cell? ⟨b7, 2, none⟩ = some (.int .i64 0) ∧ u.cell? ⟨b7, 3, none⟩ = some (.int .i64 0) ∧ u.cell? ⟨b7, 4, none⟩ = some (.slice none 0 0) := fun u g => by
    obtain ⟨⟨a0, -⟩, -⟩ := cell14 (HB.out u (HGV.out.tr g))
    obtain ⟨c0, c1, c2, c3, c4⟩ := cell5 ((g.block _ (lt_of_heap HV5.out) id).trans HV5.out)
    exact ⟨a0, c0, c1, c2, c3, c4⟩
  have HS0 := hidM (hS V.drew gr_drew)
  have HSS := hidM hS
  have H19 : Hid (∀ u, Gr V u → Calls Tryz.prog 13 #[.int .i64 3, .slice (some ⟨b, 0, none⟩) 2 c] u fun e w' => e = .returned (.bool false) ∧ Gr u w') := fun u g => maybe19 b c u (HB.out u (HGV.out.tr g))
  have HF : Hid (∀ w b9, Gr V w → V.heap.size ≤ b9 → w.heap[b9]? = some (.cells fdZ 26) → (fdU w b9).heap[b9]? = some (.cells fdC 26) ∧ Gr A0 (fdU w b9) ∧ ((fdU w b9).cell? ⟨b, 0, none⟩ = some (.string nmA) ∧ (fdU w b9).cell? ⟨b7, 0, none⟩ = some (.int .i64 3) ∧ (fdU w b9).cell? ⟨b7, 1, none⟩ = some (.int .i64 0) ∧ (fdU w b9).cell? ⟨b7, 2, none⟩ = some (.int .i64 0) ∧ (fdU w b9).cell? ⟨b7, 3, none⟩ = some (.int .i64 0) ∧ (fdU w b9).cell? ⟨b7, 4, none⟩ = some (.slice none 0 0)) ∧ (fdU w b9).heap[W.heap.size]? = some (.cells fdZ 26)) := fun w b9 g hl h9 => by
    have gU : Gr V (fdU w b9) := g.trans (setAll_kp _ _ _) (fun j hj (e : j = b9) => by omega)
    have gA := HGV.out.tr gU
    exact ⟨fd_blk h9, gA, hS _ gU, HB0.out _ gA⟩
  have HVd : Hid (Gr V V.drew) := gr_drew
  clear hS
  refine wp_region_held_drew (S := fun w' => w'.cell? ⟨b, 0, none⟩ = some (.string nmA) ∧ w'.cell? ⟨b7, 0, none⟩ = some (.int .i64 3) ∧ w'.cell? ⟨b7, 1, none⟩ = some (.int .i64 0) ∧ w'.cell? ⟨b7, 2, none⟩ = some (.int .i64 0) ∧ w'.cell? ⟨b7, 3, none⟩ = some (.int .i64 0) ∧ w'.cell? ⟨b7, 4, none⟩ = some (.slice none 0 0)) (by kernel_rfl) (HS0.out) (fun hHeld => ?_)
  refine tk 0 ?_
  refine tk 1 ?_
  refine tk 2 ?_
  refine tk 3 ?_
  refine tk 4 ?_
  refine tk 5 ?_
  refine tk 7 ?_
  refine wpAnyH_ready (rs := [6, 9]) (by kernel_rfl) (by simp) ?_
  refine AllReadyH.cons (o := { dst := some 40, op := Op.call { callee := Callee.value (Operand.func 13), args := #[Operand.tmp 38, Operand.tmp 39], argTypes := #[3, 22] }, type := 4, pos := "calc.go:25", after := #[{ on := 4, ground := Ground.data }, { on := 5, ground := Ground.data }], guard := none }) rfl (fun Kc hK => ?_) (AllReadyH.cons (o := { dst := some 9, op := Op.alloc 26, type := 0, pos := "calc.go:25", after := #[], guard := none }) rfl (fun Kc hK => ?_) AllReadyH.nil)
  · go_simp
    go_at_call 13
    refine Calls.mono (H19.out _ HVd.out) ?_
    rintro e' w5 ⟨rfl, g5⟩
    have HG5 := hidM (HVd.out.tr g5)
    have HS5 := hidM (HSS.out w5 HG5.out)
    clear g5
    go_wp2_with fail
    refine hK.out _ _ (HS5.out) (fun hHeld => ?_)
    clear hK Kc
    try simp only [Act.put, lA, lB, lC]
    refine tk 8 ?_
    refine rd1 9 fun Kc hK => ?_
    obtain ⟨A6, hA6⟩ := ex (w5.alloc (.cells #[.string ⟨#[]⟩, .bool false, .int .i64 0, .int .i64 0, .int .i64 0, .int .i64 0, .slice none 0 0] 26))
    have g6 := gr_al hA6
    have HZ : Hid (A6.heap[w5.heap.size]? = some (.cells fdZ 26) ∧ Gr V A6 ∧ V.heap.size ≤ w5.heap.size) := ⟨by rw [← hA6]; exact heap_alloc_new w5 _, HG5.out.tr g6, HG5.out.size⟩
    have HS6 := hidM (HSS.out A6 HZ.out.2.1)
    go_simp
    clear g6 hA6
    refine hK.out _ _ (HS6.out) (fun hHeld => ?_)
    clear hK Kc
    try simp only [Act.put, lA, lB, lC]
    refine rd1 10 fun Kc hK => ?_
    obtain ⟨hbz, gz⟩ := HZ.out
    obtain ⟨hU9, gU9, hSU, hb4⟩ := HF.out A6 w5.heap.size gz.1 gz.2 hbz
    obtain ⟨c0, c1, c2, c3, c4, c5, c6⟩ := cell7 hbz
    obtain ⟨x0, x1, x2, x3, x4, x5, x6⟩ := frz7 hbz
    obtain ⟨U, hU⟩ := ex (fdU A6 w5.heap.size)
    rw [hU] at hU9 gU9 hSU hb4
    simp only [fdU, setAll] at hU
    have HSU := hidM hSU
    have HU9 := hidM hU9
    have HGU := hidM gU9
    have HB4 := hidM hb4
    clear hbz gz hU9 gU9 hSU hb4 HZ
    go_simp
    refine hK.out _ _ (HSU.out) (fun hHeld => ?_)
    clear hK Kc c0 c1 c2 c3 c4 c5 c6 x0 x1 x2 x3 x4 x5 x6 hU
    try simp only [Act.put, lA, lB, lC]
    refine wpAnyH_done (by kernel_rfl) ?_ _
    clear hHeld
    obtain ⟨e0, e1, e2, e3, e4, e5, e6⟩ := cell7 HU9.out
    obtain ⟨B1, hB1⟩ := ex (U.alloc (.cells #[.string nmA, .bool false, .int .i64 3, .int .i64 0, .int .i64 0, .int .i64 0, .slice none 0 0] 26))
    have gB1 := gr_al hB1
    have hB1b := al_new hB1
    obtain ⟨B2, hB2⟩ := ex (B1.alloc (.cells #[.int .i64 0] 3))
    have gB2 := gr_al hB2
    have hB2b := al_new hB2
    have gB := gB1.tr gB2
    have HAt := hidM (at13 false none 0 U.heap.size B1.heap.size B2 ((HTb.out U HGU.out).gr gB) ((gB2.block _ (lt_of_heap hB1b) id).trans hB1b) (cell1 hB2b))
    have HEnd : Hid (∀ w8 fo fc, Gr B2 w8 → w8.heap[W.heap.size]? = some (.cells fdZ 26) ∧ (f9U w8 W.heap.size fo fc).heap[W.heap.size]? = some (.cells #[.string nmA, .bool false, .int .i64 3, .int .i64 0, .int .i64 0, .int .i64 0, .slice fo 0 fc] 26) ∧ Gr W (f9U w8 W.heap.size fo fc)) := fun w8 fo fc g8 => by
      have g9 := gB.tr g8
      have h8 := (g9.block _ (lt_of_heap HB4.out) id).trans HB4.out
      exact ⟨h8, f9_blk h8, ((HGW.out U HGU.out).tr g9).trans (setAll_kp _ _ _) (fun j hj (e : j = W.heap.size) => by omega)⟩
    clear gB1 hB1b gB2 hB2b gB
    go_wp2_with (go_at_call 14; refine HAt.out.mono ?_; rintro e w8 ⟨fo, fc, rfl, g8⟩; obtain ⟨h8, hu8, gu8⟩ := HEnd.out w8 fo fc g8; obtain ⟨U8, hU8⟩ := ex (f9U w8 W.heap.size fo fc); rw [hU8] at hu8 gu8; simp only [f9U, setAll] at hU8; unfold fdZ at h8; obtain ⟨c0, c1, c2, c3, c4, c5, c6⟩ := cell7 h8; obtain ⟨x0, x1, x2, x3, x4, x5, x6⟩ := frz7 h8; have HU8 := hidM hu8; have HG8 := hidM gu8; clear g8 h8 hu8 gu8)
    (try simp only [Exit.inBlock, Exit.then])
    refine bodyPost_ret (results_cell27t rfl rfl (by with_reducible exact HU8.out) (by kernel_rfl)) rfl ?_
    exact ⟨fo, fc, rfl, HG8.out⟩
  obtain ⟨A6, hA6⟩ := ex (V.drew.alloc (.cells #[.string ⟨#[]⟩, .bool false, .int .i64 0, .int .i64 0, .int .i64 0, .int .i64 0, .slice none 0 0] 26))
  have g6 : Gr V.drew A6 := by rw [← hA6]; exact gr_alloc V.drew _
  have HG6 := hidM (HVd.out.tr g6)
  have hZ6 : A6.heap[V.drew.heap.size]? = some (.cells fdZ 26) := by rw [← hA6]; exact heap_alloc_new V.drew _
  have HZ6 := hidM hZ6
  have HS6 := hidM (HSS.out A6 HG6.out)
  go_simp
  clear g6 hA6 hZ6
  refine hK.out _ _ (HS6.out) (fun hHeld => ?_)
  clear hK Kc
  try simp only [Act.put, lA, lB, lC]
  refine rd1 6 fun Kc hK => ?_
  go_simp
  go_at_call 13
  refine Calls.mono (H19.out _ HG6.out) ?_
  rintro e' w5 ⟨rfl, g5⟩
  have HG5 := hidM (HG6.out.tr g5)
  have HS5 := hidM (HSS.out w5 HG5.out)
  have HZ : Hid (w5.heap[V.heap.size]? = some (.cells fdZ 26) ∧ Gr V w5 ∧ V.heap.size ≤ V.heap.size) := ⟨(g5.block _ (lt_of_heap HZ6.out) id).trans HZ6.out, HG5.out, Nat.le_refl _⟩
  clear g5
  go_wp2_with fail
  refine hK.out _ _ (HS5.out) (fun hHeld => ?_)
  clear hK Kc
  try simp only [Act.put, lA, lB, lC]
  refine tk 8 ?_
  refine rd1 10 fun Kc hK => ?_
  obtain ⟨hbz, gz⟩ := HZ.out
  obtain ⟨hU9, gU9, hSU, hb4⟩ := HF.out w5 V.heap.size gz.1 gz.2 hbz
  obtain ⟨c0, c1, c2, c3, c4, c5, c6⟩ := cell7 hbz
  obtain ⟨x0, x1, x2, x3, x4, x5, x6⟩ := frz7 hbz
  obtain ⟨U, hU⟩ := ex (fdU w5 V.heap.size)
  rw [hU] at hU9 gU9 hSU hb4
  simp only [fdU, setAll] at hU
  have HSU := hidM hSU
  have HU9 := hidM hU9
  have HGU := hidM gU9
  have HB4 := hidM hb4
  clear hbz gz hU9 gU9 hSU hb4 HZ
  go_simp
  refine hK.out _ _ (HSU.out) (fun hHeld => ?_)
  clear hK Kc c0 c1 c2 c3 c4 c5 c6 x0 x1 x2 x3 x4 x5 x6 hU
  try simp only [Act.put, lA, lB, lC]
  refine wpAnyH_done (by kernel_rfl) ?_ _
  clear hHeld
  obtain ⟨e0, e1, e2, e3, e4, e5, e6⟩ := cell7 HU9.out
  obtain ⟨B1, hB1⟩ := ex (U.alloc (.cells #[.string nmA, .bool false, .int .i64 3, .int .i64 0, .int .i64 0, .int .i64 0, .slice none 0 0] 26))
  have gB1 := gr_al hB1
  have hB1b := al_new hB1
  obtain ⟨B2, hB2⟩ := ex (B1.alloc (.cells #[.int .i64 0] 3))
  have gB2 := gr_al hB2
  have hB2b := al_new hB2
  have gB := gB1.tr gB2
  have HAt := hidM (at13 false none 0 U.heap.size B1.heap.size B2 ((HTb.out U HGU.out).gr gB) ((gB2.block _ (lt_of_heap hB1b) id).trans hB1b) (cell1 hB2b))
  have HEnd : Hid (∀ w8 fo fc, Gr B2 w8 → w8.heap[W.heap.size]? = some (.cells fdZ 26) ∧ (f9U w8 W.heap.size fo fc).heap[W.heap.size]? = some (.cells #[.string nmA, .bool false, .int .i64 3, .int .i64 0, .int .i64 0, .int .i64 0, .slice fo 0 fc] 26) ∧ Gr W (f9U w8 W.heap.size fo fc)) := fun w8 fo fc g8 => by
    have g9 := gB.tr g8
    have h8 := (g9.block _ (lt_of_heap HB4.out) id).trans HB4.out
    exact ⟨h8, f9_blk h8, ((HGW.out U HGU.out).tr g9).trans (setAll_kp _ _ _) (fun j hj (e : j = W.heap.size) => by omega)⟩
  clear gB1 hB1b gB2 hB2b gB
  go_wp2_with (go_at_call 14; refine HAt.out.mono ?_; rintro e w8 ⟨fo, fc, rfl, g8⟩; obtain ⟨h8, hu8, gu8⟩ := HEnd.out w8 fo fc g8; obtain ⟨U8, hU8⟩ := ex (f9U w8 W.heap.size fo fc); rw [hU8] at hu8 gu8; simp only [f9U, setAll] at hU8; unfold fdZ at h8; obtain ⟨c0, c1, c2, c3, c4, c5, c6⟩ := cell7 h8; obtain ⟨x0, x1, x2, x3, x4, x5, x6⟩ := frz7 h8; have HU8 := hidM hu8; have HG8 := hidM gu8; clear g8 h8 hu8 gu8)
  (try simp only [Exit.inBlock, Exit.then])
  refine bodyPost_ret (results_cell27t rfl rfl (by with_reducible exact HU8.out) (by kernel_rfl)) rfl ?_
  exact ⟨fo, fc, rfl, HG8.out⟩
end Go.Proofs.YtknnoiomdngmfaaGreatDoor.Kit
namespace Go.Proofs
open Go.Shelf
def Tryz.laysNm221_ren : Go.Shelf.Ren := ⟨fun | 21 => 258 | 27 => 291 | 28 => 292 | 35 => 305 | 39 => 312 | n => n, fun | 22 => 44 | 3 => 3 | 4 => 4 | 0 => 0 | n => n, fun | n => n⟩
theorem Tryz.laysNm221 : Go.Proofs.Lays2.n21 Tryz.prog Tryz.laysNm221_ren := {
  mixed := by kernel_rfl
  f21 := Tryz.func258.trans (congrArg some (by kernel_rfl))
  f27 := Tryz.func291.trans (congrArg some (by kernel_rfl))
  f28 := Tryz.func292.trans (congrArg some (by kernel_rfl))
  f35 := Tryz.func305.trans (congrArg some (by kernel_rfl))
  f39 := Tryz.func312.trans (congrArg some (by kernel_rfl))
  t0 := Tryz.underlying0
  a0 := Tryz.isAgg0
  z0 := Tryz.sizeOf0
  v0 := Tryz.zeroValue0
  t3 := Tryz.underlying3
  a3 := Tryz.isAgg3
  z3 := Tryz.sizeOf3
  v3 := Tryz.zeroValue3
  t4 := Tryz.underlying4
  a4 := Tryz.isAgg4
  z4 := Tryz.sizeOf4
  v4 := Tryz.zeroValue4
  t22 := Tryz.underlying44
  a22 := Tryz.isAgg44
  z22 := Tryz.sizeOf44
  v22 := Tryz.zeroValue44
  i3 := by kernel_rfl }
end Go.Proofs
namespace Go.Proofs.YtknnoiomdngmfaaGreatDoor.Kit
open Go.RowKit Go.Shelf Go.Deep
open Go.Proofs.YtknnoiomdngmfaaGreatDoor.Ink (OwnRow)
set_option linter.unusedVariables false
set_option linter.unusedSimpArgs false
attribute [local go_sem] run_store_func
theorem insert98 (b vb : Nat) (x y : Int) (W : World) (h0 : W.cell? ⟨b, 0, none⟩ = some (.int .i64 x)) (hv : W.cell? ⟨vb, 0, none⟩ = some (.int .i64 y)) :
    Calls Tryz.prog 258 #[.slice (some ⟨b, 0, none⟩) 1 1, .int .i64 0, .slice (some ⟨vb, 0, none⟩) 1 1] W fun e w' => ∃ g c, e = .returned (.slice (some ⟨g, 0, none⟩) 2 c) ∧ Gr W w' ∧ w'.cell? ⟨g, 0, none⟩ = some (.int .i64 y) ∧ w'.cell? ⟨g, 1, none⟩ = some (.int .i64 x) := by
  have h := Any2.slices_Insert_int_grow Tryz.laysNm221 b 0 1 1 0 vb 0 1 1 [.int .i64 x] [.int .i64 y] W (by decide) (by decide) (by decide) (by decide) (by decide) rfl rfl
    (fun j v hj => by
      match j, hj with
      | 0, hj => cases hj; exact h0
      | j + 1, hj => simp at hj)
    (fun j v hj => by
      match j, hj with
      | 0, hj => cases hj; exact hv
      | j + 1, hj => simp at hj)
    (fun v hv => by simp at hv; subst hv; rfl) (fun v hv => by simp at hv; subst hv; rfl)
  refine Calls.mono h ?_
  rintro e w' ⟨rfl, hw⟩
  refine ⟨_, _, rfl, ?_⟩
  generalize hR : ((([Value.int .i64 x].take 0).toArray ++ Builtin.zeroCells (Value.int .i64 0).cells (1 + 1 - 0) ++ Builtin.zeroCells (Value.int .i64 0).cells (grownCap W (1 + 1) 1 (Tryz.laysNm221_ren.t 3) - (1 + 1))) : Array Value) = R at hw
  have hsz : 2 ≤ R.size := by
    rw [← hR]
    simp [Builtin.zeroCells, Value.cells]
  obtain ⟨A, hA⟩ := ex (W.alloc (.cells R (Tryz.laysNm221_ren.t 3)))
  rw [hA] at hw
  have gA := gr_al hA
  have hb := al_new hA
  have hd : (w' : World) = ((A.drew.setCell ⟨W.heap.size, 0, none⟩ (.int .i64 y)).drew).setCell ⟨W.heap.size, 1, none⟩ (.int .i64 x) := hw
  have e1 := heap_setCell_same A.drew W.heap.size 0 _ _ (.int .i64 y) hb
  have e2 := heap_setCell_same (A.drew.setCell ⟨W.heap.size, 0, none⟩ (.int .i64 y)).drew W.heap.size 1 _ _ (.int .i64 x) e1
  rw [← hd] at e2
  refine ⟨?_, ?_, ?_⟩
  · rw [hd]
    exact Keeps.setCell (p := ⟨W.heap.size, 1, none⟩) ((Keeps.setCell (p := ⟨W.heap.size, 0, none⟩) gA.drew (fun h => by simp at h) _).drew) (fun h => by simp at h) _
  · have q0 : 0 < R.size := by omega
    simp only [World.cell?, e2]
    simp [Array.getElem?_setIfInBounds, q0]
  have q1 : 1 < R.size := by omega
  simp only [World.cell?, e2]
  simp [Array.getElem?_setIfInBounds, q1]
theorem needs308 (W : World) : Calls Tryz.prog 488 #[.agg #[.int .i64 1, .bool true], .int .i64 2] W fun e w' => ∃ g, e = .returned (.tuple #[.slice (some ⟨g, 0, none⟩) 1 1, .int .i64 (-9223372036854775808)]) ∧ Gr W w' ∧ W.heap.size ≤ g ∧ w'.cell? ⟨g, 0, none⟩ = some (.int .i64 2) := by
  obtain ⟨A, hA⟩ := ex (W.alloc (.cells #[.int .i64 1, .bool true] 302))
  have gA := gr_al hA
  have hb := al_new hA
  obtain ⟨e0, e1⟩ := cell2 hb
  have HG := hidM gA
  clear gA hb
  go_enter Tryz.func488, Tryz.ntmps488
  go_wp2_with fail
  go_ret2
  exact ⟨_, rfl, HG.out.alloc _, HG.out.size, cell1 (heap_alloc_new A _)⟩
theorem wrong266 (l : Value) (q : Value) (W : World) : Calls Tryz.prog 446 #[.agg #[], l, q] W fun e w' => e = .returned (.tuple #[.int .i64 0, .int .i64 0]) ∧ Gr W w' := by
  go_enter Tryz.func446, Tryz.ntmps446
  go_wp2_with fail
  go_ret2
  exact ⟨rfl, gr_alloc _ _⟩
theorem wrong267 (l : Value) (q : Value) (W : World) : Calls Tryz.prog 447 #[.agg #[], l, q] W fun e w' => e = .returned (.tuple #[.int .i64 0, .int .i64 0]) ∧ Gr W w' := by
  go_enter Tryz.func447, Tryz.ntmps447
  go_wp2_with fail
  go_ret2
  exact ⟨rfl, gr_alloc _ _⟩
theorem weight310 (l q v : Value) (r : Int) (W : World) : Calls Tryz.prog 490 #[.agg #[.int .i64 1, .bool true], l, q, .int .i64 r, v] W fun e w' => e = .returned (.int .i64 16) ∧ Gr W w' := by
  go_enter Tryz.func490, Tryz.ntmps490
  go_wp2_with fail
  go_ret
  exact ⟨rfl, gr_alloc _ _⟩
theorem sum72 (z : Nat) (c : Nat) (W : World) (h0 : W.cell? ⟨z, 0, none⟩ = some (.int .i64 16)) (h1 : W.cell? ⟨z, 1, none⟩ = some (.int .i64 16)) : Calls Tryz.prog 178 #[.slice (some ⟨z, 0, none⟩) 2 c] W fun e w' => e = .returned (.int .i64 32) ∧ w' = W := by
  have H : Hid (∀ k, k < 2 → W.cell? ⟨z, k, none⟩ = some (.int .i64 16)) := fun k hk => by
    have : k = 0 ∨ k = 1 := by omega
    rcases this with rfl | rfl
    · exact h0
    exact h1
  clear h0 h1
  go_enter Tryz.func178, Tryz.ntmps178
  go_wp2_with fail
  go_loopw [8, 3] (fun i s wr => ∃ k : Nat, k ≤ 2 ∧ i = .int .i64 k ∧ s = .int .i64 ((16 * k : Nat) : Int) ∧ wr = W) (fun i _ _ => 2 - (intOf i).toNat)
  case atStart => exact ⟨0, by omega, rfl, rfl, rfl⟩
  case round =>
    obtain ⟨k, hk, rfl, rfl, rfl⟩ := hrel
    by_cases hlt : k < 2
    · have c1 := H.out k hlt
      have w1 : IntKind.i64.wrap (((16 * k : Nat) : Int) + 16) = ((16 * (k + 1) : Nat) : Int) := by rw [IntKind.wrap_i64]; omega
      generalize ((16 * k : Nat) : Int) = y at w1 ⊢
      go_wp2_with fail
      go_roundw
      case rel => exact ⟨k + 1, by omega, by go_num, by first | rfl | rw [w1], trivial⟩
      case measure => simp [intOf]; omega
    obtain rfl : k = 2 := by omega
    go_wp2_with fail
    go_ret
    exact ⟨rfl, rfl⟩
end Go.Proofs.YtknnoiomdngmfaaGreatDoor.Kit
