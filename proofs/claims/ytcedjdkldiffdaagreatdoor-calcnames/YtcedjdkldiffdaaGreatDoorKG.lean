import Derived.Test.YtcedjdkldiffdaaGreatDoorKF
set_option maxRecDepth 100000
set_option maxHeartbeats 4000000
namespace Go.Proofs.YtcedjdkldiffdaaGreatDoor.Kit
open Go.RowKit Go.Shelf Go.Deep
open Go.Proofs.YtcedjdkldiffdaaGreatDoor.Kd (Ans AnsV cell5 cell2)
open Go.Proofs.YtcedjdkldiffdaaGreatDoor.Ink (OwnRow)
set_option linter.unusedVariables false
set_option linter.unusedSimpArgs false
attribute [local go_sem] run_store_func
theorem each11 (cb ga gb p d : Nat) (W : World) (hC : ColA W cb ga gb) (hp : W.heap[p]? = some (.cells #[.int .i64 3] 3)) (hd : W.heap[d]? = some (.cells #[.func (.func 145) #[] #[]] 149)) : Calls Tryz.prog 11 #[.agg #[.bool false, .func (.func 88) #[] #[.pointer (some ⟨p, 0, none⟩), .pointer (some ⟨d, 0, none⟩)]], .slice (some ⟨cb, 0, none⟩) 2 2] W fun e w' => ∃ z, e = .returned (.tuple #[.slice (some ⟨z, 0, none⟩) 2 2, .int .i64 0, .int .i64 0]) ∧ Gr W w' ∧ W.heap.size ≤ z ∧ w'.heap[z]? = some (.cells #[.bool false, .int .i64 9, .string ⟨#[]⟩, .slice none 0 0, .bool false, .int .i64 16, .string ⟨#[]⟩, .slice none 0 0] 77) := by
  obtain ⟨A0, hA0⟩ : ∃ A0, W.alloc (.cells #[.bool false, .func (.func 88) #[] #[.pointer (some ⟨p, 0, none⟩), .pointer (some ⟨d, 0, none⟩)]] 47) = A0 := ⟨_, rfl⟩
  have g0 : Gr W A0 := by rw [← hA0]; exact gr_alloc W _
  have b0 : A0.heap[W.heap.size]? = some (.cells #[.bool false, .func (.func 88) #[] #[.pointer (some ⟨p, 0, none⟩), .pointer (some ⟨d, 0, none⟩)]] 47) := by rw [← hA0]; exact heap_alloc_new W _
  obtain ⟨z7, hz7⟩ : ∃ z7, A0.heap.size = z7 := ⟨_, rfl⟩
  obtain ⟨A1, hA1⟩ : ∃ A1, A0.alloc (.cells #[.bool false, .int .i64 0, .string ⟨#[]⟩, .slice none 0 0, .bool false, .int .i64 0, .string ⟨#[]⟩, .slice none 0 0] 77) = A1 := ⟨_, rfl⟩
  have g1 : Gr A0 A1 := by rw [← hA1]; exact gr_alloc A0 _
  have b1 : A1.heap[z7]? = some (.cells #[.bool false, .int .i64 0, .string ⟨#[]⟩, .slice none 0 0, .bool false, .int .i64 0, .string ⟨#[]⟩, .slice none 0 0] 77) := by rw [← hA1, ← hz7]; exact heap_alloc_new A0 _
  obtain ⟨z8, hz8⟩ : ∃ z8, A1.heap.size = z8 := ⟨_, rfl⟩
  obtain ⟨A, hA⟩ : ∃ A, A1.alloc (.cells #[.bool false, .int .i64 0, .string ⟨#[]⟩, .slice none 0 0, .bool false, .int .i64 0, .string ⟨#[]⟩, .slice none 0 0] 77) = A := ⟨_, rfl⟩
  have g2 : Gr A1 A := by rw [← hA]; exact gr_alloc A1 _
  have b2 : A.heap[z8]? = some (.cells #[.bool false, .int .i64 0, .string ⟨#[]⟩, .slice none 0 0, .bool false, .int .i64 0, .string ⟨#[]⟩, .slice none 0 0] 77) := by rw [← hA, ← hz8]; exact heap_alloc_new A1 _
  have b1' := (g2.block _ (lt_of_heap b1) id).trans b1
  have g12 := g1.trans g2 (fun _ _ h => h)
  have gA : Gr W A := g0.trans g12 (fun _ _ h => h)
  have b0' := (g12.block _ (lt_of_heap b0) id).trans b0
  have l0 := lt_of_heap b0
  have l1 := lt_of_heap b1
  have lW := g0.size
  have nW : ∀ b, b < W.heap.size → ¬ (b = z7 ∨ b = z8) := fun b hb e => by rcases e with e | e <;> omega
  have HCo : Hid (∀ u, Keeps A u (fun b => b = z7 ∨ b = z8) → ColA u cb ga gb) := fun u g => (hC.kp (S := fun _ => False) gA id id id).kp g (nW _ (lt_of_heap hC.c0)) (nW _ (lt_of_heap hC.a)) (nW _ (lt_of_heap hC.b))
  have HBx : Hid (∀ u, Keeps A u (fun b => b = z7 ∨ b = z8) → u.heap[W.heap.size]? = some (.cells #[.bool false, .func (.func 88) #[] #[.pointer (some ⟨p, 0, none⟩), .pointer (some ⟨d, 0, none⟩)]] 47)) := fun u g => (g.block _ (lt_of_heap b0') (fun e => by rcases e with e | e <;> omega)).trans b0'
  have HPD : Hid (∀ u, Keeps A u (fun b => b = z7 ∨ b = z8) → u.heap[p]? = some (.cells #[.int .i64 3] 3) ∧ u.heap[d]? = some (.cells #[.func (.func 145) #[] #[]] 149)) := fun u g => ⟨(g.block _ (Nat.lt_of_lt_of_le (lt_of_heap hp) gA.size) (nW _ (lt_of_heap hp))).trans ((gA.block p (lt_of_heap hp) id).trans hp), (g.block _ (Nat.lt_of_lt_of_le (lt_of_heap hd) gA.size) (nW _ (lt_of_heap hd))).trans ((gA.block d (lt_of_heap hd) id).trans hd)⟩
  have HN78 : Hid (¬ z7 = z8) := by show ¬ z7 = z8; omega
  have HI0 : Hid (EaI A z7 z8 0 A) := ⟨Keeps.refl _ _, b1', b2⟩
  have HEnd : Hid (∀ u, Keeps A u (fun b => b = z7 ∨ b = z8) → Gr W u ∧ W.heap.size ≤ z7) := fun u g => ⟨gA.trans g (fun j hj e => by rcases e with e | e <;> omega), by omega⟩
  have hcl := hC.kp (S := fun _ => False) g0 id id id
  obtain ⟨p0, p1⟩ := cell2 hcl.c0
  have hmk := mk42
  clear g0 b0 g1 b1 g2 b2 b1' g12 gA b0' l0 l1 lW nW hC hp hd hcl
  go_enter Tryz.func11, Tryz.ntmps11
  go_wp2_with fail
  clear hA0 hA1 hA p0 p1 hmk
  go_loopw [24] (fun i wr => ∃ k : Nat, k ≤ 2 ∧ i = .int .i64 k ∧ Hid (EaI A z7 z8 k wr)) (fun i _ => 2 - (intOf i).toNat)
  case atStart => exact ⟨0, by omega, rfl, HI0⟩
  case round =>
    clear HI0
    obtain ⟨k, hk, rfl, HI⟩ := hrel
    have hk3 : k = 0 ∨ k = 1 ∨ k = 2 := by omega
    rcases hk3 with rfl | rfl | rfl
    · go_wp2_with fail
      go_loopw [29] (fun j ww => ∃ m : Nat, m ≤ 2 ∧ j = .int .i64 m ∧ Hid (EbI wr z8 0 m ww)) (fun j _ => 2 - (intOf j).toNat)
      case atStart => exact ⟨0, by omega, rfl, ⟨Keeps.refl _ _, HI.out.2.2⟩⟩
      case round =>
        obtain ⟨m, hm, rfl, HJ⟩ := hrel
        have hm3 : m = 0 ∨ m = 1 ∨ m = 2 := by omega
        rcases hm3 with rfl | rfl | rfl
        · have hcl := HCo.out wr (HI.out.1.trans HJ.out.1 (fun _ _ h => .inr h))
          obtain ⟨p0, p1⟩ := cell2 hcl.c0
          obtain ⟨a0, a1, a2, a3, -⟩ := cell8 hcl.a
          have hz8 := HJ.out.2
          obtain ⟨y0, y1, y2, y3, -⟩ := cell8 hz8
          have x0 := frz HJ.out.2 0
          have x1 := frz HJ.out.2 1
          have x2 := frz HJ.out.2 2
          have x3 := frz HJ.out.2 3
          have hn : EbI _ z8 0 1 (v40 wr z8 3) := ⟨HJ.out.1.trans (setAll_kp _ _ _) (fun _ _ h => h), ag_00 HJ.out.2⟩
          obtain ⟨U, hU⟩ : ∃ U, v40 wr z8 3 = U := ⟨_, rfl⟩
          rw [hU] at hn
          simp only [v40, setAll] at hU
          have HN := hidM hn
          clear hn hcl hz8 HJ
          go_wp2_with fail
          go_roundw
          case rel => exact ⟨1, by omega, by go_num, HN⟩
          case measure => simp [intOf]
        · have hcl := HCo.out wr (HI.out.1.trans HJ.out.1 (fun _ _ h => .inr h))
          obtain ⟨p0, p1⟩ := cell2 hcl.c0
          obtain ⟨a0, a1, a2, a3, -⟩ := cell8 hcl.b
          have hz8 := HJ.out.2
          obtain ⟨-, -, -, -, y0, y1, y2, y3⟩ := cell8 hz8
          have x0 := frz HJ.out.2 4
          have x1 := frz HJ.out.2 5
          have x2 := frz HJ.out.2 6
          have x3 := frz HJ.out.2 7
          have hn : EbI _ z8 0 2 (v41 wr z8 3) := ⟨HJ.out.1.trans (setAll_kp _ _ _) (fun _ _ h => h), ag_01 HJ.out.2⟩
          obtain ⟨U, hU⟩ : ∃ U, v41 wr z8 3 = U := ⟨_, rfl⟩
          rw [hU] at hn
          simp only [v41, setAll] at hU
          have HN := hidM hn
          clear hn hcl hz8 HJ
          go_wp2_with fail
          go_roundw
          case rel => exact ⟨2, by omega, by go_num, HN⟩
          case measure => simp [intOf]
        · have kO := HI.out.1.trans HJ.out.1 (fun _ _ h => .inr h)
          have hz7 := (HJ.out.1.block z7 (lt_of_heap HI.out.2.1) HN78.out).trans HI.out.2.1
          have hz8 : wr.heap[z8]? = some (.cells (vl2 3) 77) := HJ.out.2
          have H36 := hidM (one36_0 z8 2 p d wr hz8 (HPD.out wr kO).1 (HPD.out wr kO).2)
          obtain ⟨q0, q1⟩ := cell2 (HBx.out wr kO)
          have HT : Hid (∀ w2, Gr wr w2 → Keeps A w2 (fun b => b = z7 ∨ b = z8) ∧ w2.heap[z7]? = some (.cells (rsK 0) 77) ∧ w2.heap[z8]? = some (.cells (agB 1) 77) ∧ z7 < w2.heap.size ∧ z8 < w2.heap.size) := fun w2 g => ⟨kO.trans (g.mono fun _ _ h => h.elim) (fun _ _ h => h), (g.block _ (lt_of_heap hz7) id).trans hz7, (g.block _ (lt_of_heap hz8) id).trans hz8, Nat.lt_of_lt_of_le (lt_of_heap hz7) g.size, Nat.lt_of_lt_of_le (lt_of_heap hz8) g.size⟩
          clear kO hz7 hz8 HJ HI
          go_wp2_with (go_at_call 36; refine H36.out.mono ?_; rintro e w2 ⟨rfl, g2⟩; obtain ⟨k2, h72, h82, l7, l8⟩ := HT.out w2 g2; clear g2 q0 q1; obtain ⟨A5, hA5⟩ : ∃ A5, w2.alloc (.cells #[.bool false, .int .i64 0, .string ⟨#[]⟩, .slice none 0 0] 77) = A5 := ⟨_, rfl⟩; have g5 : Gr w2 A5 := (by rw [← hA5]; exact gr_alloc w2 _); have hb5 : A5.heap[w2.heap.size]? = some (.cells #[.bool false, .int .i64 0, .string ⟨#[]⟩, .slice none 0 0] 77) := (by rw [← hA5]; exact heap_alloc_new w2 _); obtain ⟨u0, u1, u2, u3⟩ := cell4 hb5; have f0 := frz hb5 0; have f1 := frz hb5 1; have f2 := frz hb5 2; have f3 := frz hb5 3; have hv5 := vl_blk (vn := false) (x := 9) hb5; have gv5 : Gr w2 (vlU A5 w2.heap.size false 9) := g5.trans (vl_kp _ _ _ _) (fun j hj e => (by have e' : j = w2.heap.size := e; omega)); obtain ⟨Q, hQ⟩ : ∃ Q, vlU A5 w2.heap.size false 9 = Q := ⟨_, rfl⟩; rw [hQ] at hv5 gv5; simp only [vlU, setAll] at hQ; obtain ⟨t0, t1, t2, t3⟩ := cell4 hv5; have h7 := (gv5.block z7 l7 id).trans h72; have h8 := (gv5.block z8 l8 id).trans h82; obtain ⟨y0, y1, y2, y3, -⟩ := cell8 h7; have x0 := frz h7 0; have x1 := frz h7 1; have x2 := frz h7 2; have x3 := frz h7 3; have hn : EaI A z7 z8 1 (v40 Q z7 9) := ⟨(k2.trans (gv5.mono fun _ _ h => h.elim) (fun _ _ h => h)).trans (setAll_kp _ _ _) (fun _ _ h => .inl h), rs_0 h7, ((setAll_kp _ _ _).block z8 (lt_of_heap h8) (fun e => HN78.out (Eq.symm e))).trans h8⟩; obtain ⟨U, hU⟩ : ∃ U, v40 Q z7 9 = U := ⟨_, rfl⟩; rw [hU] at hn; simp only [v40, setAll] at hU; have HN := hidM hn; clear k2 h72 h82 l7 l8 g5 hb5 hv5 gv5 h7 h8 hn)
          go_roundw
          case rel => exact ⟨1, by omega, by go_num, HN⟩
          case measure => simp [intOf]
    · go_wp2_with fail
      go_loopw [29] (fun j ww => ∃ m : Nat, m ≤ 2 ∧ j = .int .i64 m ∧ Hid (EbI wr z8 1 m ww)) (fun j _ => 2 - (intOf j).toNat)
      case atStart => exact ⟨0, by omega, rfl, ⟨Keeps.refl _ _, HI.out.2.2⟩⟩
      case round =>
        obtain ⟨m, hm, rfl, HJ⟩ := hrel
        have hm3 : m = 0 ∨ m = 1 ∨ m = 2 := by omega
        rcases hm3 with rfl | rfl | rfl
        · have hcl := HCo.out wr (HI.out.1.trans HJ.out.1 (fun _ _ h => .inr h))
          obtain ⟨p0, p1⟩ := cell2 hcl.c0
          obtain ⟨-, -, -, -, a0, a1, a2, a3⟩ := cell8 hcl.a
          have hz8 := HJ.out.2
          obtain ⟨y0, y1, y2, y3, -⟩ := cell8 hz8
          have x0 := frz HJ.out.2 0
          have x1 := frz HJ.out.2 1
          have x2 := frz HJ.out.2 2
          have x3 := frz HJ.out.2 3
          have hn : EbI _ z8 1 1 (v40 wr z8 4) := ⟨HJ.out.1.trans (setAll_kp _ _ _) (fun _ _ h => h), ag_10 HJ.out.2⟩
          obtain ⟨U, hU⟩ : ∃ U, v40 wr z8 4 = U := ⟨_, rfl⟩
          rw [hU] at hn
          simp only [v40, setAll] at hU
          have HN := hidM hn
          clear hn hcl hz8 HJ
          go_wp2_with fail
          go_roundw
          case rel => exact ⟨1, by omega, by go_num, HN⟩
          case measure => simp [intOf]
        · have hcl := HCo.out wr (HI.out.1.trans HJ.out.1 (fun _ _ h => .inr h))
          obtain ⟨p0, p1⟩ := cell2 hcl.c0
          obtain ⟨-, -, -, -, a0, a1, a2, a3⟩ := cell8 hcl.b
          have hz8 := HJ.out.2
          obtain ⟨-, -, -, -, y0, y1, y2, y3⟩ := cell8 hz8
          have x0 := frz HJ.out.2 4
          have x1 := frz HJ.out.2 5
          have x2 := frz HJ.out.2 6
          have x3 := frz HJ.out.2 7
          have hn : EbI _ z8 1 2 (v41 wr z8 4) := ⟨HJ.out.1.trans (setAll_kp _ _ _) (fun _ _ h => h), ag_11 HJ.out.2⟩
          obtain ⟨U, hU⟩ : ∃ U, v41 wr z8 4 = U := ⟨_, rfl⟩
          rw [hU] at hn
          simp only [v41, setAll] at hU
          have HN := hidM hn
          clear hn hcl hz8 HJ
          go_wp2_with fail
          go_roundw
          case rel => exact ⟨2, by omega, by go_num, HN⟩
          case measure => simp [intOf]
        · have kO := HI.out.1.trans HJ.out.1 (fun _ _ h => .inr h)
          have hz7 := (HJ.out.1.block z7 (lt_of_heap HI.out.2.1) HN78.out).trans HI.out.2.1
          have hz8 : wr.heap[z8]? = some (.cells (vl2 4) 77) := HJ.out.2
          have H36 := hidM (one36_1 z8 2 p d wr hz8 (HPD.out wr kO).1 (HPD.out wr kO).2)
          obtain ⟨q0, q1⟩ := cell2 (HBx.out wr kO)
          have HT : Hid (∀ w2, Gr wr w2 → Keeps A w2 (fun b => b = z7 ∨ b = z8) ∧ w2.heap[z7]? = some (.cells (rsK 1) 77) ∧ w2.heap[z8]? = some (.cells (agB 2) 77) ∧ z7 < w2.heap.size ∧ z8 < w2.heap.size) := fun w2 g => ⟨kO.trans (g.mono fun _ _ h => h.elim) (fun _ _ h => h), (g.block _ (lt_of_heap hz7) id).trans hz7, (g.block _ (lt_of_heap hz8) id).trans hz8, Nat.lt_of_lt_of_le (lt_of_heap hz7) g.size, Nat.lt_of_lt_of_le (lt_of_heap hz8) g.size⟩
          clear kO hz7 hz8 HJ HI
          go_wp2_with (go_at_call 36; refine H36.out.mono ?_; rintro e w2 ⟨rfl, g2⟩; obtain ⟨k2, h72, h82, l7, l8⟩ := HT.out w2 g2; clear g2 q0 q1; obtain ⟨A5, hA5⟩ : ∃ A5, w2.alloc (.cells #[.bool false, .int .i64 0, .string ⟨#[]⟩, .slice none 0 0] 77) = A5 := ⟨_, rfl⟩; have g5 : Gr w2 A5 := (by rw [← hA5]; exact gr_alloc w2 _); have hb5 : A5.heap[w2.heap.size]? = some (.cells #[.bool false, .int .i64 0, .string ⟨#[]⟩, .slice none 0 0] 77) := (by rw [← hA5]; exact heap_alloc_new w2 _); obtain ⟨u0, u1, u2, u3⟩ := cell4 hb5; have f0 := frz hb5 0; have f1 := frz hb5 1; have f2 := frz hb5 2; have f3 := frz hb5 3; have hv5 := vl_blk (vn := false) (x := 16) hb5; have gv5 : Gr w2 (vlU A5 w2.heap.size false 16) := g5.trans (vl_kp _ _ _ _) (fun j hj e => (by have e' : j = w2.heap.size := e; omega)); obtain ⟨Q, hQ⟩ : ∃ Q, vlU A5 w2.heap.size false 16 = Q := ⟨_, rfl⟩; rw [hQ] at hv5 gv5; simp only [vlU, setAll] at hQ; obtain ⟨t0, t1, t2, t3⟩ := cell4 hv5; have h7 := (gv5.block z7 l7 id).trans h72; have h8 := (gv5.block z8 l8 id).trans h82; obtain ⟨-, -, -, -, y0, y1, y2, y3⟩ := cell8 h7; have x0 := frz h7 4; have x1 := frz h7 5; have x2 := frz h7 6; have x3 := frz h7 7; have hn : EaI A z7 z8 2 (v41 Q z7 16) := ⟨(k2.trans (gv5.mono fun _ _ h => h.elim) (fun _ _ h => h)).trans (setAll_kp _ _ _) (fun _ _ h => .inl h), rs_1 h7, ((setAll_kp _ _ _).block z8 (lt_of_heap h8) (fun e => HN78.out (Eq.symm e))).trans h8⟩; obtain ⟨U, hU⟩ : ∃ U, v41 Q z7 16 = U := ⟨_, rfl⟩; rw [hU] at hn; simp only [v41, setAll] at hU; have HN := hidM hn; clear k2 h72 h82 l7 l8 g5 hb5 hv5 gv5 h7 h8 hn)
          go_roundw
          case rel => exact ⟨2, by omega, by go_num, HN⟩
          case measure => simp [intOf]
    · obtain ⟨e1, e2⟩ := HEnd.out wr HI.out.1
      have HE := hidM (And.intro e1 (And.intro e2 HI.out.2.1))
      clear e1 e2 HI
      go_wp2_with fail
      go_ret3
      exact ⟨z7, rfl, HE.out⟩
end Go.Proofs.YtcedjdkldiffdaaGreatDoor.Kit
