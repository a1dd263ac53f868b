import Derived.Test.YtdihbfjjddmbiaaGreatDoorXH
set_option maxRecDepth 100000
set_option maxHeartbeats 4000000
namespace Go.Proofs.YtdihbfjjddmbiaaGreatDoor.Kit
open Go.RowKit Go.Shelf Go.Deep
set_option linter.unusedVariables false
attribute [local go_sem] run_store_func
structure G7 (W U : World) (b : Nat) (x0 x1 x2 x3 x4 x5 x6 x7 x8 : Value) : Prop where
  rb : U.heap[b]? = some (.cells #[.int .i64 0, .slice none 0 0, .slice none 0 0, .int .i64 0, .bool false, .int .i64 0, .int .i64 0, .slice none 0 0, .slice none 0 0] 29 (0, 0))
  fb : U.heap[b + 1]? = some (.cells #[.int .i64 0, .slice none 0 0, .int .i64 0] 67 (0, 0))
  tb : U.heap[b + 1 + 1 + 1]? = some (.cells #[x0, x1, x2, x3, x4, x5, x6, x7, x8] 29 (0, 0))
theorem G7.kp {W U U' : World} {b : Nat} {x0 x1 x2 x3 x4 x5 x6 x7 x8 : Value} (h : G7 W U b x0 x1 x2 x3 x4 x5 x6 x7 x8) (q : Keeps U U' (fun z => z = b + 1 + 1)) : G7 W U' b x0 x1 x2 x3 x4 x5 x6 x7 x8 :=
  ⟨(q.block b (lt_of_heap h.rb) (by omega)).trans h.rb, (q.block (b + 1) (lt_of_heap h.fb) (by omega)).trans h.fb, (q.block (b + 1 + 1 + 1) (lt_of_heap h.tb) (by omega)).trans h.tb⟩
theorem G7.put {W U U' : World} {b : Nat} {x0 x1 x2 x3 x4 x5 x6 x7 x8 y0 y1 y2 y3 y4 y5 y6 y7 y8 : Value} (h : G7 W U b x0 x1 x2 x3 x4 x5 x6 x7 x8) (q : Keeps U U' (fun z => z = b + 1 + 1 + 1)) (e : U'.heap[b + 1 + 1 + 1]? = some (.cells #[y0, y1, y2, y3, y4, y5, y6, y7, y8] 29 (0, 0))) : G7 W U' b y0 y1 y2 y3 y4 y5 y6 y7 y8 :=
  ⟨(q.block b (lt_of_heap h.rb) (by omega)).trans h.rb, (q.block (b + 1) (lt_of_heap h.fb) (by omega)).trans h.fb, e⟩
theorem G7.set {W U : World} {b : Nat} {x0 x1 x2 x3 x4 x5 x6 x7 x8 y0 y1 y2 y3 y4 y5 y6 y7 y8 : Value} (h : G7 W U b x0 x1 x2 x3 x4 x5 x6 x7 x8) (i : Nat) (v : Value) (e : (#[x0, x1, x2, x3, x4, x5, x6, x7, x8] : Array Value).setIfInBounds i v = #[y0, y1, y2, y3, y4, y5, y6, y7, y8]) : G7 W (U.setCell ⟨b + 1 + 1 + 1, i, none⟩ v) b y0 y1 y2 y3 y4 y5 y6 y7 y8 :=
  h.put ((Keeps.refl U (fun z => z = b + 1 + 1 + 1)).setCell (p := ⟨b + 1 + 1 + 1, i, none⟩) (fun _ => rfl) v) (by rw [heap_setCell_same U (b + 1 + 1 + 1) i _ _ v h.tb, e])
theorem get_rest {B : List UInt8} {x : HD} {t : DS} (h : headX B ⟨0, 0, 0, 0⟩ = (x, t)) (he : t.e = 0) (ha : t.a < B.length) : getR Yh B = .error (52, t.a) := by
  unfold getR
  rw [head_good h he]
  dsimp only
  rw [if_pos ha]
theorem get_may {B : List UInt8} {x : HD} {t : DS} (h : headX B ⟨0, 0, 0, 0⟩ = (x, t)) (he : t.e = 0) (ha : ¬ t.a < B.length) (hy : Yh x = false) : getR Yh B = .error (50, 0) := by
  unfold getR
  rw [head_good h he]
  dsimp only
  rw [if_neg ha, if_pos hy]
theorem get_good {B : List UInt8} {x : HD} {t : DS} (h : headX B ⟨0, 0, 0, 0⟩ = (x, t)) (he : t.e = 0) (ha : ¬ t.a < B.length) (hy : Yh x = true) : getR Yh B = .ok x := by
  unfold getR
  rw [head_good h he]
  dsimp only
  rw [if_neg ha, if_neg (by rw [hy]; decide)]
theorem get_bad {B : List UInt8} {x : HD} {t : DS} (h : headX B ⟨0, 0, 0, 0⟩ = (x, t)) (he : t.e ≠ 0) : getR Yh B = .error (t.e, t.f) := by
  unfold getR
  rw [head_bad h he]
theorem get7 {W : World} (hT : Tab W) {bo : Option Addr} {B : List UInt8} {bc : Nat} (hby : BytesAt W bo B) (hf : B.length ≤ bc ∧ bc ≤ 9223372036854775807 ∧ (bo = none ∧ bc = 0 ∨ ∃ b o, bo = some ⟨b, o, none⟩)) (hlen : B.length ≤ 1000000000000) (hlow : ∀ b o, bo = some ⟨b, o, none⟩ → b < W.heap.size) :
    Calls Tryz.prog 25 #[.slice bo B.length bc] W (GetQ W (getR Yh B)) := by
  have hneg : ∀ (x : Bool) (w : World), (Op.unary .not (.bool x)).run Tryz.prog w = .ok (.bool (!x)) w := fun _ _ => rfl
  obtain ⟨n, hn⟩ : ∃ n, n = B.length := ⟨_, rfl⟩
  obtain ⟨b, hb⟩ : ∃ b, b = W.heap.size := ⟨_, rfl⟩
  obtain ⟨V3, hV3⟩ := ex (((W.alloc (.cells #[.int .i64 0, .slice none 0 0, .slice none 0 0, .int .i64 0, .bool false, .int .i64 0, .int .i64 0, .slice none 0 0, .slice none 0 0] 29)).alloc (.cells #[.int .i64 0, .slice none 0 0, .int .i64 0] 67)).alloc (.cells #[.slice bo n bc, .int .i64 0, .int .i64 0, .int .i64 0, .slice none 0 0, .int .i64 0] 86))
  obtain ⟨V, hV⟩ : ∃ V', V3.alloc (.cells #[.int .i64 0, .slice none 0 0, .slice none 0 0, .int .i64 0, .bool false, .int .i64 0, .int .i64 0, .slice none 0 0, .slice none 0 0] 29) = V' := ⟨_, rfl⟩
  have s1 : (W.alloc (.cells #[.int .i64 0, .slice none 0 0, .slice none 0 0, .int .i64 0, .bool false, .int .i64 0, .int .i64 0, .slice none 0 0, .slice none 0 0] 29)).heap.size = b + 1 := by rw [hb]; simp
  have s2 : ((W.alloc (.cells #[.int .i64 0, .slice none 0 0, .slice none 0 0, .int .i64 0, .bool false, .int .i64 0, .int .i64 0, .slice none 0 0, .slice none 0 0] 29)).alloc (.cells #[.int .i64 0, .slice none 0 0, .int .i64 0] 67)).heap.size = b + 1 + 1 := by rw [hb]; simp
  have s3 : V3.heap.size = b + 1 + 1 + 1 := by rw [← hV3, hb]; simp
  have g1 := gr_alloc W (.cells #[.int .i64 0, .slice none 0 0, .slice none 0 0, .int .i64 0, .bool false, .int .i64 0, .int .i64 0, .slice none 0 0, .slice none 0 0] 29)
  have g2 := gr_alloc (W.alloc (.cells #[.int .i64 0, .slice none 0 0, .slice none 0 0, .int .i64 0, .bool false, .int .i64 0, .int .i64 0, .slice none 0 0, .slice none 0 0] 29)) (.cells #[.int .i64 0, .slice none 0 0, .int .i64 0] 67)
  have g3 := gr_alloc ((W.alloc (.cells #[.int .i64 0, .slice none 0 0, .slice none 0 0, .int .i64 0, .bool false, .int .i64 0, .int .i64 0, .slice none 0 0, .slice none 0 0] 29)).alloc (.cells #[.int .i64 0, .slice none 0 0, .int .i64 0] 67)) (.cells #[.slice bo n bc, .int .i64 0, .int .i64 0, .int .i64 0, .slice none 0 0, .int .i64 0] 86)
  have g4 := gr_alloc V3 (.cells #[.int .i64 0, .slice none 0 0, .slice none 0 0, .int .i64 0, .bool false, .int .i64 0, .int .i64 0, .slice none 0 0, .slice none 0 0] 29)
  have c1 := heap_alloc_new W (.cells #[.int .i64 0, .slice none 0 0, .slice none 0 0, .int .i64 0, .bool false, .int .i64 0, .int .i64 0, .slice none 0 0, .slice none 0 0] 29)
  have c2 := heap_alloc_new (W.alloc (.cells #[.int .i64 0, .slice none 0 0, .slice none 0 0, .int .i64 0, .bool false, .int .i64 0, .int .i64 0, .slice none 0 0, .slice none 0 0] 29)) (.cells #[.int .i64 0, .slice none 0 0, .int .i64 0] 67)
  have c3 := heap_alloc_new ((W.alloc (.cells #[.int .i64 0, .slice none 0 0, .slice none 0 0, .int .i64 0, .bool false, .int .i64 0, .int .i64 0, .slice none 0 0, .slice none 0 0] 29)).alloc (.cells #[.int .i64 0, .slice none 0 0, .int .i64 0] 67)) (.cells #[.slice bo n bc, .int .i64 0, .int .i64 0, .int .i64 0, .slice none 0 0, .int .i64 0] 86)
  have c4 := heap_alloc_new V3 (.cells #[.int .i64 0, .slice none 0 0, .slice none 0 0, .int .i64 0, .bool false, .int .i64 0, .int .i64 0, .slice none 0 0, .slice none 0 0] 29)
  rw [← hb] at c1
  rw [s1] at c2
  rw [s2] at c3
  rw [s3] at c4
  have g23 := g2.tr g3
  have g13 := g1.tr g23
  rw [hV3] at g3 g23 g13 c3
  rw [hV] at g4 c4
  have hD3 : DAt V3 (b + 1 + 1) bo B bc ⟨0, 0, 0, 0⟩ := ⟨by rw [← hn]; exact c3, hby.gr g13, hf, fun c o e => by have := hlow c o e; omega, hlen, Nat.zero_le _, Nat.zero_le _⟩
  have HW0 := hidM hD3
  have HD0 := hidM (hD3.gr g4)
  have HB0 : Hid (G7 W V b (.int .i64 0) (.slice none 0 0) (.slice none 0 0) (.int .i64 0) (.bool false) (.int .i64 0) (.int .i64 0) (.slice none 0 0) (.slice none 0 0)) := ⟨(g4.block b (Nat.lt_of_lt_of_le (lt_of_heap c1) g23.size) id).trans ((g23.block b (lt_of_heap c1) id).trans c1), (g4.block (b + 1) (Nat.lt_of_lt_of_le (lt_of_heap c2) g3.size) id).trans ((g3.block (b + 1) (lt_of_heap c2) id).trans c2), c4⟩
  have HG0 : Hid (Keeps V3 V (fun z => z = b + 1 + 1)) := g4.mono fun _ _ h => h.elim
  have HGW : Hid (Gr W V3) := g13
  have Hb : Hid (b = W.heap.size ∧ V3.heap.size = b + 1 + 1 + 1) := ⟨hb, s3⟩
  have HTab := hidM hT
  have Hn := hidM hn
  have HVV4 : Hid ((((W.alloc (.cells #[.int .i64 0, .slice none 0 0, .slice none 0 0, .int .i64 0, .bool false, .int .i64 0, .int .i64 0, .slice none 0 0, .slice none 0 0] 29)).alloc (.cells #[.int .i64 0, .slice none 0 0, .int .i64 0] 67)).alloc (.cells #[.slice bo n bc, .int .i64 0, .int .i64 0, .int .i64 0, .slice none 0 0, .int .i64 0] 86)).alloc (.cells #[.int .i64 0, .slice none 0 0, .slice none 0 0, .int .i64 0, .bool false, .int .i64 0, .int .i64 0, .slice none 0 0, .slice none 0 0] 29) = V) := by show _ = _; rw [hV3]; exact hV
  have Hb1 := hidM hb
  obtain ⟨⟨kk, s2'⟩, hq1⟩ : ∃ q, withX B 1 3 ⟨0, 0, 0, 0⟩ = q := ⟨_, rfl⟩
  obtain ⟨⟨o1, s3'⟩, hq2⟩ : ∃ q, withX B 1 1 s2' = q := ⟨_, rfl⟩
  obtain ⟨⟨o2, s4'⟩, hq3⟩ : ∃ q, withX B 0 0 s3' = q := ⟨_, rfl⟩
  obtain ⟨⟨o3, s5'⟩, hq4⟩ : ∃ q, withX B 0 0 s4' = q := ⟨_, rfl⟩
  have hH0 : headX B ⟨0, 0, 0, 0⟩ = restX B kk s5' := by unfold headX; simp only [hq1, hq2, hq3, hq4]
  have HH0 := hidM hH0
  have Hg5 : Hid (Gd s5') := by
    have h0 : Gd ⟨0, 0, 0, 0⟩ := fun _ => Nat.zero_le _
    have h1 := h0.within (B := B) (lo := 1) (hi := 3)
    rw [hq1] at h1
    have h2 := Gd.within (B := B) (lo := 1) (hi := 1) h1
    rw [hq2] at h2
    have h3 := Gd.within (B := B) (lo := 0) (hi := 0) h2
    rw [hq3] at h3
    have h4 := Gd.within (B := B) (lo := 0) (hi := 0) h3
    rw [hq4] at h4
    exact h4
  have Hout : Hid (¬ (kk = 1 ∨ kk = 2 ∨ kk = 3) → s5'.e ≠ 0) := fun hk => by
    have h1 : s2'.e ≠ 0 := by
      have := with_out (B := B) (lo := 1) (hi := 3) (s := ⟨0, 0, 0, 0⟩) (by rw [hq1]; dsimp only; omega)
      rwa [hq1] at this
    have h2 := ((rel_within B 1 1).bad s2' h1).1
    rw [hq2] at h2
    dsimp only at h2
    have h3 := ((rel_within B 0 0).bad s3' (by rw [h2]; exact h1)).1
    rw [hq3] at h3
    dsimp only at h3
    have h4 := ((rel_within B 0 0).bad s4' (by rw [h3, h2]; exact h1)).1
    rw [hq4] at h4
    dsimp only at h4
    rw [h4, h3, h2]
    exact h1
  have Hq1 := hidM hq1
  have Hq2 := hidM hq2
  have Hq3 := hidM hq3
  have Hq4 := hidM hq4
  rw [← hn]
  clear hT hby hf hlen hlow hn hb hV3 hV s1 s2 s3 g1 g2 g3 g4 c1 c2 c3 c4 g23 g13 hD3 hq1 hq2 hq3 hq4 hH0
  go_enter Tryz.func25, Tryz.ntmps25
  go_wp2_with (go_at_call 41; refine Hid.out ?_)
  unfold Hid
  rw [HVV4.out, ← Hb1.out]
  clear HVV4
  have hc := (within15 (b + 1 + 1) bo B bc 1 3 V ⟨0, 0, 0, 0⟩ HD0.out)
  rw [Hq1.out] at hc
  dsimp only at hc
  refine Calls.mono hc ?_
  rintro e Y1 ⟨v, rfl, rfl, hD, hK⟩
  have hT := HB0.out.kp hK
  have hGy := HG0.out.tr hK
  clear hc
  have t0 : Y1.cell? ⟨b + 1 + 1 + 1, 0, none⟩ = some (.int .i64 0) := by simp [World.cell?, hT.tb]
  have q0 := frz hT.tb 0
  obtain ⟨U1, hU1⟩ : ∃ U', Y1.setCell ⟨b + 1 + 1 + 1, 0, none⟩ (.int .i64 (kk : Int)) = U' := ⟨_, rfl⟩
  have hS := hT.set (y0 := (.int .i64 (kk : Int))) (y1 := (.slice none 0 0)) (y2 := (.slice none 0 0)) (y3 := (.int .i64 0)) (y4 := (.bool false)) (y5 := (.int .i64 0)) (y6 := (.int .i64 0)) (y7 := (.slice none 0 0)) (y8 := (.slice none 0 0)) 0 (.int .i64 (kk : Int)) rfl
  have hG' := kp_set hGy (show V3.heap.size ≤ b + 1 + 1 + 1 by have := Hb.out; omega) 0 (.int .i64 (kk : Int))
  have hD' := DAt.set HW0.out hD hGy (show V3.heap.size ≤ b + 1 + 1 + 1 by have := Hb.out; omega) 0 (.int .i64 (kk : Int))
  rw [hU1] at hS hG' hD'
  have HB1 := hidM hS
  have HG1 := hidM hG'
  have HD1 := hidM hD'
  clear hS hGy hG' hD' hT hD hK
  go_wp2_with (go_at_call 41; refine Hid.out ?_)
  unfold Hid
  have hc := (within15 (b + 1 + 1) bo B bc 1 1 U1 s2' HD1.out)
  rw [Hq2.out] at hc
  dsimp only at hc
  refine Calls.mono hc ?_
  rintro e Y2 ⟨v, rfl, rfl, hD, hK⟩
  have hT := HB1.out.kp hK
  have hGy := HG1.out.tr hK
  clear hc
  have HB2 := hidM hT
  have HG2 := hidM hGy
  have HD2 := hidM hD
  clear hT hGy hD hK
  go_wp2_with (go_at_call 41; refine Hid.out ?_)
  unfold Hid
  have hc := (within15 (b + 1 + 1) bo B bc 0 0 Y2 s3' HD2.out)
  rw [Hq3.out] at hc
  dsimp only at hc
  refine Calls.mono hc ?_
  rintro e Y3 ⟨v, rfl, rfl, hD, hK⟩
  have hT := HB2.out.kp hK
  have hGy := HG2.out.tr hK
  clear hc
  have HB3 := hidM hT
  have HG3 := hidM hGy
  have HD3 := hidM hD
  clear hT hGy hD hK
  go_wp2_with (go_at_call 41; refine Hid.out ?_)
  unfold Hid
  have hc := (within15 (b + 1 + 1) bo B bc 0 0 Y3 s4' HD3.out)
  rw [Hq4.out] at hc
  dsimp only at hc
  refine Calls.mono hc ?_
  rintro e Y4 ⟨v, rfl, rfl, hD, hK⟩
  have hT := HB3.out.kp hK
  have hGy := HG3.out.tr hK
  clear hc
  have HB4 := hidM hT
  have HG4 := hidM hGy
  have HD4 := hidM hD
  clear hT hGy hD hK
  have k0 : Y4.cell? ⟨b + 1 + 1 + 1, 0, none⟩ = some (.int .i64 (kk : Int)) := by simp [World.cell?, HB4.out.tb]
  by_cases c1 : kk = 1
  · obtain ⟨⟨pq, σ⟩, hq5⟩ : ∃ q, schX B s5' = q := ⟨_, rfl⟩
    obtain ⟨fs, ns⟩ := pq
    have HX : Hid (headX B ⟨0, 0, 0, 0⟩ = (⟨kk, fs, ns, 0, false, 0, 0, [], []⟩, σ)) := by show _ = _; rw [HH0.out]; unfold restX; rw [if_pos c1, hq5]
    have Hq5 := hidM hq5
    have y1 : ((kk : Int) == 1) = true := by rw [beq_iff_eq]; omega
    clear c1 hq5
    go_wp2_with (go_at_call 42; refine Hid.out ?_)
    unfold Hid
    have hc := (schema16 (b + 1 + 1) bo B bc Y4 s5' HD4.out Hg5.out)
    rw [Hq5.out] at hc
    dsimp only at hc
    refine Calls.mono hc ?_
    rintro e Y5 ⟨v, rfl, ⟨fo, fc, no, nc, rfl, hfc, hrow, hnl⟩, hD, hK⟩
    have hT := HB4.out.kp hK
    have hGy := HG4.out.tr hK
    clear hc
    have t1 : Y5.cell? ⟨b + 1 + 1 + 1, 1, none⟩ = some (.slice none 0 0) := by simp [World.cell?, hT.tb]
    have t2 : Y5.cell? ⟨b + 1 + 1 + 1, 2, none⟩ = some (.slice none 0 0) := by simp [World.cell?, hT.tb]
    have q1 := frz hT.tb 1
    have q2 := frz hT.tb 2
    obtain ⟨U5, hU5⟩ : ∃ U', (Y5.setCell ⟨b + 1 + 1 + 1, 1, none⟩ (.slice fo fs.length fc)).setCell ⟨b + 1 + 1 + 1, 2, none⟩ (.slice no ns.length nc) = U' := ⟨_, rfl⟩
    have k55 : Keeps Y5 U5 (fun z => z = b + 1 + 1 + 1) := by rw [← hU5]; exact ((Keeps.refl Y5 (fun z => z = b + 1 + 1 + 1)).setCell (p := ⟨b + 1 + 1 + 1, 1, none⟩) (fun _ => rfl) _).setCell (p := ⟨b + 1 + 1 + 1, 2, none⟩) (fun _ => rfl) _
    have hbx : U5.heap[b + 1 + 1 + 1]? = some (.cells #[.int .i64 (kk : Int), .slice fo fs.length fc, .slice no ns.length nc, .int .i64 0, .bool false, .int .i64 0, .int .i64 0, .slice none 0 0, .slice none 0 0] 29 (0, 0)) := by
      rw [← hU5, heap_setCell_same _ (b + 1 + 1 + 1) 2 _ _ _ (heap_setCell_same _ (b + 1 + 1 + 1) 1 _ _ _ hT.tb)]
      rfl
    have HB5 := hidM (hT.put k55 hbx)
    have HG5 := hidM (hGy.trans k55 fun j hj e => by have := Hb.out; omega)
    have HD5 := hidM (DAt.over HW0.out hD (hGy.trans k55 fun j hj e => by have := Hb.out; omega) (k55.block (b + 1 + 1) hD.lt (by omega)))
    have HYb : Hid (b + 1 + 1 + 1 < Y4.heap.size ∧ b = W.heap.size) := ⟨lt_of_heap HB4.out.tb, Hb.out.1⟩
    have hVv : HV9 Y4 Y5 ⟨kk, fs, ns, 0, false, 0, 0, [], []⟩ (.agg #[.int .i64 (kk : Int), .slice fo fs.length fc, .slice no ns.length nc, .int .i64 0, .bool false, .int .i64 0, .int .i64 0, .slice none 0 0, .slice none 0 0]) := ⟨fo, fc, no, nc, none, 0, none, 0, rfl, hfc, hrow, hnl, LAt.nil _ _ _ _ _, LAt.nil _ _ _ _ _⟩
    have HVv := hidM (hVv.kp k55 fun z hz => by have := HYb.out; omega)
    clear hT hGy hD hK k55 hbx hVv hfc hrow hnl k0
    obtain ⟨nf, hnf⟩ : ∃ nf, nf = fs.length := ⟨_, rfl⟩
    obtain ⟨nn, hnn⟩ : ∃ nn, nn = ns.length := ⟨_, rfl⟩
    rw [← hnf, ← hnn] at hU5 HB5 HVv ⊢
    clear hnf hnn
    by_cases he : σ.e = 0
    · have He := hidM he
      have hDm := HD5.out
      obtain ⟨m0, m1, m2, m3, m4, m5⟩ := hDm.cells
      rw [he] at m3
      obtain ⟨a, haa⟩ : ∃ a, a = σ.a := ⟨_, rfl⟩
      rw [← haa] at m1
      have Haa := hidM haa
      by_cases hla : a < B.length
      · have hlaI : (a : Int) < (n : Int) := by have := Hn.out; omega
        have HeqR : Hid (getR Yh B = .error (52, a)) := by show _ = _; rw [haa]; exact get_rest HX.out he (haa ▸ hla)
        clear he hDm haa hla
        go_wp2_with (go_at_call 45; refine Hid.out ?_)
        unfold Hid
        refine Calls.mono (wrong19 HD5.out He.out 52 a) ?_
        rintro e Yr ⟨rfl, hD, hK⟩
        have HBr := hidM (HB5.out.kp hK)
        have HGr := hidM (HG5.out.tr hK)
        have HDr := hidM hD
        clear hD hK m0 m1 m2 m3 m4 m5
        have hDt := HDr.out
        obtain ⟨m0, m1, m2, m3, m4, m5⟩ := hDt.cells
        (try dsimp only at m3 m5)
        obtain ⟨r0, r1, r2, r3, r4, r5, r6, r7, r8⟩ := ce9 HBr.out.rb
        obtain ⟨q0, q1, q2, q3, q4, q5, q6, q7, q8⟩ := fz9 HBr.out.rb
        obtain ⟨u0, u1, u2⟩ := ce3 HBr.out.fb
        obtain ⟨v0, v1, v2⟩ := fz3 HBr.out.fb
        have E := fault_end (.int .i64 0) (.slice none 0 0) (.slice none 0 0) (.int .i64 0) (.bool false) (.int .i64 0) (.int .i64 0) (.slice none 0 0) (.slice none 0 0) (.int .i64 (52)) (.slice none 0 0) (.int .i64 ((a : Nat) : Int)) (show b ≠ b + 1 by omega) HBr.out.rb HBr.out.fb
        have HE := hidM E
        have HgR : Hid (getR Yh B = .error (52, a)) := HeqR.out
        clear E hDt
        go_wp2
        go_region
        clear r0 q0 r1 q1 r2 q2 r3 q3 r4 q4 r5 q5 r6 q6 r7 q7 r8 q8 u0 v0 u1 v1 u2 v2 m0 m1 m2 m3 m4 m5
        generalize ((((((((((((Yr.setCell ⟨b, 0, none⟩ (.int .i64 0)).setCell ⟨b, 1, none⟩ (.slice none 0 0)).setCell ⟨b, 2, none⟩ (.slice none 0 0)).setCell ⟨b, 3, none⟩ (.int .i64 0)).setCell ⟨b, 4, none⟩ (.bool false)).setCell ⟨b, 5, none⟩ (.int .i64 0)).setCell ⟨b, 6, none⟩ (.int .i64 0)).setCell ⟨b, 7, none⟩ (.slice none 0 0)).setCell ⟨b, 8, none⟩ (.slice none 0 0)).setCell ⟨b + 1, 0, none⟩ (.int .i64 (52))).setCell ⟨b + 1, 1, none⟩ (.slice none 0 0)).setCell ⟨b + 1, 2, none⟩ (.int .i64 ((a : Nat) : Int))) = X at HE ⊢
        (try simp only [Exit.then])
        go_wp2_with fail
        have kX : Gr W X.drew := ((HGW.out.trans HGr.out (fun j hj e => by have := Hb.out; omega)).trans HE.out.2.2 (fun j hj e => by have := Hb.out; omega)).drew
        refine bodyPost_ret (results_3034 (fn := Tryz.f25) rfl rfl rfl (show X.drew.heap[b]? = _ from HE.out.1) (show X.drew.heap[b + 1]? = _ from HE.out.2.1) (by kernel_rfl) (by kernel_rfl)) rfl ?_
        rw [HgR.out]
        exact ⟨kX, rfl⟩
      have hlaI : ¬ (a : Int) < (n : Int) := by have := Hn.out; omega
      have H20 : Hid (Calls Tryz.prog 4 #[.agg #[.int .i64 (kk : Int), .slice fo nf fc, .slice no nn nc, .int .i64 0, .bool false, .int .i64 0, .int .i64 0, .slice none 0 0, .slice none 0 0]] U5 fun e w' => e = .returned (.bool (Yh (⟨kk, fs, ns, 0, false, 0, 0, [], []⟩))) ∧ Gr U5 w') := by
        have hrd := (head_read (head_good HX.out he)).1
        obtain ⟨fo', no', vo', uo', cf', cn', vc', uc', hv, hH⟩ := (HVv.out).headx (HTab.out.gr (HGW.out.trans HG5.out (fun j hj e => by have := Hb.out; omega))) hrd
        show Calls _ _ _ _ _
        rw [hv]
        exact both_may12 hH (Yh (⟨kk, fs, ns, 0, false, 0, 0, [], []⟩)) (Yh_iff _) U5 (Keeps.refl _ _)
      obtain ⟨z0, z1, z2, z3, z4, z5, z6, z7, z8⟩ := ce9 HB5.out.tb
      have Hla := hidM hla
      clear he hDm haa hla
      go_wp2_with (go_at_call 4; refine Hid.out ?_)
      unfold Hid
      refine Calls.mono H20.out ?_
      rintro e Ym ⟨rfl, gm⟩
      have gm' : Keeps U5 Ym (fun z => z = b + 1 + 1) := gm.mono fun _ _ h => h.elim
      have hBm := HB5.out.kp gm'
      have HBm := hidM hBm
      have HGm := hidM (HG5.out.tr gm')
      have hDm := HD5.out.gr gm
      have HDm := hidM hDm
      have HVm := hidM (HVv.out.gr gm)
      clear H20 gm gm' m0 m1 m2 m3 m4 m5 z0 z1 z2 z3 z4 z5 z6 z7 z8
      obtain ⟨m0, m1, m2, m3, m4, m5⟩ := hDm.cells
      rw [He.out] at m3
      cases hY : Yh (⟨kk, fs, ns, 0, false, 0, 0, [], []⟩) with
      | false =>
        have HeqR : Hid (getR Yh B = .error (50, 0)) := get_may HX.out He.out (Haa.out ▸ Hla.out) hY
        clear hY hBm hDm
        go_wp2_with (go_at_call 45; refine Hid.out ?_)
        unfold Hid
        refine Calls.mono (wrong19 HDm.out He.out 50 0) ?_
        rintro e Yr ⟨rfl, hD, hK⟩
        have HBr := hidM (HBm.out.kp hK)
        have HGr := hidM (HGm.out.tr hK)
        have HDr := hidM hD
        clear hD hK m0 m1 m2 m3 m4 m5
        have hDt := HDr.out
        obtain ⟨m0, m1, m2, m3, m4, m5⟩ := hDt.cells
        (try dsimp only at m3 m5)
        obtain ⟨r0, r1, r2, r3, r4, r5, r6, r7, r8⟩ := ce9 HBr.out.rb
        obtain ⟨q0, q1, q2, q3, q4, q5, q6, q7, q8⟩ := fz9 HBr.out.rb
        obtain ⟨u0, u1, u2⟩ := ce3 HBr.out.fb
        obtain ⟨v0, v1, v2⟩ := fz3 HBr.out.fb
        have E := fault_end (.int .i64 0) (.slice none 0 0) (.slice none 0 0) (.int .i64 0) (.bool false) (.int .i64 0) (.int .i64 0) (.slice none 0 0) (.slice none 0 0) (.int .i64 (50)) (.slice none 0 0) (.int .i64 ((0 : Nat) : Int)) (show b ≠ b + 1 by omega) HBr.out.rb HBr.out.fb
        have HE := hidM E
        have HgR : Hid (getR Yh B = .error (50, 0)) := HeqR.out
        clear E hDt
        go_wp2
        go_region
        clear r0 q0 r1 q1 r2 q2 r3 q3 r4 q4 r5 q5 r6 q6 r7 q7 r8 q8 u0 v0 u1 v1 u2 v2 m0 m1 m2 m3 m4 m5
        generalize ((((((((((((Yr.setCell ⟨b, 0, none⟩ (.int .i64 0)).setCell ⟨b, 1, none⟩ (.slice none 0 0)).setCell ⟨b, 2, none⟩ (.slice none 0 0)).setCell ⟨b, 3, none⟩ (.int .i64 0)).setCell ⟨b, 4, none⟩ (.bool false)).setCell ⟨b, 5, none⟩ (.int .i64 0)).setCell ⟨b, 6, none⟩ (.int .i64 0)).setCell ⟨b, 7, none⟩ (.slice none 0 0)).setCell ⟨b, 8, none⟩ (.slice none 0 0)).setCell ⟨b + 1, 0, none⟩ (.int .i64 (50))).setCell ⟨b + 1, 1, none⟩ (.slice none 0 0)).setCell ⟨b + 1, 2, none⟩ (.int .i64 ((0 : Nat) : Int))) = X at HE ⊢
        (try simp only [Exit.then])
        go_wp2_with fail
        have kX : Gr W X.drew := ((HGW.out.trans HGr.out (fun j hj e => by have := Hb.out; omega)).trans HE.out.2.2 (fun j hj e => by have := Hb.out; omega)).drew
        refine bodyPost_ret (results_3034 (fn := Tryz.f25) rfl rfl rfl (show X.drew.heap[b]? = _ from HE.out.1) (show X.drew.heap[b + 1]? = _ from HE.out.2.1) (by kernel_rfl) (by kernel_rfl)) rfl ?_
        rw [HgR.out]
        exact ⟨kX, rfl⟩
      | true =>
        have HeqR : Hid (getR Yh B = .ok (⟨kk, fs, ns, 0, false, 0, 0, [], []⟩)) := get_good HX.out He.out (Haa.out ▸ Hla.out) hY
        obtain ⟨r0, r1, r2, r3, r4, r5, r6, r7, r8⟩ := ce9 hBm.rb
        obtain ⟨q0, q1, q2, q3, q4, q5, q6, q7, q8⟩ := fz9 hBm.rb
        obtain ⟨z0, z1, z2, z3, z4, z5, z6, z7, z8⟩ := ce9 hBm.tb
        obtain ⟨u0, u1, u2⟩ := ce3 hBm.fb
        obtain ⟨v0, v1, v2⟩ := fz3 hBm.fb
        have E := fault_end (.int .i64 (kk : Int)) (.slice fo nf fc) (.slice no nn nc) (.int .i64 0) (.bool false) (.int .i64 0) (.int .i64 0) (.slice none 0 0) (.slice none 0 0) (.int .i64 0) (.slice none 0 0) (.int .i64 0) (show b ≠ b + 1 by omega) hBm.rb hBm.fb
        obtain ⟨X, hX9⟩ := ex (((((((((((((Ym.setCell ⟨b, 0, none⟩ (.int .i64 (kk : Int))).setCell ⟨b, 1, none⟩ (.slice fo nf fc)).setCell ⟨b, 2, none⟩ (.slice no nn nc)).setCell ⟨b, 3, none⟩ (.int .i64 0)).setCell ⟨b, 4, none⟩ (.bool false)).setCell ⟨b, 5, none⟩ (.int .i64 0)).setCell ⟨b, 6, none⟩ (.int .i64 0)).setCell ⟨b, 7, none⟩ (.slice none 0 0)).setCell ⟨b, 8, none⟩ (.slice none 0 0)).setCell ⟨b + 1, 0, none⟩ (.int .i64 0)).setCell ⟨b + 1, 1, none⟩ (.slice none 0 0)).setCell ⟨b + 1, 2, none⟩ (.int .i64 0)))
        rw [hX9] at E
        have HE := hidM E
        clear E hY hBm hDm
        go_wp2_with fail
        have kX : Gr W X := (HGW.out.trans HGm.out (fun j hj e => by have := Hb.out; omega)).trans HE.out.2.2 (fun j hj e => by have := Hb.out; omega)
        (try simp only [Exit.inBlock, Exit.then])
        refine bodyPost_ret (results_3034 (fn := Tryz.f25) rfl rfl rfl HE.out.1 HE.out.2.1 (by kernel_rfl) (by kernel_rfl)) rfl ?_
        rw [HeqR.out]
        exact ⟨kX, _, rfl, (HVm.out.kp HE.out.2.2 fun z hz => by have := HYb.out; omega).low (by have := HYb.out; have := Hb.out; omega)⟩
    have HeqR : Hid (getR Yh B = .error (σ.e, σ.f)) := get_bad HX.out he
    have he' : (σ.e == 0) = false := by simp [he]
    clear he
    have hDt := HD5.out
    obtain ⟨m0, m1, m2, m3, m4, m5⟩ := hDt.cells
    (try dsimp only at m3 m5)
    obtain ⟨r0, r1, r2, r3, r4, r5, r6, r7, r8⟩ := ce9 HB5.out.rb
    obtain ⟨q0, q1, q2, q3, q4, q5, q6, q7, q8⟩ := fz9 HB5.out.rb
    obtain ⟨u0, u1, u2⟩ := ce3 HB5.out.fb
    obtain ⟨v0, v1, v2⟩ := fz3 HB5.out.fb
    have E := fault_end (.int .i64 0) (.slice none 0 0) (.slice none 0 0) (.int .i64 0) (.bool false) (.int .i64 0) (.int .i64 0) (.slice none 0 0) (.slice none 0 0) (.int .i64 (σ.e)) (.slice none 0 0) (.int .i64 ((σ.f : Nat) : Int)) (show b ≠ b + 1 by omega) HB5.out.rb HB5.out.fb
    have HE := hidM E
    have HgR : Hid (getR Yh B = .error (σ.e, σ.f)) := HeqR.out
    clear E hDt
    go_wp2
    go_region
    clear r0 q0 r1 q1 r2 q2 r3 q3 r4 q4 r5 q5 r6 q6 r7 q7 r8 q8 u0 v0 u1 v1 u2 v2 m0 m1 m2 m3 m4 m5
    generalize ((((((((((((U5.setCell ⟨b, 0, none⟩ (.int .i64 0)).setCell ⟨b, 1, none⟩ (.slice none 0 0)).setCell ⟨b, 2, none⟩ (.slice none 0 0)).setCell ⟨b, 3, none⟩ (.int .i64 0)).setCell ⟨b, 4, none⟩ (.bool false)).setCell ⟨b, 5, none⟩ (.int .i64 0)).setCell ⟨b, 6, none⟩ (.int .i64 0)).setCell ⟨b, 7, none⟩ (.slice none 0 0)).setCell ⟨b, 8, none⟩ (.slice none 0 0)).setCell ⟨b + 1, 0, none⟩ (.int .i64 (σ.e))).setCell ⟨b + 1, 1, none⟩ (.slice none 0 0)).setCell ⟨b + 1, 2, none⟩ (.int .i64 ((σ.f : Nat) : Int))) = X at HE ⊢
    (try simp only [Exit.then])
    go_wp2_with fail
    have kX : Gr W X.drew := ((HGW.out.trans HG5.out (fun j hj e => by have := Hb.out; omega)).trans HE.out.2.2 (fun j hj e => by have := Hb.out; omega)).drew
    refine bodyPost_ret (results_3034 (fn := Tryz.f25) rfl rfl rfl (show X.drew.heap[b]? = _ from HE.out.1) (show X.drew.heap[b + 1]? = _ from HE.out.2.1) (by kernel_rfl) (by kernel_rfl)) rfl ?_
    rw [HgR.out]
    exact ⟨kX, rfl⟩
  by_cases c2 : kk = 2
  · obtain ⟨⟨ii, s6'⟩, hq5⟩ : ∃ q, numX B 2 s5' = q := ⟨_, rfl⟩
    obtain ⟨⟨yy, s7'⟩, hq6⟩ : ∃ q, withX B 0 1 s6' = q := ⟨_, rfl⟩
    obtain ⟨⟨bq, σ⟩, hq7⟩ : ∃ q, bodX B s7' = q := ⟨_, rfl⟩
    obtain ⟨w5, w6, nds, sls⟩ := bq
    obtain ⟨nu', hnu'⟩ : ∃ nu, ((yy : Int) == 1) = nu := ⟨_, rfl⟩
    have Hnu' : Hid ((yy == 1) = nu') := by
      show _ = _
      rw [← hnu']
      by_cases c : yy = 1
      · subst c; rfl
      have h1 : (yy == 1) = false := by simp [c]
      have h2 : ((yy : Int) == 1) = false := by rw [beq_eq_false_iff_ne]; omega
      rw [h1, h2]
    have HX : Hid (headX B ⟨0, 0, 0, 0⟩ = (bodH kk ii nu' (w5, w6, nds, sls), σ)) := by show _ = _; rw [HH0.out, ← Hnu'.out]; unfold restX; rw [if_neg c1, if_pos c2]; simp only [hq5, hq6, hq7]
    have Hg7 : Hid (Gd s7') := by
      have h1 := Hg5.out.num (B := B) (n := 2)
      rw [hq5] at h1
      have h2 := Gd.within (B := B) (lo := 0) (hi := 1) h1
      rw [hq6] at h2
      exact h2
    have Hq5 := hidM hq5
    have Hq6 := hidM hq6
    have Hq7 := hidM hq7
    have n1 : ((kk : Int) == 1) = false := by rw [beq_eq_false_iff_ne]; omega
    have y2 : ((kk : Int) == 2) = true := by rw [beq_iff_eq]; omega
    clear c1 c2 hq5 hq6 hq7
    go_wp2_with (go_at_call 43; refine Hid.out ?_)
    unfold Hid
    have hc := (number17 (b + 1 + 1) bo B bc 2 (by omega) Y4 s5' HD4.out)
    rw [Hq5.out] at hc
    dsimp only at hc
    refine Calls.mono hc ?_
    rintro e Y5 ⟨v, rfl, rfl, hD, hK⟩
    have hT := HB4.out.kp hK
    have hGy := HG4.out.tr hK
    clear hc
    have t3 : Y5.cell? ⟨b + 1 + 1 + 1, 3, none⟩ = some (.int .i64 0) := by simp [World.cell?, hT.tb]
    have q3 := frz hT.tb 3
    obtain ⟨U5, hU5⟩ : ∃ U', Y5.setCell ⟨b + 1 + 1 + 1, 3, none⟩ (.int .i64 (ii : Int)) = U' := ⟨_, rfl⟩
    have hS := hT.set (y0 := (.int .i64 (kk : Int))) (y1 := (.slice none 0 0)) (y2 := (.slice none 0 0)) (y3 := (.int .i64 (ii : Int))) (y4 := (.bool false)) (y5 := (.int .i64 0)) (y6 := (.int .i64 0)) (y7 := (.slice none 0 0)) (y8 := (.slice none 0 0)) 3 (.int .i64 (ii : Int)) rfl
    have hG' := kp_set hGy (show V3.heap.size ≤ b + 1 + 1 + 1 by have := Hb.out; omega) 3 (.int .i64 (ii : Int))
    have hD' := DAt.set HW0.out hD hGy (show V3.heap.size ≤ b + 1 + 1 + 1 by have := Hb.out; omega) 3 (.int .i64 (ii : Int))
    rw [hU5] at hS hG' hD'
    have HB5 := hidM hS
    have HG5 := hidM hG'
    have HD5 := hidM hD'
    clear hS hGy hG' hD' hT hD hK
    clear k0
    go_wp2_with (go_at_call 41; refine Hid.out ?_)
    unfold Hid
    have hc := (within15 (b + 1 + 1) bo B bc 0 1 U5 s6' HD5.out)
    rw [Hq6.out] at hc
    dsimp only at hc
    refine Calls.mono hc ?_
    rintro e Y6 ⟨v, rfl, rfl, hD, hK⟩
    have hT := HB5.out.kp hK
    have hGy := HG5.out.tr hK
    clear hc
    have t4 : Y6.cell? ⟨b + 1 + 1 + 1, 4, none⟩ = some (.bool false) := by simp [World.cell?, hT.tb]
    have q4 := frz hT.tb 4
    obtain ⟨U6, hU6⟩ : ∃ U', Y6.setCell ⟨b + 1 + 1 + 1, 4, none⟩ (.bool nu') = U' := ⟨_, rfl⟩
    have hS := hT.set (y0 := (.int .i64 (kk : Int))) (y1 := (.slice none 0 0)) (y2 := (.slice none 0 0)) (y3 := (.int .i64 (ii : Int))) (y4 := (.bool nu')) (y5 := (.int .i64 0)) (y6 := (.int .i64 0)) (y7 := (.slice none 0 0)) (y8 := (.slice none 0 0)) 4 (.bool nu') rfl
    have hG' := kp_set hGy (show V3.heap.size ≤ b + 1 + 1 + 1 by have := Hb.out; omega) 4 (.bool nu')
    have hD' := DAt.set HW0.out hD hGy (show V3.heap.size ≤ b + 1 + 1 + 1 by have := Hb.out; omega) 4 (.bool nu')
    rw [hU6] at hS hG' hD'
    have HB6 := hidM hS
    have HG6 := hidM hG'
    have HD6 := hidM hD'
    clear hS hGy hG' hD' hT hD hK
    obtain ⟨z0, z1, z2, z3, z4, z5, z6, z7, z8⟩ := ce9 HB6.out.tb
    go_wp2_with (go_at_call 44; refine Hid.out ?_)
    unfold Hid
    have hc := (body18 (b + 1 + 1) bo B bc ((kk : Int)) ((ii : Int)) (nu') U6 s7' HD6.out Hg7.out)
    rw [Hq7.out] at hc
    dsimp only at hc
    refine Calls.mono hc ?_
    rintro e Y7 ⟨v, rfl, ⟨vo, vc, uo, uc, rfl, hl1, hl2⟩, hD, hK⟩
    have hT := HB6.out.kp hK
    have hGy := HG6.out.tr hK
    clear hc
    obtain ⟨t0, t1, t2, t3, t4, t5, t6, t7, t8⟩ := ce9 hT.tb
    obtain ⟨o0', o1', o2', o3', o4', o5', o6', o7', o8'⟩ := fz9 hT.tb
    have k55 := put9_keeps Y7 (b + 1 + 1 + 1) (.int .i64 (kk : Int)) (.slice none 0 0) (.slice none 0 0) (.int .i64 (ii : Int)) (.bool nu') (.int .i64 (w5 : Int)) (.int .i64 (w6 : Int)) (.slice vo nds.length vc) (.slice uo sls.length uc)
    have hbx := put9_box (.int .i64 (kk : Int)) (.slice none 0 0) (.slice none 0 0) (.int .i64 (ii : Int)) (.bool nu') (.int .i64 (w5 : Int)) (.int .i64 (w6 : Int)) (.slice vo nds.length vc) (.slice uo sls.length uc) hT.tb
    obtain ⟨U7, hU7⟩ : ∃ U', (((((((((Y7.setCell ⟨b + 1 + 1 + 1, 0, none⟩ (.int .i64 (kk : Int))).setCell ⟨b + 1 + 1 + 1, 1, none⟩ (.slice none 0 0)).setCell ⟨b + 1 + 1 + 1, 2, none⟩ (.slice none 0 0)).setCell ⟨b + 1 + 1 + 1, 3, none⟩ (.int .i64 (ii : Int))).setCell ⟨b + 1 + 1 + 1, 4, none⟩ (.bool nu')).setCell ⟨b + 1 + 1 + 1, 5, none⟩ (.int .i64 (w5 : Int))).setCell ⟨b + 1 + 1 + 1, 6, none⟩ (.int .i64 (w6 : Int))).setCell ⟨b + 1 + 1 + 1, 7, none⟩ (.slice vo nds.length vc)).setCell ⟨b + 1 + 1 + 1, 8, none⟩ (.slice uo sls.length uc)) = U' := ⟨_, rfl⟩
    rw [hU7] at k55 hbx
    have HB7 := hidM (hT.put k55 hbx)
    have HG7 := hidM (hGy.trans k55 fun j hj e => by have := Hb.out; omega)
    have HD7 := hidM (DAt.over HW0.out hD (hGy.trans k55 fun j hj e => by have := Hb.out; omega) (k55.block (b + 1 + 1) hD.lt (by omega)))
    have HYb : Hid (b + 1 + 1 + 1 < U6.heap.size ∧ b = W.heap.size) := ⟨lt_of_heap HB6.out.tb, Hb.out.1⟩
    have hVv : HV9 U6 Y7 (bodH kk ii nu' (w5, w6, nds, sls)) (.agg #[.int .i64 (kk : Int), .slice none 0 0, .slice none 0 0, .int .i64 (ii : Int), .bool nu', .int .i64 (w5 : Int), .int .i64 (w6 : Int), .slice vo nds.length vc, .slice uo sls.length uc]) := ⟨none, 0, none, 0, vo, vc, uo, uc, rfl, Nat.le_refl _, RowI.nil _ _ _ _, LAt.nil _ _ _ _ _, hl1, hl2⟩
    have HVv := hidM (hVv.kp k55 fun z hz => by have := HYb.out; omega)
    clear hT hGy hD hK k55 hbx hVv hl1 hl2 z0 z1 z2 z3 z4 z5 z6 z7 z8
    obtain ⟨nd, hnd⟩ : ∃ nd, nd = nds.length := ⟨_, rfl⟩
    obtain ⟨nu, hnu⟩ : ∃ nu, nu = sls.length := ⟨_, rfl⟩
    rw [← hnd, ← hnu] at hU7 HB7 HVv ⊢
    clear hnd hnu
    by_cases he : σ.e = 0
    · have He := hidM he
      have hDm := HD7.out
      obtain ⟨m0, m1, m2, m3, m4, m5⟩ := hDm.cells
      rw [he] at m3
      obtain ⟨a, haa⟩ : ∃ a, a = σ.a := ⟨_, rfl⟩
      rw [← haa] at m1
      have Haa := hidM haa
      by_cases hla : a < B.length
      · have hlaI : (a : Int) < (n : Int) := by have := Hn.out; omega
        have HeqR : Hid (getR Yh B = .error (52, a)) := by show _ = _; rw [haa]; exact get_rest HX.out he (haa ▸ hla)
        clear he hDm haa hla
        go_wp2_with (go_at_call 45; refine Hid.out ?_)
        unfold Hid
        refine Calls.mono (wrong19 HD7.out He.out 52 a) ?_
        rintro e Yr ⟨rfl, hD, hK⟩
        have HBr := hidM (HB7.out.kp hK)
        have HGr := hidM (HG7.out.tr hK)
        have HDr := hidM hD
        clear hD hK m0 m1 m2 m3 m4 m5
        have hDt := HDr.out
        obtain ⟨m0, m1, m2, m3, m4, m5⟩ := hDt.cells
        (try dsimp only at m3 m5)
        obtain ⟨r0, r1, r2, r3, r4, r5, r6, r7, r8⟩ := ce9 HBr.out.rb
        obtain ⟨q0, q1, q2, q3, q4, q5, q6, q7, q8⟩ := fz9 HBr.out.rb
        obtain ⟨u0, u1, u2⟩ := ce3 HBr.out.fb
        obtain ⟨v0, v1, v2⟩ := fz3 HBr.out.fb
        have E := fault_end (.int .i64 0) (.slice none 0 0) (.slice none 0 0) (.int .i64 0) (.bool false) (.int .i64 0) (.int .i64 0) (.slice none 0 0) (.slice none 0 0) (.int .i64 (52)) (.slice none 0 0) (.int .i64 ((a : Nat) : Int)) (show b ≠ b + 1 by omega) HBr.out.rb HBr.out.fb
        have HE := hidM E
        have HgR : Hid (getR Yh B = .error (52, a)) := HeqR.out
        clear E hDt
        go_wp2
        go_region
        clear r0 q0 r1 q1 r2 q2 r3 q3 r4 q4 r5 q5 r6 q6 r7 q7 r8 q8 u0 v0 u1 v1 u2 v2 m0 m1 m2 m3 m4 m5
        generalize ((((((((((((Yr.setCell ⟨b, 0, none⟩ (.int .i64 0)).setCell ⟨b, 1, none⟩ (.slice none 0 0)).setCell ⟨b, 2, none⟩ (.slice none 0 0)).setCell ⟨b, 3, none⟩ (.int .i64 0)).setCell ⟨b, 4, none⟩ (.bool false)).setCell ⟨b, 5, none⟩ (.int .i64 0)).setCell ⟨b, 6, none⟩ (.int .i64 0)).setCell ⟨b, 7, none⟩ (.slice none 0 0)).setCell ⟨b, 8, none⟩ (.slice none 0 0)).setCell ⟨b + 1, 0, none⟩ (.int .i64 (52))).setCell ⟨b + 1, 1, none⟩ (.slice none 0 0)).setCell ⟨b + 1, 2, none⟩ (.int .i64 ((a : Nat) : Int))) = X at HE ⊢
        (try simp only [Exit.then])
        go_wp2_with fail
        have kX : Gr W X.drew := ((HGW.out.trans HGr.out (fun j hj e => by have := Hb.out; omega)).trans HE.out.2.2 (fun j hj e => by have := Hb.out; omega)).drew
        refine bodyPost_ret (results_3034 (fn := Tryz.f25) rfl rfl rfl (show X.drew.heap[b]? = _ from HE.out.1) (show X.drew.heap[b + 1]? = _ from HE.out.2.1) (by kernel_rfl) (by kernel_rfl)) rfl ?_
        rw [HgR.out]
        exact ⟨kX, rfl⟩
      have hlaI : ¬ (a : Int) < (n : Int) := by have := Hn.out; omega
      have H20 : Hid (Calls Tryz.prog 4 #[.agg #[.int .i64 (kk : Int), .slice none 0 0, .slice none 0 0, .int .i64 (ii : Int), .bool nu', .int .i64 (w5 : Int), .int .i64 (w6 : Int), .slice vo nd vc, .slice uo nu uc]] U7 fun e w' => e = .returned (.bool (Yh (bodH kk ii nu' (w5, w6, nds, sls)))) ∧ Gr U7 w') := by
        have hrd := (head_read (head_good HX.out he)).1
        obtain ⟨fo', no', vo', uo', cf', cn', vc', uc', hv, hH⟩ := (HVv.out).headx (HTab.out.gr (HGW.out.trans HG7.out (fun j hj e => by have := Hb.out; omega))) hrd
        show Calls _ _ _ _ _
        rw [hv]
        exact both_may12 hH (Yh (bodH kk ii nu' (w5, w6, nds, sls))) (Yh_iff _) U7 (Keeps.refl _ _)
      obtain ⟨z0, z1, z2, z3, z4, z5, z6, z7, z8⟩ := ce9 HB7.out.tb
      have Hla := hidM hla
      clear he hDm haa hla
      go_wp2_with (go_at_call 4; refine Hid.out ?_)
      unfold Hid
      refine Calls.mono H20.out ?_
      rintro e Ym ⟨rfl, gm⟩
      have gm' : Keeps U7 Ym (fun z => z = b + 1 + 1) := gm.mono fun _ _ h => h.elim
      have hBm := HB7.out.kp gm'
      have HBm := hidM hBm
      have HGm := hidM (HG7.out.tr gm')
      have hDm := HD7.out.gr gm
      have HDm := hidM hDm
      have HVm := hidM (HVv.out.gr gm)
      clear H20 gm gm' m0 m1 m2 m3 m4 m5 z0 z1 z2 z3 z4 z5 z6 z7 z8
      obtain ⟨m0, m1, m2, m3, m4, m5⟩ := hDm.cells
      rw [He.out] at m3
      cases hY : Yh (bodH kk ii nu' (w5, w6, nds, sls)) with
      | false =>
        have HeqR : Hid (getR Yh B = .error (50, 0)) := get_may HX.out He.out (Haa.out ▸ Hla.out) hY
        clear hY hBm hDm
        go_wp2_with (go_at_call 45; refine Hid.out ?_)
        unfold Hid
        refine Calls.mono (wrong19 HDm.out He.out 50 0) ?_
        rintro e Yr ⟨rfl, hD, hK⟩
        have HBr := hidM (HBm.out.kp hK)
        have HGr := hidM (HGm.out.tr hK)
        have HDr := hidM hD
        clear hD hK m0 m1 m2 m3 m4 m5
        have hDt := HDr.out
        obtain ⟨m0, m1, m2, m3, m4, m5⟩ := hDt.cells
        (try dsimp only at m3 m5)
        obtain ⟨r0, r1, r2, r3, r4, r5, r6, r7, r8⟩ := ce9 HBr.out.rb
        obtain ⟨q0, q1, q2, q3, q4, q5, q6, q7, q8⟩ := fz9 HBr.out.rb
        obtain ⟨u0, u1, u2⟩ := ce3 HBr.out.fb
        obtain ⟨v0, v1, v2⟩ := fz3 HBr.out.fb
        have E := fault_end (.int .i64 0) (.slice none 0 0) (.slice none 0 0) (.int .i64 0) (.bool false) (.int .i64 0) (.int .i64 0) (.slice none 0 0) (.slice none 0 0) (.int .i64 (50)) (.slice none 0 0) (.int .i64 ((0 : Nat) : Int)) (show b ≠ b + 1 by omega) HBr.out.rb HBr.out.fb
        have HE := hidM E
        have HgR : Hid (getR Yh B = .error (50, 0)) := HeqR.out
        clear E hDt
        go_wp2
        go_region
        clear r0 q0 r1 q1 r2 q2 r3 q3 r4 q4 r5 q5 r6 q6 r7 q7 r8 q8 u0 v0 u1 v1 u2 v2 m0 m1 m2 m3 m4 m5
        generalize ((((((((((((Yr.setCell ⟨b, 0, none⟩ (.int .i64 0)).setCell ⟨b, 1, none⟩ (.slice none 0 0)).setCell ⟨b, 2, none⟩ (.slice none 0 0)).setCell ⟨b, 3, none⟩ (.int .i64 0)).setCell ⟨b, 4, none⟩ (.bool false)).setCell ⟨b, 5, none⟩ (.int .i64 0)).setCell ⟨b, 6, none⟩ (.int .i64 0)).setCell ⟨b, 7, none⟩ (.slice none 0 0)).setCell ⟨b, 8, none⟩ (.slice none 0 0)).setCell ⟨b + 1, 0, none⟩ (.int .i64 (50))).setCell ⟨b + 1, 1, none⟩ (.slice none 0 0)).setCell ⟨b + 1, 2, none⟩ (.int .i64 ((0 : Nat) : Int))) = X at HE ⊢
        (try simp only [Exit.then])
        go_wp2_with fail
        have kX : Gr W X.drew := ((HGW.out.trans HGr.out (fun j hj e => by have := Hb.out; omega)).trans HE.out.2.2 (fun j hj e => by have := Hb.out; omega)).drew
        refine bodyPost_ret (results_3034 (fn := Tryz.f25) rfl rfl rfl (show X.drew.heap[b]? = _ from HE.out.1) (show X.drew.heap[b + 1]? = _ from HE.out.2.1) (by kernel_rfl) (by kernel_rfl)) rfl ?_
        rw [HgR.out]
        exact ⟨kX, rfl⟩
      | true =>
        have HeqR : Hid (getR Yh B = .ok (bodH kk ii nu' (w5, w6, nds, sls))) := get_good HX.out He.out (Haa.out ▸ Hla.out) hY
        obtain ⟨r0, r1, r2, r3, r4, r5, r6, r7, r8⟩ := ce9 hBm.rb
        obtain ⟨q0, q1, q2, q3, q4, q5, q6, q7, q8⟩ := fz9 hBm.rb
        obtain ⟨z0, z1, z2, z3, z4, z5, z6, z7, z8⟩ := ce9 hBm.tb
        obtain ⟨u0, u1, u2⟩ := ce3 hBm.fb
        obtain ⟨v0, v1, v2⟩ := fz3 hBm.fb
        have E := fault_end (.int .i64 (kk : Int)) (.slice none 0 0) (.slice none 0 0) (.int .i64 (ii : Int)) (.bool nu') (.int .i64 (w5 : Int)) (.int .i64 (w6 : Int)) (.slice vo nd vc) (.slice uo nu uc) (.int .i64 0) (.slice none 0 0) (.int .i64 0) (show b ≠ b + 1 by omega) hBm.rb hBm.fb
        obtain ⟨X, hX9⟩ := ex (((((((((((((Ym.setCell ⟨b, 0, none⟩ (.int .i64 (kk : Int))).setCell ⟨b, 1, none⟩ (.slice none 0 0)).setCell ⟨b, 2, none⟩ (.slice none 0 0)).setCell ⟨b, 3, none⟩ (.int .i64 (ii : Int))).setCell ⟨b, 4, none⟩ (.bool nu')).setCell ⟨b, 5, none⟩ (.int .i64 (w5 : Int))).setCell ⟨b, 6, none⟩ (.int .i64 (w6 : Int))).setCell ⟨b, 7, none⟩ (.slice vo nd vc)).setCell ⟨b, 8, none⟩ (.slice uo nu uc)).setCell ⟨b + 1, 0, none⟩ (.int .i64 0)).setCell ⟨b + 1, 1, none⟩ (.slice none 0 0)).setCell ⟨b + 1, 2, none⟩ (.int .i64 0)))
        rw [hX9] at E
        have HE := hidM E
        clear E hY hBm hDm
        go_wp2_with fail
        have kX : Gr W X := (HGW.out.trans HGm.out (fun j hj e => by have := Hb.out; omega)).trans HE.out.2.2 (fun j hj e => by have := Hb.out; omega)
        (try simp only [Exit.inBlock, Exit.then])
        refine bodyPost_ret (results_3034 (fn := Tryz.f25) rfl rfl rfl HE.out.1 HE.out.2.1 (by kernel_rfl) (by kernel_rfl)) rfl ?_
        rw [HeqR.out]
        exact ⟨kX, _, rfl, (HVm.out.kp HE.out.2.2 fun z hz => by have := HYb.out; omega).low (by have := HYb.out; have := Hb.out; omega)⟩
    have HeqR : Hid (getR Yh B = .error (σ.e, σ.f)) := get_bad HX.out he
    have he' : (σ.e == 0) = false := by simp [he]
    clear he
    have hDt := HD7.out
    obtain ⟨m0, m1, m2, m3, m4, m5⟩ := hDt.cells
    (try dsimp only at m3 m5)
    obtain ⟨r0, r1, r2, r3, r4, r5, r6, r7, r8⟩ := ce9 HB7.out.rb
    obtain ⟨q0, q1, q2, q3, q4, q5, q6, q7, q8⟩ := fz9 HB7.out.rb
    obtain ⟨u0, u1, u2⟩ := ce3 HB7.out.fb
    obtain ⟨v0, v1, v2⟩ := fz3 HB7.out.fb
    have E := fault_end (.int .i64 0) (.slice none 0 0) (.slice none 0 0) (.int .i64 0) (.bool false) (.int .i64 0) (.int .i64 0) (.slice none 0 0) (.slice none 0 0) (.int .i64 (σ.e)) (.slice none 0 0) (.int .i64 ((σ.f : Nat) : Int)) (show b ≠ b + 1 by omega) HB7.out.rb HB7.out.fb
    have HE := hidM E
    have HgR : Hid (getR Yh B = .error (σ.e, σ.f)) := HeqR.out
    clear E hDt
    go_wp2
    go_region
    clear r0 q0 r1 q1 r2 q2 r3 q3 r4 q4 r5 q5 r6 q6 r7 q7 r8 q8 u0 v0 u1 v1 u2 v2 m0 m1 m2 m3 m4 m5
    generalize ((((((((((((U7.setCell ⟨b, 0, none⟩ (.int .i64 0)).setCell ⟨b, 1, none⟩ (.slice none 0 0)).setCell ⟨b, 2, none⟩ (.slice none 0 0)).setCell ⟨b, 3, none⟩ (.int .i64 0)).setCell ⟨b, 4, none⟩ (.bool false)).setCell ⟨b, 5, none⟩ (.int .i64 0)).setCell ⟨b, 6, none⟩ (.int .i64 0)).setCell ⟨b, 7, none⟩ (.slice none 0 0)).setCell ⟨b, 8, none⟩ (.slice none 0 0)).setCell ⟨b + 1, 0, none⟩ (.int .i64 (σ.e))).setCell ⟨b + 1, 1, none⟩ (.slice none 0 0)).setCell ⟨b + 1, 2, none⟩ (.int .i64 ((σ.f : Nat) : Int))) = X at HE ⊢
    (try simp only [Exit.then])
    go_wp2_with fail
    have kX : Gr W X.drew := ((HGW.out.trans HG7.out (fun j hj e => by have := Hb.out; omega)).trans HE.out.2.2 (fun j hj e => by have := Hb.out; omega)).drew
    refine bodyPost_ret (results_3034 (fn := Tryz.f25) rfl rfl rfl (show X.drew.heap[b]? = _ from HE.out.1) (show X.drew.heap[b + 1]? = _ from HE.out.2.1) (by kernel_rfl) (by kernel_rfl)) rfl ?_
    rw [HgR.out]
    exact ⟨kX, rfl⟩
  by_cases c3 : kk = 3
  · obtain ⟨⟨bq, σ⟩, hq5⟩ : ∃ q, bodX B s5' = q := ⟨_, rfl⟩
    obtain ⟨w5, w6, nds, sls⟩ := bq
    have HX : Hid (headX B ⟨0, 0, 0, 0⟩ = (bodH kk 0 false (w5, w6, nds, sls), σ)) := by show _ = _; rw [HH0.out]; unfold restX; rw [if_neg c1, if_neg c2]; simp only [hq5]
    have Hq5 := hidM hq5
    have n1 : ((kk : Int) == 1) = false := by rw [beq_eq_false_iff_ne]; omega
    have n2 : ((kk : Int) == 2) = false := by rw [beq_eq_false_iff_ne]; omega
    have y3 : ((kk : Int) == 3) = true := by rw [beq_iff_eq]; omega
    clear c1 c2 c3 hq5 k0
    obtain ⟨z0, z1, z2, z3, z4, z5, z6, z7, z8⟩ := ce9 HB4.out.tb
    go_wp2_with (go_at_call 44; refine Hid.out ?_)
    unfold Hid
    have hc := (body18 (b + 1 + 1) bo B bc ((kk : Int)) (0) (false) Y4 s5' HD4.out Hg5.out)
    rw [Hq5.out] at hc
    dsimp only at hc
    refine Calls.mono hc ?_
    rintro e Y5 ⟨v, rfl, ⟨vo, vc, uo, uc, rfl, hl1, hl2⟩, hD, hK⟩
    have hT := HB4.out.kp hK
    have hGy := HG4.out.tr hK
    clear hc
    obtain ⟨t0, t1, t2, t3, t4, t5, t6, t7, t8⟩ := ce9 hT.tb
    obtain ⟨o0', o1', o2', o3', o4', o5', o6', o7', o8'⟩ := fz9 hT.tb
    have k55 := put9_keeps Y5 (b + 1 + 1 + 1) (.int .i64 (kk : Int)) (.slice none 0 0) (.slice none 0 0) (.int .i64 0) (.bool false) (.int .i64 (w5 : Int)) (.int .i64 (w6 : Int)) (.slice vo nds.length vc) (.slice uo sls.length uc)
    have hbx := put9_box (.int .i64 (kk : Int)) (.slice none 0 0) (.slice none 0 0) (.int .i64 0) (.bool false) (.int .i64 (w5 : Int)) (.int .i64 (w6 : Int)) (.slice vo nds.length vc) (.slice uo sls.length uc) hT.tb
    obtain ⟨U5, hU5⟩ : ∃ U', (((((((((Y5.setCell ⟨b + 1 + 1 + 1, 0, none⟩ (.int .i64 (kk : Int))).setCell ⟨b + 1 + 1 + 1, 1, none⟩ (.slice none 0 0)).setCell ⟨b + 1 + 1 + 1, 2, none⟩ (.slice none 0 0)).setCell ⟨b + 1 + 1 + 1, 3, none⟩ (.int .i64 0)).setCell ⟨b + 1 + 1 + 1, 4, none⟩ (.bool false)).setCell ⟨b + 1 + 1 + 1, 5, none⟩ (.int .i64 (w5 : Int))).setCell ⟨b + 1 + 1 + 1, 6, none⟩ (.int .i64 (w6 : Int))).setCell ⟨b + 1 + 1 + 1, 7, none⟩ (.slice vo nds.length vc)).setCell ⟨b + 1 + 1 + 1, 8, none⟩ (.slice uo sls.length uc)) = U' := ⟨_, rfl⟩
    rw [hU5] at k55 hbx
    have HB5 := hidM (hT.put k55 hbx)
    have HG5 := hidM (hGy.trans k55 fun j hj e => by have := Hb.out; omega)
    have HD5 := hidM (DAt.over HW0.out hD (hGy.trans k55 fun j hj e => by have := Hb.out; omega) (k55.block (b + 1 + 1) hD.lt (by omega)))
    have HYb : Hid (b + 1 + 1 + 1 < Y4.heap.size ∧ b = W.heap.size) := ⟨lt_of_heap HB4.out.tb, Hb.out.1⟩
    have hVv : HV9 Y4 Y5 (bodH kk 0 false (w5, w6, nds, sls)) (.agg #[.int .i64 (kk : Int), .slice none 0 0, .slice none 0 0, .int .i64 0, .bool false, .int .i64 (w5 : Int), .int .i64 (w6 : Int), .slice vo nds.length vc, .slice uo sls.length uc]) := ⟨none, 0, none, 0, vo, vc, uo, uc, rfl, Nat.le_refl _, RowI.nil _ _ _ _, LAt.nil _ _ _ _ _, hl1, hl2⟩
    have HVv := hidM (hVv.kp k55 fun z hz => by have := HYb.out; omega)
    clear hT hGy hD hK k55 hbx hVv hl1 hl2 z0 z1 z2 z3 z4 z5 z6 z7 z8
    obtain ⟨nd, hnd⟩ : ∃ nd, nd = nds.length := ⟨_, rfl⟩
    obtain ⟨nu, hnu⟩ : ∃ nu, nu = sls.length := ⟨_, rfl⟩
    rw [← hnd, ← hnu] at hU5 HB5 HVv ⊢
    clear hnd hnu
    by_cases he : σ.e = 0
    · have He := hidM he
      have hDm := HD5.out
      obtain ⟨m0, m1, m2, m3, m4, m5⟩ := hDm.cells
      rw [he] at m3
      obtain ⟨a, haa⟩ : ∃ a, a = σ.a := ⟨_, rfl⟩
      rw [← haa] at m1
      have Haa := hidM haa
      by_cases hla : a < B.length
      · have hlaI : (a : Int) < (n : Int) := by have := Hn.out; omega
        have HeqR : Hid (getR Yh B = .error (52, a)) := by show _ = _; rw [haa]; exact get_rest HX.out he (haa ▸ hla)
        clear he hDm haa hla
        go_wp2_with (go_at_call 45; refine Hid.out ?_)
        unfold Hid
        refine Calls.mono (wrong19 HD5.out He.out 52 a) ?_
        rintro e Yr ⟨rfl, hD, hK⟩
        have HBr := hidM (HB5.out.kp hK)
        have HGr := hidM (HG5.out.tr hK)
        have HDr := hidM hD
        clear hD hK m0 m1 m2 m3 m4 m5
        have hDt := HDr.out
        obtain ⟨m0, m1, m2, m3, m4, m5⟩ := hDt.cells
        (try dsimp only at m3 m5)
        obtain ⟨r0, r1, r2, r3, r4, r5, r6, r7, r8⟩ := ce9 HBr.out.rb
        obtain ⟨q0, q1, q2, q3, q4, q5, q6, q7, q8⟩ := fz9 HBr.out.rb
        obtain ⟨u0, u1, u2⟩ := ce3 HBr.out.fb
        obtain ⟨v0, v1, v2⟩ := fz3 HBr.out.fb
        have E := fault_end (.int .i64 0) (.slice none 0 0) (.slice none 0 0) (.int .i64 0) (.bool false) (.int .i64 0) (.int .i64 0) (.slice none 0 0) (.slice none 0 0) (.int .i64 (52)) (.slice none 0 0) (.int .i64 ((a : Nat) : Int)) (show b ≠ b + 1 by omega) HBr.out.rb HBr.out.fb
        have HE := hidM E
        have HgR : Hid (getR Yh B = .error (52, a)) := HeqR.out
        clear E hDt
        go_wp2
        go_region
        clear r0 q0 r1 q1 r2 q2 r3 q3 r4 q4 r5 q5 r6 q6 r7 q7 r8 q8 u0 v0 u1 v1 u2 v2 m0 m1 m2 m3 m4 m5
        generalize ((((((((((((Yr.setCell ⟨b, 0, none⟩ (.int .i64 0)).setCell ⟨b, 1, none⟩ (.slice none 0 0)).setCell ⟨b, 2, none⟩ (.slice none 0 0)).setCell ⟨b, 3, none⟩ (.int .i64 0)).setCell ⟨b, 4, none⟩ (.bool false)).setCell ⟨b, 5, none⟩ (.int .i64 0)).setCell ⟨b, 6, none⟩ (.int .i64 0)).setCell ⟨b, 7, none⟩ (.slice none 0 0)).setCell ⟨b, 8, none⟩ (.slice none 0 0)).setCell ⟨b + 1, 0, none⟩ (.int .i64 (52))).setCell ⟨b + 1, 1, none⟩ (.slice none 0 0)).setCell ⟨b + 1, 2, none⟩ (.int .i64 ((a : Nat) : Int))) = X at HE ⊢
        (try simp only [Exit.then])
        go_wp2_with fail
        have kX : Gr W X.drew := ((HGW.out.trans HGr.out (fun j hj e => by have := Hb.out; omega)).trans HE.out.2.2 (fun j hj e => by have := Hb.out; omega)).drew
        refine bodyPost_ret (results_3034 (fn := Tryz.f25) rfl rfl rfl (show X.drew.heap[b]? = _ from HE.out.1) (show X.drew.heap[b + 1]? = _ from HE.out.2.1) (by kernel_rfl) (by kernel_rfl)) rfl ?_
        rw [HgR.out]
        exact ⟨kX, rfl⟩
      have hlaI : ¬ (a : Int) < (n : Int) := by have := Hn.out; omega
      have H20 : Hid (Calls Tryz.prog 4 #[.agg #[.int .i64 (kk : Int), .slice none 0 0, .slice none 0 0, .int .i64 0, .bool false, .int .i64 (w5 : Int), .int .i64 (w6 : Int), .slice vo nd vc, .slice uo nu uc]] U5 fun e w' => e = .returned (.bool (Yh (bodH kk 0 false (w5, w6, nds, sls)))) ∧ Gr U5 w') := by
        have hrd := (head_read (head_good HX.out he)).1
        obtain ⟨fo', no', vo', uo', cf', cn', vc', uc', hv, hH⟩ := (HVv.out).headx (HTab.out.gr (HGW.out.trans HG5.out (fun j hj e => by have := Hb.out; omega))) hrd
        show Calls _ _ _ _ _
        rw [hv]
        exact both_may12 hH (Yh (bodH kk 0 false (w5, w6, nds, sls))) (Yh_iff _) U5 (Keeps.refl _ _)
      obtain ⟨z0, z1, z2, z3, z4, z5, z6, z7, z8⟩ := ce9 HB5.out.tb
      have Hla := hidM hla
      clear he hDm haa hla
      go_wp2_with (go_at_call 4; refine Hid.out ?_)
      unfold Hid
      refine Calls.mono H20.out ?_
      rintro e Ym ⟨rfl, gm⟩
      have gm' : Keeps U5 Ym (fun z => z = b + 1 + 1) := gm.mono fun _ _ h => h.elim
      have hBm := HB5.out.kp gm'
      have HBm := hidM hBm
      have HGm := hidM (HG5.out.tr gm')
      have hDm := HD5.out.gr gm
      have HDm := hidM hDm
      have HVm := hidM (HVv.out.gr gm)
      clear H20 gm gm' m0 m1 m2 m3 m4 m5 z0 z1 z2 z3 z4 z5 z6 z7 z8
      obtain ⟨m0, m1, m2, m3, m4, m5⟩ := hDm.cells
      rw [He.out] at m3
      cases hY : Yh (bodH kk 0 false (w5, w6, nds, sls)) with
      | false =>
        have HeqR : Hid (getR Yh B = .error (50, 0)) := get_may HX.out He.out (Haa.out ▸ Hla.out) hY
        clear hY hBm hDm
        go_wp2_with (go_at_call 45; refine Hid.out ?_)
        unfold Hid
        refine Calls.mono (wrong19 HDm.out He.out 50 0) ?_
        rintro e Yr ⟨rfl, hD, hK⟩
        have HBr := hidM (HBm.out.kp hK)
        have HGr := hidM (HGm.out.tr hK)
        have HDr := hidM hD
        clear hD hK m0 m1 m2 m3 m4 m5
        have hDt := HDr.out
        obtain ⟨m0, m1, m2, m3, m4, m5⟩ := hDt.cells
        (try dsimp only at m3 m5)
        obtain ⟨r0, r1, r2, r3, r4, r5, r6, r7, r8⟩ := ce9 HBr.out.rb
        obtain ⟨q0, q1, q2, q3, q4, q5, q6, q7, q8⟩ := fz9 HBr.out.rb
        obtain ⟨u0, u1, u2⟩ := ce3 HBr.out.fb
        obtain ⟨v0, v1, v2⟩ := fz3 HBr.out.fb
        have E := fault_end (.int .i64 0) (.slice none 0 0) (.slice none 0 0) (.int .i64 0) (.bool false) (.int .i64 0) (.int .i64 0) (.slice none 0 0) (.slice none 0 0) (.int .i64 (50)) (.slice none 0 0) (.int .i64 ((0 : Nat) : Int)) (show b ≠ b + 1 by omega) HBr.out.rb HBr.out.fb
        have HE := hidM E
        have HgR : Hid (getR Yh B = .error (50, 0)) := HeqR.out
        clear E hDt
        go_wp2
        go_region
        clear r0 q0 r1 q1 r2 q2 r3 q3 r4 q4 r5 q5 r6 q6 r7 q7 r8 q8 u0 v0 u1 v1 u2 v2 m0 m1 m2 m3 m4 m5
        generalize ((((((((((((Yr.setCell ⟨b, 0, none⟩ (.int .i64 0)).setCell ⟨b, 1, none⟩ (.slice none 0 0)).setCell ⟨b, 2, none⟩ (.slice none 0 0)).setCell ⟨b, 3, none⟩ (.int .i64 0)).setCell ⟨b, 4, none⟩ (.bool false)).setCell ⟨b, 5, none⟩ (.int .i64 0)).setCell ⟨b, 6, none⟩ (.int .i64 0)).setCell ⟨b, 7, none⟩ (.slice none 0 0)).setCell ⟨b, 8, none⟩ (.slice none 0 0)).setCell ⟨b + 1, 0, none⟩ (.int .i64 (50))).setCell ⟨b + 1, 1, none⟩ (.slice none 0 0)).setCell ⟨b + 1, 2, none⟩ (.int .i64 ((0 : Nat) : Int))) = X at HE ⊢
        (try simp only [Exit.then])
        go_wp2_with fail
        have kX : Gr W X.drew := ((HGW.out.trans HGr.out (fun j hj e => by have := Hb.out; omega)).trans HE.out.2.2 (fun j hj e => by have := Hb.out; omega)).drew
        refine bodyPost_ret (results_3034 (fn := Tryz.f25) rfl rfl rfl (show X.drew.heap[b]? = _ from HE.out.1) (show X.drew.heap[b + 1]? = _ from HE.out.2.1) (by kernel_rfl) (by kernel_rfl)) rfl ?_
        rw [HgR.out]
        exact ⟨kX, rfl⟩
      | true =>
        have HeqR : Hid (getR Yh B = .ok (bodH kk 0 false (w5, w6, nds, sls))) := get_good HX.out He.out (Haa.out ▸ Hla.out) hY
        obtain ⟨r0, r1, r2, r3, r4, r5, r6, r7, r8⟩ := ce9 hBm.rb
        obtain ⟨q0, q1, q2, q3, q4, q5, q6, q7, q8⟩ := fz9 hBm.rb
        obtain ⟨z0, z1, z2, z3, z4, z5, z6, z7, z8⟩ := ce9 hBm.tb
        obtain ⟨u0, u1, u2⟩ := ce3 hBm.fb
        obtain ⟨v0, v1, v2⟩ := fz3 hBm.fb
        have E := fault_end (.int .i64 (kk : Int)) (.slice none 0 0) (.slice none 0 0) (.int .i64 0) (.bool false) (.int .i64 (w5 : Int)) (.int .i64 (w6 : Int)) (.slice vo nd vc) (.slice uo nu uc) (.int .i64 0) (.slice none 0 0) (.int .i64 0) (show b ≠ b + 1 by omega) hBm.rb hBm.fb
        obtain ⟨X, hX9⟩ := ex (((((((((((((Ym.setCell ⟨b, 0, none⟩ (.int .i64 (kk : Int))).setCell ⟨b, 1, none⟩ (.slice none 0 0)).setCell ⟨b, 2, none⟩ (.slice none 0 0)).setCell ⟨b, 3, none⟩ (.int .i64 0)).setCell ⟨b, 4, none⟩ (.bool false)).setCell ⟨b, 5, none⟩ (.int .i64 (w5 : Int))).setCell ⟨b, 6, none⟩ (.int .i64 (w6 : Int))).setCell ⟨b, 7, none⟩ (.slice vo nd vc)).setCell ⟨b, 8, none⟩ (.slice uo nu uc)).setCell ⟨b + 1, 0, none⟩ (.int .i64 0)).setCell ⟨b + 1, 1, none⟩ (.slice none 0 0)).setCell ⟨b + 1, 2, none⟩ (.int .i64 0)))
        rw [hX9] at E
        have HE := hidM E
        clear E hY hBm hDm
        go_wp2_with fail
        have kX : Gr W X := (HGW.out.trans HGm.out (fun j hj e => by have := Hb.out; omega)).trans HE.out.2.2 (fun j hj e => by have := Hb.out; omega)
        (try simp only [Exit.inBlock, Exit.then])
        refine bodyPost_ret (results_3034 (fn := Tryz.f25) rfl rfl rfl HE.out.1 HE.out.2.1 (by kernel_rfl) (by kernel_rfl)) rfl ?_
        rw [HeqR.out]
        exact ⟨kX, _, rfl, (HVm.out.kp HE.out.2.2 fun z hz => by have := HYb.out; omega).low (by have := HYb.out; have := Hb.out; omega)⟩
    have HeqR : Hid (getR Yh B = .error (σ.e, σ.f)) := get_bad HX.out he
    have he' : (σ.e == 0) = false := by simp [he]
    clear he
    have hDt := HD5.out
    obtain ⟨m0, m1, m2, m3, m4, m5⟩ := hDt.cells
    (try dsimp only at m3 m5)
    obtain ⟨r0, r1, r2, r3, r4, r5, r6, r7, r8⟩ := ce9 HB5.out.rb
    obtain ⟨q0, q1, q2, q3, q4, q5, q6, q7, q8⟩ := fz9 HB5.out.rb
    obtain ⟨u0, u1, u2⟩ := ce3 HB5.out.fb
    obtain ⟨v0, v1, v2⟩ := fz3 HB5.out.fb
    have E := fault_end (.int .i64 0) (.slice none 0 0) (.slice none 0 0) (.int .i64 0) (.bool false) (.int .i64 0) (.int .i64 0) (.slice none 0 0) (.slice none 0 0) (.int .i64 (σ.e)) (.slice none 0 0) (.int .i64 ((σ.f : Nat) : Int)) (show b ≠ b + 1 by omega) HB5.out.rb HB5.out.fb
    have HE := hidM E
    have HgR : Hid (getR Yh B = .error (σ.e, σ.f)) := HeqR.out
    clear E hDt
    go_wp2
    go_region
    clear r0 q0 r1 q1 r2 q2 r3 q3 r4 q4 r5 q5 r6 q6 r7 q7 r8 q8 u0 v0 u1 v1 u2 v2 m0 m1 m2 m3 m4 m5
    generalize ((((((((((((U5.setCell ⟨b, 0, none⟩ (.int .i64 0)).setCell ⟨b, 1, none⟩ (.slice none 0 0)).setCell ⟨b, 2, none⟩ (.slice none 0 0)).setCell ⟨b, 3, none⟩ (.int .i64 0)).setCell ⟨b, 4, none⟩ (.bool false)).setCell ⟨b, 5, none⟩ (.int .i64 0)).setCell ⟨b, 6, none⟩ (.int .i64 0)).setCell ⟨b, 7, none⟩ (.slice none 0 0)).setCell ⟨b, 8, none⟩ (.slice none 0 0)).setCell ⟨b + 1, 0, none⟩ (.int .i64 (σ.e))).setCell ⟨b + 1, 1, none⟩ (.slice none 0 0)).setCell ⟨b + 1, 2, none⟩ (.int .i64 ((σ.f : Nat) : Int))) = X at HE ⊢
    (try simp only [Exit.then])
    go_wp2_with fail
    have kX : Gr W X.drew := ((HGW.out.trans HG5.out (fun j hj e => by have := Hb.out; omega)).trans HE.out.2.2 (fun j hj e => by have := Hb.out; omega)).drew
    refine bodyPost_ret (results_3034 (fn := Tryz.f25) rfl rfl rfl (show X.drew.heap[b]? = _ from HE.out.1) (show X.drew.heap[b + 1]? = _ from HE.out.2.1) (by kernel_rfl) (by kernel_rfl)) rfl ?_
    rw [HgR.out]
    exact ⟨kX, rfl⟩
  obtain ⟨⟨xx, σ⟩, hq5⟩ : ∃ q, restX B kk s5' = q := ⟨_, rfl⟩
  have he := Hout.out (by omega)
  have HeqR : Hid (getR Yh B = .error (s5'.e, s5'.f)) := by
    have hb := (rel_rest B kk).bad s5' he
    rw [hq5] at hb
    dsimp only at hb
    have h1 := get_bad (HH0.out.trans hq5) (by rw [hb.1]; exact he)
    rw [hb.1, hb.2] at h1
    exact h1
  have n1 : ((kk : Int) == 1) = false := by rw [beq_eq_false_iff_ne]; omega
  have n2 : ((kk : Int) == 2) = false := by rw [beq_eq_false_iff_ne]; omega
  have n3 : ((kk : Int) == 3) = false := by rw [beq_eq_false_iff_ne]; omega
  have he' : (s5'.e == 0) = false := by simp [he]
  clear he hq5 c1 c2 c3
  have hDt := HD4.out
  obtain ⟨m0, m1, m2, m3, m4, m5⟩ := hDt.cells
  (try dsimp only at m3 m5)
  obtain ⟨r0, r1, r2, r3, r4, r5, r6, r7, r8⟩ := ce9 HB4.out.rb
  obtain ⟨q0, q1, q2, q3, q4, q5, q6, q7, q8⟩ := fz9 HB4.out.rb
  obtain ⟨u0, u1, u2⟩ := ce3 HB4.out.fb
  obtain ⟨v0, v1, v2⟩ := fz3 HB4.out.fb
  have E := fault_end (.int .i64 0) (.slice none 0 0) (.slice none 0 0) (.int .i64 0) (.bool false) (.int .i64 0) (.int .i64 0) (.slice none 0 0) (.slice none 0 0) (.int .i64 (s5'.e)) (.slice none 0 0) (.int .i64 ((s5'.f : Nat) : Int)) (show b ≠ b + 1 by omega) HB4.out.rb HB4.out.fb
  have HE := hidM E
  have HgR : Hid (getR Yh B = .error (s5'.e, s5'.f)) := HeqR.out
  clear E hDt
  go_wp2
  go_region
  clear r0 q0 r1 q1 r2 q2 r3 q3 r4 q4 r5 q5 r6 q6 r7 q7 r8 q8 u0 v0 u1 v1 u2 v2 m0 m1 m2 m3 m4 m5
  generalize ((((((((((((Y4.setCell ⟨b, 0, none⟩ (.int .i64 0)).setCell ⟨b, 1, none⟩ (.slice none 0 0)).setCell ⟨b, 2, none⟩ (.slice none 0 0)).setCell ⟨b, 3, none⟩ (.int .i64 0)).setCell ⟨b, 4, none⟩ (.bool false)).setCell ⟨b, 5, none⟩ (.int .i64 0)).setCell ⟨b, 6, none⟩ (.int .i64 0)).setCell ⟨b, 7, none⟩ (.slice none 0 0)).setCell ⟨b, 8, none⟩ (.slice none 0 0)).setCell ⟨b + 1, 0, none⟩ (.int .i64 (s5'.e))).setCell ⟨b + 1, 1, none⟩ (.slice none 0 0)).setCell ⟨b + 1, 2, none⟩ (.int .i64 ((s5'.f : Nat) : Int))) = X at HE ⊢
  (try simp only [Exit.then])
  go_wp2_with fail
  have kX : Gr W X.drew := ((HGW.out.trans HG4.out (fun j hj e => by have := Hb.out; omega)).trans HE.out.2.2 (fun j hj e => by have := Hb.out; omega)).drew
  refine bodyPost_ret (results_3034 (fn := Tryz.f25) rfl rfl rfl (show X.drew.heap[b]? = _ from HE.out.1) (show X.drew.heap[b + 1]? = _ from HE.out.2.1) (by kernel_rfl) (by kernel_rfl)) rfl ?_
  rw [HgR.out]
  exact ⟨kX, rfl⟩
end Go.Proofs.YtdihbfjjddmbiaaGreatDoor.Kit
