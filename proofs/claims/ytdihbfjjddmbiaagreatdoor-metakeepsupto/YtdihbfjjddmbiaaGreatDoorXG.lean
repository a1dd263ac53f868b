import Derived.Test.YtdihbfjjddmbiaaGreatDoorXF
set_option maxRecDepth 100000
set_option maxHeartbeats 4000000
namespace Go.Proofs.YtdihbfjjddmbiaaGreatDoor.Kit
open Go.RowKit Go.Shelf Go.Deep
set_option linter.unusedVariables false
attribute [local go_sem] run_store_func
def nodeX (B : List UInt8) (s : DS) : (Int × Int) × DS := ((((numX B 4 s).1 : Int), ((numX B 4 (numX B 4 s).2).1 : Int)), (numX B 4 (numX B 4 s).2).2)
def slotX (B : List UInt8) (s : DS) : (Int × Int × Int) × DS := ((((numX B 4 s).1 : Int), ((numX B 4 (numX B 4 s).2).1 : Int), ((numX B 4 (numX B 4 (numX B 4 s).2).2).1 : Int)), (numX B 4 (numX B 4 (numX B 4 s).2).2).2)
def bodX (B : List UInt8) (s : DS) : (Nat × Nat × List (Int × Int) × List (Int × Int × Int)) × DS :=
  let a := numX B 4 s
  let b := numX B 1 a.2
  let n := numX B 2 b.2
  let l := sevX (nodeX B) n.1 [] n.2
  let m := numX B 2 l.2
  let t := sevX (slotX B) m.1 [] m.2
  ((a.1, b.1, l.1, t.1), t.2)
theorem Gd.node {B : List UInt8} {s : DS} (h : Gd s) : Gd (nodeX B s).2 := h.num.num
theorem Gd.slot {B : List UInt8} {s : DS} (h : Gd s) : Gd (slotX B s).2 := h.num.num.num
structure HB18 (W U : World) (p b : Nat) (x0 x1 x2 x3 x4 x5 x6 x7 x8 : Value) : Prop where
  tb : U.heap[b]? = some (.cells #[x0, x1, x2, x3, x4, x5, x6, x7, x8] 29 (0, 0))
  rb : U.heap[b + 1]? = some (.cells #[.int .i64 0, .slice none 0 0, .slice none 0 0, .int .i64 0, .bool false, .int .i64 0, .int .i64 0, .slice none 0 0, .slice none 0 0] 29 (0, 0))
  lt : W.heap.size ≤ b ∧ p < W.heap.size
theorem HB18.kp {W U U' : World} {p b : Nat} {x0 x1 x2 x3 x4 x5 x6 x7 x8 : Value} (h : HB18 W U p b x0 x1 x2 x3 x4 x5 x6 x7 x8) (q : Keeps U U' (fun z => z = p)) : HB18 W U' p b x0 x1 x2 x3 x4 x5 x6 x7 x8 :=
  ⟨(q.block b (lt_of_heap h.tb) (by have := h.lt; omega)).trans h.tb, (q.block (b + 1) (lt_of_heap h.rb) (by have := h.lt; omega)).trans h.rb, h.lt⟩
theorem HB18.set {W U : World} {p b : Nat} {x0 x1 x2 x3 x4 x5 x6 x7 x8 y0 y1 y2 y3 y4 y5 y6 y7 y8 : Value} (h : HB18 W U p b x0 x1 x2 x3 x4 x5 x6 x7 x8) (i : Nat) (v : Value) (e : (#[x0, x1, x2, x3, x4, x5, x6, x7, x8] : Array Value).setIfInBounds i v = #[y0, y1, y2, y3, y4, y5, y6, y7, y8]) : HB18 W (U.setCell ⟨b, i, none⟩ v) p b y0 y1 y2 y3 y4 y5 y6 y7 y8 := by
  refine ⟨?_, ?_, h.lt⟩
  · rw [heap_setCell_same U b i _ _ v h.tb, e]
  exact (((Keeps.refl U (fun z => z = b)).setCell (p := ⟨b, i, none⟩) (fun _ => rfl) v).block (b + 1) (lt_of_heap h.rb) (by omega)).trans h.rb
def BVx (hk hi : Int) (hdl : Bool) (W w' : World) (x : Nat × Nat × List (Int × Int) × List (Int × Int × Int)) (v : Value) : Prop := ∃ vo vc uo uc, v = .agg #[.int .i64 hk, .slice none 0 0, .slice none 0 0, .int .i64 hi, .bool hdl, .int .i64 (x.1 : Int), .int .i64 (x.2.1 : Int), .slice vo x.2.2.1.length vc, .slice uo x.2.2.2.length uc] ∧ LAt W w' 44 2 (fun x : Int × Int => [Value.int .i64 x.1, .int .i64 x.2]) x.2.2.1 vo vc ∧ LAt W w' 46 3 (fun x : Int × Int × Int => [Value.int .i64 x.1, .int .i64 x.2.1, .int .i64 x.2.2]) x.2.2.2 uo uc
theorem body18 (p : Nat) (bo : Option Addr) (B : List UInt8) (bc : Nat) (hk hi : Int) (hdl : Bool) : DCg p bo B bc 44 #[.pointer (some ⟨p, 0, none⟩), .agg #[.int .i64 hk, .slice none 0 0, .slice none 0 0, .int .i64 hi, .bool hdl, .int .i64 0, .int .i64 0, .slice none 0 0, .slice none 0 0]] (bodX B) (BVx hk hi hdl) := by
  intro W s h hg
  obtain ⟨r, hr⟩ : ∃ r, r = bodX B s := ⟨_, rfl⟩
  rw [← hr]
  obtain ⟨V, hV⟩ := ex ((W.alloc (.cells #[.int .i64 hk, .slice none 0 0, .slice none 0 0, .int .i64 hi, .bool hdl, .int .i64 0, .int .i64 0, .slice none 0 0, .slice none 0 0] 29)).alloc (.cells #[.int .i64 0, .slice none 0 0, .slice none 0 0, .int .i64 0, .bool false, .int .i64 0, .int .i64 0, .slice none 0 0, .slice none 0 0] 29))
  obtain ⟨b, hb⟩ : ∃ b, b = W.heap.size := ⟨_, rfl⟩
  have s1 : (W.alloc (.cells #[.int .i64 hk, .slice none 0 0, .slice none 0 0, .int .i64 hi, .bool hdl, .int .i64 0, .int .i64 0, .slice none 0 0, .slice none 0 0] 29)).heap.size = b + 1 := by rw [hb]; simp
  have g1 := gr_alloc W (.cells #[.int .i64 hk, .slice none 0 0, .slice none 0 0, .int .i64 hi, .bool hdl, .int .i64 0, .int .i64 0, .slice none 0 0, .slice none 0 0] 29)
  have g2 := gr_alloc (W.alloc (.cells #[.int .i64 hk, .slice none 0 0, .slice none 0 0, .int .i64 hi, .bool hdl, .int .i64 0, .int .i64 0, .slice none 0 0, .slice none 0 0] 29)) (.cells #[.int .i64 0, .slice none 0 0, .slice none 0 0, .int .i64 0, .bool false, .int .i64 0, .int .i64 0, .slice none 0 0, .slice none 0 0] 29)
  have c1 := heap_alloc_new W (.cells #[.int .i64 hk, .slice none 0 0, .slice none 0 0, .int .i64 hi, .bool hdl, .int .i64 0, .int .i64 0, .slice none 0 0, .slice none 0 0] 29)
  have c2 := heap_alloc_new (W.alloc (.cells #[.int .i64 hk, .slice none 0 0, .slice none 0 0, .int .i64 hi, .bool hdl, .int .i64 0, .int .i64 0, .slice none 0 0, .slice none 0 0] 29)) (.cells #[.int .i64 0, .slice none 0 0, .slice none 0 0, .int .i64 0, .bool false, .int .i64 0, .int .i64 0, .slice none 0 0, .slice none 0 0] 29)
  rw [← hb] at c1
  rw [s1] at c2
  have g12 := g1.tr g2
  rw [hV] at g2 g12 c2
  have HB0 : Hid (HB18 W V p b (.int .i64 hk) (.slice none 0 0) (.slice none 0 0) (.int .i64 hi) (.bool hdl) (.int .i64 0) (.int .i64 0) (.slice none 0 0) (.slice none 0 0)) := ⟨(g2.block b (lt_of_heap c1) id).trans c1, c2, by omega, h.lt⟩
  have HG0 : Hid (Keeps W V (fun z => z = p)) := g12.mono fun _ _ h => h.elim
  have HW0 := hidM h
  have HD0 := hidM (h.gr g12)
  have HVb : Hid (V.heap.size = b + 1 + 1 ∧ b = W.heap.size ∧ p < W.heap.size) := ⟨by rw [← hV, hb]; simp, hb, h.lt⟩
  have Hb := hidM hb
  have HV := hidM hV
  obtain ⟨⟨w5, s2⟩, hq1⟩ : ∃ q, numX B 4 s = q := ⟨_, rfl⟩
  obtain ⟨⟨w6, s3⟩, hq2⟩ : ∃ q, numX B 1 s2 = q := ⟨_, rfl⟩
  obtain ⟨⟨n1, s4⟩, hq3⟩ : ∃ q, numX B 2 s3 = q := ⟨_, rfl⟩
  obtain ⟨RL, hRL⟩ := ex (sevX (nodeX B) n1 [] s4)
  have hn1 : n1 < 4294967296 := by have := numX_lt B 2 (by omega) s3; rw [hq3] at this; exact this
  have Hg4 : Hid (Gd s4) := by
    have h1 := hg.num (B := B) (n := 4)
    rw [hq1] at h1
    have h2 := Gd.num (B := B) (n := 1) h1
    rw [hq2] at h2
    have h3 := Gd.num (B := B) (n := 2) h2
    rw [hq3] at h3
    exact h3
  have HRr : Hid (r = ((w5, w6, RL.1, (sevX (slotX B) (numX B 2 RL.2).1 [] (numX B 2 RL.2).2).1), (sevX (slotX B) (numX B 2 RL.2).1 [] (numX B 2 RL.2).2).2)) := by
    show _ = _
    rw [hr]
    unfold bodX
    simp only [hq1, hq2, hq3, hRL]
  have Hq1 := hidM hq1
  have Hq2 := hidM hq2
  have Hq3 := hidM hq3
  have HT0 : Hid (sevX (nodeX B) (n1 - 0) [] s4 = RL) := hRL
  clear h hg hr hb s1 g1 g2 c1 c2 g12 hq1 hq2 hq3 hRL hV
  go_enter Tryz.func44, Tryz.ntmps44
  go_wp2_with (go_at_call 43; refine Hid.out ?_)
  unfold Hid
  rw [HV.out, ← Hb.out]
  clear HV
  have hc := number17 p bo B bc 4 (by omega) V s HD0.out
  rw [Hq1.out] at hc
  dsimp only at hc
  refine Calls.mono hc ?_
  rintro e Y1 ⟨v, rfl, rfl, hD, hK⟩
  have hT := HB0.out.kp hK
  have hGy := HG0.out.tr hK
  clear hc
  have t5 : Y1.cell? ⟨b, 5, none⟩ = some (.int .i64 0) := by simp [World.cell?, hT.tb]
  have q5 := frz hT.tb 5
  obtain ⟨U1, hU1⟩ : ∃ U', Y1.setCell ⟨b, 5, none⟩ (.int .i64 (w5 : Int)) = U' := ⟨_, rfl⟩
  have hS := hT.set (y0 := (.int .i64 hk)) (y1 := (.slice none 0 0)) (y2 := (.slice none 0 0)) (y3 := (.int .i64 hi)) (y4 := (.bool hdl)) (y5 := (.int .i64 (w5 : Int))) (y6 := (.int .i64 0)) (y7 := (.slice none 0 0)) (y8 := (.slice none 0 0)) 5 (.int .i64 (w5 : Int)) rfl
  have hG' := kp_set hGy (show W.heap.size ≤ b by have := HVb.out; omega) 5 (.int .i64 (w5 : Int))
  have hD' := DAt.set HW0.out hD hGy (show W.heap.size ≤ b by have := HVb.out; omega) 5 (.int .i64 (w5 : Int))
  rw [hU1] at hS hG' hD'
  have HB1 := hidM hS
  have HG1 := hidM hG'
  have HD1 := hidM hD'
  clear hS hGy hG' hD' hT hD hK
  go_wp2_with (go_at_call 43; refine Hid.out ?_)
  unfold Hid
  have hc := number17 p bo B bc 1 (by omega) U1 s2 HD1.out
  rw [Hq2.out] at hc
  dsimp only at hc
  refine Calls.mono hc ?_
  rintro e Y2 ⟨v, rfl, rfl, hD, hK⟩
  have hT := HB1.out.kp hK
  have hGy := HG1.out.tr hK
  clear hc
  have t6 : Y2.cell? ⟨b, 6, none⟩ = some (.int .i64 0) := by simp [World.cell?, hT.tb]
  have q6 := frz hT.tb 6
  obtain ⟨U2, hU2⟩ : ∃ U', Y2.setCell ⟨b, 6, none⟩ (.int .i64 (w6 : Int)) = U' := ⟨_, rfl⟩
  have hS := hT.set (y0 := (.int .i64 hk)) (y1 := (.slice none 0 0)) (y2 := (.slice none 0 0)) (y3 := (.int .i64 hi)) (y4 := (.bool hdl)) (y5 := (.int .i64 (w5 : Int))) (y6 := (.int .i64 (w6 : Int))) (y7 := (.slice none 0 0)) (y8 := (.slice none 0 0)) 6 (.int .i64 (w6 : Int)) rfl
  have hG' := kp_set hGy (show W.heap.size ≤ b by have := HVb.out; omega) 6 (.int .i64 (w6 : Int))
  have hD' := DAt.set HW0.out hD hGy (show W.heap.size ≤ b by have := HVb.out; omega) 6 (.int .i64 (w6 : Int))
  rw [hU2] at hS hG' hD'
  have HB2 := hidM hS
  have HG2 := hidM hG'
  have HD2 := hidM hD'
  clear hS hGy hG' hD' hT hD hK
  go_wp2_with (go_at_call 43; refine Hid.out ?_)
  unfold Hid
  have hc := number17 p bo B bc 2 (by omega) U2 s3 HD2.out
  rw [Hq3.out] at hc
  dsimp only at hc
  refine Calls.mono hc ?_
  rintro e Y3 ⟨v, rfl, rfl, hD, hK⟩
  have hT := HB2.out.kp hK
  have hGy := HG2.out.tr hK
  clear hc
  have HB3 := hidM hT
  have HG3 := hidM hGy
  have HD3 := hidM hD
  have HBd : Hid (V.heap.size = b + 1 + 1 ∧ b = W.heap.size ∧ p < W.heap.size ∧ V.heap.size ≤ Y3.heap.size) := ⟨HVb.out.1, HVb.out.2.1, HVb.out.2.2, by have := lt_of_heap hT.rb; have := HVb.out; omega⟩
  clear hT hGy hD hK
  go_wp2
  go_loopw [6] (fun i wr => ∃ (j : Nat) (accn : List (Int × Int)) (τ : DS) (no : Option Addr) (nc : Nat), j ≤ n1 ∧ i = .int .i64 (j : Int) ∧ Hid (accn.length = j) ∧ Hid (LAt Y3 wr 44 2 (fun x : Int × Int => [Value.int .i64 x.1, .int .i64 x.2]) accn no nc) ∧ Hid (HB18 W wr p b (.int .i64 hk) (.slice none 0 0) (.slice none 0 0) (.int .i64 hi) (.bool hdl) (.int .i64 (w5 : Int)) (.int .i64 (w6 : Int)) (.slice no j nc) (.slice none 0 0)) ∧ Hid (DAt wr p bo B bc τ) ∧ Hid (Keeps W wr (fun z => z = p)) ∧ Hid (Gd τ) ∧ Hid (sevX (nodeX B) (n1 - j) accn τ = RL) ∧ Hid (Keeps Y3 wr (fun z => z = p ∨ z = b))) (fun i _ => n1 - (intOf i).toNat)
  case atStart => exact ⟨0, [], s4, none, 0, Nat.zero_le _, rfl, rfl, LAt.nil _ _ _ _ _, HB3.out, HD3.out, HG3.out, Hg4.out, HT0.out, Keeps.refl _ _⟩
  case round =>
    obtain ⟨j, accn, τ, no, nc, hj, rfl, HL2, HN, HBn, HDn, HGn, Hgn, HSn, HYn⟩ := hrel
    have hjb : j ≤ 4294967296 := by omega
    obtain ⟨m0, m1, m2, m3, m4, m5⟩ := HDn.out.cells
    by_cases hltn : j < n1
    · have hltJ : (j : Int) < (n1 : Int) := by omega
      by_cases he : τ.e = 0
      · rw [he] at m3
        obtain ⟨⟨k1, τ1⟩, hi0⟩ : ∃ q, numX B 4 τ = q := ⟨_, rfl⟩
        obtain ⟨⟨k2, τ2⟩, hi1⟩ : ∃ q, numX B 4 τ1 = q := ⟨_, rfl⟩
        have hpx : (nodeX B) τ = (((k1 : Int), (k2 : Int)), τ2) := by unfold nodeX; simp only [hi0]; simp only [hi1]
        have HS1 : Hid (sevX (nodeX B) (n1 - (j + 1)) (accn ++ [((k1 : Int), (k2 : Int))]) τ2 = RL) := (sevX_next hltn he hpx).symm.trans HSn.out
        have Hgd2 : Hid (Gd τ2) := by have := Gd.node (B := B) Hgn.out; rw [hpx] at this; exact this
        have Hi0 := hidM hi0
        have Hi1 := hidM hi1
        clear hpx he hi0 hi1
        obtain ⟨cc, hcc⟩ : ∃ cc, cc = wr.heap.size := ⟨_, rfl⟩
        obtain ⟨Z0, hZ0⟩ := ex (wr.alloc (.cells #[.int .i64 0, .int .i64 0] 44))
        have gZ := gr_al hZ0
        have hx0 := heap_alloc_new wr (.cells #[.int .i64 0, .int .i64 0] 44)
        rw [hZ0, ← hcc] at hx0
        have HX0 := hidM hx0
        have HK0 : Hid (Keeps wr Z0 (fun z => z = p)) := gZ.mono fun _ _ h => h.elim
        have HDz0 := hidM (HDn.out.gr gZ)
        have Hcc := hidM hcc
        have HZ0 := hidM hZ0
        clear gZ hx0 hcc hZ0
        go_wp2_with (go_at_call 43; refine Hid.out ?_)
        unfold Hid
        rw [HZ0.out, ← Hcc.out]
        clear HZ0 m0 m1 m2 m3 m4 m5
        have hc := (number17 p bo B bc 4 (by omega)) Z0 τ HDz0.out
        rw [Hi0.out] at hc
        dsimp only at hc
        refine Calls.mono hc ?_
        rintro e T0 ⟨v, rfl, rfl, hD, hK⟩
        have hx := (hK.block cc (lt_of_heap HX0.out) (by have := HDn.out.lt; have := Hcc.out; omega)).trans HX0.out
        have e0 : T0.cell? ⟨cc, 0, none⟩ = some (.int .i64 0) := by simp [World.cell?, hx]
        have g0 := frz hx 0
        obtain ⟨Z1, hZ1⟩ : ∃ Z', T0.setCell ⟨cc, 0, none⟩ (.int .i64 (k1 : Int)) = Z' := ⟨_, rfl⟩
        have hx' : Z1.heap[cc]? = some (.cells #[.int .i64 (k1 : Int), .int .i64 0] 44 (0, 0)) := by rw [← hZ1, heap_setCell_same T0 cc 0 _ _ _ hx]; rfl
        have kk1 := HK0.out.tr hK
        have kk2 := kp_set kk1 (show wr.heap.size ≤ cc by have := Hcc.out; omega) 0 (.int .i64 (k1 : Int))
        have dd2 := DAt.set HDn.out hD kk1 (show wr.heap.size ≤ cc by have := Hcc.out; omega) 0 (.int .i64 (k1 : Int))
        rw [hZ1] at kk2 dd2
        have HX1 := hidM hx'
        have HK1 := hidM kk2
        have HDz1 := hidM dd2
        clear hc hD hK hx hx' kk1 kk2 dd2
        go_wp2_with (go_at_call 43; refine Hid.out ?_)
        unfold Hid
        have hc := (number17 p bo B bc 4 (by omega)) Z1 τ1 HDz1.out
        rw [Hi1.out] at hc
        dsimp only at hc
        refine Calls.mono hc ?_
        rintro e T1 ⟨v, rfl, rfl, hD, hK⟩
        have hx := (hK.block cc (lt_of_heap HX1.out) (by have := HDn.out.lt; have := Hcc.out; omega)).trans HX1.out
        have e1 : T1.cell? ⟨cc, 1, none⟩ = some (.int .i64 0) := by simp [World.cell?, hx]
        have g1 := frz hx 1
        obtain ⟨Z2, hZ2⟩ : ∃ Z', T1.setCell ⟨cc, 1, none⟩ (.int .i64 (k2 : Int)) = Z' := ⟨_, rfl⟩
        have hx' : Z2.heap[cc]? = some (.cells #[.int .i64 (k1 : Int), .int .i64 (k2 : Int)] 44 (0, 0)) := by rw [← hZ2, heap_setCell_same T1 cc 1 _ _ _ hx]; rfl
        have kk1 := HK1.out.tr hK
        have kk2 := kp_set kk1 (show wr.heap.size ≤ cc by have := Hcc.out; omega) 1 (.int .i64 (k2 : Int))
        have dd2 := DAt.set HDn.out hD kk1 (show wr.heap.size ≤ cc by have := Hcc.out; omega) 1 (.int .i64 (k2 : Int))
        rw [hZ2] at kk2 dd2
        have HX2 := hidM hx'
        have HK2 := hidM kk2
        have HDz2 := hidM dd2
        clear hc hD hK hx hx' kk1 kk2 dd2
        have HA1 := hidM (HN.out.kp HK2.out (by have := HBd.out; omega))
        have hB1 := HBn.out.kp HK2.out
        have HB1 := hidM hB1
        have HG1 := hidM (HGn.out.tr HK2.out)
        have HSr := hidM (src62 Z2 (k1 : Int) (k2 : Int) )
        have HO : Hid ((Z2.alloc (.cells #[.int .i64 (k1 : Int), .int .i64 (k2 : Int)] 44)).ownsRow 0 44 2 (.slice no j nc) j (accn.flatMap (fun x : Int × Int => [Value.int .i64 x.1, .int .i64 x.2]))) := by have := HA1.out.own.alloc (.cells #[.int .i64 (k1 : Int), .int .i64 (k2 : Int)] 44); rwa [HL2.out] at this
        have z6 : Z2.cell? ⟨b, 7, none⟩ = some (.slice no j nc) := by simp [World.cell?, hB1.tb]
        obtain ⟨u0, u1⟩ := ce2 HX2.out
        clear hB1 e0 g0
        go_wp2_with (with_reducible show wpList Tryz.prog _ _ (Oper.mk (some 40) _ _ _ _ _ :: _) _ _; refine Hid.out ?_)
        unfold Hid
        refine wpList_append_anyN (P := Tryz.prog) _ rfl (.tmp 37) (.tmp 39) 26 26 rfl 44 (.agg #[.int .i64 0, .int .i64 0]) 2 16 Tryz.underlying26 info62 rfl _ _ _ rfl HO.out _ _ _ rfl HSr.out (by omega) (by omega) ?_
        refine Hid.out ?_
        unfold Hid
        intro v' w1 hown hgrow hblk
        obtain ⟨no', nc', rfl⟩ := own_formK hown
        have hbnd := HBd.out
        have kA : Keeps Z2 w1 (fun z => (Value.slice no j nc).ownBlock = some z) := ((gr_alloc Z2 _).mono fun _ _ h => h.elim).tr (Keeps.ofGrown hgrow)
        have hnew : ∀ g, (Value.slice no j nc).ownBlock = some g → Y3.heap.size ≤ g := fun g e => HA1.out.new g (by rw [HL2.out]; exact e)
        have kW : Keeps W w1 (fun z => z = p) := HG1.out.trans kA (fun j hj h => by have := hnew j h; omega)
        have hB2 := (show HB18 W w1 p b (.int .i64 hk) (.slice none 0 0) (.slice none 0 0) (.int .i64 hi) (.bool hdl) (.int .i64 (w5 : Int)) (.int .i64 (w6 : Int)) (.slice no j nc) (.slice none 0 0) from ⟨(kA.block b (lt_of_heap HB1.out.tb) (fun h => by have := hnew b h; omega)).trans HB1.out.tb, (kA.block (b + 1) (lt_of_heap HB1.out.rb) (fun h => by have := hnew (b + 1) h; omega)).trans HB1.out.rb, HB1.out.lt⟩)
        obtain ⟨w2, hw2⟩ := ex (w1.setCell ⟨b, 7, none⟩ (.slice no' (j + 1) nc'))
        have k12 : Keeps w1 w2 (fun z => z = b) := by rw [← hw2]; exact (Keeps.refl w1 (fun z => z = b)).setCell (p := ⟨b, 7, none⟩) (fun _ => rfl) _
        have hB3 := hB2.set (y0 := (.int .i64 hk)) (y1 := (.slice none 0 0)) (y2 := (.slice none 0 0)) (y3 := (.int .i64 hi)) (y4 := (.bool hdl)) (y5 := (.int .i64 (w5 : Int))) (y6 := (.int .i64 (w6 : Int))) (y7 := (.slice no' (j + 1) nc')) (y8 := (.slice none 0 0)) 7 (.slice no' (j + 1) nc') rfl
        rw [hw2] at hB3
        have kW2 : Keeps W w2 (fun z => z = p) := kW.trans k12 fun j hj e => by omega
        have HD3 := hidM (DAt.over HW0.out HDz2.out kW2 ((k12.block p (Nat.lt_of_lt_of_le HDz2.out.lt kA.size) (by omega)).trans (kA.block p HDz2.out.lt (fun h => by have := hnew p h; omega))))
        have HL3 : Hid ((accn ++ [((k1 : Int), (k2 : Int))]).length = j + 1) := by show _ = _; rw [List.length_append, HL2.out]; rfl
        have hA1 : LAt Y3 w1 44 2 (fun x : Int × Int => [Value.int .i64 x.1, .int .i64 x.2]) (accn ++ [((k1 : Int), (k2 : Int))]) no' nc' := ⟨by rw [HL3.out, List.flatMap_append]; simpa using hown, fun g e => by rw [HL3.out] at e; exact hblk.elim (fun q => hnew g (q ▸ e)) (fun q => by have := q g e; have := (gr_alloc Z2 (.cells #[.int .i64 (k1 : Int), .int .i64 (k2 : Int)] 44)).size; have := HK2.out.size; have := HYn.out.size; omega)⟩
        have HA3 := hidM (hA1.kp2 (W := Y3) k12 (fun z hz => by omega) (Nat.le_refl _))
        have HY3 : Hid (Keeps Y3 w2 (fun z => z = p ∨ z = b)) := ((HYn.out.trans HK2.out (fun _ _ h => .inl h)).trans kA (fun j hj h => by have := hnew j h; omega)).trans k12 (fun _ _ h => .inr h)
        have HB3' := hidM hB3
        have HG3 := hidM kW2
        have t6 : w1.cell? ⟨b, 7, none⟩ = some (.slice no j nc) := by simp [World.cell?, hB2.tb]
        have q6 := frz hB2.tb 7
        clear hbnd hown hgrow hblk kA hnew kW hB2 hA1 k12 hB3 kW2 HO HSr HA1 z6 u0 u1
        go_wp2_with fail
        go_roundw
        case rel => exact ⟨j + 1, accn ++ [((k1 : Int), (k2 : Int))], τ2, no', nc', by omega, by simp, HL3.out, HA3.out, HB3'.out, HD3.out, HG3.out, Hgd2.out, HS1.out, HY3.out⟩
        case measure => simp [intOf]; omega
      have he' : (τ.e == 0) = false := by simp [he]
      have HRl : Hid (RL = (accn, τ)) := HSn.out.symm.trans (sevX_stop he)
      have HBad := hidM he
      clear he
      obtain ⟨r0, r1, r2, r3, r4, r5, r6, r7, r8⟩ := ce9 HBn.out.rb
      obtain ⟨q0, q1, q2, q3, q4, q5, q6, q7, q8⟩ := fz9 HBn.out.rb
      obtain ⟨t0, t1, t2, t3, t4, t5, t6, t7, t8⟩ := ce9 HBn.out.tb
      have hE1 := put9_box (.int .i64 hk) (.slice none 0 0) (.slice none 0 0) (.int .i64 hi) (.bool hdl) (.int .i64 (w5 : Int)) (.int .i64 (w6 : Int)) (.slice no j nc) (.slice none 0 0) HBn.out.rb
      have hE2 := put9_keeps wr (b + 1) (.int .i64 hk) (.slice none 0 0) (.slice none 0 0) (.int .i64 hi) (.bool hdl) (.int .i64 (w5 : Int)) (.int .i64 (w6 : Int)) (.slice no j nc) (.slice none 0 0)
      obtain ⟨X, hX⟩ := ex ((((((((((wr.setCell ⟨b + 1, 0, none⟩ (.int .i64 hk)).setCell ⟨b + 1, 1, none⟩ (.slice none 0 0)).setCell ⟨b + 1, 2, none⟩ (.slice none 0 0)).setCell ⟨b + 1, 3, none⟩ (.int .i64 hi)).setCell ⟨b + 1, 4, none⟩ (.bool hdl)).setCell ⟨b + 1, 5, none⟩ (.int .i64 (w5 : Int))).setCell ⟨b + 1, 6, none⟩ (.int .i64 (w6 : Int))).setCell ⟨b + 1, 7, none⟩ (.slice no j nc)).setCell ⟨b + 1, 8, none⟩ (.slice none 0 0)))
      rw [hX] at hE1 hE2
      have HE1 := hidM hE1
      have HE2 := hidM hE2
      clear hE1 hE2
      go_wp2_with fail
      have kX : Keeps W X (fun z => z = p) := HGn.out.trans HE2.out fun j hj e => by have := HVb.out; omega
      have dX := DAt.over HW0.out HDn.out kX (HE2.out.block p HDn.out.lt (by have := HVb.out; omega))
      (try simp only [Exit.inBlock, Exit.then])
      refine bodyPost_ret (results_cell30 rfl rfl HE1.out (by kernel_rfl)) rfl ?_
      have hend : BVx hk hi hdl W X (w5, w6, accn, []) (.agg #[.int .i64 hk, .slice none 0 0, .slice none 0 0, .int .i64 hi, .bool hdl, .int .i64 (w5 : Int), .int .i64 (w6 : Int), .slice no j nc, .slice none 0 0]) := by
        refine ⟨no, nc, none, 0, ?_, HN.out.kp2 HE2.out (fun z hz => by have := HBd.out; omega) (by have := HBd.out; omega), LAt.nil _ _ _ _ _⟩
        show _ = Value.agg #[.int .i64 hk, .slice none 0 0, .slice none 0 0, .int .i64 hi, .bool hdl, .int .i64 (w5 : Int), .int .i64 (w6 : Int), .slice no accn.length nc, .slice none 0 0]
        rw [HL2.out]
      have hfin : r = ((w5, w6, accn, []), τ) := by rw [HRr.out, HRl.out]; dsimp only; rw [numX_bad HBad.out]; rfl
      rw [hfin]
      exact ⟨_, rfl, hend, dX, kX⟩
    have hjn : j = n1 := by omega
    have HRl : Hid (RL = (accn, τ)) := by have := HSn.out; rw [hjn, Nat.sub_self] at this; exact this.symm
    have hltJ : ¬ (j : Int) < (n1 : Int) := by omega
    clear hjn hltn
    obtain ⟨⟨n2, s5⟩, hq4⟩ : ∃ q, numX B 2 τ = q := ⟨_, rfl⟩
    obtain ⟨RN, hRN⟩ := ex (sevX (slotX B) n2 [] s5)
    have hn2 : n2 < 4294967296 := by have := numX_lt B 2 (by omega) τ; rw [hq4] at this; exact this
    have Hg5 : Hid (Gd s5) := by have := Hgn.out.num (B := B) (n := 2); rw [hq4] at this; exact this
    have HRf : Hid (r = ((w5, w6, accn, RN.1), RN.2)) := by
      show _ = _
      rw [HRr.out, HRl.out]
      simp only [hq4, hRN]
    have Hq4 := hidM hq4
    have HT1 : Hid (sevX (slotX B) (n2 - 0) [] s5 = RN) := hRN
    have HL := HL2
    clear hq4 hRN m0 m1 m2 m3 m4 m5 HRl HRr HL2
    go_wp2_with (go_at_call 43; refine Hid.out ?_)
    unfold Hid
    have hc := number17 p bo B bc 2 (by omega) wr τ HDn.out
    rw [Hq4.out] at hc
    dsimp only at hc
    refine Calls.mono hc ?_
    rintro e Y4 ⟨v, rfl, rfl, hD, hK⟩
    have hB4 := HBn.out.kp hK
    have HB4 := hidM hB4
    have HG4 := hidM (HGn.out.tr hK)
    have HD4 := hidM hD
    have HNd := hidM (HN.out.kp hK (by have := HBd.out; omega))
    have HBd2 : Hid (V.heap.size = b + 1 + 1 ∧ b = W.heap.size ∧ p < W.heap.size ∧ V.heap.size ≤ Y4.heap.size) := ⟨HVb.out.1, HVb.out.2.1, HVb.out.2.2, by have := lt_of_heap hB4.rb; have := HVb.out; omega⟩
    clear hc hD hK hB4 HN HBn HGn HDn HSn HYn Hgn
    obtain ⟨vo, hz_vo⟩ : ∃ x, x = no := ⟨_, rfl⟩
    subst hz_vo
    obtain ⟨vc, hz_vc⟩ : ∃ x, x = nc := ⟨_, rfl⟩
    subst hz_vc
    obtain ⟨k, hz_k⟩ : ∃ x, x = j := ⟨_, rfl⟩
    subst hz_k
    obtain ⟨acc, hz_acc⟩ : ∃ x, x = accn := ⟨_, rfl⟩
    subst hz_acc
    obtain ⟨σ, hz_σ⟩ : ∃ x, x = τ := ⟨_, rfl⟩
    subst hz_σ
    go_wp2
    go_loopw [8] (fun i wr => ∃ (j : Nat) (accn : List (Int × Int × Int)) (τ : DS) (no : Option Addr) (nc : Nat), j ≤ n2 ∧ i = .int .i64 (j : Int) ∧ Hid (accn.length = j) ∧ Hid (LAt Y4 wr 46 3 (fun x : Int × Int × Int => [Value.int .i64 x.1, .int .i64 x.2.1, .int .i64 x.2.2]) accn no nc) ∧ Hid (HB18 W wr p b (.int .i64 hk) (.slice none 0 0) (.slice none 0 0) (.int .i64 hi) (.bool hdl) (.int .i64 (w5 : Int)) (.int .i64 (w6 : Int)) (.slice vo k vc) (.slice no j nc)) ∧ Hid (DAt wr p bo B bc τ) ∧ Hid (Keeps W wr (fun z => z = p)) ∧ Hid (Gd τ) ∧ Hid (sevX (slotX B) (n2 - j) accn τ = RN) ∧ Hid (Keeps Y4 wr (fun z => z = p ∨ z = b))) (fun i _ => n2 - (intOf i).toNat)
    case atStart => exact ⟨0, [], s5, none, 0, Nat.zero_le _, rfl, rfl, LAt.nil _ _ _ _ _, HB4.out, HD4.out, HG4.out, Hg5.out, HT1.out, Keeps.refl _ _⟩
    case round =>
      obtain ⟨j, accn, τ, no, nc, hj, rfl, HL2, HN, HBn, HDn, HGn, Hgn, HSn, HYn⟩ := hrel
      have hjb : j ≤ 4294967296 := by omega
      obtain ⟨m0, m1, m2, m3, m4, m5⟩ := HDn.out.cells
      by_cases hltn : j < n2
      · have hltJ : (j : Int) < (n2 : Int) := by omega
        by_cases he : τ.e = 0
        · rw [he] at m3
          obtain ⟨⟨k1, τ1⟩, hi0⟩ : ∃ q, numX B 4 τ = q := ⟨_, rfl⟩
          obtain ⟨⟨k2, τ2⟩, hi1⟩ : ∃ q, numX B 4 τ1 = q := ⟨_, rfl⟩
          obtain ⟨⟨k3, τ3⟩, hi2⟩ : ∃ q, numX B 4 τ2 = q := ⟨_, rfl⟩
          have hpx : (slotX B) τ = (((k1 : Int), (k2 : Int), (k3 : Int)), τ3) := by unfold slotX; simp only [hi0]; simp only [hi1]; simp only [hi2]
          have HS1 : Hid (sevX (slotX B) (n2 - (j + 1)) (accn ++ [((k1 : Int), (k2 : Int), (k3 : Int))]) τ3 = RN) := (sevX_next hltn he hpx).symm.trans HSn.out
          have Hgd2 : Hid (Gd τ3) := by have := Gd.slot (B := B) Hgn.out; rw [hpx] at this; exact this
          have Hi0 := hidM hi0
          have Hi1 := hidM hi1
          have Hi2 := hidM hi2
          clear hpx he hi0 hi1 hi2
          obtain ⟨cc, hcc⟩ : ∃ cc, cc = wr.heap.size := ⟨_, rfl⟩
          obtain ⟨Z0, hZ0⟩ := ex (wr.alloc (.cells #[.int .i64 0, .int .i64 0, .int .i64 0] 46))
          have gZ := gr_al hZ0
          have hx0 := heap_alloc_new wr (.cells #[.int .i64 0, .int .i64 0, .int .i64 0] 46)
          rw [hZ0, ← hcc] at hx0
          have HX0 := hidM hx0
          have HK0 : Hid (Keeps wr Z0 (fun z => z = p)) := gZ.mono fun _ _ h => h.elim
          have HDz0 := hidM (HDn.out.gr gZ)
          have Hcc := hidM hcc
          have HZ0 := hidM hZ0
          clear gZ hx0 hcc hZ0
          go_wp2_with (go_at_call 43; refine Hid.out ?_)
          unfold Hid
          rw [HZ0.out, ← Hcc.out]
          clear HZ0 m0 m1 m2 m3 m4 m5
          have hc := (number17 p bo B bc 4 (by omega)) Z0 τ HDz0.out
          rw [Hi0.out] at hc
          dsimp only at hc
          refine Calls.mono hc ?_
          rintro e T0 ⟨v, rfl, rfl, hD, hK⟩
          have hx := (hK.block cc (lt_of_heap HX0.out) (by have := HDn.out.lt; have := Hcc.out; omega)).trans HX0.out
          have e0 : T0.cell? ⟨cc, 0, none⟩ = some (.int .i64 0) := by simp [World.cell?, hx]
          have g0 := frz hx 0
          obtain ⟨Z1, hZ1⟩ : ∃ Z', T0.setCell ⟨cc, 0, none⟩ (.int .i64 (k1 : Int)) = Z' := ⟨_, rfl⟩
          have hx' : Z1.heap[cc]? = some (.cells #[.int .i64 (k1 : Int), .int .i64 0, .int .i64 0] 46 (0, 0)) := by rw [← hZ1, heap_setCell_same T0 cc 0 _ _ _ hx]; rfl
          have kk1 := HK0.out.tr hK
          have kk2 := kp_set kk1 (show wr.heap.size ≤ cc by have := Hcc.out; omega) 0 (.int .i64 (k1 : Int))
          have dd2 := DAt.set HDn.out hD kk1 (show wr.heap.size ≤ cc by have := Hcc.out; omega) 0 (.int .i64 (k1 : Int))
          rw [hZ1] at kk2 dd2
          have HX1 := hidM hx'
          have HK1 := hidM kk2
          have HDz1 := hidM dd2
          clear hc hD hK hx hx' kk1 kk2 dd2
          go_wp2_with (go_at_call 43; refine Hid.out ?_)
          unfold Hid
          have hc := (number17 p bo B bc 4 (by omega)) Z1 τ1 HDz1.out
          rw [Hi1.out] at hc
          dsimp only at hc
          refine Calls.mono hc ?_
          rintro e T1 ⟨v, rfl, rfl, hD, hK⟩
          have hx := (hK.block cc (lt_of_heap HX1.out) (by have := HDn.out.lt; have := Hcc.out; omega)).trans HX1.out
          have e1 : T1.cell? ⟨cc, 1, none⟩ = some (.int .i64 0) := by simp [World.cell?, hx]
          have g1 := frz hx 1
          obtain ⟨Z2, hZ2⟩ : ∃ Z', T1.setCell ⟨cc, 1, none⟩ (.int .i64 (k2 : Int)) = Z' := ⟨_, rfl⟩
          have hx' : Z2.heap[cc]? = some (.cells #[.int .i64 (k1 : Int), .int .i64 (k2 : Int), .int .i64 0] 46 (0, 0)) := by rw [← hZ2, heap_setCell_same T1 cc 1 _ _ _ hx]; rfl
          have kk1 := HK1.out.tr hK
          have kk2 := kp_set kk1 (show wr.heap.size ≤ cc by have := Hcc.out; omega) 1 (.int .i64 (k2 : Int))
          have dd2 := DAt.set HDn.out hD kk1 (show wr.heap.size ≤ cc by have := Hcc.out; omega) 1 (.int .i64 (k2 : Int))
          rw [hZ2] at kk2 dd2
          have HX2 := hidM hx'
          have HK2 := hidM kk2
          have HDz2 := hidM dd2
          clear hc hD hK hx hx' kk1 kk2 dd2
          go_wp2_with (go_at_call 43; refine Hid.out ?_)
          unfold Hid
          have hc := (number17 p bo B bc 4 (by omega)) Z2 τ2 HDz2.out
          rw [Hi2.out] at hc
          dsimp only at hc
          refine Calls.mono hc ?_
          rintro e T2 ⟨v, rfl, rfl, hD, hK⟩
          have hx := (hK.block cc (lt_of_heap HX2.out) (by have := HDn.out.lt; have := Hcc.out; omega)).trans HX2.out
          have e2 : T2.cell? ⟨cc, 2, none⟩ = some (.int .i64 0) := by simp [World.cell?, hx]
          have g2 := frz hx 2
          obtain ⟨Z3, hZ3⟩ : ∃ Z', T2.setCell ⟨cc, 2, none⟩ (.int .i64 (k3 : Int)) = Z' := ⟨_, rfl⟩
          have hx' : Z3.heap[cc]? = some (.cells #[.int .i64 (k1 : Int), .int .i64 (k2 : Int), .int .i64 (k3 : Int)] 46 (0, 0)) := by rw [← hZ3, heap_setCell_same T2 cc 2 _ _ _ hx]; rfl
          have kk1 := HK2.out.tr hK
          have kk2 := kp_set kk1 (show wr.heap.size ≤ cc by have := Hcc.out; omega) 2 (.int .i64 (k3 : Int))
          have dd2 := DAt.set HDn.out hD kk1 (show wr.heap.size ≤ cc by have := Hcc.out; omega) 2 (.int .i64 (k3 : Int))
          rw [hZ3] at kk2 dd2
          have HX3 := hidM hx'
          have HK3 := hidM kk2
          have HDz3 := hidM dd2
          clear hc hD hK hx hx' kk1 kk2 dd2
          have HA1 := hidM (HN.out.kp HK3.out (by have := HBd2.out; omega))
          have hB1 := HBn.out.kp HK3.out
          have HB1 := hidM hB1
          have HG1 := hidM (HGn.out.tr HK3.out)
          have HSr := hidM (src64 Z3 (k1 : Int) (k2 : Int) (k3 : Int) )
          have HO : Hid ((Z3.alloc (.cells #[.int .i64 (k1 : Int), .int .i64 (k2 : Int), .int .i64 (k3 : Int)] 46)).ownsRow 0 46 3 (.slice no j nc) j (accn.flatMap (fun x : Int × Int × Int => [Value.int .i64 x.1, .int .i64 x.2.1, .int .i64 x.2.2]))) := by have := HA1.out.own.alloc (.cells #[.int .i64 (k1 : Int), .int .i64 (k2 : Int), .int .i64 (k3 : Int)] 46); rwa [HL2.out] at this
          have z6 : Z3.cell? ⟨b, 8, none⟩ = some (.slice no j nc) := by simp [World.cell?, hB1.tb]
          obtain ⟨u0, u1, u2⟩ := ce3 HX3.out
          clear hB1 e0 g0 e1 g1
          go_wp2_with (with_reducible show wpList Tryz.prog _ _ (Oper.mk (some 69) _ _ _ _ _ :: _) _ _; refine Hid.out ?_)
          unfold Hid
          refine wpList_append_anyN (P := Tryz.prog) _ rfl (.tmp 66) (.tmp 68) 27 27 rfl 46 (.agg #[.int .i64 0, .int .i64 0, .int .i64 0]) 3 24 Tryz.underlying27 info64 rfl _ _ _ rfl HO.out _ _ _ rfl HSr.out (by omega) (by omega) ?_
          refine Hid.out ?_
          unfold Hid
          intro v' w1 hown hgrow hblk
          obtain ⟨no', nc', rfl⟩ := own_formK hown
          have hbnd := HBd2.out
          have kA : Keeps Z3 w1 (fun z => (Value.slice no j nc).ownBlock = some z) := ((gr_alloc Z3 _).mono fun _ _ h => h.elim).tr (Keeps.ofGrown hgrow)
          have hnew : ∀ g, (Value.slice no j nc).ownBlock = some g → Y4.heap.size ≤ g := fun g e => HA1.out.new g (by rw [HL2.out]; exact e)
          have kW : Keeps W w1 (fun z => z = p) := HG1.out.trans kA (fun j hj h => by have := hnew j h; omega)
          have hB2 := (show HB18 W w1 p b (.int .i64 hk) (.slice none 0 0) (.slice none 0 0) (.int .i64 hi) (.bool hdl) (.int .i64 (w5 : Int)) (.int .i64 (w6 : Int)) (.slice vo k vc) (.slice no j nc) from ⟨(kA.block b (lt_of_heap HB1.out.tb) (fun h => by have := hnew b h; omega)).trans HB1.out.tb, (kA.block (b + 1) (lt_of_heap HB1.out.rb) (fun h => by have := hnew (b + 1) h; omega)).trans HB1.out.rb, HB1.out.lt⟩)
          obtain ⟨w2, hw2⟩ := ex (w1.setCell ⟨b, 8, none⟩ (.slice no' (j + 1) nc'))
          have k12 : Keeps w1 w2 (fun z => z = b) := by rw [← hw2]; exact (Keeps.refl w1 (fun z => z = b)).setCell (p := ⟨b, 8, none⟩) (fun _ => rfl) _
          have hB3 := hB2.set (y0 := (.int .i64 hk)) (y1 := (.slice none 0 0)) (y2 := (.slice none 0 0)) (y3 := (.int .i64 hi)) (y4 := (.bool hdl)) (y5 := (.int .i64 (w5 : Int))) (y6 := (.int .i64 (w6 : Int))) (y7 := (.slice vo k vc)) (y8 := (.slice no' (j + 1) nc')) 8 (.slice no' (j + 1) nc') rfl
          rw [hw2] at hB3
          have kW2 : Keeps W w2 (fun z => z = p) := kW.trans k12 fun j hj e => by omega
          have HD3 := hidM (DAt.over HW0.out HDz3.out kW2 ((k12.block p (Nat.lt_of_lt_of_le HDz3.out.lt kA.size) (by omega)).trans (kA.block p HDz3.out.lt (fun h => by have := hnew p h; omega))))
          have HL3 : Hid ((accn ++ [((k1 : Int), (k2 : Int), (k3 : Int))]).length = j + 1) := by show _ = _; rw [List.length_append, HL2.out]; rfl
          have hA1 : LAt Y4 w1 46 3 (fun x : Int × Int × Int => [Value.int .i64 x.1, .int .i64 x.2.1, .int .i64 x.2.2]) (accn ++ [((k1 : Int), (k2 : Int), (k3 : Int))]) no' nc' := ⟨by rw [HL3.out, List.flatMap_append]; simpa using hown, fun g e => by rw [HL3.out] at e; exact hblk.elim (fun q => hnew g (q ▸ e)) (fun q => by have := q g e; have := (gr_alloc Z3 (.cells #[.int .i64 (k1 : Int), .int .i64 (k2 : Int), .int .i64 (k3 : Int)] 46)).size; have := HK3.out.size; have := HYn.out.size; omega)⟩
          have HA3 := hidM (hA1.kp2 (W := Y4) k12 (fun z hz => by omega) (Nat.le_refl _))
          have HY3 : Hid (Keeps Y4 w2 (fun z => z = p ∨ z = b)) := ((HYn.out.trans HK3.out (fun _ _ h => .inl h)).trans kA (fun j hj h => by have := hnew j h; omega)).trans k12 (fun _ _ h => .inr h)
          have HB3' := hidM hB3
          have HG3 := hidM kW2
          have t6 : w1.cell? ⟨b, 8, none⟩ = some (.slice no j nc) := by simp [World.cell?, hB2.tb]
          have q6 := frz hB2.tb 8
          clear hbnd hown hgrow hblk kA hnew kW hB2 hA1 k12 hB3 kW2 HO HSr HA1 z6 u0 u1 u2
          go_wp2_with fail
          go_roundw
          case rel => exact ⟨j + 1, accn ++ [((k1 : Int), (k2 : Int), (k3 : Int))], τ3, no', nc', by omega, by simp, HL3.out, HA3.out, HB3'.out, HD3.out, HG3.out, Hgd2.out, HS1.out, HY3.out⟩
          case measure => simp [intOf]; omega
        have he' : (τ.e == 0) = false := by simp [he]
        have HRl : Hid (RN = (accn, τ)) := HSn.out.symm.trans (sevX_stop he)
        have HBad := hidM he
        clear he
        obtain ⟨r0, r1, r2, r3, r4, r5, r6, r7, r8⟩ := ce9 HBn.out.rb
        obtain ⟨q0, q1, q2, q3, q4, q5, q6, q7, q8⟩ := fz9 HBn.out.rb
        obtain ⟨t0, t1, t2, t3, t4, t5, t6, t7, t8⟩ := ce9 HBn.out.tb
        have hE1 := put9_box (.int .i64 hk) (.slice none 0 0) (.slice none 0 0) (.int .i64 hi) (.bool hdl) (.int .i64 (w5 : Int)) (.int .i64 (w6 : Int)) (.slice vo k vc) (.slice no j nc) HBn.out.rb
        have hE2 := put9_keeps wr (b + 1) (.int .i64 hk) (.slice none 0 0) (.slice none 0 0) (.int .i64 hi) (.bool hdl) (.int .i64 (w5 : Int)) (.int .i64 (w6 : Int)) (.slice vo k vc) (.slice no j nc)
        obtain ⟨X, hX⟩ := ex ((((((((((wr.setCell ⟨b + 1, 0, none⟩ (.int .i64 hk)).setCell ⟨b + 1, 1, none⟩ (.slice none 0 0)).setCell ⟨b + 1, 2, none⟩ (.slice none 0 0)).setCell ⟨b + 1, 3, none⟩ (.int .i64 hi)).setCell ⟨b + 1, 4, none⟩ (.bool hdl)).setCell ⟨b + 1, 5, none⟩ (.int .i64 (w5 : Int))).setCell ⟨b + 1, 6, none⟩ (.int .i64 (w6 : Int))).setCell ⟨b + 1, 7, none⟩ (.slice vo k vc)).setCell ⟨b + 1, 8, none⟩ (.slice no j nc)))
        rw [hX] at hE1 hE2
        have HE1 := hidM hE1
        have HE2 := hidM hE2
        clear hE1 hE2
        go_wp2_with fail
        have kX : Keeps W X (fun z => z = p) := HGn.out.trans HE2.out fun j hj e => by have := HVb.out; omega
        have dX := DAt.over HW0.out HDn.out kX (HE2.out.block p HDn.out.lt (by have := HVb.out; omega))
        (try simp only [Exit.inBlock, Exit.then])
        refine bodyPost_ret (results_cell30 rfl rfl HE1.out (by kernel_rfl)) rfl ?_
        have hend : BVx hk hi hdl W X (w5, w6, acc, accn) (.agg #[.int .i64 hk, .slice none 0 0, .slice none 0 0, .int .i64 hi, .bool hdl, .int .i64 (w5 : Int), .int .i64 (w6 : Int), .slice vo k vc, .slice no j nc]) := by
          have hVb := HVb.out
          refine ⟨vo, vc, no, nc, ?_, ?_, HN.out.kp2 HE2.out (fun z hz => by have := HBd2.out; omega) (by have := HBd2.out; omega)⟩
          · show _ = Value.agg #[.int .i64 hk, .slice none 0 0, .slice none 0 0, .int .i64 hi, .bool hdl, .int .i64 (w5 : Int), .int .i64 (w6 : Int), .slice vo acc.length vc, .slice no accn.length nc]
            rw [HL.out, HL2.out]
          exact ((HNd.out.kp2 (W := Y3) HYn.out (fun z hz => by have := HBd.out; omega) (Nat.le_refl _)).kp2 (W := W) HE2.out (fun z hz => by have := HBd.out; omega) (by have := HBd.out; omega))
        rw [HRf.out, HRl.out]
        exact ⟨_, rfl, hend, dX, kX⟩
      have hjn : j = n2 := by omega
      have HRl : Hid (RN = (accn, τ)) := by have := HSn.out; rw [hjn, Nat.sub_self] at this; exact this.symm
      have hltJ : ¬ (j : Int) < (n2 : Int) := by omega
      clear hjn hltn
      obtain ⟨r0, r1, r2, r3, r4, r5, r6, r7, r8⟩ := ce9 HBn.out.rb
      obtain ⟨q0, q1, q2, q3, q4, q5, q6, q7, q8⟩ := fz9 HBn.out.rb
      obtain ⟨t0, t1, t2, t3, t4, t5, t6, t7, t8⟩ := ce9 HBn.out.tb
      have hE1 := put9_box (.int .i64 hk) (.slice none 0 0) (.slice none 0 0) (.int .i64 hi) (.bool hdl) (.int .i64 (w5 : Int)) (.int .i64 (w6 : Int)) (.slice vo k vc) (.slice no j nc) HBn.out.rb
      have hE2 := put9_keeps wr (b + 1) (.int .i64 hk) (.slice none 0 0) (.slice none 0 0) (.int .i64 hi) (.bool hdl) (.int .i64 (w5 : Int)) (.int .i64 (w6 : Int)) (.slice vo k vc) (.slice no j nc)
      obtain ⟨X, hX⟩ := ex ((((((((((wr.setCell ⟨b + 1, 0, none⟩ (.int .i64 hk)).setCell ⟨b + 1, 1, none⟩ (.slice none 0 0)).setCell ⟨b + 1, 2, none⟩ (.slice none 0 0)).setCell ⟨b + 1, 3, none⟩ (.int .i64 hi)).setCell ⟨b + 1, 4, none⟩ (.bool hdl)).setCell ⟨b + 1, 5, none⟩ (.int .i64 (w5 : Int))).setCell ⟨b + 1, 6, none⟩ (.int .i64 (w6 : Int))).setCell ⟨b + 1, 7, none⟩ (.slice vo k vc)).setCell ⟨b + 1, 8, none⟩ (.slice no j nc)))
      rw [hX] at hE1 hE2
      have HE1 := hidM hE1
      have HE2 := hidM hE2
      clear hE1 hE2
      go_wp2_with fail
      have kX : Keeps W X (fun z => z = p) := HGn.out.trans HE2.out fun j hj e => by have := HVb.out; omega
      have dX := DAt.over HW0.out HDn.out kX (HE2.out.block p HDn.out.lt (by have := HVb.out; omega))
      (try simp only [Exit.inBlock, Exit.then])
      refine bodyPost_ret (results_cell30 rfl rfl HE1.out (by kernel_rfl)) rfl ?_
      have hend : BVx hk hi hdl W X (w5, w6, acc, accn) (.agg #[.int .i64 hk, .slice none 0 0, .slice none 0 0, .int .i64 hi, .bool hdl, .int .i64 (w5 : Int), .int .i64 (w6 : Int), .slice vo k vc, .slice no j nc]) := by
        have hVb := HVb.out
        refine ⟨vo, vc, no, nc, ?_, ?_, HN.out.kp2 HE2.out (fun z hz => by have := HBd2.out; omega) (by have := HBd2.out; omega)⟩
        · show _ = Value.agg #[.int .i64 hk, .slice none 0 0, .slice none 0 0, .int .i64 hi, .bool hdl, .int .i64 (w5 : Int), .int .i64 (w6 : Int), .slice vo acc.length vc, .slice no accn.length nc]
          rw [HL.out, HL2.out]
        exact ((HNd.out.kp2 (W := Y3) HYn.out (fun z hz => by have := HBd.out; omega) (Nat.le_refl _)).kp2 (W := W) HE2.out (fun z hz => by have := HBd.out; omega) (by have := HBd.out; omega))
      rw [HRf.out, HRl.out]
      exact ⟨_, rfl, hend, dX, kX⟩
end Go.Proofs.YtdihbfjjddmbiaaGreatDoor.Kit
