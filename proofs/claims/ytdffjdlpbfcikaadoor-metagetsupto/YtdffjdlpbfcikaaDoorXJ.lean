import Derived.Test.YtdffjdlpbfcikaaDoorXI
namespace Go.Proofs.YtdffjdlpbfcikaaDoor.Kit
open Go.RowKit Go.Shelf Go.Deep
set_option linter.unusedVariables false
attribute [local go_sem] run_store_func

/-! ### sameFault 8, and the law 3 -/
set_option maxRecDepth 100000 in
set_option maxHeartbeats 2000000 in
theorem same_fault (e f : Int) (W : World) : Calls Tryd.prog 8 #[.agg #[.int .i64 e, .slice none 0 0, .int .i64 f], .agg #[.int .i64 e, .slice none 0 0, .int .i64 f]] W fun x w' => x = .returned (.bool true) ∧ Gr W w' := by
  obtain ⟨b, hb⟩ : ∃ b, b = W.heap.size := ⟨_, rfl⟩
  obtain ⟨V, hV⟩ : ∃ V, (W.alloc (.cells #[.int .i64 e, .slice none 0 0, .int .i64 f] 34)).alloc (.cells #[.int .i64 e, .slice none 0 0, .int .i64 f] 34) = V := ⟨_, rfl⟩
  have c1 := heap_alloc_new W (.cells #[.int .i64 e, .slice none 0 0, .int .i64 f] 34)
  rw [← hb] at c1
  have g2 := gr_alloc (W.alloc (.cells #[.int .i64 e, .slice none 0 0, .int .i64 f] 34)) (.cells #[.int .i64 e, .slice none 0 0, .int .i64 f] 34)
  have c1' := (g2.block b (lt_of_heap c1) id).trans c1
  rw [hV] at c1'
  have HG : Hid (Gr W V) := by show Keeps _ _ _; rw [← hV]; exact (gr_alloc W _).alloc _
  have t1 : V.cell? ⟨b, 1, none⟩ = some (.slice none 0 0) := by simp [World.cell?, c1']
  have HV := hidM hV
  have Hb := hidM hb
  clear c1 g2 c1' hV hb
  go_enter Tryd.func8, Tryd.ntmps8
  go_wp2
  rw [HV.out, ← Hb.out]
  clear HV
  go_loopw [5] (fun p wr => p = .int .i64 0 ∧ Hid (wr = V)) (fun _ _ => 0)
  case atStart => exact ⟨rfl, rfl⟩
  case round =>
    obtain ⟨rfl, Hw⟩ := hrel
    have hw := Hw.out
    subst hw
    go_wp2_with fail
    go_ret
    exact ⟨rfl, HG.out⟩
set_option maxRecDepth 100000 in
set_option maxHeartbeats 4000000 in
theorem gets_any {w : World} (hT : Tab w) {bo : Option Addr} {B : List UInt8} {bc : Nat} (hb : BytesAt w bo B) (hf : B.length ≤ bc ∧ bc ≤ 9223372036854775807 ∧ (bo = none ∧ bc = 0 ∨ ∃ b o, bo = some ⟨b, o, none⟩)) (hlen : B.length ≤ 1000000000000) (hlow : ∀ b o, bo = some ⟨b, o, none⟩ → b < w.heap.size) :
    Calls Tryd.prog 3 #[.slice bo B.length bc] w fun e w' => e = .returned (.bool true) ∧ Gr w w' := by
  have hf' : SForm bo B.length bc := ⟨hf.1, hf.2.1, hf.2.2.elim (fun h => .inl h.2) .inr⟩
  have H6 : Hid (Calls Tryd.prog 6 #[.slice bo B.length bc] w (GetQ w (getR Yh B))) := get_any hT hb hf' hlen hlow
  have H7 : Hid (∀ V, Gr w V → Calls Tryd.prog 7 #[.slice bo B.length bc] V (GetQ V (getR Yh B))) := fun V g => get7 (hT.gr g) (hb.gr g) hf hlen fun c o e => Nat.lt_of_lt_of_le (hlow c o e) g.size
  have HTx : Hid (∀ V, Gr w V → Calls Tryd.prog 10 #[] V fun e w' => e = .returned (.bool true) ∧ Gr V w') := fun V g => fixed_true V (hT.gr g)
  have H0 : Hid (∀ V, Gr w V → Calls Tryd.prog 9 #[.agg #[.int .i64 0, .slice none 0 0, .slice none 0 0, .int .i64 0, .bool false, .int .i64 0, .int .i64 0, .slice none 0 0, .slice none 0 0], .agg #[.int .i64 0, .slice none 0 0, .slice none 0 0, .int .i64 0, .bool false, .int .i64 0, .int .i64 0, .slice none 0 0, .slice none 0 0]] V fun e w' => e = .returned (.bool true) ∧ Gr V w') := fun V gV => same_head (S := fun _ => False) (D := 0) (k := 0) (di := 0) (rows := 0) (pr := 0) (dl := false) (cn := 0) (vc := 0) (uc := 0) (cn' := 0) (vc' := 0) (uc' := 0) (head_none (hT.gr gV) (Nat.zero_le _) (fun _ h => h.elim)) (head_none (hT.gr gV) (Nat.zero_le _) (fun _ h => h.elim)) V (Keeps.refl _ _)
  have HTb := hidM hT
  obtain ⟨R, hR⟩ : ∃ R, R = getR Yh B := ⟨_, rfl⟩
  rw [← hR] at H6 H7
  have HR := hidM hR
  obtain ⟨n, hn⟩ : ∃ n, n = B.length := ⟨_, rfl⟩
  rw [← hn] at H6 H7 ⊢
  clear hT hb hf hf' hlen hlow hR hn
  go_enter Tryd.func3, Tryd.ntmps3
  go_wp2_with (go_at_call 6; refine Hid.out ?_)
  unfold Hid
  refine Calls.mono H6.out ?_
  rintro e X ⟨gX, hq⟩
  have HG := hidM gX
  have HAa : Hid (∀ o1 o2, Gr w ((X.alloc o1).alloc o2)) := fun o1 o2 => HG.out.trans ((gr_alloc X o1).alloc o2) (fun _ _ h => h)
  clear H6 gX
  cases R with
  | error er =>
    subst hq
    obtain ⟨e1, e2⟩ := er
    obtain ⟨V, hV⟩ : ∃ V, (X.alloc (.cells #[.int .i64 0, .slice none 0 0, .slice none 0 0, .int .i64 0, .bool false, .int .i64 0, .int .i64 0, .slice none 0 0, .slice none 0 0] 30)).alloc (.cells #[.int .i64 (e1), .slice none 0 0, .int .i64 ((e2 : Int))] 34) = V := ⟨_, rfl⟩
    obtain ⟨b, hb⟩ : ∃ b, b = X.heap.size := ⟨_, rfl⟩
    have s1 : (X.alloc (.cells #[.int .i64 0, .slice none 0 0, .slice none 0 0, .int .i64 0, .bool false, .int .i64 0, .int .i64 0, .slice none 0 0, .slice none 0 0] 30)).heap.size = b + 1 := by rw [hb]; simp
    have c1 := heap_alloc_new X (.cells #[.int .i64 0, .slice none 0 0, .slice none 0 0, .int .i64 0, .bool false, .int .i64 0, .int .i64 0, .slice none 0 0, .slice none 0 0] 30)
    have c2 := heap_alloc_new (X.alloc (.cells #[.int .i64 0, .slice none 0 0, .slice none 0 0, .int .i64 0, .bool false, .int .i64 0, .int .i64 0, .slice none 0 0, .slice none 0 0] 30)) (.cells #[.int .i64 (e1), .slice none 0 0, .int .i64 ((e2 : Int))] 34)
    rw [← hb] at c1
    rw [s1] at c2
    have c1' := ((gr_alloc (X.alloc (.cells #[.int .i64 0, .slice none 0 0, .slice none 0 0, .int .i64 0, .bool false, .int .i64 0, .int .i64 0, .slice none 0 0, .slice none 0 0] 30)) (.cells #[.int .i64 (e1), .slice none 0 0, .int .i64 ((e2 : Int))] 34)).block b (lt_of_heap c1) id).trans c1
    rw [hV] at c1' c2
    have gXV : Gr X V := by rw [← hV]; exact (gr_alloc X _).alloc _
    have H1 := hidM (And.intro c1' c2)
    have HXV := hidM gXV
    have HV := hidM hV
    have Hb := hidM hb
    clear c1 c2 c1' s1 gXV hV hb
    go_wp2_with (go_at_call 7; refine Hid.out ?_)
    unfold Hid
    rw [HV.out, ← Hb.out]
    clear HV
    refine Calls.mono (H7.out V (HG.out.trans HXV.out (fun _ _ h => h))) ?_
    rintro e Y ⟨gY, hq⟩
    subst hq
    have hy := And.intro ((gY.block b (lt_of_heap H1.out.1) id).trans H1.out.1) ((gY.block (b + 1) (lt_of_heap H1.out.2) id).trans H1.out.2)
    obtain ⟨V2, hV2⟩ : ∃ V, (Y.alloc (.cells #[.int .i64 0, .slice none 0 0, .slice none 0 0, .int .i64 0, .bool false, .int .i64 0, .int .i64 0, .slice none 0 0, .slice none 0 0] 30)).alloc (.cells #[.int .i64 (e1), .slice none 0 0, .int .i64 ((e2 : Int))] 34) = V := ⟨_, rfl⟩
    obtain ⟨c, hc⟩ : ∃ c, c = Y.heap.size := ⟨_, rfl⟩
    have s1 : (Y.alloc (.cells #[.int .i64 0, .slice none 0 0, .slice none 0 0, .int .i64 0, .bool false, .int .i64 0, .int .i64 0, .slice none 0 0, .slice none 0 0] 30)).heap.size = c + 1 := by rw [hc]; simp
    have c1 := heap_alloc_new Y (.cells #[.int .i64 0, .slice none 0 0, .slice none 0 0, .int .i64 0, .bool false, .int .i64 0, .int .i64 0, .slice none 0 0, .slice none 0 0] 30)
    have c2 := heap_alloc_new (Y.alloc (.cells #[.int .i64 0, .slice none 0 0, .slice none 0 0, .int .i64 0, .bool false, .int .i64 0, .int .i64 0, .slice none 0 0, .slice none 0 0] 30)) (.cells #[.int .i64 (e1), .slice none 0 0, .int .i64 ((e2 : Int))] 34)
    rw [← hc] at c1
    rw [s1] at c2
    have c1' := ((gr_alloc (Y.alloc (.cells #[.int .i64 0, .slice none 0 0, .slice none 0 0, .int .i64 0, .bool false, .int .i64 0, .int .i64 0, .slice none 0 0, .slice none 0 0] 30)) (.cells #[.int .i64 (e1), .slice none 0 0, .int .i64 ((e2 : Int))] 34)).block c (lt_of_heap c1) id).trans c1
    rw [hV2] at c1' c2
    have gYV : Gr Y V2 := by rw [← hV2]; exact (gr_alloc Y _).alloc _
    have HGY : Hid (Gr w Y) := (HG.out.trans HXV.out (fun _ _ h => h)).trans gY (fun _ _ h => h)
    have HXY : Hid (Gr X Y) := HXV.out.trans gY (fun _ _ h => h)
    have HYV := hidM gYV
    have hb1 := (gYV.block b (lt_of_heap hy.1) id).trans hy.1
    have hb2 := (gYV.block (b + 1) (lt_of_heap hy.2) id).trans hy.2
    have HB4 := hidM (And.intro hb1 (And.intro hb2 (And.intro c1' c2)))
    have Hc := hidM hc
    have u0' : Y.cell? ⟨b + 1, 0, none⟩ = some (.int .i64 (e1)) := by simp [World.cell?, hy.2]
    have u0 : ∀ o1 o2, ((Y.alloc o1).alloc o2).cell? ⟨b + 1, 0, none⟩ = some (.int .i64 (e1)) := fun o1 o2 => ((gr_alloc Y o1).alloc o2).cell' u0' id
    have u1' : Y.cell? ⟨b + 1, 1, none⟩ = some (.slice none 0 0) := by simp [World.cell?, hy.2]
    have u1 : ∀ o1 o2, ((Y.alloc o1).alloc o2).cell? ⟨b + 1, 1, none⟩ = some (.slice none 0 0) := fun o1 o2 => ((gr_alloc Y o1).alloc o2).cell' u1' id
    have u2' : Y.cell? ⟨b + 1, 2, none⟩ = some (.int .i64 ((e2 : Int))) := by simp [World.cell?, hy.2]
    have u2 : ∀ o1 o2, ((Y.alloc o1).alloc o2).cell? ⟨b + 1, 2, none⟩ = some (.int .i64 ((e2 : Int))) := fun o1 o2 => ((gr_alloc Y o1).alloc o2).cell' u2' id
    have HV2 := hidM hV2
    clear hy s1 c1 c2 c1' gYV hb1 hb2 gY hc hV2
    go_wp2_with (go_at_call 8; refine Hid.out ?_)
    unfold Hid
    rw [HV2.out, ← Hc.out]
    clear HV2 u0 u0' u1 u1' u2 u2'
    refine Calls.mono (same_fault (e1) ((e2 : Int)) V2) ?_
    rintro e Z ⟨rfl, gZ⟩
    have hz1 := (gZ.block b (lt_of_heap HB4.out.1) id).trans HB4.out.1
    have hz2 := (gZ.block c (lt_of_heap HB4.out.2.2.1) id).trans HB4.out.2.2.1
    have HZ : Hid (Gr Y Z) := HYV.out.trans gZ (fun _ _ h => h)
    have z0 : Z.cell? ⟨b, 0, none⟩ = some (.int .i64 0) := by simp [World.cell?, hz1]
    have y0 : Z.cell? ⟨c, 0, none⟩ = some (.int .i64 0) := by simp [World.cell?, hz2]
    have z1 : Z.cell? ⟨b, 1, none⟩ = some (.slice none 0 0) := by simp [World.cell?, hz1]
    have y1 : Z.cell? ⟨c, 1, none⟩ = some (.slice none 0 0) := by simp [World.cell?, hz2]
    have z2 : Z.cell? ⟨b, 2, none⟩ = some (.slice none 0 0) := by simp [World.cell?, hz1]
    have y2 : Z.cell? ⟨c, 2, none⟩ = some (.slice none 0 0) := by simp [World.cell?, hz2]
    have z3 : Z.cell? ⟨b, 3, none⟩ = some (.int .i64 0) := by simp [World.cell?, hz1]
    have y3 : Z.cell? ⟨c, 3, none⟩ = some (.int .i64 0) := by simp [World.cell?, hz2]
    have z4 : Z.cell? ⟨b, 4, none⟩ = some (.bool false) := by simp [World.cell?, hz1]
    have y4 : Z.cell? ⟨c, 4, none⟩ = some (.bool false) := by simp [World.cell?, hz2]
    have z5 : Z.cell? ⟨b, 5, none⟩ = some (.int .i64 0) := by simp [World.cell?, hz1]
    have y5 : Z.cell? ⟨c, 5, none⟩ = some (.int .i64 0) := by simp [World.cell?, hz2]
    have z6 : Z.cell? ⟨b, 6, none⟩ = some (.int .i64 0) := by simp [World.cell?, hz1]
    have y6 : Z.cell? ⟨c, 6, none⟩ = some (.int .i64 0) := by simp [World.cell?, hz2]
    have z7 : Z.cell? ⟨b, 7, none⟩ = some (.slice none 0 0) := by simp [World.cell?, hz1]
    have y7 : Z.cell? ⟨c, 7, none⟩ = some (.slice none 0 0) := by simp [World.cell?, hz2]
    have z8 : Z.cell? ⟨b, 8, none⟩ = some (.slice none 0 0) := by simp [World.cell?, hz1]
    have y8 : Z.cell? ⟨c, 8, none⟩ = some (.slice none 0 0) := by simp [World.cell?, hz2]
    have H9 := hidM (H0.out Z (HGY.out.trans HZ.out (fun _ _ h => h)))
    clear hz1 hz2 gZ
    go_wp2_with (go_at_call 9; refine Hid.out ?_)
    unfold Hid
    refine Calls.mono H9.out ?_
    rintro e Z2 ⟨rfl, gZ⟩
    have HZ2 : Hid (Gr w Z2) := (HGY.out.trans HZ.out (fun _ _ h => h)).trans gZ (fun _ _ h => h)
    clear gZ H9
    go_wp2_with (go_at_call 10; refine Hid.out ?_)
    unfold Hid
    refine Calls.mono (HTx.out _ HZ2.out) ?_
    rintro e Z3 ⟨rfl, gZ⟩
    have HZ3 := hidM (HZ2.out.trans gZ (fun _ _ h => h))
    clear gZ
    go_wp2_with fail
    go_ret
    exact ⟨rfl, HZ3.out⟩
  | ok x =>
    obtain ⟨hrd, -, -⟩ := get_right HR.out.symm
    obtain ⟨v, rfl, hv⟩ := hq
    obtain ⟨fo1, no1, vo1, uo1, cf1, cn1, vc1, uc1, rfl, hH1⟩ := hv.headx (HTb.out.gr HG.out) hrd
    have HH1 := hidM hH1
    have Hrd := hidM hrd
    obtain ⟨nf, hnf⟩ : ∃ n, n = x.fs.length := ⟨_, rfl⟩
    obtain ⟨nn, hnn⟩ : ∃ n, n = x.ns.length := ⟨_, rfl⟩
    obtain ⟨nd, hnd⟩ : ∃ n, n = x.nds.length := ⟨_, rfl⟩
    obtain ⟨nu, hnu⟩ : ∃ n, n = x.sls.length := ⟨_, rfl⟩
    rw [← hnf, ← hnn, ← hnd, ← hnu]
    have HN := hidM (And.intro hnf (And.intro hnn (And.intro hnd hnu)))
    clear hv hH1 hrd hnf hnn hnd hnu
    obtain ⟨V, hV⟩ : ∃ V, (X.alloc (.cells #[.int .i64 (x.kind : Int), .slice fo1 nf cf1, .slice no1 nn cn1, .int .i64 (x.id : Int), .bool x.delta, .int .i64 (x.rows : Int), .int .i64 (x.press : Int), .slice vo1 nd vc1, .slice uo1 nu uc1] 30)).alloc (.cells #[.int .i64 (0), .slice none 0 0, .int .i64 (0)] 34) = V := ⟨_, rfl⟩
    obtain ⟨b, hb⟩ : ∃ b, b = X.heap.size := ⟨_, rfl⟩
    have s1 : (X.alloc (.cells #[.int .i64 (x.kind : Int), .slice fo1 nf cf1, .slice no1 nn cn1, .int .i64 (x.id : Int), .bool x.delta, .int .i64 (x.rows : Int), .int .i64 (x.press : Int), .slice vo1 nd vc1, .slice uo1 nu uc1] 30)).heap.size = b + 1 := by rw [hb]; simp
    have c1 := heap_alloc_new X (.cells #[.int .i64 (x.kind : Int), .slice fo1 nf cf1, .slice no1 nn cn1, .int .i64 (x.id : Int), .bool x.delta, .int .i64 (x.rows : Int), .int .i64 (x.press : Int), .slice vo1 nd vc1, .slice uo1 nu uc1] 30)
    have c2 := heap_alloc_new (X.alloc (.cells #[.int .i64 (x.kind : Int), .slice fo1 nf cf1, .slice no1 nn cn1, .int .i64 (x.id : Int), .bool x.delta, .int .i64 (x.rows : Int), .int .i64 (x.press : Int), .slice vo1 nd vc1, .slice uo1 nu uc1] 30)) (.cells #[.int .i64 (0), .slice none 0 0, .int .i64 (0)] 34)
    rw [← hb] at c1
    rw [s1] at c2
    have c1' := ((gr_alloc (X.alloc (.cells #[.int .i64 (x.kind : Int), .slice fo1 nf cf1, .slice no1 nn cn1, .int .i64 (x.id : Int), .bool x.delta, .int .i64 (x.rows : Int), .int .i64 (x.press : Int), .slice vo1 nd vc1, .slice uo1 nu uc1] 30)) (.cells #[.int .i64 (0), .slice none 0 0, .int .i64 (0)] 34)).block b (lt_of_heap c1) id).trans c1
    rw [hV] at c1' c2
    have gXV : Gr X V := by rw [← hV]; exact (gr_alloc X _).alloc _
    have H1 := hidM (And.intro c1' c2)
    have HXV := hidM gXV
    have HV := hidM hV
    have Hb := hidM hb
    clear c1 c2 c1' s1 gXV hV hb
    go_wp2_with (go_at_call 7; refine Hid.out ?_)
    unfold Hid
    rw [HV.out, ← Hb.out]
    clear HV
    refine Calls.mono (H7.out V (HG.out.trans HXV.out (fun _ _ h => h))) ?_
    rintro e Y ⟨gY, hq⟩
    obtain ⟨v, rfl, hv⟩ := hq
    obtain ⟨fo2, no2, vo2, uo2, cf2, cn2, vc2, uc2, rfl, hH2⟩ := hv.headx (HTb.out.gr ((HG.out.trans HXV.out (fun _ _ h => h)).trans gY (fun _ _ h => h))) Hrd.out
    have HH2 := hidM hH2
    rw [← HN.out.1, ← HN.out.2.1, ← HN.out.2.2.1, ← HN.out.2.2.2]
    clear hv hH2
    have hy := And.intro ((gY.block b (lt_of_heap H1.out.1) id).trans H1.out.1) ((gY.block (b + 1) (lt_of_heap H1.out.2) id).trans H1.out.2)
    obtain ⟨V2, hV2⟩ : ∃ V, (Y.alloc (.cells #[.int .i64 (x.kind : Int), .slice fo2 nf cf2, .slice no2 nn cn2, .int .i64 (x.id : Int), .bool x.delta, .int .i64 (x.rows : Int), .int .i64 (x.press : Int), .slice vo2 nd vc2, .slice uo2 nu uc2] 30)).alloc (.cells #[.int .i64 (0), .slice none 0 0, .int .i64 (0)] 34) = V := ⟨_, rfl⟩
    obtain ⟨c, hc⟩ : ∃ c, c = Y.heap.size := ⟨_, rfl⟩
    have s1 : (Y.alloc (.cells #[.int .i64 (x.kind : Int), .slice fo2 nf cf2, .slice no2 nn cn2, .int .i64 (x.id : Int), .bool x.delta, .int .i64 (x.rows : Int), .int .i64 (x.press : Int), .slice vo2 nd vc2, .slice uo2 nu uc2] 30)).heap.size = c + 1 := by rw [hc]; simp
    have c1 := heap_alloc_new Y (.cells #[.int .i64 (x.kind : Int), .slice fo2 nf cf2, .slice no2 nn cn2, .int .i64 (x.id : Int), .bool x.delta, .int .i64 (x.rows : Int), .int .i64 (x.press : Int), .slice vo2 nd vc2, .slice uo2 nu uc2] 30)
    have c2 := heap_alloc_new (Y.alloc (.cells #[.int .i64 (x.kind : Int), .slice fo2 nf cf2, .slice no2 nn cn2, .int .i64 (x.id : Int), .bool x.delta, .int .i64 (x.rows : Int), .int .i64 (x.press : Int), .slice vo2 nd vc2, .slice uo2 nu uc2] 30)) (.cells #[.int .i64 (0), .slice none 0 0, .int .i64 (0)] 34)
    rw [← hc] at c1
    rw [s1] at c2
    have c1' := ((gr_alloc (Y.alloc (.cells #[.int .i64 (x.kind : Int), .slice fo2 nf cf2, .slice no2 nn cn2, .int .i64 (x.id : Int), .bool x.delta, .int .i64 (x.rows : Int), .int .i64 (x.press : Int), .slice vo2 nd vc2, .slice uo2 nu uc2] 30)) (.cells #[.int .i64 (0), .slice none 0 0, .int .i64 (0)] 34)).block c (lt_of_heap c1) id).trans c1
    rw [hV2] at c1' c2
    have gYV : Gr Y V2 := by rw [← hV2]; exact (gr_alloc Y _).alloc _
    have HGY : Hid (Gr w Y) := (HG.out.trans HXV.out (fun _ _ h => h)).trans gY (fun _ _ h => h)
    have HXY : Hid (Gr X Y) := HXV.out.trans gY (fun _ _ h => h)
    have HYV := hidM gYV
    have hb1 := (gYV.block b (lt_of_heap hy.1) id).trans hy.1
    have hb2 := (gYV.block (b + 1) (lt_of_heap hy.2) id).trans hy.2
    have HB4 := hidM (And.intro hb1 (And.intro hb2 (And.intro c1' c2)))
    have Hc := hidM hc
    have u0' : Y.cell? ⟨b + 1, 0, none⟩ = some (.int .i64 (0)) := by simp [World.cell?, hy.2]
    have u0 : ∀ o1 o2, ((Y.alloc o1).alloc o2).cell? ⟨b + 1, 0, none⟩ = some (.int .i64 (0)) := fun o1 o2 => ((gr_alloc Y o1).alloc o2).cell' u0' id
    have u1' : Y.cell? ⟨b + 1, 1, none⟩ = some (.slice none 0 0) := by simp [World.cell?, hy.2]
    have u1 : ∀ o1 o2, ((Y.alloc o1).alloc o2).cell? ⟨b + 1, 1, none⟩ = some (.slice none 0 0) := fun o1 o2 => ((gr_alloc Y o1).alloc o2).cell' u1' id
    have u2' : Y.cell? ⟨b + 1, 2, none⟩ = some (.int .i64 (0)) := by simp [World.cell?, hy.2]
    have u2 : ∀ o1 o2, ((Y.alloc o1).alloc o2).cell? ⟨b + 1, 2, none⟩ = some (.int .i64 (0)) := fun o1 o2 => ((gr_alloc Y o1).alloc o2).cell' u2' id
    have HV2 := hidM hV2
    clear hy s1 c1 c2 c1' gYV hb1 hb2 gY hc hV2
    go_wp2_with (go_at_call 8; refine Hid.out ?_)
    unfold Hid
    rw [HV2.out, ← Hc.out]
    clear HV2 u0 u0' u1 u1' u2 u2'
    refine Calls.mono (same_fault (0) (0) V2) ?_
    rintro e Z ⟨rfl, gZ⟩
    have hz1 := (gZ.block b (lt_of_heap HB4.out.1) id).trans HB4.out.1
    have hz2 := (gZ.block c (lt_of_heap HB4.out.2.2.1) id).trans HB4.out.2.2.1
    have HZ : Hid (Gr Y Z) := HYV.out.trans gZ (fun _ _ h => h)
    have z0 : Z.cell? ⟨b, 0, none⟩ = some (.int .i64 (x.kind : Int)) := by simp [World.cell?, hz1]
    have y0 : Z.cell? ⟨c, 0, none⟩ = some (.int .i64 (x.kind : Int)) := by simp [World.cell?, hz2]
    have z1 : Z.cell? ⟨b, 1, none⟩ = some (.slice fo1 nf cf1) := by simp [World.cell?, hz1]
    have y1 : Z.cell? ⟨c, 1, none⟩ = some (.slice fo2 nf cf2) := by simp [World.cell?, hz2]
    have z2 : Z.cell? ⟨b, 2, none⟩ = some (.slice no1 nn cn1) := by simp [World.cell?, hz1]
    have y2 : Z.cell? ⟨c, 2, none⟩ = some (.slice no2 nn cn2) := by simp [World.cell?, hz2]
    have z3 : Z.cell? ⟨b, 3, none⟩ = some (.int .i64 (x.id : Int)) := by simp [World.cell?, hz1]
    have y3 : Z.cell? ⟨c, 3, none⟩ = some (.int .i64 (x.id : Int)) := by simp [World.cell?, hz2]
    have z4 : Z.cell? ⟨b, 4, none⟩ = some (.bool x.delta) := by simp [World.cell?, hz1]
    have y4 : Z.cell? ⟨c, 4, none⟩ = some (.bool x.delta) := by simp [World.cell?, hz2]
    have z5 : Z.cell? ⟨b, 5, none⟩ = some (.int .i64 (x.rows : Int)) := by simp [World.cell?, hz1]
    have y5 : Z.cell? ⟨c, 5, none⟩ = some (.int .i64 (x.rows : Int)) := by simp [World.cell?, hz2]
    have z6 : Z.cell? ⟨b, 6, none⟩ = some (.int .i64 (x.press : Int)) := by simp [World.cell?, hz1]
    have y6 : Z.cell? ⟨c, 6, none⟩ = some (.int .i64 (x.press : Int)) := by simp [World.cell?, hz2]
    have z7 : Z.cell? ⟨b, 7, none⟩ = some (.slice vo1 nd vc1) := by simp [World.cell?, hz1]
    have y7 : Z.cell? ⟨c, 7, none⟩ = some (.slice vo2 nd vc2) := by simp [World.cell?, hz2]
    have z8 : Z.cell? ⟨b, 8, none⟩ = some (.slice uo1 nu uc1) := by simp [World.cell?, hz1]
    have y8 : Z.cell? ⟨c, 8, none⟩ = some (.slice uo2 nu uc2) := by simp [World.cell?, hz2]
    have H9 : Hid (Calls Tryd.prog 9 #[.agg #[.int .i64 (x.kind : Int), .slice fo1 nf cf1, .slice no1 nn cn1, .int .i64 (x.id : Int), .bool x.delta, .int .i64 (x.rows : Int), .int .i64 (x.press : Int), .slice vo1 nd vc1, .slice uo1 nu uc1], .agg #[.int .i64 (x.kind : Int), .slice fo2 nf cf2, .slice no2 nn cn2, .int .i64 (x.id : Int), .bool x.delta, .int .i64 (x.rows : Int), .int .i64 (x.press : Int), .slice vo2 nd vc2, .slice uo2 nu uc2]] Z fun e w' => e = .returned (.bool true) ∧ Gr Z w') := by
      have h1 := HH1.out.gr (HXY.out.trans HZ.out (fun _ _ h => h))
      have h2 := HH2.out.gr HZ.out
      have sz1 := (HXY.out.trans HZ.out (fun _ _ h => h)).size
      have sz2 := HZ.out.size
      have h1' : HeadAt (fun b => b < Z.heap.size) 65 Z fo1 no1 vo1 uo1 cf1 x.fs x.ns x.nds x.sls := ⟨h1.tab, h1.row.mono fun b hb => Nat.lt_of_lt_of_le hb sz1, h1.cap, h1.d, fun b h => h, h1.notes, h1.nodes, h1.slots⟩
      have h2' : HeadAt (fun b => b < Z.heap.size) 65 Z fo2 no2 vo2 uo2 cf2 x.fs x.ns x.nds x.sls := ⟨h2.tab, h2.row.mono fun b hb => Nat.lt_of_lt_of_le hb sz2, h2.cap, h2.d, fun b h => h, h2.notes, h2.nodes, h2.slots⟩
      show Calls _ _ _ _ _
      rw [HN.out.1, HN.out.2.1, HN.out.2.2.1, HN.out.2.2.2]
      exact same_head h1' h2' Z (Keeps.refl _ _)
    clear hz1 hz2 gZ
    go_wp2_with (go_at_call 9; refine Hid.out ?_)
    unfold Hid
    refine Calls.mono H9.out ?_
    rintro e Z2 ⟨rfl, gZ⟩
    have HZ2 : Hid (Gr w Z2) := (HGY.out.trans HZ.out (fun _ _ h => h)).trans gZ (fun _ _ h => h)
    clear gZ H9
    go_wp2_with (go_at_call 10; refine Hid.out ?_)
    unfold Hid
    refine Calls.mono (HTx.out _ HZ2.out) ?_
    rintro e Z3 ⟨rfl, gZ⟩
    have HZ3 := hidM (HZ2.out.trans gZ (fun _ _ h => h))
    clear gZ
    go_wp2_with fail
    go_ret
    exact ⟨rfl, HZ3.out⟩
end Go.Proofs.YtdffjdlpbfcikaaDoor.Kit
