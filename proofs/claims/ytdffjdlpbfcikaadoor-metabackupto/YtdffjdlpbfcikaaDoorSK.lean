import Derived.Test.YtdffjdlpbfcikaaDoorSJ
namespace Go.Proofs.YtdffjdlpbfcikaaDoor.Kit
open Go.RowKit Go.Shelf Go.Deep
set_option linter.unusedVariables false
attribute [local go_sem] run_store_func

/-! ### the law 4 -/
theorem bytes_whole {W : World} {B : Nat} {bs : List UInt8} (h : W.heap[B]? = some (.cells (bv bs).toArray 5 (0, 0))) : BytesAt W (some ⟨B, 0, none⟩) bs := fun _ => ⟨B, 0, rfl, fun i hi => by simp [World.cell?, h, bv, hi]⟩
set_option maxRecDepth 100000 in
set_option maxHeartbeats 2000000 in
theorem back_no {S : Nat → Prop} {D : Nat} {k di rows pr : Int} {dl : Bool} {fo no vo uo mo : Option Addr} {cf cn vc uc m mc : Nat} {fs : List FT} {ns : List (ByteArray × ByteArray)} {nds : List (Int × Int)} {sls : List (Int × Int × Int)} {w : World} (h : HeadAt S D w fo no vo uo cf fs ns nds sls) (hok : ¬ HOk (Yes D fs ns) k fs.length ns.length di dl rows pr nds sls) :
    Calls Tryd.prog 4 #[.agg #[.int .i64 k, .slice fo fs.length cf, .slice no ns.length cn, .int .i64 di, .bool dl, .int .i64 rows, .int .i64 pr, .slice vo nds.length vc, .slice uo sls.length uc], .slice mo m mc] w fun e w' => e = .returned (.bool true) ∧ Gr w w' := by
  have HP : Hid (∀ V, Gr w V → Calls Tryd.prog 11 #[.agg #[.int .i64 k, .slice fo fs.length cf, .slice no ns.length cn, .int .i64 di, .bool dl, .int .i64 rows, .int .i64 pr, .slice vo nds.length vc, .slice uo sls.length uc]] V fun e w' => e = .returned (.tuple #[.slice none 0 0, .int .i64 50]) ∧ Gr V w') := fun V g => put4_false (h.gr g) hok
  have HT : Hid (∀ V, Gr w V → Calls Tryd.prog 10 #[] V fun e w' => e = .returned (.bool true) ∧ Gr V w') := fun V g => fixed_true V (h.tab.gr g)
  obtain ⟨nf, hnf⟩ : ∃ n, n = fs.length := ⟨_, rfl⟩
  obtain ⟨nn, hnn⟩ : ∃ n, n = ns.length := ⟨_, rfl⟩
  obtain ⟨nd, hnd⟩ : ∃ n, n = nds.length := ⟨_, rfl⟩
  obtain ⟨nu, hnu⟩ : ∃ n, n = sls.length := ⟨_, rfl⟩
  rw [← hnn, ← hnd, ← hnu, ← hnf] at HP ⊢
  clear h hok hnf hnn hnd hnu
  go_enter Tryd.func4, Tryd.ntmps4
  go_wp2_with (go_at_call 11; refine Hid.out ?_)
  unfold Hid
  refine Calls.mono (HP.out _ (gr_alloc w _)) ?_
  rintro e X ⟨rfl, gX⟩
  have HG : Hid (Gr w X) := (gr_alloc w _).trans gX (fun _ _ h => h)
  clear gX HP
  go_wp2_with (go_at_call 10; refine Hid.out ?_)
  unfold Hid
  refine Calls.mono (HT.out _ HG.out) ?_
  rintro e X2 ⟨rfl, gX⟩
  have HG2 : Hid (Gr w X2) := HG.out.trans gX (fun _ _ h => h)
  clear gX HG
  go_wp2_with fail
  go_ret
  exact ⟨rfl, HG2.out⟩
set_option maxRecDepth 100000 in
set_option maxHeartbeats 4000000 in
theorem back_yes {S : Nat → Prop} {D : Nat} {k di rows pr : Int} {dl : Bool} {fo no vo uo mo : Option Addr} {cf cn vc uc mc : Nat} {fs : List FT} {ns : List (ByteArray × ByteArray)} {nds : List (Int × Int)} {sls : List (Int × Int × Int)} {w : World} (h : HeadAt S D w fo no vo uo cf fs ns nds sls) (hD : 65 ≤ D) (hok : HOk (Yes D fs ns) k fs.length ns.length di dl rows pr nds sls)
    {M : List UInt8} (hM : BytesAt w mo M) (hMl : M.length ≤ 500000000000) :
    Calls Tryd.prog 4 #[.agg #[.int .i64 k, .slice fo fs.length cf, .slice no ns.length cn, .int .i64 di, .bool dl, .int .i64 rows, .int .i64 pr, .slice vo nds.length vc, .slice uo sls.length uc], .slice mo M.length mc] w fun e w' => e = .returned (.bool true) ∧ Gr w w' := by
  have hdp := h.row.deep
  have hwl := wholeB_len hdp hok
  have Hh := hidM h
  have HD : Hid (65 ≤ D ∧ deep D fs ∧ HOk (Yes D fs ns) k fs.length ns.length di dl rows pr nds sls) := ⟨hD, hdp, hok⟩
  have HMM := hidM hM
  have HP : Hid (∀ V, Gr w V → Calls Tryd.prog 11 #[.agg #[.int .i64 k, .slice fo fs.length cf, .slice no ns.length cn, .int .i64 di, .bool dl, .int .i64 rows, .int .i64 pr, .slice vo nds.length vc, .slice uo sls.length uc]] V fun e w' => ∃ B, e = .returned (.tuple #[.slice (some ⟨B, 0, none⟩) (wholeB D k fs ns di dl rows pr nds sls).length (wholeB D k fs ns di dl rows pr nds sls).length, .int .i64 0]) ∧ V.heap.size ≤ B ∧ w'.heap[B]? = some (.cells (bv (wholeB D k fs ns di dl rows pr nds sls)).toArray 5 (0, 0)) ∧ Gr V w') := fun V g => put4_true (h.gr g) hok
  have HT : Hid (∀ V, Gr w V → Calls Tryd.prog 10 #[] V fun e w' => e = .returned (.bool true) ∧ Gr V w') := fun V g => fixed_true V (h.tab.gr g)
  obtain ⟨bs, hbs⟩ : ∃ bs, bs = wholeB D k fs ns di dl rows pr nds sls := ⟨_, rfl⟩
  obtain ⟨n, hn⟩ : ∃ n, n = bs.length := ⟨_, rfl⟩
  rw [← hbs, ← hn] at hwl
  rw [← hbs, ← hn] at HP
  have Hbs := hidM hbs
  have Hn := hidM hn
  obtain ⟨nf, hnf⟩ : ∃ n, n = fs.length := ⟨_, rfl⟩
  obtain ⟨nn, hnn⟩ : ∃ n, n = ns.length := ⟨_, rfl⟩
  obtain ⟨nd, hnd⟩ : ∃ n, n = nds.length := ⟨_, rfl⟩
  obtain ⟨nu, hnu⟩ : ∃ n, n = sls.length := ⟨_, rfl⟩
  obtain ⟨m, hm⟩ : ∃ m, m = M.length := ⟨_, rfl⟩
  rw [← hnn, ← hnd, ← hnu, ← hnf] at HP ⊢
  rw [← hm]
  rw [← hm] at hMl
  have HN := hidM (And.intro hnf (And.intro hnn (And.intro hnd hnu)))
  have Hm := hidM hm
  obtain ⟨b0, hb0⟩ : ∃ b, b = w.heap.size := ⟨_, rfl⟩
  have Hb0 := hidM hb0
  have hc0 := heap_alloc_new w (.cells #[.int .i64 k, .slice fo nf cf, .slice no nn cn, .int .i64 di, .bool dl, .int .i64 rows, .int .i64 pr, .slice vo nd vc, .slice uo nu uc] 30)
  rw [← hb0] at hc0
  have HC0 := hidM hc0
  clear h hok hnf hnn hnd hnu hdp hM hbs hn hm hb0 hD hc0
  go_enter Tryd.func4, Tryd.ntmps4
  go_wp2_with (go_at_call 11; refine Hid.out ?_)
  unfold Hid
  rw [← Hb0.out]
  refine Calls.mono (HP.out _ (gr_alloc w _)) ?_
  rintro e X ⟨B, rfl, hB, hXB, gX⟩
  have HB : Hid (BytesAt X (some ⟨B, 0, none⟩) bs ∧ SForm (some ⟨B, 0, none⟩) n n ∧ B < X.heap.size ∧ w.heap.size ≤ B) := ⟨bytes_whole hXB, ⟨Nat.le_refl _, by omega, .inr ⟨B, 0, rfl⟩⟩, lt_of_heap hXB, by have := (gr_alloc w (.cells #[.int .i64 k, .slice fo nf cf, .slice no nn cn, .int .i64 di, .bool dl, .int .i64 rows, .int .i64 pr, .slice vo nd vc, .slice uo nu uc] 30)).size; omega⟩
  have hX0 := (gX.block b0 (lt_of_heap HC0.out) id).trans HC0.out
  have HX0 := hidM hX0
  have HG : Hid (Gr w X) := (gr_alloc w _).trans gX (fun _ _ h => h)
  clear gX HP HC0 hX0 hXB hB
  have H6 : Hid (∀ V, Gr X V → Calls Tryd.prog 6 #[.slice (some ⟨B, 0, none⟩) n n] V fun e w' => ∃ fo1 no1 vo1 uo1 cf1 cn1 vc1 uc1, e = .returned (.tuple #[.agg #[.int .i64 k, .slice fo1 nf cf1, .slice no1 nn cn1, .int .i64 di, .bool dl, .int .i64 rows, .int .i64 pr, .slice vo1 nd vc1, .slice uo1 nu uc1], .agg #[.int .i64 0, .slice none 0 0, .int .i64 0]]) ∧ HeadAt (fun b => b < w'.heap.size) D w' fo1 no1 vo1 uo1 cf1 fs ns nds sls ∧ Gr V w') := fun V gV => by
    have hh := (Hh.out.gr HG.out).gr gV
    have hb := HB.out.1.gr gV
    have hf := HB.out.2.1
    have hl := Nat.lt_of_lt_of_le HB.out.2.2.1 gV.size
    rw [Hn.out, Hbs.out] at hf ⊢
    rw [Hbs.out] at hb
    rw [HN.out.1, HN.out.2.1, HN.out.2.2.1, HN.out.2.2.2]
    exact get_ok hh.tab HD.out.1 hh.d hh.notes.1 hh.nodes.1 hh.slots.1 HD.out.2.1 HD.out.2.2 hb hf (fun b o e => by cases e; exact hl)
  go_wp2_with (go_at_call 6; refine Hid.out ?_)
  unfold Hid
  refine Calls.mono (H6.out X (Keeps.refl _ _)) ?_
  rintro e X2 ⟨fo1, no1, vo1, uo1, cf1, cn1, vc1, uc1, rfl, hH, gX⟩
  have hX0 := (gX.block b0 (lt_of_heap HX0.out) id).trans HX0.out
  have z0 : X2.cell? ⟨b0, 0, none⟩ = some (.int .i64 k) := by simp [World.cell?, hX0]
  have z1 : X2.cell? ⟨b0, 1, none⟩ = some (.slice fo nf cf) := by simp [World.cell?, hX0]
  have z2 : X2.cell? ⟨b0, 2, none⟩ = some (.slice no nn cn) := by simp [World.cell?, hX0]
  have z3 : X2.cell? ⟨b0, 3, none⟩ = some (.int .i64 di) := by simp [World.cell?, hX0]
  have z4 : X2.cell? ⟨b0, 4, none⟩ = some (.bool dl) := by simp [World.cell?, hX0]
  have z5 : X2.cell? ⟨b0, 5, none⟩ = some (.int .i64 rows) := by simp [World.cell?, hX0]
  have z6 : X2.cell? ⟨b0, 6, none⟩ = some (.int .i64 pr) := by simp [World.cell?, hX0]
  have z7 : X2.cell? ⟨b0, 7, none⟩ = some (.slice vo nd vc) := by simp [World.cell?, hX0]
  have z8 : X2.cell? ⟨b0, 8, none⟩ = some (.slice uo nu uc) := by simp [World.cell?, hX0]
  have hz0 := lt_of_heap hX0
  have HG2 : Hid (Gr w X2) := HG.out.trans gX (fun _ _ h => h)
  have HgX := hidM gX
  have H9 : Hid (∀ V, Gr X2 V → Calls Tryd.prog 9 #[.agg #[.int .i64 k, .slice fo1 nf cf1, .slice no1 nn cn1, .int .i64 di, .bool dl, .int .i64 rows, .int .i64 pr, .slice vo1 nd vc1, .slice uo1 nu uc1], .agg #[.int .i64 k, .slice fo nf cf, .slice no nn cn, .int .i64 di, .bool dl, .int .i64 rows, .int .i64 pr, .slice vo nd vc, .slice uo nu uc]] V fun e w' => e = .returned (.bool true) ∧ Gr V w') := fun V gV => by
    have hh := Hh.out.gr HG2.out
    rw [HN.out.1, HN.out.2.1, HN.out.2.2.1, HN.out.2.2.2]
    exact same_head hH ⟨hh.tab, hh.row.mono fun b hb => hh.s b hb, hh.cap, hh.d, fun b h => h, hh.notes, hh.nodes, hh.slots⟩ V gV
  clear gX hH H6 HX0 HG hX0
  go_wp2_with (go_at_call 9; refine Hid.out ?_)
  unfold Hid
  refine Calls.mono (H9.out _ ((gr_alloc X2 _).alloc _)) ?_
  rintro e X3 ⟨rfl, gX⟩
  have g23 : Gr X2 X3 := ((gr_alloc X2 _).alloc _).trans gX (fun _ _ h => h)
  have HG3 : Hid (Gr w X3) := HG2.out.trans g23 (fun _ _ h => h)
  have HB3 : Hid (BytesAt X3 (some ⟨B, 0, none⟩) bs ∧ SForm (some ⟨B, 0, none⟩) n n ∧ B < X3.heap.size) := by
    have gg := HgX.out.trans g23 (fun _ _ h => h)
    exact ⟨HB.out.1.gr gg, HB.out.2.1, Nat.lt_of_lt_of_le HB.out.2.2.1 gg.size⟩
  have H0 : Hid (∀ V, Gr w V → Calls Tryd.prog 9 #[.agg #[.int .i64 0, .slice none 0 0, .slice none 0 0, .int .i64 0, .bool false, .int .i64 0, .int .i64 0, .slice none 0 0, .slice none 0 0], .agg #[.int .i64 0, .slice none 0 0, .slice none 0 0, .int .i64 0, .bool false, .int .i64 0, .int .i64 0, .slice none 0 0, .slice none 0 0]] V fun e w' => e = .returned (.bool true) ∧ Gr V w') := fun V gV => same_head (S := fun _ => False) (D := 0) (k := 0) (di := 0) (rows := 0) (pr := 0) (dl := false) (cn := 0) (vc := 0) (uc := 0) (cn' := 0) (vc' := 0) (uc' := 0) (head_none (Hh.out.gr gV).tab (Nat.zero_le _) (fun _ h => h.elim)) (head_none (Hh.out.gr gV).tab (Nat.zero_le _) (fun _ h => h.elim)) V (Keeps.refl _ _)
  clear gX g23 HB HgX HG2 H9 z0 z1 z2 z3 z4 z5 z6 z7 z8 hz0
  go_wp2
  go_loopw [9] (fun p wr => ∃ j : Nat, j ≤ n ∧ p = .int .i64 (j : Int) ∧ Hid (Gr X3 wr)) (fun p _ => n - (intOf p).toNat)
  case atStart => exact ⟨0, by omega, rfl, Keeps.refl _ _⟩
  case round =>
    obtain ⟨j, hj, rfl, HK⟩ := hrel
    by_cases hlt : j < n
    · have H6 : Hid (Calls Tryd.prog 6 #[.slice (some ⟨B, 0, none⟩) j n] wr fun e w' => ∃ a : Nat, a ≤ j ∧ e = .returned (.tuple #[.agg #[.int .i64 0, .slice none 0 0, .slice none 0 0, .int .i64 0, .bool false, .int .i64 0, .int .i64 0, .slice none 0 0, .slice none 0 0], .agg #[.int .i64 51, .slice none 0 0, .int .i64 (a : Int)]]) ∧ Gr wr w') := by
        have gw := HG3.out.trans HK.out (fun _ _ h => h)
        have hh := Hh.out.gr gw
        have hb := HB3.out.1.gr HK.out
        have hf := HB3.out.2.1
        have hl := Nat.lt_of_lt_of_le HB3.out.2.2 HK.out.size
        have hjn := hlt
        rw [Hn.out, Hbs.out] at hf hjn
        rw [Hbs.out] at hb
        have := get_short hh.tab HD.out.1 hh.d hh.notes.1 hh.nodes.1 hh.slots.1 HD.out.2.1 HD.out.2.2 hb hf (fun b o e => by cases e; exact hl) hjn
        rw [← Hbs.out, ← Hn.out] at this
        exact this
      have hltI : (j : Int) < (n : Int) := by omega
      have hleI : (j : Int) ≤ (n : Int) := by omega
      go_wp2_with (go_at_call 6; refine Hid.out ?_)
      unfold Hid
      refine Calls.mono H6.out ?_
      rintro e Y ⟨a, ha, rfl, gY⟩
      have hb1 : ¬ (j : Int) < (a : Int) := by omega
      have hb2 : ¬ (a : Int) < 0 := by omega
      have HY : Hid (Gr X3 Y) := HK.out.trans gY (fun _ _ h => h)
      clear gY H6 ha
      go_wp2_with (go_at_call 9; refine Hid.out ?_)
      unfold Hid
      have HYY : Hid (∀ o1 o2, Gr X3 ((Y.alloc o1).alloc o2)) := fun o1 o2 => HY.out.trans ((gr_alloc Y o1).alloc o2) (fun _ _ h => h)
      refine Calls.mono (H0.out _ (HG3.out.trans (HYY.out _ _) (fun _ _ h => h))) ?_
      rintro e Y2 ⟨rfl, gZ⟩
      have HZ := hidM ((HYY.out _ _).trans gZ (fun _ _ h => h))
      clear HYY gZ HY
      go_wp2_with fail
      go_roundw
      case rel => exact ⟨j + 1, by omega, by simp, HZ.out⟩
      case measure => simp [intOf]; omega
    · have hjn : j = n := by omega
      subst hjn
      have hn0 := Hn.out
      have HS1 : Hid (Src Tryd.prog 1 22 (.slice (some ⟨B, 0, none⟩) j j) j (bv bs) wr) := by
        have hb := HB3.out.1.gr HK.out
        show Src _ _ _ _ _ _ _
        rw [Hn.out]
        exact src_bytes hb
      have HE1 : Hid (wr.ownsRow 0 5 1 (.slice none 0 0) 0 []) := World.ownsRow_nil _ _ _ _
      clear hn0 hlt hj
      go_wp2_with (with_reducible show wpList Tryd.prog _ _ (Oper.mk (some 85) _ _ _ _ _ :: _) _ _; refine Hid.out ?_)
      unfold Hid
      refine wpList_append_any (P := Tryd.prog) _ rfl (.const (.slice none 0 0)) (.tmp 84) 22 22 rfl 5 (.int .u8 0) 1 Tryd.underlying22 info5 rfl _ 0 [] rfl HE1.out _ j (bv bs) rfl HS1.out (by omega) (by omega) ?_
      refine Hid.out ?_
      unfold Hid
      intro v1 w1 hown hgrow hblk
      rw [Nat.zero_add, List.nil_append] at hown
      obtain ⟨lo, lc, rfl⟩ := own_form1 hown
      have g1 : Gr wr w1 := (Keeps.ofGrown hgrow).mono fun z _ h => by have h' : (none : Option Nat) = some z := h; cases h'
      have HO1 : Hid (w1.ownsRow 0 5 1 (.slice lo j lc) j (bv bs)) := hown
      have HN1 : Hid (∀ g, (Value.slice lo j lc).ownBlock = some g → wr.heap.size ≤ g) := fun g e => hblk.elim (fun q => by have h' : (none : Option Nat) = some g := q.symm.trans e; cases h') (fun q => q g e)
      have HGw : Hid (Gr w wr) := HG3.out.trans HK.out (fun _ _ h => h)
      have HG4 : Hid (Gr w w1) := HGw.out.trans g1 (fun _ _ h => h)
      have HS2 : Hid (Src Tryd.prog 1 22 (.slice mo m mc) m (bv M) w1) := by
        show Src _ _ _ _ _ _ _
        rw [Hm.out]
        exact src_bytes (HMM.out.gr HG4.out)
      clear hown hgrow hblk g1 HE1 HS1
      go_wp2_with (with_reducible show wpList Tryd.prog _ _ (Oper.mk (some 88) _ _ _ _ _ :: _) _ _; refine Hid.out ?_)
      unfold Hid
      refine wpList_append_any (P := Tryd.prog) _ rfl (.tmp 86) (.tmp 87) 22 22 rfl 5 (.int .u8 0) 1 Tryd.underlying22 info5 rfl _ j (bv bs) rfl HO1.out _ m (bv M) rfl HS2.out (by omega) (by omega) ?_
      refine Hid.out ?_
      unfold Hid
      intro v2 w2 hown hgrow hblk
      rw [← bv_app] at hown
      obtain ⟨so, sc, rfl, hsb, hsf, hsl⟩ := own_bytes hown (by rw [List.length_append, ← Hn.out, ← Hm.out])
      have HG5 : Hid (Gr w w2) := HG4.out.trans (Keeps.ofGrown hgrow) fun z hz h => by have := HN1.out z h; have := HGw.out.size; omega
      have HS := hidM (And.intro hsb (And.intro hsf hsl))
      clear hown hgrow hblk hsb hsf hsl HO1 HN1 HS2 HG4 HGw
      obtain ⟨L, hL⟩ : ∃ L, L = (bs ++ M).length := ⟨_, rfl⟩
      rw [← hL]
      have HL := hidM hL
      clear hL
      go_wp2_with (go_at_call 6; refine Hid.out ?_)
      unfold Hid
      by_cases hM : M = []
      · have H6 : Hid (Calls Tryd.prog 6 #[.slice so L sc] w2 fun e w' => ∃ fo1 no1 vo1 uo1 cf1 cn1 vc1 uc1, e = .returned (.tuple #[.agg #[.int .i64 k, .slice fo1 nf cf1, .slice no1 nn cn1, .int .i64 di, .bool dl, .int .i64 rows, .int .i64 pr, .slice vo1 nd vc1, .slice uo1 nu uc1], .agg #[.int .i64 0, .slice none 0 0, .int .i64 0]]) ∧ HeadAt (fun b => b < w'.heap.size) D w' fo1 no1 vo1 uo1 cf1 fs ns nds sls ∧ Gr w2 w') := by
          have hh := Hh.out.gr HG5.out
          have hb := HS.out.1
          have hf := HS.out.2.1
          have hl := HS.out.2.2
          have hL := HL.out
          rw [hM, List.append_nil, Hbs.out] at hb hf hL
          rw [HN.out.1, HN.out.2.1, HN.out.2.2.1, HN.out.2.2.2, hL]
          exact get_ok hh.tab HD.out.1 hh.d hh.notes.1 hh.nodes.1 hh.slots.1 HD.out.2.1 HD.out.2.2 hb hf hl
        refine Calls.mono H6.out ?_
        rintro e Y ⟨fo1, no1, vo1, uo1, cf1, cn1, vc1, uc1, rfl, -, gY⟩
        have HY : Hid (∀ o1 o2, Gr w ((Y.alloc o1).alloc o2)) := fun o1 o2 => (HG5.out.trans gY (fun _ _ h => h)).trans ((gr_alloc Y o1).alloc o2) (fun _ _ h => h)
        have hm0 : ¬ (0 : Int) < (m : Int) := by have := Hm.out; rw [hM] at this; simp at this; omega
        clear gY H6 hM
        go_wp2_with (go_at_call 10; refine Hid.out ?_)
        unfold Hid
        refine Calls.mono (HT.out _ (HY.out _ _)) ?_
        rintro e Y2 ⟨rfl, gZ⟩
        have HZ := hidM ((HY.out _ _).trans gZ (fun _ _ h => h))
        clear gZ HY
        go_wp2_with fail
        go_ret
        exact ⟨rfl, HZ.out⟩
      · have H6 : Hid (Calls Tryd.prog 6 #[.slice so L sc] w2 fun e w' => e = .returned (.tuple #[.agg #[.int .i64 0, .slice none 0 0, .slice none 0 0, .int .i64 0, .bool false, .int .i64 0, .int .i64 0, .slice none 0 0, .slice none 0 0], .agg #[.int .i64 52, .slice none 0 0, .int .i64 (j : Int)]]) ∧ Gr w2 w') := by
          have hh := Hh.out.gr HG5.out
          have hb := HS.out.1
          have hf := HS.out.2.1
          have hl := HS.out.2.2
          have hlen : (bs ++ M).length ≤ 1000000000000 := by rw [List.length_append, ← Hn.out, ← Hm.out]; omega
          show Calls _ _ _ _ _
          rw [HL.out, Hn.out]
          rw [Hbs.out] at hb hf hlen ⊢
          exact get_long hh.tab HD.out.1 hh.d hh.notes.1 hh.nodes.1 hh.slots.1 HD.out.2.1 HD.out.2.2 hb hf hlen hl hM
        refine Calls.mono H6.out ?_
        rintro e Y ⟨rfl, gY⟩
        have HY : Hid (∀ o1 o2, Gr w ((Y.alloc o1).alloc o2)) := fun o1 o2 => (HG5.out.trans gY (fun _ _ h => h)).trans ((gr_alloc Y o1).alloc o2) (fun _ _ h => h)
        have hm0 : (0 : Int) < (m : Int) := by have := List.length_pos_iff.2 hM; rw [← Hm.out] at this; omega
        clear gY H6 hM
        go_wp2_with (go_at_call 9; refine Hid.out ?_)
        unfold Hid
        refine Calls.mono (H0.out _ (HY.out _ _)) ?_
        rintro e Y2 ⟨rfl, gZ⟩
        have HZ := hidM ((HY.out _ _).trans gZ (fun _ _ h => h))
        clear gZ HY
        go_wp2_with (go_at_call 10; refine Hid.out ?_)
        unfold Hid
        refine Calls.mono (HT.out _ HZ.out) ?_
        rintro e Y3 ⟨rfl, gZ⟩
        have HZ3 := hidM (HZ.out.trans gZ (fun _ _ h => h))
        clear gZ HZ
        go_wp2_with fail
        go_ret
        exact ⟨rfl, HZ3.out⟩
theorem back_any {S : Nat → Prop} {D : Nat} {k di rows pr : Int} {dl : Bool} {fo no vo uo mo : Option Addr} {cf cn vc uc mc : Nat} {fs : List FT} {ns : List (ByteArray × ByteArray)} {nds : List (Int × Int)} {sls : List (Int × Int × Int)} {w : World} (h : HeadAt S D w fo no vo uo cf fs ns nds sls) (hD : 65 ≤ D) {M : List UInt8} (hM : BytesAt w mo M) (hMl : M.length ≤ 500000000000) :
    Calls Tryd.prog 4 #[.agg #[.int .i64 k, .slice fo fs.length cf, .slice no ns.length cn, .int .i64 di, .bool dl, .int .i64 rows, .int .i64 pr, .slice vo nds.length vc, .slice uo sls.length uc], .slice mo M.length mc] w fun e w' => e = .returned (.bool true) ∧ Gr w w' := by
  by_cases hok : HOk (Yes D fs ns) k fs.length ns.length di dl rows pr nds sls
  · exact back_yes h hD hok hM hMl
  · exact back_no h hok
end Go.Proofs.YtdffjdlpbfcikaaDoor.Kit
