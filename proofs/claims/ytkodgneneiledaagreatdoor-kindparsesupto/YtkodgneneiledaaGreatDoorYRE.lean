import Derived.Test.YtkodgneneiledaaGreatDoorYR
set_option maxRecDepth 100000
set_option maxHeartbeats 4000000
namespace Go.Proofs.YtkodgneneiledaaGreatDoor.Kit
open Go.RowKit Go.Shelf Go.Deep
set_option linter.unusedVariables false
attribute [local go_sem] run_store_func
theorem cut5 {P : Program} {Q : Exit → Act → World → Prop} {K : Act → World → Prop} {c1 c2 c3 c4 c5 : Code} (h : ∀ a w, (Code.seq c1 (Code.seq c2 (Code.seq c3 (Code.seq c4 c5)))).wp P Q a w → K a w) : ∃ C, C = c5 ∧ ∀ a w, (Code.seq c1 (Code.seq c2 (Code.seq c3 (Code.seq c4 C)))).wp P Q a w → K a w := ⟨c5, rfl, h⟩
def Mid7 (W : World) (p : Nat) (s : ByteArray) (b c : Nat) (R : Except Nat ((List FT × List (ByteArray × ByteArray)) × Ps)) (a : Act) (e : Exit) (a' : Act) (w' : World) : Prop := e = .normal ∧ ∃ (v1 v7 v8 v9 v10 v11 v12 v13 v14 v15 v16 v17 v18 v19 v20 v21 v22 v23 v24 v25 v26 v27 v28 v29 v30 v31 v32 v33 v34 v35 : Value) (y0 : Except Nat (List FT × Ps)) (fo : Option Addr) (nf fc : Nat) (V1 : World), a' = ⟨#[.string s, v1, .pointer (some ⟨b, 0, none⟩), .int .i64 0, .int .i64 0, .pointer (some ⟨p, 0, none⟩), .pointer (some ⟨c, 0, none⟩), v7, v8, v9, v10, v11, v12, v13, v14, v15, v16, v17, v18, v19, v20, v21, v22, v23, v24, v25, v26, v27, v28, v29, v30, v31, v32, v33, v34, v35, undef, undef, undef, undef, undef, undef, undef, undef, undef, undef, undef, undef, undef, undef, undef, undef, undef, undef, undef, undef, undef, undef, undef, undef, undef, undef, undef, undef, undef, undef, undef, undef, undef, undef, undef, undef, undef, undef, undef, undef, undef, undef, undef, undef, undef, undef, undef, undef, undef, undef, undef, undef, undef, undef, undef, undef, undef, undef, undef, undef], []⟩ ∧ Hid (PS w' w' p s b c (qs y0) (.slice fo nf fc) (.slice none 0 0)) ∧ Hid (Gr W w') ∧ Hid (RS p V1 w' (D0 + 1) fo nf fc y0) ∧ Hid (p < V1.heap.size ∧ c < V1.heap.size) ∧ Hid (R = bnd (qs y0) ((takesP s.data.toList 124).bind fun b => if b then (quotedP s.data.toList).bind fun k => (quotedP s.data.toList).bind fun t => G2 (α := Unit) s.data.toList (lOf y0) D0 [(k, t)] else finP s.data.toList (lOf y0, [])))
theorem parse7_short (s : ByteArray) (W : World) (hs : s.size ≤ 65536) : Calls Tryz.prog 7 #[.string s] W (ParQ W s (schP s.data.toList)) := by
  obtain ⟨R, hRes⟩ : ∃ R, R = whP s.data.toList (schP s.data.toList) (0, []) := ⟨_, rfl⟩
  have HRes := hidP hRes
  unfold ParQ ParBad
  rw [← hRes]
  have Hs := hidP hs
  obtain ⟨V, hV⟩ : ∃ V, ((W.alloc (.cells #[.slice none 0 0, .slice none 0 0] 27)).alloc (.cells #[.string s, .int .i64 0, .int .i64 (-1), .slice none 0 0] 62)).alloc (.cells #[.slice none 0 0, .slice none 0 0] 27) = V := ⟨_, rfl⟩
  have q1 := gr_alloc W (.cells #[.slice none 0 0, .slice none 0 0] 27)
  have q2 := gr_alloc (W.alloc (.cells #[.slice none 0 0, .slice none 0 0] 27)) (.cells #[.string s, .int .i64 0, .int .i64 (-1), .slice none 0 0] 62)
  have q3 := gr_alloc ((W.alloc (.cells #[.slice none 0 0, .slice none 0 0] 27)).alloc (.cells #[.string s, .int .i64 0, .int .i64 (-1), .slice none 0 0] 62)) (.cells #[.slice none 0 0, .slice none 0 0] 27)
  rw [hV] at q3
  have z1 : (W.alloc (.cells #[.slice none 0 0, .slice none 0 0] 27)).heap.size = W.heap.size + 1 := by simp
  have z2 : ((W.alloc (.cells #[.slice none 0 0, .slice none 0 0] 27)).alloc (.cells #[.string s, .int .i64 0, .int .i64 (-1), .slice none 0 0] 62)).heap.size = W.heap.size + 1 + 1 := by simp
  have h1 := heap_alloc_new W (.cells #[.slice none 0 0, .slice none 0 0] 27)
  have h2 := heap_alloc_new (W.alloc (.cells #[.slice none 0 0, .slice none 0 0] 27)) (.cells #[.string s, .int .i64 0, .int .i64 (-1), .slice none 0 0] 62)
  have h3 := heap_alloc_new ((W.alloc (.cells #[.slice none 0 0, .slice none 0 0] 27)).alloc (.cells #[.string s, .int .i64 0, .int .i64 (-1), .slice none 0 0] 62)) (.cells #[.slice none 0 0, .slice none 0 0] 27)
  rw [hV, z2] at h3
  rw [z1] at h2
  have h2 := (q3.block _ (by omega) id).trans h2
  have h1 := (q3.block _ (by omega) id).trans ((q2.block _ (by omega) id).trans h1)
  obtain ⟨b, hb⟩ : ∃ b, b = W.heap.size := ⟨_, rfl⟩
  rw [← hb] at h1 h2 h3
  have Hb := hidP hb
  obtain ⟨p, hp⟩ : ∃ p, p = b + 1 := ⟨_, rfl⟩
  rw [← hp] at h2 h3
  have Hp := hidP hp
  obtain ⟨c, hc⟩ : ∃ c, c = p + 1 := ⟨_, rfl⟩
  rw [← hc] at h3
  have Hc := hidP hc
  have HGV : Hid (Gr W V) := (q1.trans q2 fun _ _ h => h).trans q3 fun _ _ h => h
  have HP : Hid (PS V V p s b c (.ok (0, [])) (.slice none 0 0) (.slice none 0 0)) := ⟨h1, h3, ⟨by omega, by omega, lt_of_heap h3⟩, KX.refl V p c, ⟨0, none, 0, ⟨h2, hs, Nat.zero_le _, World.ownsRow_nil _ _ _ _, fun q e => by simp [Value.ownBlock] at e, by omega⟩, rfl, Nat.le_refl _, Nat.zero_le _⟩⟩
  have HV := hidP hV
  have hlt : ¬ (65536 : Int) < (s.size : Int) := by omega
  have hsee := see_da p s 0 [] V HP.out.ds
  unfold tokV at hsee
  have hb0s := skN_le s (Nat.zero_le s.size)
  have Hst := hidP (fun U (h : DA U p s 0 []) => h.step)
  have hkk : (s.data.toList.drop (0 + skN (s.data.toList.drop 0))).headD 0 = (sk (s.data.toList.drop 0)).headD 0 := by rw [drop_sk]
  obtain ⟨b0, hb0⟩ : ∃ b0, b0 = 0 + skN (s.data.toList.drop 0) := ⟨_, rfl⟩
  rw [← hb0] at hsee hb0s Hst hkk
  have hTl : s.data.toList.length = s.size := by simp
  have Hb0 := hidP hb0
  have Hkk := hidP hkk
  rcases hTok : tokOf s.data.toList b0 with ⟨tk, tx, tn, tf⟩
  rw [hTok] at hsee
  (try dsimp only at hsee)
  have HTok := hidP hTok
  have Hb0s := hidP hb0s
  have HTl := hidP hTl
  have HSee := hidP hsee
  clear hb0 hsee hkk q1 q2 q3 z1 z2 h1 h2 h3 hb hp hc hV hRes hTl hTok hb0s
  have HS124 := hidP (cm_of (sign26 p s (s.size + 1) 124 (by unfold signB; decide) (fun v => v = .bool false)) (sign26_dead p s _))
  have HS44 := hidP (cm_of (sign26 p s (s.size + 1) 44 (by unfold signB; decide) (fun v => v = .bool false)) (sign26_dead p s _))
  have HEn := hidP (cm_of (end28 p s (s.size + 1)) (end28_dead p s))
  have HTx := hidP (cm_of (text27 p s (s.size + 1)) (text27_dead p s))
  go_enter Tryz.func7, Tryz.ntmps7
  refine wp_seq_k fun K0 hK0 => ?_
  obtain ⟨C6, hC6, hK0⟩ := cut5 hK0
  have HC6 := hidP hC6
  clear hC6
  go_wp2_with (go_at_call 24; refine Hid.out ?_)
  unfold Hid
  rw [HV.out, ← Hb.out, ← Hp.out, ← Hc.out]
  clear HV Hc
  refine Calls.mono HSee.out ?_
  rintro e u ⟨hgu, rfl⟩
  have HPu := hidP (HP.out.gr hgu)
  clear HP hgu HSee
  go_wp2_with fail
  have hz1 := heap_alloc_new u (.cells #[.int .i64 tk, .string tx, .int .i64 (b0 : Int), .int .i64 (tn : Int), .int .i64 tf] 64)
  have hz2 := gr_alloc u (.cells #[.int .i64 tk, .string tx, .int .i64 (b0 : Int), .int .i64 (tn : Int), .int .i64 tf] 64)
  have HP0 := hidP (HPu.out.gr hz2)
  obtain ⟨K, hK⟩ : ∃ K, K = u.heap.size := ⟨_, rfl⟩
  rw [← hK] at hz1 ⊢
  generalize u.alloc (.cells #[.int .i64 tk, .string tx, .int .i64 (b0 : Int), .int .i64 (tn : Int), .int .i64 tf] 64) = U at HP0 hz1 ⊢
  have t0 : U.cell? ⟨K, 0, none⟩ = some (.int .i64 tk) := cell_at hz1 0 rfl
  have t1 : U.cell? ⟨K, 1, none⟩ = some (.string tx) := cell_at hz1 1 rfl
  have HPq : Hid (PS V U p s b c (.ok (b0, [])) (.slice none 0 0) (.slice none 0 0)) := ⟨HP0.out.rb, HP0.out.tb, HP0.out.lt, HP0.out.kp, Hst.out _ HP0.out.ds⟩
  clear hz1 hz2 hK HPu HP0 Hst
  obtain rfl := HC6.out
  clear HC6
  refine wp_seq_k fun KT hKT => ?_
  have HKT := hidP hKT
  clear hKT
  refine wp_mid (R := Mid7 W p s b c R) ?_ ?_
  · clear HKT HS124 HS44 HEn HTx Hp
    by_cases hA : (sk (s.data.toList.drop 0)).headD 0 = 124
    · have hq := HTok.out.symm.trans (tok_sign (by unfold signB; decide) (Hkk.out.trans hA))
      cases hq
      have HA := hidP hA
      clear hA
      have HR : Hid (R = bnd (.ok (b0, [])) ((notesP s.data.toList []).bind (finP s.data.toList))) := by show R = _; rw [HRes.out]; exact wh_none Hb0.out (.inl HA.out)
      go_wp2_with fail
      refine ⟨rfl, _, _, _, _, _, _, _, _, _, _, _, _, _, _, _, _, _, _, _, _, _, _, _, _, _, _, _, _, _, _, .ok ([], (b0, [])), none, 0, 0, U, rfl, HPq.out.base (X := U) HPq.out.kp.size, gr_kx Hb.out ⟨HPq.out.lt.1, HPq.out.lt.2.1⟩ HGV.out HPq.out.kp, fun l st e => by cases e; exact ⟨rfl, Nat.le_refl _, by simp [big], fun h => absurd rfl h⟩, ⟨HPq.out.ds.lt, lt_of_heap HPq.out.tb⟩, ?_⟩
      show R = _
      rw [HR.out, notes_take]
      rfl
    have hns := tok_nosign (T := s.data.toList) (b := b0) (c := 124) (by rw [Hkk.out]; exact hA)
    have hte := tok_end0 Hb0s.out
    rw [HTok.out] at hns hte
    (try dsimp only at hns hte)
    by_cases hB : b0 = s.size
    · have htk : (tk != 0) = false := by have h0 : tk = 0 := hte.2 hB; rw [h0]; rfl
      have HB := hidP hB
      clear hns hte hA hB
      have HR : Hid (R = bnd (.ok (b0, [])) ((notesP s.data.toList []).bind (finP s.data.toList))) := by show R = _; rw [HRes.out]; exact wh_none Hb0.out (.inr (by rw [HTl.out]; have := HB.out; omega))
      go_wp2_with fail
      refine ⟨rfl, _, _, _, _, _, _, _, _, _, _, _, _, _, _, _, _, _, _, _, _, _, _, _, _, _, _, _, _, _, _, .ok ([], (b0, [])), none, 0, 0, U, rfl, HPq.out.base (X := U) HPq.out.kp.size, gr_kx Hb.out ⟨HPq.out.lt.1, HPq.out.lt.2.1⟩ HGV.out HPq.out.kp, fun l st e => by cases e; exact ⟨rfl, Nat.le_refl _, by simp [big], fun h => absurd rfl h⟩, ⟨HPq.out.ds.lt, lt_of_heap HPq.out.tb⟩, ?_⟩
      show R = _
      rw [HR.out, notes_take]
      rfl
    have htk : (tk != 0) = true := bne_iff_ne.2 fun h0 => hB (hte.1 h0)
    have HR : Hid (R = bnd (.ok (b0, [])) ((manyP s.data.toList (fieldP s.data.toList D0)).bind fun l => (notesP s.data.toList l).bind (finP s.data.toList))) := by show R = _; rw [HRes.out]; exact wh_some Hb0.out hA (by rw [HTl.out]; have := Hb0s.out; omega)
    have HFd := hidP (fields_doc p s)
    by_cases h2 : tk = 2
    · have h2b : (tk == 2) = true := beq_iff_eq.2 h2
      have htx : (tx.toList == [124]) = false := Bool.eq_false_iff.2 fun h3 => hns h2 (str_one.1 h3)
      clear hns hte hA hB h2
      go_wp2_with (go_at_call 25; refine Hid.out ?_)
      unfold Hid
      clear t0 t1
      have hq := HFd.out U (.ok (b0, [])) HPq.out.ds (fun st e => by cases e; show _ < 65537; omega)
      refine Calls.mono hq ?_
      intro e U3 hp
      obtain ⟨fo, nf, fc, rfl, hk, hD, hrow⟩ := flds_post hp
      have HP3 := hidP (HPq.out.call hk hD)
      have HRow3 : Hid (RS p U U3 (D0 + 1) fo nf fc (bnd (.ok (b0, [])) (manyP s.data.toList (fieldP s.data.toList D0)))) := hrow
      have HV1 : Hid (p < U.heap.size ∧ c < U.heap.size) := ⟨HPq.out.ds.lt, lt_of_heap HPq.out.tb⟩
      obtain ⟨y0, hy0⟩ : ∃ y, y = bnd (.ok (b0, [])) (manyP s.data.toList (fieldP s.data.toList D0)) := ⟨_, rfl⟩
      rw [← hy0] at HP3 HRow3
      have HRb : Hid (R = bnd (qs y0) ((takesP s.data.toList 124).bind fun b => if b then (quotedP s.data.toList).bind fun k => (quotedP s.data.toList).bind fun t => G2 (α := Unit) s.data.toList (lOf y0) D0 [(k, t)] else finP s.data.toList (lOf y0, []))) := by show R = _; rw [HR.out, bnd_step (n := lOf y0) (fun x st e => by rw [← hy0] at e; exact lOf_ok x st e), ← hy0, notes_take]
      have w0 := frz HP3.out.tb 0
      have w1 : U3.cell? ⟨c, 0, none⟩ = some (.slice none 0 0) := by simp [World.cell?, HP3.out.tb]
      have HP4 := hidP (HP3.out.set (IS.kS (c := c) (i := 0) (v := .slice fo nf fc)) (heap_setCell_same _ c 0 _ _ _ HP3.out.tb))
      have HRow := hidP (HRow3.out.set (IS.kS (c := c) (i := 0) (v := .slice fo nf fc)) HV1.out.2)
      clear hq hp hk hD hrow HR HP3 HRow3 HFd HPq hy0
      go_wp2_with fail
      exact ⟨rfl, _, _, _, _, _, _, _, _, _, _, _, _, _, _, _, _, _, _, _, _, _, _, _, _, _, _, _, _, _, _, y0, fo, nf, fc, U, rfl, HP4.out.base (X := U) HP4.out.kp.size, gr_kx Hb.out ⟨HP4.out.lt.1, HP4.out.lt.2.1⟩ HGV.out HP4.out.kp, HRow.out, HV1.out, HRb.out⟩
    have h2b : (tk == 2) = false := beq_eq_false_iff_ne.2 h2
    clear hns hte hA hB h2
    go_wp2_with (go_at_call 25; refine Hid.out ?_)
    unfold Hid
    clear t0 t1
    have hq := HFd.out U (.ok (b0, [])) HPq.out.ds (fun st e => by cases e; show _ < 65537; omega)
    refine Calls.mono hq ?_
    intro e U3 hp
    obtain ⟨fo, nf, fc, rfl, hk, hD, hrow⟩ := flds_post hp
    have HP3 := hidP (HPq.out.call hk hD)
    have HRow3 : Hid (RS p U U3 (D0 + 1) fo nf fc (bnd (.ok (b0, [])) (manyP s.data.toList (fieldP s.data.toList D0)))) := hrow
    have HV1 : Hid (p < U.heap.size ∧ c < U.heap.size) := ⟨HPq.out.ds.lt, lt_of_heap HPq.out.tb⟩
    obtain ⟨y0, hy0⟩ : ∃ y, y = bnd (.ok (b0, [])) (manyP s.data.toList (fieldP s.data.toList D0)) := ⟨_, rfl⟩
    rw [← hy0] at HP3 HRow3
    have HRb : Hid (R = bnd (qs y0) ((takesP s.data.toList 124).bind fun b => if b then (quotedP s.data.toList).bind fun k => (quotedP s.data.toList).bind fun t => G2 (α := Unit) s.data.toList (lOf y0) D0 [(k, t)] else finP s.data.toList (lOf y0, []))) := by show R = _; rw [HR.out, bnd_step (n := lOf y0) (fun x st e => by rw [← hy0] at e; exact lOf_ok x st e), ← hy0, notes_take]
    have w0 := frz HP3.out.tb 0
    have w1 : U3.cell? ⟨c, 0, none⟩ = some (.slice none 0 0) := by simp [World.cell?, HP3.out.tb]
    have HP4 := hidP (HP3.out.set (IS.kS (c := c) (i := 0) (v := .slice fo nf fc)) (heap_setCell_same _ c 0 _ _ _ HP3.out.tb))
    have HRow := hidP (HRow3.out.set (IS.kS (c := c) (i := 0) (v := .slice fo nf fc)) HV1.out.2)
    clear hq hp hk hD hrow HR HP3 HRow3 HFd HPq hy0
    go_wp2_with fail
    exact ⟨rfl, _, _, _, _, _, _, _, _, _, _, _, _, _, _, _, _, _, _, _, _, _, _, _, _, _, _, _, _, _, _, y0, fo, nf, fc, U, rfl, HP4.out.base (X := U) HP4.out.kp.size, gr_kx Hb.out ⟨HP4.out.lt.1, HP4.out.lt.2.1⟩ HGV.out HP4.out.kp, HRow.out, HV1.out, HRb.out⟩
  intro e a' X
  rintro ⟨rfl, v1, v7, v8, v9, v10, v11, v12, v13, v14, v15, v16, v17, v18, v19, v20, v21, v22, v23, v24, v25, v26, v27, v28, v29, v30, v31, v32, v33, v34, v35, y0, fo, nf, fc, V1, rfl, HP, HGX, HRow, HV1, HR⟩
  clear t0 t1 HPq HTok Hkk Hb0s HTl Hb0
  have hKT := HKT.out
  clear HKT
  obtain ⟨l, hl⟩ : ∃ l : List FT, l = lOf y0 := ⟨_, rfl⟩
  rw [← hl] at HR
  have Hl := hidP hl
  clear hl
  have HY : Hid (∀ st, qs y0 = .ok st → ∃ l st0, y0 = .ok (l, st0)) := fun st e => by
    cases y0 with
    | error o => cases e
    | ok z => exact ⟨z.1, z.2, rfl⟩
  have HLp : Hid (p < X.heap.size) := HP.out.ds.lt
  have HXb : Hid (b < X.heap.size) := lt_of_heap HP.out.rb
  have HV1b : Hid (b < V1.heap.size) := by have := HV1.out.1; have := HP.out.lt; show b < _; omega
  go_wp2_with (go_at_call 26; refine Hid.out ?_)
  unfold Hid
  have hq := HS124.out X (qs y0) HP.out.ds (fun st _ => by omega)
  refine Calls.mono hq ?_
  intro e U1 hp
  obtain ⟨bv, rfl, hk, hD, hv, hve⟩ := bool_post hp
  have HP1 := hidP (HP.out.call hk hD)
  have HA1 : Hid (LAt X U1 70 2 ncel [] none 0) := LAt.nil _ _ _ _ _
  have HR1 := hidP (HR.out.trans (bnd_step hv))
  have HY1 : Hid (∀ st, qs (bnd (qs y0) (takesP s.data.toList 124)) = .ok st → ∃ l st0, y0 = .ok (l, st0)) := fun st e => by obtain ⟨_, e2⟩ := qs_from e; exact HY.out _ e2
  have HU1 := hidP (fun st (e : qs (bnd (qs y0) (takesP s.data.toList 124)) = .ok st) => hD.pos st e)
  clear HP HR HY hq hp hk hD hv hve
  generalize qs (bnd (qs y0) (takesP s.data.toList 124)) = q1 at HP1 HR1 HY1 HU1
  have HP := HP1
  have HA := HA1
  have HR := HR1
  have HY := HY1
  clear HP1 HA1 HR1 HY1
  cases bv with
  | false =>
    obtain ⟨acc0, hacc0⟩ : ∃ acc0 : List (ByteArray × ByteArray), acc0 = [] := ⟨_, rfl⟩
    obtain ⟨no0, hno0⟩ : ∃ no0 : Option Addr, no0 = none := ⟨_, rfl⟩
    obtain ⟨nc0, hnc0⟩ : ∃ nc0 : Nat, nc0 = 0 := ⟨_, rfl⟩
    have hal : acc0.length ≤ 65537 := by rw [hacc0]; simp
    have hl00 : acc0.length = 0 := by rw [hacc0]; rfl
    replace HP : Hid (PS X U1 p s b c q1 (.slice fo nf fc) (.slice no0 acc0.length nc0)) := by rw [hl00, hno0, hnc0]; exact HP
    replace HA : Hid (LAt X U1 70 2 ncel acc0 no0 nc0) := by rw [hacc0, hno0, hnc0]; exact HA
    replace HR : Hid (R = bnd q1 ((endP s.data.toList).bind fun _ => Pr.pure (l, acc0))) := by rw [hacc0]; exact HR
    have Hl00 := hidP hl00
    clear hacc0 hno0 hnc0 hl00
    go_wp2_with (go_at_call 28; refine Hid.out ?_)
    unfold Hid
    have hq := HEn.out U1 q1 HP.out.ds (fun st _ => by omega)
    refine Calls.mono hq ?_
    intro e U9 hp
    obtain ⟨rfl, hk, hD⟩ := unit_post hp
    have HP9 := hidP (HP.out.call hk hD)
    have HU9b : Hid (b < U9.heap.size) := lt_of_heap HP9.out.rb
    have HA9 := hidP (HA.out.kpn (by decide) hk HLp.out)
    have hs3 : R = bp (bnd q1 (endP s.data.toList)) (fun _ => Pr.pure (l, acc0)) := HR.out.trans bnd_bp
    have HR9 := hidP hs3
    clear hs3
    have HY9 : Hid (∀ z, bnd q1 (endP s.data.toList) = .ok z → ∃ l st0, y0 = .ok (l, st0)) := fun z e => by have e1 : qs (bnd q1 (endP s.data.toList)) = .ok z.2 := (by rw [e]; rfl); obtain ⟨_, e2⟩ := qs_from e1; exact HY.out _ e2
    clear HP HA HR HY hq hp hk hD
    generalize bnd q1 (endP s.data.toList) = y9 at HP9 HR9 HY9
    rcases y9 with o | ⟨u9, a9, g9⟩
    · have HRo : Hid (R = .error o) := HR9.out
      obtain ⟨aa, vn, hAt, _⟩ := (show DD U9 p s o from HP9.out.ds)
      have i2 : U9.cell? ⟨p, 2, none⟩ = some (.int .i64 (o : Int)) := by simp [World.cell?, hAt]
      have h0o : (0 : Int) ≤ (o : Int) := by omega
      clear hAt HR9 HY9
      have u0 := frz HP9.out.rb 0
      have v0 : U9.cell? ⟨b, 0, none⟩ = some (.slice none 0 0) := by simp [World.cell?, HP9.out.rb]
      have u1 := frz HP9.out.rb 1
      have v1 : U9.cell? ⟨b, 1, none⟩ = some (.slice none 0 0) := by simp [World.cell?, HP9.out.rb]
      have npb : ¬ b = p := by have := HP9.out.lt; omega
      have nbp : ¬ p = b := by have := HP9.out.lt; omega
      go_wp2_with fail
      go_region
      (try go_wp2_with fail)
      have hPd := HP9.out.gr (gr_drewP (W := U9))
      have hb3 := put2_box (.slice none 0 0) (.slice none 0 0) hPd.rb
      have k3 := put2_keeps U9.drew b (.slice none 0 0) (.slice none 0 0)
      (try simp only [Exit.inBlock, Exit.then])
      exact bodyPost_ret (results_parse (z := .int .i64 8) (x := .int .i64 (o : Int)) rfl rfl rfl rfl hb3) rfl ⟨gr_of Hb.out hPd.lt HGX.out hPd.kp k3, .inl ⟨8, o, by decide, .inr (.inl ⟨Hs.out, o, HRo.out, rfl, rfl⟩), rfl⟩⟩
    have HRo : Hid (R = .ok ((l, acc0), (a9, g9))) := HR9.out
    obtain ⟨l0, st0, e0⟩ := HY9.out _ rfl
    have hrw := HRow.out l0 st0 e0
    rw [lOf_ok l0 st0 e0, ← Hl.out] at hrw
    obtain ⟨hnf, hfc, hrow⟩ := hrw
    have hrow9 := row_end hrow HP9.out.kp HV1.out.1 HV1.out.2
    subst hnf
    obtain ⟨aa, vo, vc, hAt, _, hgc, hpos⟩ := (show DA U9 p s a9 g9 from HP9.out.ds)
    have i2 : U9.cell? ⟨p, 2, none⟩ = some (.int .i64 (-1)) := by simp [World.cell?, hAt.box]
    have Hns : Hid (acc0.length ≤ big) := by show acc0.length ≤ 1000000000000; omega
    have hck := checkR_fault (cn := nc0) (cf := fc) (w := U9) hrow9 hfc (fun z h => h.2) (notes_of HA9.out Hns.out) U9 (Keeps.refl _ _)
    have HCk := hidP hck
    have HRw := hidP hrow9
    have Hfc := hidP hfc
    have HAt := hidP hAt
    have Hgc : Hid (g9.length ≤ s.size) := by show g9.length ≤ s.size; omega
    clear hck hrow9 hrow hfc hAt hgc hpos e0 HY9 HR9
    have s0 : U9.cell? ⟨c, 0, none⟩ = some (.slice fo l.length fc) := by simp [World.cell?, HP9.out.tb]
    have s1 : U9.cell? ⟨c, 1, none⟩ = some (.slice no0 acc0.length nc0) := by simp [World.cell?, HP9.out.tb]
    go_wp2_with (first | (go_at_call 29; refine Calls.mono HCk.out ?_; rintro e U10 ⟨er, wo, wn, wc, tt, rfl, hg10, hQ⟩; have HG10 := hidP hg10; have HQ10 := hidP hQ; clear hg10 hQ) | (with_reducible show wpList Tryz.prog _ _ (Oper.mk (some 74) _ _ _ _ _ :: _) _ _; refine Hid.out ?_))
    unfold Hid
    have hz1 := heap_alloc_new U10 (.cells #[.int .i64 er, .slice wo wn wc, .int .i64 tt] 46)
    have hz2 := gr_alloc U10 (.cells #[.int .i64 er, .slice wo wn wc, .int .i64 tt] 46)
    obtain ⟨K, hK⟩ : ∃ K, K = U10.heap.size := ⟨_, rfl⟩
    rw [← hK] at hz1 ⊢
    have HGY := hidP (HG10.out.trans hz2 fun _ _ h => h)
    have HKt := hidP hz1
    have HKl : Hid (U9.heap.size ≤ K) := by show _ ≤ K; rw [hK]; exact HG10.out.size
    obtain ⟨path, hpl, hF, hown⟩ := HQ10.out
    have HPa := hidP ((ints_of_own hown).gr hz2)
    have hF := fault_nodes hF
    clear hz1 hz2 hK hown HQ10 HG10 HCk s0 s1 i2
    generalize U10.alloc (.cells #[.int .i64 er, .slice wo wn wc, .int .i64 tt] 46) = Y at HGY HKt HPa ⊢
    have HPY := hidP (HP9.out.gr HGY.out)
    clear HP9
    have t0 : Y.cell? ⟨K, 0, none⟩ = some (.int .i64 er) := by simp [World.cell?, HKt.out]
    have t1 : Y.cell? ⟨K, 1, none⟩ = some (.slice wo wn wc) := by simp [World.cell?, HKt.out]
    have s0 : Y.cell? ⟨c, 0, none⟩ = some (.slice fo l.length fc) := by simp [World.cell?, HPY.out.tb]
    have s1 : Y.cell? ⟨c, 1, none⟩ = some (.slice no0 acc0.length nc0) := by simp [World.cell?, HPY.out.tb]
    have u0 := frz HPY.out.rb 0
    have v0 : Y.cell? ⟨b, 0, none⟩ = some (.slice none 0 0) := by simp [World.cell?, HPY.out.rb]
    have u1 := frz HPY.out.rb 1
    have v1 : Y.cell? ⟨b, 1, none⟩ = some (.slice none 0 0) := by simp [World.cell?, HPY.out.rb]
    have nbc : ¬ b = c := by have := HPY.out.lt; omega
    have ncb : ¬ c = b := by have := HPY.out.lt; omega
    rcases hF with ⟨hE, rfl, rfl, rfl⟩ | ⟨hE, hAll, rfl, rfl, rfl⟩ | ⟨hE, L, x, hpre, hAllL, hwr, rfl, rfl, rfl⟩
    · have HE := hidP hE
      obtain ⟨E1, hE1⟩ : ∃ z, z = (listsE l.length acc0).1 := ⟨_, rfl⟩
      rw [← hE1] at hE t0
      have He := hidP hE1
      have hne : (E1 == 0) = false := beq_eq_false_iff_ne.2 hE
      have hw0 : wn = 0 := by rw [← hpl]; rfl
      subst hw0
      clear hE hE1 hpl HPa
      have nKb : ¬ K = b := by have := HKl.out; have := HU9b.out; omega
      have nbK : ¬ b = K := fun e => nKb e.symm
      go_wp2_with fail
      go_region
      (try go_wp2_with fail)
      have hPd := HPY.out.gr (gr_drewP (W := Y))
      have hb3 := put2_box (.slice none 0 0) (.slice none 0 0) hPd.rb
      have k3 := put2_keeps Y.drew b (.slice none 0 0) (.slice none 0 0)
      (try simp only [Exit.inBlock, Exit.then])
      exact bodyPost_ret (results_parse (z := .int .i64 E1) (x := .int .i64 0) rfl rfl rfl rfl hb3) rfl ⟨gr_of Hb.out hPd.lt HGX.out hPd.kp k3, .inl ⟨E1, 0, by rw [He.out]; exact HE.out, .inr (.inr ⟨Hs.out, l, acc0, a9, g9, HRo.out, .inl ⟨HE.out, He.out, rfl⟩⟩), rfl⟩⟩
    · have HE := hidP hE
      have HAll := hidP hAll
      clear hE hAll hpl HPa
      go_wp2_with fail
      have hb3 := put2_box (.slice fo l.length fc) (.slice no0 acc0.length nc0) HPY.out.rb
      have k3 := put2_keeps Y b (.slice fo l.length fc) (.slice no0 acc0.length nc0)
      (try simp only [Exit.inBlock, Exit.then])
      refine bodyPost_ret (results_parse (z := .int .i64 0) (x := .int .i64 0) rfl rfl rfl rfl hb3) rfl ⟨gr_of Hb.out HPY.out.lt HGX.out HPY.out.kp k3, .inr ⟨l, acc0, a9, g9, fo, fc, no0, nc0, Hs.out, HRo.out, HE.out, HAll.out, Hns.out, rfl, Hfc.out, ?_, ?_⟩⟩
      · exact ((HRw.out.kept fun z hz => HGY.out.block z hz.2 id).kept fun z hz => k3.block z (Nat.lt_of_lt_of_le hz.2 HGY.out.size) (by have := hz.1; have := HV1b.out; omega)).mono fun z hz => ⟨by have := hz.1; have := HV1b.out; have := Hb.out; omega, by have := hz.2; have := HGY.out.size; have := k3.size; omega⟩
      exact ((HA9.out.blk HGY.out fun z h hz hS => hS).blk k3 fun z h hz hS => by have := HXb.out; omega).low HGX.out.size
    obtain ⟨hway, hplc⟩ := way_of hpre
    have hnm := wh_names (HRes.out.symm.trans HRo.out)
    have HW3 : Hid (L ++ [x] <+: nodes (D0 + 1) l [] false ∧ AllR L ∧ wrongE x L.length (tkL L) ≠ 0 ∧ (listsE l.length acc0).1 = 0) := ⟨hpre, hAllL, hwr, hE⟩
    have hwl := way_len _ _ _ hway
    have hlen : x.path.length ≤ 65538 := hwl
    have hpne : x.path ≠ [] := by intro e; rw [e] at hway; exact hway
    have hwn : (wn == 0) = false := beq_eq_false_iff_ne.2 fun e => hpne (List.eq_nil_of_length_eq_zero (by omega))
    have hwnI : ((wn : Int) == 0) = false := beq_eq_false_iff_ne.2 fun e => hpne (List.eq_nil_of_length_eq_zero (by omega))
    have gYd : Gr U9 Y.drew := HGY.out.trans gr_drewP fun _ _ h => h
    have hcall := place30 (fun z => V1.heap.size ≤ z ∧ z < U9.heap.size) (D0 + 1) l x.path g9 fo no0 vo wo fc acc0.length nc0 vc wn wc Y.drew (HRw.out.kept fun z hz => gYd.block z hz.2 id) (fun z hz => Nat.lt_of_lt_of_le hz.2 gYd.size) Hfc.out (by rw [← hnm]; have := Hgc.out; have := Hs.out; omega) hway hpl.symm (HPa.out.gr gr_drewP) ((ints_of_own HAt.out.own).gr gYd) (Nat.le_of_eq hnm.symm) (by omega) (by have := Hgc.out; have := Hs.out; omega)
    rw [hplc] at hcall
    obtain ⟨pv, hpv⟩ : ∃ z, z = g9.getD L.length 0 := ⟨_, rfl⟩
    rw [← hpv] at hcall
    have HCp := hidP hcall
    have Hpv := hidP hpv
    obtain ⟨E1, hE1⟩ : ∃ z, z = wrongE x L.length (tkL L) := ⟨_, rfl⟩
    rw [← hE1] at t0
    have He := hidP hE1
    have hne : (E1 == 0) = false := beq_eq_false_iff_ne.2 (by rw [hE1]; exact hwr)
    have p3 : Y.cell? ⟨p, 3, none⟩ = some (.slice vo g9.length vc) := by have := (HGY.out.block p (lt_of_heap HAt.out.box) id).trans HAt.out.box; simp [World.cell?, this]
    have HKe : Hid (K < Y.heap.size ∧ K ≠ b) := ⟨lt_of_heap HKt.out, by have := HKl.out; have := HU9b.out; omega⟩
    clear hway hplc hwl hpne hpre hAllL hwr hE hcall hpv hE1 gYd hnm hpl hlen
    have HSC : Hid (∀ w', Keeps Y w' (fun z => z = b) → w'.cell? ⟨K, 0, none⟩ = some (.int .i64 E1) ∧ w'.cell? ⟨K, 1, none⟩ = some (.slice wo wn wc) ∧ w'.cell? ⟨c, 0, none⟩ = some (.slice fo l.length fc) ∧ w'.cell? ⟨c, 1, none⟩ = some (.slice no0 acc0.length nc0) ∧ w'.cell? ⟨p, 3, none⟩ = some (.slice vo g9.length vc)) := fun w' k => by
      have hl := HPY.out.lt
      have e1 := k.block K HKe.out.1 HKe.out.2
      have e2 := k.block c (lt_of_heap HPY.out.tb) (by omega)
      have e3 := k.block p (HPY.out.ds.lt) (by omega)
      exact ⟨(World.cell?_of_block (w := Y) e1).trans t0, (World.cell?_of_block (w := Y) e1).trans t1, (World.cell?_of_block (w := Y) e2).trans s0, (World.cell?_of_block (w := Y) e2).trans s1, (World.cell?_of_block (w := Y) e3).trans p3⟩
    have hc0 := hne
    go_wp2_with fail
    refine wp_region_held_drew (S := fun w' => w'.cell? ⟨K, 0, none⟩ = some (.int .i64 E1) ∧ w'.cell? ⟨K, 1, none⟩ = some (.slice wo wn wc) ∧ w'.cell? ⟨c, 0, none⟩ = some (.slice fo l.length fc) ∧ w'.cell? ⟨c, 1, none⟩ = some (.slice no0 acc0.length nc0) ∧ w'.cell? ⟨p, 3, none⟩ = some (.slice vo g9.length vc)) (by kernel_rfl) (HSC.out Y.drew (gr_drewP.mono fun _ _ h => h.elim)) (fun hHeld => ?_)
    refine wpAnyH_take (i := 0) (oi := { dst := some 85, op := Op.build 27 #[], type := 27, pos := "text.go:498", after := #[], guard := none }) (v := ?v0z11) rfl (by kernel_rfl) (by kernel_rfl) (by kernel_rfl) (fun _ _ _ h => h) (Or.inl ⟨by rfl, ?y0z11⟩) (by assumption) ?r0z11
    case y0z11 => (intro w hSw; obtain ⟨q0, q1, q2, q3, q4⟩ := hSw; go_simp; (try with_reducible rfl))
    try simp only [Act.put]; try simp only [lA]; try simp only [lB]; try simp only [lC]
    refine wpAnyH_take (i := 1) (oi := { dst := some 86, op := Op.fieldAddr 46 (Operand.tmp 8) 0, type := 0, pos := "text.go:498", after := #[{ on := 11, ground := Ground.gcOnly Departure.lateStores }], guard := none }) (v := ?v1z12) rfl (by kernel_rfl) (by kernel_rfl) (by kernel_rfl) (fun _ _ _ h => h) (Or.inl ⟨by rfl, ?y1z12⟩) (by assumption) ?r1z12
    case y1z12 => (intro w hSw; obtain ⟨q0, q1, q2, q3, q4⟩ := hSw; go_simp; (try with_reducible rfl))
    try simp only [Act.put]; try simp only [lA]; try simp only [lB]; try simp only [lC]
    refine wpAnyH_take (i := 2) (oi := { dst := some 87, op := Op.load 28 (Operand.tmp 86), type := 28, pos := "text.go:498", after := #[{ on := 1, ground := Ground.data }, { on := 11, ground := Ground.gcOnly Departure.lateStores }], guard := none }) (v := ?v2z13) rfl (by kernel_rfl) (by kernel_rfl) (by kernel_rfl) (fun _ _ _ h => h) (Or.inl ⟨by rfl, ?y2z13⟩) (by assumption) ?r2z13
    case y2z13 => (intro w hSw; obtain ⟨q0, q1, q2, q3, q4⟩ := hSw; go_simp; (try with_reducible rfl))
    try simp only [Act.put]; try simp only [lA]; try simp only [lB]; try simp only [lC]
    refine wpAnyH_take (i := 3) (oi := { dst := some 88, op := Op.load 27 (Operand.tmp 6), type := 27, pos := "text.go:498", after := #[], guard := none }) (v := ?v3z14) rfl (by kernel_rfl) (by kernel_rfl) (by kernel_rfl) (fun _ _ _ h => h) (Or.inl ⟨by rfl, ?y3z14⟩) (by assumption) ?r3z14
    case y3z14 => (intro w hSw; obtain ⟨q0, q1, q2, q3, q4⟩ := hSw; go_simp; (try with_reducible rfl))
    try simp only [Act.put]; try simp only [lA]; try simp only [lB]; try simp only [lC]
    refine wpAnyH_take (i := 4) (oi := { dst := some 89, op := Op.move (Operand.tmp 5), type := 60, pos := "text.go:498", after := #[], guard := none }) (v := ?v4z15) rfl (by kernel_rfl) (by kernel_rfl) (by kernel_rfl) (fun _ _ _ h => h) (Or.inl ⟨by rfl, ?y4z15⟩) (by assumption) ?r4z15
    case y4z15 => (intro w hSw; obtain ⟨q0, q1, q2, q3, q4⟩ := hSw; go_simp; (try with_reducible rfl))
    try simp only [Act.put]; try simp only [lA]; try simp only [lB]; try simp only [lC]
    refine wpAnyH_take (i := 5) (oi := { dst := some 90, op := Op.nilCheck (Operand.tmp 89), type := 0, pos := "text.go:498", after := #[{ on := 4, ground := Ground.data }], guard := none }) (v := ?v5z16) rfl (by kernel_rfl) (by kernel_rfl) (by kernel_rfl) (fun _ _ _ h => h) (Or.inl ⟨by rfl, ?y5z16⟩) (by assumption) ?r5z16
    case y5z16 => (intro w hSw; obtain ⟨q0, q1, q2, q3, q4⟩ := hSw; go_simp; (try with_reducible rfl))
    try simp only [Act.put]; try simp only [lA]; try simp only [lB]; try simp only [lC]
    refine wpAnyH_take (i := 6) (oi := { dst := some 91, op := Op.fieldAddr 62 (Operand.tmp 90) 3, type := 0, pos := "text.go:498", after := #[{ on := 5, ground := Ground.data }], guard := none }) (v := ?v6z17) rfl (by kernel_rfl) (by kernel_rfl) (by kernel_rfl) (fun _ _ _ h => h) (Or.inl ⟨by rfl, ?y6z17⟩) (by assumption) ?r6z17
    case y6z17 => (intro w hSw; obtain ⟨q0, q1, q2, q3, q4⟩ := hSw; go_simp; (try with_reducible rfl))
    try simp only [Act.put]; try simp only [lA]; try simp only [lB]; try simp only [lC]
    refine wpAnyH_take (i := 7) (oi := { dst := some 92, op := Op.load 44 (Operand.tmp 91), type := 44, pos := "text.go:498", after := #[{ on := 6, ground := Ground.data }], guard := none }) (v := ?v7z18) rfl (by kernel_rfl) (by kernel_rfl) (by kernel_rfl) (fun _ _ _ h => h) (Or.inl ⟨by rfl, ?y7z18⟩) (by assumption) ?r7z18
    case y7z18 => (intro w hSw; obtain ⟨q0, q1, q2, q3, q4⟩ := hSw; go_simp; (try with_reducible rfl))
    try simp only [Act.put]; try simp only [lA]; try simp only [lB]; try simp only [lC]
    refine wpAnyH_take (i := 8) (oi := { dst := some 93, op := Op.fieldAddr 46 (Operand.tmp 8) 1, type := 0, pos := "text.go:498", after := #[], guard := none }) (v := ?v8z19) rfl (by kernel_rfl) (by kernel_rfl) (by kernel_rfl) (fun _ _ _ h => h) (Or.inl ⟨by rfl, ?y8z19⟩) (by assumption) ?r8z19
    case y8z19 => (intro w hSw; obtain ⟨q0, q1, q2, q3, q4⟩ := hSw; go_simp; (try with_reducible rfl))
    try simp only [Act.put]; try simp only [lA]; try simp only [lB]; try simp only [lC]
    refine wpAnyH_take (i := 9) (oi := { dst := some 94, op := Op.load 44 (Operand.tmp 93), type := 44, pos := "text.go:498", after := #[{ on := 8, ground := Ground.data }], guard := none }) (v := ?v9z110) rfl (by kernel_rfl) (by kernel_rfl) (by kernel_rfl) (fun _ _ _ h => h) (Or.inl ⟨by rfl, ?y9z110⟩) (by assumption) ?r9z110
    case y9z110 => (intro w hSw; obtain ⟨q0, q1, q2, q3, q4⟩ := hSw; go_simp; (try with_reducible rfl))
    try simp only [Act.put]; try simp only [lA]; try simp only [lB]; try simp only [lC]
    refine rd1 10 rfl fun Kc hK => ?_
    go_simp
    go_at_call 30
    refine Calls.mono HCp.out ?_
    rintro e' Y2 ⟨hg2, rfl⟩
    have kY2 : Keeps Y Y2 (fun z => z = b) := ((gr_drewP (W := Y)).trans hg2 fun _ _ h => h).mono fun _ _ h => h.elim
    have HPY2 := hidP (HPY.out.gr ((gr_drewP (W := Y)).trans hg2 fun _ _ h => h))
    have HkY2 := hidP kY2
    clear hg2 kY2
    go_wp2_with fail
    refine hK.out _ _ (HSC.out _ HkY2.out) (fun hHeld => ?_)
    clear hK Kc
    try simp only [Act.put]; try simp only [lA]; try simp only [lB]; try simp only [lC]
    have u0' := frz HPY2.out.rb 0
    have v0' : Y2.cell? ⟨b, 0, none⟩ = some (.slice none 0 0) := by simp [World.cell?, HPY2.out.rb]
    have u1' := frz HPY2.out.rb 1
    have v1' : Y2.cell? ⟨b, 1, none⟩ = some (.slice none 0 0) := by simp [World.cell?, HPY2.out.rb]
    have k3 := put2_keeps Y2 b (.slice none 0 0) (.slice none 0 0)
    have HK3 := hidP k3
    have HkY3 := hidP (HkY2.out.trans k3 fun _ _ h => h)
    clear k3
    refine rd1 11 rfl fun Kc hK => ?_
    go_simp
    refine hK.out _ _ (HSC.out _ HkY3.out) (fun hHeld => ?_)
    clear hK Kc
    try simp only [Act.put]; try simp only [lA]; try simp only [lB]; try simp only [lC]
    refine wpAnyH_take (i := 12) (oi := { dst := some 3, op := Op.assign (Operand.tmp 87), type := 3, pos := "text.go:498", after := #[{ on := 2, ground := Ground.data }, { on := 11, ground := Ground.chain }, { on := 0, ground := Ground.phase }, { on := 1, ground := Ground.phase }, { on := 2, ground := Ground.phase }, { on := 3, ground := Ground.textOnly Departure.lateStores }, { on := 4, ground := Ground.textOnly Departure.lateStores }, { on := 5, ground := Ground.textOnly Departure.lateStores }, { on := 6, ground := Ground.textOnly Departure.lateStores }, { on := 7, ground := Ground.textOnly Departure.lateStores }, { on := 8, ground := Ground.textOnly Departure.lateStores }, { on := 9, ground := Ground.textOnly Departure.lateStores }, { on := 10, ground := Ground.textOnly Departure.lateStoresUnsure }, { on := 11, ground := Ground.phase }], guard := none }) (v := ?v12y11) rfl (by kernel_rfl) (by kernel_rfl) (by kernel_rfl) (fun _ _ _ h => h) (Or.inl ⟨by rfl, ?y12y11⟩) (by assumption) ?r12y11
    case y12y11 => (intro w hSw; obtain ⟨q0, q1, q2, q3, q4⟩ := hSw; go_simp; (try with_reducible rfl))
    try simp only [Act.put]; try simp only [lA]; try simp only [lB]; try simp only [lC]
    refine wpAnyH_take (i := 13) (oi := { dst := some 4, op := Op.assign (Operand.tmp 95), type := 3, pos := "text.go:498", after := #[{ on := 10, ground := Ground.data }, { on := 12, ground := Ground.chain }, { on := 0, ground := Ground.phase }, { on := 1, ground := Ground.phase }, { on := 2, ground := Ground.phase }, { on := 3, ground := Ground.phase }, { on := 4, ground := Ground.phase }, { on := 5, ground := Ground.phase }, { on := 6, ground := Ground.phase }, { on := 7, ground := Ground.phase }, { on := 8, ground := Ground.phase }, { on := 9, ground := Ground.phase }, { on := 10, ground := Ground.phase }, { on := 11, ground := Ground.phase }, { on := 12, ground := Ground.phase }], guard := none }) (v := ?v13y12) rfl (by kernel_rfl) (by kernel_rfl) (by kernel_rfl) (fun _ _ _ h => h) (Or.inl ⟨by rfl, ?y13y12⟩) (by assumption) ?r13y12
    case y13y12 => (intro w hSw; obtain ⟨q0, q1, q2, q3, q4⟩ := hSw; go_simp; (try with_reducible rfl))
    try simp only [Act.put]; try simp only [lA]; try simp only [lB]; try simp only [lC]
    refine wpAnyH_done (by kernel_rfl) ?_ _
    (try refine NoPanic.normal ?_)
    clear hHeld
    (try go_wp2_with fail)
    have hb3 := put2_box (.slice none 0 0) (.slice none 0 0) HPY2.out.rb
    (try simp only [Exit.inBlock, Exit.then])
    exact bodyPost_ret (results_parse (z := .int .i64 E1) (x := .int .i64 (pv : Int)) rfl rfl rfl rfl hb3) rfl ⟨gr_of Hb.out HPY2.out.lt HGX.out HPY2.out.kp HK3.out, .inl ⟨E1, (pv : Int), by rw [He.out]; exact HW3.out.2.2.1, .inr (.inr ⟨Hs.out, l, acc0, a9, g9, HRo.out, .inr ⟨HW3.out.2.2.2, L, x, HW3.out.1, HW3.out.2.1, HW3.out.2.2.1, He.out, by rw [Hpv.out]⟩⟩), rfl⟩⟩
  | true =>
    obtain ⟨acc0, hacc0⟩ : ∃ acc0 : List (ByteArray × ByteArray), acc0 = [] := ⟨_, rfl⟩
    obtain ⟨no0, hno0⟩ : ∃ no0 : Option Addr, no0 = none := ⟨_, rfl⟩
    obtain ⟨nc0, hnc0⟩ : ∃ nc0 : Nat, nc0 = 0 := ⟨_, rfl⟩
    have hal : acc0.length ≤ 65537 := by rw [hacc0]; simp
    have hl00 : acc0.length = 0 := by rw [hacc0]; rfl
    replace HP : Hid (PS X U1 p s b c q1 (.slice fo nf fc) (.slice no0 acc0.length nc0)) := by rw [hl00, hno0, hnc0]; exact HP
    replace HA : Hid (LAt X U1 70 2 ncel acc0 no0 nc0) := by rw [hacc0, hno0, hnc0]; exact HA
    replace HR : Hid (R = bnd q1 ((quotedP s.data.toList).bind fun k => (quotedP s.data.toList).bind fun t => G2 (α := Unit) s.data.toList l D0 (acc0 ++ [(k, t)]))) := by rw [hacc0]; exact HR
    have Hl00 := hidP hl00
    clear hacc0 hno0 hnc0 hl00
    go_wp2_with fail
    refine wp_mid (R := fun a e a' w' => e = .normal ∧ ∃ (v0 v1 v2 v3 v4 v5 v6 v7 v8 v9 : Value) (k0 t0 : ByteArray) (no' : Option Addr) (nc' : Nat), a' = ((((((((((a.put (some 38) v0).put (some 39) v1).put (some 40) v2).put (some 41) v3).put (some 42) v4).put (some 43) v5).put (some 44) v6).put (some 45) v7).put (some 46) v8).put (some 47) v9) ∧ Hid (PS X w' p s b c (qs (bnd (qs (bnd q1 (quotedP s.data.toList))) (quotedP s.data.toList))) (.slice fo nf fc) (.slice no' (acc0 ++ [(k0, t0)]).length nc')) ∧ Hid (LAt X w' 70 2 ncel (acc0 ++ [(k0, t0)]) no' nc') ∧ Hid ((∀ y st, bnd q1 (quotedP s.data.toList) = .ok (y, st) → y = k0) ∧ (∀ y st, bnd (qs (bnd q1 (quotedP s.data.toList))) (quotedP s.data.toList) = .ok (y, st) → y = t0))) ?_ ?_
    · have HDd := hidP (HP.out.ds.gr (gr_drewP (W := U1)))
      have HC : Hid (∀ w, KpN U1 w p → w.cell? ⟨c, 1, none⟩ = some (.slice no0 acc0.length nc0)) := fun w k => by have := (k.blk (lt_of_heap HP.out.tb) HP.out.cok.1 HP.out.cok.2).trans HP.out.tb; simp [World.cell?, this]
      refine wp_region_held_drew (S := fun w' => True) (by kernel_rfl) (trivial) (fun hHeld => ?_)
      refine wpAnyH_take (i := 0) (v := ?v0r2a1) rfl (by kernel_rfl) (by kernel_rfl) (by kernel_rfl) (fun _ _ _ h => by cases h.1) (Or.inl ⟨by rfl, ?y0r2a1⟩) (by assumption) ?r0r2a1
      case y0r2a1 => (intro w hSw; go_simp; (try with_reducible rfl))
      try simp only [Act.put]; try simp only [lA]; try simp only [lB]; try simp only [lC]
      refine wpAnyH_take (i := 2) (v := ?v2r2a2) rfl (by kernel_rfl) (by kernel_rfl) (by kernel_rfl) (fun _ _ _ h => by cases h.1) (Or.inl ⟨by rfl, ?y2r2a2⟩) (by assumption) ?r2r2a2
      case y2r2a2 => (intro w hSw; go_simp; (try with_reducible rfl))
      try simp only [Act.put]; try simp only [lA]; try simp only [lB]; try simp only [lC]
      refine wpAnyH_take (i := 4) (v := ?v4r2a3) rfl (by kernel_rfl) (by kernel_rfl) (by kernel_rfl) (fun _ _ _ h => by cases h.1) (Or.inl ⟨by rfl, ?y4r2a3⟩) (by assumption) ?r4r2a3
      case y4r2a3 => (intro w hSw; go_simp; (try with_reducible rfl))
      try simp only [Act.put]; try simp only [lA]; try simp only [lB]; try simp only [lC]
      refine rd2 1 3 rfl rfl (fun Kc hK => ?_) fun Kc hK => ?_
      · have c1 := HC.out U1.drew (Gr.n p gr_drewP)
        go_simp
        clear c1
        refine hK.out _ _ trivial (fun hHeld => ?_)
        clear hK Kc
        try simp only [Act.put]; try simp only [lA]; try simp only [lB]; try simp only [lC]
        refine rd1 3 rfl fun Kc hK => ?_
        go_simp
        go_at_call 27
        refine Calls.mono (HTx.out U1.drew q1 HDd.out (fun st _ => by omega)) ?_
        intro e' Ua hp
        obtain ⟨k0, rfl, hk, hD, hv⟩ := str_post hp
        have HK2 : Hid (KpN U1 Ua p) := KpN.tr (Gr.n p gr_drewP) hk
        have HD2 := hidP hD
        have Hv2 := hidP hv
        clear hp hk hD hv
        go_wp2_with fail
        refine hK.out _ _ trivial (fun hHeld => ?_)
        clear hK Kc
        try simp only [Act.put]; try simp only [lA]; try simp only [lB]; try simp only [lC]
        refine rd1 5 rfl fun Kc hK => ?_
        go_simp
        go_at_call 27
        refine Calls.mono (HTx.out Ua (qs (bnd q1 (quotedP s.data.toList))) HD2.out (fun st _ => by omega)) ?_
        intro e' Ub hp
        obtain ⟨t0, rfl, hk, hD, hv⟩ := str_post hp
        have HK3 : Hid (KpN U1 Ub p) := HK2.out.tr hk
        have HD3 := hidP hD
        have Hv3 := hidP hv
        clear hp hk hD hv
        go_wp2_with fail
        refine hK.out _ _ trivial (fun hHeld => ?_)
        clear hK Kc
        try simp only [Act.put]; try simp only [lA]; try simp only [lB]; try simp only [lC]
        refine wpAnyH_take (i := 6) (v := ?v6r2b11) rfl (by kernel_rfl) (by kernel_rfl) (by kernel_rfl) (fun _ _ _ h => by cases h.1) (Or.inl ⟨by rfl, ?y6r2b11⟩) (by assumption) ?r6r2b11
        case y6r2b11 => (intro w hSw; go_simp; (try with_reducible rfl))
        try simp only [Act.put]; try simp only [lA]; try simp only [lB]; try simp only [lC]
        refine rd1 7 rfl fun Kc hK => ?_
        go_simp
        refine hK.out _ _ trivial (fun hHeld => ?_)
        clear hK Kc
        try simp only [Act.put]; try simp only [lA]; try simp only [lB]; try simp only [lC]
        refine rd1 8 rfl fun Kc hK => ?_
        have HP3 := hidP (HP.out.call HK3.out HD3.out)
        have HA3 := hidP (HA.out.kpn (by decide) HK3.out HLp.out)
        refine step_append_anyN _ rfl (.tmp 39) (.tmp 45) 25 25 rfl 70 (.agg #[.string ⟨#[]⟩, .string ⟨#[]⟩]) 2 32 Tryz.underlying25 info59 rfl _ acc0.length (acc0.flatMap ncel) rfl (HA3.out.own.alloc _) _ 1 [.string k0, .string t0] rfl (src59 Ub k0 t0) (by (try simp); omega) (by (try simp); omega) ?_
        intro v' w1 hown hgrow hblk
        obtain ⟨no', nc', rfl⟩ := own_formK hown
        obtain ⟨q1, z1, hP4, hA4⟩ := note_push HP3.out HA3.out hown hgrow hblk
        have HP4 := hidP hP4
        have HA4 := hidP hA4
        clear hown hgrow hblk hP4 hA4
        refine hK.out _ _ trivial (fun hHeld => ?_)
        clear hK Kc
        try simp only [Act.put]; try simp only [lA]; try simp only [lB]; try simp only [lC]
        refine wpAnyH_take (i := 9) (v := ?v9r2b21) rfl (by kernel_rfl) (by kernel_rfl) (by kernel_rfl) (fun _ _ _ h => by cases h.1) (Or.inl ⟨by rfl, ?y9r2b21⟩) (by assumption) ?r9r2b21
        case y9r2b21 => (intro w hSw; go_simp; (try with_reducible rfl))
        try simp only [Act.put]; try simp only [lA]; try simp only [lB]; try simp only [lC]
        refine rd1 10 rfl fun Kc hK => ?_
        go_simp
        refine hK.out _ _ trivial (fun hHeld => ?_)
        clear hK Kc
        try simp only [Act.put]; try simp only [lA]; try simp only [lB]; try simp only [lC]
        refine wpAnyH_done (by kernel_rfl) ?_ _
        exact ⟨rfl, _, _, _, _, _, _, _, _, _, _, k0, t0, no', nc', rfl, HP4.out, HA4.out, Hv2.out, Hv3.out⟩
      go_simp
      go_at_call 27
      refine Calls.mono (HTx.out U1.drew q1 HDd.out (fun st _ => by omega)) ?_
      intro e' Ua hp
      obtain ⟨k0, rfl, hk, hD, hv⟩ := str_post hp
      have HK2 : Hid (KpN U1 Ua p) := KpN.tr (Gr.n p gr_drewP) hk
      have HD2 := hidP hD
      have Hv2 := hidP hv
      clear hp hk hD hv
      go_wp2_with fail
      refine hK.out _ _ trivial (fun hHeld => ?_)
      clear hK Kc
      try simp only [Act.put]; try simp only [lA]; try simp only [lB]; try simp only [lC]
      refine rd2 1 5 rfl rfl (fun Kc hK => ?_) fun Kc hK => ?_
      · have c1 := HC.out Ua (HK2.out)
        go_simp
        clear c1
        refine hK.out _ _ trivial (fun hHeld => ?_)
        clear hK Kc
        try simp only [Act.put]; try simp only [lA]; try simp only [lB]; try simp only [lC]
        refine rd1 5 rfl fun Kc hK => ?_
        go_simp
        go_at_call 27
        refine Calls.mono (HTx.out Ua (qs (bnd q1 (quotedP s.data.toList))) HD2.out (fun st _ => by omega)) ?_
        intro e' Ub hp
        obtain ⟨t0, rfl, hk, hD, hv⟩ := str_post hp
        have HK3 : Hid (KpN U1 Ub p) := HK2.out.tr hk
        have HD3 := hidP hD
        have Hv3 := hidP hv
        clear hp hk hD hv
        go_wp2_with fail
        refine hK.out _ _ trivial (fun hHeld => ?_)
        clear hK Kc
        try simp only [Act.put]; try simp only [lA]; try simp only [lB]; try simp only [lC]
        refine wpAnyH_take (i := 6) (v := ?v6r2b31) rfl (by kernel_rfl) (by kernel_rfl) (by kernel_rfl) (fun _ _ _ h => by cases h.1) (Or.inl ⟨by rfl, ?y6r2b31⟩) (by assumption) ?r6r2b31
        case y6r2b31 => (intro w hSw; go_simp; (try with_reducible rfl))
        try simp only [Act.put]; try simp only [lA]; try simp only [lB]; try simp only [lC]
        refine rd1 7 rfl fun Kc hK => ?_
        go_simp
        refine hK.out _ _ trivial (fun hHeld => ?_)
        clear hK Kc
        try simp only [Act.put]; try simp only [lA]; try simp only [lB]; try simp only [lC]
        refine rd1 8 rfl fun Kc hK => ?_
        have HP3 := hidP (HP.out.call HK3.out HD3.out)
        have HA3 := hidP (HA.out.kpn (by decide) HK3.out HLp.out)
        refine step_append_anyN _ rfl (.tmp 39) (.tmp 45) 25 25 rfl 70 (.agg #[.string ⟨#[]⟩, .string ⟨#[]⟩]) 2 32 Tryz.underlying25 info59 rfl _ acc0.length (acc0.flatMap ncel) rfl (HA3.out.own.alloc _) _ 1 [.string k0, .string t0] rfl (src59 Ub k0 t0) (by (try simp); omega) (by (try simp); omega) ?_
        intro v' w1 hown hgrow hblk
        obtain ⟨no', nc', rfl⟩ := own_formK hown
        obtain ⟨q1, z1, hP4, hA4⟩ := note_push HP3.out HA3.out hown hgrow hblk
        have HP4 := hidP hP4
        have HA4 := hidP hA4
        clear hown hgrow hblk hP4 hA4
        refine hK.out _ _ trivial (fun hHeld => ?_)
        clear hK Kc
        try simp only [Act.put]; try simp only [lA]; try simp only [lB]; try simp only [lC]
        refine wpAnyH_take (i := 9) (v := ?v9r2b41) rfl (by kernel_rfl) (by kernel_rfl) (by kernel_rfl) (fun _ _ _ h => by cases h.1) (Or.inl ⟨by rfl, ?y9r2b41⟩) (by assumption) ?r9r2b41
        case y9r2b41 => (intro w hSw; go_simp; (try with_reducible rfl))
        try simp only [Act.put]; try simp only [lA]; try simp only [lB]; try simp only [lC]
        refine rd1 10 rfl fun Kc hK => ?_
        go_simp
        refine hK.out _ _ trivial (fun hHeld => ?_)
        clear hK Kc
        try simp only [Act.put]; try simp only [lA]; try simp only [lB]; try simp only [lC]
        refine wpAnyH_done (by kernel_rfl) ?_ _
        exact ⟨rfl, _, _, _, _, _, _, _, _, _, _, k0, t0, no', nc', rfl, HP4.out, HA4.out, Hv2.out, Hv3.out⟩
      go_simp
      go_at_call 27
      refine Calls.mono (HTx.out Ua (qs (bnd q1 (quotedP s.data.toList))) HD2.out (fun st _ => by omega)) ?_
      intro e' Ub hp
      obtain ⟨t0, rfl, hk, hD, hv⟩ := str_post hp
      have HK3 : Hid (KpN U1 Ub p) := HK2.out.tr hk
      have HD3 := hidP hD
      have Hv3 := hidP hv
      clear hp hk hD hv
      go_wp2_with fail
      refine hK.out _ _ trivial (fun hHeld => ?_)
      clear hK Kc
      try simp only [Act.put]; try simp only [lA]; try simp only [lB]; try simp only [lC]
      refine wpAnyH_take (i := 6) (v := ?v6r2b71) rfl (by kernel_rfl) (by kernel_rfl) (by kernel_rfl) (fun _ _ _ h => by cases h.1) (Or.inl ⟨by rfl, ?y6r2b71⟩) (by assumption) ?r6r2b71
      case y6r2b71 => (intro w hSw; go_simp; (try with_reducible rfl))
      try simp only [Act.put]; try simp only [lA]; try simp only [lB]; try simp only [lC]
      refine rd2 1 7 rfl rfl (fun Kc hK => ?_) fun Kc hK => ?_
      · have c1 := HC.out Ub (HK3.out)
        go_simp
        clear c1
        refine hK.out _ _ trivial (fun hHeld => ?_)
        clear hK Kc
        try simp only [Act.put]; try simp only [lA]; try simp only [lB]; try simp only [lC]
        refine rd1 7 rfl fun Kc hK => ?_
        go_simp
        refine hK.out _ _ trivial (fun hHeld => ?_)
        clear hK Kc
        try simp only [Act.put]; try simp only [lA]; try simp only [lB]; try simp only [lC]
        refine rd1 8 rfl fun Kc hK => ?_
        have HP3 := hidP (HP.out.call HK3.out HD3.out)
        have HA3 := hidP (HA.out.kpn (by decide) HK3.out HLp.out)
        refine step_append_anyN _ rfl (.tmp 39) (.tmp 45) 25 25 rfl 70 (.agg #[.string ⟨#[]⟩, .string ⟨#[]⟩]) 2 32 Tryz.underlying25 info59 rfl _ acc0.length (acc0.flatMap ncel) rfl (HA3.out.own.alloc _) _ 1 [.string k0, .string t0] rfl (src59 Ub k0 t0) (by (try simp); omega) (by (try simp); omega) ?_
        intro v' w1 hown hgrow hblk
        obtain ⟨no', nc', rfl⟩ := own_formK hown
        obtain ⟨q1, z1, hP4, hA4⟩ := note_push HP3.out HA3.out hown hgrow hblk
        have HP4 := hidP hP4
        have HA4 := hidP hA4
        clear hown hgrow hblk hP4 hA4
        refine hK.out _ _ trivial (fun hHeld => ?_)
        clear hK Kc
        try simp only [Act.put]; try simp only [lA]; try simp only [lB]; try simp only [lC]
        refine wpAnyH_take (i := 9) (v := ?v9r2b51) rfl (by kernel_rfl) (by kernel_rfl) (by kernel_rfl) (fun _ _ _ h => by cases h.1) (Or.inl ⟨by rfl, ?y9r2b51⟩) (by assumption) ?r9r2b51
        case y9r2b51 => (intro w hSw; go_simp; (try with_reducible rfl))
        try simp only [Act.put]; try simp only [lA]; try simp only [lB]; try simp only [lC]
        refine rd1 10 rfl fun Kc hK => ?_
        go_simp
        refine hK.out _ _ trivial (fun hHeld => ?_)
        clear hK Kc
        try simp only [Act.put]; try simp only [lA]; try simp only [lB]; try simp only [lC]
        refine wpAnyH_done (by kernel_rfl) ?_ _
        exact ⟨rfl, _, _, _, _, _, _, _, _, _, _, k0, t0, no', nc', rfl, HP4.out, HA4.out, Hv2.out, Hv3.out⟩
      go_simp
      refine hK.out _ _ trivial (fun hHeld => ?_)
      clear hK Kc
      try simp only [Act.put]; try simp only [lA]; try simp only [lB]; try simp only [lC]
      refine rd1 1 rfl fun Kc hK => ?_
      have c1 := HC.out _ (HK3.out.tr (Gr.n p (gr_alloc Ub (.cells #[.string k0, .string t0] 70))))
      go_simp
      clear c1
      refine hK.out _ _ trivial (fun hHeld => ?_)
      clear hK Kc
      try simp only [Act.put]; try simp only [lA]; try simp only [lB]; try simp only [lC]
      refine rd1 8 rfl fun Kc hK => ?_
      have HP3 := hidP (HP.out.call HK3.out HD3.out)
      have HA3 := hidP (HA.out.kpn (by decide) HK3.out HLp.out)
      refine step_append_anyN _ rfl (.tmp 39) (.tmp 45) 25 25 rfl 70 (.agg #[.string ⟨#[]⟩, .string ⟨#[]⟩]) 2 32 Tryz.underlying25 info59 rfl _ acc0.length (acc0.flatMap ncel) rfl (HA3.out.own.alloc _) _ 1 [.string k0, .string t0] rfl (src59 Ub k0 t0) (by (try simp); omega) (by (try simp); omega) ?_
      intro v' w1 hown hgrow hblk
      obtain ⟨no', nc', rfl⟩ := own_formK hown
      obtain ⟨q1, z1, hP4, hA4⟩ := note_push HP3.out HA3.out hown hgrow hblk
      have HP4 := hidP hP4
      have HA4 := hidP hA4
      clear hown hgrow hblk hP4 hA4
      refine hK.out _ _ trivial (fun hHeld => ?_)
      clear hK Kc
      try simp only [Act.put]; try simp only [lA]; try simp only [lB]; try simp only [lC]
      refine wpAnyH_take (i := 9) (v := ?v9r2b61) rfl (by kernel_rfl) (by kernel_rfl) (by kernel_rfl) (fun _ _ _ h => by cases h.1) (Or.inl ⟨by rfl, ?y9r2b61⟩) (by assumption) ?r9r2b61
      case y9r2b61 => (intro w hSw; go_simp; (try with_reducible rfl))
      try simp only [Act.put]; try simp only [lA]; try simp only [lB]; try simp only [lC]
      refine rd1 10 rfl fun Kc hK => ?_
      go_simp
      refine hK.out _ _ trivial (fun hHeld => ?_)
      clear hK Kc
      try simp only [Act.put]; try simp only [lA]; try simp only [lB]; try simp only [lC]
      refine wpAnyH_done (by kernel_rfl) ?_ _
      exact ⟨rfl, _, _, _, _, _, _, _, _, _, _, k0, t0, no', nc', rfl, HP4.out, HA4.out, Hv2.out, Hv3.out⟩
    intro e a' w'
    rintro ⟨rfl, v0, v1, v2, v3, v4, v5, v6, v7, v8, v9, k0, t0, no', nc', rfl, HP', HA', Hv⟩
    simp only [Act.put, List.setIfInBounds_toArray, List.set_cons_succ, List.set_cons_zero]
    have hs1 : bnd q1 ((quotedP s.data.toList).bind fun k => (quotedP s.data.toList).bind fun t => G2 (α := Unit) s.data.toList l D0 (acc0 ++ [(k, t)])) = bnd (qs (bnd q1 (quotedP s.data.toList))) ((quotedP s.data.toList).bind fun t => G2 (α := Unit) s.data.toList l D0 (acc0 ++ [(k0, t)])) := bnd_step (f := fun k => (quotedP s.data.toList).bind fun t => G2 (α := Unit) s.data.toList l D0 (acc0 ++ [(k, t)])) (n := k0) Hv.out.1
    have hs2 : bnd (qs (bnd q1 (quotedP s.data.toList))) ((quotedP s.data.toList).bind fun t => G2 (α := Unit) s.data.toList l D0 (acc0 ++ [(k0, t)])) = bnd (qs (bnd (qs (bnd q1 (quotedP s.data.toList))) (quotedP s.data.toList))) (G2 (α := Unit) s.data.toList l D0 (acc0 ++ [(k0, t0)])) := bnd_step (f := fun t => G2 (α := Unit) s.data.toList l D0 (acc0 ++ [(k0, t)])) (n := t0) Hv.out.2
    have hs3 : R = bnd (qs (bnd (qs (bnd q1 (quotedP s.data.toList))) (quotedP s.data.toList))) (G2 (α := Unit) s.data.toList l D0 (acc0 ++ [(k0, t0)])) := HR.out.trans (hs1.trans hs2)
    have HRn := hidP hs3
    clear hs3
    clear hs1 hs2
    have HYn : Hid (∀ st, (qs (bnd (qs (bnd q1 (quotedP s.data.toList))) (quotedP s.data.toList))) = .ok st → ∃ l st0, y0 = .ok (l, st0)) := fun st e => by obtain ⟨_, e1⟩ := qs_from e; obtain ⟨_, e2⟩ := qs_from e1; exact HY.out _ e2
    have HGn : Hid (∀ st, (qs (bnd (qs (bnd q1 (quotedP s.data.toList))) (quotedP s.data.toList))) = .ok st → ∃ st0, (q1 : Except Nat Ps) = .ok st0 ∧ st0.1 ≤ st.1) := fun st e => quo2_ge e
    generalize (qs (bnd (qs (bnd q1 (quotedP s.data.toList))) (quotedP s.data.toList))) = q3 at HP' HRn HYn HGn
    have hps := HP'.out.ds.pos
    go_wp2_with fail
    go_loopw [] (fun wr => ∃ (n : Nat) (q : Except Nat Ps) (acc : List (ByteArray × ByteArray)) (no : Option Addr) (nc : Nat), acc.length ≤ 65537 ∧ Hid (PS X wr p s b c q (.slice fo nf fc) (.slice no acc.length nc)) ∧ Hid (LAt X wr 70 2 ncel acc no nc) ∧ Hid (R = bnd q (G2 (α := Unit) s.data.toList l n acc)) ∧ Hid (∀ st, q = .ok st → ∃ l st0, y0 = .ok (l, st0)) ∧ Hid (∀ st, q = .ok st → s.size - st.1 < n ∧ acc.length ≤ st.1 + 1) ∧ Hid (1 ≤ n)) (fun wr => dM s wr p)
    case atStart => exact ⟨D0, q3, acc0 ++ [(k0, t0)], no', nc', by have := Hl00.out; simp; omega, HP'.out, HA'.out, HRn.out, HYn.out, fun st e => ⟨by show _ < 65537; omega, by have := Hl00.out; simp; omega⟩, by show 1 ≤ 65537; omega⟩
    case round =>
      clear HP' HA' HRn HYn HGn HP HA HR HY hps Hv HU1
      obtain ⟨n, q, acc, no, nc, hal, HP, HA, HR, HY, HN, Hn1⟩ := hrel
      have Hm := hidP HP.out.ds.m
      have hq := HS44.out wr q HP.out.ds (fun st _ => by omega)
      obtain ⟨n, rfl⟩ : ∃ m, n = m + 1 := ⟨n - 1, by have := Hn1.out; omega⟩
      have HQ := hidP hq
      clear hq
      go_wp2_with (go_at_call 26; refine Hid.out ?_)
      unfold Hid
      refine Calls.mono HQ.out ?_
      intro e U2 hp
      obtain ⟨bv, rfl, hk, hD, hv, hve⟩ := bool_post hp
      have HP2 := hidP (HP.out.call hk hD)
      have HA2 := hidP (HA.out.kpn (by decide) hk HLp.out)
      have hR1 := HR.out
      rw [notes_more] at hR1
      have HR2 := hidP (hR1.trans (bnd_step hv))
      have HY2 : Hid (∀ st, qs (bnd q (takesP s.data.toList 44)) = .ok st → ∃ l st0, y0 = .ok (l, st0)) := fun st e => by obtain ⟨_, e2⟩ := qs_from e; exact HY.out _ e2
      have HB2 : Hid (bv = true → ∃ a0 g0 a2, q = .ok (a0, g0) ∧ qs (bnd q (takesP s.data.toList 44)) = .ok (a2, g0) ∧ a2 = a0 + skN (s.data.toList.drop a0) + 1 ∧ a0 ≤ s.size) := fun e => takes_true e hv hve HP.out.ds.pos
      have hps2 := hD.pos
      clear HP HA HR HY hR1 hp hk hD hv hve HQ
      generalize qs (bnd q (takesP s.data.toList 44)) = q2 at HP2 HR2 HY2 HB2 hps2
      have HP := HP2
      have HA := HA2
      have HR := HR2
      have HY := HY2
      clear HP2 HA2 HR2 HY2
      cases bv with
      | false =>
        replace HR : Hid (R = bnd q2 ((endP s.data.toList).bind fun _ => Pr.pure (l, acc))) := HR
        clear HB2 HN Hm hps2
        go_wp2_with (go_at_call 28; refine Hid.out ?_)
        unfold Hid
        have hq := HEn.out U2 q2 HP.out.ds (fun st _ => by omega)
        refine Calls.mono hq ?_
        intro e U9 hp
        obtain ⟨rfl, hk, hD⟩ := unit_post hp
        have HP9 := hidP (HP.out.call hk hD)
        have HU9b : Hid (b < U9.heap.size) := lt_of_heap HP9.out.rb
        have HA9 := hidP (HA.out.kpn (by decide) hk HLp.out)
        have hs3 : R = bp (bnd q2 (endP s.data.toList)) (fun _ => Pr.pure (l, acc)) := HR.out.trans bnd_bp
        have HR9 := hidP hs3
        clear hs3
        have HY9 : Hid (∀ z, bnd q2 (endP s.data.toList) = .ok z → ∃ l st0, y0 = .ok (l, st0)) := fun z e => by have e1 : qs (bnd q2 (endP s.data.toList)) = .ok z.2 := (by rw [e]; rfl); obtain ⟨_, e2⟩ := qs_from e1; exact HY.out _ e2
        clear HP HA HR HY hq hp hk hD
        generalize bnd q2 (endP s.data.toList) = y9 at HP9 HR9 HY9
        rcases y9 with o | ⟨u9, a9, g9⟩
        · have HRo : Hid (R = .error o) := HR9.out
          obtain ⟨aa, vn, hAt, _⟩ := (show DD U9 p s o from HP9.out.ds)
          have i2 : U9.cell? ⟨p, 2, none⟩ = some (.int .i64 (o : Int)) := by simp [World.cell?, hAt]
          have h0o : (0 : Int) ≤ (o : Int) := by omega
          clear hAt HR9 HY9
          have u0 := frz HP9.out.rb 0
          have v0 : U9.cell? ⟨b, 0, none⟩ = some (.slice none 0 0) := by simp [World.cell?, HP9.out.rb]
          have u1 := frz HP9.out.rb 1
          have v1 : U9.cell? ⟨b, 1, none⟩ = some (.slice none 0 0) := by simp [World.cell?, HP9.out.rb]
          have npb : ¬ b = p := by have := HP9.out.lt; omega
          have nbp : ¬ p = b := by have := HP9.out.lt; omega
          go_wp2_with fail
          go_region
          (try go_wp2_with fail)
          have hPd := HP9.out.gr (gr_drewP (W := U9))
          have hb3 := put2_box (.slice none 0 0) (.slice none 0 0) hPd.rb
          have k3 := put2_keeps U9.drew b (.slice none 0 0) (.slice none 0 0)
          (try simp only [Exit.inBlock, Exit.then])
          exact bodyPost_ret (results_parse (z := .int .i64 8) (x := .int .i64 (o : Int)) rfl rfl rfl rfl hb3) rfl ⟨gr_of Hb.out hPd.lt HGX.out hPd.kp k3, .inl ⟨8, o, by decide, .inr (.inl ⟨Hs.out, o, HRo.out, rfl, rfl⟩), rfl⟩⟩
        have HRo : Hid (R = .ok ((l, acc), (a9, g9))) := HR9.out
        obtain ⟨l0, st0, e0⟩ := HY9.out _ rfl
        have hrw := HRow.out l0 st0 e0
        rw [lOf_ok l0 st0 e0, ← Hl.out] at hrw
        obtain ⟨hnf, hfc, hrow⟩ := hrw
        have hrow9 := row_end hrow HP9.out.kp HV1.out.1 HV1.out.2
        subst hnf
        obtain ⟨aa, vo, vc, hAt, _, hgc, hpos⟩ := (show DA U9 p s a9 g9 from HP9.out.ds)
        have i2 : U9.cell? ⟨p, 2, none⟩ = some (.int .i64 (-1)) := by simp [World.cell?, hAt.box]
        have Hns : Hid (acc.length ≤ big) := by show acc.length ≤ 1000000000000; omega
        have hck := checkR_fault (cn := nc) (cf := fc) (w := U9) hrow9 hfc (fun z h => h.2) (notes_of HA9.out Hns.out) U9 (Keeps.refl _ _)
        have HCk := hidP hck
        have HRw := hidP hrow9
        have Hfc := hidP hfc
        have HAt := hidP hAt
        have Hgc : Hid (g9.length ≤ s.size) := by show g9.length ≤ s.size; omega
        clear hck hrow9 hrow hfc hAt hgc hpos e0 HY9 HR9
        have s0 : U9.cell? ⟨c, 0, none⟩ = some (.slice fo l.length fc) := by simp [World.cell?, HP9.out.tb]
        have s1 : U9.cell? ⟨c, 1, none⟩ = some (.slice no acc.length nc) := by simp [World.cell?, HP9.out.tb]
        go_wp2_with (first | (go_at_call 29; refine Calls.mono HCk.out ?_; rintro e U10 ⟨er, wo, wn, wc, tt, rfl, hg10, hQ⟩; have HG10 := hidP hg10; have HQ10 := hidP hQ; clear hg10 hQ) | (with_reducible show wpList Tryz.prog _ _ (Oper.mk (some 74) _ _ _ _ _ :: _) _ _; refine Hid.out ?_))
        unfold Hid
        have hz1 := heap_alloc_new U10 (.cells #[.int .i64 er, .slice wo wn wc, .int .i64 tt] 46)
        have hz2 := gr_alloc U10 (.cells #[.int .i64 er, .slice wo wn wc, .int .i64 tt] 46)
        obtain ⟨K, hK⟩ : ∃ K, K = U10.heap.size := ⟨_, rfl⟩
        rw [← hK] at hz1 ⊢
        have HGY := hidP (HG10.out.trans hz2 fun _ _ h => h)
        have HKt := hidP hz1
        have HKl : Hid (U9.heap.size ≤ K) := by show _ ≤ K; rw [hK]; exact HG10.out.size
        obtain ⟨path, hpl, hF, hown⟩ := HQ10.out
        have HPa := hidP ((ints_of_own hown).gr hz2)
        have hF := fault_nodes hF
        clear hz1 hz2 hK hown HQ10 HG10 HCk s0 s1 i2
        generalize U10.alloc (.cells #[.int .i64 er, .slice wo wn wc, .int .i64 tt] 46) = Y at HGY HKt HPa ⊢
        have HPY := hidP (HP9.out.gr HGY.out)
        clear HP9
        have t0 : Y.cell? ⟨K, 0, none⟩ = some (.int .i64 er) := by simp [World.cell?, HKt.out]
        have t1 : Y.cell? ⟨K, 1, none⟩ = some (.slice wo wn wc) := by simp [World.cell?, HKt.out]
        have s0 : Y.cell? ⟨c, 0, none⟩ = some (.slice fo l.length fc) := by simp [World.cell?, HPY.out.tb]
        have s1 : Y.cell? ⟨c, 1, none⟩ = some (.slice no acc.length nc) := by simp [World.cell?, HPY.out.tb]
        have u0 := frz HPY.out.rb 0
        have v0 : Y.cell? ⟨b, 0, none⟩ = some (.slice none 0 0) := by simp [World.cell?, HPY.out.rb]
        have u1 := frz HPY.out.rb 1
        have v1 : Y.cell? ⟨b, 1, none⟩ = some (.slice none 0 0) := by simp [World.cell?, HPY.out.rb]
        have nbc : ¬ b = c := by have := HPY.out.lt; omega
        have ncb : ¬ c = b := by have := HPY.out.lt; omega
        rcases hF with ⟨hE, rfl, rfl, rfl⟩ | ⟨hE, hAll, rfl, rfl, rfl⟩ | ⟨hE, L, x, hpre, hAllL, hwr, rfl, rfl, rfl⟩
        · have HE := hidP hE
          obtain ⟨E1, hE1⟩ : ∃ z, z = (listsE l.length acc).1 := ⟨_, rfl⟩
          rw [← hE1] at hE t0
          have He := hidP hE1
          have hne : (E1 == 0) = false := beq_eq_false_iff_ne.2 hE
          have hw0 : wn = 0 := by rw [← hpl]; rfl
          subst hw0
          clear hE hE1 hpl HPa
          have nKb : ¬ K = b := by have := HKl.out; have := HU9b.out; omega
          have nbK : ¬ b = K := fun e => nKb e.symm
          go_wp2_with fail
          go_region
          (try go_wp2_with fail)
          have hPd := HPY.out.gr (gr_drewP (W := Y))
          have hb3 := put2_box (.slice none 0 0) (.slice none 0 0) hPd.rb
          have k3 := put2_keeps Y.drew b (.slice none 0 0) (.slice none 0 0)
          (try simp only [Exit.inBlock, Exit.then])
          exact bodyPost_ret (results_parse (z := .int .i64 E1) (x := .int .i64 0) rfl rfl rfl rfl hb3) rfl ⟨gr_of Hb.out hPd.lt HGX.out hPd.kp k3, .inl ⟨E1, 0, by rw [He.out]; exact HE.out, .inr (.inr ⟨Hs.out, l, acc, a9, g9, HRo.out, .inl ⟨HE.out, He.out, rfl⟩⟩), rfl⟩⟩
        · have HE := hidP hE
          have HAll := hidP hAll
          clear hE hAll hpl HPa
          go_wp2_with fail
          have hb3 := put2_box (.slice fo l.length fc) (.slice no acc.length nc) HPY.out.rb
          have k3 := put2_keeps Y b (.slice fo l.length fc) (.slice no acc.length nc)
          (try simp only [Exit.inBlock, Exit.then])
          refine bodyPost_ret (results_parse (z := .int .i64 0) (x := .int .i64 0) rfl rfl rfl rfl hb3) rfl ⟨gr_of Hb.out HPY.out.lt HGX.out HPY.out.kp k3, .inr ⟨l, acc, a9, g9, fo, fc, no, nc, Hs.out, HRo.out, HE.out, HAll.out, Hns.out, rfl, Hfc.out, ?_, ?_⟩⟩
          · exact ((HRw.out.kept fun z hz => HGY.out.block z hz.2 id).kept fun z hz => k3.block z (Nat.lt_of_lt_of_le hz.2 HGY.out.size) (by have := hz.1; have := HV1b.out; omega)).mono fun z hz => ⟨by have := hz.1; have := HV1b.out; have := Hb.out; omega, by have := hz.2; have := HGY.out.size; have := k3.size; omega⟩
          exact ((HA9.out.blk HGY.out fun z h hz hS => hS).blk k3 fun z h hz hS => by have := HXb.out; omega).low HGX.out.size
        obtain ⟨hway, hplc⟩ := way_of hpre
        have hnm := wh_names (HRes.out.symm.trans HRo.out)
        have HW3 : Hid (L ++ [x] <+: nodes (D0 + 1) l [] false ∧ AllR L ∧ wrongE x L.length (tkL L) ≠ 0 ∧ (listsE l.length acc).1 = 0) := ⟨hpre, hAllL, hwr, hE⟩
        have hwl := way_len _ _ _ hway
        have hlen : x.path.length ≤ 65538 := hwl
        have hpne : x.path ≠ [] := by intro e; rw [e] at hway; exact hway
        have hwn : (wn == 0) = false := beq_eq_false_iff_ne.2 fun e => hpne (List.eq_nil_of_length_eq_zero (by omega))
        have hwnI : ((wn : Int) == 0) = false := beq_eq_false_iff_ne.2 fun e => hpne (List.eq_nil_of_length_eq_zero (by omega))
        have gYd : Gr U9 Y.drew := HGY.out.trans gr_drewP fun _ _ h => h
        have hcall := place30 (fun z => V1.heap.size ≤ z ∧ z < U9.heap.size) (D0 + 1) l x.path g9 fo no vo wo fc acc.length nc vc wn wc Y.drew (HRw.out.kept fun z hz => gYd.block z hz.2 id) (fun z hz => Nat.lt_of_lt_of_le hz.2 gYd.size) Hfc.out (by rw [← hnm]; have := Hgc.out; have := Hs.out; omega) hway hpl.symm (HPa.out.gr gr_drewP) ((ints_of_own HAt.out.own).gr gYd) (Nat.le_of_eq hnm.symm) (by omega) (by have := Hgc.out; have := Hs.out; omega)
        rw [hplc] at hcall
        obtain ⟨pv, hpv⟩ : ∃ z, z = g9.getD L.length 0 := ⟨_, rfl⟩
        rw [← hpv] at hcall
        have HCp := hidP hcall
        have Hpv := hidP hpv
        obtain ⟨E1, hE1⟩ : ∃ z, z = wrongE x L.length (tkL L) := ⟨_, rfl⟩
        rw [← hE1] at t0
        have He := hidP hE1
        have hne : (E1 == 0) = false := beq_eq_false_iff_ne.2 (by rw [hE1]; exact hwr)
        have p3 : Y.cell? ⟨p, 3, none⟩ = some (.slice vo g9.length vc) := by have := (HGY.out.block p (lt_of_heap HAt.out.box) id).trans HAt.out.box; simp [World.cell?, this]
        have HKe : Hid (K < Y.heap.size ∧ K ≠ b) := ⟨lt_of_heap HKt.out, by have := HKl.out; have := HU9b.out; omega⟩
        clear hway hplc hwl hpne hpre hAllL hwr hE hcall hpv hE1 gYd hnm hpl hlen
        have HSC : Hid (∀ w', Keeps Y w' (fun z => z = b) → w'.cell? ⟨K, 0, none⟩ = some (.int .i64 E1) ∧ w'.cell? ⟨K, 1, none⟩ = some (.slice wo wn wc) ∧ w'.cell? ⟨c, 0, none⟩ = some (.slice fo l.length fc) ∧ w'.cell? ⟨c, 1, none⟩ = some (.slice no acc.length nc) ∧ w'.cell? ⟨p, 3, none⟩ = some (.slice vo g9.length vc)) := fun w' k => by
          have hl := HPY.out.lt
          have e1 := k.block K HKe.out.1 HKe.out.2
          have e2 := k.block c (lt_of_heap HPY.out.tb) (by omega)
          have e3 := k.block p (HPY.out.ds.lt) (by omega)
          exact ⟨(World.cell?_of_block (w := Y) e1).trans t0, (World.cell?_of_block (w := Y) e1).trans t1, (World.cell?_of_block (w := Y) e2).trans s0, (World.cell?_of_block (w := Y) e2).trans s1, (World.cell?_of_block (w := Y) e3).trans p3⟩
        have hc0 := hne
        go_wp2_with fail
        refine wp_region_held_drew (S := fun w' => w'.cell? ⟨K, 0, none⟩ = some (.int .i64 E1) ∧ w'.cell? ⟨K, 1, none⟩ = some (.slice wo wn wc) ∧ w'.cell? ⟨c, 0, none⟩ = some (.slice fo l.length fc) ∧ w'.cell? ⟨c, 1, none⟩ = some (.slice no acc.length nc) ∧ w'.cell? ⟨p, 3, none⟩ = some (.slice vo g9.length vc)) (by kernel_rfl) (HSC.out Y.drew (gr_drewP.mono fun _ _ h => h.elim)) (fun hHeld => ?_)
        refine wpAnyH_take (i := 0) (oi := { dst := some 85, op := Op.build 27 #[], type := 27, pos := "text.go:498", after := #[], guard := none }) (v := ?v0z31) rfl (by kernel_rfl) (by kernel_rfl) (by kernel_rfl) (fun _ _ _ h => h) (Or.inl ⟨by rfl, ?y0z31⟩) (by assumption) ?r0z31
        case y0z31 => (intro w hSw; obtain ⟨q0, q1, q2, q3, q4⟩ := hSw; go_simp; (try with_reducible rfl))
        try simp only [Act.put]; try simp only [lA]; try simp only [lB]; try simp only [lC]
        refine wpAnyH_take (i := 1) (oi := { dst := some 86, op := Op.fieldAddr 46 (Operand.tmp 8) 0, type := 0, pos := "text.go:498", after := #[{ on := 11, ground := Ground.gcOnly Departure.lateStores }], guard := none }) (v := ?v1z32) rfl (by kernel_rfl) (by kernel_rfl) (by kernel_rfl) (fun _ _ _ h => h) (Or.inl ⟨by rfl, ?y1z32⟩) (by assumption) ?r1z32
        case y1z32 => (intro w hSw; obtain ⟨q0, q1, q2, q3, q4⟩ := hSw; go_simp; (try with_reducible rfl))
        try simp only [Act.put]; try simp only [lA]; try simp only [lB]; try simp only [lC]
        refine wpAnyH_take (i := 2) (oi := { dst := some 87, op := Op.load 28 (Operand.tmp 86), type := 28, pos := "text.go:498", after := #[{ on := 1, ground := Ground.data }, { on := 11, ground := Ground.gcOnly Departure.lateStores }], guard := none }) (v := ?v2z33) rfl (by kernel_rfl) (by kernel_rfl) (by kernel_rfl) (fun _ _ _ h => h) (Or.inl ⟨by rfl, ?y2z33⟩) (by assumption) ?r2z33
        case y2z33 => (intro w hSw; obtain ⟨q0, q1, q2, q3, q4⟩ := hSw; go_simp; (try with_reducible rfl))
        try simp only [Act.put]; try simp only [lA]; try simp only [lB]; try simp only [lC]
        refine wpAnyH_take (i := 3) (oi := { dst := some 88, op := Op.load 27 (Operand.tmp 6), type := 27, pos := "text.go:498", after := #[], guard := none }) (v := ?v3z34) rfl (by kernel_rfl) (by kernel_rfl) (by kernel_rfl) (fun _ _ _ h => h) (Or.inl ⟨by rfl, ?y3z34⟩) (by assumption) ?r3z34
        case y3z34 => (intro w hSw; obtain ⟨q0, q1, q2, q3, q4⟩ := hSw; go_simp; (try with_reducible rfl))
        try simp only [Act.put]; try simp only [lA]; try simp only [lB]; try simp only [lC]
        refine wpAnyH_take (i := 4) (oi := { dst := some 89, op := Op.move (Operand.tmp 5), type := 60, pos := "text.go:498", after := #[], guard := none }) (v := ?v4z35) rfl (by kernel_rfl) (by kernel_rfl) (by kernel_rfl) (fun _ _ _ h => h) (Or.inl ⟨by rfl, ?y4z35⟩) (by assumption) ?r4z35
        case y4z35 => (intro w hSw; obtain ⟨q0, q1, q2, q3, q4⟩ := hSw; go_simp; (try with_reducible rfl))
        try simp only [Act.put]; try simp only [lA]; try simp only [lB]; try simp only [lC]
        refine wpAnyH_take (i := 5) (oi := { dst := some 90, op := Op.nilCheck (Operand.tmp 89), type := 0, pos := "text.go:498", after := #[{ on := 4, ground := Ground.data }], guard := none }) (v := ?v5z36) rfl (by kernel_rfl) (by kernel_rfl) (by kernel_rfl) (fun _ _ _ h => h) (Or.inl ⟨by rfl, ?y5z36⟩) (by assumption) ?r5z36
        case y5z36 => (intro w hSw; obtain ⟨q0, q1, q2, q3, q4⟩ := hSw; go_simp; (try with_reducible rfl))
        try simp only [Act.put]; try simp only [lA]; try simp only [lB]; try simp only [lC]
        refine wpAnyH_take (i := 6) (oi := { dst := some 91, op := Op.fieldAddr 62 (Operand.tmp 90) 3, type := 0, pos := "text.go:498", after := #[{ on := 5, ground := Ground.data }], guard := none }) (v := ?v6z37) rfl (by kernel_rfl) (by kernel_rfl) (by kernel_rfl) (fun _ _ _ h => h) (Or.inl ⟨by rfl, ?y6z37⟩) (by assumption) ?r6z37
        case y6z37 => (intro w hSw; obtain ⟨q0, q1, q2, q3, q4⟩ := hSw; go_simp; (try with_reducible rfl))
        try simp only [Act.put]; try simp only [lA]; try simp only [lB]; try simp only [lC]
        refine wpAnyH_take (i := 7) (oi := { dst := some 92, op := Op.load 44 (Operand.tmp 91), type := 44, pos := "text.go:498", after := #[{ on := 6, ground := Ground.data }], guard := none }) (v := ?v7z38) rfl (by kernel_rfl) (by kernel_rfl) (by kernel_rfl) (fun _ _ _ h => h) (Or.inl ⟨by rfl, ?y7z38⟩) (by assumption) ?r7z38
        case y7z38 => (intro w hSw; obtain ⟨q0, q1, q2, q3, q4⟩ := hSw; go_simp; (try with_reducible rfl))
        try simp only [Act.put]; try simp only [lA]; try simp only [lB]; try simp only [lC]
        refine wpAnyH_take (i := 8) (oi := { dst := some 93, op := Op.fieldAddr 46 (Operand.tmp 8) 1, type := 0, pos := "text.go:498", after := #[], guard := none }) (v := ?v8z39) rfl (by kernel_rfl) (by kernel_rfl) (by kernel_rfl) (fun _ _ _ h => h) (Or.inl ⟨by rfl, ?y8z39⟩) (by assumption) ?r8z39
        case y8z39 => (intro w hSw; obtain ⟨q0, q1, q2, q3, q4⟩ := hSw; go_simp; (try with_reducible rfl))
        try simp only [Act.put]; try simp only [lA]; try simp only [lB]; try simp only [lC]
        refine wpAnyH_take (i := 9) (oi := { dst := some 94, op := Op.load 44 (Operand.tmp 93), type := 44, pos := "text.go:498", after := #[{ on := 8, ground := Ground.data }], guard := none }) (v := ?v9z310) rfl (by kernel_rfl) (by kernel_rfl) (by kernel_rfl) (fun _ _ _ h => h) (Or.inl ⟨by rfl, ?y9z310⟩) (by assumption) ?r9z310
        case y9z310 => (intro w hSw; obtain ⟨q0, q1, q2, q3, q4⟩ := hSw; go_simp; (try with_reducible rfl))
        try simp only [Act.put]; try simp only [lA]; try simp only [lB]; try simp only [lC]
        refine rd1 10 rfl fun Kc hK => ?_
        go_simp
        go_at_call 30
        refine Calls.mono HCp.out ?_
        rintro e' Y2 ⟨hg2, rfl⟩
        have kY2 : Keeps Y Y2 (fun z => z = b) := ((gr_drewP (W := Y)).trans hg2 fun _ _ h => h).mono fun _ _ h => h.elim
        have HPY2 := hidP (HPY.out.gr ((gr_drewP (W := Y)).trans hg2 fun _ _ h => h))
        have HkY2 := hidP kY2
        clear hg2 kY2
        go_wp2_with fail
        refine hK.out _ _ (HSC.out _ HkY2.out) (fun hHeld => ?_)
        clear hK Kc
        try simp only [Act.put]; try simp only [lA]; try simp only [lB]; try simp only [lC]
        have u0' := frz HPY2.out.rb 0
        have v0' : Y2.cell? ⟨b, 0, none⟩ = some (.slice none 0 0) := by simp [World.cell?, HPY2.out.rb]
        have u1' := frz HPY2.out.rb 1
        have v1' : Y2.cell? ⟨b, 1, none⟩ = some (.slice none 0 0) := by simp [World.cell?, HPY2.out.rb]
        have k3 := put2_keeps Y2 b (.slice none 0 0) (.slice none 0 0)
        have HK3 := hidP k3
        have HkY3 := hidP (HkY2.out.trans k3 fun _ _ h => h)
        clear k3
        refine rd1 11 rfl fun Kc hK => ?_
        go_simp
        refine hK.out _ _ (HSC.out _ HkY3.out) (fun hHeld => ?_)
        clear hK Kc
        try simp only [Act.put]; try simp only [lA]; try simp only [lB]; try simp only [lC]
        refine wpAnyH_take (i := 12) (oi := { dst := some 3, op := Op.assign (Operand.tmp 87), type := 3, pos := "text.go:498", after := #[{ on := 2, ground := Ground.data }, { on := 11, ground := Ground.chain }, { on := 0, ground := Ground.phase }, { on := 1, ground := Ground.phase }, { on := 2, ground := Ground.phase }, { on := 3, ground := Ground.textOnly Departure.lateStores }, { on := 4, ground := Ground.textOnly Departure.lateStores }, { on := 5, ground := Ground.textOnly Departure.lateStores }, { on := 6, ground := Ground.textOnly Departure.lateStores }, { on := 7, ground := Ground.textOnly Departure.lateStores }, { on := 8, ground := Ground.textOnly Departure.lateStores }, { on := 9, ground := Ground.textOnly Departure.lateStores }, { on := 10, ground := Ground.textOnly Departure.lateStoresUnsure }, { on := 11, ground := Ground.phase }], guard := none }) (v := ?v12y31) rfl (by kernel_rfl) (by kernel_rfl) (by kernel_rfl) (fun _ _ _ h => h) (Or.inl ⟨by rfl, ?y12y31⟩) (by assumption) ?r12y31
        case y12y31 => (intro w hSw; obtain ⟨q0, q1, q2, q3, q4⟩ := hSw; go_simp; (try with_reducible rfl))
        try simp only [Act.put]; try simp only [lA]; try simp only [lB]; try simp only [lC]
        refine wpAnyH_take (i := 13) (oi := { dst := some 4, op := Op.assign (Operand.tmp 95), type := 3, pos := "text.go:498", after := #[{ on := 10, ground := Ground.data }, { on := 12, ground := Ground.chain }, { on := 0, ground := Ground.phase }, { on := 1, ground := Ground.phase }, { on := 2, ground := Ground.phase }, { on := 3, ground := Ground.phase }, { on := 4, ground := Ground.phase }, { on := 5, ground := Ground.phase }, { on := 6, ground := Ground.phase }, { on := 7, ground := Ground.phase }, { on := 8, ground := Ground.phase }, { on := 9, ground := Ground.phase }, { on := 10, ground := Ground.phase }, { on := 11, ground := Ground.phase }, { on := 12, ground := Ground.phase }], guard := none }) (v := ?v13y32) rfl (by kernel_rfl) (by kernel_rfl) (by kernel_rfl) (fun _ _ _ h => h) (Or.inl ⟨by rfl, ?y13y32⟩) (by assumption) ?r13y32
        case y13y32 => (intro w hSw; obtain ⟨q0, q1, q2, q3, q4⟩ := hSw; go_simp; (try with_reducible rfl))
        try simp only [Act.put]; try simp only [lA]; try simp only [lB]; try simp only [lC]
        refine wpAnyH_done (by kernel_rfl) ?_ _
        (try refine NoPanic.normal ?_)
        clear hHeld
        (try go_wp2_with fail)
        have hb3 := put2_box (.slice none 0 0) (.slice none 0 0) HPY2.out.rb
        (try simp only [Exit.inBlock, Exit.then])
        exact bodyPost_ret (results_parse (z := .int .i64 E1) (x := .int .i64 (pv : Int)) rfl rfl rfl rfl hb3) rfl ⟨gr_of Hb.out HPY2.out.lt HGX.out HPY2.out.kp HK3.out, .inl ⟨E1, (pv : Int), by rw [He.out]; exact HW3.out.2.2.1, .inr (.inr ⟨Hs.out, l, acc, a9, g9, HRo.out, .inr ⟨HW3.out.2.2.2, L, x, HW3.out.1, HW3.out.2.1, HW3.out.2.2.1, He.out, by rw [Hpv.out]⟩⟩), rfl⟩⟩
      | true =>
        obtain ⟨a0, g0, a2, rfl, rfl, ha2, ha0⟩ := HB2.out rfl
        have hn2 := HN.out _ rfl
        have hp22 := hps2 _ rfl
        clear HB2 HN hps2
        have hn2a : s.size - a0 < n + 1 := hn2.1
        have hn2b : acc.length ≤ a0 + 1 := hn2.2
        have hp23 : a2 ≤ s.size := hp22
        clear hn2 hp22
        replace HR : Hid (R = bnd (.ok (a2, g0)) ((quotedP s.data.toList).bind fun k => (quotedP s.data.toList).bind fun t => G2 (α := Unit) s.data.toList l n (acc ++ [(k, t)]))) := HR
        go_wp2_with fail
        refine wp_mid (R := fun a e a' w' => e = .normal ∧ ∃ (v0 v1 v2 v3 v4 v5 v6 v7 v8 v9 : Value) (k0 t0 : ByteArray) (no' : Option Addr) (nc' : Nat), a' = ((((((((((a.put (some 50) v0).put (some 51) v1).put (some 52) v2).put (some 53) v3).put (some 54) v4).put (some 55) v5).put (some 56) v6).put (some 57) v7).put (some 58) v8).put (some 59) v9) ∧ Hid (PS X w' p s b c (qs (bnd (qs (bnd (.ok (a2, g0)) (quotedP s.data.toList))) (quotedP s.data.toList))) (.slice fo nf fc) (.slice no' (acc ++ [(k0, t0)]).length nc')) ∧ Hid (LAt X w' 70 2 ncel (acc ++ [(k0, t0)]) no' nc') ∧ Hid ((∀ y st, bnd (.ok (a2, g0)) (quotedP s.data.toList) = .ok (y, st) → y = k0) ∧ (∀ y st, bnd (qs (bnd (.ok (a2, g0)) (quotedP s.data.toList))) (quotedP s.data.toList) = .ok (y, st) → y = t0))) ?_ ?_
        · have HDd := hidP (HP.out.ds.gr (gr_drewP (W := U2)))
          have HC : Hid (∀ w, KpN U2 w p → w.cell? ⟨c, 1, none⟩ = some (.slice no acc.length nc)) := fun w k => by have := (k.blk (lt_of_heap HP.out.tb) HP.out.cok.1 HP.out.cok.2).trans HP.out.tb; simp [World.cell?, this]
          refine wp_region_held_drew (S := fun w' => True) (by kernel_rfl) (trivial) (fun hHeld => ?_)
          refine wpAnyH_take (i := 0) (v := ?v0r4a1) rfl (by kernel_rfl) (by kernel_rfl) (by kernel_rfl) (fun _ _ _ h => by cases h.1) (Or.inl ⟨by rfl, ?y0r4a1⟩) (by assumption) ?r0r4a1
          case y0r4a1 => (intro w hSw; go_simp; (try with_reducible rfl))
          try simp only [Act.put]; try simp only [lA]; try simp only [lB]; try simp only [lC]
          refine wpAnyH_take (i := 2) (v := ?v2r4a2) rfl (by kernel_rfl) (by kernel_rfl) (by kernel_rfl) (fun _ _ _ h => by cases h.1) (Or.inl ⟨by rfl, ?y2r4a2⟩) (by assumption) ?r2r4a2
          case y2r4a2 => (intro w hSw; go_simp; (try with_reducible rfl))
          try simp only [Act.put]; try simp only [lA]; try simp only [lB]; try simp only [lC]
          refine wpAnyH_take (i := 4) (v := ?v4r4a3) rfl (by kernel_rfl) (by kernel_rfl) (by kernel_rfl) (fun _ _ _ h => by cases h.1) (Or.inl ⟨by rfl, ?y4r4a3⟩) (by assumption) ?r4r4a3
          case y4r4a3 => (intro w hSw; go_simp; (try with_reducible rfl))
          try simp only [Act.put]; try simp only [lA]; try simp only [lB]; try simp only [lC]
          refine rd2 1 3 rfl rfl (fun Kc hK => ?_) fun Kc hK => ?_
          · have c1 := HC.out U2.drew (Gr.n p gr_drewP)
            go_simp
            clear c1
            refine hK.out _ _ trivial (fun hHeld => ?_)
            clear hK Kc
            try simp only [Act.put]; try simp only [lA]; try simp only [lB]; try simp only [lC]
            refine rd1 3 rfl fun Kc hK => ?_
            go_simp
            go_at_call 27
            refine Calls.mono (HTx.out U2.drew (.ok (a2, g0)) HDd.out (fun st _ => by omega)) ?_
            intro e' Ua hp
            obtain ⟨k0, rfl, hk, hD, hv⟩ := str_post hp
            have HK2 : Hid (KpN U2 Ua p) := KpN.tr (Gr.n p gr_drewP) hk
            have HD2 := hidP hD
            have Hv2 := hidP hv
            clear hp hk hD hv
            go_wp2_with fail
            refine hK.out _ _ trivial (fun hHeld => ?_)
            clear hK Kc
            try simp only [Act.put]; try simp only [lA]; try simp only [lB]; try simp only [lC]
            refine rd1 5 rfl fun Kc hK => ?_
            go_simp
            go_at_call 27
            refine Calls.mono (HTx.out Ua (qs (bnd (.ok (a2, g0)) (quotedP s.data.toList))) HD2.out (fun st _ => by omega)) ?_
            intro e' Ub hp
            obtain ⟨t0, rfl, hk, hD, hv⟩ := str_post hp
            have HK3 : Hid (KpN U2 Ub p) := HK2.out.tr hk
            have HD3 := hidP hD
            have Hv3 := hidP hv
            clear hp hk hD hv
            go_wp2_with fail
            refine hK.out _ _ trivial (fun hHeld => ?_)
            clear hK Kc
            try simp only [Act.put]; try simp only [lA]; try simp only [lB]; try simp only [lC]
            refine wpAnyH_take (i := 6) (v := ?v6r4b11) rfl (by kernel_rfl) (by kernel_rfl) (by kernel_rfl) (fun _ _ _ h => by cases h.1) (Or.inl ⟨by rfl, ?y6r4b11⟩) (by assumption) ?r6r4b11
            case y6r4b11 => (intro w hSw; go_simp; (try with_reducible rfl))
            try simp only [Act.put]; try simp only [lA]; try simp only [lB]; try simp only [lC]
            refine rd1 7 rfl fun Kc hK => ?_
            go_simp
            refine hK.out _ _ trivial (fun hHeld => ?_)
            clear hK Kc
            try simp only [Act.put]; try simp only [lA]; try simp only [lB]; try simp only [lC]
            refine rd1 8 rfl fun Kc hK => ?_
            have HP3 := hidP (HP.out.call HK3.out HD3.out)
            have HA3 := hidP (HA.out.kpn (by decide) HK3.out HLp.out)
            refine step_append_anyN _ rfl (.tmp 51) (.tmp 57) 25 25 rfl 70 (.agg #[.string ⟨#[]⟩, .string ⟨#[]⟩]) 2 32 Tryz.underlying25 info59 rfl _ acc.length (acc.flatMap ncel) rfl (HA3.out.own.alloc _) _ 1 [.string k0, .string t0] rfl (src59 Ub k0 t0) (by (try simp); omega) (by (try simp); omega) ?_
            intro v' w1 hown hgrow hblk
            obtain ⟨no', nc', rfl⟩ := own_formK hown
            obtain ⟨q1, z1, hP4, hA4⟩ := note_push HP3.out HA3.out hown hgrow hblk
            have HP4 := hidP hP4
            have HA4 := hidP hA4
            clear hown hgrow hblk hP4 hA4
            refine hK.out _ _ trivial (fun hHeld => ?_)
            clear hK Kc
            try simp only [Act.put]; try simp only [lA]; try simp only [lB]; try simp only [lC]
            refine wpAnyH_take (i := 9) (v := ?v9r4b21) rfl (by kernel_rfl) (by kernel_rfl) (by kernel_rfl) (fun _ _ _ h => by cases h.1) (Or.inl ⟨by rfl, ?y9r4b21⟩) (by assumption) ?r9r4b21
            case y9r4b21 => (intro w hSw; go_simp; (try with_reducible rfl))
            try simp only [Act.put]; try simp only [lA]; try simp only [lB]; try simp only [lC]
            refine rd1 10 rfl fun Kc hK => ?_
            go_simp
            refine hK.out _ _ trivial (fun hHeld => ?_)
            clear hK Kc
            try simp only [Act.put]; try simp only [lA]; try simp only [lB]; try simp only [lC]
            refine wpAnyH_done (by kernel_rfl) ?_ _
            exact ⟨rfl, _, _, _, _, _, _, _, _, _, _, k0, t0, no', nc', rfl, HP4.out, HA4.out, Hv2.out, Hv3.out⟩
          go_simp
          go_at_call 27
          refine Calls.mono (HTx.out U2.drew (.ok (a2, g0)) HDd.out (fun st _ => by omega)) ?_
          intro e' Ua hp
          obtain ⟨k0, rfl, hk, hD, hv⟩ := str_post hp
          have HK2 : Hid (KpN U2 Ua p) := KpN.tr (Gr.n p gr_drewP) hk
          have HD2 := hidP hD
          have Hv2 := hidP hv
          clear hp hk hD hv
          go_wp2_with fail
          refine hK.out _ _ trivial (fun hHeld => ?_)
          clear hK Kc
          try simp only [Act.put]; try simp only [lA]; try simp only [lB]; try simp only [lC]
          refine rd2 1 5 rfl rfl (fun Kc hK => ?_) fun Kc hK => ?_
          · have c1 := HC.out Ua (HK2.out)
            go_simp
            clear c1
            refine hK.out _ _ trivial (fun hHeld => ?_)
            clear hK Kc
            try simp only [Act.put]; try simp only [lA]; try simp only [lB]; try simp only [lC]
            refine rd1 5 rfl fun Kc hK => ?_
            go_simp
            go_at_call 27
            refine Calls.mono (HTx.out Ua (qs (bnd (.ok (a2, g0)) (quotedP s.data.toList))) HD2.out (fun st _ => by omega)) ?_
            intro e' Ub hp
            obtain ⟨t0, rfl, hk, hD, hv⟩ := str_post hp
            have HK3 : Hid (KpN U2 Ub p) := HK2.out.tr hk
            have HD3 := hidP hD
            have Hv3 := hidP hv
            clear hp hk hD hv
            go_wp2_with fail
            refine hK.out _ _ trivial (fun hHeld => ?_)
            clear hK Kc
            try simp only [Act.put]; try simp only [lA]; try simp only [lB]; try simp only [lC]
            refine wpAnyH_take (i := 6) (v := ?v6r4b31) rfl (by kernel_rfl) (by kernel_rfl) (by kernel_rfl) (fun _ _ _ h => by cases h.1) (Or.inl ⟨by rfl, ?y6r4b31⟩) (by assumption) ?r6r4b31
            case y6r4b31 => (intro w hSw; go_simp; (try with_reducible rfl))
            try simp only [Act.put]; try simp only [lA]; try simp only [lB]; try simp only [lC]
            refine rd1 7 rfl fun Kc hK => ?_
            go_simp
            refine hK.out _ _ trivial (fun hHeld => ?_)
            clear hK Kc
            try simp only [Act.put]; try simp only [lA]; try simp only [lB]; try simp only [lC]
            refine rd1 8 rfl fun Kc hK => ?_
            have HP3 := hidP (HP.out.call HK3.out HD3.out)
            have HA3 := hidP (HA.out.kpn (by decide) HK3.out HLp.out)
            refine step_append_anyN _ rfl (.tmp 51) (.tmp 57) 25 25 rfl 70 (.agg #[.string ⟨#[]⟩, .string ⟨#[]⟩]) 2 32 Tryz.underlying25 info59 rfl _ acc.length (acc.flatMap ncel) rfl (HA3.out.own.alloc _) _ 1 [.string k0, .string t0] rfl (src59 Ub k0 t0) (by (try simp); omega) (by (try simp); omega) ?_
            intro v' w1 hown hgrow hblk
            obtain ⟨no', nc', rfl⟩ := own_formK hown
            obtain ⟨q1, z1, hP4, hA4⟩ := note_push HP3.out HA3.out hown hgrow hblk
            have HP4 := hidP hP4
            have HA4 := hidP hA4
            clear hown hgrow hblk hP4 hA4
            refine hK.out _ _ trivial (fun hHeld => ?_)
            clear hK Kc
            try simp only [Act.put]; try simp only [lA]; try simp only [lB]; try simp only [lC]
            refine wpAnyH_take (i := 9) (v := ?v9r4b41) rfl (by kernel_rfl) (by kernel_rfl) (by kernel_rfl) (fun _ _ _ h => by cases h.1) (Or.inl ⟨by rfl, ?y9r4b41⟩) (by assumption) ?r9r4b41
            case y9r4b41 => (intro w hSw; go_simp; (try with_reducible rfl))
            try simp only [Act.put]; try simp only [lA]; try simp only [lB]; try simp only [lC]
            refine rd1 10 rfl fun Kc hK => ?_
            go_simp
            refine hK.out _ _ trivial (fun hHeld => ?_)
            clear hK Kc
            try simp only [Act.put]; try simp only [lA]; try simp only [lB]; try simp only [lC]
            refine wpAnyH_done (by kernel_rfl) ?_ _
            exact ⟨rfl, _, _, _, _, _, _, _, _, _, _, k0, t0, no', nc', rfl, HP4.out, HA4.out, Hv2.out, Hv3.out⟩
          go_simp
          go_at_call 27
          refine Calls.mono (HTx.out Ua (qs (bnd (.ok (a2, g0)) (quotedP s.data.toList))) HD2.out (fun st _ => by omega)) ?_
          intro e' Ub hp
          obtain ⟨t0, rfl, hk, hD, hv⟩ := str_post hp
          have HK3 : Hid (KpN U2 Ub p) := HK2.out.tr hk
          have HD3 := hidP hD
          have Hv3 := hidP hv
          clear hp hk hD hv
          go_wp2_with fail
          refine hK.out _ _ trivial (fun hHeld => ?_)
          clear hK Kc
          try simp only [Act.put]; try simp only [lA]; try simp only [lB]; try simp only [lC]
          refine wpAnyH_take (i := 6) (v := ?v6r4b71) rfl (by kernel_rfl) (by kernel_rfl) (by kernel_rfl) (fun _ _ _ h => by cases h.1) (Or.inl ⟨by rfl, ?y6r4b71⟩) (by assumption) ?r6r4b71
          case y6r4b71 => (intro w hSw; go_simp; (try with_reducible rfl))
          try simp only [Act.put]; try simp only [lA]; try simp only [lB]; try simp only [lC]
          refine rd2 1 7 rfl rfl (fun Kc hK => ?_) fun Kc hK => ?_
          · have c1 := HC.out Ub (HK3.out)
            go_simp
            clear c1
            refine hK.out _ _ trivial (fun hHeld => ?_)
            clear hK Kc
            try simp only [Act.put]; try simp only [lA]; try simp only [lB]; try simp only [lC]
            refine rd1 7 rfl fun Kc hK => ?_
            go_simp
            refine hK.out _ _ trivial (fun hHeld => ?_)
            clear hK Kc
            try simp only [Act.put]; try simp only [lA]; try simp only [lB]; try simp only [lC]
            refine rd1 8 rfl fun Kc hK => ?_
            have HP3 := hidP (HP.out.call HK3.out HD3.out)
            have HA3 := hidP (HA.out.kpn (by decide) HK3.out HLp.out)
            refine step_append_anyN _ rfl (.tmp 51) (.tmp 57) 25 25 rfl 70 (.agg #[.string ⟨#[]⟩, .string ⟨#[]⟩]) 2 32 Tryz.underlying25 info59 rfl _ acc.length (acc.flatMap ncel) rfl (HA3.out.own.alloc _) _ 1 [.string k0, .string t0] rfl (src59 Ub k0 t0) (by (try simp); omega) (by (try simp); omega) ?_
            intro v' w1 hown hgrow hblk
            obtain ⟨no', nc', rfl⟩ := own_formK hown
            obtain ⟨q1, z1, hP4, hA4⟩ := note_push HP3.out HA3.out hown hgrow hblk
            have HP4 := hidP hP4
            have HA4 := hidP hA4
            clear hown hgrow hblk hP4 hA4
            refine hK.out _ _ trivial (fun hHeld => ?_)
            clear hK Kc
            try simp only [Act.put]; try simp only [lA]; try simp only [lB]; try simp only [lC]
            refine wpAnyH_take (i := 9) (v := ?v9r4b51) rfl (by kernel_rfl) (by kernel_rfl) (by kernel_rfl) (fun _ _ _ h => by cases h.1) (Or.inl ⟨by rfl, ?y9r4b51⟩) (by assumption) ?r9r4b51
            case y9r4b51 => (intro w hSw; go_simp; (try with_reducible rfl))
            try simp only [Act.put]; try simp only [lA]; try simp only [lB]; try simp only [lC]
            refine rd1 10 rfl fun Kc hK => ?_
            go_simp
            refine hK.out _ _ trivial (fun hHeld => ?_)
            clear hK Kc
            try simp only [Act.put]; try simp only [lA]; try simp only [lB]; try simp only [lC]
            refine wpAnyH_done (by kernel_rfl) ?_ _
            exact ⟨rfl, _, _, _, _, _, _, _, _, _, _, k0, t0, no', nc', rfl, HP4.out, HA4.out, Hv2.out, Hv3.out⟩
          go_simp
          refine hK.out _ _ trivial (fun hHeld => ?_)
          clear hK Kc
          try simp only [Act.put]; try simp only [lA]; try simp only [lB]; try simp only [lC]
          refine rd1 1 rfl fun Kc hK => ?_
          have c1 := HC.out _ (HK3.out.tr (Gr.n p (gr_alloc Ub (.cells #[.string k0, .string t0] 70))))
          go_simp
          clear c1
          refine hK.out _ _ trivial (fun hHeld => ?_)
          clear hK Kc
          try simp only [Act.put]; try simp only [lA]; try simp only [lB]; try simp only [lC]
          refine rd1 8 rfl fun Kc hK => ?_
          have HP3 := hidP (HP.out.call HK3.out HD3.out)
          have HA3 := hidP (HA.out.kpn (by decide) HK3.out HLp.out)
          refine step_append_anyN _ rfl (.tmp 51) (.tmp 57) 25 25 rfl 70 (.agg #[.string ⟨#[]⟩, .string ⟨#[]⟩]) 2 32 Tryz.underlying25 info59 rfl _ acc.length (acc.flatMap ncel) rfl (HA3.out.own.alloc _) _ 1 [.string k0, .string t0] rfl (src59 Ub k0 t0) (by (try simp); omega) (by (try simp); omega) ?_
          intro v' w1 hown hgrow hblk
          obtain ⟨no', nc', rfl⟩ := own_formK hown
          obtain ⟨q1, z1, hP4, hA4⟩ := note_push HP3.out HA3.out hown hgrow hblk
          have HP4 := hidP hP4
          have HA4 := hidP hA4
          clear hown hgrow hblk hP4 hA4
          refine hK.out _ _ trivial (fun hHeld => ?_)
          clear hK Kc
          try simp only [Act.put]; try simp only [lA]; try simp only [lB]; try simp only [lC]
          refine wpAnyH_take (i := 9) (v := ?v9r4b61) rfl (by kernel_rfl) (by kernel_rfl) (by kernel_rfl) (fun _ _ _ h => by cases h.1) (Or.inl ⟨by rfl, ?y9r4b61⟩) (by assumption) ?r9r4b61
          case y9r4b61 => (intro w hSw; go_simp; (try with_reducible rfl))
          try simp only [Act.put]; try simp only [lA]; try simp only [lB]; try simp only [lC]
          refine rd1 10 rfl fun Kc hK => ?_
          go_simp
          refine hK.out _ _ trivial (fun hHeld => ?_)
          clear hK Kc
          try simp only [Act.put]; try simp only [lA]; try simp only [lB]; try simp only [lC]
          refine wpAnyH_done (by kernel_rfl) ?_ _
          exact ⟨rfl, _, _, _, _, _, _, _, _, _, _, k0, t0, no', nc', rfl, HP4.out, HA4.out, Hv2.out, Hv3.out⟩
        intro e a' w'
        rintro ⟨rfl, v0, v1, v2, v3, v4, v5, v6, v7, v8, v9, k0, t0, no', nc', rfl, HP', HA', Hv⟩
        simp only [Act.put, List.setIfInBounds_toArray, List.set_cons_succ, List.set_cons_zero]
        have hs1 : bnd (.ok (a2, g0)) ((quotedP s.data.toList).bind fun k => (quotedP s.data.toList).bind fun t => G2 (α := Unit) s.data.toList l n (acc ++ [(k, t)])) = bnd (qs (bnd (.ok (a2, g0)) (quotedP s.data.toList))) ((quotedP s.data.toList).bind fun t => G2 (α := Unit) s.data.toList l n (acc ++ [(k0, t)])) := bnd_step (f := fun k => (quotedP s.data.toList).bind fun t => G2 (α := Unit) s.data.toList l n (acc ++ [(k, t)])) (n := k0) Hv.out.1
        have hs2 : bnd (qs (bnd (.ok (a2, g0)) (quotedP s.data.toList))) ((quotedP s.data.toList).bind fun t => G2 (α := Unit) s.data.toList l n (acc ++ [(k0, t)])) = bnd (qs (bnd (qs (bnd (.ok (a2, g0)) (quotedP s.data.toList))) (quotedP s.data.toList))) (G2 (α := Unit) s.data.toList l n (acc ++ [(k0, t0)])) := bnd_step (f := fun t => G2 (α := Unit) s.data.toList l n (acc ++ [(k0, t)])) (n := t0) Hv.out.2
        have hs3 : R = bnd (qs (bnd (qs (bnd (.ok (a2, g0)) (quotedP s.data.toList))) (quotedP s.data.toList))) (G2 (α := Unit) s.data.toList l n (acc ++ [(k0, t0)])) := HR.out.trans (hs1.trans hs2)
        have HRn := hidP hs3
        clear hs3
        clear hs1 hs2
        have HYn : Hid (∀ st, (qs (bnd (qs (bnd (.ok (a2, g0)) (quotedP s.data.toList))) (quotedP s.data.toList))) = .ok st → ∃ l st0, y0 = .ok (l, st0)) := fun st e => by obtain ⟨_, e1⟩ := qs_from e; obtain ⟨_, e2⟩ := qs_from e1; exact HY.out _ e2
        have HGn : Hid (∀ st, (qs (bnd (qs (bnd (.ok (a2, g0)) (quotedP s.data.toList))) (quotedP s.data.toList))) = .ok st → ∃ st0, ((.ok (a2, g0)) : Except Nat Ps) = .ok st0 ∧ st0.1 ≤ st.1) := fun st e => quo2_ge e
        have Hm3 := hidP HP'.out.ds.m
        have hps3 := HP'.out.ds.pos
        generalize (qs (bnd (qs (bnd (.ok (a2, g0)) (quotedP s.data.toList))) (quotedP s.data.toList))) = q3 at HP' HRn HYn HGn Hm3 hps3
        have hm0 : mq s (.ok (a0, g0)) = s.size + 1 - (a0 + skN (s.data.toList.drop a0)) := rfl
        have Hdec : Hid (mq s q3 < mq s (.ok (a0, g0))) := by
          show mq s q3 < _
          rw [hm0]
          cases q3 with
          | error o => show 0 < _; omega
          | ok st =>
            obtain ⟨st0, e0, hl0⟩ := HGn.out st rfl
            cases e0
            have hl1 : a2 ≤ st.1 := hl0
            show s.size + 1 - (st.1 + skN (s.data.toList.drop st.1)) < _
            omega
        go_wp2_with fail
        go_roundw
        case rel =>
          obtain ⟨m, hm1, hm2, hm3⟩ := g2_more HRn.out HGn.out (n := n) (s := s) (a0 := a0) hn2a (by omega) hp23
          exact ⟨m, q3, acc ++ [(k0, t0)], no', nc', by simp; omega, HP'.out, HA'.out, hm1, HYn.out, fun st e => ⟨hm2 st e, by obtain ⟨st0, e0, hl0⟩ := HGn.out st e; cases e0; have hl1 : a2 ≤ st.1 := hl0; simp; omega⟩, hm3⟩
        case measure =>
          have h1 := Hm3.out
          have h2 := Hm.out
          rw [h2]
          refine Nat.lt_of_le_of_lt (Nat.le_of_eq h1) Hdec.out
end Go.Proofs.YtkodgneneiledaaGreatDoor.Kit
