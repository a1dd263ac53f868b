import Derived.Test.YtemleibpmaclmaaSM
namespace Go.Proofs.Ytemleibpmaclmaa.Kit
open Go.RowKit Go.Shelf Go.Deep
set_option linter.unusedVariables false
attribute [local go_sem] run_store_func

theorem results_cell3 {fn : Func} {t a b : Tmp} {ty : TypeId} {tmps : Array Value} {ad : Addr} {v : Value} {w : World} (h : fn.results = #[.cell t ty, .tmp a, .tmp b]) (ht : tmps.getD t undef = .pointer (some ad)) (hl : (loadVar ty ad).run Try.prog w = .ok v w) : (results fn tmps).run Try.prog w = .ok (.tuple #[v, tmps.getD a undef, tmps.getD b undef]) w := by
  unfold results
  rw [h]
  simp only [Array.mapM_eq_mapM_toList, List.mapM_cons, List.mapM_nil, ht]
  simp [asAddr, hl]
set_option maxRecDepth 100000 in
set_option maxHeartbeats 8000000 in
theorem next_no {w W : World} {p : Nat} {sh : Bool} {y : Value} {s : Sc} {R : Nat → Row} {wo : Option Addr} {wc : Nat} (h : Rd w W p 76 [.bool sh, y] s R wo wc) (hst : s.st ≤ 100) (hn : (standsF s sh).1 ≠ 2) :
    Calls Try.prog 17 #[.pointer (some ⟨p, 0, none⟩)] W fun e w' => e = .returned (.tuple #[.agg #[.slice none 0 0, .slice none 0 0], .int .i64 (standsF s sh).1, .int .i64 (standsF s sh).2]) ∧ Gr W w' := by
  obtain ⟨a, ha⟩ : ∃ a, a = (standsF s sh).1 := ⟨_, rfl⟩
  obtain ⟨b, hb⟩ : ∃ a, a = (standsF s sh).2 := ⟨_, rfl⟩
  have HS : Hid (∀ V, Gr W V → Calls Try.prog 37 #[.pointer (some ⟨p, 0, none⟩)] V fun e w' => e = .returned (.tuple #[.int .i64 a, .int .i64 b]) ∧ Gr V w') := fun V g => by rw [ha, hb]; exact stands_any (h.grow g) hst
  rw [← ha] at hn ⊢
  rw [← hb]
  have hnI : (a != 2) = true := by simpa using hn
  clear h ha hb hn
  have hra := heap_alloc_new W (.cells #[.slice none 0 0, .slice none 0 0] 24)
  have gA := gr_alloc W (.cells #[.slice none 0 0, .slice none 0 0] 24)
  go_enter Try.func17, Try.ntmps17
  go_wp2_with (go_at_call 37; refine Hid.out ?_)
  unfold Hid
  refine Calls.mono (HS.out _ gA) ?_
  rintro e V ⟨rfl, gV⟩
  obtain ⟨ra, hrae⟩ : ∃ ra, ra = W.heap.size := ⟨_, rfl⟩
  rw [← hrae] at hra ⊢
  have hraV := (gV.block ra (lt_of_heap hra) id).trans hra
  have HGV := hidM (gA.trans gV (fun _ _ h => h))
  have HRa : Hid (W.heap.size ≤ ra) := by show _ ≤ _; omega
  clear gA gV hra hrae HS
  go_wp2_with (with_reducible show wpList Try.prog _ _ (Oper.mk none (Op.store 24 (Operand.tmp 2) _) _ _ _ _ :: _) _ _; refine Hid.out ?_)
  unfold Hid
  refine wpList_store_off rfl 24 (.tmp 2) (.tmp 15) rfl ra 0 #[.slice none 0 0, .slice none 0 0] hraV (by rfl) (by rfl) (by simp) (by kernel_rfl) (by simp [Value.oneCell']) ?_
  obtain ⟨F, hF⟩ : ∃ F, F = V.setRow ra ((#[.slice none 0 0, .slice none 0 0] : Array Value).toList.take 0 ++ (#[.slice none 0 0, .slice none 0 0] : Array Value).toList ++ (#[.slice none 0 0, .slice none 0 0] : Array Value).toList.drop (0 + (#[.slice none 0 0, .slice none 0 0] : Array Value).size)).toArray := ⟨_, rfl⟩
  rw [← hF]
  have hbF : F.heap[ra]? = some (.cells #[.slice none 0 0, .slice none 0 0] 24 (0, 0)) := by rw [hF]; exact setRow_heap V ra _ _ 24 (0, 0) hraV
  have hkF : Gr W F := by
    have k1 : Keeps V F (fun z => z = ra) := by rw [hF]; exact ⟨rfl, rfl, rfl, by simp, fun kk hk hn => setRow_other V ra kk _ hn⟩
    exact HGV.out.trans k1 (fun j hj e => by have := HRa.out; omega)
  have HKF := hidM hkF
  have hld : (loadVar 24 ⟨ra, 0, none⟩).run Try.prog F = .ok (.agg #[.slice none 0 0, .slice none 0 0]) F := by
    refine run_loadVar_mid F ra 0 24 [.slice none 0 0, .slice none 0 0] _ (fun j v hj => ?_) Try.underlying24 rfl (by kernel_rfl)
    rw [Nat.zero_add]
    simp only [World.cell?, hbF]
    simpa using hj
  clear hF hbF hkF hraV
  go_wp2_with fail
  refine bodyPost_ret (v := .tuple #[.agg #[.slice none 0 0, .slice none 0 0], .int .i64 a, .int .i64 b]) ?_ rfl ⟨rfl, HKF.out⟩
  exact results_cell3 (t := 2) (a := 3) (b := 4) (ty := 24) rfl rfl hld
theorem From.pre {w W V1 V : World} {p T : Nat} {tl : List Value} {n : Nat} {R : Nat → Row} {wo : Option Addr} {wc : Nat} {s' : Sc} {R' : Nat → Row} {wo' : Option Addr} {wc' : Nat} (g : Gr W V1) (h : From w V1 V p T tl n R wo wc s' R' wo' wc') : From w W V p T tl n R wo wc s' R' wo' wc' :=
  ⟨h.rd, (g.mono fun _ _ f => f.elim).trans h.kp (fun _ _ e => e), fun x e => (h.bk x e).imp id fun q => Nat.le_trans g.size q⟩
theorem From.kp' {w W V V' : World} {p T : Nat} {tl : List Value} {n : Nat} {R : Nat → Row} {wo : Option Addr} {wc : Nat} {s' : Sc} {R' : Nat → Row} {wo' : Option Addr} {wc' ra : Nat} (h : From w W V p T tl n R wo wc s' R' wo' wc') (k : Keeps V V' (fun z => z = ra)) (hww : w.heap.size ≤ W.heap.size) (hra : W.heap.size ≤ ra) (hnr : ¬ RIs p s'.ms.length R' wo' wc' ra) : From w W V' p T tl n R wo wc s' R' wo' wc' :=
  ⟨h.rd.kp (fun x e => k.block x (h.rd.lt e) (fun z => hnr (z ▸ e))) (h.rd.gr.trans k (fun j hj e => by omega)), h.kp.trans k (fun j hj e => by omega), h.bk⟩
def oneSize (R : Nat → Row) : Nat := 24 + up8 (R 3).2.1 + up8 (R 4).2.1
set_option maxRecDepth 100000 in
set_option maxHeartbeats 16000000 in
theorem next_one {w W : World} {p n hd : Nat} {sh : Bool} {s : Sc} {R : Nat → Row} {wo : Option Addr} {wc : Nat} (h : Rd w W p 76 [.bool sh, .int .i64 (hd : Int)] s R wo wc) (hst : s.st ≤ 100) (hn : s.ms.length = n + 1) (h3 : (R 3).2.1 ≤ 100000000) (h4 : (R 4).2.1 ≤ 100000000) (hhd : hd ≤ 1000000000000) :
    Calls Try.prog 17 #[.pointer (some ⟨p, 0, none⟩)] W fun e w' => e = .returned (.tuple #[.agg #[rv (R 3), rv (R 4)], .int .i64 2, .int .i64 0]) ∧ ∃ wo' wc', From w W w' p 76 [.bool sh, .int .i64 ((hd : Int) - oneSize R)] s.ms.length R wo wc (popF s) (pop2 R) wo' wc' ∧
      (∀ i, i = 3 ∨ i = 4 → w'.ownsRow 0 5 1 (rv (R i)) (R i).2.1 (bv (s.row i)) ∧ ∀ x, (rv (R i)).ownBlock = some x → w.heap.size ≤ x ∧ ¬ RIs p (popF s).ms.length (pop2 R) wo' wc' x) ∧ (∀ x, (rv (R 3)).ownBlock = some x → (rv (R 4)).ownBlock ≠ some x) := by
  obtain ⟨m1, m2, m3, hR3⟩ : ∃ a b c, R 3 = (a, b, c) := ⟨_, _, _, rfl⟩
  obtain ⟨b1, b2, b3, hR4⟩ : ∃ a b c, R 4 = (a, b, c) := ⟨_, _, _, rfl⟩
  have hst2 : standsF s sh = (2, 0) := by unfold standsF; rw [if_pos (by omega)]
  have HS : Hid (∀ V, Gr W V → Calls Try.prog 37 #[.pointer (some ⟨p, 0, none⟩)] V fun e w' => e = .returned (.tuple #[.int .i64 2, .int .i64 0]) ∧ Gr V w') := fun V g => by have := stands_any (h.grow g) hst; rw [hst2] at this; exact this
  have HFi : Hid (∀ V, Gr W V → Calls Try.prog 38 #[.pointer (some ⟨p, 0, none⟩)] V fun e w' => e = .returned (.agg #[.slice m1 m2 m3, .slice b1 b2 b3]) ∧ Told w V w' p [.bool sh, .int .i64 (hd : Int)] s R wo wc) := fun V g => by have := first_any (h.grow g) hn; rw [hR3, hR4] at this; exact this
  obtain ⟨sz, hsz⟩ : ∃ sz, sz = oneSize R := ⟨_, rfl⟩
  have hsz' : sz = 24 + up8 m2 + up8 b2 := by rw [hsz]; unfold oneSize; rw [hR3, hR4]
  rw [hR3] at h3
  rw [hR4] at h4
  have h3' : m2 ≤ 100000000 := h3
  have h4' : b2 ≤ 100000000 := h4
  have HSz : Hid (∀ V, Calls Try.prog 39 #[.agg #[.slice m1 m2 m3, .slice b1 b2 b3]] V fun e w' => e = .returned (.int .i64 (sz : Int)) ∧ Gr V w') := fun V => by rw [hsz']; exact size_any V (by omega) (by omega)
  have hszb : sz ≤ 1000000000 := by have := up8_ge m2; have := up8_ge b2; omega
  have HSe := hidM hsz
  rw [← hsz]
  have HR := hidM h
  have HR3 := hidM hR3
  have HR4 := hidM hR4
  have hra := heap_alloc_new W (.cells #[.slice none 0 0, .slice none 0 0] 24)
  have gA := gr_alloc W (.cells #[.slice none 0 0, .slice none 0 0] 24)
  clear h hst2 hsz hsz' h3 h4 hR3 hR4
  go_enter Try.func17, Try.ntmps17
  go_wp2_with (go_at_call 37; refine Hid.out ?_)
  unfold Hid
  refine Calls.mono (HS.out _ gA) ?_
  rintro e V1 ⟨rfl, g1⟩
  obtain ⟨ra, hrae⟩ : ∃ ra, ra = W.heap.size := ⟨_, rfl⟩
  rw [← hrae] at hra ⊢
  have hra1 := (g1.block ra (lt_of_heap hra) id).trans hra
  have HG1 := hidM (gA.trans g1 (fun _ _ h => h))
  have HRa : Hid (W.heap.size ≤ ra ∧ ra < V1.heap.size ∧ ra = W.heap.size) := ⟨by omega, lt_of_heap hra1, hrae⟩
  clear gA g1 hra hrae HS
  go_wp2_with (go_at_call 38; refine Hid.out ?_)
  unfold Hid
  refine Calls.mono (HFi.out _ HG1.out) ?_
  rintro e V3 ⟨rfl, wo', wc', hF, hT, hT2⟩
  have HF := hidM hF
  have HT := hidM hT
  have HT2 := hidM hT2
  have hnr : ¬ RIs p s.ms.length R wo wc ra := fun z => by have := HR.out.lt z; have := HRa.out; omega
  have hnr' : ¬ RIs p (popF s).ms.length (pop2 R) wo' wc' ra := fun z => by
    rcases hF.bk ra z with q | q
    · exact hnr q
    · have := HRa.out; omega
  have hra3 := (hF.kp.block ra (by have := HRa.out; omega) hnr).trans hra1
  have HNr := hidM hnr'
  clear hF hT hT2 hnr hnr' hra1 HFi
  have gD := gr_alloc V3 (.cells #[.slice m1 m2 m3, .slice b1 b2 b3] 24)
  have hrb := heap_alloc_new V3 (.cells #[.slice m1 m2 m3, .slice b1 b2 b3] 24)
  go_wp2_with fail
  obtain ⟨D, hD⟩ : ∃ D, D = V3.alloc (.cells #[.slice m1 m2 m3, .slice b1 b2 b3] 24) := ⟨_, rfl⟩
  obtain ⟨rb, hrbe⟩ : ∃ rb, rb = V3.heap.size := ⟨_, rfl⟩
  rw [← hD] at gD hrb
  rw [← hrbe] at hrb
  simp only [← hD, ← hrbe]
  have hraD := (gD.block ra (lt_of_heap hra3) id).trans hra3
  have hrab : ra < rb := by have := lt_of_heap hra3; omega
  have hrbp : rb ≠ p := fun e => by have := HF.out.rd.lt (.inl rfl : RIs p (popF s).ms.length (pop2 R) wo' wc' p); omega
  have HFD := hidM (HF.out.gr gD)
  have HTD : Hid (∀ i, i = 3 ∨ i = 4 → D.ownsRow 0 5 1 (rv (R i)) (R i).2.1 (bv (s.row i))) := fun i hi => own_gr (HT.out i hi).1 gD
  obtain ⟨c0, c1⟩ := ce2 hrb
  have t13a : D.cell? ⟨p, 13, none⟩ = some (.int .i64 (hd : Int)) := HFD.out.rd.cells rfl
  have gDd : Gr D D.drew := (Keeps.refl D _).drew
  have HIN : Hid (D.drew.cell? ⟨rb, 0, none⟩ = some (.slice m1 m2 m3) ∧ D.drew.cell? ⟨rb, 1, none⟩ = some (.slice b1 b2 b3)) := ⟨c0, c1⟩
  have HKp : Hid (∀ V, Gr D.drew V → (V.cell? ⟨rb, 0, none⟩ = some (.slice m1 m2 m3) ∧ V.cell? ⟨rb, 1, none⟩ = some (.slice b1 b2 b3))) := fun V k => ⟨k.cell' c0 id, k.cell' c1 id⟩
  have HC13 : Hid (∀ V, Gr D.drew V → V.cell? ⟨p, 13, none⟩ = some (.int .i64 (hd : Int))) := fun V k => k.cell' t13a id
  have HFz : Hid (∀ V, Gr D.drew V → V.frozen? ⟨p, 13, none⟩ = false) := fun V k => frz (HFD.out.gr (gDd.trans k (fun _ _ h => h))).rd.box 13
  have HFin : Hid (∀ V, Gr D.drew V → (V.setCell ⟨p, 13, none⟩ (.int .i64 ((hd : Int) - (sz : Int)))).cell? ⟨rb, 0, none⟩ = some (.slice m1 m2 m3) ∧ (V.setCell ⟨p, 13, none⟩ (.int .i64 ((hd : Int) - (sz : Int)))).cell? ⟨rb, 1, none⟩ = some (.slice b1 b2 b3) ∧ (V.setCell ⟨p, 13, none⟩ (.int .i64 ((hd : Int) - (sz : Int)))).heap[ra]? = some (.cells #[.slice none 0 0, .slice none 0 0] 24 (0, 0)) ∧ Hid (From w W (V.setCell ⟨p, 13, none⟩ (.int .i64 ((hd : Int) - (sz : Int)))) p 76 [.bool sh, .int .i64 ((hd : Int) - (sz : Int))] s.ms.length R wo wc (popF s) (pop2 R) wo' wc' ∧ ∀ i, i = 3 ∨ i = 4 → (V.setCell ⟨p, 13, none⟩ (.int .i64 ((hd : Int) - (sz : Int)))).ownsRow 0 5 1 (rv (R i)) (R i).2.1 (bv (s.row i)))) := fun V k => by
    have gk := gDd.trans k (fun _ _ h => h)
    have hFV := HFD.out.gr gk
    have oth : ∀ z, z ≠ p → (V.setCell ⟨p, 13, none⟩ (.int .i64 ((hd : Int) - (sz : Int)))).heap[z]? = V.heap[z]? := fun z hz => heap_setCell_other V ⟨p, 13, none⟩ z _ hz
    have hb := (oth rb hrbp).trans ((gk.block rb (lt_of_heap hrb) id).trans hrb)
    obtain ⟨d0, d1⟩ := ce2 hb
    have hrp : ra ≠ p := fun e => HNr.out (.inl e)
    refine ⟨d0, d1, (oth ra hrp).trans ((gk.block ra (lt_of_heap hraD) id).trans hraD), (hFV.set (j := 13) rfl rfl (fun _ => rfl)).pre HG1.out, fun i hi => ?_⟩
    have o := own_gr (HTD.out i hi) gk
    exact own_kp o fun z e => oth z (fun q => by
      subst q
      exact ((HT.out i hi).2 z e).2 (.inl rfl))
  have hwz : IntKind.i64.wrap ((hd : Int) - (sz : Int)) = (hd : Int) - (sz : Int) := by rw [IntKind.wrap_i64]; omega
  clear hD hrbe gD hrb c0 c1 hraD hra3 HF HFD HTD gDd
  refine wp_region_held_drew (S := fun w' => w'.cell? ⟨rb, 0, none⟩ = some (.slice m1 m2 m3) ∧ w'.cell? ⟨rb, 1, none⟩ = some (.slice b1 b2 b3)) (by kernel_rfl) (HIN.out) (fun hHeld => ?_)
  refine wpAnyH_take (i := 0) (oi := { dst := some 22, op := Op.move (Operand.tmp 0), type := 42, pos := "frame.go:55", after := #[], guard := none }) (v := ?v0a1) rfl (by kernel_rfl) (by kernel_rfl) (by kernel_rfl) (fun _ _ _ h => h) (Or.inl ⟨by rfl, ?y0a1⟩) (by assumption) ?r0a1
  case y0a1 => (intro w hSw; obtain ⟨s1, s2⟩ := hSw; go_simp; (try with_reducible rfl))
  (try simp only [Act.put]); (try simp only [List.setIfInBounds_toArray]); (try simp only [List.set_cons_succ]); (try simp only [List.set_cons_zero])
  refine wpAnyH_take (i := 1) (oi := { dst := some 23, op := Op.nilCheck (Operand.tmp 22), type := 0, pos := "frame.go:55", after := #[{ on := 0, ground := Ground.data }], guard := none }) (v := ?v1a2) rfl (by kernel_rfl) (by kernel_rfl) (by kernel_rfl) (fun _ _ _ h => h) (Or.inl ⟨by rfl, ?y1a2⟩) (by assumption) ?r1a2
  case y1a2 => (intro w hSw; obtain ⟨s1, s2⟩ := hSw; go_simp; (try with_reducible rfl))
  (try simp only [Act.put]); (try simp only [List.setIfInBounds_toArray]); (try simp only [List.set_cons_succ]); (try simp only [List.set_cons_zero])
  refine wpAnyH_take (i := 2) (oi := { dst := some 24, op := Op.fieldAddr 76 (Operand.tmp 23) 2, type := 0, pos := "frame.go:55", after := #[{ on := 1, ground := Ground.data }], guard := none }) (v := ?v2a3) rfl (by kernel_rfl) (by kernel_rfl) (by kernel_rfl) (fun _ _ _ h => h) (Or.inl ⟨by rfl, ?y2a3⟩) (by assumption) ?r2a3
  case y2a3 => (intro w hSw; obtain ⟨s1, s2⟩ := hSw; go_simp; (try with_reducible rfl))
  (try simp only [Act.put]); (try simp only [List.setIfInBounds_toArray]); (try simp only [List.set_cons_succ]); (try simp only [List.set_cons_zero])
  refine wpAnyH_take (i := 4) (oi := { dst := some 26, op := Op.load 24 (Operand.tmp 7), type := 24, pos := "frame.go:55", after := #[], guard := none }) (v := ?v4a4) rfl (by kernel_rfl) (by kernel_rfl) (by kernel_rfl) (fun _ _ _ h => h) (Or.inl ⟨by rfl, ?y4a4⟩) (by assumption) ?r4a4
  case y4a4 => (intro w hSw; obtain ⟨s1, s2⟩ := hSw; go_simp; (try with_reducible rfl))
  (try simp only [Act.put]); (try simp only [List.setIfInBounds_toArray]); (try simp only [List.set_cons_succ]); (try simp only [List.set_cons_zero])
  refine wpAnyH_ready (rs := [3, 5]) (by kernel_rfl) (by simp) ?_
  refine AllReadyH.cons (o := { dst := some 25, op := Op.load 3 (Operand.tmp 24), type := 3, pos := "frame.go:55", after := #[{ on := 2, ground := Ground.data }], guard := none }) rfl (fun Kc hK => ?_) ?_
  go_simp
  refine hK.out _ _ hHeld (fun hHeld => ?_)
  clear hK Kc
  (try simp only [Act.put]); (try simp only [List.setIfInBounds_toArray]); (try simp only [List.set_cons_succ]); (try simp only [List.set_cons_zero])
  refine wpAnyH_ready (rs := [5]) (by kernel_rfl) (by simp) ?_
  refine AllReadyH.cons (o := { dst := some 27, op := Op.call { callee := Callee.value (Operand.func 39), args := #[Operand.tmp 26], argTypes := #[24] }, type := 3, pos := "frame.go:55", after := #[{ on := 4, ground := Ground.data }], guard := none }) rfl (fun Kc hK => ?_) AllReadyH.nil
  go_simp
  go_at_call 39
  refine Calls.mono (HSz.out _) ?_
  rintro e' V4 ⟨rfl, gV4⟩
  go_wp2_with fail
  refine hK.out _ _ (HKp.out V4 gV4) (fun hHeld => ?_)
  clear hK Kc
  (try simp only [Act.put]); (try simp only [List.setIfInBounds_toArray]); (try simp only [List.set_cons_succ]); (try simp only [List.set_cons_zero])
  rotate_left
  refine AllReadyH.cons (o := { dst := some 27, op := Op.call { callee := Callee.value (Operand.func 39), args := #[Operand.tmp 26], argTypes := #[24] }, type := 3, pos := "frame.go:55", after := #[{ on := 4, ground := Ground.data }], guard := none }) rfl (fun Kc hK => ?_) AllReadyH.nil
  go_simp
  go_at_call 39
  refine Calls.mono (HSz.out _) ?_
  rintro e' V4 ⟨rfl, gV4⟩
  go_wp2_with fail
  refine hK.out _ _ (HKp.out V4 gV4) (fun hHeld => ?_)
  clear hK Kc
  (try simp only [Act.put]); (try simp only [List.setIfInBounds_toArray]); (try simp only [List.set_cons_succ]); (try simp only [List.set_cons_zero])
  have t13b := (HC13.out V4 gV4)
  refine wpAnyH_ready (rs := [3]) (by kernel_rfl) (by simp) ?_
  refine AllReadyH.cons (o := { dst := some 25, op := Op.load 3 (Operand.tmp 24), type := 3, pos := "frame.go:55", after := #[{ on := 2, ground := Ground.data }], guard := none }) rfl (fun Kc hK => ?_) AllReadyH.nil
  go_simp
  refine hK.out _ _ hHeld (fun hHeld => ?_)
  clear hK Kc
  (try simp only [Act.put]); (try simp only [List.setIfInBounds_toArray]); (try simp only [List.set_cons_succ]); (try simp only [List.set_cons_zero])
  · refine wpAnyH_take (i := 6) (oi := { dst := some 28, op := Op.binOp BinOp.sub 3 (Operand.tmp 25) (Operand.tmp 27) 3, type := 3, pos := "frame.go:55", after := #[{ on := 3, ground := Ground.data }, { on := 5, ground := Ground.data }], guard := none }) (v := ?v6b1) rfl (by kernel_rfl) (by kernel_rfl) (by kernel_rfl) (fun _ _ _ h => h) (Or.inl ⟨by rfl, ?y6b1⟩) (by assumption) ?r6b1
    case y6b1 => (intro w hSw; obtain ⟨s1, s2⟩ := hSw; go_simp; (try with_reducible rfl))
    (try simp only [Act.put]); (try simp only [List.setIfInBounds_toArray]); (try simp only [List.set_cons_succ]); (try simp only [List.set_cons_zero])
    refine wpAnyH_take (i := 7) (oi := { dst := some 29, op := Op.nilCheck (Operand.tmp 22), type := 0, pos := "frame.go:55", after := #[{ on := 0, ground := Ground.data }, { on := 0, ground := Ground.phase }, { on := 1, ground := Ground.phase }, { on := 2, ground := Ground.phase }, { on := 3, ground := Ground.phase }, { on := 4, ground := Ground.phase }, { on := 5, ground := Ground.phase }, { on := 6, ground := Ground.phase }], guard := none }) (v := ?v7b2) rfl (by kernel_rfl) (by kernel_rfl) (by kernel_rfl) (fun _ _ _ h => h) (Or.inl ⟨by rfl, ?y7b2⟩) (by assumption) ?r7b2
    case y7b2 => (intro w hSw; obtain ⟨s1, s2⟩ := hSw; go_simp; (try with_reducible rfl))
    (try simp only [Act.put]); (try simp only [List.setIfInBounds_toArray]); (try simp only [List.set_cons_succ]); (try simp only [List.set_cons_zero])
    refine wpAnyH_take (i := 8) (oi := { dst := some 30, op := Op.fieldAddr 76 (Operand.tmp 29) 2, type := 0, pos := "frame.go:55", after := #[{ on := 7, ground := Ground.data }, { on := 0, ground := Ground.phase }, { on := 1, ground := Ground.phase }, { on := 2, ground := Ground.phase }, { on := 3, ground := Ground.phase }, { on := 4, ground := Ground.phase }, { on := 5, ground := Ground.phase }, { on := 6, ground := Ground.phase }], guard := none }) (v := ?v8b3) rfl (by kernel_rfl) (by kernel_rfl) (by kernel_rfl) (fun _ _ _ h => h) (Or.inl ⟨by rfl, ?y8b3⟩) (by assumption) ?r8b3
    case y8b3 => (intro w hSw; obtain ⟨s1, s2⟩ := hSw; go_simp; (try with_reducible rfl))
    (try simp only [Act.put]); (try simp only [List.setIfInBounds_toArray]); (try simp only [List.set_cons_succ]); (try simp only [List.set_cons_zero])
    refine wpAnyH_ready (rs := [9]) (by kernel_rfl) (by simp) ?_
    refine AllReadyH.cons (o := { dst := none, op := Op.store 3 (Operand.tmp 30) (Operand.tmp 28), type := 0, pos := "frame.go:55", after := #[{ on := 8, ground := Ground.data }, { on := 6, ground := Ground.data }, { on := 5, ground := Ground.chain }, { on := 0, ground := Ground.phase }, { on := 1, ground := Ground.phase }, { on := 2, ground := Ground.phase }, { on := 3, ground := Ground.phase }, { on := 4, ground := Ground.phase }, { on := 5, ground := Ground.phase }, { on := 6, ground := Ground.phase }], guard := none }) rfl (fun Kc hK => ?_) AllReadyH.nil
    have t13 := HC13.out V4 gV4
    have f13 : V4.frozen? ⟨p, 13, none⟩ = false := HFz.out V4 gV4
    go_simp
    have HV5 := hidM (HFin.out V4 gV4)
    refine hK.out _ _ ⟨HV5.out.1, HV5.out.2.1⟩ (fun hHeld => ?_)
    clear hK Kc
    (try simp only [Act.put]); (try simp only [List.setIfInBounds_toArray]); (try simp only [List.set_cons_succ]); (try simp only [List.set_cons_zero])
    refine wpAnyH_done (by kernel_rfl) ?_ _
    clear hHeld t13 f13
    obtain ⟨r0, r1, hra5, HTd5⟩ := HV5.out
    go_wp2_with (with_reducible show wpList Try.prog _ _ (Oper.mk none (Op.store 24 (Operand.tmp 2) _) _ _ _ _ :: _) _ _; refine Hid.out ?_)
    unfold Hid
    refine wpList_store_off rfl 24 (.tmp 2) (.tmp 31) rfl ra 0 #[.slice m1 m2 m3, .slice b1 b2 b3] hra5 (by rfl) (by rfl) (by simp) (by kernel_rfl) (by simp [Value.oneCell']) ?_
    obtain ⟨V5, hV5⟩ : ∃ V5, V5 = V4.setCell ⟨p, 13, none⟩ (.int .i64 ((hd : Int) - (sz : Int))) := ⟨_, rfl⟩
    rw [← hV5] at hra5 HTd5 ⊢
    obtain ⟨F, hF⟩ : ∃ F, F = V5.setRow ra ((#[.slice none 0 0, .slice none 0 0] : Array Value).toList.take 0 ++ (#[.slice m1 m2 m3, .slice b1 b2 b3] : Array Value).toList ++ (#[.slice none 0 0, .slice none 0 0] : Array Value).toList.drop (0 + (#[.slice m1 m2 m3, .slice b1 b2 b3] : Array Value).size)).toArray := ⟨_, rfl⟩
    rw [← hF]
    have hbF : F.heap[ra]? = some (.cells #[.slice m1 m2 m3, .slice b1 b2 b3] 24 (0, 0)) := by rw [hF]; exact setRow_heap V5 ra _ _ 24 (0, 0) hra5
    have k1 : Keeps V5 F (fun z => z = ra) := by rw [hF]; exact ⟨rfl, rfl, rfl, by simp, fun kk hk hn => setRow_other V5 ra kk _ hn⟩
    have t24 : Typ V5 ra 24 := ⟨_, _, hra5⟩
    have HEnd : Hid (From w W F p 76 [.bool sh, .int .i64 ((hd : Int) - (sz : Int))] s.ms.length R wo wc (popF s) (pop2 R) wo' wc' ∧ ∀ i, i = 3 ∨ i = 4 → F.ownsRow 0 5 1 (rv (R i)) (R i).2.1 (bv (s.row i)) ∧ ∀ x, (rv (R i)).ownBlock = some x → w.heap.size ≤ x ∧ ¬ RIs p (popF s).ms.length (pop2 R) wo' wc' x) := by
      refine ⟨HTd5.out.1.kp' k1 HR.out.gr.size HRa.out.1 HNr.out, fun i hi => ⟨?_, (HT.out i hi).2⟩⟩
      have o := HTd5.out.2 i hi
      exact own_kp o fun z e => k1.block z (own_lt o z e) (fun q => by subst q; exact absurd (t24.ne (own_typ o e)) (by decide))
    have hld : (loadVar 24 ⟨ra, 0, none⟩).run Try.prog F = .ok (.agg #[.slice m1 m2 m3, .slice b1 b2 b3]) F := by
      refine run_loadVar_mid F ra 0 24 [.slice m1 m2 m3, .slice b1 b2 b3] _ (fun j v hj => ?_) Try.underlying24 rfl (by kernel_rfl)
      rw [Nat.zero_add]
      simp only [World.cell?, hbF]
      simpa using hj
    clear hF hbF k1 t24 hra5 hV5 r0 r1 HTd5
    go_wp2_with fail
    refine bodyPost_ret (v := .tuple #[.agg #[.slice m1 m2 m3, .slice b1 b2 b3], .int .i64 2, .int .i64 0]) ?_ rfl ⟨by rw [HR3.out, HR4.out]; rfl, wo', wc', HEnd.out.1, HEnd.out.2, HT2.out⟩
    exact results_cell3 (t := 2) (a := 3) (b := 4) (ty := 24) rfl rfl hld
  · refine wpAnyH_take (i := 6) (oi := { dst := some 28, op := Op.binOp BinOp.sub 3 (Operand.tmp 25) (Operand.tmp 27) 3, type := 3, pos := "frame.go:55", after := #[{ on := 3, ground := Ground.data }, { on := 5, ground := Ground.data }], guard := none }) (v := ?v6c1) rfl (by kernel_rfl) (by kernel_rfl) (by kernel_rfl) (fun _ _ _ h => h) (Or.inl ⟨by rfl, ?y6c1⟩) (by assumption) ?r6c1
    case y6c1 => (intro w hSw; obtain ⟨s1, s2⟩ := hSw; go_simp; (try with_reducible rfl))
    (try simp only [Act.put]); (try simp only [List.setIfInBounds_toArray]); (try simp only [List.set_cons_succ]); (try simp only [List.set_cons_zero])
    refine wpAnyH_take (i := 7) (oi := { dst := some 29, op := Op.nilCheck (Operand.tmp 22), type := 0, pos := "frame.go:55", after := #[{ on := 0, ground := Ground.data }, { on := 0, ground := Ground.phase }, { on := 1, ground := Ground.phase }, { on := 2, ground := Ground.phase }, { on := 3, ground := Ground.phase }, { on := 4, ground := Ground.phase }, { on := 5, ground := Ground.phase }, { on := 6, ground := Ground.phase }], guard := none }) (v := ?v7c2) rfl (by kernel_rfl) (by kernel_rfl) (by kernel_rfl) (fun _ _ _ h => h) (Or.inl ⟨by rfl, ?y7c2⟩) (by assumption) ?r7c2
    case y7c2 => (intro w hSw; obtain ⟨s1, s2⟩ := hSw; go_simp; (try with_reducible rfl))
    (try simp only [Act.put]); (try simp only [List.setIfInBounds_toArray]); (try simp only [List.set_cons_succ]); (try simp only [List.set_cons_zero])
    refine wpAnyH_take (i := 8) (oi := { dst := some 30, op := Op.fieldAddr 76 (Operand.tmp 29) 2, type := 0, pos := "frame.go:55", after := #[{ on := 7, ground := Ground.data }, { on := 0, ground := Ground.phase }, { on := 1, ground := Ground.phase }, { on := 2, ground := Ground.phase }, { on := 3, ground := Ground.phase }, { on := 4, ground := Ground.phase }, { on := 5, ground := Ground.phase }, { on := 6, ground := Ground.phase }], guard := none }) (v := ?v8c3) rfl (by kernel_rfl) (by kernel_rfl) (by kernel_rfl) (fun _ _ _ h => h) (Or.inl ⟨by rfl, ?y8c3⟩) (by assumption) ?r8c3
    case y8c3 => (intro w hSw; obtain ⟨s1, s2⟩ := hSw; go_simp; (try with_reducible rfl))
    (try simp only [Act.put]); (try simp only [List.setIfInBounds_toArray]); (try simp only [List.set_cons_succ]); (try simp only [List.set_cons_zero])
    refine wpAnyH_ready (rs := [9]) (by kernel_rfl) (by simp) ?_
    refine AllReadyH.cons (o := { dst := none, op := Op.store 3 (Operand.tmp 30) (Operand.tmp 28), type := 0, pos := "frame.go:55", after := #[{ on := 8, ground := Ground.data }, { on := 6, ground := Ground.data }, { on := 5, ground := Ground.chain }, { on := 0, ground := Ground.phase }, { on := 1, ground := Ground.phase }, { on := 2, ground := Ground.phase }, { on := 3, ground := Ground.phase }, { on := 4, ground := Ground.phase }, { on := 5, ground := Ground.phase }, { on := 6, ground := Ground.phase }], guard := none }) rfl (fun Kc hK => ?_) AllReadyH.nil
    have t13 := HC13.out V4 gV4
    have f13 : V4.frozen? ⟨p, 13, none⟩ = false := HFz.out V4 gV4
    go_simp
    have HV5 := hidM (HFin.out V4 gV4)
    refine hK.out _ _ ⟨HV5.out.1, HV5.out.2.1⟩ (fun hHeld => ?_)
    clear hK Kc
    (try simp only [Act.put]); (try simp only [List.setIfInBounds_toArray]); (try simp only [List.set_cons_succ]); (try simp only [List.set_cons_zero])
    refine wpAnyH_done (by kernel_rfl) ?_ _
    clear hHeld t13 f13
    obtain ⟨r0, r1, hra5, HTd5⟩ := HV5.out
    go_wp2_with (with_reducible show wpList Try.prog _ _ (Oper.mk none (Op.store 24 (Operand.tmp 2) _) _ _ _ _ :: _) _ _; refine Hid.out ?_)
    unfold Hid
    refine wpList_store_off rfl 24 (.tmp 2) (.tmp 31) rfl ra 0 #[.slice m1 m2 m3, .slice b1 b2 b3] hra5 (by rfl) (by rfl) (by simp) (by kernel_rfl) (by simp [Value.oneCell']) ?_
    obtain ⟨V5, hV5⟩ : ∃ V5, V5 = V4.setCell ⟨p, 13, none⟩ (.int .i64 ((hd : Int) - (sz : Int))) := ⟨_, rfl⟩
    rw [← hV5] at hra5 HTd5 ⊢
    obtain ⟨F, hF⟩ : ∃ F, F = V5.setRow ra ((#[.slice none 0 0, .slice none 0 0] : Array Value).toList.take 0 ++ (#[.slice m1 m2 m3, .slice b1 b2 b3] : Array Value).toList ++ (#[.slice none 0 0, .slice none 0 0] : Array Value).toList.drop (0 + (#[.slice m1 m2 m3, .slice b1 b2 b3] : Array Value).size)).toArray := ⟨_, rfl⟩
    rw [← hF]
    have hbF : F.heap[ra]? = some (.cells #[.slice m1 m2 m3, .slice b1 b2 b3] 24 (0, 0)) := by rw [hF]; exact setRow_heap V5 ra _ _ 24 (0, 0) hra5
    have k1 : Keeps V5 F (fun z => z = ra) := by rw [hF]; exact ⟨rfl, rfl, rfl, by simp, fun kk hk hn => setRow_other V5 ra kk _ hn⟩
    have t24 : Typ V5 ra 24 := ⟨_, _, hra5⟩
    have HEnd : Hid (From w W F p 76 [.bool sh, .int .i64 ((hd : Int) - (sz : Int))] s.ms.length R wo wc (popF s) (pop2 R) wo' wc' ∧ ∀ i, i = 3 ∨ i = 4 → F.ownsRow 0 5 1 (rv (R i)) (R i).2.1 (bv (s.row i)) ∧ ∀ x, (rv (R i)).ownBlock = some x → w.heap.size ≤ x ∧ ¬ RIs p (popF s).ms.length (pop2 R) wo' wc' x) := by
      refine ⟨HTd5.out.1.kp' k1 HR.out.gr.size HRa.out.1 HNr.out, fun i hi => ⟨?_, (HT.out i hi).2⟩⟩
      have o := HTd5.out.2 i hi
      exact own_kp o fun z e => k1.block z (own_lt o z e) (fun q => by subst q; exact absurd (t24.ne (own_typ o e)) (by decide))
    have hld : (loadVar 24 ⟨ra, 0, none⟩).run Try.prog F = .ok (.agg #[.slice m1 m2 m3, .slice b1 b2 b3]) F := by
      refine run_loadVar_mid F ra 0 24 [.slice m1 m2 m3, .slice b1 b2 b3] _ (fun j v hj => ?_) Try.underlying24 rfl (by kernel_rfl)
      rw [Nat.zero_add]
      simp only [World.cell?, hbF]
      simpa using hj
    clear hF hbF k1 t24 hra5 hV5 r0 r1 HTd5
    go_wp2_with fail
    refine bodyPost_ret (v := .tuple #[.agg #[.slice m1 m2 m3, .slice b1 b2 b3], .int .i64 2, .int .i64 0]) ?_ rfl ⟨by rw [HR3.out, HR4.out]; rfl, wo', wc', HEnd.out.1, HEnd.out.2, HT2.out⟩
    exact results_cell3 (t := 2) (a := 3) (b := 4) (ty := 24) rfl rfl hld
end Go.Proofs.Ytemleibpmaclmaa.Kit
