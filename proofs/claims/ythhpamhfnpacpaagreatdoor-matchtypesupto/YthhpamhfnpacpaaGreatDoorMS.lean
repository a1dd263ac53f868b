import Derived.Test.YthhpamhfnpacpaaGreatDoorOI
set_option linter.unusedVariables false
set_option linter.unusedSimpArgs false
set_option maxRecDepth 100000
set_option maxHeartbeats 8000000
namespace Go.Proofs.YthhpamhfnpacpaaGreatDoor.Kit
open Go.RowKit Go.Shelf Go.Deep
open Kd (Ans cell5 cell2)
attribute [local go_sem] run_store_func
open Kd (NewB row7 ZsAt ZsAt.gr)
theorem type6_ok (join br er : Int) (k1 k2 : List Int) (po qo fo no go mo bo eo : Option Addr) (L pc qc n cf nn cn m cg mm cm bn bc en ec : Nat) (W : World) (d : Nat) (T : Nat → Prop) (fs1 fs2 : List FT) (x3 : Int) (hn : n = fs1.length) (hm : m = fs2.length) (hn1 : n ≤ 1000) (hm1 : m ≤ 1000) (hL3 : L ≤ 1000) (hL1 : L = k1.length) (hL2 : L = k2.length) (hz1 : ZsAt W po k1) (hz2 : ZsAt W qo k2)
  (hr1 : RowAt T W (d + 1) fo fs1) (hr2 : RowAt T W (d + 1) go fs2) (hT : ∀ b, T b → b < W.heap.size) (hF2 : ∀ i (h : i < k2.length), ∃ j : Nat, ∃ hj : j < fs2.length, k2[i] = (j : Int) ∧ keyF fs2 k2 i = fs2[j]) (hj : ¬ join < 1 ∧ join < 4)
  (h15 : ∀ u, Gr W u → Calls Tryz.prog 15 #[.agg #[.slice fo n cf, .slice no nn cn]] u fun e w' => ∃ xo xn xc tt, e = .returned (.agg #[.int .i64 0, .slice xo xn xc, .int .i64 tt]) ∧ Gr u w') (h15b : ∀ u, Gr W u → Calls Tryz.prog 15 #[.agg #[.slice go m cg, .slice mo mm cm]] u fun e w' => ∃ xo xn xc tt, e = .returned (.agg #[.int .i64 0, .slice xo xn xc, .int .i64 tt]) ∧ Gr u w') (h16 : ∀ u, Gr W u → Calls Tryz.prog 16 #[.int .i64 join, .agg #[.slice fo n cf, .slice no nn cn, .int .i64 br, .slice bo bn bc, .slice po L pc], .agg #[.slice go m cg, .slice mo mm cm, .int .i64 er, .slice eo en ec, .slice qo L qc]] u fun e w' => e = .returned (.int .i64 0) ∧ Gr u w') (h17 : ∀ i (hi : i < fs1.length) (ko : Option Addr) (kc : Nat) (u : World), Gr W u → RowAt T u d ko fs1[i].kids → fs1[i].kids.length ≤ kc → Calls Tryz.prog 17 #[.agg #[.string fs1[i].name, .bool fs1[i].nul, .int .i64 fs1[i].kind, .int .i64 fs1[i].width, .int .i64 fs1[i].id, .int .i64 fs1[i].index, .slice ko fs1[i].kids.length kc]] u fun e w' => ∃ v, e = .returned v ∧ Gr u w' ∧ FVx d u w' (bareF d fs1[i]) v) (h17b : ∀ i (hi : i < fs2.length) (ko : Option Addr) (kc : Nat) (u : World), Gr W u → RowAt T u d ko fs2[i].kids → fs2[i].kids.length ≤ kc → Calls Tryz.prog 17 #[.agg #[.string fs2[i].name, .bool fs2[i].nul, .int .i64 fs2[i].kind, .int .i64 fs2[i].width, .int .i64 fs2[i].id, .int .i64 fs2[i].index, .slice ko fs2[i].kids.length kc]] u fun e w' => ∃ v, e = .returned v ∧ Gr u w' ∧ FVx d u w' (bareF d fs2[i]) v)
  (hC : ∀ (u : World) (vo : Option Addr) (vc N : Nat), N = ((((List.range n).map (lF d join fs1 fs2 k1 k2)) ++ (rIx k2 m).map (rF d join fs2))).length → Gr W u → RowAt (fun b => b < u.heap.size) u (d + 1) vo (((List.range n).map (lF d join fs1 fs2 k1 k2)) ++ (rIx k2 m).map (rF d join fs2)) → N ≤ vc → Calls Tryz.prog 15 #[.agg #[.slice vo N vc, .slice none 0 0]] u fun e w' => ∃ xo xn xc tt, e = .returned (.agg #[.int .i64 x3, .slice xo xn xc, .int .i64 tt]) ∧ Gr u w') :
  Calls Tryz.prog 6 #[.int .i64 join, .agg #[.slice fo n cf, .slice no nn cn, .int .i64 br, .slice bo bn bc, .slice po L pc], .agg #[.slice go m cg, .slice mo mm cm, .int .i64 er, .slice eo en ec, .slice qo L qc]] W fun e w' => ∃ xo xN xc, e = .returned (.tuple #[.agg #[.slice xo xN xc, .slice none 0 0], .int .i64 x3]) ∧ Gr W w' ∧ (x3 = 0 → xN = ((((List.range n).map (lF d join fs1 fs2 k1 k2)) ++ (rIx k2 m).map (rF d join fs2))).length ∧ xN ≤ xc ∧ RowAt (fun b => b < w'.heap.size) w' (d + 1) xo (((List.range n).map (lF d join fs1 fs2 k1 k2)) ++ (rIx k2 m).map (rF d join fs2))) ∧ (¬ x3 = 0 → xN = 0) := by
 obtain ⟨A0, A1, A2, hA0, hA1, hA2, gW, sz, hSS, hX⟩ := boxes6 W (.slice fo n cf) (.slice no nn cn) (.int .i64 br) (.slice bo bn bc) (.slice po L pc) (.slice go m cg) (.slice mo mm cm) (.int .i64 er) (.slice eo en ec) (.slice qo L qc)
 have HSS := hidM hSS
 obtain ⟨⟨e0, e1, e2, e3, e4⟩, f0, f1, f2, f3, f4⟩ := hSS A2 (Keeps.refl _ _)
 have HG := hidM gW
 have HX := hidM hX
 clear hSS hX
 have HC1 := hidM (h15 A2 gW)
 have HC2 : Hid (∀ u, Gr A2 u → Calls Tryz.prog 15 #[.agg #[.slice go m cg, .slice mo mm cm]] u fun e w' => ∃ xo xn xc tt, e = .returned (.agg #[.int .i64 0, .slice xo xn xc, .int .i64 tt]) ∧ Gr u w') := fun u g => h15b u (gW.tr g)
 have HC3 : Hid (∀ u, Gr A2 u → Calls Tryz.prog 16 #[.int .i64 join, .agg #[.slice fo n cf, .slice no nn cn, .int .i64 br, .slice bo bn bc, .slice po L pc], .agg #[.slice go m cg, .slice mo mm cm, .int .i64 er, .slice eo en ec, .slice qo L qc]] u fun e w' => e = .returned (.int .i64 0) ∧ Gr u w') := fun u g => h16 u (gW.tr g)
 have HSZ2 := hidM sz
 have HN := hidM hn
 have HM := hidM hm
 have HL1 := hidM hL1
 have HL2 := hidM hL2
 have HZ1 := hidM hz1
 have HZ2 := hidM hz2
 have HR1 := hidM hr1
 have HR2 := hidM hr2
 have HT := hidM hT
 have HF2 := hidM hF2
 have H17 := hidM h17
 have H17b := hidM h17b
 have HCK := hidM hC
 have hj4 : ¬ 4 ≤ join := by omega
 have hnb : n ≤ 1000 := hn1
 have hmb : m ≤ 1000 := hm1
 have hLb : L ≤ 1000 := hL3
 have hfl := fld52
 clear sz gW h15 h15b h16 hn hm hn1 hm1 hL3 hL1 hL2 hz1 hz2 hr1 hr2 hT hF2 hj h17 h17b hC
 go_enter Tryz.func6, Tryz.ntmps6
 go_wp2_with (first
  | (go_at_call 16; refine (HC3.out w2 HG2.out).mono ?_; rintro e w3 ⟨rfl, g3⟩; have HG3 := hidM (HG2.out.tr g3); clear e0 e1 e2 e3 e4 f0 f1 f2 f3 f4; obtain ⟨V, hV⟩ := ex (w3.alloc (.cells #[.slice none 0 0, .slice none 0 0] 25)); have gV : Gr A2 V := HG3.out.tr (by rw [← hV]; exact gr_alloc w3 _); have hb := al_new hV; have HBV := hidM hb; have HG2V := hidM gV; obtain ⟨r0, r1⟩ := cell2 hb; have rz := frzA hb; have r2 := set_id (j := 0) (v := .slice Option.none 0 0) hb rfl; have r3 := set_id (j := 1) (v := .slice Option.none 0 0) hb rfl; clear hb g3 gV)
  | (go_at_call 15; have _ := HG1; refine (HC2.out w1 HG1.out).mono ?_; rintro e w2 ⟨xo2, xn2, xc2, tt2, rfl, g2⟩; have g2' := HG1.out.tr g2; have HG2 := hidM g2'; clear e0 e1 e2 e3 e4 f0 f1 f2 f3 f4; obtain ⟨⟨e0, e1, e2, e3, e4⟩, f0, f1, f2, f3, f4⟩ := HSS.out w2 g2'; clear g2 g2')
  | (go_at_call 15; refine HC1.out.mono ?_; rintro e w1 ⟨xo, xn, xc, tt, rfl, g1⟩; have HG1 := hidM g1; clear hA0 hA1 hA2; clear e0 e1 e2 e3 e4 f0 f1 f2 f3 f4; obtain ⟨⟨e0, e1, e2, e3, e4⟩, f0, f1, f2, f3, f4⟩ := HSS.out w1 g1; clear g1))
 clear r0 r1 rz r2 r3 hV
 have HSZ : Hid ((W.heap.size < A0.heap.size ∧ A0.heap.size < A1.heap.size ∧ A1.heap.size < A2.heap.size) ∧ A2.heap.size ≤ w3.heap.size ∧ w3.heap.size < V.heap.size) := ⟨HSZ2.out, HG3.out.size, lt_of_heap HBV.out⟩
 have HGV : Hid (Gr W V) := HG.out.tr HG2V.out
 have HVA : Hid (V.heap[A1.heap.size]? = some (.cells #[.slice none 0 0, .slice none 0 0] 25)) := HX.out V HG2V.out
 have HSK : Hid (∀ u, Keeps V u (fun z => z = w3.heap.size) → two5 u W.heap.size A0.heap.size (.slice fo n cf) (.slice no nn cn) (.int .i64 br) (.slice bo bn bc) (.slice po L pc) (.slice go m cg) (.slice mo mm cm) (.int .i64 er) (.slice eo en ec) (.slice qo L qc)) := fun u k => by
  exact (HSS.out V HG2V.out).kp k (by have := HSZ.out; omega) (by have := HSZ.out; omega)
 have HST := hidM (FsI.start_box (d := d) HBV.out)
 go_loopw [10] (fun p wr => ∃ (k : Nat) (vo : Option Addr) (vc : Nat), k ≤ n ∧ p = .int .i64 (k : Int) ∧ Hid (FsI (V.setCell ⟨w3.heap.size, 0, none⟩ (.slice vo k vc)) wr d ((List.range k).map (lF d join fs1 fs2 k1 k2)) vo vc)) (fun p _ => n - (intOf p).toNat)
 case atStart => exact ⟨0, Option.none, 0, by omega, rfl, HST.out⟩
 case round =>
  obtain ⟨k, vo, vc, hk, rfl, HK⟩ := hrel
  have HSO : Hid (∀ u, Gr wr u → (u.cell? ⟨w3.heap.size, 0, none⟩ = some (.slice vo k vc) ∧ u.cell? ⟨w3.heap.size, 1, none⟩ = some (.slice none 0 0)) ∧ two5 u W.heap.size A0.heap.size (.slice fo n cf) (.slice no nn cn) (.int .i64 br) (.slice bo bn bc) (.slice po L pc) (.slice go m cg) (.slice mo mm cm) (.int .i64 er) (.slice eo en ec) (.slice qo L qc)) := fun u g => by
   have hb := (g.block _ (lt_of_heap (HK.out.at_ HBV.out)) id).trans (HK.out.at_ HBV.out)
   exact ⟨cell2 hb, HSK.out u (HK.out.kp.tr (g.mono fun _ _ h => h.elim))⟩
  have HGW : Hid (Gr W wr) := HGV.out.trans HK.out.kp (fun j hj (e : j = w3.heap.size) => by have := HSZ.out; omega)
  obtain ⟨⟨o0, o1⟩, ⟨e0, e1, e2, e3, e4⟩, f0, f1, f2, f3, f4⟩ := HSO.out wr (Keeps.refl _ _)
  by_cases hlt : k < n
  ·have hkl : k < fs1.length := by have := HN.out; omega
   obtain ⟨b, o, rfl, hb, hi⟩ := HR1.out.2 (fun e => by rw [e] at hkl; simp at hkl)
   obtain ⟨ko, kc, hc, hle, hr⟩ := hi k hkl
   obtain ⟨f, hf⟩ : ∃ f, f = fs1[k]'hkl := ⟨_, rfl⟩
   obtain ⟨r, hrr⟩ : ∃ r, r = bareF d f := ⟨_, rfl⟩
   have hq := H17.out k hkl ko kc wr HGW.out (hr.kept fun z hz => HGW.out.block z (HT.out z hz) id) hle
   rw [← hf] at hc hq
   rw [← hrr] at hq
   have HQ := hidM hq
   have hcw := hc.kept (HGW.out.block b (HT.out b hb) id)
   obtain ⟨x0, x1, x2, x3, x4, x5, x6⟩ := id hcw
   have eb : fs1[k]! = f := by rw [hf]; exact getElem!_pos fs1 k hkl
   have HRR : Hid (bareF d (fs1[k]!) = r) := by rw [eb, hrr]; exact rfl
   have hkI : (k : Int) < (n : Int) := by omega
   clear hb hi hc hle hr hq hcw hf hrr eb
   go_wp2_with (go_at_call 17; refine Hid.out ?_)
   unfold Hid
   refine Calls.mono HQ.out ?_
   rintro e V1 ⟨v, rfl, gV, xo, xc, rfl, hxl, hxr⟩
   obtain ⟨nr, hnr⟩ : ∃ b, b = r.nul := ⟨_, rfl⟩
   rw [← hnr]
   have HNR := hidM hnr
   clear hnr
   obtain ⟨X, hX, gX, bX⟩ := nw V1 (.cells #[.string ⟨#[]⟩, .bool false, .int .i64 0, .int .i64 0, .int .i64 0, .int .i64 0, .slice none 0 0] 58)
   obtain ⟨z0, z1, z2, z3, z4, z5, z6⟩ := cell7 bX
   have fX := frz bX
   obtain ⟨Y, hY⟩ := ex (setAll X V1.heap.size [(0, .string r.name), (1, .bool nr), (2, .int .i64 r.kind), (3, .int .i64 r.width), (4, .int .i64 r.id), (5, .int .i64 r.index), (6, .slice xo r.kids.length xc)])
   have kY : Keeps X Y (fun z => z = V1.heap.size) := by rw [← hY]; exact setAll_kp _ _ _
   have bY : Y.heap[V1.heap.size]? = some (.cells #[.string r.name, .bool nr, .int .i64 r.kind, .int .i64 r.width, .int .i64 r.id, .int .i64 r.index, .slice xo r.kids.length xc] 58) := by rw [← hY, setAll_blk V1.heap.size 58 _ _ _ bX]; simp [setsA]
   have gY : Gr V1 Y := gX.trans kY (fun j hj (e : j = V1.heap.size) => by omega)
   have HV1 : Hid (Gr wr V1 ∧ Gr V1 Y ∧ RowAt (fun b => wr.heap.size ≤ b ∧ b < V1.heap.size) V1 d xo r.kids) := ⟨gV, gY, hxr⟩
   have HBY : Hid (Y.heap[V1.heap.size]? = some (.cells #[.string r.name, .bool nr, .int .i64 r.kind, .int .i64 r.width, .int .i64 r.id, .int .i64 r.index, .slice xo r.kids.length xc] 58)) := bY
   have HXL : Hid (r.kids.length ≤ xc) := hxl
   have HGY : Hid (Gr wr Y) := gV.tr gY
   obtain ⟨t0, t1, t2, t3, t4, t5, t6⟩ := cell7 bY
   have fY := frz bY
   simp only [setAll] at hY
   clear gV gX bX kY bY gY hxl hxr x0 x1 x2 x3 x4 x5 x6
   clear o0 o1 e0 e1 e2 e3 e4 f0 f1 f2 f3 f4
   obtain ⟨⟨o0, o1⟩, ⟨e0, e1, e2, e3, e4⟩, f0, f1, f2, f3, f4⟩ := HSO.out Y (HGY.out)
   obtain ⟨pz, hpz⟩ : ∃ z, z = plc k1 (k : Int) := ⟨_, rfl⟩
   have hc18 := among18 k1 (k : Int) po pc Y (by have := HL1.out; omega) (HZ1.out.gr (HGW.out.tr HGY.out))
   rw [← HL1.out, ← hpz] at hc18
   have HPZ := hidM hpz
   clear hpz
   by_cases c3 : join = 3
   ·have hj3' : (join == 3) = true := by simp; exact c3
    by_cases cp : 0 ≤ pz
    ·obtain ⟨pn, rfl⟩ : ∃ pn : Nat, pz = (pn : Int) := ⟨pz.toNat, by omega⟩
     have HC18 := hidM hc18
     clear hc18 cp
     have hp2 : pn < k2.length := by have h1 := plc_lt k1 (k : Int); rw [← HPZ.out] at h1; have := HL1.out; have := HL2.out; omega
     obtain ⟨z2, v2, rfl, hz2⟩ := HZ2.out (fun e => by rw [e] at hp2; simp at hp2)
     obtain ⟨j, hj2, ej, ef2⟩ := HF2.out pn hp2
     obtain ⟨x2, y2, rfl, hx2, hs2⟩ := HR2.out.2 (fun e => by rw [e] at hj2; simp at hj2)
     obtain ⟨gk, gc, hcg, hlg, hrg⟩ := hs2 j hj2
     obtain ⟨g, hg⟩ : ∃ g, g = fs2[j]'hj2 := ⟨_, rfl⟩
     have HS18 : Hid (∀ u, Gr wr u → u.cell? ⟨A0.heap.size, 0, none⟩ = some (.slice (some ⟨x2, y2, none⟩) m cg) ∧ u.cell? ⟨A0.heap.size, 4, none⟩ = some (.slice (some ⟨z2, v2, none⟩) L qc) ∧ u.cell? ⟨z2, v2 + pn, none⟩ = some (.int .i64 (j : Int)) ∧ u.cell? ⟨x2, y2 + j * 7, none⟩ = some (.string g.name) ∧ u.cell? ⟨x2, y2 + j * 7 + 1, none⟩ = some (.bool g.nul) ∧ u.cell? ⟨x2, y2 + j * 7 + 2, none⟩ = some (.int .i64 g.kind) ∧ u.cell? ⟨x2, y2 + j * 7 + 3, none⟩ = some (.int .i64 g.width) ∧ u.cell? ⟨x2, y2 + j * 7 + 4, none⟩ = some (.int .i64 g.id) ∧ u.cell? ⟨x2, y2 + j * 7 + 5, none⟩ = some (.int .i64 g.index) ∧ u.cell? ⟨x2, y2 + j * 7 + 6, none⟩ = some (.slice gk g.kids.length gc)) := fun u h => by
      have h' := HGW.out.tr h
      have c1 := h'.cell' (hz2 pn hp2) id
      rw [ej] at c1
      have cf' := hcg.kept (h'.block x2 (HT.out x2 hx2) id)
      rw [← hg] at cf'
      have hss := (HSO.out u h).2.2
      exact ⟨hss.1, hss.2.2.2.2, c1, cf'.c0, cf'.c1, cf'.c2, cf'.c3, cf'.c4, cf'.c5, cf'.c6⟩
     obtain ⟨q, hq⟩ : ∃ q, q = bareF d g := ⟨_, rfl⟩
     have HQ2 : Hid (∀ u, Gr wr u → Calls Tryz.prog 17 #[.agg #[.string g.name, .bool g.nul, .int .i64 g.kind, .int .i64 g.width, .int .i64 g.id, .int .i64 g.index, .slice gk g.kids.length gc]] u fun e w' => ∃ v, e = .returned v ∧ Gr u w' ∧ FVx d u w' q v) := fun u h => by
      have h' := HGW.out.tr h
      have hc := H17b.out j hj2 gk gc u h' (hrg.kept fun z hz => h'.block z (HT.out z hz) id) hlg
      rw [← hg, ← hq] at hc
      exact hc
     have hqn : q.nul = (fs2[j]!).nul := by rw [hq, bareF_nul, hg, getElem!_pos fs2 j hj2]
     have hkey : (k2[(plc k1 (k : Int)).toNat]?).getD 0 = (j : Int) := by rw [← HPZ.out, Int.toNat_natCast, List.getElem?_eq_getElem hp2, Option.getD_some]; exact ej
     have hlf : lF d join fs1 fs2 k1 k2 k = ren r.name (r.nul || q.nul) r := by
      unfold lF
      rw [HRR.out, if_pos (by rw [← HPZ.out]; omega), hkey, Int.toNat_natCast, hqn]
      simp [c3]
     have hp2I : (pn : Int) < (L : Int) := by have := HL2.out; omega
     have hj2I : (j : Int) < (m : Int) := by have := HM.out; omega
     have hfd1 : ∀ (a0 a1 a2 a3 a4 a5 a6 : Value) (w : World), (Instr.field 58 (.agg #[a0, a1, a2, a3, a4, a5, a6]) 1).run Tryz.prog w = .ok a1 w := fun a0 a1 a2 a3 a4 a5 a6 w => by kernel_rfl
     have HLc : Hid (r.nul = true → lF d join fs1 fs2 k1 k2 k = ren r.name true r) := fun h => by rw [hlf, h]; rfl
     have HLd : Hid (r.nul = false → lF d join fs1 fs2 k1 k2 k = ren r.name q.nul r) := fun h => by rw [hlf, h]; rfl
     clear hp2 hz2 ej ef2 hx2 hs2 hcg hlg hrg hg hq hqn hkey hlf hj2 c3
     cases nr with
     | true =>
      replace HLc := hidM (HLc.out HNR.out.symm)
      have st := set_id (j := 1) (v := .bool true) HBY.out rfl
      have HLF : Hid (lF d join fs1 fs2 k1 k2 k = ren r.name true r) := HLc.out
      go_wp2_with (go_at_call 18; refine HC18.out.mono ?_; rintro e w8 ⟨rfl, hw8⟩; subst w8)
      refine wp_region_held_drew (S := fun w' => w'.cell? ⟨A0.heap.size, 0, none⟩ = some (.slice (some ⟨x2, y2, none⟩) m cg) ∧ w'.cell? ⟨A0.heap.size, 4, none⟩ = some (.slice (some ⟨z2, v2, none⟩) L qc) ∧ w'.cell? ⟨z2, v2 + pn, none⟩ = some (.int .i64 (j : Int)) ∧ w'.cell? ⟨x2, y2 + j * 7, none⟩ = some (.string g.name) ∧ w'.cell? ⟨x2, y2 + j * 7 + 1, none⟩ = some (.bool g.nul) ∧ w'.cell? ⟨x2, y2 + j * 7 + 2, none⟩ = some (.int .i64 g.kind) ∧ w'.cell? ⟨x2, y2 + j * 7 + 3, none⟩ = some (.int .i64 g.width) ∧ w'.cell? ⟨x2, y2 + j * 7 + 4, none⟩ = some (.int .i64 g.id) ∧ w'.cell? ⟨x2, y2 + j * 7 + 5, none⟩ = some (.int .i64 g.index) ∧ w'.cell? ⟨x2, y2 + j * 7 + 6, none⟩ = some (.slice gk g.kids.length gc)) (by kernel_rfl) (HS18.out _ (HGY.out.tr (gr_drew (w := Y)))) fun _ => ?_
      refine tk 0 ?_
      refine rd1 1 fun Kc hK => ?_
      go_simp
      refine hK.out _ _ (HS18.out _ (HGY.out.tr (gr_drew (w := Y)))) fun _ => ?_
      clear hK Kc
      try simp only [Act.put, lA, lB, lC]
      refine tk 2 ?_
      refine sk 3 ?_
      refine sk 4 ?_
      refine sk 5 ?_
      refine sk 6 ?_
      refine sk 7 ?_
      refine sk 8 ?_
      refine sk 9 ?_
      refine sk 10 ?_
      refine sk 11 ?_
      refine sk 12 ?_
      refine sk 13 ?_
      refine sk 14 ?_
      refine tk 15 ?_
      refine tk 16 ?_
      refine rd1 17 fun Kc hK => ?_
      go_simp
      refine hK.out _ _ (HS18.out _ (HGY.out.tr (gr_drew (w := Y)))) fun _ => ?_
      clear hK Kc
      try simp only [Act.put, lA, lB, lC]
      refine wpAnyH_done (by kernel_rfl) ?_ _
      clear st
      have hgD : Gr Y Y.drew := gr_drew
      have bD := (hgD.block _ (lt_of_heap HBY.out) id).trans HBY.out
      obtain ⟨D, hD⟩ : ∃ D, D = Y.drew := ⟨_, rfl⟩
      rw [← hD] at hgD bD ⊢
      have HYD := hidM hgD
      clear hD hgD
      clear t0 t1 t2 t3 t4 t5 t6 fY
      obtain ⟨t0, t1, t2, t3, t4, t5, t6⟩ := cell7 bD
      clear bD
      clear o0 o1 e0 e1 e2 e3 e4 f0 f1 f2 f3 f4
      obtain ⟨⟨o0, o1⟩, ⟨e0, e1, e2, e3, e4⟩, f0, f1, f2, f3, f4⟩ := HSO.out D (HGY.out.tr HYD.out)
      obtain ⟨Z, hZ⟩ := ex (D.alloc (.cells #[.string r.name, .bool true, .int .i64 r.kind, .int .i64 r.width, .int .i64 r.id, .int .i64 r.index, .slice xo r.kids.length xc] 58))
      have hg1 : Gr V1 D := HV1.out.2.1.tr HYD.out
      have HPu : Hid (PuH V wr Z w3.heap.size d k vc D.heap.size vo ((List.range k).map (lF d join fs1 fs2 k1 k2)) (ren r.name true r) [.string r.name, .bool true, .int .i64 r.kind, .int .i64 r.width, .int .i64 r.id, .int .i64 r.index, .slice xo r.kids.length xc]) := ⟨by omega, HBV.out, out_step (wr := wr) (D := wr) (f := ren r.name true r) HBV.out HK.out (by simp) (Keeps.refl _ _) (HV1.out.1.tr hg1) HXL.out ((HV1.out.2.2.kept fun b hb => hg1.block b hb.2 id).mono fun b hb => ⟨hb.1, Nat.lt_of_lt_of_le hb.2 hg1.size⟩) hZ⟩
      clear hg1
      go_wp2_with (with_reducible show wpList Tryz.prog _ _ (Oper.mk (some 101) _ _ _ _ _ :: _) _ _; refine wpList_push rfl (.tmp 98) (.tmp 100) rfl rfl rfl HPu.out ?_; intro vo' vc' w4 hb7 hp2; clear o0 o1 e0 e1 e2 e3 e4 f0 f1 f2 f3 f4; obtain ⟨o0, o1⟩ := cell2 hb7; have oz := frzA hb7; obtain ⟨U, hU⟩ := ex (w4.setCell ⟨w3.heap.size, 0, none⟩ (.slice vo' (k + 1) vc')); rw [hU] at hp2; have HE := hidM hp2; clear hb7 hp2)
      go_roundw
      case rel => exact ⟨k + 1, vo', vc', by omega, by first | go_num | (simp; omega), by have h := HE.out; rw [List.range_succ, List.map_append, List.map_cons, List.map_nil, HLF.out]; exact h⟩
      case measure => simp [intOf]; omega
     | false =>
      replace HLd := hidM (HLd.out HNR.out.symm)
      go_wp2_with (go_at_call 18; refine HC18.out.mono ?_; rintro e w8 ⟨rfl, hw8⟩; subst w8)
      refine wp_region_held_drew (S := fun w' => w'.cell? ⟨A0.heap.size, 0, none⟩ = some (.slice (some ⟨x2, y2, none⟩) m cg) ∧ w'.cell? ⟨A0.heap.size, 4, none⟩ = some (.slice (some ⟨z2, v2, none⟩) L qc) ∧ w'.cell? ⟨z2, v2 + pn, none⟩ = some (.int .i64 (j : Int)) ∧ w'.cell? ⟨x2, y2 + j * 7, none⟩ = some (.string g.name) ∧ w'.cell? ⟨x2, y2 + j * 7 + 1, none⟩ = some (.bool g.nul) ∧ w'.cell? ⟨x2, y2 + j * 7 + 2, none⟩ = some (.int .i64 g.kind) ∧ w'.cell? ⟨x2, y2 + j * 7 + 3, none⟩ = some (.int .i64 g.width) ∧ w'.cell? ⟨x2, y2 + j * 7 + 4, none⟩ = some (.int .i64 g.id) ∧ w'.cell? ⟨x2, y2 + j * 7 + 5, none⟩ = some (.int .i64 g.index) ∧ w'.cell? ⟨x2, y2 + j * 7 + 6, none⟩ = some (.slice gk g.kids.length gc)) (by kernel_rfl) (HS18.out _ (HGY.out.tr (gr_drew (w := Y)))) fun _ => ?_
      refine tk 0 ?_
      refine rd1 1 fun Kc hK => ?_
      go_simp
      refine hK.out _ _ (HS18.out _ (HGY.out.tr (gr_drew (w := Y)))) fun _ => ?_
      clear hK Kc
      try simp only [Act.put, lA, lB, lC]
      refine tk 2 ?_
      refine tk 3 ?_
      refine tk 4 ?_
      refine tk 5 ?_
      refine tk 6 ?_
      refine tk 7 ?_
      refine tk 8 ?_
      refine tk 9 ?_
      refine tk 10 ?_
      refine tk 11 ?_
      refine tk 12 ?_
      refine rd1 13 fun Kc hK => ?_
      go_simp
      go_at_call 17
      refine Calls.mono (HQ2.out Y.drew (HGY.out.tr (gr_drew (w := Y)))) ?_
      rintro e' V2 ⟨v', rfl, gV2, yo, yc, rfl, -, -⟩
      obtain ⟨nb, hnb⟩ : ∃ b, b = q.nul := ⟨_, rfl⟩
      rw [← hnb]
      have HNB := hidM hnb
      clear hnb
      have HG2 : Hid (Gr Y V2) := (gr_drew (w := Y)).tr gV2
      clear gV2
      have b2Y := (HG2.out.block _ (lt_of_heap HBY.out) id).trans HBY.out
      have fV2 := frz b2Y
      obtain ⟨w0, w1, w2, w5, w6, w7, w9⟩ := cell7 b2Y
      obtain ⟨Y2, hY2⟩ := ex (V2.setCell ⟨V1.heap.size, 1, none⟩ (.bool nb))
      have kY2 : Keeps V2 Y2 (fun z => z = V1.heap.size) := by rw [← hY2]; exact Keeps.setCell (S := fun z => z = V1.heap.size) (p := ⟨V1.heap.size, 1, none⟩) (Keeps.refl V2 _) (fun _ => rfl) _
      have bY2 : Y2.heap[V1.heap.size]? = some (.cells #[.string r.name, .bool nb, .int .i64 r.kind, .int .i64 r.width, .int .i64 r.id, .int .i64 r.index, .slice xo r.kids.length xc] 58) := by rw [← hY2, heap_setCell_same V2 V1.heap.size 1 _ _ _ (b2Y)]; rfl
      have HY2 : Hid (Gr V1 Y2) := (HV1.out.2.1.tr HG2.out).trans kY2 (fun j hj (e : j = V1.heap.size) => by omega)
      have bY2' := hidM bY2
      clear kY2 bY2 b2Y
      go_wp2_with fail
      refine hK.out _ _ (HS18.out _ (HGY.out.tr HG2.out)) fun _ => ?_
      clear hK Kc
      try simp only [Act.put, lA, lB, lC]
      refine' wpAnyH_take (i := 14) (oi := { dst := some 94, op := Op.field 58 (Operand.tmp 93) 1, type := 4, pos := "ref.go:179", after := #[{ on := 13, ground := Ground.data }, { on := 2, ground := Ground.guard }], guard := some (2, false) }) rfl (by kernel_rfl) (by kernel_rfl) (by kernel_rfl) (fun _ _ _ h => h) (Or.inl ⟨by rfl, _⟩) (by assumption) _
      rotate_left 1
      ·(intro w hSw; go_simp; first | exact hfd1 _ _ _ _ _ _ _ w | with_reducible rfl)
      try simp only [Act.put, lA, lB, lC]
      refine tk 15 ?_
      refine tk 16 ?_
      refine rd1 17 fun Kc hK => ?_
      go_simp
      refine hK.out _ _ (HS18.out _ (HV1.out.1.tr HY2.out)) fun _ => ?_
      clear hK Kc
      try simp only [Act.put, lA, lB, lC]
      refine wpAnyH_done (by kernel_rfl) ?_ _
      have HLF : Hid (lF d join fs1 fs2 k1 k2 k = ren r.name nb r) := by show _ = _; rw [HNB.out]; exact HLd.out
      clear t0 t1 t2 t3 t4 t5 t6 fY hY2 fV2 w0 w1 w2 w5 w6 w7 w9
      obtain ⟨t0, t1, t2, t3, t4, t5, t6⟩ := cell7 bY2'.out
      clear o0 o1 e0 e1 e2 e3 e4 f0 f1 f2 f3 f4
      obtain ⟨⟨o0, o1⟩, ⟨e0, e1, e2, e3, e4⟩, f0, f1, f2, f3, f4⟩ := HSO.out Y2 (HV1.out.1.tr HY2.out)
      obtain ⟨Z, hZ⟩ := ex (Y2.alloc (.cells #[.string r.name, .bool nb, .int .i64 r.kind, .int .i64 r.width, .int .i64 r.id, .int .i64 r.index, .slice xo r.kids.length xc] 58))
      have hg1 : Gr V1 Y2 := HY2.out
      have HPu : Hid (PuH V wr Z w3.heap.size d k vc Y2.heap.size vo ((List.range k).map (lF d join fs1 fs2 k1 k2)) (ren r.name nb r) [.string r.name, .bool nb, .int .i64 r.kind, .int .i64 r.width, .int .i64 r.id, .int .i64 r.index, .slice xo r.kids.length xc]) := ⟨by omega, HBV.out, out_step (wr := wr) (D := wr) (f := ren r.name nb r) HBV.out HK.out (by simp) (Keeps.refl _ _) (HV1.out.1.tr hg1) HXL.out ((HV1.out.2.2.kept fun b hb => hg1.block b hb.2 id).mono fun b hb => ⟨hb.1, Nat.lt_of_lt_of_le hb.2 hg1.size⟩) hZ⟩
      clear hg1
      go_wp2_with (with_reducible show wpList Tryz.prog _ _ (Oper.mk (some 101) _ _ _ _ _ :: _) _ _; refine wpList_push rfl (.tmp 98) (.tmp 100) rfl rfl rfl HPu.out ?_; intro vo' vc' w4 hb7 hp2; clear o0 o1 e0 e1 e2 e3 e4 f0 f1 f2 f3 f4; obtain ⟨o0, o1⟩ := cell2 hb7; have oz := frzA hb7; obtain ⟨U, hU⟩ := ex (w4.setCell ⟨w3.heap.size, 0, none⟩ (.slice vo' (k + 1) vc')); rw [hU] at hp2; have HE := hidM hp2; clear hb7 hp2)
      go_roundw
      case rel => exact ⟨k + 1, vo', vc', by omega, by first | go_num | (simp; omega), by have h := HE.out; rw [List.range_succ, List.map_append, List.map_cons, List.map_nil, HLF.out]; exact h⟩
      case measure => simp [intOf]; omega
    have HC18 := hidM hc18
    have hp0 : pz < 0 := by omega
    have HLb : Hid (lF d join fs1 fs2 k1 k2 k = ren r.name true r) := by
     show _ = _
     unfold lF
     rw [HRR.out, if_neg (by rw [← HPZ.out]; exact cp)]
     simp [c3]
    clear hc18 cp c3
    have HLF : Hid (lF d join fs1 fs2 k1 k2 k = ren r.name true r) := HLb.out
    obtain ⟨Y2, hY2⟩ := ex (Y.setCell ⟨V1.heap.size, 1, none⟩ (.bool true))
    have kY2 : Keeps Y Y2 (fun z => z = V1.heap.size) := by rw [← hY2]; exact Keeps.setCell (S := fun z => z = V1.heap.size) (p := ⟨V1.heap.size, 1, none⟩) (Keeps.refl Y _) (fun _ => rfl) _
    have bY2 : Y2.heap[V1.heap.size]? = some (.cells #[.string r.name, .bool true, .int .i64 r.kind, .int .i64 r.width, .int .i64 r.id, .int .i64 r.index, .slice xo r.kids.length xc] 58) := by rw [← hY2, heap_setCell_same Y V1.heap.size 1 _ _ _ (HBY.out)]; rfl
    have HY2 : Hid (Gr V1 Y2) := HV1.out.2.1.trans kY2 (fun j hj (e : j = V1.heap.size) => by omega)
    obtain ⟨u0, u1, u2, u3, u4, u5, u6⟩ := cell7 bY2
    clear kY2 bY2
    obtain ⟨⟨p0, p1⟩, -⟩ := HSO.out Y2 (HV1.out.1.tr HY2.out)
    obtain ⟨Z, hZ⟩ := ex (Y2.alloc (.cells #[.string r.name, .bool true, .int .i64 r.kind, .int .i64 r.width, .int .i64 r.id, .int .i64 r.index, .slice xo r.kids.length xc] 58))
    have hg1 : Gr V1 Y2 := HY2.out
    have HPu : Hid (PuH V wr Z w3.heap.size d k vc Y2.heap.size vo ((List.range k).map (lF d join fs1 fs2 k1 k2)) (ren r.name true r) [.string r.name, .bool true, .int .i64 r.kind, .int .i64 r.width, .int .i64 r.id, .int .i64 r.index, .slice xo r.kids.length xc]) := ⟨by omega, HBV.out, out_step (wr := wr) (D := wr) (f := ren r.name true r) HBV.out HK.out (by simp) (Keeps.refl _ _) (HV1.out.1.tr hg1) HXL.out ((HV1.out.2.2.kept fun b hb => hg1.block b hb.2 id).mono fun b hb => ⟨hb.1, Nat.lt_of_lt_of_le hb.2 hg1.size⟩) hZ⟩
    clear hg1
    go_wp2_with (first | (go_at_call 18; refine HC18.out.mono ?_; rintro e w8 ⟨rfl, hw8⟩; subst w8) | (with_reducible show wpList Tryz.prog _ _ (Oper.mk (some 101) _ _ _ _ _ :: _) _ _; refine wpList_push rfl (.tmp 98) (.tmp 100) rfl rfl rfl HPu.out ?_; intro vo' vc' w4 hb7 hp2; clear o0 o1 e0 e1 e2 e3 e4 f0 f1 f2 f3 f4; obtain ⟨o0, o1⟩ := cell2 hb7; have oz := frzA hb7; obtain ⟨U, hU⟩ := ex (w4.setCell ⟨w3.heap.size, 0, none⟩ (.slice vo' (k + 1) vc')); rw [hU] at hp2; have HE := hidM hp2; clear hb7 hp2))
    go_roundw
    case rel => exact ⟨k + 1, vo', vc', by omega, by first | go_num | (simp; omega), by have h := HE.out; rw [List.range_succ, List.map_append, List.map_cons, List.map_nil, HLF.out]; exact h⟩
    case measure => simp [intOf]; omega
   have HC18 := hidM hc18
   have HLa : Hid (¬ join = 3 → lF d join fs1 fs2 k1 k2 k = ren r.name nr r) := fun h => by
    unfold lF
    rw [HRR.out, HNR.out, show decide (join = 3) = false by simpa using h, Bool.false_and, Bool.or_false]
   clear hc18
   have hj3' : (join == 3) = false := by simp; exact c3
   have HLF : Hid (lF d join fs1 fs2 k1 k2 k = ren r.name nr r) := HLa.out c3
   obtain ⟨Z, hZ⟩ := ex (Y.alloc (.cells #[.string r.name, .bool nr, .int .i64 r.kind, .int .i64 r.width, .int .i64 r.id, .int .i64 r.index, .slice xo r.kids.length xc] 58))
   have hg1 : Gr V1 Y := HV1.out.2.1
   have HPu : Hid (PuH V wr Z w3.heap.size d k vc Y.heap.size vo ((List.range k).map (lF d join fs1 fs2 k1 k2)) (ren r.name nr r) [.string r.name, .bool nr, .int .i64 r.kind, .int .i64 r.width, .int .i64 r.id, .int .i64 r.index, .slice xo r.kids.length xc]) := ⟨by omega, HBV.out, out_step (wr := wr) (D := wr) (f := ren r.name nr r) HBV.out HK.out (by simp) (Keeps.refl _ _) (HV1.out.1.tr hg1) HXL.out ((HV1.out.2.2.kept fun b hb => hg1.block b hb.2 id).mono fun b hb => ⟨hb.1, Nat.lt_of_lt_of_le hb.2 hg1.size⟩) hZ⟩
   clear hg1
   go_wp2_with (first | (go_at_call 18; refine HC18.out.mono ?_; rintro e w8 ⟨rfl, hw8⟩; subst w8) | (with_reducible show wpList Tryz.prog _ _ (Oper.mk (some 101) _ _ _ _ _ :: _) _ _; refine wpList_push rfl (.tmp 98) (.tmp 100) rfl rfl rfl HPu.out ?_; intro vo' vc' w4 hb7 hp2; clear o0 o1 e0 e1 e2 e3 e4 f0 f1 f2 f3 f4; obtain ⟨o0, o1⟩ := cell2 hb7; have oz := frzA hb7; obtain ⟨U, hU⟩ := ex (w4.setCell ⟨w3.heap.size, 0, none⟩ (.slice vo' (k + 1) vc')); rw [hU] at hp2; have HE := hidM hp2; clear hb7 hp2))
   go_roundw
   case rel => exact ⟨k + 1, vo', vc', by omega, by first | go_num | (simp; omega), by have h := HE.out; rw [List.range_succ, List.map_append, List.map_cons, List.map_nil, HLF.out]; exact h⟩
   case measure => simp [intOf]; omega
  have hkn : k = n := by omega
  subst hkn
  go_wp2_with fail
  clear o0 o1 e0 e1 e2 e3 e4 f0 f1 f2 f3 f4 HSO HGW
  go_loopw [13] (fun p wr => ∃ (j N : Nat) (vo : Option Addr) (vc : Nat), j ≤ m ∧ p = .int .i64 (j : Int) ∧ Hid (N = k + (rIx k2 j).length ∧ FsI (V.setCell ⟨w3.heap.size, 0, none⟩ (.slice vo N vc)) wr d (((List.range k).map (lF d join fs1 fs2 k1 k2)) ++ (rIx k2 j).map (rF d join fs2)) vo vc)) (fun p _ => m - (intOf p).toNat)
  case atStart => exact ⟨0, k, vo, vc, by omega, rfl, by simp [rIx], by simpa [rIx] using HK.out⟩
  case round =>
   clear HK
   obtain ⟨j, N, vo, vc, hjm, rfl, HK0⟩ := hrel
   have HKN : Hid (N = k + (rIx k2 j).length) := HK0.out.1
   have HK : Hid (FsI (V.setCell ⟨w3.heap.size, 0, none⟩ (.slice vo N vc)) wr d (((List.range k).map (lF d join fs1 fs2 k1 k2)) ++ (rIx k2 j).map (rF d join fs2)) vo vc) := HK0.out.2
   clear HK0
   have hNb : N ≤ 2000 := by have := HKN.out; have := rIx_le k2 j; omega
   have HSO : Hid (∀ u, Gr wr u → (u.cell? ⟨w3.heap.size, 0, none⟩ = some (.slice vo N vc) ∧ u.cell? ⟨w3.heap.size, 1, none⟩ = some (.slice none 0 0)) ∧ two5 u W.heap.size A0.heap.size (.slice fo k cf) (.slice no nn cn) (.int .i64 br) (.slice bo bn bc) (.slice po L pc) (.slice go m cg) (.slice mo mm cm) (.int .i64 er) (.slice eo en ec) (.slice qo L qc)) := fun u g => by
    have hb := (g.block _ (lt_of_heap (HK.out.at_ HBV.out)) id).trans (HK.out.at_ HBV.out)
    exact ⟨cell2 hb, HSK.out u (HK.out.kp.tr (g.mono fun _ _ h => h.elim))⟩
   have HGW : Hid (Gr W wr) := HGV.out.trans HK.out.kp (fun j hj (e : j = w3.heap.size) => by have := HSZ.out; omega)
   obtain ⟨⟨o0, o1⟩, ⟨e0, e1, e2, e3, e4⟩, f0, f1, f2, f3, f4⟩ := HSO.out wr (Keeps.refl _ _)
   by_cases hlt : j < m
   ·have hjl : j < fs2.length := by have := HM.out; omega
    have hjI : (j : Int) < (m : Int) := by omega
    obtain ⟨pz, hpz⟩ : ∃ z, z = plc k2 (j : Int) := ⟨_, rfl⟩
    have hc18 := among18 k2 (j : Int) qo qc wr (by have := HL2.out; omega) (HZ2.out.gr HGW.out)
    rw [← HL2.out, ← hpz] at hc18
    have HPZ := hidM hpz
    clear hpz
    by_cases cp : 0 ≤ pz
    ·have HIX : Hid (rIx k2 (j + 1) = rIx k2 j) := by
      show _ = _
      have h := HPZ.out
      simp only [rIx, List.range_succ, List.filter_append]
      simp [← h, cp]
     obtain ⟨pn, rfl⟩ : ∃ pn : Nat, pz = (pn : Int) := ⟨pz.toNat, by omega⟩
     have HC18 := hidM hc18
     clear hc18 cp
     go_wp2_with (go_at_call 18; refine HC18.out.mono ?_; rintro e w8 ⟨rfl, hw8⟩; subst w8)
     go_roundw
     case rel => exact ⟨j + 1, N, vo, vc, by omega, by first | go_num | (simp; omega), by rw [HIX.out]; exact HKN.out, by rw [HIX.out]; exact HK.out⟩
     case measure => simp [intOf]; omega
    have HC18 := hidM hc18
    have HIX : Hid (rIx k2 (j + 1) = rIx k2 j ++ [j]) := by
     show _ = _
     have h := HPZ.out
     simp only [rIx, List.range_succ, List.filter_append]
     simp [← h, cp]
    have hp0 : pz < 0 := by omega
    obtain ⟨b2, o2, rfl, hb, hi⟩ := HR2.out.2 (fun e => by rw [e] at hjl; simp at hjl)
    obtain ⟨ko, kc, hc, hle, hr⟩ := hi j hjl
    obtain ⟨f, hf⟩ : ∃ f, f = fs2[j]'hjl := ⟨_, rfl⟩
    obtain ⟨r, hrr⟩ : ∃ r, r = bareF d f := ⟨_, rfl⟩
    have hq := H17b.out j hjl ko kc wr HGW.out (hr.kept fun z hz => HGW.out.block z (HT.out z hz) id) hle
    rw [← hf] at hc hq
    rw [← hrr] at hq
    have HQ := hidM hq
    have hcw := hc.kept (HGW.out.block b2 (HT.out b2 hb) id)
    obtain ⟨x0, x1, x2, x3', x4, x5, x6⟩ := hcw
    have eb : fs2[j]! = f := by rw [hf]; exact getElem!_pos fs2 j hjl
    have HRR : Hid (bareF d (fs2[j]!) = r) := by rw [eb, hrr]; exact rfl
    clear hb hi hc hle hr hq hf hrr eb hc18 cp
    go_wp2_with (first | (go_at_call 18; refine HC18.out.mono ?_; rintro e w8 ⟨rfl, hw8⟩; subst w8) | (go_at_call 17; refine Hid.out ?_))
    unfold Hid
    refine Calls.mono HQ.out ?_
    rintro e V1 ⟨v, rfl, gV, xo, xc, rfl, hxl, hxr⟩
    obtain ⟨nr, hnr⟩ : ∃ b, b = r.nul := ⟨_, rfl⟩
    rw [← hnr]
    have HNR := hidM hnr
    clear hnr
    obtain ⟨X, hX, gX, bX⟩ := nw V1 (.cells #[.string ⟨#[]⟩, .bool false, .int .i64 0, .int .i64 0, .int .i64 0, .int .i64 0, .slice none 0 0] 58)
    obtain ⟨z0, z1, z2, z3, z4, z5, z6⟩ := cell7 bX
    have fX := frz bX
    obtain ⟨Y, hY⟩ := ex (setAll X V1.heap.size [(0, .string r.name), (1, .bool nr), (2, .int .i64 r.kind), (3, .int .i64 r.width), (4, .int .i64 r.id), (5, .int .i64 r.index), (6, .slice xo r.kids.length xc)])
    have kY : Keeps X Y (fun z => z = V1.heap.size) := by rw [← hY]; exact setAll_kp _ _ _
    have bY : Y.heap[V1.heap.size]? = some (.cells #[.string r.name, .bool nr, .int .i64 r.kind, .int .i64 r.width, .int .i64 r.id, .int .i64 r.index, .slice xo r.kids.length xc] 58) := by rw [← hY, setAll_blk V1.heap.size 58 _ _ _ bX]; simp [setsA]
    have gY : Gr V1 Y := gX.trans kY (fun j hj (e : j = V1.heap.size) => by omega)
    have HV1 : Hid (Gr wr V1 ∧ Gr V1 Y ∧ RowAt (fun b => wr.heap.size ≤ b ∧ b < V1.heap.size) V1 d xo r.kids) := ⟨gV, gY, hxr⟩
    have HBY : Hid (Y.heap[V1.heap.size]? = some (.cells #[.string r.name, .bool nr, .int .i64 r.kind, .int .i64 r.width, .int .i64 r.id, .int .i64 r.index, .slice xo r.kids.length xc] 58)) := bY
    have HXL : Hid (r.kids.length ≤ xc) := hxl
    have HGY : Hid (Gr wr Y) := gV.tr gY
    obtain ⟨t0, t1, t2, t3, t4, t5, t6⟩ := cell7 bY
    have fY := frz bY
    simp only [setAll] at hY
    clear gV gX bX kY bY gY hxl hxr x0 x1 x2 x3' x4 x5 x6
    clear o0 o1 e0 e1 e2 e3 e4 f0 f1 f2 f3 f4
    obtain ⟨⟨o0, o1⟩, ⟨e0, e1, e2, e3, e4⟩, f0, f1, f2, f3, f4⟩ := HSO.out Y (HGY.out)
    cases nr with
    | true =>
     have st := set_id (j := 1) (v := .bool true) HBY.out rfl
     have HLF : Hid (rF d join fs2 j = ren r.name true r) := by
      show _ = _
      unfold rF
      rw [HRR.out, ← HNR.out]; rfl
     obtain ⟨Z, hZ⟩ := ex (Y.alloc (.cells #[.string r.name, .bool true, .int .i64 r.kind, .int .i64 r.width, .int .i64 r.id, .int .i64 r.index, .slice xo r.kids.length xc] 58))
     have hg1 : Gr V1 Y := HV1.out.2.1
     have HPu : Hid (PuH V wr Z w3.heap.size d N vc Y.heap.size vo (((List.range k).map (lF d join fs1 fs2 k1 k2)) ++ (rIx k2 j).map (rF d join fs2)) (ren r.name true r) [.string r.name, .bool true, .int .i64 r.kind, .int .i64 r.width, .int .i64 r.id, .int .i64 r.index, .slice xo r.kids.length xc]) := ⟨by omega, HBV.out, out_step (wr := wr) (D := wr) (f := ren r.name true r) HBV.out HK.out (by have := HKN.out; simp; omega) (Keeps.refl _ _) (HV1.out.1.tr hg1) HXL.out ((HV1.out.2.2.kept fun b hb => hg1.block b hb.2 id).mono fun b hb => ⟨hb.1, Nat.lt_of_lt_of_le hb.2 hg1.size⟩) hZ⟩
     clear hg1
     go_wp2_with (with_reducible show wpList Tryz.prog _ _ (Oper.mk (some 134) _ _ _ _ _ :: _) _ _; refine wpList_push rfl (.tmp 131) (.tmp 133) rfl rfl rfl HPu.out ?_; intro vo' vc' w4 hb7 hp2; clear o0 o1 e0 e1 e2 e3 e4 f0 f1 f2 f3 f4; obtain ⟨o0, o1⟩ := cell2 hb7; have oz := frzA hb7; obtain ⟨U, hU⟩ := ex (w4.setCell ⟨w3.heap.size, 0, none⟩ (.slice vo' (N + 1) vc')); rw [hU] at hp2; have HE := hidM hp2; clear hb7 hp2)
     go_roundw
     case rel => exact ⟨j + 1, N + 1, vo', vc', by omega, by first | go_num | (simp; omega), by have h := HIX.out; rw [h, List.length_append]; have := HKN.out; simp; omega, by have h := HE.out; rw [HIX.out, List.map_append, List.map_cons, List.map_nil, HLF.out, ← List.append_assoc]; exact h⟩
     case measure => simp [intOf]; omega
    | false =>
     by_cases cj : join = 1
     ·have hj1 : (join != 1) = false := by simp [cj]
      have st := set_id (j := 1) (v := .bool false) HBY.out rfl
      have HLF : Hid (rF d join fs2 j = ren r.name false r) := by
       show _ = _
       unfold rF
       rw [HRR.out, ← HNR.out, cj]; rfl
      clear cj
      obtain ⟨Z, hZ⟩ := ex (Y.alloc (.cells #[.string r.name, .bool false, .int .i64 r.kind, .int .i64 r.width, .int .i64 r.id, .int .i64 r.index, .slice xo r.kids.length xc] 58))
      have hg1 : Gr V1 Y := HV1.out.2.1
      have HPu : Hid (PuH V wr Z w3.heap.size d N vc Y.heap.size vo (((List.range k).map (lF d join fs1 fs2 k1 k2)) ++ (rIx k2 j).map (rF d join fs2)) (ren r.name false r) [.string r.name, .bool false, .int .i64 r.kind, .int .i64 r.width, .int .i64 r.id, .int .i64 r.index, .slice xo r.kids.length xc]) := ⟨by omega, HBV.out, out_step (wr := wr) (D := wr) (f := ren r.name false r) HBV.out HK.out (by have := HKN.out; simp; omega) (Keeps.refl _ _) (HV1.out.1.tr hg1) HXL.out ((HV1.out.2.2.kept fun b hb => hg1.block b hb.2 id).mono fun b hb => ⟨hb.1, Nat.lt_of_lt_of_le hb.2 hg1.size⟩) hZ⟩
      clear hg1
      go_wp2_with (with_reducible show wpList Tryz.prog _ _ (Oper.mk (some 134) _ _ _ _ _ :: _) _ _; refine wpList_push rfl (.tmp 131) (.tmp 133) rfl rfl rfl HPu.out ?_; intro vo' vc' w4 hb7 hp2; clear o0 o1 e0 e1 e2 e3 e4 f0 f1 f2 f3 f4; obtain ⟨o0, o1⟩ := cell2 hb7; have oz := frzA hb7; obtain ⟨U, hU⟩ := ex (w4.setCell ⟨w3.heap.size, 0, none⟩ (.slice vo' (N + 1) vc')); rw [hU] at hp2; have HE := hidM hp2; clear hb7 hp2)
      go_roundw
      case rel => exact ⟨j + 1, N + 1, vo', vc', by omega, by first | go_num | (simp; omega), by have h := HIX.out; rw [h, List.length_append]; have := HKN.out; simp; omega, by have h := HE.out; rw [HIX.out, List.map_append, List.map_cons, List.map_nil, HLF.out, ← List.append_assoc]; exact h⟩
      case measure => simp [intOf]; omega
     have hj1 : (join != 1) = true := by simp [cj]
     have HLF : Hid (rF d join fs2 j = ren r.name true r) := by
      show _ = _
      unfold rF
      rw [HRR.out, ← HNR.out, show decide (join ≠ 1) = true by simp [cj]]; rfl
     clear cj
     obtain ⟨Y2, hY2⟩ := ex (Y.setCell ⟨V1.heap.size, 1, none⟩ (.bool true))
     have kY2 : Keeps Y Y2 (fun z => z = V1.heap.size) := by rw [← hY2]; exact Keeps.setCell (S := fun z => z = V1.heap.size) (p := ⟨V1.heap.size, 1, none⟩) (Keeps.refl Y _) (fun _ => rfl) _
     have bY2 : Y2.heap[V1.heap.size]? = some (.cells #[.string r.name, .bool true, .int .i64 r.kind, .int .i64 r.width, .int .i64 r.id, .int .i64 r.index, .slice xo r.kids.length xc] 58) := by rw [← hY2, heap_setCell_same Y V1.heap.size 1 _ _ _ (HBY.out)]; rfl
     have HY2 : Hid (Gr V1 Y2) := HV1.out.2.1.trans kY2 (fun j hj (e : j = V1.heap.size) => by omega)
     obtain ⟨u0, u1, u2, u3, u4, u5, u6⟩ := cell7 bY2
     clear kY2 bY2
     obtain ⟨⟨p0, p1⟩, -⟩ := HSO.out Y2 (HV1.out.1.tr HY2.out)
     obtain ⟨Z, hZ⟩ := ex (Y2.alloc (.cells #[.string r.name, .bool true, .int .i64 r.kind, .int .i64 r.width, .int .i64 r.id, .int .i64 r.index, .slice xo r.kids.length xc] 58))
     have hg1 : Gr V1 Y2 := HY2.out
     have HPu : Hid (PuH V wr Z w3.heap.size d N vc Y2.heap.size vo (((List.range k).map (lF d join fs1 fs2 k1 k2)) ++ (rIx k2 j).map (rF d join fs2)) (ren r.name true r) [.string r.name, .bool true, .int .i64 r.kind, .int .i64 r.width, .int .i64 r.id, .int .i64 r.index, .slice xo r.kids.length xc]) := ⟨by omega, HBV.out, out_step (wr := wr) (D := wr) (f := ren r.name true r) HBV.out HK.out (by have := HKN.out; simp; omega) (Keeps.refl _ _) (HV1.out.1.tr hg1) HXL.out ((HV1.out.2.2.kept fun b hb => hg1.block b hb.2 id).mono fun b hb => ⟨hb.1, Nat.lt_of_lt_of_le hb.2 hg1.size⟩) hZ⟩
     clear hg1
     go_wp2_with (with_reducible show wpList Tryz.prog _ _ (Oper.mk (some 134) _ _ _ _ _ :: _) _ _; refine wpList_push rfl (.tmp 131) (.tmp 133) rfl rfl rfl HPu.out ?_; intro vo' vc' w4 hb7 hp2; clear o0 o1 e0 e1 e2 e3 e4 f0 f1 f2 f3 f4; obtain ⟨o0, o1⟩ := cell2 hb7; have oz := frzA hb7; obtain ⟨U, hU⟩ := ex (w4.setCell ⟨w3.heap.size, 0, none⟩ (.slice vo' (N + 1) vc')); rw [hU] at hp2; have HE := hidM hp2; clear hb7 hp2)
     go_roundw
     case rel => exact ⟨j + 1, N + 1, vo', vc', by omega, by first | go_num | (simp; omega), by have h := HIX.out; rw [h, List.length_append]; have := HKN.out; simp; omega, by have h := HE.out; rw [HIX.out, List.map_append, List.map_cons, List.map_nil, HLF.out, ← List.append_assoc]; exact h⟩
     case measure => simp [intOf]; omega
   have hkm : j = m := by omega
   subst hkm
   have kA3 := HK.out.kp
   have hz := HSZ.out
   have hsz := kA3.size
   have gWr : Gr W wr := HGV.out.trans kA3 (fun j hj (e : j = w3.heap.size) => by omega)
   have ht := HK.out.at_ HBV.out
   have hr := (kA3.block A1.heap.size (by omega) (by omega)).trans HVA.out
   have hlk : ((((List.range k).map (lF d join fs1 fs2 k1 k2)) ++ (rIx k2 j).map (rF d join fs2))).length = N := by have := HKN.out; simp; omega
   obtain ⟨hvc, hrow⟩ := HK.out.row (by rw [hlk]; show N ≤ 1000000000000; have := HKN.out; have := rIx_le k2 j; omega)
   rw [hlk] at hvc
   have sA : (V.setCell ⟨w3.heap.size, 0, none⟩ (.slice vo N vc)).heap.size = V.heap.size := by simp [World.setCell]
   have hrowN : RowAt (fun b => V.heap.size ≤ b ∧ b < wr.heap.size) wr (d + 1) vo (((List.range k).map (lF d join fs1 fs2 k1 k2)) ++ (rIx k2 j).map (rF d join fs2)) := hrow.mono fun b hb => ⟨by have := hb.1; omega, hb.2⟩
   have hck := HCK.out wr vo vc N hlk.symm gWr (hrow.mono fun b hb => hb.2) hvc
   have hlen0 : ∀ (U : World), Gr wr U → U.heap[w3.heap.size]? = some (.cells #[.slice vo N vc, .slice none 0 0] 25) ∧ U.heap[A1.heap.size]? = some (.cells #[.slice none 0 0, .slice none 0 0] 25) := fun U kV => ⟨(kV.block _ (lt_of_heap ht) id).trans ht, (kV.block _ (lt_of_heap hr) id).trans hr⟩
   have HC21 := hidM hck
   obtain ⟨t0, t1⟩ := cell2 ht
   have HLT : Hid (W.heap.size ≤ A1.heap.size ∧ A1.heap.size < V.heap.size) := ⟨by omega, by omega⟩
   by_cases ce : x3 = 0
   ·subst ce
    have HX2 : Hid (∀ (w8 U : World) (xo : Option Addr) (xn xc : Nat) (tt : Int), Gr wr w8 → w8.alloc (.cells #[.int .i64 0, .slice xo xn xc, .int .i64 tt] 52) = U → U.heap[w8.heap.size]? = some (.cells #[.int .i64 0, .slice xo xn xc, .int .i64 tt] 52) ∧ U.heap[w3.heap.size]? = some (.cells #[.slice vo N vc, .slice none 0 0] 25) ∧ U.heap[A1.heap.size]? = some (.cells #[.slice none 0 0, .slice none 0 0] 25) ∧ (setAll U A1.heap.size [(0, .slice vo N vc), (1, .slice none 0 0)]).heap[A1.heap.size]? = some (.cells #[.slice vo N vc, .slice none 0 0] 25) ∧ Gr W (setAll U A1.heap.size [(0, .slice vo N vc), (1, .slice none 0 0)]) ∧ RowAt (fun b => b < (setAll U A1.heap.size [(0, .slice vo N vc), (1, .slice none 0 0)]).heap.size) (setAll U A1.heap.size [(0, .slice vo N vc), (1, .slice none 0 0)]) (d + 1) vo (((List.range k).map (lF d join fs1 fs2 k1 k2)) ++ (rIx k2 j).map (rF d join fs2))) := fun w8 U xo xn xc tt g8 hV => by
     have kV : Gr wr U := g8.tr (by rw [← hV]; exact gr_alloc w8 _)
     obtain ⟨h2, h3⟩ := hlen0 U kV
     have ks := setAll_kp A1.heap.size [(0, .slice vo N vc), (1, .slice none 0 0)] U
     have hss := ks.size
     have hsv := kV.size
     refine ⟨by rw [← hV]; exact heap_alloc_new w8 _, h2, h3, ?_, (gWr.tr kV).trans ks (fun j hj (e : j = A1.heap.size) => by have := HLT.out; omega), ?_⟩
     ·rw [setAll_blk A1.heap.size 25 _ _ _ h3]; simp [setsA]
     exact ((hrowN.kept fun b hb => kV.block b hb.2 id).kept fun b hb => ks.block b (by have := hb.2; omega) (fun e => by have e' : b = A1.heap.size := e; have := HLT.out; have := hb.1; omega)).mono fun b hb => by have := hb.2; omega
    have HVC := hidM hvc
    clear kA3 hz hsz gWr ht hr hvc hrow hlk sA hrowN hck hlen0
    go_wp2_with (go_at_call 15; refine HC21.out.mono ?_; rintro e w8 ⟨ao, an, ac, at8, rfl, g8⟩; clear t0 t1; obtain ⟨V8, hV8⟩ := ex (w8.alloc (.cells #[.int .i64 0, .slice ao an ac, .int .i64 at8] 52)); obtain ⟨h1, h2, h3, h4, h5, h6⟩ := HX2.out w8 V8 ao an ac at8 g8 hV8; obtain ⟨X8, hX8⟩ := ex (setAll V8 A1.heap.size [(0, .slice vo N vc), (1, .slice none 0 0)]); rw [hX8] at h4 h5 h6; have HU := hidM h4; have HKK := hidM h5; have HRR := hidM h6; simp only [setAll] at hX8; obtain ⟨y0, y1, y2⟩ := cell3V h1; have yz := frzA h1; have i0 := set_id (j := 0) (v := .int .i64 0) h1 rfl; have i1 := set_id (j := 1) (v := .slice ao an ac) h1 rfl; have i2 := set_id (j := 2) (v := .int .i64 at8) h1 rfl; obtain ⟨t0, t1⟩ := cell2 h2; obtain ⟨r0, r1⟩ := cell2 h3; have rz := frzA h3; clear g8 h1 h2 h3 h4 h5 h6)
    (try simp only [Exit.inBlock, Exit.then])
    refine bodyPost_ret (results_cell30t rfl rfl (by with_reducible exact HU.out) (by kernel_rfl)) rfl ?_
    exact ⟨vo, N, vc, rfl, HKK.out, HKN.out, HVC.out, HRR.out⟩
   have he : (x3 == 0) = false := by simp [ce]
   have he2 : (x3 != 0) = true := by simp [ce]
   have HX2 : Hid (∀ (w8 U : World) (xo : Option Addr) (xn xc : Nat) (tt : Int), Gr wr w8 → w8.alloc (.cells #[.int .i64 x3, .slice xo xn xc, .int .i64 tt] 52) = U → U.heap[w8.heap.size]? = some (.cells #[.int .i64 x3, .slice xo xn xc, .int .i64 tt] 52) ∧ U.heap[A1.heap.size]? = some (.cells #[.slice none 0 0, .slice none 0 0] 25) ∧ Gr W U) := fun w8 U xo xn xc tt g8 hV => by
    have kV : Gr wr U := g8.tr (by rw [← hV]; exact gr_alloc w8 _)
    exact ⟨by rw [← hV]; exact heap_alloc_new w8 _, (hlen0 U kV).2, gWr.tr kV⟩
   have HCE := hidM ce
   clear kA3 hz hsz gWr ht hr hvc hrow hlk sA hrowN hck hlen0
   go_wp2_with (go_at_call 15; refine HC21.out.mono ?_; rintro e w8 ⟨ao, an, ac, at8, rfl, g8⟩; clear t0 t1; obtain ⟨V8, hV8⟩ := ex (w8.alloc (.cells #[.int .i64 x3, .slice ao an ac, .int .i64 at8] 52)); obtain ⟨h1, h3, h5⟩ := HX2.out w8 V8 ao an ac at8 g8 hV8; have HU := hidM h3; have HY := hidM h1; have HKK := hidM h5; obtain ⟨y0, y1, y2⟩ := cell3V h1; have yz := frzA h1; have i0 := set_id (j := 0) (v := .int .i64 x3) h1 rfl; have i1 := set_id (j := 1) (v := .slice ao an ac) h1 rfl; have i2 := set_id (j := 2) (v := .int .i64 at8) h1 rfl; obtain ⟨r0, r1⟩ := cell2 h3; have rz := frzA h3; have r2 := set_id (j := 0) (v := .slice Option.none 0 0) h3 rfl; have r3 := set_id (j := 1) (v := .slice Option.none 0 0) h3 rfl; clear g8 h1 h3 h5)
   have HSV : Hid (∀ u, Gr V8 u → u.cell? ⟨w8.heap.size, 0, none⟩ = some (.int .i64 x3)) := fun u g => g.cell' (cell3V HY.out).1 id
   have HGV8 : Hid (Gr V8 V8.drew) := gr_drew
   refine wp_region_held_drew (S := fun w' => w'.cell? ⟨w8.heap.size, 0, none⟩ = some (.int .i64 x3)) (by kernel_rfl) (HSV.out V8.drew HGV8.out) fun _ => ?_
   refine tk 0 ?_
   refine tk 1 ?_
   refine' wpAnyH_take (i := 2) (oi := { dst := some 143, op := Op.load 33 (Operand.tmp 142), type := 33, pos := "ref.go:192", after := #[{ on := 1, ground := Ground.data }, { on := 3, ground := Ground.gcOnly Departure.lateStores }], guard := none }) rfl (by kernel_rfl) (by kernel_rfl) (by kernel_rfl) (fun _ _ _ h => h) (Or.inl ⟨by rfl, _⟩) (by assumption) _
   rotate_left 1
   ·(intro w hSw; have s0 := hSw; go_simp; (try with_reducible rfl))
   try simp only [Act.put, lA, lB, lC]
   refine rd1 3 fun Kc hK => ?_
   go_simp
   refine hK.out _ _ (HSV.out V8.drew HGV8.out) fun _ => ?_
   clear hK Kc
   try simp only [Act.put, lA, lB, lC]
   refine tk 4 ?_
   refine wpAnyH_done (by kernel_rfl) ?_ _
   have HUD := hidM ((HGV8.out.block _ (lt_of_heap HU.out) id).trans HU.out)
   have HKD := hidM (HKK.out.tr HGV8.out)
   go_wp2_with fail
   (try simp only [Exit.inBlock, Exit.then])
   refine bodyPost_ret (results_cell30t rfl rfl (by with_reducible exact HUD.out) (by kernel_rfl)) rfl ?_
   first | exact ⟨⟨none, 0, rfl⟩, HKD.out⟩ | exact ⟨none, 0, 0, rfl, HKD.out, fun h => absurd h HCE.out, fun _ => rfl⟩
open Kd (NewB ZsAt ZsAt.gr maybe_gen)
def T15 (u : World) (S : Value) (x : Int) : Prop := Calls Tryz.prog 15 #[S] u fun e w' => ∃ xo xn xc tt, e = .returned (.agg #[.int .i64 x, .slice xo xn xc, .int .i64 tt]) ∧ Gr u w'
theorem tells_t15 {u W : World} {S : Value} {x t : Int} {p : List Nat} (h : Tells W 15 S x p t) (g : Gr W u) : T15 u S x := by
 refine Calls.mono (h u g) ?_
 rintro e w' ⟨vo, vc, rfl, g', -⟩
 exact ⟨vo, _, vc, _, rfl, g'⟩
theorem MIn.d1 {T : Nat → Prop} {d : Nat} {fs1 fs2 : List FT} {ns1 ns2 : List (ByteArray × ByteArray)} {k1 k2 : List Int} {fo no go mo po qo : Option Addr} {cf cn cg cm pc qc : Nat} {W : World} (h : MIn T d fs1 fs2 ns1 ns2 k1 k2 fo no go mo po qo cf cn cg cm pc qc W) {e1 : Int} {p1 : List Nat} {t1 : Int} (h1 : FaultIs (listsE fs1.length ns1) (nodes (d + 1) fs1 [] false) e1 p1 t1) : Tells W 15 (.agg #[.slice fo fs1.length cf, .slice no ns1.length cn]) e1 p1 t1 :=
 tells15 h.r1 h.c1 h.hT h.n1 h1
theorem MIn.d2 {T : Nat → Prop} {d : Nat} {fs1 fs2 : List FT} {ns1 ns2 : List (ByteArray × ByteArray)} {k1 k2 : List Int} {fo no go mo po qo : Option Addr} {cf cn cg cm pc qc : Nat} {W : World} (h : MIn T d fs1 fs2 ns1 ns2 k1 k2 fo no go mo po qo cf cn cg cm pc qc W) {e2 : Int} {p2 : List Nat} {t2 : Int} (h2 : FaultIs (listsE fs2.length ns2) (nodes (d + 1) fs2 [] false) e2 p2 t2) : Tells W 15 (.agg #[.slice go fs2.length cg, .slice mo ns2.length cm]) e2 p2 t2 :=
 tells15 h.r2 h.c2 h.hT h.n2 h2
theorem doc_w {T : Nat → Prop} {d : Nat} {fs1 fs2 : List FT} {ns1 ns2 : List (ByteArray × ByteArray)} {k1 k2 : List Int} {fo no go mo po qo : Option Addr} {cf cn cg cm pc qc : Nat} {W : World} (h : MIn T d fs1 fs2 ns1 ns2 k1 k2 fo no go mo po qo cf cn cg cm pc qc W) (join br er : Int) (bo eo : Option Addr) (bn bc en ec : Nat) (D : Nat) (outs : List FT) {e1 e2 t1 t2 : Int} {p1 p2 : List Nat} (h1 : FaultIs (listsE fs1.length ns1) (nodes (d + 1) fs1 [] false) e1 p1 t1) (h2 : FaultIs (listsE fs2.length ns2) (nodes (d + 1) fs2 [] false) e2 p2 t2) (c : ¬ e1 = 0 ∨ (e1 = 0 ∧ ¬ e2 = 0)) :
  Calls Tryz.prog 6 #[.int .i64 join, .agg #[.slice fo fs1.length cf, .slice no ns1.length cn, .int .i64 br, .slice bo bn bc, .slice po k1.length pc], .agg #[.slice go fs2.length cg, .slice mo ns2.length cm, .int .i64 er, .slice eo en ec, .slice qo k2.length qc]] W (EndP W D outs 5) := by
 have q1 := h.d1 h1
 have q2 := h.d2 h2
 rcases c with c | ⟨rfl, c2⟩
 ·exact Calls.mono (type6_w1 join br er po qo fo no go mo bo eo k1.length pc k2.length qc fs1.length cf ns1.length cn fs2.length cg ns2.length cm bn bc en ec W e1 c fun u g => tells_t15 q1 g) fun e w' h => EndP.bad (by decide) h
 exact Calls.mono (type6_w2 join br er po qo fo no go mo bo eo k1.length pc k2.length qc fs1.length cf ns1.length cn fs2.length cg ns2.length cm bn bc en ec W e2 c2 (fun u g => tells_t15 q1 g) fun u g => tells_t15 q2 g) fun e w' h => EndP.bad (by decide) h
theorem doc_ask {T : Nat → Prop} {d : Nat} {fs1 fs2 : List FT} {ns1 ns2 : List (ByteArray × ByteArray)} {k1 k2 : List Int} {fo no go mo po qo : Option Addr} {cf cn cg cm pc qc : Nat} {W : World} (h : MIn T d fs1 fs2 ns1 ns2 k1 k2 fo no go mo po qo cf cn cg cm pc qc W) (join br er : Int) (bo eo : Option Addr) (bn bc en ec : Nat) {t1 t2 : Int} {p1 p2 : List Nat} (h1 : FaultIs (listsE fs1.length ns1) (nodes (d + 1) fs1 [] false) 0 p1 t1) (h2 : FaultIs (listsE fs2.length ns2) (nodes (d + 1) fs2 [] false) 0 p2 t2) {a : Int} (ha : AskIs d join fs1 fs2 k1 k2 a) :
  ∀ u, Gr W u → Calls Tryz.prog 16 #[.int .i64 join, .agg #[.slice fo fs1.length cf, .slice no ns1.length cn, .int .i64 br, .slice bo bn bc, .slice po k1.length pc], .agg #[.slice go fs2.length cg, .slice mo ns2.length cm, .int .i64 er, .slice eo en ec, .slice qo k2.length qc]] u fun e w' => e = .returned (.int .i64 a) ∧ Gr u w' := by
 obtain ⟨⟨o1, o2⟩, -, -⟩ := h.fine h1 h2
 intro u g
 have q := h.gr g
 exact ask16 d T join br er fs1 fs2 k1 k2 po qo fo no go mo bo eo pc qc _ cf _ cn _ cg _ cm bn bc en ec a u rfl rfl q.l1 q.l2 q.p1 q.p2 q.z1 q.z2 q.r1 q.r2 q.hT (fun f hf => okF_okB d f (o1 f hf)) (fun f hf => okF_okB d f (o2 f hf)) (fun f hf => okF_clean d f (o1 f hf)) (fun f hf => okF_clean d f (o2 f hf)) ha
theorem doc_k {T : Nat → Prop} {d : Nat} {fs1 fs2 : List FT} {ns1 ns2 : List (ByteArray × ByteArray)} {k1 k2 : List Int} {fo no go mo po qo : Option Addr} {cf cn cg cm pc qc : Nat} {W : World} (h : MIn T d fs1 fs2 ns1 ns2 k1 k2 fo no go mo po qo cf cn cg cm pc qc W) (join br er : Int) (bo eo : Option Addr) (bn bc en ec : Nat) (D : Nat) (outs : List FT) {t1 t2 : Int} {p1 p2 : List Nat} (h1 : FaultIs (listsE fs1.length ns1) (nodes (d + 1) fs1 [] false) 0 p1 t1) (h2 : FaultIs (listsE fs2.length ns2) (nodes (d + 1) fs2 [] false) 0 p2 t2) {a : Int} (ha : AskIs d join fs1 fs2 k1 k2 a) (hne : ¬ a = 0) :
  Calls Tryz.prog 6 #[.int .i64 join, .agg #[.slice fo fs1.length cf, .slice no ns1.length cn, .int .i64 br, .slice bo bn bc, .slice po k1.length pc], .agg #[.slice go fs2.length cg, .slice mo ns2.length cm, .int .i64 er, .slice eo en ec, .slice qo k2.length qc]] W (EndP W D outs a) := by
 have q1 := h.d1 h1
 have q2 := h.d2 h2
 exact Calls.mono (type6_k join br er po qo fo no go mo bo eo k1.length pc k2.length qc fs1.length cf ns1.length cn fs2.length cg ns2.length cm bn bc en ec W a hne (fun u g => tells_t15 q1 g) (fun u g => tells_t15 q2 g) (doc_ask h join br er bo eo bn bc en ec h1 h2 ha)) fun e w' h => EndP.bad hne h
theorem doc_ok {T : Nat → Prop} {d : Nat} {fs1 fs2 : List FT} {ns1 ns2 : List (ByteArray × ByteArray)} {k1 k2 : List Int} {fo no go mo po qo : Option Addr} {cf cn cg cm pc qc : Nat} {W : World} (h : MIn T d fs1 fs2 ns1 ns2 k1 k2 fo no go mo po qo cf cn cg cm pc qc W) (join br er : Int) (bo eo : Option Addr) (bn bc en ec : Nat) {t1 t2 t3 : Int} {p1 p2 p3 : List Nat} (h1 : FaultIs (listsE fs1.length ns1) (nodes (d + 1) fs1 [] false) 0 p1 t1) (h2 : FaultIs (listsE fs2.length ns2) (nodes (d + 1) fs2 [] false) 0 p2 t2) (ha : AskIs d join fs1 fs2 k1 k2 0)
  {e3 : Int} (h3 : FaultIs (listsE (outFs d join fs1 fs2 k1 k2).length []) (nodes (d + 2) (outFs d join fs1 fs2 k1 k2) [] false) e3 p3 t3) :
  Calls Tryz.prog 6 #[.int .i64 join, .agg #[.slice fo fs1.length cf, .slice no ns1.length cn, .int .i64 br, .slice bo bn bc, .slice po k1.length pc], .agg #[.slice go fs2.length cg, .slice mo ns2.length cm, .int .i64 er, .slice eo en ec, .slice qo k2.length qc]] W (EndP W (d + 2) (outFs d join fs1 fs2 k1 k2) e3) := by
 obtain ⟨⟨o1, o2⟩, n32, m32⟩ := h.fine h1 h2
 have q1 := h.d1 h1
 have q2 := h.d2 h2
 have hask := doc_ask h join br er bo eo bn bc en ec h1 h2 ha
 have hob1 : ∀ f ∈ fs1, okB d f := fun f hf => okF_okB d f (o1 f hf)
 have hob2 : ∀ f ∈ fs2, okB d f := fun f hf => okF_okB d f (o2 f hf)
 have hg : (¬ join < 1 ∧ ¬ 5 < join) ∧ keysGood fs1.length fs2.length k1 k2 := by
  rcases ha with ⟨-, e⟩ | ⟨-, -, e⟩ | ⟨-, -, -, e⟩ | ⟨a, b, -, -⟩
  ·exact absurd e (by decide)
  ·exact absurd e (by decide)
  ·exact absurd e (by decide)
  exact ⟨a, b⟩
 obtain ⟨⟨j1, j5⟩, ek, -, k8, g1, g2⟩ := hg
 by_cases c : join = 4 ∨ join = 5
 ·have eo' : outFs d join fs1 fs2 k1 k2 = fs1 := by unfold outFs; rw [if_pos c]
  rw [eo'] at h3 ⊢
  obtain ⟨-, -, hf⟩ := own_fine h1
  obtain ⟨rfl, -, -⟩ := (hf h.r1.deep).one h3
  refine Calls.mono (type6_s join br er po qo fo no go mo bo eo k1.length pc k2.length qc fs1.length cf ns1.length cn fs2.length cg ns2.length cm bn bc en ec W d T fs1 rfl h.r1 h.hT (by omega) (fun u g => tells_t15 q1 g) (fun u g => tells_t15 q2 g) hask) ?_
  rintro e w' ⟨xo, xc, rfl, g, hle, hr⟩
  exact ⟨xo, _, xc, rfl, g, fun _ => ⟨rfl, hle, hr.up⟩, fun e => absurd rfl e⟩
 have eo' : outFs d join fs1 fs2 k1 k2 = (List.range fs1.length).map (lF d join fs1 fs2 k1 k2) ++ (rIx k2 fs2.length).map (rF d join fs2) := by unfold outFs; rw [if_neg c]
 have hj : ¬ join < 1 ∧ join < 4 := ⟨j1, by have h4 : ¬ join = 4 := fun e => c (.inl e); have h5 : ¬ join = 5 := fun e => c (.inr e); omega⟩
 rw [eo'] at h3 ⊢
 rw [← ek] at hask ⊢
 refine Calls.mono (type6_ok join br er k1 k2 po qo fo no go mo bo eo k1.length pc qc fs1.length cf ns1.length cn fs2.length cg ns2.length cm bn bc en ec W d T fs1 fs2 e3 rfl rfl (by omega) (by omega) (by omega) rfl ek h.z1 h.z2 h.r1 h.r2 h.hT (keyF_at g2) hj (fun u g => tells_t15 q1 g) (fun u g => tells_t15 q2 g) hask
  (fun i hi ko kc u g hr hl => bare17 d T fs1[i] ko kc u hr (fun b hb => Nat.lt_of_lt_of_le (h.hT b hb) g.size) hl (hob1 _ (List.getElem_mem hi)))
  (fun i hi ko kc u g hr hl => bare17 d T fs2[i] ko kc u hr (fun b hb => Nat.lt_of_lt_of_le (h.hT b hb) g.size) hl (hob2 _ (List.getElem_mem hi)))
  (fun u vo vc Q hQ g hr hv => ?_)) ?_
 ·subst hQ
  exact tells_t15 (tells15 (S := fun b => b < u.heap.size) (D := d + 2) (no := none) (cn := 0) (ns := []) hr.up hv (fun b hb => hb) (notes_none u) h3) (Keeps.refl _ _)
 rintro e w' ⟨xo, xN, xc, rfl, g, hq, hz⟩
 exact ⟨xo, xN, xc, rfl, g, fun e0 => ⟨(hq e0).1, (hq e0).2.1, (hq e0).2.2.up⟩, hz⟩
theorem both_types {T : Nat → Prop} {d : Nat} {fs1 fs2 : List FT} {ns1 ns2 : List (ByteArray × ByteArray)} {k1 k2 : List Int} {fo no go mo po qo : Option Addr} {cf cn cg cm pc qc : Nat} {W : World} (h : MIn T d fs1 fs2 ns1 ns2 k1 k2 fo no go mo po qo cf cn cg cm pc qc W) (join br er : Int) (bo eo : Option Addr) (bn bc en ec : Nat) :
  ∃ (outs : List FT) (E : Int), (∀ u, Gr W u → Calls Tryz.prog 5 #[.int .i64 join, .agg #[.slice fo fs1.length cf, .slice no ns1.length cn], .slice po k1.length pc, .agg #[.slice go fs2.length cg, .slice mo ns2.length cm], .slice qo k2.length qc] u (EndP u (d + 2) outs E)) ∧ (∀ u, Gr W u → Calls Tryz.prog 6 #[.int .i64 join, .agg #[.slice fo fs1.length cf, .slice no ns1.length cn, .int .i64 br, .slice bo bn bc, .slice po k1.length pc], .agg #[.slice go fs2.length cg, .slice mo ns2.length cm, .int .i64 er, .slice eo en ec, .slice qo k2.length qc]] u (EndP u (d + 2) outs E)) := by
 obtain ⟨e1, p1, t1, h1⟩ := fault_is (listsE fs1.length ns1) (nodes (d + 1) fs1 [] false)
 obtain ⟨e2, p2, t2, h2⟩ := fault_is (listsE fs2.length ns2) (nodes (d + 1) fs2 [] false)
 by_cases c : ¬ e1 = 0 ∨ (e1 = 0 ∧ ¬ e2 = 0)
 ·exact ⟨[], 5, fun u g => prog_w (h.gr g) join _ _ h1 h2 c, fun u g => doc_w (h.gr g) join br er bo eo bn bc en ec _ _ h1 h2 c⟩
 have c1 : e1 = 0 := Classical.byContradiction fun h => c (.inl h)
 have c2 : e2 = 0 := Classical.byContradiction fun h => c (.inr ⟨c1, h⟩)
 subst c1
 subst c2
 obtain ⟨a, ha⟩ := ask_ex d join fs1 fs2 k1 k2
 by_cases ca : a = 0
 ·subst ca
  obtain ⟨e3, p3, t3, h3⟩ := fault_is (listsE (outFs d join fs1 fs2 k1 k2).length []) (nodes (d + 2) (outFs d join fs1 fs2 k1 k2) [] false)
  exact ⟨_, e3, fun u g => prog_ok (h.gr g) join h1 h2 ha h3, fun u g => doc_ok (h.gr g) join br er bo eo bn bc en ec h1 h2 ha h3⟩
 exact ⟨[], a, fun u g => prog_k (h.gr g) join _ _ h1 h2 ha ca, fun u g => doc_k (h.gr g) join br er bo eo bn bc en ec _ _ h1 h2 ha ca⟩
variable {nx : Bool}
theorem valuesOf30 (L g ac db dbc qb bc v2 c2 : Nat) (ao : Option Addr) (ca : Nat) (xs : Nat → Int) (W : World) (hB : Bt nx W L g ac db dbc qb bc v2 c2 ao ca) (hx : ∀ k, k < L → W.cell? ⟨v2, k, none⟩ = some (.int .u8 (xs k)) ∧ (xs k = 5 ∨ xs k = 7 ∨ xs k = 8)) :
  Calls Tryz.prog 49 #[.agg #[.slice (some ⟨g, 0, none⟩) 1 ac, .slice none 0 0], .agg #[.int .i64 L, .slice (some ⟨db, 0, none⟩) 1 dbc], .int .i64 0] W fun e w' => ∃ gv, e = .returned (.slice (some ⟨gv, 0, none⟩) L L) ∧ Gr W w' ∧ W.heap.size ≤ gv ∧ w'.heap[gv]? = some (.cells (rowK xs L L) 108) := by
 obtain ⟨A0, hA0, g0, b0⟩ := nw W (.cells #[.slice (some ⟨g, 0, none⟩) 1 ac, .slice none 0 0] 25)
 obtain ⟨A1, hA1, g1, b1⟩ := nw A0 (.cells #[.int .i64 L, .slice (some ⟨db, 0, none⟩) 1 dbc] 28)
 have gW : Gr W A1 := g0.tr g1
 obtain ⟨e0, e1⟩ := cell2 ((g1.block _ (lt_of_heap b0) id).trans b0)
 obtain ⟨f0, f1⟩ := cell2 b1
 have hB1 := hB.gr gW
 obtain ⟨p0, p1, p2, p3, p4, p5, p6⟩ := cell7 hB1.s.f
 obtain ⟨d0, d1, d2, d3, d4, d5⟩ := cell6 hB1.d
 have HSS : Hid (∀ u, Gr A1 u → u.cell? ⟨W.heap.size, 0, none⟩ = some (.slice (some ⟨g, 0, none⟩) 1 ac) ∧ u.cell? ⟨A0.heap.size, 1, none⟩ = some (.slice (some ⟨db, 0, none⟩) 1 dbc) ∧ u.cell? ⟨g, 0, none⟩ = some (.string (nmB nx)) ∧ u.cell? ⟨g, 1, none⟩ = some (.bool false) ∧ u.cell? ⟨g, 2, none⟩ = some (.int .i64 3) ∧ u.cell? ⟨g, 3, none⟩ = some (.int .i64 0) ∧ u.cell? ⟨g, 4, none⟩ = some (.int .i64 0) ∧ u.cell? ⟨g, 5, none⟩ = some (.int .i64 0) ∧ u.cell? ⟨g, 6, none⟩ = some (.slice ao 0 ca) ∧ u.cell? ⟨db, 0, none⟩ = some (.int .i64 L) ∧ u.cell? ⟨db, 1, none⟩ = some (.int .i64 0) ∧ u.cell? ⟨db, 2, none⟩ = some (.int .i64 0) ∧ u.cell? ⟨db, 3, none⟩ = some (.slice (some ⟨qb, 0, none⟩) 2 bc) ∧ u.cell? ⟨db, 4, none⟩ = some (.slice none 0 0) ∧ u.cell? ⟨db, 5, none⟩ = some (.slice none 0 0)) := fun u g => ⟨g.cell' e0 id, g.cell' f1 id, g.cell' p0 id, g.cell' p1 id, g.cell' p2 id, g.cell' p3 id, g.cell' p4 id, g.cell' p5 id, g.cell' p6 id, g.cell' d0 id, g.cell' d1 id, g.cell' d2 id, g.cell' d3 id, g.cell' d4 id, g.cell' d5 id⟩
 have HC1 : Hid (∀ u, Gr A1 u → Calls Tryz.prog 72 #[.agg #[.string (nmB nx), .bool false, .int .i64 3, .int .i64 0, .int .i64 0, .int .i64 0, .slice ao 0 ca], .agg #[.int .i64 L, .int .i64 0, .int .i64 0, .slice (some ⟨qb, 0, none⟩) 2 bc, .slice none 0 0, .slice none 0 0]] u fun e w' => ∃ a, e = .returned (.tuple #[.pointer (some ⟨a, 0, none⟩), .agg #[.int .i64 0, .slice none 0 0, .int .i64 0]]) ∧ OpA nx u w' L v2 c2 a) := fun u k => open49 L qb bc v2 c2 ao ca u (hB1.gr k).n
 have HV : Hid (∀ (w V : World) (a : Nat), Gr A1 w → OpA nx w V L v2 c2 a → Calls Tryz.prog 73 #[.pointer (some ⟨a, 0, none⟩)] V fun e w' => ∃ gv, e = .returned (.slice (some ⟨gv, 0, none⟩) L L) ∧ Gr W w' ∧ W.heap.size ≤ gv ∧ w'.heap[gv]? = some (.cells (rowK xs L L) 108)) := fun w V a k hO => by
  obtain ⟨q, r, rc, fo, fc, ⟨h1, h2, h3⟩, h4, h5⟩ := hO.p
  have kWw : Gr W w := gW.tr k
  have kW : Gr W V := kWw.tr hO.g
  have hL := hB.n.hL
  have n2 := hB.n.n2
  have hv2 : v2 < V.heap.size := block_lt_of_cell (kW.cell' (hx 0 (by omega)).1 id)
  refine (values19 a V q r rc false fo fc L v2 L c2 xs hL (fun u ku ab hab => ⟨h4.gr ku, hab, (ku.block _ (lt_of_heap h5) id).trans h5, fun j hj => ⟨(kW.tr ku).cell' (hx j hj).1 id, (hx j hj).2⟩, by omega, ⟨Nat.le_refl _, by omega, n2⟩⟩) h5 (lt_of_heap h4.nd) (by have := block_lt_of_cell h4.r1; simpa using this) hv2).mono ?_
  rintro e w' ⟨gv, rfl, hg, hge, hgv⟩
  have hsz := kW.size
  exact ⟨gv, rfl, kW.tr hg, by omega, hgv⟩
 have HB0 : Hid (Gr A1 A1.drew) := gr_drew
 have HSd := hidM (HSS.out A1.drew HB0.out)
 obtain ⟨B, hBe⟩ := ex (A1.drew.alloc (.cells #[.int .i64 0, .slice none 0 0, .int .i64 0] 52))
 have HGB : Hid (Gr A1 B ∧ B.heap[A1.heap.size]? = some (.cells #[.int .i64 0, .slice none 0 0, .int .i64 0] 52)) := by rw [← hBe]; exact ⟨HB0.out.tr (gr_alloc _ _), heap_alloc_new _ _⟩
 have HSb := hidM (HSS.out B HGB.out.1)
 clear g0 b0 g1 b1 gW hB hB1 hx p0 p1 p2 p3 p4 p5 p6 d0 d1 d2 d3 d4 d5 e0 e1 f0 f1
 go_enter Tryz.func49, Tryz.ntmps49
 go_wp2_with fail
 clear hA0 hA1
 go_region_held3 (fun u => u.cell? ⟨W.heap.size, 0, none⟩ = some (.slice (some ⟨g, 0, none⟩) 1 ac) ∧ u.cell? ⟨A0.heap.size, 1, none⟩ = some (.slice (some ⟨db, 0, none⟩) 1 dbc) ∧ u.cell? ⟨g, 0, none⟩ = some (.string (nmB nx)) ∧ u.cell? ⟨g, 1, none⟩ = some (.bool false) ∧ u.cell? ⟨g, 2, none⟩ = some (.int .i64 3) ∧ u.cell? ⟨g, 3, none⟩ = some (.int .i64 0) ∧ u.cell? ⟨g, 4, none⟩ = some (.int .i64 0) ∧ u.cell? ⟨g, 5, none⟩ = some (.int .i64 0) ∧ u.cell? ⟨g, 6, none⟩ = some (.slice ao 0 ca) ∧ u.cell? ⟨db, 0, none⟩ = some (.int .i64 L) ∧ u.cell? ⟨db, 1, none⟩ = some (.int .i64 0) ∧ u.cell? ⟨db, 2, none⟩ = some (.int .i64 0) ∧ u.cell? ⟨db, 3, none⟩ = some (.slice (some ⟨qb, 0, none⟩) 2 bc) ∧ u.cell? ⟨db, 4, none⟩ = some (.slice none 0 0) ∧ u.cell? ⟨db, 5, none⟩ = some (.slice none 0 0)) (first | with_reducible exact HSd.out | with_reducible exact HSb.out | with_reducible exact HS2.out | with_reducible exact HS3.out) (first
  | (go_at_call 72; refine (HC1.out B HGB.out.1).mono ?_; rintro e w1 ⟨a, rfl, hO⟩; have k1 := HGB.out.1.tr hO.g; have HS2 := hidM (HSS.out w1 k1); have hv := (hO.g.block _ (lt_of_heap HGB.out.2) id).trans HGB.out.2; obtain ⟨y0, y1, y2⟩ := cell3V hv; have z0 := frz hv 0; have z1 := frz hv 1; have z2 := frz hv 2; have i0 := set_id (j := 0) (v := .int .i64 0) hv rfl; have i1 := set_id (j := 1) (v := .slice none 0 0) hv rfl; have i2 := set_id (j := 2) (v := .int .i64 0) hv rfl; have HVV := hidM (HV.out B w1 a HGB.out.1 hO); clear hO k1 hv)
  | (go_at_call 72; refine (HC1.out A1.drew HB0.out).mono ?_; rintro e w1 ⟨a, rfl, hO⟩; have HS2 := hidM (HSS.out w1 (HB0.out.tr hO.g)); obtain ⟨V, hV⟩ := ex (w1.alloc (.cells #[.int .i64 0, .slice none 0 0, .int .i64 0] 52)); have gV := gr_al hV; have hv := al_new hV; have HS3 := hidM (HSS.out V ((HB0.out.tr hO.g).tr gV)); obtain ⟨y0, y1, y2⟩ := cell3V hv; have z0 := frz hv 0; have z1 := frz hv 1; have z2 := frz hv 2; have i0 := set_id (j := 0) (v := .int .i64 0) hv rfl; have i1 := set_id (j := 1) (v := .slice none 0 0) hv rfl; have i2 := set_id (j := 2) (v := .int .i64 0) hv rfl; have HVV := hidM (HV.out A1.drew V a HB0.out (hO.gr gV)); clear hO gV hv))
 all_goals
  clear y0 y1 y2 z0 z1 z2 i0 i1 i2
  go_wp2_with (go_at_call 73; refine HVV.out.mono ?_; rintro e w5 ⟨gv, rfl, hg5, hge, hgv⟩; have HE := hidM (And.intro hg5 (And.intro hge hgv)); clear hg5 hge hgv)
  go_ret
  exact ⟨gv, rfl, HE.out⟩
def sameAll {α : Type} (p : α → α → Bool) : List α → List α → Bool
 | [], [] => true
 | f :: a, g :: b => p f g && sameAll p a b
 | [], _ :: _ => false
 | _ :: _, [] => false
theorem sameAll_len {α : Type} {p : α → α → Bool} : ∀ {a b : List α}, a.length ≠ b.length → sameAll p a b = false
 | [], [], h => absurd rfl h
 | [], _ :: _, _ => rfl
 | _ :: _, [], _ => rfl
 | _ :: a, _ :: b, h => by simp [sameAll, sameAll_len (a := a) (b := b) (by simpa using h)]
theorem sameAll_true {α : Type} {p : α → α → Bool} : ∀ {a b : List α}, a.length = b.length → (∀ i (h : i < a.length) (h' : i < b.length), p a[i] b[i] = true) → sameAll p a b = true
 | [], [], _, _ => rfl
 | [], _ :: _, h, _ => by simp at h
 | _ :: _, [], h, _ => by simp at h
 | f :: a, g :: b, h, hp => by
  have h0 : p f g = true := hp 0 (by simp) (by simp)
  have h1 := sameAll_true (p := p) (a := a) (b := b) (by simpa using h) (fun i hi hi' => hp (i + 1) (by simp; omega) (by simp; omega))
  simp [sameAll, h0, h1]
theorem sameAll_false {α : Type} {p : α → α → Bool} : ∀ {a b : List α} (i : Nat) (h : i < a.length) (h' : i < b.length), p a[i] b[i] = false → sameAll p a b = false
 | [], _, _, h, _, _ => by simp at h
 | _ :: _, [], _, _, h, _ => by simp at h
 | f :: a, g :: b, 0, _, _, hp => by
  have : p f g = false := hp
  simp [sameAll, this]
 | f :: a, g :: b, i + 1, h, h', hp => by
  have h1 := sameAll_false (p := p) (a := a) (b := b) i (by simp at h; omega) (by simp at h'; omega) hp
  simp [sameAll, h1]
theorem sameAll_iff {α : Type} {p : α → α → Bool} : ∀ {a b : List α}, (∀ x ∈ a, ∀ y ∈ b, (p x y = true ↔ x = y)) → (sameAll p a b = true ↔ a = b)
 | [], [], _ => by simp [sameAll]
 | [], _ :: _, _ => by simp [sameAll]
 | _ :: _, [], _ => by simp [sameAll]
 | x :: a, y :: b, h => by
  have h0 := h x (by simp) y (by simp)
  have h1 := sameAll_iff (p := p) (a := a) (b := b) fun u hu v hv => h u (by simp [hu]) v (by simp [hv])
  simp only [sameAll, Bool.and_eq_true, List.cons.injEq, h0, h1]
mutual
def sameVL : Nat → List VT → List VT → Bool
 | 0, a, b => sameAll (fun _ _ => true) a b
 | d + 1, a, b => sameAll (sameV d) a b
def sameV : Nat → VT → VT → Bool
 | d, a, b => (a.nul == b.nul) && (a.num == b.num) && sEq a.text b.text && sameVL d a.list b.list
end
theorem sameVL_succ (d : Nat) (a b : List VT) : sameVL (d + 1) a b = sameAll (sameV d) a b := by rw [sameVL]
theorem sameV_eq (d : Nat) (a b : VT) : sameV d a b = ((a.nul == b.nul) && (a.num == b.num) && sEq a.text b.text && sameVL d a.list b.list) := by rw [sameV]
theorem sEq_iff (a b : ByteArray) : sEq a b = true ↔ a = b := by
 unfold sEq
 rw [ByteArray.toList_eq, ByteArray.toList_eq, beq_iff_eq]
 exact ⟨bytes_ext, fun h => by rw [h]⟩
theorem same_iff : ∀ (d : Nat) (a b : VT), vdeep d a.list → vdeep d b.list → (sameV d a b = true ↔ a = b) := by
 intro d
 induction d with
 | zero =>
  intro a b ha hb
  have ha' : a.list = [] := ha
  have hb' : b.list = [] := hb
  rw [sameV_eq, sameVL, ha', hb']
  simp only [Bool.and_eq_true, beq_iff_eq, sEq_iff, sameAll]
  exact ⟨fun ⟨⟨⟨h1, h2⟩, h3⟩, _⟩ => VT.ext' h1 h2 h3 (ha'.trans hb'.symm), fun h => by subst h; simp⟩
 | succ d ih =>
  intro a b ha hb
  have hl : sameAll (sameV d) a.list b.list = true ↔ a.list = b.list := sameAll_iff fun x hx y hy => ih x y (ha x hx) (hb y hy)
  rw [sameV_eq, sameVL_succ]
  simp only [Bool.and_eq_true, beq_iff_eq, sEq_iff, hl]
  exact ⟨fun ⟨⟨⟨h1, h2⟩, h3⟩, h4⟩ => VT.ext' h1 h2 h3 h4, fun h => by subst h; simp⟩
def AnsB (F : Nat) (args : Array Value) (b : Bool) (w : World) : Prop := ∀ W, Gr w W → Calls Tryz.prog F args W fun e w' => e = .returned (.bool b) ∧ Gr W w'
theorem AnsB.gr {F : Nat} {args : Array Value} {b : Bool} {w W : World} (h : AnsB F args b w) (g : Gr w W) : AnsB F args b W := fun W' g' => h W' (g.tr g')
theorem beqZ {a b : Int} (h : ¬ a = b) : (a == b) = false := by simp [h]
theorem same_walk (a0 b0 : Bool) (a1 b1 : Int) (a2 b2 : ByteArray) (ao bo : Option Addr) (na ca nb cb : Nat) (r : Bool) (w : World) (h43 : AnsB 108 #[.slice ao na ca, .slice bo nb cb, .func (.func 91) #[] #[]] r w) :
  AnsB 91 #[.agg #[.bool a0, .int .i64 a1, .string a2, .slice ao na ca], .agg #[.bool b0, .int .i64 b1, .string b2, .slice bo nb cb]] ((a0 == b0) && (a1 == b1) && sEq a2 b2 && r) w := by
 intro W g
 have H := hidM (h43.gr g)
 clear h43 g
 have HG : Hid (∀ o o', Gr W ((W.alloc o).alloc o')) := fun o o' => (gr_alloc W o).alloc o'
 go_enter Tryz.func91, Tryz.ntmps91
 unfold sEq
 cases e0 : (a0 == b0) with
 | true =>
  obtain rfl : a0 = b0 := by simpa using e0
  clear e0
  by_cases e1 : a1 = b1
  ·subst e1
   cases e2 : (a2.toList == b2.toList) with
   | true =>
    go_wp2_with (go_at_call 108; refine Hid.out ?_)
    unfold Hid
    refine Calls.mono (H.out _ (HG.out _ _)) ?_
    rintro e W1 ⟨rfl, hg1⟩
    go_wp2_with fail
    go_ret
    exact ⟨by simp, (HG.out _ _).tr hg1⟩
   | false =>
    go_wp2
    go_ret
    exact ⟨by simp, HG.out _ _⟩
  have e := beqZ e1
  go_wp2
  go_ret
  exact ⟨by simp [e], HG.out _ _⟩
 | false =>
  go_wp2
  go_ret
  exact ⟨by simp, HG.out _ _⟩
theorem equalFunc_step (S : Nat → Prop) (d : Nat) (W : World) (ao bo : Option Addr) (ca cb : Nat) (a b : List VT) (ha : VRow S W (d + 1) ao a) (hb : VRow S W (d + 1) bo b) (hS : ∀ b, S b → b < W.heap.size)
  (h20 : ∀ (u v : VT), u ∈ a → v ∈ b → ∀ (ao bo : Option Addr) (ca cb : Nat), VRow S W d ao u.list → VRow S W d bo v.list → AnsB 91 #[.agg #[.bool u.nul, .int .i64 u.num, .string u.text, .slice ao u.list.length ca], .agg #[.bool v.nul, .int .i64 v.num, .string v.text, .slice bo v.list.length cb]] (sameV d u v) W) :
  Calls Tryz.prog 108 #[.slice ao a.length ca, .slice bo b.length cb, .func (.func 91) #[] #[]] W fun e w' => e = .returned (.bool (sameVL (d + 1) a b)) ∧ Gr W w' := by
 have hla : a.length ≤ 1000000000000 := ha.len
 have hlb : b.length ≤ 1000000000000 := hb.len
 have HA := hidM ha
 have HB := hidM hb
 have HS := hidM hS
 have H20 := hidM h20
 obtain ⟨R, hR⟩ : ∃ R, R = sameVL (d + 1) a b := ⟨_, rfl⟩
 rw [← hR]
 rw [sameVL_succ] at hR
 have HR := hidM hR
 obtain ⟨L, hL⟩ : ∃ L, L = a.length := ⟨_, rfl⟩
 obtain ⟨M, hM⟩ : ∃ M, M = b.length := ⟨_, rfl⟩
 rw [← hL] at hla ⊢
 rw [← hM] at hlb ⊢
 have HL := hidM hL
 have HM := hidM hM
 clear ha hb hS h20 hR hL hM
 go_enter Tryz.func108, Tryz.ntmps108
 by_cases hLM : L = M
 ·subst hLM
  go_wp2
  go_loopw [17] (fun p wr => ∃ k : Nat, k ≤ L ∧ p = .int .i64 (k : Int) ∧ Hid (Gr W wr ∧ ∀ i (h : i < a.length) (h' : i < b.length), i < k → sameV d a[i] b[i] = true)) (fun p _ => L - (intOf p).toNat)
  case atStart => exact ⟨0, by omega, rfl, Keeps.refl _ _, fun i _ _ h => by omega⟩
  case round =>
   obtain ⟨k, hk, rfl, HK⟩ := hrel
   by_cases hlt : k < L
   ·have hka : k < a.length := by have := HL.out; omega
    have hkb : k < b.length := by have := HM.out; omega
    obtain ⟨x, o, rfl, hx, hcs⟩ := HA.out.2 (fun e => by subst e; simp at hka)
    obtain ⟨y, u, rfl, hy, hds⟩ := HB.out.2 (fun e => by subst e; simp at hkb)
    obtain ⟨ao', ca', hc, hle, hok, hr⟩ := hcs k hka
    obtain ⟨bo', cb', hd, hle', hok', hr'⟩ := hds k hkb
    have hcall := H20.out a[k] b[k] (List.getElem_mem hka) (List.getElem_mem hkb) ao' bo' ca' cb' hr hr'
    have HP := hidM HK.out.2
    have HG := hidM HK.out.1
    obtain ⟨f, hf⟩ : ∃ f, f = a[k]'hka := ⟨_, rfl⟩
    obtain ⟨g, hg⟩ : ∃ g, g = b[k]'hkb := ⟨_, rfl⟩
    have g1 := hc.kept (HK.out.1.block x (HS.out x hx) id)
    have g2 := hd.kept (HK.out.1.block y (HS.out y hy) id)
    rw [← hf] at g1 hcall
    rw [← hg] at g2 hcall
    have H2 : Hid _ := hidM (fun W' (g : Gr W W') => hcall W' g)
    obtain ⟨p0, p1, p2, p3⟩ := g1
    obtain ⟨q0, q1, q2, q3⟩ := g2
    have q0 := fun o => (gr_alloc wr o).cell' q0 id
    have q1 := fun o => (gr_alloc wr o).cell' q1 id
    have q2 := fun o => (gr_alloc wr o).cell' q2 id
    have q3 := fun o => (gr_alloc wr o).cell' q3 id
    have HF := hidM hf
    have HG' := hidM hg
    have hltI : (k : Int) < (L : Int) := by omega
    clear hcs hds hc hd hr hr' hcall hf hg HK hok hok' hle hle'
    obtain ⟨z, hz⟩ : ∃ z, z = sameV d f g := ⟨_, rfl⟩
    rw [← hz] at H2
    have HZ := hidM hz
    clear hz
    cases z with
    | true =>
     go_wp2_with (go_at_call 91; refine Hid.out ?_)
     unfold Hid
     refine Calls.mono (H2.out _ ((HG.out.alloc _).alloc _)) ?_
     rintro e w2 ⟨rfl, hg2⟩
     have HE := hidM (((HG.out.alloc _).alloc _).tr hg2)
     clear hg2
     go_wp2_with fail
     go_roundw
     case rel =>
      refine ⟨k + 1, by omega, by simp, HE.out, fun i hi hi' h => ?_⟩
      by_cases e : i = k
      ·subst e; rw [← HF.out, ← HG'.out]; exact HZ.out.symm
      exact HP.out i hi hi' (by omega)
     case measure => simp [intOf]; omega
    | false =>
     have HRf : Hid (R = false) := by show R = false; rw [HR.out]; exact sameAll_false k hka hkb (by rw [← HF.out, ← HG'.out]; exact HZ.out.symm)
     go_wp2_with (go_at_call 91; refine Hid.out ?_)
     unfold Hid
     refine Calls.mono (H2.out _ ((HG.out.alloc _).alloc _)) ?_
     rintro e w2 ⟨rfl, hg2⟩
     have HE := hidM (((HG.out.alloc _).alloc _).tr hg2)
     clear hg2
     go_wp2_with fail
     go_ret
     exact ⟨by rw [HRf.out]; rfl, HE.out⟩
   have HRt : Hid (R = true) := by
    show R = true
    rw [HR.out]
    refine sameAll_true (by have := HL.out; have := HM.out; omega) fun i hi hi' => HK.out.2 i hi hi' (by have := HL.out; omega)
   have hkL : k = L := by omega
   subst hkL
   have HG := hidM HK.out.1
   clear HK
   go_wp2
   go_ret
   exact ⟨by rw [HRt.out]; rfl, HG.out⟩
 have HRf : Hid (R = false) := by show R = false; rw [HR.out]; exact sameAll_len (by have := HL.out; have := HM.out; omega)
 have hb := beqZ (a := (L : Int)) (b := (M : Int)) (by omega)
 go_wp2
 go_ret
 exact ⟨by rw [HRf.out]; rfl, Keeps.refl _ _⟩
theorem same_any (S : Nat → Prop) : ∀ (d : Nat) (W : World) (ao bo : Option Addr) (ca cb : Nat) (a b : List VT), VRow S W d ao a → VRow S W d bo b → (∀ b, S b → b < W.heap.size) →
  AnsB 108 #[.slice ao a.length ca, .slice bo b.length cb, .func (.func 91) #[] #[]] (sameVL d a b) W
 | 0, W, ao, bo, ca, cb, a, b, ha, hb, hS => by
  have ha' : a = [] := ha
  have hb' : b = [] := hb
  intro W' g
  have hk : KpOf S W W' := fun b hb => g.block b (hS b hb) id
  have := equalFunc_step S 0 W' ao bo ca cb a b ((ha.kept hk).more (by omega)) ((hb.kept hk).more (by omega)) (fun b hb => Nat.lt_of_lt_of_le (hS b hb) g.size) (fun u v hu => by rw [ha'] at hu; cases hu)
  rw [show sameVL (0 + 1) a b = sameVL 0 a b by rw [sameVL_succ, sameVL, ha', hb']; rfl] at this
  exact this
 | d + 1, W, ao, bo, ca, cb, a, b, ha, hb, hS => by
  intro W' g
  have hk : KpOf S W W' := fun b hb => g.block b (hS b hb) id
  refine equalFunc_step S d W' ao bo ca cb a b (ha.kept hk) (hb.kept hk) (fun b hb => Nat.lt_of_lt_of_le (hS b hb) g.size) fun u v _ _ ao bo ca cb h1 h2 => ?_
  have := same_walk u.nul v.nul u.num v.num u.text v.text ao bo u.list.length ca v.list.length cb _ W' (same_any S d W' ao bo ca cb u.list v.list h1 h2 (fun b hb => Nat.lt_of_lt_of_le (hS b hb) g.size))
  rw [sameV_eq]
  exact this
def hB (h c : Int) : Int := IntKind.u64.wrap (bits BinOp.xor IntKind.u64 h (IntKind.u64.wrap c) * 1099511628211)
def hN : Nat → Int → Int → Int
 | 0, x, _ => x
 | k + 1, x, y => hN k (hB x (y % 256)) (y / 256)
theorem hashByte_any (h c : Int) (w : World) : Calls Tryz.prog 106 #[.int .u64 h, .int .u8 c] w fun e w' => e = .returned (.int .u64 (hB h c)) ∧ w = w' := by
 go_enter Tryz.func106, Tryz.ntmps106
 go_wp2
 go_ret
 exact ⟨rfl, rfl⟩
theorem hashNumber_any (h n : Int) (w : World) : Calls Tryz.prog 107 #[.int .u64 h, .int .u64 n] w fun e w' => e = .returned (.int .u64 (hN 8 h n)) ∧ w = w' := by
 have h64 : ∀ (h c : Int) (w : World), Calls Tryz.prog 106 #[.int .u64 h, .int .u8 c] w fun e w' => e = .returned (.int .u64 (hB h c)) ∧ w = w' := hashByte_any
 obtain ⟨R, hR⟩ : ∃ R, R = hN 8 h n := ⟨_, rfl⟩
 rw [← hR]
 have HR := hidM hR
 clear hR
 go_enter Tryz.func107, Tryz.ntmps107
 go_wp2
 go_loop [0, 1, 5] (fun a b i => ∃ k : Nat, k ≤ 8 ∧ i = .int .i64 (k : Int) ∧ ∃ x y, a = .int .u64 x ∧ b = .int .u64 y ∧ Hid (R = hN (8 - k) x y)) (fun a b i => 8 - (intOf i).toNat)
 case atStart => exact ⟨0, by omega, rfl, h, n, rfl, rfl, HR.out⟩
 case round =>
  obtain ⟨k, hk, rfl, x, y, rfl, rfl, HI⟩ := hrel
  by_cases hlt : k < 8
  ·have HJ : Hid (R = hN (8 - (k + 1)) (hB x (y % 256)) (y / 256)) := by
    have := HI.out
    rw [show 8 - k = (8 - (k + 1)) + 1 by omega, hN] at this
    exact this
   clear HI
   go_wp2_with (go_at_call 106; refine (h64 _ _ _).mono ?_; rintro e w' ⟨rfl, rfl⟩)
   go_round
   case rel => exact ⟨k + 1, by omega, by simp, _, _, rfl, rfl, HJ.out⟩
   case measure => simp [intOf]; omega
  obtain rfl : k = 8 := by omega
  have HJ : Hid (R = x) := HI.out
  clear HI
  go_wp2_with fail
  go_ret
  exact ⟨by rw [HJ.out]; rfl, rfl⟩
def hV : Nat → VT → Int → Int
 | 0, v, h => hN 8 (v.text.data.toList.foldl (fun h c => hB h (c.toNat : Int)) (hN 8 (hN 8 (hB h (if v.nul then 1 else 0)) (IntKind.u64.wrap v.num)) (v.text.size : Int))) (v.list.length : Int)
 | d + 1, v, h => v.list.foldl (fun h x => hV d x h) (hN 8 (v.text.data.toList.foldl (fun h c => hB h (c.toNat : Int)) (hN 8 (hN 8 (hB h (if v.nul then 1 else 0)) (IntKind.u64.wrap v.num)) (v.text.size : Int))) (v.list.length : Int))
theorem hash_walk (S : Nat → Prop) (d : Nat) (w : World) (hS : ∀ b, S b → b < w.heap.size) (v0 : Bool) (v1 : Int) (v2 : ByteArray) (vo : Option Addr) (vc : Nat) (list : List VT) (h0 : Int) (hz : v2.size ≤ 1000000000000) (hv : VRow S w (d + 1) vo list)
  (h44 : ∀ (v : VT) (ao : Option Addr) (ca : Nat) (h : Int), v ∈ list → VOk v → VRow S w d ao v.list → ∀ W, Gr w W → Calls Tryz.prog 88 #[.int .u64 h, .agg #[.bool v.nul, .int .i64 v.num, .string v.text, .slice ao v.list.length ca]] W fun e w' => e = .returned (.int .u64 (hV d v h)) ∧ Gr W w') :
  ∀ W, Gr w W → Calls Tryz.prog 88 #[.int .u64 h0, .agg #[.bool v0, .int .i64 v1, .string v2, .slice vo list.length vc]] W fun e w' => e = .returned (.int .u64 (hV (d + 1) (.mk v0 v1 v2 list) h0)) ∧ Gr W w' := by
 intro W g
 have h64 : ∀ (h c : Int) (w : World), Calls Tryz.prog 106 #[.int .u64 h, .int .u8 c] w fun e w' => e = .returned (.int .u64 (hB h c)) ∧ w = w' := hashByte_any
 have h65 : ∀ (h c : Int) (w : World), Calls Tryz.prog 107 #[.int .u64 h, .int .u64 c] w fun e w' => e = .returned (.int .u64 (hN 8 h c)) ∧ w = w' := hashNumber_any
 obtain ⟨R, hR⟩ : ∃ R, R = hV (d + 1) (.mk v0 v1 v2 list) h0 := ⟨_, rfl⟩
 rw [← hR]
 have HR := hidM hR
 obtain ⟨L, hL⟩ : ∃ L, L = list.length := ⟨_, rfl⟩
 rw [← hL]
 have hLb : L ≤ 1000000000000 := by rw [hL]; exact hv.len
 have HLE := hidM hL
 have HG := hidM g
 have HS := hidM hS
 have HV := hidM hv
 have H44 := hidM h44
 clear hR hL g hS hv h44
 obtain ⟨W1, hW1⟩ := ex (W.alloc (.cells #[.bool v0, .int .i64 v1, .string v2, .slice vo L vc] 108))
 have gW := gr_al hW1
 have b4 : B4 W1 W.heap.size v0 v1 v2 vo L vc := by unfold B4; rw [← hW1]; exact heap_alloc_new W _
 obtain ⟨p0, p1, p2, p3⟩ := b4.cells
 have HW := hidM gW
 obtain ⟨H4, hH4⟩ : ∃ H4, H4 = v2.data.toList.foldl (fun h c => hB h (c.toNat : Int)) (hN 8 (hN 8 (hB h0 (if v0 then 1 else 0)) (IntKind.u64.wrap v1)) (v2.size : Int)) := ⟨_, rfl⟩
 have HR2 : Hid (R = list.foldl (fun h x => hV d x h) (hN 8 H4 (L : Int))) := by
  have := HR.out
  rw [hV] at this
  rw [hH4]
  show R = _
  rw [HLE.out]
  exact this
 have HH4 := hidM hH4
 clear hH4 HR b4 gW
 cases v0
 all_goals
  go_enter Tryz.func88, Tryz.ntmps88
  go_wp2_with (first | (go_at_call 106; refine (h64 _ _ _).mono ?_; rintro e w' ⟨rfl, rfl⟩) | (go_at_call 107; refine (h65 _ _ _).mono ?_; rintro e w' ⟨rfl, rfl⟩))
  clear hW1
  go_loop [0, 28] (fun a i => ∃ k : Nat, k ≤ v2.size ∧ i = .int .i64 (k : Int) ∧ ∃ x, a = .int .u64 x ∧ Hid (H4 = (v2.data.toList.drop k).foldl (fun h c => hB h (c.toNat : Int)) x)) (fun a i => v2.size - (intOf i).toNat)
  case atStart => exact ⟨0, by omega, rfl, _, rfl, HH4.out⟩
  case round =>
   obtain ⟨k, hk, rfl, x, rfl, HI⟩ := hrel
   by_cases hlt : k < v2.size
   ·have hltI : (k : Int) < (v2.size : Int) := by omega
    have HJ : Hid (H4 = (v2.data.toList.drop (k + 1)).foldl (fun h c => hB h (c.toNat : Int)) (hB x ((v2[k]'hlt).toNat : Int))) := by
     have h := HI.out
     rw [List.drop_eq_getElem_cons (show k < v2.data.toList.length from hlt), List.foldl_cons] at h
     exact h
    clear HI
    go_wp2_with (go_at_call 106; refine (h64 _ _ _).mono ?_; rintro e w' ⟨rfl, rfl⟩)
    go_round
    case rel => exact ⟨k + 1, by omega, by simp, _, rfl, HJ.out⟩
    case measure => simp [intOf]; omega
   obtain rfl : k = v2.size := by omega
   have HJ : Hid (H4 = x) := by
    have h := HI.out
    rw [List.drop_of_length_le (show v2.data.toList.length ≤ v2.size from Nat.le_of_eq rfl)] at h
    exact h
   have HR3 : Hid (R = list.foldl (fun h x => hV d x h) (hN 8 x (L : Int))) := by show R = _; rw [← HJ.out]; exact HR2.out
   clear HI HJ
   go_wp2_with (go_at_call 107; refine (h65 _ _ _).mono ?_; rintro e w' ⟨rfl, rfl⟩)
   go_loopw [0, 47] (fun a i wr => ∃ k : Nat, k ≤ L ∧ i = .int .i64 (k : Int) ∧ ∃ x, a = .int .u64 x ∧ Hid (Gr W wr ∧ R = (list.drop k).foldl (fun h x => hV d x h) x)) (fun a i _ => L - (intOf i).toNat)
   case atStart => exact ⟨0, by omega, rfl, _, rfl, HW.out, HR3.out⟩
   case round =>
    obtain ⟨k, hk, rfl, x, rfl, HI⟩ := hrel
    by_cases hlt : k < L
    ·have hkl : k < list.length := by have := HLE.out; omega
     obtain ⟨b, o, rfl, hb, hcs⟩ := HV.out.2 (fun e => by subst e; simp at hkl)
     obtain ⟨ao', ca', hc, hle, hok, hrow⟩ := hcs k hkl
     have hcw := hc.kept (((HG.out.tr HI.out.1) : Gr w wr).block b (HS.out b hb) id)
     have hcall := H44.out list[k] ao' ca' x (List.getElem_mem hkl) hok hrow
     have hI2 := HI.out.2
     rw [List.drop_eq_getElem_cons hkl, List.foldl_cons] at hI2
     obtain ⟨v, hve⟩ : ∃ v, v = list[k]'hkl := ⟨_, rfl⟩
     rw [← hve] at hcall hI2 hcw
     obtain ⟨c0, c1, c2, c3⟩ := hcw
     have HC := hidM hcall
     have HI2 := hidM hI2
     have HGr := hidM HI.out.1
     have hltI : (k : Int) < (L : Int) := by omega
     clear hcs hc hle hok hrow hcall hI2 hve HI
     go_wp2_with (go_at_call 88; refine Hid.out ?_)
     unfold Hid
     refine Calls.mono (HC.out _ (HG.out.tr (HGr.out.alloc _))) ?_
     rintro e w2 ⟨rfl, hg2⟩
     have HE := hidM ((HGr.out.alloc _).tr hg2)
     clear hg2
     go_wp2_with fail
     go_roundw
     case rel => exact ⟨k + 1, by omega, by simp, _, rfl, HE.out, HI2.out⟩
     case measure => simp [intOf]; omega
    have hkL : k = L := by omega
    subst hkL
    have HX : Hid (R = x) := by
     have h := HI.out.2
     rw [List.drop_of_length_le (by have := HLE.out; omega)] at h
     exact h
    have HGr := hidM HI.out.1
    clear HI
    go_wp2_with fail
    go_ret
    exact ⟨by rw [HX.out]; rfl, HGr.out⟩
theorem hash_any (S : Nat → Prop) (w : World) (hS : ∀ b, S b → b < w.heap.size) : ∀ (d : Nat) (v : VT) (ao : Option Addr) (ca : Nat) (h : Int), VOk v → VRow S w d ao v.list → ∀ W, Gr w W → Calls Tryz.prog 88 #[.int .u64 h, .agg #[.bool v.nul, .int .i64 v.num, .string v.text, .slice ao v.list.length ca]] W fun e w' => e = .returned (.int .u64 (hV d v h)) ∧ Gr W w'
 | 0, v, ao, ca, h, hok, hv, W, g => by
  have hl : v.list = [] := hv
  have := hash_walk S 0 w hS v.nul v.num v.text ao ca v.list h hok.2 (hv.more (by omega)) (fun u uo uc h1 hu => by rw [hl] at hu; cases hu) W g
  rw [show hV (0 + 1) (.mk v.nul v.num v.text v.list) h = hV 0 v h by
   rw [hV, hV]
   show List.foldl _ _ v.list = _
   rw [hl]
   rfl] at this
  exact this
 | d + 1, v, ao, ca, h, hok, hv, W, g => hash_walk S d w hS v.nul v.num v.text ao ca v.list h hok.2 hv (fun u uo uc h1 _ hu hr => hash_any S w hS d u uo uc h1 hu hr) W g
theorem hash21 {v0 : Bool} {v1 : Int} {v2 : ByteArray} {vo : Option Addr} {m vc : Nat} {w : World} {R : Int}
  (h44 : ∀ W, Gr w W → Calls Tryz.prog 88 #[.int .u64 14695981039346656037, .agg #[.bool v0, .int .i64 v1, .string v2, .slice vo m vc]] W fun e w' => e = .returned (.int .u64 R) ∧ Gr W w') :
  ∀ W, Gr w W → Calls Tryz.prog 70 #[.agg #[.bool v0, .int .i64 v1, .string v2, .slice vo m vc]] W fun e w' => e = .returned (.int .u64 R) ∧ Gr W w' := by
 intro W g
 have HG := hidM (gr_alloc W (.cells #[.bool v0, .int .i64 v1, .string v2, .slice vo m vc] 108))
 have HC := hidM (h44 _ (g.tr HG.out))
 clear h44 g
 go_enter Tryz.func70, Tryz.ntmps70
 go_wp2_with (go_at_call 88; refine Hid.out ?_)
 unfold Hid
 refine Calls.mono HC.out ?_
 rintro e w' ⟨rfl, hg⟩
 have HE := hidM (HG.out.tr hg)
 clear hg
 go_wp2_with fail
 go_ret
 exact ⟨rfl, HE.out⟩
def RwV (W : World) (l : Nat) (x : Int) : Prop := W.cell? ⟨l, 0, none⟩ = some (.bool false) ∧ W.cell? ⟨l, 1, none⟩ = some (.int .i64 x) ∧ W.cell? ⟨l, 2, none⟩ = some (.string ⟨#[]⟩) ∧ W.cell? ⟨l, 3, none⟩ = some (.slice none 0 0)
theorem RwV.gr {W u : World} {l : Nat} {x : Int} (h : RwV W l x) (g : Gr W u) : RwV u l x := ⟨g.cell' h.1 id, g.cell' h.2.1 id, g.cell' h.2.2.1 id, g.cell' h.2.2.2 id⟩
def vT (x : Int) : VT := .mk false x ⟨#[]⟩ []
def rT (x : Int) : VT := .mk false 0 ⟨#[]⟩ [vT x]
def hR (x : Int) : Int := hV 1 (rT x) 14695981039346656037
theorem hR58 : (hR 5 == hR 8) = false := by kernel_rfl
theorem hR78 : (hR 7 == hR 8) = false := by kernel_rfl
theorem vT_ok {x : Int} (hx : x = 5 ∨ x = 7 ∨ x = 8) : VOk (vT x) := ⟨by show is64 x; unfold is64; omega, by show (⟨#[]⟩ : ByteArray).size ≤ big; decide⟩
theorem rT_ok (x : Int) : VOk (rT x) := ⟨by show is64 0; unfold is64; omega, by show (⟨#[]⟩ : ByteArray).size ≤ big; decide⟩
theorem RwV.row {S : Nat → Prop} {W : World} {l : Nat} {x : Int} (h : RwV W l x) (hS : S l) (hx : x = 5 ∨ x = 7 ∨ x = 8) : VRow S W 1 (some ⟨l, 0, none⟩) [vT x] := by
 refine ⟨by show (1 : Nat) ≤ big; decide, fun _ => ⟨l, 0, rfl, hS, fun i hi => ?_⟩⟩
 obtain rfl : i = 0 := by simpa using hi
 exact ⟨none, 0, ⟨h.1, h.2.1, h.2.2.1, h.2.2.2⟩, Nat.le_refl _, vT_ok hx, rfl⟩
theorem hash47r (l c : Nat) (x : Int) (W : World) (h : RwV W l x) (hx : x = 5 ∨ x = 7 ∨ x = 8) : Calls Tryz.prog 70 #[.agg #[.bool false, .int .i64 0, .string ⟨#[]⟩, .slice (some ⟨l, 0, none⟩) 1 c]] W fun e w' => e = .returned (.int .u64 (hR x)) ∧ Gr W w' := by
 have hl : l < W.heap.size := block_lt_of_cell h.1
 exact hash21 (hash_any (fun z => z = l) W (fun b hb => by have e : b = l := hb; omega) 1 (rT x) (some ⟨l, 0, none⟩) c 14695981039346656037 (rT_ok x) (h.row rfl hx)) W (Keeps.refl _ _)
theorem same67r (l c m d : Nat) (x : Int) (W : World) (h : RwV W l x) (h2 : RwV W m x) (hx : x = 5 ∨ x = 7 ∨ x = 8) : Calls Tryz.prog 91 #[.agg #[.bool false, .int .i64 0, .string ⟨#[]⟩, .slice (some ⟨l, 0, none⟩) 1 c], .agg #[.bool false, .int .i64 0, .string ⟨#[]⟩, .slice (some ⟨m, 0, none⟩) 1 d]] W fun e w' => e = .returned (.bool true) ∧ Gr W w' := by
 have hl : l < W.heap.size := block_lt_of_cell h.1
 have hm : m < W.heap.size := block_lt_of_cell h2.1
 have ha := same_any (fun z => z = l ∨ z = m) 1 W (some ⟨l, 0, none⟩) (some ⟨m, 0, none⟩) c d [vT x] [vT x] (h.row (.inl rfl) hx) (h2.row (.inr rfl) hx) (fun b hb => by rcases hb with e | e <;> omega)
 have hs := same_walk false false 0 0 ⟨#[]⟩ ⟨#[]⟩ (some ⟨l, 0, none⟩) (some ⟨m, 0, none⟩) 1 c 1 d _ W ha
 have hv : sameVL 1 [vT x] [vT x] = true := by
  rw [sameVL_succ]
  refine sameAll_true rfl (fun i h1 h2 => ?_)
  obtain rfl : i = 0 := by simpa using h1
  exact (same_iff 0 (vT x) (vT x) rfl rfl).2 rfl
 rw [hv] at hs
 have h9 := hs W (Keeps.refl _ _)
 rw [(sEq_iff ⟨#[]⟩ ⟨#[]⟩).2 rfl] at h9
 exact h9
theorem null63 (x : Int) (W : World) : Calls Tryz.prog 87 #[.agg #[.bool false, .int .i64 x, .string ⟨#[]⟩, .slice none 0 0]] W fun e w' => e = .returned (.bool false) ∧ Gr W w' := by
 obtain ⟨A0, hA0⟩ := ex (W.alloc (.cells #[.bool false, .int .i64 x, .string ⟨#[]⟩, .slice none 0 0] 108))
 have g0 := gr_al hA0
 have b0 : A0.heap[W.heap.size]? = some (.cells #[.bool false, .int .i64 x, .string ⟨#[]⟩, .slice none 0 0] 108) := by rw [← hA0]; exact heap_alloc_new W _
 have HG := hidM g0
 obtain ⟨e0, e1, e2, e3⟩ := cell4 b0
 clear g0 b0
 go_enter Tryz.func87, Tryz.ntmps87
 go_wp2_with fail
 go_ret
 exact ⟨rfl, HG.out⟩
theorem idx82 (l c : Nat) (x : Int) (W : World) (h : RwV W l x) : Calls Tryz.prog 105 #[.slice (some ⟨l, 0, none⟩) 1 c, .func (.func 87) #[] #[]] W fun e w' => e = .returned (.int .i64 (-1)) ∧ Gr W w' := by
 have HR := hidM h
 clear h
 go_enter Tryz.func105, Tryz.ntmps105
 go_wp2_with fail
 go_loopw [8] (fun i wr => ∃ k : Nat, k ≤ 1 ∧ i = .int .i64 k ∧ Hid (Gr W wr)) (fun i _ => 1 - (intOf i).toNat)
 case atStart => exact ⟨0, by omega, rfl, Keeps.refl _ _⟩
 case round =>
  obtain ⟨k, hk, rfl, HG⟩ := hrel
  have hk3 : k = 0 ∨ k = 1 := by omega
  rcases hk3 with rfl | rfl
  ·obtain ⟨a0, a1, a2, a3⟩ := HR.out.gr HG.out
   go_wp2_with (go_at_call 87; refine (null63 x _).mono ?_; rintro e w1 ⟨rfl, g1⟩; have HG1 := hidM (HG.out.tr g1); clear g1)
   go_roundw
   case rel => exact ⟨1, by omega, by go_num, HG1⟩
   case measure => simp [intOf]
  go_wp2_with fail
  go_ret
  exact ⟨rfl, HG.out⟩
theorem has62 (l c : Nat) (x : Int) (W : World) (h : RwV W l x) : Calls Tryz.prog 86 #[.slice (some ⟨l, 0, none⟩) 1 c, .func (.func 87) #[] #[]] W fun e w' => e = .returned (.bool false) ∧ Gr W w' := by
 have HC := hidM (idx82 l c x W h)
 clear h
 go_enter Tryz.func86, Tryz.ntmps86
 go_wp2_with (go_at_call 105; refine HC.out.mono ?_; rintro e w1 ⟨rfl, g1⟩; have HG1 := hidM g1; clear g1)
 go_ret
 exact ⟨rfl, HG1.out⟩
theorem holdsNull46 (l c : Nat) (x : Int) (W : World) (h : RwV W l x) : Calls Tryz.prog 69 #[.agg #[.bool false, .int .i64 0, .string ⟨#[]⟩, .slice (some ⟨l, 0, none⟩) 1 c]] W fun e w' => e = .returned (.bool false) ∧ Gr W w' := by
 obtain ⟨A0, hA0⟩ := ex (W.alloc (.cells #[.bool false, .int .i64 0, .string ⟨#[]⟩, .slice (some ⟨l, 0, none⟩) 1 c] 108))
 have g0 := gr_al hA0
 have b0 : A0.heap[W.heap.size]? = some (.cells #[.bool false, .int .i64 0, .string ⟨#[]⟩, .slice (some ⟨l, 0, none⟩) 1 c] 108) := by rw [← hA0]; exact heap_alloc_new W _
 have HG := hidM g0
 have HC := hidM (has62 l c x A0 (h.gr g0))
 obtain ⟨e0, e1, e2, e3⟩ := cell4 b0
 clear g0 b0 h
 go_enter Tryz.func69, Tryz.ntmps69
 go_wp2_with (go_at_call 86; refine HC.out.mono ?_; rintro e w1 ⟨rfl, g1⟩; have HG1 := hidM (HG.out.tr g1); clear g1)
 go_ret
 exact ⟨rfl, HG1.out⟩
def mkE : List (Int × Value) → Nat → List MapEntry
 | [], _ => []
 | y :: l, b => { key := .int .u64 y.1, val := y.2, born := b } :: mkE l (b + 1)
def lkO : List (Int × Value) → Int → Nat → Option (Nat × Value)
 | [], _, _ => none
 | y :: l, h, i => if (h == y.1) = true then some (i, y.2) else lkO l h (i + 1)
def lkV (l : List (Int × Value)) (h : Int) : Value := ((lkO l h 0).map (·.2)).getD (.slice none 0 0)
theorem findNow_mk (h : Int) : ∀ (l : List (Int × Value)) (b i : Nat), Instr.findNow (.int .u64) (.int .u64 h) (mkE l b) i = some (lkO l h i)
 | [], _, _ => rfl
 | y :: l, b, i => by
  simp only [mkE, lkO, Instr.findNow, Instr.sameNow, if_true]
  by_cases e : (h == y.1) = true
  ·simp [e]
  simp only [Bool.not_eq_true] at e
  simp [e, findNow_mk h l (b + 1) (i + 1)]
theorem mkE_len : ∀ (l : List (Int × Value)) (b : Nat), (mkE l b).length = l.length
 | [], _ => rfl
 | _ :: l, b => by simp [mkE, mkE_len l (b + 1)]
theorem mkE_snoc (y : Int × Value) : ∀ (l : List (Int × Value)) (b : Nat), mkE (l ++ [y]) b = mkE l b ++ [{ key := .int .u64 y.1, val := y.2, born := b + l.length }]
 | [], b => rfl
 | _ :: l, b => by simp [mkE, mkE_snoc y l (b + 1), Nat.add_comm, Nat.add_left_comm]
def MpAt (W : World) (m : Nat) (l : List (Int × Value)) : Prop := W.heap[m]? = some (.map (mkE l 0).toArray l.length)
theorem checkKey_run (b : Bool) (h : Int) (w : World) : (Instr.checkKey b 10000 134 (.int .u64 h)).run Tryz.prog w = .ok () w := by kernel_rfl
theorem findKey_run (l : List (Int × Value)) (h : Int) (w : World) : (Instr.findKey 134 (.int .u64 h) (mkE l 0)).run Tryz.prog w = .ok (lkO l h 0) w := by
 have hu6 : ∀ w, (underlying 134).run Tryz.prog w = .ok (.int .u64) w := fun w => by kernel_rfl
 unfold Instr.findKey
 simp [hu6, go_sem, findNow_mk]
theorem run_lk (W : World) (m : Nat) (l : List (Int × Value)) (h : Int) (hm : MpAt W m l) : (Instr.lookup 102 (.map (some m)) (.int .u64 h) false).run Tryz.prog W = .ok (lkV l h) W := by
 have hu : ∀ w, (underlying 102).run Tryz.prog w = .ok (.map 134 137) w := fun w => by kernel_rfl
 have hz : ∀ w, (zeroValue 137).run Tryz.prog w = .ok (.slice none 0 0) w := fun w => by kernel_rfl
 have hg : (getObj m).run Tryz.prog W = .ok (.map (mkE l 0).toArray l.length) W := by
  unfold MpAt at hm
  simp [getObj, Sem.run, hm]
 unfold Instr.lookup lkV
 simp [hu, hg, go_sem, checkKey_run, findKey_run]
 cases lkO l h 0 with
 | none => simp [hz]
 | some y => simp
theorem run_up (W : World) (m : Nat) (l : List (Int × Value)) (h : Int) (v : Value) (hm : MpAt W m l) (hn : lkO l h 0 = none) : (Instr.mapUpdate 102 (.map (some m)) (.int .u64 h) v).run Tryz.prog W = .ok () (W.putObj m (.map (mkE (l ++ [(h, v)]) 0).toArray (l.length + 1))) := by
 have hu : ∀ w, (underlying 102).run Tryz.prog w = .ok (.map 134 137) w := fun w => by kernel_rfl
 have hg : (getObj m).run Tryz.prog W = .ok (.map (mkE l 0).toArray l.length) W := by
  unfold MpAt at hm
  simp [getObj, Sem.run, hm]
 have hs : ∀ o, (setObj m o).run Tryz.prog W = .ok () (W.putObj m o) := fun o => by
  unfold MpAt at hm
  simp [setObj, Sem.run, hm, World.putObj]
 unfold Instr.mapUpdate
 simp [hu, hg, hs, go_sem, checkKey_run, findKey_run, hn, mkE_snoc]
theorem idx65_0 (f : Value) (W : World) : Calls Tryz.prog 89 #[.slice none 0 0, f] W fun e w' => e = .returned (.int .i64 (-1)) ∧ w' = W := by
 go_enter Tryz.func89, Tryz.ntmps89
 go_wp2_with fail
 go_loopw [8] (fun i wr => i = .int .i64 0 ∧ wr = W) (fun _ _ => 0)
 case atStart => exact ⟨rfl, rfl⟩
 case round =>
  obtain ⟨rfl, rfl⟩ := hrel
  go_wp2_with fail
  go_ret
  exact ⟨rfl, rfl⟩
theorem place66 (t1 t2 ib ic rb rc l1 c1 l2 c2 : Nat) (x : Int) (hx : x = 5 ∨ x = 7 ∨ x = 8) (W : World) (h : W.cell? ⟨t1, 0, none⟩ = some (.slice (some ⟨rb, 0, none⟩) 2 rc) ∧ W.cell? ⟨ib, 0, none⟩ = some (.int .i64 1) ∧ W.cell? ⟨rb, 4, none⟩ = some (.bool false) ∧ W.cell? ⟨rb, 5, none⟩ = some (.int .i64 0) ∧ W.cell? ⟨rb, 6, none⟩ = some (.string ⟨#[]⟩) ∧ W.cell? ⟨rb, 7, none⟩ = some (.slice (some ⟨l1, 0, none⟩) 1 c1) ∧ W.cell? ⟨t2, 0, none⟩ = some (.bool false) ∧ W.cell? ⟨t2, 1, none⟩ = some (.int .i64 0) ∧ W.cell? ⟨t2, 2, none⟩ = some (.string ⟨#[]⟩) ∧ W.cell? ⟨t2, 3, none⟩ = some (.slice (some ⟨l2, 0, none⟩) 1 c2)) (h1 : RwV W l1 x) (h2 : RwV W l2 x) : Calls Tryz.prog 90 #[.slice (some ⟨ib, 0, none⟩) 1 ic, .pointer (some ⟨t1, 0, none⟩), .pointer (some ⟨t2, 0, none⟩)] W fun e w' => e = .returned (.bool true) ∧ Gr W w' := by
 obtain ⟨a0, a1, b0, b1, b2, b3, d0, d1, d2, d3⟩ := h
 have HSS : Hid (∀ u, Gr W u → u.cell? ⟨t1, 0, none⟩ = some (.slice (some ⟨rb, 0, none⟩) 2 rc) ∧ u.cell? ⟨ib, 0, none⟩ = some (.int .i64 1) ∧ u.cell? ⟨rb, 4, none⟩ = some (.bool false) ∧ u.cell? ⟨rb, 5, none⟩ = some (.int .i64 0) ∧ u.cell? ⟨rb, 6, none⟩ = some (.string ⟨#[]⟩) ∧ u.cell? ⟨rb, 7, none⟩ = some (.slice (some ⟨l1, 0, none⟩) 1 c1) ∧ u.cell? ⟨t2, 0, none⟩ = some (.bool false) ∧ u.cell? ⟨t2, 1, none⟩ = some (.int .i64 0) ∧ u.cell? ⟨t2, 2, none⟩ = some (.string ⟨#[]⟩) ∧ u.cell? ⟨t2, 3, none⟩ = some (.slice (some ⟨l2, 0, none⟩) 1 c2)) := fun u g => ⟨g.cell' a0 id, g.cell' a1 id, g.cell' b0 id, g.cell' b1 id, g.cell' b2 id, g.cell' b3 id, g.cell' d0 id, g.cell' d1 id, g.cell' d2 id, g.cell' d3 id⟩
 have HD : Hid (Gr W W.drew) := gr_drew
 have HSd := hidM (HSS.out W.drew HD.out)
 have HC := hidM (same67r l1 c1 l2 c2 x W.drew (h1.gr HD.out) (h2.gr HD.out) hx)
 clear a0 a1 b0 b1 b2 b3 d0 d1 d2 d3 h1 h2
 go_enter Tryz.func90, Tryz.ntmps90
 go_wp2_with fail
 go_region_held3 (fun u => u.cell? ⟨t1, 0, none⟩ = some (.slice (some ⟨rb, 0, none⟩) 2 rc) ∧ u.cell? ⟨ib, 0, none⟩ = some (.int .i64 1) ∧ u.cell? ⟨rb, 4, none⟩ = some (.bool false) ∧ u.cell? ⟨rb, 5, none⟩ = some (.int .i64 0) ∧ u.cell? ⟨rb, 6, none⟩ = some (.string ⟨#[]⟩) ∧ u.cell? ⟨rb, 7, none⟩ = some (.slice (some ⟨l1, 0, none⟩) 1 c1) ∧ u.cell? ⟨t2, 0, none⟩ = some (.bool false) ∧ u.cell? ⟨t2, 1, none⟩ = some (.int .i64 0) ∧ u.cell? ⟨t2, 2, none⟩ = some (.string ⟨#[]⟩) ∧ u.cell? ⟨t2, 3, none⟩ = some (.slice (some ⟨l2, 0, none⟩) 1 c2)) (first | with_reducible exact HSd.out | with_reducible exact HS1.out) ((go_at_call 91; refine HC.out.mono ?_; rintro e w1 ⟨rfl, g1⟩; have HG1 := hidM (HD.out.tr g1); have HS1 := hidM (HSS.out w1 HG1.out); clear g1))
 go_wp2_with fail
 go_ret
 exact ⟨rfl, HG1.out⟩
theorem idx65_1 (t1 t2 lb lc ib ic rb rc l1 c1 l2 c2 : Nat) (x : Int) (hx : x = 5 ∨ x = 7 ∨ x = 8) (W : World) (hl : W.cell? ⟨lb, 0, none⟩ = some (.slice (some ⟨ib, 0, none⟩) 1 ic)) (h : W.cell? ⟨t1, 0, none⟩ = some (.slice (some ⟨rb, 0, none⟩) 2 rc) ∧ W.cell? ⟨ib, 0, none⟩ = some (.int .i64 1) ∧ W.cell? ⟨rb, 4, none⟩ = some (.bool false) ∧ W.cell? ⟨rb, 5, none⟩ = some (.int .i64 0) ∧ W.cell? ⟨rb, 6, none⟩ = some (.string ⟨#[]⟩) ∧ W.cell? ⟨rb, 7, none⟩ = some (.slice (some ⟨l1, 0, none⟩) 1 c1) ∧ W.cell? ⟨t2, 0, none⟩ = some (.bool false) ∧ W.cell? ⟨t2, 1, none⟩ = some (.int .i64 0) ∧ W.cell? ⟨t2, 2, none⟩ = some (.string ⟨#[]⟩) ∧ W.cell? ⟨t2, 3, none⟩ = some (.slice (some ⟨l2, 0, none⟩) 1 c2)) (h1 : RwV W l1 x) (h2 : RwV W l2 x) : Calls Tryz.prog 89 #[.slice (some ⟨lb, 0, none⟩) 1 lc, .func (.func 90) #[] #[.pointer (some ⟨t1, 0, none⟩), .pointer (some ⟨t2, 0, none⟩)]] W fun e w' => e = .returned (.int .i64 0) ∧ Gr W w' := by
 have HC := hidM (place66 t1 t2 ib ic rb rc l1 c1 l2 c2 x hx W h h1 h2)
 clear h h1 h2
 go_enter Tryz.func89, Tryz.ntmps89
 go_wp2_with fail
 go_loopw [8] (fun i wr => i = .int .i64 0 ∧ wr = W) (fun _ _ => 0)
 case atStart => exact ⟨rfl, rfl⟩
 case round =>
  obtain ⟨rfl, rfl⟩ := hrel
  go_wp2_with (go_at_call 90; refine HC.out.mono ?_; rintro e w1 ⟨rfl, g1⟩; have HG1 := hidM g1; clear g1)
  go_ret
  exact ⟨rfl, HG1.out⟩
theorem place48_no (rb rc m l2 c2 : Nat) (l : List (Int × Value)) (h : Int) (W : World) (hm : MpAt W m l) (hn : lkO l h 0 = none) : Calls Tryz.prog 71 #[.agg #[.slice (some ⟨rb, 0, none⟩) 2 rc, .map (some m)], .int .u64 h, .agg #[.bool false, .int .i64 0, .string ⟨#[]⟩, .slice (some ⟨l2, 0, none⟩) 1 c2]] W fun e w' => e = .returned (.int .i64 (-1)) ∧ Gr W w' := by
 have hmf := mkf
 obtain ⟨A0, hA0, g0, b0⟩ := nw W (.cells #[.slice (some ⟨rb, 0, none⟩) 2 rc, .map (some m)] 104)
 obtain ⟨A1, hA1, g1, b1⟩ := nw A0 (.cells #[.bool false, .int .i64 0, .string ⟨#[]⟩, .slice (some ⟨l2, 0, none⟩) 1 c2] 108)
 have gW : Gr W A1 := g0.tr g1
 have HG := hidM gW
 obtain ⟨e0, e1⟩ := cell2 ((g1.block _ (lt_of_heap b0) id).trans b0)
 have hlk := run_lk A1 m l h ((gW.block _ (lt_of_heap hm) id).trans hm)
 rw [show lkV l h = .slice none 0 0 by unfold lkV; rw [hn]; rfl] at hlk
 clear g0 b0 g1 b1 gW hm hn
 go_enter Tryz.func71, Tryz.ntmps71
 go_wp2_with (go_at_call 89; refine (idx65_0 _ _).mono ?_; rintro e w1 ⟨rfl, rfl⟩)
 go_ret
 exact ⟨rfl, HG.out⟩
theorem place48_1 (rb rc m l2 c2 lb lc ib ic l1 c1 : Nat) (l : List (Int × Value)) (h x : Int) (hx : x = 5 ∨ x = 7 ∨ x = 8) (W : World) (hm : MpAt W m l) (hn : lkV l h = .slice (some ⟨lb, 0, none⟩) 1 lc) (hl : W.cell? ⟨lb, 0, none⟩ = some (.slice (some ⟨ib, 0, none⟩) 1 ic)) (hi : W.cell? ⟨ib, 0, none⟩ = some (.int .i64 1)) (hr : W.cell? ⟨rb, 4, none⟩ = some (.bool false) ∧ W.cell? ⟨rb, 5, none⟩ = some (.int .i64 0) ∧ W.cell? ⟨rb, 6, none⟩ = some (.string ⟨#[]⟩) ∧ W.cell? ⟨rb, 7, none⟩ = some (.slice (some ⟨l1, 0, none⟩) 1 c1)) (h1 : RwV W l1 x) (h2 : RwV W l2 x) : Calls Tryz.prog 71 #[.agg #[.slice (some ⟨rb, 0, none⟩) 2 rc, .map (some m)], .int .u64 h, .agg #[.bool false, .int .i64 0, .string ⟨#[]⟩, .slice (some ⟨l2, 0, none⟩) 1 c2]] W fun e w' => e = .returned (.int .i64 0) ∧ Gr W w' := by
 have hmf := mkf
 obtain ⟨A0, hA0, g0, b0⟩ := nw W (.cells #[.slice (some ⟨rb, 0, none⟩) 2 rc, .map (some m)] 104)
 obtain ⟨A1, hA1, g1, b1⟩ := nw A0 (.cells #[.bool false, .int .i64 0, .string ⟨#[]⟩, .slice (some ⟨l2, 0, none⟩) 1 c2] 108)
 have gW : Gr W A1 := g0.tr g1
 have HG := hidM gW
 obtain ⟨e0, e1⟩ := cell2 ((g1.block _ (lt_of_heap b0) id).trans b0)
 obtain ⟨d0, d1, d2, d3⟩ := cell4 b1
 obtain ⟨r0, r1, r2, r3⟩ := hr
 have hlk := run_lk A1 m l h ((gW.block _ (lt_of_heap hm) id).trans hm)
 rw [hn] at hlk
 have HC := hidM (idx65_1 W.heap.size A0.heap.size lb lc ib ic rb rc l1 c1 l2 c2 x hx A1 (gW.cell' hl id) ⟨e0, gW.cell' hi id, gW.cell' r0 id, gW.cell' r1 id, gW.cell' r2 id, gW.cell' r3 id, d0, d1, d2, d3⟩ (h1.gr gW) (h2.gr gW))
 clear g0 b0 g1 b1 gW hm hn hl hi r0 r1 r2 r3 h1 h2
 go_enter Tryz.func71, Tryz.ntmps71
 go_wp2_with (go_at_call 89; refine HC.out.mono ?_; rintro e w1 ⟨rfl, g1⟩; have HG1 := hidM (HG.out.tr g1); clear g1)
 go_ret
 exact ⟨rfl, HG1.out⟩
end Go.Proofs.YthhpamhfnpacpaaGreatDoor.Kit
