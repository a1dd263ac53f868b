import Derived.Test.YtdihbfjjddmbiaaGreatDoorYN
set_option maxRecDepth 100000
set_option maxHeartbeats 4000000
namespace Go.Proofs.YtdihbfjjddmbiaaGreatDoor.Kit
open Go.RowKit Go.Shelf Go.Deep
set_option linter.unusedVariables false
set_option linter.unusedSimpArgs false
attribute [local go_sem] run_store_func
theorem LMk.mono {α : Type} {S T : Nat → Prop} (hST : ∀ b, S b → T b) {W : World} {s : Nat} {cf : α → List Value} {mk : Nat → List Value} {l : List α} {vo : Option Addr} {vc : Nat} (h : LMk S W s cf mk l vo vc) : LMk T W s cf mk l vo vc := by
  obtain ⟨h1, g, e, hg, h2, h3⟩ := h
  exact ⟨h1, g, e, hST g hg, h2, h3⟩
theorem WdR.mono {S T : Nat → Prop} (hST : ∀ b, S b → T b) {W : World} {D : Nat} {fo : Option Addr} {fc : Nat} {no : Option Addr} {nc : Nat} {vo : Option Addr} {vc : Nat} {uo : Option Addr} {uc : Nat} {fs : List FT} {ns : List (ByteArray × ByteArray)} {nds : List (Int × Int)} {sls : List (Int × Int × Int)} (h : WdR S W D fo fc no nc vo vc uo uc fs ns nds sls) : WdR T W D fo fc no nc vo vc uo uc fs ns nds sls :=
  ⟨h.f.mono hST, h.n.mono hST, h.d.mono hST, h.s.mono hST⟩
theorem HeadAt.all {S : Nat → Prop} {D : Nat} {W : World} {fo no vo uo : Option Addr} {cf : Nat} {fs : List FT} {ns : List (ByteArray × ByteArray)} {nds : List (Int × Int)} {sls : List (Int × Int × Int)} (h : HeadAt S D W fo no vo uo cf fs ns nds sls) : HeadAt (fun b => b < W.heap.size) D W fo no vo uo cf fs ns nds sls :=
  ⟨h.tab, h.row.mono h.s, h.cap, h.d, fun _ h => h, h.notes, h.nodes, h.slots⟩
theorem keeps_any {S : Nat → Prop} {D : Nat} {k di rows pr : Int} {dl : Bool} {fo no vo uo : Option Addr} {cf cn vc uc : Nat} {fs : List FT} {ns : List (ByteArray × ByteArray)} {nds : List (Int × Int)} {sls : List (Int × Int × Int)} {w : World} (h : HeadAt S D w fo no vo uo cf fs ns nds sls)
    {bo : Option Addr} {B : List UInt8} {bc : Nat} (hb : BytesAt w bo B) (hf : B.length ≤ bc ∧ bc ≤ 9223372036854775807 ∧ (bo = none ∧ bc = 0 ∨ ∃ b o, bo = some ⟨b, o, none⟩)) (hlen : B.length ≤ 1000000000) (hlow : ∀ b o, bo = some ⟨b, o, none⟩ → b < w.heap.size) :
    Calls Tryz.prog 3 #[.agg #[.int .i64 k, .slice fo fs.length cf, .slice no ns.length cn, .int .i64 di, .bool dl, .int .i64 rows, .int .i64 pr, .slice vo nds.length vc, .slice uo sls.length uc], .slice bo B.length bc] w fun e w' => e = .returned (.bool true) ∧ Gr w w' := by
  obtain ⟨nf, hnf⟩ : ∃ nf, nf = fs.length := ⟨_, rfl⟩
  obtain ⟨nn, hnn⟩ : ∃ nn, nn = ns.length := ⟨_, rfl⟩
  obtain ⟨nv, hnv⟩ : ∃ nv, nv = nds.length := ⟨_, rfl⟩
  obtain ⟨nu, hnu⟩ : ∃ nu, nu = sls.length := ⟨_, rfl⟩
  obtain ⟨n, hn⟩ : ∃ n, n = B.length := ⟨_, rfl⟩
  obtain ⟨z, hz⟩ := tell (HOk (Yes D fs ns) k fs.length ns.length di dl rows pr nds sls)
  obtain ⟨A0, hA0⟩ := ex (w.alloc (.cells #[.int .i64 k, .slice fo nf cf, .slice no nn cn, .int .i64 di, .bool dl, .int .i64 rows, .int .i64 pr, .slice vo nv vc, .slice uo nu uc] 29))
  have g0 := gr_al hA0
  have b0 : A0.heap[w.heap.size]? = some (.cells #[.int .i64 k, .slice fo nf cf, .slice no nn cn, .int .i64 di, .bool dl, .int .i64 rows, .int .i64 pr, .slice vo nv vc, .slice uo nu uc] 29 (0, 0)) := by rw [← hA0]; exact heap_alloc_new w _
  obtain ⟨p0, p1, p2, p3, p4, p5, p6, p7, p8⟩ := ce9 b0
  have HC4 : Hid (Calls Tryz.prog 4 #[.agg #[.int .i64 k, .slice fo nf cf, .slice no nn cn, .int .i64 di, .bool dl, .int .i64 rows, .int .i64 pr, .slice vo nv vc, .slice uo nu uc]] A0 fun e w' => e = .returned (.bool z) ∧ Gr A0 w') := by rw [hnf, hnn, hnv, hnu]; exact both_may12 h z hz A0 g0
  have HC11 : Hid (∀ u, Gr w u → Calls Tryz.prog 11 #[.slice bo n bc] u fun e w' => e = .returned (.bool true) ∧ Gr u w') := fun u g => by rw [hn]; exact keepsBytes11 (h.tab.gr g) (hb.gr g) hf hlen (fun b o e => Nat.lt_of_lt_of_le (hlow b o e) g.size)
  have HC12 : Hid (∀ u, Gr w u → Calls Tryz.prog 12 #[] u fun e w' => e = .returned (.bool true) ∧ Gr u w') := fun u g => fixed_true u (h.tab.gr g)
  rw [← hnf, ← hnn, ← hnv, ← hnu, ← hn]
  have HH := hidM h
  have HG0 := hidM g0
  have HB0 := hidM b0
  have HNS := hidM (And.intro hnf (And.intro hnn (And.intro hnv hnu)))
  have HZ := hidM hz
  clear hnf hnn hnv hnu hn h hb hf hlen hlow hz g0 b0
  go_enter Tryz.func3, Tryz.ntmps3
  go_wp2_with (go_at_call 4; refine HC4.out.mono ?_)
  rintro e u1 ⟨rfl, g1⟩
  have HG1 := hidM (HG0.out.tr g1)
  have hb1 := (g1.block _ (lt_of_heap HB0.out) id).trans HB0.out
  have HB1 := hidM hb1
  clear p0 p1 p2 p3 p4 p5 p6 p7 p8 g1 HC4 HG0 HB0
  obtain ⟨p0, p1, p2, p3, p4, p5, p6, p7, p8⟩ := ce9 hb1
  clear hb1
  cases z with
  | false =>
    have HD11 := hidM (HC11.out u1 HG1.out)
    go_wp2_with (first
      | (go_at_call 11; refine HD11.out.mono ?_; rintro e u2 ⟨rfl, k2⟩; have K2 := hidM (HG1.out.tr k2); have HD12 := hidM (HC12.out u2 K2.out); clear k2 HD11)
      | (go_at_call 12; refine HD12.out.mono ?_; rintro e u3 ⟨rfl, k3⟩; have K3 := hidM (K2.out.tr k3); clear k3 HD12))
    go_ret
    exact ⟨rfl, K3.out⟩
  | true =>
    have hok := HZ.out.2 rfl
    obtain ⟨bs, hbs⟩ : ∃ bs, bs = wholeB D k fs ns di dl rows pr nds sls := ⟨_, rfl⟩
    obtain ⟨L, hL⟩ : ∃ L, L = bs.length := ⟨_, rfl⟩
    have hL6 : L ≤ 65536 := by rw [hL, hbs]; exact wholeB_len HH.out.row.deep hok
    have HC5 : Hid (Calls Tryz.prog 5 #[.agg #[.int .i64 k, .slice fo nf cf, .slice no nn cn, .int .i64 di, .bool dl, .int .i64 rows, .int .i64 pr, .slice vo nv vc, .slice uo nu uc]] u1 fun e w' => ∃ so sc, e = .returned (.tuple #[.slice so L sc, .int .i64 0]) ∧ BytesAt w' so bs ∧ Gr u1 w') := by
      rw [HNS.out.1, HNS.out.2.1, HNS.out.2.2.1, HNS.out.2.2.2]
      refine (put5_true (HH.out.gr HG1.out) hok).mono ?_
      rintro e w' ⟨so, sc, m, rfl, hby⟩
      have hm := hby.len
      rw [← hbs, ← hL] at hm
      subst hm
      have := hby.own
      rw [← hbs, hL] at this
      exact ⟨so, sc, rfl, bytes_of_own this, hby.gr⟩
    have HC6 : Hid (∀ u, Gr w u → Calls Tryz.prog 6 #[.agg #[.int .i64 k, .slice fo nf cf, .slice no nn cn, .int .i64 di, .bool dl, .int .i64 rows, .int .i64 pr, .slice vo nv vc, .slice uo nu uc]] u fun e w' => ∃ fo' cf' no' cn' vo' vc' uo' uc', e = .returned (.agg #[.int .i64 k, .slice fo' nf cf', .slice no' nn cn', .int .i64 di, .bool dl, .int .i64 rows, .int .i64 pr, .slice vo' nv vc', .slice uo' nu uc']) ∧ Gr u w' ∧ WdR (fun b => u.heap.size ≤ b ∧ b < w'.heap.size) w' D fo' cf' no' cn' vo' vc' uo' uc' fs ns nds sls) := fun u g => by
      rw [HNS.out.1, HNS.out.2.1, HNS.out.2.2.1, HNS.out.2.2.2]
      exact wide6 (HH.out.gr g)
    have HC8 : Hid (∀ u ao ca bo cb, BytesAt u ao bs → BytesAt u bo bs → Calls Tryz.prog 8 #[.slice ao L ca, .slice bo L cb] u fun e w' => e = .returned (.bool true) ∧ Gr u w') := fun u ao ca bo cb h1 h2 => by rw [hL]; exact same_bytes (by omega) h1 h2
    have HK := hidM hok
    have HBS := hidM (And.intro hbs hL)
    clear hok hbs hL HZ
    go_wp2_with (go_at_call 5; refine HC5.out.mono ?_)
    rintro e u2 ⟨so, sc, rfl, hby, g2⟩
    have HW := hidM hby
    have HG2 := hidM (HG1.out.tr g2)
    have hb2 := (g2.block _ (lt_of_heap HB1.out) id).trans HB1.out
    have HB2 := hidM hb2
    have HD6 := hidM (HC6.out u2 HG2.out)
    clear p0 p1 p2 p3 p4 p5 p6 p7 p8 g2 hby HC5 HC6 HG1 HB1
    obtain ⟨p0, p1, p2, p3, p4, p5, p6, p7, p8⟩ := ce9 hb2
    clear hb2
    go_wp2_with (go_at_call 6; refine HD6.out.mono ?_)
    rintro e X ⟨fo', cf', no', cn', vo', vc', uo', uc', rfl, gX, hw⟩
    obtain ⟨Y, hY⟩ := ex (X.alloc (.cells #[.int .i64 k, .slice fo' nf cf', .slice no' nn cn', .int .i64 di, .bool dl, .int .i64 rows, .int .i64 pr, .slice vo' nv vc', .slice uo' nu uc'] 29))
    have gY := gr_al hY
    have bY : Y.heap[X.heap.size]? = some (.cells #[.int .i64 k, .slice fo' nf cf', .slice no' nn cn', .int .i64 di, .bool dl, .int .i64 rows, .int .i64 pr, .slice vo' nv vc', .slice uo' nu uc'] 29 (0, 0)) := by rw [← hY]; exact heap_alloc_new X _
    have gwY : Gr w Y := (HG2.out.tr gX).tr gY
    have hb3 := ((gX.tr gY).block _ (lt_of_heap HB2.out) id).trans HB2.out
    have HEAD : Hid (∀ u, Gr Y u → HeadAt (fun b => b < u.heap.size) D u fo' no' vo' uo' cf' fs ns nds sls ∧ HeadAt (fun b => b < u.heap.size) D u fo no vo uo cf fs ns nds sls ∧ WdR (fun b => b < u.heap.size) u D fo' cf' no' cn' vo' vc' uo' uc' fs ns nds sls ∧ Gr w u ∧ Tab u ∧ BytesAt u so bs ∧ u.heap[w.heap.size]? = some (.cells #[.int .i64 k, .slice fo nf cf, .slice no nn cn, .int .i64 di, .bool dl, .int .i64 rows, .int .i64 pr, .slice vo nv vc, .slice uo nu uc] 29 (0, 0)) ∧ u.heap[X.heap.size]? = some (.cells #[.int .i64 k, .slice fo' nf cf', .slice no' nn cn', .int .i64 di, .bool dl, .int .i64 rows, .int .i64 pr, .slice vo' nv vc', .slice uo' nu uc'] 29 (0, 0))) := fun u gu => by
      have gXu := gY.tr gu
      have gwu := gwY.tr gu
      have hH := (HH.out.gr gwu).all
      have hW : WdR (fun b => b < u.heap.size) u D fo' cf' no' cn' vo' vc' uo' uc' fs ns nds sls := (hw.kept fun b hb => gXu.block b hb.2 id).mono fun b hb => Nat.lt_of_lt_of_le hb.2 gXu.size
      exact ⟨hW.head hH.tab hH.d (fun _ h => h) hH.notes.1 hH.nodes.1 hH.slots.1, hH, hW, gwu, hH.tab, HW.out.gr (gX.tr gXu), (gu.block _ (lt_of_heap hb3) id).trans hb3, (gu.block _ (lt_of_heap bY) id).trans bY⟩
    have HC7 : Hid (∀ u, Gr Y u → Calls Tryz.prog 7 #[.agg #[.int .i64 k, .slice fo' nf cf', .slice no' nn cn', .int .i64 di, .bool dl, .int .i64 rows, .int .i64 pr, .slice vo' nv vc', .slice uo' nu uc']] u fun e w' => ∃ B1, e = .returned (.tuple #[.slice (some ⟨B1, 0, none⟩) L L, .int .i64 0]) ∧ u.heap.size ≤ B1 ∧ w'.heap[B1]? = some (.cells (bv bs).toArray 5 (0, 0)) ∧ Gr u w') := fun u gu => by
      rw [HNS.out.1, HNS.out.2.1, HNS.out.2.2.1, HNS.out.2.2.2, HBS.out.2, HBS.out.1]
      exact put4_true (HEAD.out u gu).1 HK.out
    have HC10 : Hid (∀ u, Gr Y u → Calls Tryz.prog 10 #[.agg #[.int .i64 k, .slice fo' nf cf', .slice no' nn cn', .int .i64 di, .bool dl, .int .i64 rows, .int .i64 pr, .slice vo' nv vc', .slice uo' nu uc'], .agg #[.int .i64 k, .slice fo nf cf, .slice no nn cn, .int .i64 di, .bool dl, .int .i64 rows, .int .i64 pr, .slice vo nv vc, .slice uo nu uc]] u fun e w' => e = .returned (.bool true) ∧ Gr u w') := fun u gu => by
      rw [HNS.out.1, HNS.out.2.1, HNS.out.2.2.1, HNS.out.2.2.2]
      exact kept10 (fun _ h => h) (HEAD.out u gu).2.2.1 (HEAD.out u gu).2.1
    have HD7 := hidM (HC7.out Y (Keeps.refl _ _))
    clear p0 p1 p2 p3 p4 p5 p6 p7 p8 gX hw gwY hb3 HD6 HW HG2 HB2
    obtain ⟨p0, p1, p2, p3, p4, p5, p6, p7, p8⟩ := ce9 bY
    clear gY bY
    go_wp2_with (go_at_call 7; refine HD7.out.mono ?_)
    rintro e u3 ⟨B1, rfl, l1, hB1, g3⟩
    have HG3 := hidM g3
    have HX1 := hidM (And.intro l1 hB1)
    have HE7 := hidM (HC7.out u3 g3)
    clear p0 p1 p2 p3 p4 p5 p6 p7 p8 l1 hB1 HD7
    obtain ⟨p0, p1, p2, p3, p4, p5, p6, p7, p8⟩ := ce9 (HEAD.out u3 g3).2.2.2.2.2.2.2
    clear g3
    go_wp2_with (go_at_call 7; refine HE7.out.mono ?_)
    rintro e u4 ⟨B2, rfl, l2, hB2, g4⟩
    have HG4 := hidM (HG3.out.tr g4)
    have hB14 := (g4.block _ (lt_of_heap HX1.out.2) id).trans HX1.out.2
    have HX2 := hidM (And.intro (Nat.lt_of_lt_of_le (lt_of_heap HX1.out.2) l2) hB2)
    have HX4 := hidM hB14
    -- whatever has become of x's bytes
    have HKB : Hid (∀ u, Keeps u4 u (fun z => z = B1) → Gr Y u ∧ u.heap[B2]? = some (.cells (bv bs).toArray 5 (0, 0))) := fun u ku => ⟨HG4.out.trans ku fun j hj e => by have := HX1.out.1; omega, (ku.block _ (lt_of_heap HX2.out.2) (by have := HX2.out.1; omega)).trans HX2.out.2⟩
    have HD8 := hidM (HC8.out u4 (some ⟨B1, 0, none⟩) L so sc (bytes_of_block HX4.out) (HEAD.out u4 HG4.out).2.2.2.2.2.1)
    clear p0 p1 p2 p3 p4 p5 p6 p7 p8 l2 hB2 g4 hB14 HE7
    have HLb : Hid (L = (bv bs).toArray.size) := by show _ = _; rw [HBS.out.2]; simp [bv]
    go_wp2_with (first
      | (go_at_call 8; refine HD8.out.mono ?_; rintro e u5 ⟨rfl, k5⟩; have K5 : Hid (Keeps u4 u5 (fun z => z = B1)) := k5.mono fun _ _ h => h.elim; have HD9 := hidM (spoilBytes9 B1 L (by omega) _ u5 ((k5.block _ (lt_of_heap HX4.out) id).trans HX4.out) HLb.out.symm); clear k5 HD8)
      | (go_at_call 9; refine HD9.out.mono ?_; rintro e u6 ⟨rfl, k6⟩; have K6 : Hid (Keeps u4 u6 (fun z => z = B1)) := K5.out.tr k6; have HE8 := hidM (HC8.out u6 (some ⟨B2, 0, none⟩) L so sc (bytes_of_block (HKB.out u6 K6.out).2) (HEAD.out u6 (HKB.out u6 K6.out).1).2.2.2.2.2.1); clear k6 HD9)
      | (go_at_call 8; refine HE8.out.mono ?_; rintro e u7 ⟨rfl, k7⟩; have K7 : Hid (Keeps u4 u7 (fun z => z = B1)) := K6.out.tr (k7.mono fun _ _ h => h.elim); have HD10 := hidM (HC10.out u7 (HKB.out u7 K7.out).1); obtain ⟨p0, p1, p2, p3, p4, p5, p6, p7, p8⟩ := ce9 (HEAD.out u7 (HKB.out u7 K7.out).1).2.2.2.2.2.2.2; obtain ⟨q0, q1, q2, q3, q4, q5, q6, q7, q8⟩ := ce9 (HEAD.out u7 (HKB.out u7 K7.out).1).2.2.2.2.2.2.1; clear k7 HE8)
      | (go_at_call 10; refine HD10.out.mono ?_; rintro e u8 ⟨rfl, k8⟩; have K8 : Hid (Keeps u4 u8 (fun z => z = B1)) := K7.out.tr (k8.mono fun _ _ h => h.elim); have HF7 := hidM (HC7.out u8 (HKB.out u8 K8.out).1); clear k8 HD10 p0 p1 p2 p3 p4 p5 p6 p7 p8 q0 q1 q2 q3 q4 q5 q6 q7 q8; obtain ⟨p0, p1, p2, p3, p4, p5, p6, p7, p8⟩ := ce9 (HEAD.out u8 (HKB.out u8 K8.out).1).2.2.2.2.2.2.2)
      | (go_at_call 7; refine HF7.out.mono ?_; rintro e u9 ⟨B3, rfl, l3, hB3, k9⟩; have K9 : Hid (Keeps u4 u9 (fun z => z = B1)) := K8.out.tr (k9.mono fun _ _ h => h.elim); have HF8 := hidM (HC8.out u9 (some ⟨B3, 0, none⟩) L so sc (bytes_of_block hB3) (HEAD.out u9 (HKB.out u9 K9.out).1).2.2.2.2.2.1); clear k9 l3 hB3 HF7 p0 p1 p2 p3 p4 p5 p6 p7 p8)
      | (go_at_call 8; refine HF8.out.mono ?_; rintro e v1 ⟨rfl, k10⟩; have K10 : Hid (Keeps u4 v1 (fun z => z = B1)) := K9.out.tr (k10.mono fun _ _ h => h.elim); have HG8 := hidM (HC8.out v1 (some ⟨B2, 0, none⟩) L so sc (bytes_of_block (HKB.out v1 K10.out).2) (HEAD.out v1 (HKB.out v1 K10.out).1).2.2.2.2.2.1); clear k10 HF8)
      | (go_at_call 8; refine HG8.out.mono ?_; rintro e v2 ⟨rfl, k11⟩; have K11 : Hid (Keeps u4 v2 (fun z => z = B1)) := K10.out.tr (k11.mono fun _ _ h => h.elim); have HD11 := hidM (HC11.out v2 (HEAD.out v2 (HKB.out v2 K11.out).1).2.2.2.1); clear k11 HG8)
      | (go_at_call 11; refine HD11.out.mono ?_; rintro e v3 ⟨rfl, k12⟩; have K12 := hidM ((HEAD.out v2 (HKB.out v2 K11.out).1).2.2.2.1.tr k12); have HD12 := hidM (HC12.out v3 K12.out); clear k12 HD11)
      | (go_at_call 12; refine HD12.out.mono ?_; rintro e v4 ⟨rfl, k13⟩; have K13 := hidM (K12.out.tr k13); clear k13 HD12))
    go_ret
    exact ⟨rfl, K13.out⟩
end Go.Proofs.YtdihbfjjddmbiaaGreatDoor.Kit
