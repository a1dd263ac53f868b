import Derived.Test.YteppfammimbmcaaDoorKF
import Derived.Deep.RegionHeld3
namespace Go.Proofs.YteppfammimbmcaaDoor.Kit
open Go.RowKit Go.Deep
set_option linter.unusedVariables false

/-- the call over the lists that were turned -/
def turnD (o : OpD) : OpD := { o with a := o.a.map FA1, b := o.b.map FB1, l := o.l.map not }
set_option maxRecDepth 100000 in
set_option maxHeartbeats 8000000 in
theorem keeps_any (o p : OpD) (ao bo lo po qo ro : Option Addr) (ca cb cl pa pb pl : Nat) (w : World) (hT : Tab w) (hA : MapAt w (.slice ao o.a.length ca) o.a) (hB : MapAt w (.slice bo o.b.length cb) o.b) (hL : BoolsAt w lo o.l.length (fun k => o.l.getD k false)) (h1 : o.a.length ≤ 9000000) (h2 : o.b.length ≤ 9000000) (h3 : o.l.length ≤ 90000000) (hok : o.ok)
    (hP : OpAt w (.agg #[.int .i64 p.kind, .slice po p.a.length pa, .slice qo p.b.length pb, .slice ro p.l.length pl, .int .i64 p.fr, .int .i64 p.n, .int .i64 p.k, .bool p.on]) p) :
    Calls Tryd.prog 4 #[.agg #[.int .i64 o.kind, .slice ao o.a.length ca, .slice bo o.b.length cb, .slice lo o.l.length cl, .int .i64 o.fr, .int .i64 o.n, .int .i64 o.k, .bool o.on], .agg #[.int .i64 p.kind, .slice po p.a.length pa, .slice qo p.b.length pb, .slice ro p.l.length pl, .int .i64 p.fr, .int .i64 p.n, .int .i64 p.k, .bool p.on]] w fun e w' => e = .returned (.bool true) ∧ Keeps w w' (fun _ => False) := by
  have hO : OpAt w (.agg #[.int .i64 o.kind, .slice ao o.a.length ca, .slice bo o.b.length cb, .slice lo o.l.length cl, .int .i64 o.fr, .int .i64 o.n, .int .i64 o.k, .bool o.on]) o := ⟨ao, bo, lo, ca, cb, cl, rfl, hA, hB, hL, by omega, hok⟩
  obtain ⟨R, hR⟩ : ∃ R, R = ans o := ⟨_, rfl⟩
  obtain ⟨Q, hQ⟩ : ∃ Q, Q = ans p := ⟨_, rfl⟩
  obtain ⟨R2, hR2⟩ : ∃ R2, R2 = ans (turnD o) := ⟨_, rfl⟩
  have HSM : Hid R.small := by rw [hR]; exact ans_small _ (by omega) (by omega)
  have HST2 : Hid R2.small := by rw [hR2]; exact ans_small _ (by simp only [turnD, List.length_map]; omega) (by simp only [turnD, List.length_map]; omega)
  have HSQ : Hid Q.small := by
    rw [hQ]
    obtain ⟨_, _, _, _, _, _, _, hA, _, _, hll, _⟩ := hP
    exact ans_small _ hA.len hll
  have HSO : Hid (∀ W v z, Tab W → OpAt W v o → z ≤ W.heap.size → RepCall 8 v R W z) := by rw [hR]; exact fun W v z t q hz => says_c v o W z t q hz
  have HAO : Hid (∀ W v z, Tab W → OpAt W v o → z ≤ W.heap.size → RepCall 7 v R W z) := by rw [hR]; exact fun W v z t q hz => ask_c v o W z t q hz
  have HSP : Hid (∀ W v z, Tab W → OpAt W v p → z ≤ W.heap.size → RepCall 8 v Q W z) := by rw [hQ]; exact fun W v z t q hz => says_c v p W z t q hz
  have HAP : Hid (∀ W v z, Tab W → OpAt W v p → z ≤ W.heap.size → RepCall 7 v Q W z) := by rw [hQ]; exact fun W v z t q hz => ask_c v p W z t q hz
  have HST : Hid (∀ W v z, Tab W → OpAt W v (turnD o) → z ≤ W.heap.size → RepCall 8 v R2 W z) := by rw [hR2]; exact fun W v z t q hz => says_c v _ W z t q hz
  have HAT : Hid (∀ W v z, Tab W → OpAt W v (turnD o) → z ≤ W.heap.size → RepCall 7 v R2 W z) := by rw [hR2]; exact fun W v z t q hz => ask_c v _ W z t q hz
  have HT : Hid (Tab w) := hT
  have HA : Hid (MapAt w (.slice ao o.a.length ca) o.a) := hA
  have HB : Hid (MapAt w (.slice bo o.b.length cb) o.b) := hB
  have HL : Hid (BoolsAt w lo o.l.length (fun k => o.l.getD k false)) := hL
  have HLE : Hid (o.a.length ≤ 9000000 ∧ o.b.length ≤ 9000000 ∧ o.l.length ≤ 90000000) := ⟨h1, h2, h3⟩
  have HOK : Hid o.ok := hok
  have HO : Hid (OpAt w (.agg #[.int .i64 o.kind, .slice ao o.a.length ca, .slice bo o.b.length cb, .slice lo o.l.length cl, .int .i64 o.fr, .int .i64 o.n, .int .i64 o.k, .bool o.on]) o) := hO
  have HP : Hid (OpAt w (.agg #[.int .i64 p.kind, .slice po p.a.length pa, .slice qo p.b.length pb, .slice ro p.l.length pl, .int .i64 p.fr, .int .i64 p.n, .int .i64 p.k, .bool p.on]) p) := hP
  clear hR hQ hR2 hT hA hB hL h1 h2 h3 hok hO hP
  go_enter Tryd.func4, Tryd.ntmps4
  go_wp2_with fail
  go_at_call 8
  obtain ⟨W0, hW⟩ : ∃ W0, W0 = (w.alloc (.cells #[.int .i64 o.kind, .slice ao o.a.length ca, .slice bo o.b.length cb, .slice lo o.l.length cl, .int .i64 o.fr, .int .i64 o.n, .int .i64 o.k, .bool o.on] 31)).alloc (.cells #[.int .i64 p.kind, .slice po p.a.length pa, .slice qo p.b.length pb, .slice ro p.l.length pl, .int .i64 p.fr, .int .i64 p.n, .int .i64 p.k, .bool p.on] 31) := ⟨_, rfl⟩
  rw [← hW]
  have K : Hid (Keeps w W0 (fun _ => False)) := by rw [hW]; exact ((Keeps.refl _ _).alloc _).alloc _
  have BO : Hid (Box W0 w.heap.size #[.int .i64 o.kind, .slice ao o.a.length ca, .slice bo o.b.length cb, .slice lo o.l.length cl, .int .i64 o.fr, .int .i64 o.n, .int .i64 o.k, .bool o.on] 31) := by rw [hW]; exact (Box.made _ _ _).kept (Keeps.none_alloc _ _) id
  have BP : Hid (Box W0 (w.heap.size + 1) #[.int .i64 p.kind, .slice po p.a.length pa, .slice qo p.b.length pb, .slice ro p.l.length pl, .int .i64 p.fr, .int .i64 p.n, .int .i64 p.k, .bool p.on] 31) := by
    rw [hW]
    have := Box.made (w.alloc (.cells #[.int .i64 o.kind, .slice ao o.a.length ca, .slice bo o.b.length cb, .slice lo o.l.length cl, .int .i64 o.fr, .int .i64 o.n, .int .i64 o.k, .bool o.on] 31)) #[.int .i64 p.kind, .slice po p.a.length pa, .slice qo p.b.length pb, .slice ro p.l.length pl, .int .i64 p.fr, .int .i64 p.n, .int .i64 p.k, .bool p.on] 31
    rw [World.size_alloc] at this
    exact this
  have HZ : Hid (w.heap.size + 2 ≤ W0.heap.size) := by rw [hW]; show _ ≤ _; simp
  obtain ⟨B, hB⟩ : ∃ B, B = w.heap.size := ⟨_, rfl⟩
  rw [← hB] at BO BP HZ ⊢
  have HN : Hid (B = w.heap.size) := hB
  clear hW hB
  refine (HSO.out W0 _ _ (HT.out.kept K.out id) (HO.out.kept K.out) HZ.out).mono ?_
  rintro e w1 ⟨lox, hix, x1, x2, x3, cx1, cx2, cx3, rfl, hR, z1, z2, z3, hk⟩
  replace K := hidM (K.out.trans hk fun _ _ h => h)
  replace BO := hidM (BO.out.kept hk id)
  replace BP := hidM (BP.out.kept hk id)
  have RW := hidM hR
  replace HN := hidM (And.intro HN.out (And.intro z1 z2))
  replace HZ := hidM z3
  clear hk hR z1 z2 z3
  obtain ⟨l1_0, l1_1, l1_2, l1_3, l1_4, l1_5, l1_6, l1_7⟩ := BO.out.a8
  go_wp2_with fail
  go_at_call 11
  clear l1_0 l1_1 l1_2 l1_3 l1_4 l1_5 l1_6 l1_7
  obtain ⟨W1, hW⟩ : ∃ W1, W1 = w1.alloc (.cells #[.int .i64 R.err, .int .i64 R.num, .bool R.yes, .slice x1 R.bytes.length cx1, .slice x2 R.bools.length cx2, .slice x3 R.nums.length cx3] 28) := ⟨_, rfl⟩
  rw [← hW]
  have hk : Keeps w1 W1 (fun _ => False) := by rw [hW]; exact Keeps.none_alloc _ _
  have BW : Hid (Box W1 w1.heap.size #[.int .i64 R.err, .int .i64 R.num, .bool R.yes, .slice x1 R.bytes.length cx1, .slice x2 R.bools.length cx2, .slice x3 R.nums.length cx3] 28) := by rw [hW]; exact Box.made _ _ _
  have HZ2 : Hid (w1.heap.size + 1 ≤ W1.heap.size) := by rw [hW]; show _ ≤ _; simp
  replace K := hidM (K.out.trans hk fun _ _ h => h)
  replace BO := hidM (BO.out.kept hk id)
  replace BP := hidM (BP.out.kept hk id)
  replace RW := hidM (RW.out.kept hk fun _ _ _ => id)
  clear hW hk
  generalize w1.heap.size = b5 at *
  replace HN := hidM (And.intro HN.out HZ.out)
  replace HZ := HZ2
  clear HZ2
  refine (gave_c o ao bo lo ca cb cl W1 _ (HA.out.kept K.out) (HB.out.kept K.out) (HL.out.kept0 K.out) HLE.out.1 HLE.out.2.1 HLE.out.2.2 HZ.out).mono ?_
  rintro e w2 ⟨log, hig, g1, g2, g3, cg1, cg2, cg3, rfl, hR, z1, z2, z3, hk⟩
  replace K := hidM (K.out.trans hk fun _ _ h => h)
  replace BO := hidM (BO.out.kept hk id)
  replace BP := hidM (BP.out.kept hk id)
  replace RW := hidM (RW.out.kept hk fun _ _ _ => id)
  replace BW := hidM (BW.out.kept hk id)
  have GG := hidM hR
  replace HN := hidM (And.intro HN.out (And.intro z1 z2))
  replace HZ := hidM z3
  clear hk hR z1 z2 z3
  obtain ⟨l2_0, l2_1, l2_2, l2_3, l2_4, l2_5, l2_6, l2_7⟩ := BO.out.a8
  go_wp2_with fail
  go_at_call 11
  clear l2_0 l2_1 l2_2 l2_3 l2_4 l2_5 l2_6 l2_7
  obtain ⟨W2, hW⟩ : ∃ W2, W2 = w2.alloc (.cells #[.slice (some ⟨g1, 0, none⟩) (o.a.length + 9) cg1, .slice (some ⟨g2, 0, none⟩) (o.b.length + 9) cg2, .slice (some ⟨g3, 0, none⟩) (o.l.length + 9) cg3] 36) := ⟨_, rfl⟩
  rw [← hW]
  have hk : Keeps w2 W2 (fun _ => False) := by rw [hW]; exact Keeps.none_alloc _ _
  have BG : Hid (Box W2 w2.heap.size #[.slice (some ⟨g1, 0, none⟩) (o.a.length + 9) cg1, .slice (some ⟨g2, 0, none⟩) (o.b.length + 9) cg2, .slice (some ⟨g3, 0, none⟩) (o.l.length + 9) cg3] 36) := by rw [hW]; exact Box.made _ _ _
  have HZ2 : Hid (w2.heap.size + 1 ≤ W2.heap.size) := by rw [hW]; show _ ≤ _; simp
  replace K := hidM (K.out.trans hk fun _ _ h => h)
  replace BO := hidM (BO.out.kept hk id)
  replace BP := hidM (BP.out.kept hk id)
  replace RW := hidM (RW.out.kept hk fun _ _ _ => id)
  replace BW := hidM (BW.out.kept hk id)
  replace GG := hidM (GG.out.kept hk fun _ _ _ => id)
  clear hW hk
  generalize w2.heap.size = b6 at *
  replace HN := hidM (And.intro HN.out HZ.out)
  replace HZ := HZ2
  clear HZ2
  refine (gave_c o ao bo lo ca cb cl W2 _ (HA.out.kept K.out) (HB.out.kept K.out) (HL.out.kept0 K.out) HLE.out.1 HLE.out.2.1 HLE.out.2.2 HZ.out).mono ?_
  rintro e w3 ⟨loh, hih, h1, h2, h3, ch1, ch2, ch3, rfl, hR, z1, z2, z3, hk⟩
  replace K := hidM (K.out.trans hk fun _ _ h => h)
  replace BO := hidM (BO.out.kept hk id)
  replace BP := hidM (BP.out.kept hk id)
  replace RW := hidM (RW.out.kept hk fun _ _ _ => id)
  replace BW := hidM (BW.out.kept hk id)
  replace GG := hidM (GG.out.kept hk fun _ _ _ => id)
  replace BG := hidM (BG.out.kept hk id)
  have GH := hidM hR
  replace HN := hidM (And.intro HN.out (And.intro z1 z2))
  replace HZ := hidM z3
  clear hk hR z1 z2 z3
  obtain ⟨l3_0, l3_1, l3_2⟩ := BG.out.a3
  obtain ⟨l4_0, l4_1, l4_2, l4_3, l4_4, l4_5, l4_6, l4_7⟩ := BO.out.a8
  go_wp2_with fail
  go_at_call 12
  clear l3_0 l3_1 l3_2 l4_0 l4_1 l4_2 l4_3 l4_4 l4_5 l4_6 l4_7
  obtain ⟨W3, hW⟩ : ∃ W3, W3 = w3.alloc (.cells #[.slice (some ⟨h1, 0, none⟩) (o.a.length + 9) ch1, .slice (some ⟨h2, 0, none⟩) (o.b.length + 9) ch2, .slice (some ⟨h3, 0, none⟩) (o.l.length + 9) ch3] 36) := ⟨_, rfl⟩
  rw [← hW]
  have hk : Keeps w3 W3 (fun _ => False) := by rw [hW]; exact Keeps.none_alloc _ _
  have BH : Hid (Box W3 w3.heap.size #[.slice (some ⟨h1, 0, none⟩) (o.a.length + 9) ch1, .slice (some ⟨h2, 0, none⟩) (o.b.length + 9) ch2, .slice (some ⟨h3, 0, none⟩) (o.l.length + 9) ch3] 36) := by rw [hW]; exact Box.made _ _ _
  have HZ2 : Hid (w3.heap.size + 1 ≤ W3.heap.size) := by rw [hW]; show _ ≤ _; simp
  replace K := hidM (K.out.trans hk fun _ _ h => h)
  replace BO := hidM (BO.out.kept hk id)
  replace BP := hidM (BP.out.kept hk id)
  replace RW := hidM (RW.out.kept hk fun _ _ _ => id)
  replace BW := hidM (BW.out.kept hk id)
  replace GG := hidM (GG.out.kept hk fun _ _ _ => id)
  replace BG := hidM (BG.out.kept hk id)
  replace GH := hidM (GH.out.kept hk fun _ _ _ => id)
  clear hW hk
  generalize w3.heap.size = b7 at *
  replace HN := hidM (And.intro HN.out HZ.out)
  replace HZ := HZ2
  clear HZ2
  refine (op_c o ao bo lo ca cb cl _ _ _ rfl rfl rfl GG.out).mono ?_
  rintro e w4 ⟨rfl, hk⟩
  replace K := hidM (K.out.trans hk fun _ _ h => h)
  replace BO := hidM (BO.out.kept hk id)
  replace BP := hidM (BP.out.kept hk id)
  replace RW := hidM (RW.out.kept hk fun _ _ _ => id)
  replace BW := hidM (BW.out.kept hk id)
  replace GG := hidM (GG.out.kept hk fun _ _ _ => id)
  replace BG := hidM (BG.out.kept hk id)
  replace GH := hidM (GH.out.kept hk fun _ _ _ => id)
  replace BH := hidM (BH.out.kept hk id)
  replace HZ := hidM (Nat.le_trans HZ.out hk.size)
  clear hk
  go_wp2_with fail
  go_at_call 7
  refine (HAO.out w4 _ _ (HT.out.kept K.out id) (giv_op GG.out o HOK.out _ _ _ rfl rfl rfl) HZ.out).mono ?_
  rintro e w5 ⟨lou, hiu, u1, u2, u3, cu1, cu2, cu3, rfl, hR, z1, z2, z3, hk⟩
  replace K := hidM (K.out.trans hk fun _ _ h => h)
  replace BO := hidM (BO.out.kept hk id)
  replace BP := hidM (BP.out.kept hk id)
  replace RW := hidM (RW.out.kept hk fun _ _ _ => id)
  replace BW := hidM (BW.out.kept hk id)
  replace GG := hidM (GG.out.kept hk fun _ _ _ => id)
  replace BG := hidM (BG.out.kept hk id)
  replace GH := hidM (GH.out.kept hk fun _ _ _ => id)
  replace BH := hidM (BH.out.kept hk id)
  have RX := hidM hR
  replace HN := hidM (And.intro HN.out (And.intro z1 z2))
  replace HZ := hidM z3
  clear hk hR z1 z2 z3
  obtain ⟨l5_0, l5_1, l5_2⟩ := BG.out.a3
  obtain ⟨l6_0, l6_1, l6_2, l6_3, l6_4, l6_5, l6_6, l6_7⟩ := BO.out.a8
  go_wp2_with fail
  go_at_call 12
  clear l5_0 l5_1 l5_2 l6_0 l6_1 l6_2 l6_3 l6_4 l6_5 l6_6 l6_7
  obtain ⟨W5, hW⟩ : ∃ W5, W5 = w5.alloc (.cells #[.int .i64 R.err, .int .i64 R.num, .bool R.yes, .slice u1 R.bytes.length cu1, .slice u2 R.bools.length cu2, .slice u3 R.nums.length cu3] 28) := ⟨_, rfl⟩
  rw [← hW]
  have hk : Keeps w5 W5 (fun _ => False) := by rw [hW]; exact Keeps.none_alloc _ _
  have BX : Hid (Box W5 w5.heap.size #[.int .i64 R.err, .int .i64 R.num, .bool R.yes, .slice u1 R.bytes.length cu1, .slice u2 R.bools.length cu2, .slice u3 R.nums.length cu3] 28) := by rw [hW]; exact Box.made _ _ _
  have HZ2 : Hid (w5.heap.size + 1 ≤ W5.heap.size) := by rw [hW]; show _ ≤ _; simp
  replace K := hidM (K.out.trans hk fun _ _ h => h)
  replace BO := hidM (BO.out.kept hk id)
  replace BP := hidM (BP.out.kept hk id)
  replace RW := hidM (RW.out.kept hk fun _ _ _ => id)
  replace BW := hidM (BW.out.kept hk id)
  replace GG := hidM (GG.out.kept hk fun _ _ _ => id)
  replace BG := hidM (BG.out.kept hk id)
  replace GH := hidM (GH.out.kept hk fun _ _ _ => id)
  replace BH := hidM (BH.out.kept hk id)
  replace RX := hidM (RX.out.kept hk fun _ _ _ => id)
  clear hW hk
  generalize w5.heap.size = b8 at *
  replace HN := hidM (And.intro HN.out HZ.out)
  replace HZ := HZ2
  clear HZ2
  refine (op_c o ao bo lo ca cb cl _ _ _ rfl rfl rfl GG.out).mono ?_
  rintro e w6 ⟨rfl, hk⟩
  replace K := hidM (K.out.trans hk fun _ _ h => h)
  replace BO := hidM (BO.out.kept hk id)
  replace BP := hidM (BP.out.kept hk id)
  replace RW := hidM (RW.out.kept hk fun _ _ _ => id)
  replace BW := hidM (BW.out.kept hk id)
  replace GG := hidM (GG.out.kept hk fun _ _ _ => id)
  replace BG := hidM (BG.out.kept hk id)
  replace GH := hidM (GH.out.kept hk fun _ _ _ => id)
  replace BH := hidM (BH.out.kept hk id)
  replace RX := hidM (RX.out.kept hk fun _ _ _ => id)
  replace BX := hidM (BX.out.kept hk id)
  replace HZ := hidM (Nat.le_trans HZ.out hk.size)
  clear hk
  go_wp2_with fail
  go_at_call 7
  refine (HAO.out w6 _ _ (HT.out.kept K.out id) (giv_op GG.out o HOK.out _ _ _ rfl rfl rfl) HZ.out).mono ?_
  rintro e w7 ⟨loy, hiy, y1, y2, y3, cy1, cy2, cy3, rfl, hR, z1, z2, z3, hk⟩
  replace K := hidM (K.out.trans hk fun _ _ h => h)
  replace BO := hidM (BO.out.kept hk id)
  replace BP := hidM (BP.out.kept hk id)
  replace RW := hidM (RW.out.kept hk fun _ _ _ => id)
  replace BW := hidM (BW.out.kept hk id)
  replace GG := hidM (GG.out.kept hk fun _ _ _ => id)
  replace BG := hidM (BG.out.kept hk id)
  replace GH := hidM (GH.out.kept hk fun _ _ _ => id)
  replace BH := hidM (BH.out.kept hk id)
  replace RX := hidM (RX.out.kept hk fun _ _ _ => id)
  replace BX := hidM (BX.out.kept hk id)
  have RY := hidM hR
  replace HN := hidM (And.intro HN.out (And.intro z1 z2))
  replace HZ := hidM z3
  clear hk hR z1 z2 z3
  obtain ⟨l7_0, l7_1, l7_2, l7_3, l7_4, l7_5⟩ := BX.out.a6
  obtain ⟨l8_0, l8_1, l8_2, l8_3, l8_4, l8_5⟩ := BW.out.a6
  go_wp2_with fail
  go_at_call 9
  clear l7_0 l7_1 l7_2 l7_3 l7_4 l7_5 l8_0 l8_1 l8_2 l8_3 l8_4 l8_5
  obtain ⟨W7, hW⟩ : ∃ W7, W7 = w7.alloc (.cells #[.int .i64 R.err, .int .i64 R.num, .bool R.yes, .slice y1 R.bytes.length cy1, .slice y2 R.bools.length cy2, .slice y3 R.nums.length cy3] 28) := ⟨_, rfl⟩
  rw [← hW]
  have hk : Keeps w7 W7 (fun _ => False) := by rw [hW]; exact Keeps.none_alloc _ _
  have BY : Hid (Box W7 w7.heap.size #[.int .i64 R.err, .int .i64 R.num, .bool R.yes, .slice y1 R.bytes.length cy1, .slice y2 R.bools.length cy2, .slice y3 R.nums.length cy3] 28) := by rw [hW]; exact Box.made _ _ _
  have HZ2 : Hid (w7.heap.size + 1 ≤ W7.heap.size) := by rw [hW]; show _ ≤ _; simp
  replace K := hidM (K.out.trans hk fun _ _ h => h)
  replace BO := hidM (BO.out.kept hk id)
  replace BP := hidM (BP.out.kept hk id)
  replace RW := hidM (RW.out.kept hk fun _ _ _ => id)
  replace BW := hidM (BW.out.kept hk id)
  replace GG := hidM (GG.out.kept hk fun _ _ _ => id)
  replace BG := hidM (BG.out.kept hk id)
  replace GH := hidM (GH.out.kept hk fun _ _ _ => id)
  replace BH := hidM (BH.out.kept hk id)
  replace RX := hidM (RX.out.kept hk fun _ _ _ => id)
  replace BX := hidM (BX.out.kept hk id)
  replace RY := hidM (RY.out.kept hk fun _ _ _ => id)
  clear hW hk
  generalize w7.heap.size = b9 at *
  replace HN := hidM (And.intro HN.out HZ.out)
  replace HZ := HZ2
  clear HZ2
  refine (alike_c HSM RX RW).mono ?_
  rintro e w8 ⟨rfl, hk⟩
  replace K := hidM (K.out.trans hk fun _ _ h => h)
  replace BO := hidM (BO.out.kept hk id)
  replace BP := hidM (BP.out.kept hk id)
  replace RW := hidM (RW.out.kept hk fun _ _ _ => id)
  replace BW := hidM (BW.out.kept hk id)
  replace GG := hidM (GG.out.kept hk fun _ _ _ => id)
  replace BG := hidM (BG.out.kept hk id)
  replace GH := hidM (GH.out.kept hk fun _ _ _ => id)
  replace BH := hidM (BH.out.kept hk id)
  replace RX := hidM (RX.out.kept hk fun _ _ _ => id)
  replace BX := hidM (BX.out.kept hk id)
  replace RY := hidM (RY.out.kept hk fun _ _ _ => id)
  replace BY := hidM (BY.out.kept hk id)
  replace HZ := hidM (Nat.le_trans HZ.out hk.size)
  clear hk
  obtain ⟨l9_0, l9_1, l9_2, l9_3, l9_4, l9_5⟩ := BY.out.c6
  obtain ⟨l10_0, l10_1, l10_2, l10_3, l10_4, l10_5⟩ := BW.out.c6
  go_wp2_with fail
  go_at_call 9
  clear l9_0 l9_1 l9_2 l9_3 l9_4 l9_5 l10_0 l10_1 l10_2 l10_3 l10_4 l10_5
  refine (alike_c HSM RY RW).mono ?_
  rintro e w9 ⟨rfl, hk⟩
  replace K := hidM (K.out.trans hk fun _ _ h => h)
  replace BO := hidM (BO.out.kept hk id)
  replace BP := hidM (BP.out.kept hk id)
  replace RW := hidM (RW.out.kept hk fun _ _ _ => id)
  replace BW := hidM (BW.out.kept hk id)
  replace GG := hidM (GG.out.kept hk fun _ _ _ => id)
  replace BG := hidM (BG.out.kept hk id)
  replace GH := hidM (GH.out.kept hk fun _ _ _ => id)
  replace BH := hidM (BH.out.kept hk id)
  replace RX := hidM (RX.out.kept hk fun _ _ _ => id)
  replace BX := hidM (BX.out.kept hk id)
  replace RY := hidM (RY.out.kept hk fun _ _ _ => id)
  replace BY := hidM (BY.out.kept hk id)
  replace HZ := hidM (Nat.le_trans HZ.out hk.size)
  clear hk
  obtain ⟨l11_0, l11_1, l11_2, l11_3, l11_4, l11_5⟩ := BX.out.c6
  go_wp2_with fail
  go_at_call 13
  clear l11_0 l11_1 l11_2 l11_3 l11_4 l11_5
  refine (spoil_c HSM RX).mono ?_
  rintro e w10 ⟨⟨v10, rfl⟩, hk⟩
  clear RX BX
  have hn2 := BW.out.lt
  clear hn2
  have hn := HN.out
  replace K := hidM (K.out.trans hk fun j hj e => by omega)
  replace BO := hidM (BO.out.kept hk (by omega))
  replace BP := hidM (BP.out.kept hk (by omega))
  replace RW := hidM (RW.out.kept hk (fun g q1 q2 e => by omega))
  replace BW := hidM (BW.out.kept hk (by omega))
  replace GG := hidM (GG.out.kept hk (fun g q1 q2 e => by omega))
  replace BG := hidM (BG.out.kept hk (by omega))
  replace GH := hidM (GH.out.kept hk (fun g q1 q2 e => by omega))
  replace BH := hidM (BH.out.kept hk (by omega))
  replace RY := hidM (RY.out.kept hk (fun g q1 q2 e => by omega))
  replace BY := hidM (BY.out.kept hk (by omega))
  clear hn
  replace HZ := hidM (Nat.le_trans HZ.out hk.size)
  clear hk
  obtain ⟨l12_0, l12_1, l12_2, l12_3, l12_4, l12_5⟩ := BY.out.c6
  obtain ⟨l13_0, l13_1, l13_2, l13_3, l13_4, l13_5⟩ := BW.out.c6
  go_wp2_with fail
  go_at_call 9
  clear l12_0 l12_1 l12_2 l12_3 l12_4 l12_5 l13_0 l13_1 l13_2 l13_3 l13_4 l13_5
  refine (alike_c HSM RY RW).mono ?_
  rintro e w11 ⟨rfl, hk⟩
  replace K := hidM (K.out.trans hk fun _ _ h => h)
  replace BO := hidM (BO.out.kept hk id)
  replace BP := hidM (BP.out.kept hk id)
  replace RW := hidM (RW.out.kept hk fun _ _ _ => id)
  replace BW := hidM (BW.out.kept hk id)
  replace GG := hidM (GG.out.kept hk fun _ _ _ => id)
  replace BG := hidM (BG.out.kept hk id)
  replace GH := hidM (GH.out.kept hk fun _ _ _ => id)
  replace BH := hidM (BH.out.kept hk id)
  replace RY := hidM (RY.out.kept hk fun _ _ _ => id)
  replace BY := hidM (BY.out.kept hk id)
  replace HZ := hidM (Nat.le_trans HZ.out hk.size)
  clear hk
  obtain ⟨l14_0, l14_1, l14_2⟩ := BG.out.c3
  obtain ⟨l15_0, l15_1, l15_2⟩ := BH.out.c3
  go_wp2_with fail
  go_at_call 14
  clear l14_0 l14_1 l14_2 l15_0 l15_1 l15_2
  refine (same_c GG GH).mono ?_
  rintro e w12 ⟨rfl, hk⟩
  replace K := hidM (K.out.trans hk fun _ _ h => h)
  replace BO := hidM (BO.out.kept hk id)
  replace BP := hidM (BP.out.kept hk id)
  replace RW := hidM (RW.out.kept hk fun _ _ _ => id)
  replace BW := hidM (BW.out.kept hk id)
  replace GG := hidM (GG.out.kept hk fun _ _ _ => id)
  replace BG := hidM (BG.out.kept hk id)
  replace GH := hidM (GH.out.kept hk fun _ _ _ => id)
  replace BH := hidM (BH.out.kept hk id)
  replace RY := hidM (RY.out.kept hk fun _ _ _ => id)
  replace BY := hidM (BY.out.kept hk id)
  replace HZ := hidM (Nat.le_trans HZ.out hk.size)
  clear hk
  clear GH BH
  obtain ⟨l16_0, l16_1, l16_2, l16_3, l16_4, l16_5, l16_6, l16_7⟩ := BP.out.c8
  go_wp2_with fail
  go_at_call 7
  clear l16_0 l16_1 l16_2 l16_3 l16_4 l16_5 l16_6 l16_7
  refine (HAP.out w12 _ _ (HT.out.kept K.out id) (HP.out.kept K.out) HZ.out).mono ?_
  rintro e w13 ⟨lot, hit, t1, t2, t3, ct1, ct2, ct3, rfl, hR, z1, z2, z3, hk⟩
  replace K := hidM (K.out.trans hk fun _ _ h => h)
  replace BO := hidM (BO.out.kept hk id)
  replace BP := hidM (BP.out.kept hk id)
  replace RW := hidM (RW.out.kept hk fun _ _ _ => id)
  replace BW := hidM (BW.out.kept hk id)
  replace GG := hidM (GG.out.kept hk fun _ _ _ => id)
  replace BG := hidM (BG.out.kept hk id)
  replace RY := hidM (RY.out.kept hk fun _ _ _ => id)
  replace BY := hidM (BY.out.kept hk id)
  have RT := hidM hR
  replace HN := hidM (And.intro HN.out (And.intro z1 z2))
  replace HZ := hidM z3
  clear hk hR z1 z2 z3
  go_wp2_with fail
  obtain ⟨W13, hW⟩ : ∃ W13, W13 = w13.alloc (.cells #[.int .i64 Q.err, .int .i64 Q.num, .bool Q.yes, .slice t1 Q.bytes.length ct1, .slice t2 Q.bools.length ct2, .slice t3 Q.nums.length ct3] 28) := ⟨_, rfl⟩
  rw [← hW]
  have hk : Keeps w13 W13 (fun _ => False) := by rw [hW]; exact Keeps.none_alloc _ _
  have BT : Hid (Box W13 w13.heap.size #[.int .i64 Q.err, .int .i64 Q.num, .bool Q.yes, .slice t1 Q.bytes.length ct1, .slice t2 Q.bools.length ct2, .slice t3 Q.nums.length ct3] 28) := by rw [hW]; exact Box.made _ _ _
  have HZ2 : Hid (w13.heap.size + 1 ≤ W13.heap.size) := by rw [hW]; show _ ≤ _; simp
  replace K := hidM (K.out.trans hk fun _ _ h => h)
  replace BO := hidM (BO.out.kept hk id)
  replace BP := hidM (BP.out.kept hk id)
  replace RW := hidM (RW.out.kept hk fun _ _ _ => id)
  replace BW := hidM (BW.out.kept hk id)
  replace GG := hidM (GG.out.kept hk fun _ _ _ => id)
  replace BG := hidM (BG.out.kept hk id)
  replace RY := hidM (RY.out.kept hk fun _ _ _ => id)
  replace BY := hidM (BY.out.kept hk id)
  replace RT := hidM (RT.out.kept hk fun _ _ _ => id)
  clear hW hk
  generalize w13.heap.size = b10 at *
  replace HN := hidM (And.intro HN.out HZ.out)
  replace HZ := HZ2
  clear HZ2
  have HKS : Hid (∀ w', Keeps W13 w' (fun _ => False) → Hid (Keeps W13 w' (fun _ => False)) ∧ w'.cell? ⟨b10, 0, none⟩ = some (.int .i64 Q.err) ∧ w'.cell? ⟨b10, 1, none⟩ = some (.int .i64 Q.num) ∧ w'.cell? ⟨b10, 2, none⟩ = some (.bool Q.yes) ∧ w'.cell? ⟨b10, 3, none⟩ = some (.slice t1 Q.bytes.length ct1) ∧ w'.cell? ⟨b10, 4, none⟩ = some (.slice t2 Q.bools.length ct2) ∧ w'.cell? ⟨b10, 5, none⟩ = some (.slice t3 Q.nums.length ct3) ∧ w'.cell? ⟨B + 1, 0, none⟩ = some (.int .i64 p.kind) ∧ w'.cell? ⟨B + 1, 1, none⟩ = some (.slice po p.a.length pa) ∧ w'.cell? ⟨B + 1, 2, none⟩ = some (.slice qo p.b.length pb) ∧ w'.cell? ⟨B + 1, 3, none⟩ = some (.slice ro p.l.length pl) ∧ w'.cell? ⟨B + 1, 4, none⟩ = some (.int .i64 p.fr) ∧ w'.cell? ⟨B + 1, 5, none⟩ = some (.int .i64 p.n) ∧ w'.cell? ⟨B + 1, 6, none⟩ = some (.int .i64 p.k) ∧ w'.cell? ⟨B + 1, 7, none⟩ = some (.bool p.on) ∧ w'.cell? ⟨b9, 0, none⟩ = some (.int .i64 R.err) ∧ w'.cell? ⟨b9, 1, none⟩ = some (.int .i64 R.num) ∧ w'.cell? ⟨b9, 2, none⟩ = some (.bool R.yes) ∧ w'.cell? ⟨b9, 3, none⟩ = some (.slice y1 R.bytes.length cy1) ∧ w'.cell? ⟨b9, 4, none⟩ = some (.slice y2 R.bools.length cy2) ∧ w'.cell? ⟨b9, 5, none⟩ = some (.slice y3 R.nums.length cy3) ∧ w'.cell? ⟨b5, 0, none⟩ = some (.int .i64 R.err) ∧ w'.cell? ⟨b5, 1, none⟩ = some (.int .i64 R.num) ∧ w'.cell? ⟨b5, 2, none⟩ = some (.bool R.yes) ∧ w'.cell? ⟨b5, 3, none⟩ = some (.slice x1 R.bytes.length cx1) ∧ w'.cell? ⟨b5, 4, none⟩ = some (.slice x2 R.bools.length cx2) ∧ w'.cell? ⟨b5, 5, none⟩ = some (.slice x3 R.nums.length cx3)) := by
    intro w' k
    obtain ⟨k0_0, k0_1, k0_2, k0_3, k0_4, k0_5⟩ := (BT.out.kept k id).c6
    obtain ⟨k1_0, k1_1, k1_2, k1_3, k1_4, k1_5, k1_6, k1_7⟩ := (BP.out.kept k id).c8
    obtain ⟨k2_0, k2_1, k2_2, k2_3, k2_4, k2_5⟩ := (BY.out.kept k id).c6
    obtain ⟨k3_0, k3_1, k3_2, k3_3, k3_4, k3_5⟩ := (BW.out.kept k id).c6
    exact ⟨k, k0_0, k0_1, k0_2, k0_3, k0_4, k0_5, k1_0, k1_1, k1_2, k1_3, k1_4, k1_5, k1_6, k1_7, k2_0, k2_1, k2_2, k2_3, k2_4, k2_5, k3_0, k3_1, k3_2, k3_3, k3_4, k3_5⟩
  go_region_held3 (fun w' => Hid (Keeps W13 w' (fun _ => False)) ∧ w'.cell? ⟨b10, 0, none⟩ = some (.int .i64 Q.err) ∧ w'.cell? ⟨b10, 1, none⟩ = some (.int .i64 Q.num) ∧ w'.cell? ⟨b10, 2, none⟩ = some (.bool Q.yes) ∧ w'.cell? ⟨b10, 3, none⟩ = some (.slice t1 Q.bytes.length ct1) ∧ w'.cell? ⟨b10, 4, none⟩ = some (.slice t2 Q.bools.length ct2) ∧ w'.cell? ⟨b10, 5, none⟩ = some (.slice t3 Q.nums.length ct3) ∧ w'.cell? ⟨B + 1, 0, none⟩ = some (.int .i64 p.kind) ∧ w'.cell? ⟨B + 1, 1, none⟩ = some (.slice po p.a.length pa) ∧ w'.cell? ⟨B + 1, 2, none⟩ = some (.slice qo p.b.length pb) ∧ w'.cell? ⟨B + 1, 3, none⟩ = some (.slice ro p.l.length pl) ∧ w'.cell? ⟨B + 1, 4, none⟩ = some (.int .i64 p.fr) ∧ w'.cell? ⟨B + 1, 5, none⟩ = some (.int .i64 p.n) ∧ w'.cell? ⟨B + 1, 6, none⟩ = some (.int .i64 p.k) ∧ w'.cell? ⟨B + 1, 7, none⟩ = some (.bool p.on) ∧ w'.cell? ⟨b9, 0, none⟩ = some (.int .i64 R.err) ∧ w'.cell? ⟨b9, 1, none⟩ = some (.int .i64 R.num) ∧ w'.cell? ⟨b9, 2, none⟩ = some (.bool R.yes) ∧ w'.cell? ⟨b9, 3, none⟩ = some (.slice y1 R.bytes.length cy1) ∧ w'.cell? ⟨b9, 4, none⟩ = some (.slice y2 R.bools.length cy2) ∧ w'.cell? ⟨b9, 5, none⟩ = some (.slice y3 R.nums.length cy3) ∧ w'.cell? ⟨b5, 0, none⟩ = some (.int .i64 R.err) ∧ w'.cell? ⟨b5, 1, none⟩ = some (.int .i64 R.num) ∧ w'.cell? ⟨b5, 2, none⟩ = some (.bool R.yes) ∧ w'.cell? ⟨b5, 3, none⟩ = some (.slice x1 R.bytes.length cx1) ∧ w'.cell? ⟨b5, 4, none⟩ = some (.slice x2 R.bools.length cx2) ∧ w'.cell? ⟨b5, 5, none⟩ = some (.slice x3 R.nums.length cx3)) (first | with_reducible exact HKS.out _ kk3.out | with_reducible exact HKS.out _ kk2.out | with_reducible exact HKS.out _ kk1.out | with_reducible exact HKS.out _ (Keeps.refl _ _).drew) (first | (have _ := kk2; go_at_call 9; refine (alike_c HSM (hidM (RY.out.kept kk2.out fun _ _ _ => id)) (hidM (RW.out.kept kk2.out fun _ _ _ => id))).mono ?_; rintro e w16 ⟨rfl, hk⟩; have kk3 := hidM (kk2.out.trans hk fun _ _ h => h); clear hk) | (have _ := kk1; go_at_call 9; refine (alike_c HSQ (hidM (RT.out.kept kk1.out fun _ _ _ => id)) RV).mono ?_; rintro e w15 ⟨rfl, hk⟩; have kk2 := hidM (kk1.out.trans hk fun _ _ h => h); clear hk RV) | (go_at_call 8; refine (HSP.out _ _ _ (HT.out.kept (K.out.trans (Keeps.refl _ _).drew fun _ _ h => h) id) (HP.out.kept (K.out.trans (Keeps.refl _ _).drew fun _ _ h => h)) HZ.out).mono ?_; rintro e w14 ⟨lov, hiv, v1, v2, v3, cv1, cv2, cv3, rfl, hR, z1, z2, z3, hk⟩; have RV := hidM hR; have kk1 := hidM ((Keeps.refl W13 (fun _ => False)).drew.trans hk fun _ _ h => h); clear hk hR z1 z2 z3))
  rename_i hHeld
  clear hHeld HKS
  have hk := kk3.out
  replace K := hidM (K.out.trans hk fun _ _ h => h)
  replace BO := hidM (BO.out.kept hk id)
  replace BP := hidM (BP.out.kept hk id)
  replace RW := hidM (RW.out.kept hk fun _ _ _ => id)
  replace BW := hidM (BW.out.kept hk id)
  replace GG := hidM (GG.out.kept hk fun _ _ _ => id)
  replace BG := hidM (BG.out.kept hk id)
  replace RY := hidM (RY.out.kept hk fun _ _ _ => id)
  replace BY := hidM (BY.out.kept hk id)
  replace RT := hidM (RT.out.kept hk fun _ _ _ => id)
  replace BT := hidM (BT.out.kept hk id)
  replace HZ := hidM (Nat.le_trans HZ.out hk.size)
  clear hk kk1 kk2 kk3 RT BT
  obtain ⟨l17_0, l17_1, l17_2⟩ := BG.out.c3
  obtain ⟨l18_0, l18_1, l18_2, l18_3, l18_4, l18_5, l18_6, l18_7⟩ := BO.out.c8
  go_wp2_with fail
  go_at_call 12
  clear l17_0 l17_1 l17_2 l18_0 l18_1 l18_2 l18_3 l18_4 l18_5 l18_6 l18_7
  refine (op_c o ao bo lo ca cb cl _ _ _ rfl rfl rfl GG.out).mono ?_
  rintro e w17 ⟨rfl, hk⟩
  replace K := hidM (K.out.trans hk fun _ _ h => h)
  replace BO := hidM (BO.out.kept hk id)
  replace BP := hidM (BP.out.kept hk id)
  replace RW := hidM (RW.out.kept hk fun _ _ _ => id)
  replace BW := hidM (BW.out.kept hk id)
  replace GG := hidM (GG.out.kept hk fun _ _ _ => id)
  replace BG := hidM (BG.out.kept hk id)
  replace RY := hidM (RY.out.kept hk fun _ _ _ => id)
  replace BY := hidM (BY.out.kept hk id)
  replace HZ := hidM (Nat.le_trans HZ.out hk.size)
  clear hk
  go_wp2_with fail
  go_at_call 7
  refine (HAO.out w17 _ _ (HT.out.kept K.out id) (giv_op GG.out o HOK.out _ _ _ rfl rfl rfl) HZ.out).mono ?_
  rintro e w18 ⟨loz, hiz, z1, z2, z3, cz1, cz2, cz3, rfl, hR, z1, z2, z3, hk⟩
  replace K := hidM (K.out.trans hk fun _ _ h => h)
  replace BO := hidM (BO.out.kept hk id)
  replace BP := hidM (BP.out.kept hk id)
  replace RW := hidM (RW.out.kept hk fun _ _ _ => id)
  replace BW := hidM (BW.out.kept hk id)
  replace GG := hidM (GG.out.kept hk fun _ _ _ => id)
  replace BG := hidM (BG.out.kept hk id)
  replace RY := hidM (RY.out.kept hk fun _ _ _ => id)
  replace BY := hidM (BY.out.kept hk id)
  have RZ := hidM hR
  replace HN := hidM (And.intro HN.out (And.intro z1 z2))
  replace HZ := hidM z3
  clear hk hR z1 z2 z3
  obtain ⟨l19_0, l19_1, l19_2⟩ := BG.out.a3
  go_wp2_with fail
  go_at_call 15
  clear l19_0 l19_1 l19_2
  obtain ⟨W18, hW⟩ : ∃ W18, W18 = w18.alloc (.cells #[.int .i64 R.err, .int .i64 R.num, .bool R.yes, .slice z1 R.bytes.length cz1, .slice z2 R.bools.length cz2, .slice z3 R.nums.length cz3] 28) := ⟨_, rfl⟩
  rw [← hW]
  have hk : Keeps w18 W18 (fun _ => False) := by rw [hW]; exact Keeps.none_alloc _ _
  have BZ : Hid (Box W18 w18.heap.size #[.int .i64 R.err, .int .i64 R.num, .bool R.yes, .slice z1 R.bytes.length cz1, .slice z2 R.bools.length cz2, .slice z3 R.nums.length cz3] 28) := by rw [hW]; exact Box.made _ _ _
  have HZ2 : Hid (w18.heap.size + 1 ≤ W18.heap.size) := by rw [hW]; show _ ≤ _; simp
  replace K := hidM (K.out.trans hk fun _ _ h => h)
  replace BO := hidM (BO.out.kept hk id)
  replace BP := hidM (BP.out.kept hk id)
  replace RW := hidM (RW.out.kept hk fun _ _ _ => id)
  replace BW := hidM (BW.out.kept hk id)
  replace GG := hidM (GG.out.kept hk fun _ _ _ => id)
  replace BG := hidM (BG.out.kept hk id)
  replace RY := hidM (RY.out.kept hk fun _ _ _ => id)
  replace BY := hidM (BY.out.kept hk id)
  replace RZ := hidM (RZ.out.kept hk fun _ _ _ => id)
  clear hW hk
  generalize w18.heap.size = b11 at *
  replace HN := hidM (And.intro HN.out HZ.out)
  replace HZ := HZ2
  clear HZ2
  refine (turned_c GG).mono ?_
  rintro e w19 ⟨⟨v19, rfl⟩, hG2, hk⟩
  clear GG
  have hn := HN.out
  replace K := hidM (K.out.trans hk fun j hj e => by omega)
  replace BO := hidM (BO.out.kept hk (by omega))
  replace BP := hidM (BP.out.kept hk (by omega))
  replace RW := hidM (RW.out.kept hk (fun g q1 q2 e => by omega))
  replace BW := hidM (BW.out.kept hk (by omega))
  replace BG := hidM (BG.out.kept hk (by omega))
  replace RY := hidM (RY.out.kept hk (fun g q1 q2 e => by omega))
  replace BY := hidM (BY.out.kept hk (by omega))
  replace RZ := hidM (RZ.out.kept hk (fun g q1 q2 e => by omega))
  replace BZ := hidM (BZ.out.kept hk (by omega))
  clear hn
  have GG := hidM hG2
  replace HZ := hidM (Nat.le_trans HZ.out hk.size)
  clear hk hG2
  obtain ⟨l20_0, l20_1, l20_2, l20_3, l20_4, l20_5⟩ := BZ.out.c6
  obtain ⟨l21_0, l21_1, l21_2, l21_3, l21_4, l21_5⟩ := BW.out.c6
  go_wp2_with fail
  go_at_call 9
  clear l20_0 l20_1 l20_2 l20_3 l20_4 l20_5 l21_0 l21_1 l21_2 l21_3 l21_4 l21_5
  refine (alike_c HSM RZ RW).mono ?_
  rintro e w20 ⟨rfl, hk⟩
  replace K := hidM (K.out.trans hk fun _ _ h => h)
  replace BO := hidM (BO.out.kept hk id)
  replace BP := hidM (BP.out.kept hk id)
  replace RW := hidM (RW.out.kept hk fun _ _ _ => id)
  replace BW := hidM (BW.out.kept hk id)
  replace BG := hidM (BG.out.kept hk id)
  replace RY := hidM (RY.out.kept hk fun _ _ _ => id)
  replace BY := hidM (BY.out.kept hk id)
  replace RZ := hidM (RZ.out.kept hk fun _ _ _ => id)
  replace BZ := hidM (BZ.out.kept hk id)
  replace GG := hidM (GG.out.kept hk fun _ _ _ => id)
  replace HZ := hidM (Nat.le_trans HZ.out hk.size)
  clear hk
  obtain ⟨l22_0, l22_1, l22_2, l22_3, l22_4, l22_5⟩ := BY.out.c6
  obtain ⟨l23_0, l23_1, l23_2, l23_3, l23_4, l23_5⟩ := BW.out.c6
  go_wp2_with fail
  go_at_call 9
  clear l22_0 l22_1 l22_2 l22_3 l22_4 l22_5 l23_0 l23_1 l23_2 l23_3 l23_4 l23_5
  refine (alike_c HSM RY RW).mono ?_
  rintro e w21 ⟨rfl, hk⟩
  replace K := hidM (K.out.trans hk fun _ _ h => h)
  replace BO := hidM (BO.out.kept hk id)
  replace BP := hidM (BP.out.kept hk id)
  replace RW := hidM (RW.out.kept hk fun _ _ _ => id)
  replace BW := hidM (BW.out.kept hk id)
  replace BG := hidM (BG.out.kept hk id)
  replace RY := hidM (RY.out.kept hk fun _ _ _ => id)
  replace BY := hidM (BY.out.kept hk id)
  replace RZ := hidM (RZ.out.kept hk fun _ _ _ => id)
  replace BZ := hidM (BZ.out.kept hk id)
  replace GG := hidM (GG.out.kept hk fun _ _ _ => id)
  replace HZ := hidM (Nat.le_trans HZ.out hk.size)
  clear hk
  clear RY BY
  obtain ⟨l24_0, l24_1, l24_2⟩ := BG.out.c3
  obtain ⟨l25_0, l25_1, l25_2, l25_3, l25_4, l25_5, l25_6, l25_7⟩ := BO.out.c8
  go_wp2_with fail
  go_at_call 12
  clear l24_0 l24_1 l24_2 l25_0 l25_1 l25_2 l25_3 l25_4 l25_5 l25_6 l25_7
  refine (op_c o ao bo lo ca cb cl _ _ _ (by simp) (by simp) (by simp) GG.out).mono ?_
  rintro e w22 ⟨rfl, hk⟩
  replace K := hidM (K.out.trans hk fun _ _ h => h)
  replace BO := hidM (BO.out.kept hk id)
  replace BP := hidM (BP.out.kept hk id)
  replace RW := hidM (RW.out.kept hk fun _ _ _ => id)
  replace BW := hidM (BW.out.kept hk id)
  replace BG := hidM (BG.out.kept hk id)
  replace RZ := hidM (RZ.out.kept hk fun _ _ _ => id)
  replace BZ := hidM (BZ.out.kept hk id)
  replace GG := hidM (GG.out.kept hk fun _ _ _ => id)
  replace HZ := hidM (Nat.le_trans HZ.out hk.size)
  clear hk
  go_wp2_with fail
  go_at_call 8
  refine (HST.out w22 _ _ (HT.out.kept K.out id) (giv_op GG.out o HOK.out _ _ _ (by simp) (by simp) (by simp)) HZ.out).mono ?_
  rintro e w23 ⟨lon, hin, n1, n2, n3, cn1, cn2, cn3, rfl, hR, z1, z2, z3, hk⟩
  replace K := hidM (K.out.trans hk fun _ _ h => h)
  replace BO := hidM (BO.out.kept hk id)
  replace BP := hidM (BP.out.kept hk id)
  replace RW := hidM (RW.out.kept hk fun _ _ _ => id)
  replace BW := hidM (BW.out.kept hk id)
  replace BG := hidM (BG.out.kept hk id)
  replace RZ := hidM (RZ.out.kept hk fun _ _ _ => id)
  replace BZ := hidM (BZ.out.kept hk id)
  replace GG := hidM (GG.out.kept hk fun _ _ _ => id)
  have RN := hidM hR
  replace HN := hidM (And.intro HN.out (And.intro z1 z2))
  replace HZ := hidM z3
  clear hk hR z1 z2 z3
  obtain ⟨l26_0, l26_1, l26_2⟩ := BG.out.a3
  obtain ⟨l27_0, l27_1, l27_2, l27_3, l27_4, l27_5, l27_6, l27_7⟩ := BO.out.a8
  go_wp2_with fail
  go_at_call 12
  clear l26_0 l26_1 l26_2 l27_0 l27_1 l27_2 l27_3 l27_4 l27_5 l27_6 l27_7
  obtain ⟨W23, hW⟩ : ∃ W23, W23 = w23.alloc (.cells #[.int .i64 R2.err, .int .i64 R2.num, .bool R2.yes, .slice n1 R2.bytes.length cn1, .slice n2 R2.bools.length cn2, .slice n3 R2.nums.length cn3] 28) := ⟨_, rfl⟩
  rw [← hW]
  have hk : Keeps w23 W23 (fun _ => False) := by rw [hW]; exact Keeps.none_alloc _ _
  have BN : Hid (Box W23 w23.heap.size #[.int .i64 R2.err, .int .i64 R2.num, .bool R2.yes, .slice n1 R2.bytes.length cn1, .slice n2 R2.bools.length cn2, .slice n3 R2.nums.length cn3] 28) := by rw [hW]; exact Box.made _ _ _
  have HZ2 : Hid (w23.heap.size + 1 ≤ W23.heap.size) := by rw [hW]; show _ ≤ _; simp
  replace K := hidM (K.out.trans hk fun _ _ h => h)
  replace BO := hidM (BO.out.kept hk id)
  replace BP := hidM (BP.out.kept hk id)
  replace RW := hidM (RW.out.kept hk fun _ _ _ => id)
  replace BW := hidM (BW.out.kept hk id)
  replace BG := hidM (BG.out.kept hk id)
  replace RZ := hidM (RZ.out.kept hk fun _ _ _ => id)
  replace BZ := hidM (BZ.out.kept hk id)
  replace GG := hidM (GG.out.kept hk fun _ _ _ => id)
  replace RN := hidM (RN.out.kept hk fun _ _ _ => id)
  clear hW hk
  generalize w23.heap.size = b12 at *
  replace HN := hidM (And.intro HN.out HZ.out)
  replace HZ := HZ2
  clear HZ2
  refine (op_c o ao bo lo ca cb cl _ _ _ (by simp) (by simp) (by simp) GG.out).mono ?_
  rintro e w24 ⟨rfl, hk⟩
  replace K := hidM (K.out.trans hk fun _ _ h => h)
  replace BO := hidM (BO.out.kept hk id)
  replace BP := hidM (BP.out.kept hk id)
  replace RW := hidM (RW.out.kept hk fun _ _ _ => id)
  replace BW := hidM (BW.out.kept hk id)
  replace BG := hidM (BG.out.kept hk id)
  replace RZ := hidM (RZ.out.kept hk fun _ _ _ => id)
  replace BZ := hidM (BZ.out.kept hk id)
  replace GG := hidM (GG.out.kept hk fun _ _ _ => id)
  replace RN := hidM (RN.out.kept hk fun _ _ _ => id)
  replace BN := hidM (BN.out.kept hk id)
  replace HZ := hidM (Nat.le_trans HZ.out hk.size)
  clear hk
  go_wp2_with fail
  go_at_call 7
  refine (HAT.out w24 _ _ (HT.out.kept K.out id) (giv_op GG.out o HOK.out _ _ _ (by simp) (by simp) (by simp)) HZ.out).mono ?_
  rintro e w25 ⟨los, his, s1, s2, s3, cs1, cs2, cs3, rfl, hR, z1, z2, z3, hk⟩
  replace K := hidM (K.out.trans hk fun _ _ h => h)
  replace BO := hidM (BO.out.kept hk id)
  replace BP := hidM (BP.out.kept hk id)
  replace RW := hidM (RW.out.kept hk fun _ _ _ => id)
  replace BW := hidM (BW.out.kept hk id)
  replace BG := hidM (BG.out.kept hk id)
  replace RZ := hidM (RZ.out.kept hk fun _ _ _ => id)
  replace BZ := hidM (BZ.out.kept hk id)
  replace GG := hidM (GG.out.kept hk fun _ _ _ => id)
  replace RN := hidM (RN.out.kept hk fun _ _ _ => id)
  replace BN := hidM (BN.out.kept hk id)
  have RU := hidM hR
  replace HN := hidM (And.intro HN.out (And.intro z1 z2))
  replace HZ := hidM z3
  clear hk hR z1 z2 z3
  obtain ⟨l28_0, l28_1, l28_2, l28_3, l28_4, l28_5⟩ := BN.out.a6
  go_wp2_with fail
  go_at_call 9
  clear l28_0 l28_1 l28_2 l28_3 l28_4 l28_5
  obtain ⟨W25, hW⟩ : ∃ W25, W25 = w25.alloc (.cells #[.int .i64 R2.err, .int .i64 R2.num, .bool R2.yes, .slice s1 R2.bytes.length cs1, .slice s2 R2.bools.length cs2, .slice s3 R2.nums.length cs3] 28) := ⟨_, rfl⟩
  rw [← hW]
  have hk : Keeps w25 W25 (fun _ => False) := by rw [hW]; exact Keeps.none_alloc _ _
  have BU : Hid (Box W25 w25.heap.size #[.int .i64 R2.err, .int .i64 R2.num, .bool R2.yes, .slice s1 R2.bytes.length cs1, .slice s2 R2.bools.length cs2, .slice s3 R2.nums.length cs3] 28) := by rw [hW]; exact Box.made _ _ _
  have HZ2 : Hid (w25.heap.size + 1 ≤ W25.heap.size) := by rw [hW]; show _ ≤ _; simp
  replace K := hidM (K.out.trans hk fun _ _ h => h)
  replace BO := hidM (BO.out.kept hk id)
  replace BP := hidM (BP.out.kept hk id)
  replace RW := hidM (RW.out.kept hk fun _ _ _ => id)
  replace BW := hidM (BW.out.kept hk id)
  replace BG := hidM (BG.out.kept hk id)
  replace RZ := hidM (RZ.out.kept hk fun _ _ _ => id)
  replace BZ := hidM (BZ.out.kept hk id)
  replace GG := hidM (GG.out.kept hk fun _ _ _ => id)
  replace RN := hidM (RN.out.kept hk fun _ _ _ => id)
  replace BN := hidM (BN.out.kept hk id)
  replace RU := hidM (RU.out.kept hk fun _ _ _ => id)
  clear hW hk
  generalize w25.heap.size = b13 at *
  replace HN := hidM (And.intro HN.out HZ.out)
  replace HZ := HZ2
  clear HZ2
  refine (alike_c HST2 RU RN).mono ?_
  rintro e w26 ⟨rfl, hk⟩
  replace K := hidM (K.out.trans hk fun _ _ h => h)
  replace BO := hidM (BO.out.kept hk id)
  replace BP := hidM (BP.out.kept hk id)
  replace RW := hidM (RW.out.kept hk fun _ _ _ => id)
  replace BW := hidM (BW.out.kept hk id)
  replace BG := hidM (BG.out.kept hk id)
  replace RZ := hidM (RZ.out.kept hk fun _ _ _ => id)
  replace BZ := hidM (BZ.out.kept hk id)
  replace GG := hidM (GG.out.kept hk fun _ _ _ => id)
  replace RN := hidM (RN.out.kept hk fun _ _ _ => id)
  replace BN := hidM (BN.out.kept hk id)
  replace RU := hidM (RU.out.kept hk fun _ _ _ => id)
  replace BU := hidM (BU.out.kept hk id)
  replace HZ := hidM (Nat.le_trans HZ.out hk.size)
  clear hk
  obtain ⟨l29_0, l29_1, l29_2, l29_3, l29_4, l29_5⟩ := BZ.out.c6
  obtain ⟨l30_0, l30_1, l30_2, l30_3, l30_4, l30_5⟩ := BW.out.c6
  go_wp2_with fail
  go_at_call 9
  clear l29_0 l29_1 l29_2 l29_3 l29_4 l29_5 l30_0 l30_1 l30_2 l30_3 l30_4 l30_5
  refine (alike_c HSM RZ RW).mono ?_
  rintro e w27 ⟨rfl, hk⟩
  replace K := hidM (K.out.trans hk fun _ _ h => h)
  replace BO := hidM (BO.out.kept hk id)
  replace BP := hidM (BP.out.kept hk id)
  replace RW := hidM (RW.out.kept hk fun _ _ _ => id)
  replace BW := hidM (BW.out.kept hk id)
  replace BG := hidM (BG.out.kept hk id)
  replace RZ := hidM (RZ.out.kept hk fun _ _ _ => id)
  replace BZ := hidM (BZ.out.kept hk id)
  replace GG := hidM (GG.out.kept hk fun _ _ _ => id)
  replace RN := hidM (RN.out.kept hk fun _ _ _ => id)
  replace BN := hidM (BN.out.kept hk id)
  replace RU := hidM (RU.out.kept hk fun _ _ _ => id)
  replace BU := hidM (BU.out.kept hk id)
  replace HZ := hidM (Nat.le_trans HZ.out hk.size)
  clear hk
  go_wp2_with fail
  go_at_call 10
  refine (fixed_any w27 (HT.out.kept K.out id)).mono ?_
  rintro e w28 ⟨rfl, hk⟩
  replace K := hidM (K.out.trans hk fun _ _ h => h)
  replace BO := hidM (BO.out.kept hk id)
  replace BP := hidM (BP.out.kept hk id)
  replace RW := hidM (RW.out.kept hk fun _ _ _ => id)
  replace BW := hidM (BW.out.kept hk id)
  replace BG := hidM (BG.out.kept hk id)
  replace RZ := hidM (RZ.out.kept hk fun _ _ _ => id)
  replace BZ := hidM (BZ.out.kept hk id)
  replace GG := hidM (GG.out.kept hk fun _ _ _ => id)
  replace RN := hidM (RN.out.kept hk fun _ _ _ => id)
  replace BN := hidM (BN.out.kept hk id)
  replace RU := hidM (RU.out.kept hk fun _ _ _ => id)
  replace BU := hidM (BU.out.kept hk id)
  replace HZ := hidM (Nat.le_trans HZ.out hk.size)
  clear hk
  go_wp2_with fail
  go_ret
  exact ⟨rfl, K.out⟩
end Go.Proofs.YteppfammimbmcaaDoor.Kit
