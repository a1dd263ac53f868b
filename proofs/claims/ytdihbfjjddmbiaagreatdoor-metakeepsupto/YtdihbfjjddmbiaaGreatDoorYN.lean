import Derived.Test.YtdihbfjjddmbiaaGreatDoorYM
set_option maxRecDepth 100000
set_option maxHeartbeats 4000000
namespace Go.Proofs.YtdihbfjjddmbiaaGreatDoor.Kit
open Go.RowKit Go.Shelf Go.Deep
set_option linter.unusedVariables false
set_option linter.unusedSimpArgs false
attribute [local go_sem] run_store_func
def marksB : Nat → List UInt8
  | 0 => []
  | j + 1 => marksB j ++ [UInt8.ofNat (160 + j)]
theorem marksB_len : ∀ j, (marksB j).length = j
  | 0 => rfl
  | j + 1 => by simp [marksB, marksB_len j]
theorem marksB_get : ∀ (j i : Nat) (h : i < (marksB j).length), (marksB j)[i] = UInt8.ofNat (160 + i)
  | 0, i, h => by simp [marksB] at h
  | j + 1, i, h => by
    have hl := marksB_len j
    by_cases e : i < j
    · have : (marksB (j + 1))[i] = (marksB j)[i]'(by omega) := by simp only [marksB]; exact List.getElem_append_left (by omega)
      rw [this, marksB_get j i]
    have e' : i = j := by have := marksB_len (j + 1); omega
    subst e'
    simp only [marksB]
    rw [List.getElem_append_right (by omega)]
    simp
theorem keepsBytes11 {w : World} (hT : Tab w) {bo : Option Addr} {B : List UInt8} {bc : Nat} (hb : BytesAt w bo B) (hf : B.length ≤ bc ∧ bc ≤ 9223372036854775807 ∧ (bo = none ∧ bc = 0 ∨ ∃ b o, bo = some ⟨b, o, none⟩)) (hlen : B.length ≤ 1000000000) (hlow : ∀ b o, bo = some ⟨b, o, none⟩ → b < w.heap.size) :
    Calls Tryz.prog 11 #[.slice bo B.length bc] w fun e w' => e = .returned (.bool true) ∧ Gr w w' := by
  obtain ⟨R, hR⟩ : ∃ R, R = getR Yh B := ⟨_, rfl⟩
  have hx : HRd (hdR R) := by rw [hR]; exact hdR_rd B
  obtain ⟨x, hxe⟩ : ∃ x, x = hdR R := ⟨_, rfl⟩
  obtain ⟨e0, he0⟩ : ∃ e, e = feR R := ⟨_, rfl⟩
  obtain ⟨a0, ha0⟩ : ∃ a, a = faR R := ⟨_, rfl⟩
  rw [← hxe] at hx
  obtain ⟨n, hn⟩ : ∃ n, n = B.length := ⟨_, rfl⟩
  have HC25 : Hid (Calls Tryz.prog 25 #[.slice bo n bc] w fun e w' => ∃ fo1 fc1 no1 nc1 vo1 vc1 uo1 uc1, e = .returned (.tuple #[.agg #[.int .i64 (x.kind : Int), .slice fo1 x.fs.length fc1, .slice no1 x.ns.length nc1, .int .i64 (x.id : Int), .bool x.delta, .int .i64 (x.rows : Int), .int .i64 (x.press : Int), .slice vo1 x.nds.length vc1, .slice uo1 x.sls.length uc1], .agg #[.int .i64 e0, .slice none 0 0, .int .i64 a0]]) ∧ Gr w w' ∧ HV9 w w' x (.agg #[.int .i64 (x.kind : Int), .slice fo1 x.fs.length fc1, .slice no1 x.ns.length nc1, .int .i64 (x.id : Int), .bool x.delta, .int .i64 (x.rows : Int), .int .i64 (x.press : Int), .slice vo1 x.nds.length vc1, .slice uo1 x.sls.length uc1])) := by
    rw [hn, hxe, he0, ha0, hR]
    exact (get7 hT hb hf (by omega) hlow).mono fun e w' h => get_form h
  have HC26 : Hid (∀ u g cap, Gr w u → g < u.heap.size → BytesAt u (some ⟨g, 0, none⟩) B → n ≤ cap → cap ≤ 9223372036854775807 → Calls Tryz.prog 26 #[.slice (some ⟨g, 0, none⟩) n cap] u fun e w' => ∃ fo1 fc1 no1 nc1 vo1 vc1 uo1 uc1, e = .returned (.tuple #[.agg #[.int .i64 (x.kind : Int), .slice fo1 x.fs.length fc1, .slice no1 x.ns.length nc1, .int .i64 (x.id : Int), .bool x.delta, .int .i64 (x.rows : Int), .int .i64 (x.press : Int), .slice vo1 x.nds.length vc1, .slice uo1 x.sls.length uc1], .agg #[.int .i64 e0, .slice none 0 0, .int .i64 a0]]) ∧ Gr u w' ∧ HV9 u w' x (.agg #[.int .i64 (x.kind : Int), .slice fo1 x.fs.length fc1, .slice no1 x.ns.length nc1, .int .i64 (x.id : Int), .bool x.delta, .int .i64 (x.rows : Int), .int .i64 (x.press : Int), .slice vo1 x.nds.length vc1, .slice uo1 x.sls.length uc1])) := fun u g cap gu hg hbu h1 h2 => by
    rw [hn, hxe, he0, ha0, hR]
    rw [hn] at h1
    exact (get_any (hT.gr gu) hbu ⟨h1, h2, .inr ⟨_, _, rfl⟩⟩ (by omega) (fun b o e => by cases e; exact hg)).mono fun e w' h => get_form h
  have HS1 : Hid (∀ u, Gr w u → Src Tryz.prog 1 30 (.slice bo n bc) n (bv B) u) := fun u g => by rw [hn]; exact src_bytes (hb.gr g)
  rw [← hn] at hlen ⊢
  have HB := hidM hb
  have HL := hidM hlow
  have HT := hidM hT
  have HN := hidM hn
  have HX := hidM hx
  clear hb hf hlow hT hn hx hxe he0 ha0 hR
  go_enter Tryz.func11, Tryz.ntmps11
  go_wp2_with (go_at_call 25; refine HC25.out.mono ?_)
  rintro e X1 ⟨fo1, fc1, no1, nc1, vo1, vc1, uo1, uc1, rfl, g1, hv1⟩
  obtain ⟨A1, hA1⟩ := ex (X1.alloc (.cells #[.int .i64 (x.kind : Int), .slice fo1 x.fs.length fc1, .slice no1 x.ns.length nc1, .int .i64 (x.id : Int), .bool x.delta, .int .i64 (x.rows : Int), .int .i64 (x.press : Int), .slice vo1 x.nds.length vc1, .slice uo1 x.sls.length uc1] 29))
  have gA1 : Gr X1 A1 := by rw [← hA1]; exact gr_alloc _ _
  have bA1 : A1.heap[X1.heap.size]? = some (.cells #[.int .i64 (x.kind : Int), .slice fo1 x.fs.length fc1, .slice no1 x.ns.length nc1, .int .i64 (x.id : Int), .bool x.delta, .int .i64 (x.rows : Int), .int .i64 (x.press : Int), .slice vo1 x.nds.length vc1, .slice uo1 x.sls.length uc1] 29 (0, 0)) := by rw [← hA1]; exact heap_alloc_new _ _
  have sA1 : A1.heap.size = X1.heap.size + 1 := by rw [← hA1]; simp
  obtain ⟨V1, hV1⟩ := ex (A1.alloc (.cells #[.int .i64 e0, .slice none 0 0, .int .i64 a0] 67))
  have gV1 : Gr A1 V1 := by rw [← hV1]; exact gr_alloc _ _
  have qV13 : V1.heap[X1.heap.size + 1]? = some (.cells #[.int .i64 e0, .slice none 0 0, .int .i64 a0] 67 (0, 0)) := by rw [← hV1, ← sA1]; exact heap_alloc_new _ _
  have qV19 : V1.heap[X1.heap.size]? = some (.cells #[.int .i64 (x.kind : Int), .slice fo1 x.fs.length fc1, .slice no1 x.ns.length nc1, .int .i64 (x.id : Int), .bool x.delta, .int .i64 (x.rows : Int), .int .i64 (x.press : Int), .slice vo1 x.nds.length vc1, .slice uo1 x.sls.length uc1] 29 (0, 0)) := (gV1.block _ (lt_of_heap bA1) id).trans bA1
  have GX1V1 : Gr X1 V1 := gA1.tr gV1
  have HG1 := hidM (g1.tr GX1V1)
  have HQ1 := hidM (And.intro qV19 qV13)
  have HV1 := hidM hv1
  have HGX := hidM (And.intro g1 GX1V1)
  have HSr := hidM (HS1.out V1 HG1.out)
  clear g1 hv1 gA1 bA1 gV1 qV19 qV13 GX1V1 HC25
  go_wp2_with (at_builtin; refine Hid.out ?_)
  unfold Hid
  refine wpList_append_anyN (P := Tryz.prog) _ rfl (.const (.slice none 0 0)) (.tmp 23) 30 30 rfl 5 (.int .u8 0) 1 1 Tryz.underlying30 info5 rfl (.slice none 0 0) 0 [] rfl (World.ownsRow_nil _ _ _ _) _ n (bv B) rfl HSr.out (by omega) (by omega) ?_
  refine Hid.out ?_
  unfold Hid
  intro v' w2 hown hgrow hnew
  rw [Nat.zero_add, List.nil_append] at hown
  obtain ⟨va, ca, rfl⟩ := own_formK hown
  have HR2 : Hid (w2.ownsRow 0 5 1 (.slice va (n + 0) ca) (n + 0) (bv (B ++ marksB 0))) := by show World.ownsRow _ _ _ _ _ _ _; rw [marksB, List.append_nil]; exact hown
  have HG2 : Hid (Gr V1 w2) := (Keeps.ofGrown hgrow).mono fun _ _ e => by simp [Value.ownBlock] at e
  have HN2 : Hid (∀ g, (Value.slice va (n + 0) ca).ownBlock = some g → V1.heap.size ≤ g) := fun g e => hnew.elim (fun q => by have q2 := q.symm.trans e; simp [Value.ownBlock] at q2) fun q => q g e
  clear hown hgrow hnew
  go_wp2_with fail
  go_loopw [5, 6] (fun a p wr => ∃ (j : Nat) (va : Option Addr) (ca : Nat), j ≤ 9 ∧ p = .int .i64 (j : Int) ∧ a = .slice va (n + j : Nat) ca ∧ Hid (wr.ownsRow 0 5 1 (.slice va (n + j) ca) (n + j) (bv (B ++ marksB j))) ∧ Hid (Gr V1 wr) ∧ Hid (∀ g, (Value.slice va (n + j) ca).ownBlock = some g → V1.heap.size ≤ g)) (fun _ p _ => 9 - (intOf p).toNat)
  case atStart => exact ⟨0, va, ca, by omega, rfl, rfl, HR2.out, HG2.out, HN2.out⟩
  case round =>
    clear HR2 HG2 HN2
    obtain ⟨j, va, ca, hj, rfl, rfl, HR2, HG2, HN2⟩ := hrel
    by_cases hlt : j < 9
    · have hltI : (j : Int) < 9 := by omega
      have HG : Hid (∀ z, Gr wr (wr.alloc (.cells #[.int .u8 z] 5))) := fun z => gr_alloc _ _
      have HO3 : Hid (∀ z, (wr.alloc (.cells #[.int .u8 z] 5)).ownsRow 0 5 1 (.slice va (n + j) ca) (n + j) (bv (B ++ marksB j))) := fun z => HR2.out.alloc _
      have HSs : Hid (∀ z, Src Tryz.prog 1 30 (.slice (some ⟨wr.heap.size, 0, none⟩) 1 1) 1 [.int .u8 z] (wr.alloc (.cells #[.int .u8 z] 5))) := fun z => src_u8 wr [.int .u8 z] 1 rfl (fun v hv => ⟨z, by simpa using hv⟩)
      go_wp2_with (at_builtin; refine Hid.out ?_)
      unfold Hid
      refine wpList_append_anyN (P := Tryz.prog) _ rfl (.tmp 29) (.tmp 33) 30 30 rfl 5 (.int .u8 0) 1 1 Tryz.underlying30 info5 rfl _ _ _ rfl (HO3.out _) _ _ _ rfl (HSs.out _) (by omega) (by omega) ?_
      refine Hid.out ?_
      unfold Hid
      intro v' w3 hown hgrow hnew
      have hbv : bv (B ++ marksB (j + 1)) = bv (B ++ marksB j) ++ [Value.int .u8 (160 + (j : Int))] := by
        have h8 : ((UInt8.ofNat (160 + j)).toNat : Int) = 160 + (j : Int) := by rw [UInt8.toNat_ofNat']; omega
        simp only [marksB, bv, ← List.append_assoc, List.map_append, List.map_cons, List.map_nil, h8]
      rw [← hbv] at hown
      obtain ⟨va3, ca3, rfl⟩ := own_formK hown
      have HR3 := hidM hown
      have hkG := Keeps.ofGrown hgrow
      have HG3 : Hid (Gr V1 w3) := (HG2.out.tr (HG.out _)).trans hkG fun z hz e => by
        have e' : (Value.slice va (n + j) ca).ownBlock = some z := e
        have := HN2.out z e'
        omega
      have HN3 : Hid (∀ g, (Value.slice va3 (n + (j + 1)) ca3).ownBlock = some g → V1.heap.size ≤ g) := fun g e => by
        rcases hnew with q | q
        · exact HN2.out g (q ▸ e)
        have q1 := q g e; have q2 := (HG.out 0).size; have q3 := HG2.out.size
        simp only [World.alloc] at q1 q2
        simp at q1 q2
        omega
      clear hown hgrow hnew hkG hbv
      go_wp2_with fail
      go_roundw
      case rel => exact ⟨j + 1, va3, ca3, by omega, by simp, rfl, HR3.out, HG3.out, HN3.out⟩
      case measure => simp [intOf]; omega
    have hj9 : j = 9 := by omega
    subst hj9
    obtain ⟨W2, rfl⟩ : ∃ W2, W2 = wr := ⟨_, rfl⟩
    obtain ⟨hl, ⟨e, h0⟩ | ⟨g, cap, cur, e, -, hg, hnc, hcm, hcs, htk⟩⟩ := HR2.out
    · omega
    cases e
    have hgn : V1.heap.size ≤ g := HN2.out g rfl
    have hcell : ∀ i (h : i < (B ++ marksB 9).length), W2.cell? ⟨g, i, none⟩ = some (.int .u8 ((B ++ marksB 9)[i].toNat : Int)) := fun i h => by
      have hlen : (B ++ marksB 9).length = n + 9 := by rw [List.length_append, HN.out]; rfl
      rw [HR2.out.cellAt i (by omega), bv, List.getElem?_map, List.getElem?_eq_getElem h]
      rfl
    have hgw : Gr w W2 := HG1.out.tr HG2.out
    have hby : BytesAt W2 (some ⟨g, 0, none⟩) B := fun hne => ⟨g, 0, rfl, fun i hi => by
      rw [Nat.zero_add, hcell i (by rw [List.length_append]; omega)]
      simp [List.getElem_append_left hi]⟩
    have HCx := hidM (HC26.out W2 g ca hgw (lt_of_heap hg) hby (by omega) (by unfold maxLen at hcm; omega))
    have hcaI : (n : Int) ≤ (ca : Int) := by omega
    have HGB := hidM (And.intro hg (And.intro hgn (And.intro hnc (And.intro hcm hcs))))
    have HCELL := hidM hcell
    have HGW := hidM hgw
    have HBY := hidM hby
    clear hg hgn hnc hcs hcell hgw hby hl htk HR2 hcm
    go_wp2_with (go_at_call 26; refine HCx.out.mono ?_)
    rintro e X2 ⟨fo2, fc2, no2, nc2, vo2, vc2, uo2, uc2, rfl, g2, hv2⟩
    obtain ⟨A2, hA2⟩ := ex (X2.alloc (.cells #[.int .i64 (x.kind : Int), .slice fo2 x.fs.length fc2, .slice no2 x.ns.length nc2, .int .i64 (x.id : Int), .bool x.delta, .int .i64 (x.rows : Int), .int .i64 (x.press : Int), .slice vo2 x.nds.length vc2, .slice uo2 x.sls.length uc2] 29))
    have gA2 : Gr X2 A2 := by rw [← hA2]; exact gr_alloc _ _
    have bA2 : A2.heap[X2.heap.size]? = some (.cells #[.int .i64 (x.kind : Int), .slice fo2 x.fs.length fc2, .slice no2 x.ns.length nc2, .int .i64 (x.id : Int), .bool x.delta, .int .i64 (x.rows : Int), .int .i64 (x.press : Int), .slice vo2 x.nds.length vc2, .slice uo2 x.sls.length uc2] 29 (0, 0)) := by rw [← hA2]; exact heap_alloc_new _ _
    have sA2 : A2.heap.size = X2.heap.size + 1 := by rw [← hA2]; simp
    obtain ⟨V2, hV2⟩ := ex (A2.alloc (.cells #[.int .i64 e0, .slice none 0 0, .int .i64 a0] 67))
    have gV2 : Gr A2 V2 := by rw [← hV2]; exact gr_alloc _ _
    have qV23 : V2.heap[X2.heap.size + 1]? = some (.cells #[.int .i64 e0, .slice none 0 0, .int .i64 a0] 67 (0, 0)) := by rw [← hV2, ← sA2]; exact heap_alloc_new _ _
    have qV29 : V2.heap[X2.heap.size]? = some (.cells #[.int .i64 (x.kind : Int), .slice fo2 x.fs.length fc2, .slice no2 x.ns.length nc2, .int .i64 (x.id : Int), .bool x.delta, .int .i64 (x.rows : Int), .int .i64 (x.press : Int), .slice vo2 x.nds.length vc2, .slice uo2 x.sls.length uc2] 29 (0, 0)) := (gV2.block _ (lt_of_heap bA2) id).trans bA2
    have GX2V2 : Gr X2 V2 := gA2.tr gV2
    have HQ2 := hidM (And.intro qV29 qV23)
    have HV2 := hidM hv2
    have HG2X := hidM (And.intro g2 GX2V2)
    have hgr2 : Gr W2 V2 := g2.tr GX2V2
    have HCy := hidM (HC26.out V2 g ca (HGW.out.tr hgr2) (Nat.lt_of_lt_of_le (lt_of_heap HGB.out.1) hgr2.size) (HBY.out.gr hgr2) (by have := HGB.out.2.2.1; omega) (by have := HGB.out.2.2.2.1; unfold maxLen at this; omega))
    clear g2 hv2 gA2 bA2 gV2 qV29 qV23 GX2V2 hgr2 HCx
    go_wp2_with (go_at_call 26; refine HCy.out.mono ?_)
    rintro e X3 ⟨fo3, fc3, no3, nc3, vo3, vc3, uo3, uc3, rfl, g3, hv3⟩
    obtain ⟨A3, hA3⟩ := ex (X3.alloc (.cells #[.int .i64 (x.kind : Int), .slice fo3 x.fs.length fc3, .slice no3 x.ns.length nc3, .int .i64 (x.id : Int), .bool x.delta, .int .i64 (x.rows : Int), .int .i64 (x.press : Int), .slice vo3 x.nds.length vc3, .slice uo3 x.sls.length uc3] 29))
    have gA3 : Gr X3 A3 := by rw [← hA3]; exact gr_alloc _ _
    have bA3 : A3.heap[X3.heap.size]? = some (.cells #[.int .i64 (x.kind : Int), .slice fo3 x.fs.length fc3, .slice no3 x.ns.length nc3, .int .i64 (x.id : Int), .bool x.delta, .int .i64 (x.rows : Int), .int .i64 (x.press : Int), .slice vo3 x.nds.length vc3, .slice uo3 x.sls.length uc3] 29 (0, 0)) := by rw [← hA3]; exact heap_alloc_new _ _
    have sA3 : A3.heap.size = X3.heap.size + 1 := by rw [← hA3]; simp
    obtain ⟨Z, hZ⟩ := ex (A3.alloc (.cells #[.int .i64 e0, .slice none 0 0, .int .i64 a0] 67))
    have gZ : Gr A3 Z := by rw [← hZ]; exact gr_alloc _ _
    have qZ3 : Z.heap[X3.heap.size + 1]? = some (.cells #[.int .i64 e0, .slice none 0 0, .int .i64 a0] 67 (0, 0)) := by rw [← hZ, ← sA3]; exact heap_alloc_new _ _
    have qZ9 : Z.heap[X3.heap.size]? = some (.cells #[.int .i64 (x.kind : Int), .slice fo3 x.fs.length fc3, .slice no3 x.ns.length nc3, .int .i64 (x.id : Int), .bool x.delta, .int .i64 (x.rows : Int), .int .i64 (x.press : Int), .slice vo3 x.nds.length vc3, .slice uo3 x.sls.length uc3] 29 (0, 0)) := (gZ.block _ (lt_of_heap bA3) id).trans bA3
    have GX3Z : Gr X3 Z := gA3.tr gZ
    clear HCy
    have gVZ : Gr V2 Z := g3.tr GX3Z
    have gWZ : Gr W2 Z := (HG2X.out.1.tr HG2X.out.2).tr gVZ
    have gXZ : Gr X2 Z := HG2X.out.2.tr gVZ
    have gX1Z : Gr X1 Z := (HGX.out.2.tr HG2.out).tr gWZ
    have k1 : Gr V1 Z := HG2.out.tr gWZ
    have q19 := (k1.block _ (lt_of_heap HQ1.out.1) id).trans HQ1.out.1
    have q13 := (k1.block _ (lt_of_heap HQ1.out.2) id).trans HQ1.out.2
    have q29 := (gVZ.block _ (lt_of_heap HQ2.out.1) id).trans HQ2.out.1
    have q23 := (gVZ.block _ (lt_of_heap HQ2.out.2) id).trans HQ2.out.2
    have s1 : X1.heap.size + 1 < W2.heap.size := by have := lt_of_heap HQ1.out.2; have := HG2.out.size; omega
    have s2 : W2.heap.size ≤ X2.heap.size := HG2X.out.1.size
    have s3 : X2.heap.size + 1 < V2.heap.size := lt_of_heap HQ2.out.2
    have s4 : V2.heap.size ≤ X3.heap.size := g3.size
    have s0 : w.heap.size ≤ X1.heap.size := HGX.out.1.size
    have sg : g < W2.heap.size := lt_of_heap HGB.out.1
    have sz : X3.heap.size + 1 < Z.heap.size := lt_of_heap qZ3
    have HSZ := hidM (And.intro s0 (And.intro s1 (And.intro s2 (And.intro s3 (And.intro s4 (And.intro sg sz))))))
    have HZ := hidM (And.intro q19 (And.intro q13 (And.intro q29 (And.intro q23 (And.intro qZ9 qZ3)))))
    have HZG := hidM (And.intro gWZ (And.intro gXZ gX1Z))
    have HV3 := hidM hv3
    have HX3Z := hidM (And.intro g3 GX3Z)
    -- a world that is Z but for x's lists: what stands there
    have HKZ : Hid (∀ u, Keeps Z u (fun z => W2.heap.size ≤ z ∧ z < X2.heap.size) → Gr w u ∧ Tab u ∧ HV9 w u x (.agg #[.int .i64 (x.kind : Int), .slice fo1 x.fs.length fc1, .slice no1 x.ns.length nc1, .int .i64 (x.id : Int), .bool x.delta, .int .i64 (x.rows : Int), .int .i64 (x.press : Int), .slice vo1 x.nds.length vc1, .slice uo1 x.sls.length uc1]) ∧ HV9 V2 u x (.agg #[.int .i64 (x.kind : Int), .slice fo3 x.fs.length fc3, .slice no3 x.ns.length nc3, .int .i64 (x.id : Int), .bool x.delta, .int .i64 (x.rows : Int), .int .i64 (x.press : Int), .slice vo3 x.nds.length vc3, .slice uo3 x.sls.length uc3]) ∧ u.heap[X1.heap.size]? = some (.cells #[.int .i64 (x.kind : Int), .slice fo1 x.fs.length fc1, .slice no1 x.ns.length nc1, .int .i64 (x.id : Int), .bool x.delta, .int .i64 (x.rows : Int), .int .i64 (x.press : Int), .slice vo1 x.nds.length vc1, .slice uo1 x.sls.length uc1] 29 (0, 0)) ∧ u.heap[X1.heap.size + 1]? = some (.cells #[.int .i64 e0, .slice none 0 0, .int .i64 a0] 67 (0, 0)) ∧ u.heap[X2.heap.size]? = some (.cells #[.int .i64 (x.kind : Int), .slice fo2 x.fs.length fc2, .slice no2 x.ns.length nc2, .int .i64 (x.id : Int), .bool x.delta, .int .i64 (x.rows : Int), .int .i64 (x.press : Int), .slice vo2 x.nds.length vc2, .slice uo2 x.sls.length uc2] 29 (0, 0)) ∧ u.heap[X2.heap.size + 1]? = some (.cells #[.int .i64 e0, .slice none 0 0, .int .i64 a0] 67 (0, 0)) ∧ u.heap[X3.heap.size]? = some (.cells #[.int .i64 (x.kind : Int), .slice fo3 x.fs.length fc3, .slice no3 x.ns.length nc3, .int .i64 (x.id : Int), .bool x.delta, .int .i64 (x.rows : Int), .int .i64 (x.press : Int), .slice vo3 x.nds.length vc3, .slice uo3 x.sls.length uc3] 29 (0, 0)) ∧ u.heap[X3.heap.size + 1]? = some (.cells #[.int .i64 e0, .slice none 0 0, .int .i64 a0] 67 (0, 0)) ∧ u.heap[g]? = some (.cells cur 5 (0, 0))) := fun u k => by
      have hgu : Gr w u := (HGW.out.tr HZG.out.1).trans k fun j hj e => by have := HGW.out.size; omega
      have hz := HZ.out
      have hs := HSZ.out
      refine ⟨hgu, HT.out.gr hgu, HV1.out.at_ (fun z z1 z2 => (k.block z (by omega) (by omega)).trans (HZG.out.2.2.block z z2 id)) (by have := k.size; omega), HV3.out.at_ (fun z z1 z2 => (k.block z (by have := HX3Z.out.2.size; omega) (by omega)).trans (HX3Z.out.2.block z z2 id)) (by have := k.size; omega), (k.block _ (lt_of_heap hz.1) (by omega)).trans hz.1, (k.block _ (lt_of_heap hz.2.1) (by omega)).trans hz.2.1, (k.block _ (lt_of_heap hz.2.2.1) (by omega)).trans hz.2.2.1, (k.block _ (lt_of_heap hz.2.2.2.1) (by omega)).trans hz.2.2.2.1, (k.block _ (lt_of_heap hz.2.2.2.2.1) (by omega)).trans hz.2.2.2.2.1, (k.block _ (lt_of_heap hz.2.2.2.2.2) (by omega)).trans hz.2.2.2.2.2, (k.block _ (by omega) (by omega)).trans ((HZG.out.1.block g sg id).trans HGB.out.1)⟩
    have HV2Z : Hid (∀ u, Gr Z u → HV9 W2 u x (.agg #[.int .i64 (x.kind : Int), .slice fo2 x.fs.length fc2, .slice no2 x.ns.length nc2, .int .i64 (x.id : Int), .bool x.delta, .int .i64 (x.rows : Int), .int .i64 (x.press : Int), .slice vo2 x.nds.length vc2, .slice uo2 x.sls.length uc2])) := fun u k => (HV2.out.gr HZG.out.2.1).gr k
    obtain ⟨fa0, fa1, fa2⟩ := ce3 q23
    obtain ⟨fb0, fb1, fb2⟩ := ce3 q13
    have HF1 := hidM (same_fault e0 a0 Z)
    clear gVZ gWZ gXZ gX1Z k1 q19 q13 q29 q23 s1 s2 s3 s4 s0 sg sz hv3 g3 gA3 bA3 gZ qZ9 qZ3 GX3Z
    have HLN : Hid (x.fs.length ≤ 100000 ∧ x.ns.length ≤ 100000 ∧ x.nds.length ≤ 100000 ∧ x.sls.length ≤ 100000) := by
      have h := HX.out
      have := h.l1; have := h.l2; have := h.l3; have := h.l4
      exact ⟨by omega, by omega, by omega, by omega⟩
    go_wp2_with (first
      | (go_at_call 27; refine HF1.out.mono ?_; rintro e u1 ⟨rfl, k1⟩; have K1 : Hid (Keeps Z u1 (fun z => W2.heap.size ≤ z ∧ z < X2.heap.size)) := k1.mono fun _ _ h => h.elim; have G1 := hidM k1; have HF2 := hidM (same_fault e0 a0 u1); clear k1 HF1 fa0 fa1 fa2 fb0 fb1 fb2; obtain ⟨fa0, fa1, fa2⟩ := ce3 (HKZ.out u1 K1.out).2.2.2.2.2.2.2.2.2.1; obtain ⟨fb0, fb1, fb2⟩ := ce3 (HKZ.out u1 K1.out).2.2.2.2.2.1)
      | (go_at_call 27; refine HF2.out.mono ?_; rintro e u2 ⟨rfl, k2⟩; have G2 := hidM (G1.out.tr k2); have K2 : Hid (Keeps Z u2 (fun z => W2.heap.size ≤ z ∧ z < X2.heap.size)) := G2.out.mono fun _ _ h => h.elim; have HH1 := hidM (heads_same HX.out (HKZ.out u2 K2.out).2.1 (HV2Z.out u2 G2.out) (HKZ.out u2 K2.out).2.2.1); clear k2 HF2 fa0 fa1 fa2 fb0 fb1 fb2; obtain ⟨ha0, ha1, ha2, ha3, ha4, ha5, ha6, ha7, ha8⟩ := ce9 (HKZ.out u2 K2.out).2.2.2.2.2.2.1; obtain ⟨hb0, hb1, hb2, hb3, hb4, hb5, hb6, hb7, hb8⟩ := ce9 (HKZ.out u2 K2.out).2.2.2.2.1)
      | (go_at_call 23; refine HH1.out.mono ?_; rintro e u3 ⟨rfl, k3⟩; have G3 := hidM (G2.out.tr k3); have K3 : Hid (Keeps Z u3 (fun z => W2.heap.size ≤ z ∧ z < X2.heap.size)) := G3.out.mono fun _ _ h => h.elim; have HS3 := hidM (spoil28 HV2.out (HZG.out.2.1.tr G3.out) HLN.out.1 HLN.out.2.1 HLN.out.2.2.1 HLN.out.2.2.2); clear k3 HH1 ha0 ha1 ha2 ha3 ha4 ha5 ha6 ha7 ha8 hb0 hb1 hb2 hb3 hb4 hb5 hb6 hb7 hb8; obtain ⟨ha0, ha1, ha2, ha3, ha4, ha5, ha6, ha7, ha8⟩ := ce9 (HKZ.out u3 K3.out).2.2.2.2.2.2.1)
      | (go_at_call 28; refine HS3.out.mono ?_; rintro e u4 ⟨rfl, k4⟩; have K4 : Hid (Keeps Z u4 (fun z => W2.heap.size ≤ z ∧ z < X2.heap.size)) := K3.out.tr k4; have HH2 := hidM (heads_same HX.out (HKZ.out u4 K4.out).2.1 (HKZ.out u4 K4.out).2.2.2.1 (HKZ.out u4 K4.out).2.2.1); clear k4 HS3 ha0 ha1 ha2 ha3 ha4 ha5 ha6 ha7 ha8; obtain ⟨ha0, ha1, ha2, ha3, ha4, ha5, ha6, ha7, ha8⟩ := ce9 (HKZ.out u4 K4.out).2.2.2.2.2.2.2.2.1; obtain ⟨hb0, hb1, hb2, hb3, hb4, hb5, hb6, hb7, hb8⟩ := ce9 (HKZ.out u4 K4.out).2.2.2.2.1)
      | (go_at_call 23; refine HH2.out.mono ?_; rintro e u5 ⟨rfl, k5⟩; have K5 : Hid (Keeps Z u5 (fun z => W2.heap.size ≤ z ∧ z < X2.heap.size)) := K4.out.tr (k5.mono fun _ _ h => h.elim); clear k5 HH2 ha0 ha1 ha2 ha3 ha4 ha5 ha6 ha7 ha8 hb0 hb1 hb2 hb3 hb4 hb5 hb6 hb7 hb8))
    have HAB : Hid (∀ u, Keeps Z u (fun z => W2.heap.size ≤ z ∧ z < X2.heap.size) → (∀ i (h : i < B.length), u.cell? ⟨g, i, none⟩ = some (.int .u8 (B[i].toNat : Int))) ∧ ∀ i : Nat, i < 9 → u.cell? ⟨g, n + i, none⟩ = some (.int .u8 (160 + (i : Int)))) := fun u k => by
      have hgu := (HKZ.out u k).2.2.2.2.2.2.2.2.2.2
      have hlen2 : (B ++ marksB 9).length = n + 9 := by rw [List.length_append, HN.out]; rfl
      have hc : ∀ i (h : i < (B ++ marksB 9).length), u.cell? ⟨g, i, none⟩ = some (.int .u8 ((B ++ marksB 9)[i].toNat : Int)) := fun i h => (World.cell?_of_block (w := W2) (hgu.trans HGB.out.1.symm)).trans (HCELL.out i h)
      refine ⟨fun i h => ?_, fun i h => ?_⟩
      · rw [hc i (by have := HN.out; omega), List.getElem_append_left h]
      rw [hc (n + i) (by omega), List.getElem_append_right (by have := HN.out; omega)]
      simp only [HN.out, Nat.add_sub_cancel_left, marksB_get]
      rw [UInt8.toNat_ofNat']
      congr 2
      omega
    go_loopw [12] (fun p wr => ∃ k : Nat, k ≤ n ∧ p = .int .i64 (k : Int) ∧ Hid (Keeps Z wr (fun z => W2.heap.size ≤ z ∧ z < X2.heap.size))) (fun p _ => n - (intOf p).toNat)
    case atStart => exact ⟨0, Nat.zero_le _, rfl, K5.out⟩
    case round =>
      clear K5
      obtain ⟨k, hk, rfl, HK⟩ := hrel
      by_cases hlt : k < n
      · have hkl : k < B.length := by have := HN.out; omega
        have hne : B ≠ [] := fun e => by rw [e] at hkl; simp at hkl
        obtain ⟨b', o', eb, h1⟩ := HB.out.gr (HKZ.out wr HK.out).1 hne
        have c1 := (HAB.out wr HK.out).1 k hkl
        have c2 := h1 k hkl
        obtain ⟨z, hz⟩ : ∃ z : Int, z = (B[k].toNat : Int) := ⟨_, rfl⟩
        rw [← hz] at c1 c2
        subst eb
        clear hz h1 hne hkl
        have hltI : (k : Int) < (n : Int) := by omega
        have hltJ : (k : Int) < (n : Int) + 9 := by omega
        go_wp2_with fail
        go_quiet (fail)
        go_wp2_with fail
        go_roundw
        case rel => exact ⟨k + 1, by omega, by simp, HK.out.drewN _⟩
        case measure => simp [intOf]; omega
      have hkn : k = n := by omega
      subst hkn
      go_wp2_with fail
      go_loopw [13] (fun p wr => ∃ i : Nat, i ≤ 9 ∧ p = .int .i64 (i : Int) ∧ Hid (Keeps Z wr (fun z => W2.heap.size ≤ z ∧ z < X2.heap.size))) (fun p _ => 9 - (intOf p).toNat)
      case atStart => exact ⟨0, by omega, rfl, HK.out⟩
      case round =>
        clear HK hk hlt
        obtain ⟨i, hi, rfl, HK⟩ := hrel
        by_cases hlt : i < 9
        · have hltI : (i : Int) < 9 := by omega
          have hltJ : (k : Int) + (i : Int) < (k : Int) + 9 := by omega
          have c1 := (HAB.out wr HK.out).2 i hlt
          go_wp2_with fail
          go_roundw
          case rel => exact ⟨i + 1, by omega, by simp, HK.out⟩
          case measure => simp [intOf]; omega
        have hi9 : i = 9 := by omega
        subst hi9
        by_cases hn0 : k = 0
        · have hk0 : (k : Int) = 0 := by omega
          go_wp2_with fail
          go_ret
          exact ⟨rfl, (HKZ.out wr HK.out).1⟩
        have hk0 : ((k : Int) == 0) = false := by rw [beq_eq_false_iff_ne]; omega
        have hkl : k / 2 < B.length := by have := HN.out; omega
        have hc1 := (HAB.out wr HK.out).1 (k / 2) hkl
        obtain ⟨zb, hzb⟩ : ∃ zb : UInt8, zb = B[k / 2] := ⟨_, rfl⟩
        rw [← hzb] at hc1
        have hgu := (HKZ.out wr HK.out).2.2.2.2.2.2.2.2.2.2
        have zz := frz hgu (k / 2)
        clear hzb hgu hkl
        obtain ⟨E, hE⟩ : ∃ E : Int, E = ((zb ^^^ 1).toNat : Int) := ⟨_, rfl⟩
        have hx : bits .xor .u8 (zb.toNat : Int) 1 = E := by
          have h1 := zb.toNat_lt
          rw [hE, show (1 : Int) = ((1 : Nat) : Int) from rfl, Go.u8_xor_nat _ _ (by omega) (by omega), UInt8.toNat_xor]
          rfl
        obtain ⟨P, hP⟩ := ex (wr.setCell ⟨g, k / 2, none⟩ (.int .u8 E))
        obtain ⟨B', hB'⟩ : ∃ B', B' = B.set (k / 2) (zb ^^^ 1) := ⟨_, rfl⟩
        have hs := HSZ.out
        have hgn := HGB.out.2.1
        have sV := HGX.out.2.size
        have hoth : ∀ z, z ≠ g → P.heap[z]? = wr.heap[z]? := fun z hz => by rw [← hP]; exact heap_setCell_other _ _ _ _ hz
        have hPs : wr.heap.size = P.heap.size := by rw [← hP]; simp [World.setCell]
        have hlB : k = B'.length := by rw [hB', List.length_set]; exact HN.out
        have hgu := (HKZ.out wr HK.out).2.2.2.2.2.2.2.2.2.2
        have hbP : P.heap[g]? = some (.cells (cur.setIfInBounds (k / 2) (.int .u8 E)) 5 (0, 0)) := by rw [← hP]; exact heap_setCell_same wr g _ _ _ _ hgu
        have hbyP : BytesAt P (some ⟨g, 0, none⟩) B' := fun hne => ⟨g, 0, rfl, fun i hi => by
          have hiB : i < B.length := by rw [hB', List.length_set] at hi; exact hi
          have hcz : i < cur.size := by have := HGB.out.2.2.1; have := HGB.out.2.2.2.2; have := HN.out; omega
          rw [Nat.zero_add, cell_of hbP]
          subst hB'
          rw [List.getElem_set]
          by_cases e : k / 2 = i
          · rw [if_pos e, ← hE, ← e, Array.getElem?_setIfInBounds_self_of_lt (by omega)]
          rw [if_neg e, Array.getElem?_setIfInBounds_ne e, ← cell_of hgu]
          exact (HAB.out wr HK.out).1 i hiB⟩
        have kPg : Keeps wr P (fun z => z = g) := by rw [← hP]; exact Keeps.setCell (S := fun z => z = g) (p := ⟨g, k / 2, none⟩) (Keeps.refl wr _) (fun _ => rfl) _
        have gwP : Gr w P := (HKZ.out wr HK.out).1.trans kPg fun j hj e => by have := HGX.out.1.size; omega
        have hX1 : ∀ z, z < V1.heap.size → P.heap[z]? = Z.heap[z]? := fun z hz => (hoth z (by omega)).trans (HK.out.block z (by omega) (by omega))
        have hX3 : ∀ z, V2.heap.size ≤ z → z < Z.heap.size → P.heap[z]? = Z.heap[z]? := fun z z1 z2 => (hoth z (by omega)).trans (HK.out.block z z2 (by omega))
        have szP := HK.out.size
        have HKP : Hid (∀ u, Gr P u → Gr w u ∧ Tab u ∧ HV9 w u x (.agg #[.int .i64 (x.kind : Int), .slice fo1 x.fs.length fc1, .slice no1 x.ns.length nc1, .int .i64 (x.id : Int), .bool x.delta, .int .i64 (x.rows : Int), .int .i64 (x.press : Int), .slice vo1 x.nds.length vc1, .slice uo1 x.sls.length uc1]) ∧ HV9 V2 u x (.agg #[.int .i64 (x.kind : Int), .slice fo3 x.fs.length fc3, .slice no3 x.ns.length nc3, .int .i64 (x.id : Int), .bool x.delta, .int .i64 (x.rows : Int), .int .i64 (x.press : Int), .slice vo3 x.nds.length vc3, .slice uo3 x.sls.length uc3]) ∧ u.heap[X1.heap.size]? = some (.cells #[.int .i64 (x.kind : Int), .slice fo1 x.fs.length fc1, .slice no1 x.ns.length nc1, .int .i64 (x.id : Int), .bool x.delta, .int .i64 (x.rows : Int), .int .i64 (x.press : Int), .slice vo1 x.nds.length vc1, .slice uo1 x.sls.length uc1] 29 (0, 0)) ∧ u.heap[X3.heap.size]? = some (.cells #[.int .i64 (x.kind : Int), .slice fo3 x.fs.length fc3, .slice no3 x.ns.length nc3, .int .i64 (x.id : Int), .bool x.delta, .int .i64 (x.rows : Int), .int .i64 (x.press : Int), .slice vo3 x.nds.length vc3, .slice uo3 x.sls.length uc3] 29 (0, 0))) := fun u gu => by
          have hgw := gwP.tr gu
          have hz := HZ.out
          have l1 := lt_of_heap hz.1
          have lx1 := lt_of_heap HQ1.out.1
          have l3 := lt_of_heap hz.2.2.2.2.1
          exact ⟨hgw, HT.out.gr hgw, (HV1.out.at_ (fun z z1 z2 => (hX1 z (by omega)).trans (HZG.out.2.2.block z z2 id)) (by omega)).gr gu, (HV3.out.at_ (fun z z1 z2 => (hX3 z z1 (by have := HX3Z.out.2.size; omega)).trans (HX3Z.out.2.block z z2 id)) (by have := HX3Z.out.2.size; omega)).gr gu, (gu.block X1.heap.size (by omega) id).trans ((hX1 X1.heap.size (by omega)).trans hz.1), (gu.block X3.heap.size (by omega) id).trans ((hX3 X3.heap.size (by omega) l3).trans hz.2.2.2.2.1)⟩
        obtain ⟨R', hR'⟩ : ∃ R, R = getR Yh B' := ⟨_, rfl⟩
        have hx' : HRd (hdR R') := by rw [hR']; exact hdR_rd B'
        obtain ⟨x', hxe'⟩ : ∃ x, x = hdR R' := ⟨_, rfl⟩
        obtain ⟨e1, he1⟩ : ∃ e, e = feR R' := ⟨_, rfl⟩
        obtain ⟨a1, ha1⟩ : ∃ a, a = faR R' := ⟨_, rfl⟩
        rw [← hxe'] at hx'
        have hgP : g < P.heap.size := lt_of_heap hbP
        have hk2 : B'.length ≤ ca ∧ ca ≤ 9223372036854775807 := ⟨by have := HGB.out.2.2.1; omega, by have := HGB.out.2.2.2.1; unfold maxLen at this; omega⟩
        have HD25 : Hid (Calls Tryz.prog 25 #[.slice (some ⟨g, 0, none⟩) k ca] P fun e w' => ∃ fo4 fc4 no4 nc4 vo4 vc4 uo4 uc4, e = .returned (.tuple #[.agg #[.int .i64 (x'.kind : Int), .slice fo4 x'.fs.length fc4, .slice no4 x'.ns.length nc4, .int .i64 (x'.id : Int), .bool x'.delta, .int .i64 (x'.rows : Int), .int .i64 (x'.press : Int), .slice vo4 x'.nds.length vc4, .slice uo4 x'.sls.length uc4], .agg #[.int .i64 e1, .slice none 0 0, .int .i64 a1]]) ∧ Gr P w' ∧ HV9 P w' x' (.agg #[.int .i64 (x'.kind : Int), .slice fo4 x'.fs.length fc4, .slice no4 x'.ns.length nc4, .int .i64 (x'.id : Int), .bool x'.delta, .int .i64 (x'.rows : Int), .int .i64 (x'.press : Int), .slice vo4 x'.nds.length vc4, .slice uo4 x'.sls.length uc4])) := by
          rw [hlB, hxe', he1, ha1, hR']
          exact (get7 (HT.out.gr gwP) hbyP ⟨hk2.1, hk2.2, .inr ⟨_, _, rfl⟩⟩ (by omega) (fun b o e => by cases e; exact hgP)).mono fun e w' h => get_form h
        have HD26 : Hid (∀ u, Gr P u → Calls Tryz.prog 26 #[.slice (some ⟨g, 0, none⟩) k ca] u fun e w' => ∃ fo5 fc5 no5 nc5 vo5 vc5 uo5 uc5, e = .returned (.tuple #[.agg #[.int .i64 (x'.kind : Int), .slice fo5 x'.fs.length fc5, .slice no5 x'.ns.length nc5, .int .i64 (x'.id : Int), .bool x'.delta, .int .i64 (x'.rows : Int), .int .i64 (x'.press : Int), .slice vo5 x'.nds.length vc5, .slice uo5 x'.sls.length uc5], .agg #[.int .i64 e1, .slice none 0 0, .int .i64 a1]]) ∧ Gr u w' ∧ HV9 u w' x' (.agg #[.int .i64 (x'.kind : Int), .slice fo5 x'.fs.length fc5, .slice no5 x'.ns.length nc5, .int .i64 (x'.id : Int), .bool x'.delta, .int .i64 (x'.rows : Int), .int .i64 (x'.press : Int), .slice vo5 x'.nds.length vc5, .slice uo5 x'.sls.length uc5])) := fun u gu => by
          rw [hlB, hxe', he1, ha1, hR']
          exact (get_any (HT.out.gr (gwP.tr gu)) (hbyP.gr gu) ⟨hk2.1, hk2.2, .inr ⟨_, _, rfl⟩⟩ (by omega) (fun b o e => by cases e; exact Nat.lt_of_lt_of_le hgP gu.size)).mono fun e w' h => get_form h
        have HX' := hidM hx'
        clear hE hB' hs hgn sV hoth hPs hlB hgu hbP hbyP kPg gwP hX1 hX3 szP hx' hxe' he1 ha1 hR' hgP hk2
        go_wp2_with (go_at_call 25; refine HD25.out.mono ?_)
        rintro e X4 ⟨fo4, fc4, no4, nc4, vo4, vc4, uo4, uc4, rfl, g4, hv4⟩
        obtain ⟨A4, hA4⟩ := ex (X4.alloc (.cells #[.int .i64 (x'.kind : Int), .slice fo4 x'.fs.length fc4, .slice no4 x'.ns.length nc4, .int .i64 (x'.id : Int), .bool x'.delta, .int .i64 (x'.rows : Int), .int .i64 (x'.press : Int), .slice vo4 x'.nds.length vc4, .slice uo4 x'.sls.length uc4] 29))
        have gA4 : Gr X4 A4 := by rw [← hA4]; exact gr_alloc _ _
        have bA4 : A4.heap[X4.heap.size]? = some (.cells #[.int .i64 (x'.kind : Int), .slice fo4 x'.fs.length fc4, .slice no4 x'.ns.length nc4, .int .i64 (x'.id : Int), .bool x'.delta, .int .i64 (x'.rows : Int), .int .i64 (x'.press : Int), .slice vo4 x'.nds.length vc4, .slice uo4 x'.sls.length uc4] 29 (0, 0)) := by rw [← hA4]; exact heap_alloc_new _ _
        have sA4 : A4.heap.size = X4.heap.size + 1 := by rw [← hA4]; simp
        obtain ⟨V4, hV4⟩ := ex (A4.alloc (.cells #[.int .i64 e1, .slice none 0 0, .int .i64 a1] 67))
        have gV4 : Gr A4 V4 := by rw [← hV4]; exact gr_alloc _ _
        have qV43 : V4.heap[X4.heap.size + 1]? = some (.cells #[.int .i64 e1, .slice none 0 0, .int .i64 a1] 67 (0, 0)) := by rw [← hV4, ← sA4]; exact heap_alloc_new _ _
        have qV49 : V4.heap[X4.heap.size]? = some (.cells #[.int .i64 (x'.kind : Int), .slice fo4 x'.fs.length fc4, .slice no4 x'.ns.length nc4, .int .i64 (x'.id : Int), .bool x'.delta, .int .i64 (x'.rows : Int), .int .i64 (x'.press : Int), .slice vo4 x'.nds.length vc4, .slice uo4 x'.sls.length uc4] 29 (0, 0)) := (gV4.block _ (lt_of_heap bA4) id).trans bA4
        have GX4V4 : Gr X4 V4 := gA4.tr gV4
        have HQ4 := hidM (And.intro qV49 qV43)
        have HV4 := hidM (hv4.gr GX4V4)
        have HG4 := hidM (g4.tr GX4V4)
        have HDz := hidM (HD26.out V4 HG4.out)
        clear g4 hv4 gA4 bA4 gV4 qV49 qV43 GX4V4 HD25
        go_wp2_with (go_at_call 26; refine HDz.out.mono ?_)
        rintro e X5 ⟨fo5, fc5, no5, nc5, vo5, vc5, uo5, uc5, rfl, g5, hv5⟩
        obtain ⟨A5, hA5⟩ := ex (X5.alloc (.cells #[.int .i64 (x'.kind : Int), .slice fo5 x'.fs.length fc5, .slice no5 x'.ns.length nc5, .int .i64 (x'.id : Int), .bool x'.delta, .int .i64 (x'.rows : Int), .int .i64 (x'.press : Int), .slice vo5 x'.nds.length vc5, .slice uo5 x'.sls.length uc5] 29))
        have gA5 : Gr X5 A5 := by rw [← hA5]; exact gr_alloc _ _
        have bA5 : A5.heap[X5.heap.size]? = some (.cells #[.int .i64 (x'.kind : Int), .slice fo5 x'.fs.length fc5, .slice no5 x'.ns.length nc5, .int .i64 (x'.id : Int), .bool x'.delta, .int .i64 (x'.rows : Int), .int .i64 (x'.press : Int), .slice vo5 x'.nds.length vc5, .slice uo5 x'.sls.length uc5] 29 (0, 0)) := by rw [← hA5]; exact heap_alloc_new _ _
        have sA5 : A5.heap.size = X5.heap.size + 1 := by rw [← hA5]; simp
        obtain ⟨Y5, hY5⟩ := ex (A5.alloc (.cells #[.int .i64 e1, .slice none 0 0, .int .i64 a1] 67))
        have gY5 : Gr A5 Y5 := by rw [← hY5]; exact gr_alloc _ _
        have qY53 : Y5.heap[X5.heap.size + 1]? = some (.cells #[.int .i64 e1, .slice none 0 0, .int .i64 a1] 67 (0, 0)) := by rw [← hY5, ← sA5]; exact heap_alloc_new _ _
        have qY59 : Y5.heap[X5.heap.size]? = some (.cells #[.int .i64 (x'.kind : Int), .slice fo5 x'.fs.length fc5, .slice no5 x'.ns.length nc5, .int .i64 (x'.id : Int), .bool x'.delta, .int .i64 (x'.rows : Int), .int .i64 (x'.press : Int), .slice vo5 x'.nds.length vc5, .slice uo5 x'.sls.length uc5] 29 (0, 0)) := (gY5.block _ (lt_of_heap bA5) id).trans bA5
        have GX5Y5 : Gr X5 Y5 := gA5.tr gY5
        have g45 : Gr V4 Y5 := g5.tr GX5Y5
        have HGP := hidM (HG4.out.tr g45)
        have q49 := (g45.block _ (lt_of_heap HQ4.out.1) id).trans HQ4.out.1
        have q43 := (g45.block _ (lt_of_heap HQ4.out.2) id).trans HQ4.out.2
        have HY := hidM (And.intro q49 (And.intro q43 (And.intro qY59 qY53)))
        have HVV := hidM (And.intro (HV4.out.gr g45) (hv5.gr GX5Y5))
        have HFe := hidM (same_fault e1 a1 Y5)
        obtain ⟨fa0, fa1, fa2⟩ := ce3 qY53
        obtain ⟨fb0, fb1, fb2⟩ := ce3 q43
        clear g45 q49 q43 gA5 bA5 gY5 qY59 qY53 GX5Y5 g5 hv5 HDz
        go_wp2_with (first
          | (go_at_call 27; refine HFe.out.mono ?_; rintro e y1 ⟨rfl, k1⟩; have K1 := hidM k1; have HHa := hidM (heads_same HX'.out (HKP.out y1 (HGP.out.tr k1)).2.1 (HVV.out.2.gr k1) (HVV.out.1.gr k1)); clear HFe fa0 fa1 fa2 fb0 fb1 fb2; obtain ⟨ha0, ha1, ha2, ha3, ha4, ha5, ha6, ha7, ha8⟩ := ce9 ((k1.block _ (lt_of_heap HY.out.2.2.1) id).trans HY.out.2.2.1); obtain ⟨hb0, hb1, hb2, hb3, hb4, hb5, hb6, hb7, hb8⟩ := ce9 ((k1.block _ (lt_of_heap HY.out.1) id).trans HY.out.1); clear k1)
          | (go_at_call 23; refine HHa.out.mono ?_; rintro e y2 ⟨rfl, k2⟩; have K2 := hidM ((HGP.out.tr K1.out).tr k2); have HHb := hidM (heads_same HX.out (HKP.out y2 K2.out).2.1 (HKP.out y2 K2.out).2.2.2.1 (HKP.out y2 K2.out).2.2.1); clear k2 HHa ha0 ha1 ha2 ha3 ha4 ha5 ha6 ha7 ha8 hb0 hb1 hb2 hb3 hb4 hb5 hb6 hb7 hb8; obtain ⟨ha0, ha1, ha2, ha3, ha4, ha5, ha6, ha7, ha8⟩ := ce9 (HKP.out y2 K2.out).2.2.2.2.2; obtain ⟨hb0, hb1, hb2, hb3, hb4, hb5, hb6, hb7, hb8⟩ := ce9 (HKP.out y2 K2.out).2.2.2.2.1)
          | (go_at_call 23; refine HHb.out.mono ?_; rintro e y3 ⟨rfl, k3⟩; have K3 := hidM ((HKP.out y2 K2.out).1.tr k3); clear k3 HHb ha0 ha1 ha2 ha3 ha4 ha5 ha6 ha7 ha8 hb0 hb1 hb2 hb3 hb4 hb5 hb6 hb7 hb8))
        go_ret
        exact ⟨rfl, K3.out⟩
end Go.Proofs.YtdihbfjjddmbiaaGreatDoor.Kit
