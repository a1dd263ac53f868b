import Derived.Test.YtknjnclopiklaabKB
import Derived.Laws.BitsAllLaws
namespace Go.Proofs.Ytknjnclopiklaab.Kit
open Go.RowKit Go.Shelf Go.Deep
set_option linter.unusedVariables false
attribute [local go_sem] run_store_func

theorem own_set {W : World} {vo : Option Addr} {n vc k : Nat} {bs : List UInt8} (h : W.ownsRow 0 5 1 (.slice vo n vc) n (bv bs)) (hk : k < n) :
    ∃ X, vo = some ⟨X, 0, none⟩ ∧ W.cell? ⟨X, k, none⟩ = some (.int .u8 ((bs.getD k 0).toNat : Int)) ∧ W.frozen? ⟨X, k, none⟩ = false ∧ ∀ v : UInt8, (W.setCell ⟨X, k, none⟩ (.int .u8 (v.toNat : Int))).ownsRow 0 5 1 (.slice vo n vc) n (bv (bs.set k v)) := by
  obtain ⟨X, e, hb⟩ := BRow.of_own h (by omega)
  refine ⟨X, e, hb.cell hk, hb.frz k, fun v => ?_⟩
  rcases h.2 with ⟨q, -⟩ | ⟨g, cap, cur, q, h1, h2, h3, h4, h5, h6⟩
  · rw [e] at q; cases q
  · rw [e] at q
    cases q
    refine ⟨by have := h.1; simpa [bv] using this, .inr ⟨X, vc, _, by rw [e], h1, heap_setCell_same W X k cur 5 _ h2, h3, h4, by simp [h5], ?_⟩⟩
    rw [Array.toList_setIfInBounds, List.take_set, h6]
    unfold bv
    rw [List.map_set]
theorem Ap.set {w W W' : World} {vo : Option Addr} {vc n k : Nat} {bs : List UInt8} (h : Ap w W W' vo vc n vo vc n bs) (hk : k < n) :
    ∃ X, vo = some ⟨X, 0, none⟩ ∧ W'.cell? ⟨X, k, none⟩ = some (.int .u8 ((bs.getD k 0).toNat : Int)) ∧ W'.frozen? ⟨X, k, none⟩ = false ∧ ∀ v : UInt8, Ap w W (W'.setCell ⟨X, k, none⟩ (.int .u8 (v.toNat : Int))) vo vc n vo vc n (bs.set k v) := by
  obtain ⟨X, e, h1, h2, h3⟩ := own_set h.b.own hk
  have hX : (Value.slice vo n vc).ownBlock = some X := by rw [e]; rfl
  exact ⟨X, e, h1, h2, fun v => ⟨⟨h3 v, keeps_set h.b.gr (h.b.new X hX), h.b.new⟩, h.kp.setCell (p := ⟨X, k, none⟩) (fun _ => hX) _, .inl rfl⟩⟩
theorem own_ap {W W' : World} {v u : Value} {n : Nat} {xs : List Value} (o : W.ownsRow 0 5 1 v n xs) (k : Keeps W W' (fun g => u.ownBlock = some g)) (hne : ∀ g, v.ownBlock = some g → ¬ u.ownBlock = some g) : W'.ownsRow 0 5 1 v n xs :=
  own_kp o fun b e => k.block b (own_lt o b e) (hne b e)
theorem own_gr {W W' : World} {v : Value} {n : Nat} {xs : List Value} (o : W.ownsRow 0 5 1 v n xs) (g : Gr W W') : W'.ownsRow 0 5 1 v n xs := own_kp o fun b e => g.block b (own_lt o b e) id
theorem packR_len (how : Int) (bs : List UInt8) : (packR how bs).length ≤ 100000 := by
  unfold packR
  split
  · rename_i h
    unfold packE at h
    split at h
    · simp at h
    split at h
    · simp at h
    · rename_i h1 h2
      have := packH_len (how := how) (bs := bs) (by simpa using h1)
      omega
  · simp
theorem packE_back {how : Int} {bs : List UInt8} (h : packE how bs = 0) : bs.length ≤ 65536 ∧ unpackE how (packR how bs) (bs.length : Int) = (0, bs) := by
  have hh : howB how = true ∧ bs.length ≤ 65536 := by
    unfold packE at h
    split at h
    · simp at h
    split at h
    · simp at h
    · rename_i h1 h2
      exact ⟨by simpa using h1, by omega⟩
  rw [(packE_ok hh.1 hh.2).2]
  exact ⟨hh.2, unpack_back hh.1 hh.2⟩
theorem xor55 (b : UInt8) : bits .xor .u8 (b.toNat : Int) 85 = ((b ^^^ 85).toNat : Int) := by
  have := Go.u8_xor_nat b.toNat 85 b.toNat_lt (by omega)
  rw [UInt8.toNat_xor]
  exact this
def nine : List UInt8 := [1, 2, 3, 4, 5, 6, 7, 8, 9]
theorem nine_bv : bv nine = [.int .u8 1, .int .u8 2, .int .u8 3, .int .u8 4, .int .u8 5, .int .u8 6, .int .u8 7, .int .u8 8, .int .u8 9] := rfl
set_option maxRecDepth 100000 in
set_option maxHeartbeats 16000000 in
theorem keeps_any {bo oo : Option Addr} {bc oc : Nat} {bs os : List UInt8} {w : World} (how raw : Int) (h : BytesAt w bo bs) (hca : bs.length ≤ bc) (hl : bs.length ≤ 140737488351232) (h2 : BytesAt w oo os) (hca2 : os.length ≤ oc) (hl2 : os.length ≤ 140737488351232) :
    Calls Try.prog 4 #[.agg #[.int .i64 how, .slice bo bs.length bc, .int .i64 raw], .slice oo os.length oc] w fun e w' => e = .returned (.bool true) ∧ Gr w w' := by
  obtain ⟨L, hL⟩ : ∃ L, L = bs.length := ⟨_, rfl⟩
  obtain ⟨O, hO⟩ : ∃ O, O = os.length := ⟨_, rfl⟩
  have HL := hidM hL
  have HB := hidM h
  have HOt := hidM h2
  obtain ⟨p, hp⟩ : ∃ p, p = packR how bs := ⟨_, rfl⟩
  obtain ⟨P, hP⟩ : ∃ P, P = p.length := ⟨_, rfl⟩
  obtain ⟨q, hq⟩ : ∃ q, q = packE how bs := ⟨_, rfl⟩
  obtain ⟨p2, hp2⟩ : ∃ p, p = packR how os := ⟨_, rfl⟩
  obtain ⟨P2, hP2⟩ : ∃ P, P = p2.length := ⟨_, rfl⟩
  obtain ⟨q2, hq2⟩ : ∃ q, q = packE how os := ⟨_, rfl⟩
  have hPb : P ≤ 100000 := by rw [hP, hp]; exact packR_len how bs
  have HPk : Hid (∀ V vo vc, BytesAt V vo bs → L ≤ vc → Calls Try.prog 6 #[.int .i64 how, .slice vo L vc] V fun e w' => ∃ ao ac, e = .returned (.tuple #[.slice ao P ac, .int .i64 q]) ∧ Byts V w' ao ac P p) := fun V vo vc hb hc => by
    rw [hL] at hc ⊢
    refine (pack_any how hb hc (by omega)).mono ?_
    rintro e w' ⟨ao, ac, n, rfl, hb⟩
    rw [← hp] at hb
    have hn : n = P := by rw [hP]; exact hb.len.symm
    subst hn
    exact ⟨ao, ac, by rw [hq], hb⟩
  have HPd : Hid (∀ V vo vc, BytesAt V vo bs → L ≤ vc → Calls Try.prog 8 #[.int .i64 how, .slice vo L vc] V fun e w' => ∃ ao ac, e = .returned (.tuple #[.slice ao P ac, .int .i64 q]) ∧ Byts V w' ao ac P p) := fun V vo vc hb hc => by
    rw [hL] at hc ⊢
    refine (packDoc_any how hb hc (by omega)).mono ?_
    rintro e w' ⟨ao, ac, n, rfl, hb⟩
    rw [← hp] at hb
    have hn : n = P := by rw [hP]; exact hb.len.symm
    subst hn
    exact ⟨ao, ac, by rw [hq], hb⟩
  have HPo : Hid (∀ V, Gr w V → Calls Try.prog 6 #[.int .i64 how, .slice oo O oc] V fun e w' => ∃ ao ac, e = .returned (.tuple #[.slice ao P2 ac, .int .i64 q2]) ∧ Byts V w' ao ac P2 p2) := fun V g => by
    rw [hO]
    refine (pack_any how (h2.gr g) hca2 (by omega)).mono ?_
    rintro e w' ⟨ao, ac, n, rfl, hb⟩
    rw [← hp2] at hb
    have hn : n = P2 := by rw [hP2]; exact hb.len.symm
    subst hn
    exact ⟨ao, ac, by rw [hq2], hb⟩
  have HPe : Hid (∀ V, Gr w V → Calls Try.prog 8 #[.int .i64 how, .slice oo O oc] V fun e w' => ∃ ao ac, e = .returned (.tuple #[.slice ao P2 ac, .int .i64 q2]) ∧ Byts V w' ao ac P2 p2) := fun V g => by
    rw [hO]
    refine (packDoc_any how (h2.gr g) hca2 (by omega)).mono ?_
    rintro e w' ⟨ao, ac, n, rfl, hb⟩
    rw [← hp2] at hb
    have hn : n = P2 := by rw [hP2]; exact hb.len.symm
    subst hn
    exact ⟨ao, ac, by rw [hq2], hb⟩
  obtain ⟨Sp, hSp⟩ : ∃ S : ByteArray, S = ⟨p.toArray⟩ := ⟨_, rfl⟩
  obtain ⟨So, hSo⟩ : ∃ S : ByteArray, S = ⟨p2.toArray⟩ := ⟨_, rfl⟩
  obtain ⟨Sb, hSb⟩ : ∃ S : ByteArray, S = ⟨bs.toArray⟩ := ⟨_, rfl⟩
  obtain ⟨Sf, hSf⟩ : ∃ S : ByteArray, S = ⟨(bs ++ nine).toArray⟩ := ⟨_, rfl⟩
  have HSp : Hid (∀ V vo vc, BytesAt V vo p → (convert 22 9 (.slice vo P vc)).run Try.prog V = .ok (.string Sp) V) := fun V vo vc hb => by rw [hP, hSp]; exact bytes_string hb
  have HSo : Hid (∀ V vo vc, BytesAt V vo p2 → (convert 22 9 (.slice vo P2 vc)).run Try.prog V = .ok (.string So) V) := fun V vo vc hb => by rw [hP2, hSo]; exact bytes_string hb
  have HSb : Hid (∀ V vo vc, BytesAt V vo bs → (convert 22 9 (.slice vo L vc)).run Try.prog V = .ok (.string Sb) V) := fun V vo vc hb => by rw [hL, hSb]; exact bytes_string hb
  have HSf : Hid (∀ V vo vc, BytesAt V vo (bs ++ nine) → (convert 22 9 (.slice vo (L + 9) vc)).run Try.prog V = .ok (.string Sf) V) := fun V vo vc hb => by
    rw [hL, hSf, show bs.length + 9 = (bs ++ nine).length by simp [nine]]; exact bytes_string hb
  have HBk : Hid (q = 0 → L ≤ 65536 ∧ (∀ V vo vc, BytesAt V vo p → P ≤ vc → Calls Try.prog 7 #[.int .i64 how, .slice vo P vc, .int .i64 (L : Int)] V fun e w' => ∃ ao ac, e = .returned (.tuple #[.slice ao L ac, .int .i64 0]) ∧ Byts V w' ao ac L bs) ∧ (∀ V vo vc, BytesAt V vo bs → L ≤ vc → Calls Try.prog 9 #[.int .i64 how, .string Sp, .slice vo L vc] V fun e w' => e = .returned (.bool true) ∧ Gr V w')) := fun h0 => by
    rw [hq] at h0
    obtain ⟨b1, b2⟩ := packE_back h0
    rw [← hp] at b2
    refine ⟨by omega, fun V vo vc hb hc => ?_, fun V vo vc hb hc => ?_⟩
    · rw [hP] at hc ⊢
      refine (unpack_any how (L : Int) hb hc (by omega)).mono ?_
      rw [hL, b2]
      rintro e w' ⟨ao, ac, n, rfl, hb⟩
      have := hb.len
      subst this
      exact ⟨ao, ac, rfl, hb⟩
    · rw [hL] at hc ⊢
      rw [hSp]
      exact turns_any how hb hc b1 h0 hp.symm (by omega) b2
  have HUz : Hid (∀ V vo vc p', BytesAt V vo p' → p'.length = P → P ≤ vc → Calls Try.prog 7 #[.int .i64 how, .slice vo P vc, .int .i64 (L : Int)] V fun e w' => ∃ ao ac n, e = .returned (.tuple #[.slice ao n ac, .int .i64 (unpackE how p' (L : Int)).1]) ∧ Byts V w' ao ac n (unpackE how p' (L : Int)).2) := fun V vo vc p' hb hl hc => by
    rw [← hl] at hc ⊢
    exact unpack_any how (L : Int) hb hc (by omega)
  have HUy : Hid (∀ V vo vc p', BytesAt V vo p' → p'.length = P → P ≤ vc → Calls Try.prog 10 #[.int .i64 how, .slice vo P vc, .int .i64 (L : Int)] V fun e w' => ∃ ao ac n, e = .returned (.tuple #[.slice ao n ac, .int .i64 (unpackE how p' (L : Int)).1]) ∧ Byts V w' ao ac n (unpackE how p' (L : Int)).2) := fun V vo vc p' hb hl hc => by
    rw [← hl] at hc ⊢
    exact unpackR_any how (L : Int) hb hc (by omega)
  have HFull : Hid (∀ V vo, BytesAt V vo (bs ++ nine) → BytesAt V vo bs) := fun V vo hb => by
    have := hb.take bs.length
    rw [List.take_left'] at this
    · exact this
    · rfl
  have HPl := hidM hP
  have hbx := heap_alloc_new w (.cells #[.int .i64 how, .slice bo L bc, .int .i64 raw] 30)
  have HG0 := hidM (gr_alloc w (.cells #[.int .i64 how, .slice bo L bc, .int .i64 raw] 30))
  obtain ⟨p0, p1, -⟩ := ce3 hbx
  have HAw := hidM (awake_any (w.alloc (.cells #[.int .i64 how, .slice bo L bc, .int .i64 raw] 30)))
  have HLb := hidM hca
  rw [← hL] at hl ⊢
  rw [← hO]
  clear h h2 hca hca2 hl2 hL hO hp hP hq hp2 hP2 hq2 hSp hSo hSb hSf hbx
  go_enter Try.func4, Try.ntmps4
  go_wp2_with (go_at_call 5; refine Hid.out ?_)
  unfold Hid
  refine Calls.mono HAw.out ?_
  rintro e W1 ⟨rfl, hg1⟩
  have HG1 := hidM (HG0.out.trans hg1 (fun _ _ h => h))
  have HC : Hid (∀ V, Gr W1 V → V.cell? ⟨w.heap.size, 0, none⟩ = some (.int .i64 how) ∧ V.cell? ⟨w.heap.size, 1, none⟩ = some (.slice bo L bc)) := fun V g => ⟨g.cell' (hg1.cell' p0 id) id, g.cell' (hg1.cell' p1 id) id⟩
  clear hg1 p0 p1 HAw HG0
  have hB0 := Byts.empty W1
  have hsrc := src_all (ca := bc) (HB.out.gr (HG1.out.trans hB0.gr (fun _ _ h => h)))
  rw [← HL.out] at hsrc
  have HSrc := hidM hsrc
  clear hsrc
  have t1 := (HC.out _ (gr_alloc W1 (.cells #[] 5))).2
  go_wp2_with (at_builtin; refine Hid.out ?_)
  unfold Hid
  refine wpList_append_any _ rfl (.tmp 34) (.tmp 36) 22 22 rfl 5 (.int .u8 0) 1 Try.underlying22 info5 rfl _ 0 (bv []) rfl hB0.own _ L (bv bs) rfl HSrc.out (by omega) (by omega) ?_
  intro v' w1 hown hgrow hblk
  rw [Nat.zero_add] at hown
  obtain ⟨vo1, vc1, rfl⟩ := own_form1 hown
  have HB1 := hidM (hB0.app (us := bs) rfl hown hgrow hblk).b
  clear hown hgrow hblk hB0 HSrc t1
  go_wp2_with (at_builtin; refine Hid.out ?_)
  unfold Hid
  have gA := gr_alloc w1 (.cells #[.int .u8 1, .int .u8 2, .int .u8 3, .int .u8 4, .int .u8 5, .int .u8 6, .int .u8 7, .int .u8 8, .int .u8 9] 5)
  have hB1 := HB1.out.gr' gA
  refine wpList_append_any _ rfl (.tmp 37) (.tmp 38) 22 22 rfl 5 (.int .u8 0) 1 Try.underlying22 info5 rfl _ L (bv bs) rfl hB1.own _ 9 [.int .u8 1, .int .u8 2, .int .u8 3, .int .u8 4, .int .u8 5, .int .u8 6, .int .u8 7, .int .u8 8, .int .u8 9] rfl (src_u8 w1 [.int .u8 1, .int .u8 2, .int .u8 3, .int .u8 4, .int .u8 5, .int .u8 6, .int .u8 7, .int .u8 8, .int .u8 9] 9 rfl (by simp)) (by omega) (by omega) ?_
  intro v' w2 hown hgrow hblk
  obtain ⟨vo2, fc, rfl⟩ := own_form1 hown
  have hF := (hB1.app (us := nine) nine_bv.symm hown hgrow hblk).b
  simp only [List.nil_append] at hF
  have hcap := hF.cap
  obtain ⟨fb, hfo, hfr⟩ := BRow.of_own hF.own (by omega)
  subst hfo
  have HF := hidM hF
  have hfc : L + 9 ≤ fc := by have := HL.out; simp [nine] at hcap; omega
  clear hown hgrow hblk hB1 gA hF hfr hcap HB1
  have hs1 := HSf.out w2 (some ⟨fb, 0, none⟩) fc HF.out.bytes
  have t1 := (HC.out _ HF.out.gr).2
  have t0 := (HC.out _ HF.out.gr).1
  have hL0 : (0 : Int) ≤ (L : Int) := by omega
  have hLf : (L : Int) ≤ (fc : Int) := by omega
  go_wp2_with (go_at_call 8; refine Hid.out ?_)
  unfold Hid
  refine Calls.mono (HPd.out w2 (some ⟨fb, 0, none⟩) fc (HFull.out _ _ HF.out.bytes) (by omega)) ?_
  rintro e W2 ⟨wo, wc, rfl, hb2⟩
  have HW := hidM hb2
  clear hb2 t0 t1 hs1
  have g12 := HF.out.gr.trans HW.out.gr (fun _ _ h => h)
  have t0 := (HC.out _ g12).1
  go_wp2_with (go_at_call 6; refine Hid.out ?_)
  unfold Hid
  refine Calls.mono (HPk.out W2 (some ⟨fb, 0, none⟩) fc (HFull.out _ _ (HF.out.bytes.gr HW.out.gr)) (by omega)) ?_
  rintro e W3 ⟨ao, ac, rfl, hb3⟩
  have HA := hidM hb3
  clear hb3 t0 g12
  have HG3 := hidM (HF.out.gr.trans (HW.out.gr.trans HA.out.gr (fun _ _ h => h)) (fun _ _ h => h))
  have t0 := (HC.out _ HG3.out).1
  go_wp2_with (go_at_call 6; refine Hid.out ?_)
  unfold Hid
  refine Calls.mono (HPk.out W3 (some ⟨fb, 0, none⟩) fc (HFull.out _ _ (HF.out.bytes.gr (HW.out.gr.trans HA.out.gr (fun _ _ h => h)))) (by omega)) ?_
  rintro e W4 ⟨no, nc, rfl, hb4⟩
  have HN := hidM hb4
  clear hb4 t0
  have HG4 := hidM (HG3.out.trans HN.out.gr (fun _ _ h => h))
  have t0 := (HC.out _ HG4.out).1
  have hs1 := HSp.out W4 no nc HN.out.bytes
  have hs2 := HSp.out W4 ao ac (HA.out.bytes.gr HN.out.gr)
  have hs3 := HSp.out W4 wo wc (HW.out.bytes.gr (HA.out.gr.trans HN.out.gr (fun _ _ h => h)))
  have hs4 := HSf.out W4 (some ⟨fb, 0, none⟩) fc (HF.out.bytes.gr (HW.out.gr.trans (HA.out.gr.trans HN.out.gr (fun _ _ h => h)) (fun _ _ h => h)))
  go_wp2_with (go_at_call 6; refine Hid.out ?_)
  unfold Hid
  refine Calls.mono (HPo.out W4 (HG1.out.trans HG4.out (fun _ _ h => h))) ?_
  rintro e W5 ⟨ho, hc, rfl, hb5⟩
  have HT3 := hidM hb5
  clear hb5 t0 hs1 hs2 hs3 hs4
  have HG5 := hidM (HG4.out.trans HT3.out.gr (fun _ _ h => h))
  have t0 := (HC.out _ HG5.out).1
  go_wp2_with (go_at_call 8; refine Hid.out ?_)
  unfold Hid
  refine Calls.mono (HPe.out W5 (HG1.out.trans HG5.out (fun _ _ h => h))) ?_
  rintro e W6 ⟨do_, dc, rfl, hb6⟩
  have HT4 := hidM hb6
  clear hb6 t0
  have HG6 := hidM (HG5.out.trans HT4.out.gr (fun _ _ h => h))
  have HA6 := hidM (HA.out.gr' (HN.out.gr.trans (HT3.out.gr.trans HT4.out.gr (fun _ _ h => h)) (fun _ _ h => h)))
  go_wp2_with fail
  go_loopw [107] (fun u wr => ∃ k : Nat, k ≤ P ∧ u = .int .i64 (k : Int) ∧ Hid (∃ b', Ap W2 W6 wr ao ac P ao ac P b')) (fun u _ => P - (intOf u).toNat)
  case atStart => exact ⟨0, by omega, rfl, p, Ap.refl HA6.out⟩
  case round =>
    obtain ⟨k, hk, rfl, HK⟩ := hrel
    by_cases c : k < P
    · have cI : (k : Int) < (P : Int) := by omega
      have hk0 : (0 : Int) ≤ (k : Int) := by omega
      obtain ⟨b', hAp⟩ := HK.out
      obtain ⟨X, hvo, z0, z1, z2⟩ := hAp.set c
      have hx := xor55 (b'.getD k 0)
      have HNx := hidM (z2 (b'.getD k 0 ^^^ 85))
      obtain ⟨z, hz⟩ : ∃ z : Int, z = ((b'.getD k 0).toNat : Int) := ⟨_, rfl⟩
      obtain ⟨y, hy⟩ : ∃ y : Int, y = ((b'.getD k 0 ^^^ 85).toNat : Int) := ⟨_, rfl⟩
      rw [← hz] at z0 hx
      rw [← hy] at hx HNx
      clear hAp z2 hz hy HK
      subst hvo
      go_wp2_with fail
      go_roundw
      case rel => exact ⟨k + 1, by omega, by simp, _, HNx.out⟩
      case measure => simp [intOf]; omega
    have cI : ¬ (k : Int) < (P : Int) := by omega
    obtain ⟨b1, hAp⟩ := HK.out
    have HAp := hidM hAp
    clear hAp HK
    go_wp2_with fail
    clear cI c hk
    go_loopw [19, 20] (fun v u wr => ∃ (i n : Nat) (go_ : Option Addr) (gc : Nat), i ≤ 300 ∧ n ≤ 200000 ∧ u = .int .i64 (i : Int) ∧ v = .slice go_ n gc ∧ Hid (n = P + i ∧ ∃ b', Ap W2 W6 wr ao ac P go_ gc n b')) (fun _ u _ => 300 - (intOf u).toNat)
    case atStart => exact ⟨0, P, ao, ac, by omega, by omega, rfl, rfl, rfl, b1, HAp.out⟩
    case round =>
      obtain ⟨i, n, g_, gc, hi, hn, rfl, rfl, HR⟩ := hrel
      clear HAp
      by_cases d : i < 300
      · have dI : (i : Int) < 300 := by omega
        obtain ⟨hn2, b', hA⟩ := HR.out
        have hn3 : n + 1 ≤ 200000 := by omega
        have HA' := hidM hA
        have HN2 := hidM hn2
        clear hA hn2 HR
        go_wp2_with (at_builtin; refine Hid.out ?_)
        unfold Hid
        have gA := gr_alloc wr (.cells #[.int .u8 238] 5)
        have hB := HA'.out.gr gA
        refine wpList_append_any _ rfl (.tmp 122) (.tmp 123) 22 22 rfl 5 (.int .u8 0) 1 Try.underlying22 info5 rfl _ n (bv b') rfl hB.b.own _ 1 [.int .u8 238] rfl (src_u8 wr [.int .u8 238] 1 rfl (by simp)) (by omega) (by omega) ?_
        intro v' w1 hown hgrow hblk
        obtain ⟨g2, gc2, rfl⟩ := own_form1 hown
        have HNx := hidM (hB.trans (hB.b.app (us := [238]) rfl hown hgrow hblk))
        clear hown hgrow hblk hB gA HA'
        go_wp2_with fail
        go_roundw
        case rel => exact ⟨i + 1, n + 1, g2, gc2, by omega, by omega, by simp, rfl, by have := HN2.out; omega, _, HNx.out⟩
        case measure => simp [intOf]; omega
      have dI : ¬ (i : Int) < 300 := by omega
      obtain ⟨-, b2, hA⟩ := HR.out
      have HKp := hidM hA.kp
      clear hA HR
      have hab : ∀ g, (Value.slice ao P ac).ownBlock = some g → W2.heap.size ≤ g ∧ g < W3.heap.size := fun g e => ⟨HA.out.new g e, own_lt HA.out.own g e⟩
      have s1 := HF.out.gr.size
      have s2 := HW.out.gr.size
      have s4 := HN.out.gr.size
      have s5 := HT3.out.gr.size
      have HG46 := hidM (HT3.out.gr.trans HT4.out.gr (fun _ _ h => h))
      have HG26 := hidM (HA.out.gr.trans (HN.out.gr.trans HG46.out (fun _ _ h => h)) (fun _ _ h => h))
      have HOn := hidM (own_ap (HN.out.gr' HG46.out).own HKp.out (fun g e e' => by have := HN.out.new g e; have := hab g e'; omega))
      have HOw := hidM (own_ap (HW.out.gr' HG26.out).own HKp.out (fun g e e' => by have := own_lt HW.out.own g e; have := hab g e'; omega))
      have HOf := hidM (own_ap (HF.out.gr' (HW.out.gr.trans HG26.out (fun _ _ h => h))).own HKp.out (fun g e e' => by have := own_lt HF.out.own g e; have := hab g e'; omega))
      have HOh := hidM (own_ap (HT3.out.gr' HT4.out.gr).own HKp.out (fun g e e' => by have := HT3.out.new g e; have := hab g e'; omega))
      have HOd := hidM (own_ap HT4.out.own HKp.out (fun g e e' => by have := HT4.out.new g e; have := hab g e'; omega))
      have HGr := hidM (HG6.out.trans HKp.out (fun j hj e => by have := (hab j e).1; omega))
      have HNn : Hid (∀ g, (Value.slice no P nc).ownBlock = some g → W1.heap.size ≤ g) := fun g e => by have := HN.out.new g e; have := HG3.out.size; omega
      have HWn := hidM HW.out.new
      have HFn := hidM HF.out.new
      have HNc : Hid (P ≤ nc) := by show _ ≤ _; rw [HPl.out]; exact HN.out.cap
      clear hab s1 s2 s4 s5 HKp HG46 HG26 HF HW HA HN HT3 HT4 HA6 HG3 HG4 HG5 HG6 HPk HPd HPo HPe hi hn d
      have hs1 := HSp.out wr no nc (bytes_of_own HOn.out)
      have hs2 := HSp.out wr wo wc (bytes_of_own HOw.out)
      have hs3 := HSo.out wr ho hc (bytes_of_own HOh.out)
      have hs4 := HSo.out wr do_ dc (bytes_of_own HOd.out)
      have hs5 := HSf.out wr (some ⟨fb, 0, none⟩) fc (bytes_of_own HOf.out)
      by_cases hq0 : q = 0
      rotate_left
      · have hqb : (q != 0) = true := by simpa using hq0
        clear hq0
        go_wp2_with fail
        go_ret
        exact ⟨rfl, HG1.out.trans HGr.out (fun _ _ h => h)⟩
      have hqb : (q != 0) = false := by simp [hq0]
      obtain ⟨hL6, hUn, hTu⟩ := HBk.out hq0
      have HUn := hidM hUn
      have HTu := hidM hTu
      have t0 := (HC.out _ HGr.out).1
      clear hq0 hUn hTu HBk
      go_wp2_with (go_at_call 7; refine Hid.out ?_)
      unfold Hid
      refine Calls.mono (HUn.out wr no nc (bytes_of_own HOn.out) HNc.out) ?_
      rintro e W7 ⟨xo, xc, rfl, hb7⟩
      have HX := hidM hb7
      clear hb7 t0 hs1 hs2 hs3 hs4 hs5
      have t0 := (HC.out _ (HGr.out.trans HX.out.gr (fun _ _ h => h))).1
      go_wp2_with (go_at_call 7; refine Hid.out ?_)
      unfold Hid
      refine Calls.mono (HUn.out W7 no nc ((bytes_of_own HOn.out).gr HX.out.gr) HNc.out) ?_
      rintro e W8 ⟨yo, yc, rfl, hb8⟩
      have HY := hidM hb8
      clear hb8 t0
      have HG8 := hidM (HX.out.gr.trans HY.out.gr (fun _ _ h => h))
      have t0 := (HC.out _ (HGr.out.trans HG8.out (fun _ _ h => h))).1
      have hb : BytesAt W8 (some ⟨fb, 0, none⟩) bs := HFull.out _ _ ((bytes_of_own HOf.out).gr HG8.out)
      have hs1 := HSb.out W8 xo xc (HX.out.bytes.gr HY.out.gr)
      have hs2 := HSb.out W8 (some ⟨fb, 0, none⟩) fc hb
      have hs3 := HSb.out W8 yo yc HY.out.bytes
      have hs4 := HSp.out W8 wo wc ((bytes_of_own HOw.out).gr HG8.out)
      have HTc := hidM (HTu.out W8 (some ⟨fb, 0, none⟩) fc hb (by omega))
      clear hb HTu
      go_wp2_with (go_at_call 9; refine Hid.out ?_)
      unfold Hid
      refine Calls.mono HTc.out ?_
      rintro e W9 ⟨rfl, hg9⟩
      have HG9 := hidM hg9
      have HX9 := hidM (HX.out.gr' (HY.out.gr.trans hg9 (fun _ _ h => h)))
      clear hg9 t0 hs1 hs2 hs3 hs4 HTc
      obtain ⟨Wr, hWr⟩ : ∃ Wr, Wr = wr := ⟨_, rfl⟩
      subst hWr
      clear dI
      go_wp2_with fail
      go_loopw [190] (fun u wr => ∃ k : Nat, k ≤ L ∧ u = .int .i64 (k : Int) ∧ Hid (∃ b', Ap Wr W9 wr xo xc L xo xc L b')) (fun u _ => L - (intOf u).toNat)
      case atStart => exact ⟨0, by omega, rfl, bs, Ap.refl HX9.out⟩
      case round =>
        obtain ⟨k, hk, rfl, HK⟩ := hrel
        by_cases c : k < L
        · have cI : (k : Int) < (L : Int) := by omega
          have hk0 : (0 : Int) ≤ (k : Int) := by omega
          obtain ⟨b', hAp⟩ := HK.out
          obtain ⟨X, hvo, z0, z1, z2⟩ := hAp.set c
          have hx := xor55 (b'.getD k 0)
          have HNx := hidM (z2 (b'.getD k 0 ^^^ 85))
          obtain ⟨z, hz⟩ : ∃ z : Int, z = ((b'.getD k 0).toNat : Int) := ⟨_, rfl⟩
          obtain ⟨y, hy⟩ : ∃ y : Int, y = ((b'.getD k 0 ^^^ 85).toNat : Int) := ⟨_, rfl⟩
          rw [← hz] at z0 hx
          rw [← hy] at hx HNx
          clear hAp z2 hz hy HK
          subst hvo
          go_wp2_with fail
          go_roundw
          case rel => exact ⟨k + 1, by omega, by simp, _, HNx.out⟩
          case measure => simp [intOf]; omega
        have cI : ¬ (k : Int) < (L : Int) := by omega
        obtain ⟨b1, hAp⟩ := HK.out
        have HAp := hidM hAp
        clear hAp HK
        go_wp2_with fail
        clear cI c hk
        go_loopw [19, 26] (fun v u wr => ∃ (i n : Nat) (go_ : Option Addr) (gc : Nat), i ≤ 300 ∧ n ≤ 200000 ∧ u = .int .i64 (i : Int) ∧ v = .slice go_ n gc ∧ Hid (n = L + i ∧ ∃ b', Ap Wr W9 wr xo xc L go_ gc n b')) (fun _ u _ => 300 - (intOf u).toNat)
        case atStart => exact ⟨0, L, xo, xc, by omega, by omega, rfl, rfl, rfl, b1, HAp.out⟩
        case round =>
          obtain ⟨i, n, g_, gc, hi, hn, rfl, rfl, HR⟩ := hrel
          clear HAp
          by_cases d : i < 300
          · have dI : (i : Int) < 300 := by omega
            obtain ⟨hn2, b', hA⟩ := HR.out
            have hn3 : n + 1 ≤ 200000 := by omega
            have HA' := hidM hA
            have HN2 := hidM hn2
            clear hA hn2 HR
            go_wp2_with (at_builtin; refine Hid.out ?_)
            unfold Hid
            have gA := gr_alloc wr (.cells #[.int .u8 238] 5)
            have hB := HA'.out.gr gA
            refine wpList_append_any _ rfl (.tmp 205) (.tmp 206) 22 22 rfl 5 (.int .u8 0) 1 Try.underlying22 info5 rfl _ n (bv b') rfl hB.b.own _ 1 [.int .u8 238] rfl (src_u8 wr [.int .u8 238] 1 rfl (by simp)) (by omega) (by omega) ?_
            intro v' w1 hown hgrow hblk
            obtain ⟨g2, gc2, rfl⟩ := own_form1 hown
            have HNx := hidM (hB.trans (hB.b.app (us := [238]) rfl hown hgrow hblk))
            clear hown hgrow hblk hB gA HA'
            go_wp2_with fail
            go_roundw
            case rel => exact ⟨i + 1, n + 1, g2, gc2, by omega, by omega, by simp, rfl, by have := HN2.out; omega, _, HNx.out⟩
            case measure => simp [intOf]; omega
          have dI : ¬ (i : Int) < 300 := by omega
          obtain ⟨-, b2, hA⟩ := HR.out
          have HKp := hidM hA.kp
          clear hA HR
          have hxb : ∀ g, (Value.slice xo L xc).ownBlock = some g → Wr.heap.size ≤ g ∧ g < W7.heap.size := fun g e => ⟨HX.out.new g e, own_lt HX.out.own g e⟩
          have s1 := HGr.out.size
          have HG29 := hidM (HG8.out.trans HG9.out (fun _ _ h => h))
          have HOy := hidM (own_ap (HY.out.gr' HG9.out).own HKp.out (fun g e e' => by have := HY.out.new g e; have := hxb g e'; omega))
          have HOn2 := hidM (own_ap (own_gr HOn.out HG29.out) HKp.out (fun g e e' => by have := own_lt HOn.out g e; have := hxb g e'; omega))
          have HOw2 := hidM (own_ap (own_gr HOw.out HG29.out) HKp.out (fun g e e' => by have := own_lt HOw.out g e; have := hxb g e'; omega))
          have HOf2 := hidM (own_ap (own_gr HOf.out HG29.out) HKp.out (fun g e e' => by have := own_lt HOf.out g e; have := hxb g e'; omega))
          have HGr2 := hidM ((HGr.out.trans HG29.out (fun _ _ h => h)).trans HKp.out (fun j hj e => by have := (hxb j e).1; omega))
          have hs1 := HSb.out wr yo yc (bytes_of_own HOy.out)
          have hs2 := HSb.out wr (some ⟨fb, 0, none⟩) fc (HFull.out _ _ (bytes_of_own HOf2.out))
          have hs3 := HSp.out wr no nc (bytes_of_own HOn2.out)
          have hs4 := HSp.out wr wo wc (bytes_of_own HOw2.out)
          have hs5 := HSf.out wr (some ⟨fb, 0, none⟩) fc (bytes_of_own HOf2.out)
          have HB10 : Hid (Byts W1 wr no nc P p) := ⟨HOn2.out, HGr2.out, HNn.out⟩
          clear hxb s1 HKp HG29 HX HY HG8 HG9 HX9 HOn HOw HOf HOh HOd HOy HOn2 HOw2 HGr HUn hi hn d
          obtain ⟨Wq, hWq⟩ : ∃ Wq, Wq = wr := ⟨_, rfl⟩
          subst hWq
          go_wp2_with fail
          clear hs1 hs2 hs3 hs4 hs5
          go_loopw [228] (fun u wr => ∃ k : Nat, k ≤ P ∧ u = .int .i64 (k : Int) ∧ Hid (∃ b', Ap W1 Wq wr no nc P no nc P b')) (fun u _ => P - (intOf u).toNat)
          case atStart => exact ⟨0, by omega, rfl, p, Ap.refl HB10.out⟩
          case round =>
            obtain ⟨k, hk, rfl, HK⟩ := hrel
            by_cases c : k < P
            · have cI : (k : Int) < (P : Int) := by omega
              have hk0 : (0 : Int) ≤ (k : Int) := by omega
              obtain ⟨b', hAp⟩ := HK.out
              obtain ⟨X, hvo, z0, z1, z2⟩ := hAp.set c
              have HNx : Hid (Ap W1 Wq (wr.setCell ⟨X, k, none⟩ (.int .u8 0)) no nc P no nc P (b'.set k 0)) := z2 0
              obtain ⟨z, hz⟩ : ∃ z : Int, z = ((b'.getD k 0).toNat : Int) := ⟨_, rfl⟩
              rw [← hz] at z0
              clear hAp z2 hz HK
              subst hvo
              go_wp2_with fail
              go_roundw
              case rel => exact ⟨k + 1, by omega, by simp, _, HNx.out⟩
              case measure => simp [intOf]; omega
            have cI : ¬ (k : Int) < (P : Int) := by omega
            obtain ⟨b1, hAp⟩ := HK.out
            have HAp := hidM hAp.b
            obtain ⟨r, hr⟩ : ∃ r, r = unpackE how b1 (L : Int) := ⟨_, rfl⟩
            have HC7 := hidM (HUz.out wr no nc b1 hAp.b.bytes hAp.b.len HNc.out)
            have HC8 : Hid (∀ V, Gr wr V → _) := fun V g => HUy.out V no nc b1 (hAp.b.bytes.gr g) hAp.b.len HNc.out
            rw [← hr] at HC7
            simp only [← hr] at HC8
            obtain ⟨ra, hra⟩ : ∃ x, x = r.1 := ⟨_, rfl⟩
            obtain ⟨rb, hrb⟩ : ∃ x, x = r.2 := ⟨_, rfl⟩
            rw [← hra, ← hrb] at HC7
            simp only [← hra, ← hrb] at HC8
            have t0 := (HC.out _ HAp.out.gr).1
            clear hAp HK hr hra hrb HUz HUy
            go_wp2_with (go_at_call 7; refine Hid.out ?_)
            unfold Hid
            refine Calls.mono HC7.out ?_
            rintro e W11 ⟨zo, zc, n1, rfl, hb11⟩
            have hn1 := hb11.len
            subst hn1
            have HZ := hidM hb11
            clear hb11 t0 HC7
            have t0 := (HC.out _ (HAp.out.gr.trans HZ.out.gr (fun _ _ h => h))).1
            go_wp2_with (go_at_call 10; refine Hid.out ?_)
            unfold Hid
            refine Calls.mono (HC8.out W11 HZ.out.gr) ?_
            rintro e W12 ⟨yo2, yc2, n2, rfl, hb12⟩
            have hn2 := hb12.len
            subst hn2
            have HGe := hidM (HG1.out.trans (HAp.out.gr.trans (HZ.out.gr.trans hb12.gr (fun _ _ h => h)) (fun _ _ h => h)) (fun _ _ h => h))
            have hs1 := bytes_string (vc := zc) (HZ.out.bytes.gr hb12.gr)
            have hs2 := bytes_string (vc := yc2) hb12.bytes
            obtain ⟨Z, hZ⟩ : ∃ Z : ByteArray, Z = ⟨rb.toArray⟩ := ⟨_, rfl⟩
            rw [← hZ] at hs1 hs2
            clear hb12 t0 HC8 hZ
            go_wp2_with fail
            go_ret
            exact ⟨rfl, HGe.out⟩
end Go.Proofs.Ytknjnclopiklaab.Kit
