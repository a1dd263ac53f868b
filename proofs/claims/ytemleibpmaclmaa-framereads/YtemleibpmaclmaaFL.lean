import Derived.Test.YtemleibpmaclmaaFJ
namespace Go.Proofs.Ytemleibpmaclmaa.Kit
open Go.RowKit Go.Shelf Go.Deep
set_option linter.unusedVariables false
attribute [local go_sem] run_store_func

theorem Byts.n {w W : World} {vo : Option Addr} {vc n : Nat} {bs : List UInt8} (h : Byts w W vo vc n bs) : Byts w W vo vc bs.length bs ∧ n = bs.length := by
  have := h.len
  subst this
  exact ⟨h, rfl⟩
theorem putR_len (m b : List UInt8) : (putR m b).length ≤ 5000000 := by
  unfold putR
  split
  · rename_i h
    have := up8_ge m.length
    have := up8_ge b.length
    rw [putB_len]
    omega
  · simp
theorem bt_pre {W : World} {ao : Option Addr} {l t : List UInt8} (h : BytesAt W ao (l ++ t)) : BytesAt W ao l := by
  have := h.take l.length
  rw [List.take_left'] at this
  · exact this
  · rfl
theorem own_add {W W' : World} {v : Value} {n : Nat} {xs : List Value} (o : W.ownsRow 0 5 1 v n xs) (k : Keeps W W' (fun g => Typ W g 22 ∨ Typ W g 33)) : W'.ownsRow 0 5 1 v n xs :=
  own_kp o fun g e => k.block g (own_lt o g e) (fun q => by
    have := own_typ o e
    rcases q with q | q
    · exact absurd (this.ne q) (by decide)
    · exact absurd (this.ne q) (by decide))
theorem ob_eq {g n c X : Nat} (e : (Value.slice (some ⟨g, 0, none⟩) n c).ownBlock = some X) : g = X := by simpa [Value.ownBlock] using e
def endB : List UInt8 := putB 48 [] []
theorem endB_len : endB.length = 24 := by unfold endB; rw [putB_len]; rfl
set_option maxRecDepth 100000 in
set_option maxHeartbeats 16000000 in
theorem puts_any {mo bo : Option Addr} {mc bc : Nat} {m b : List UInt8} {w : World} (hm : BytesAt w mo m) (hb : BytesAt w bo b) (hml : m.length ≤ 140737488355300) (hbl : b.length ≤ 140737488355300) :
    Calls Try.prog 3 #[.agg #[.slice mo m.length mc, .slice bo b.length bc]] w fun e w' => e = .returned (.bool true) ∧ Gr w w' := by
  obtain ⟨M, hM⟩ : ∃ M, M = m.length := ⟨_, rfl⟩
  obtain ⟨N, hN⟩ : ∃ N, N = b.length := ⟨_, rfl⟩
  have HM := hidM hM
  have HN := hidM hN
  have G0 := hidM (gr_alloc w (.cells #[.slice mo M mc, .slice bo N bc] 24))
  have hbx := heap_alloc_new w (.cells #[.slice mo M mc, .slice bo N bc] 24)
  obtain ⟨p0, p1⟩ := ce2 hbx
  have HBm := hidM hm
  have HBb := hidM hb
  obtain ⟨P, hP⟩ : ∃ P, P = putR m b := ⟨_, rfl⟩
  obtain ⟨pe, hpe⟩ : ∃ pe, pe = putE m b := ⟨_, rfl⟩
  obtain ⟨PL, hPL⟩ : ∃ PL, PL = P.length := ⟨_, rfl⟩
  have HPL := hidM hPL
  have hPLb : PL ≤ 5000000 := by rw [hPL, hP]; exact putR_len m b
  have HD1 : Hid (∀ V, Gr w V → Calls Try.prog 7 #[.agg #[.slice mo M mc, .slice bo N bc]] V fun e w' => ∃ vo vc, e = .returned (.tuple #[.slice vo PL vc, .int .i64 pe]) ∧ Byts V w' vo vc PL P) := fun V g => by
    rw [hM, hN]
    refine (putD_any (hm.gr g) (hb.gr g) (by omega) (by omega)).mono ?_
    rintro e w' ⟨vo, vc, n, rfl, hb⟩
    rw [← hP] at hb
    obtain ⟨h1, h2⟩ := hb.n
    rw [hPL, hpe]
    exact ⟨vo, vc, by rw [h2], h1⟩
  have HLm : Hid (∀ V, Gr w V → Calls Try.prog 8 #[.slice mo M mc] V fun e w' => ∃ g, e = .returned (.slice (some ⟨g, 0, none⟩) (M + 3) (M + 3)) ∧ Byts V w' (some ⟨g, 0, none⟩) (M + 3) (M + 3) (m ++ marks)) := fun V g => by
    rw [hM]; exact lent_any (hm.gr g) hml
  have HLb : Hid (∀ V, Gr w V → Calls Try.prog 8 #[.slice bo N bc] V fun e w' => ∃ g, e = .returned (.slice (some ⟨g, 0, none⟩) (N + 3) (N + 3)) ∧ Byts V w' (some ⟨g, 0, none⟩) (N + 3) (N + 3) (b ++ marks)) := fun V g => by
    rw [hN]; exact lent_any (hb.gr g) hbl
  have HPD : Hid (∀ V g1 g2 l1 l2, l1.length = M → l2.length = N → BytesAt V (some ⟨g1, 0, none⟩) l1 → BytesAt V (some ⟨g2, 0, none⟩) l2 → Calls Try.prog 7 #[.agg #[.slice (some ⟨g1, 0, none⟩) M (M + 3), .slice (some ⟨g2, 0, none⟩) N (N + 3)]] V fun e w' => ∃ vo vc, e = .returned (.tuple #[.slice vo (putR l1 l2).length vc, .int .i64 (putE l1 l2)]) ∧ Byts V w' vo vc (putR l1 l2).length (putR l1 l2)) := fun V g1 g2 l1 l2 e1 e2 h1 h2 => by
    rw [← e1, ← e2]
    refine (putD_any h1 h2 (by omega) (by omega)).mono ?_
    rintro e w' ⟨vo, vc, n, rfl, hb⟩
    obtain ⟨h1, h2⟩ := hb.n
    exact ⟨vo, vc, by rw [h2], h1⟩
  have HPP : Hid (∀ V g1 g2 l1 l2, l1.length = M → l2.length = N → BytesAt V (some ⟨g1, 0, none⟩) l1 → BytesAt V (some ⟨g2, 0, none⟩) l2 → Calls Try.prog 9 #[.agg #[.slice (some ⟨g1, 0, none⟩) M (M + 3), .slice (some ⟨g2, 0, none⟩) N (N + 3)]] V fun e w' => ∃ vo vc, e = .returned (.tuple #[.slice vo (putR l1 l2).length vc, .int .i64 (putE l1 l2)]) ∧ Byts V w' vo vc (putR l1 l2).length (putR l1 l2)) := fun V g1 g2 l1 l2 e1 e2 h1 h2 => by
    rw [← e1, ← e2]
    refine (put_any h1 h2 (by omega) (by omega)).mono ?_
    rintro e w' ⟨vo, vc, n, rfl, hb⟩
    obtain ⟨h1, h2⟩ := hb.n
    exact ⟨vo, vc, by rw [h2], h1⟩
  have HP9 : Hid (∀ V g1 g2, BytesAt V (some ⟨g1, 0, none⟩) m → BytesAt V (some ⟨g2, 0, none⟩) b → Calls Try.prog 9 #[.agg #[.slice (some ⟨g1, 0, none⟩) M (M + 3), .slice (some ⟨g2, 0, none⟩) N (N + 3)]] V fun e w' => ∃ vo vc, e = .returned (.tuple #[.slice vo PL vc, .int .i64 pe]) ∧ Byts V w' vo vc PL P) := fun V g1 g2 h1 h2 => by
    have := HPP.out V g1 g2 m b hM.symm hN.symm h1 h2
    rw [← hP, ← hPL, ← hpe] at this
    exact this
  have HSm : Hid (∀ V xo xc yo yc l, l.length ≤ 6000000 → BytesAt V xo l → BytesAt V yo l → Calls Try.prog 10 #[.slice xo l.length xc, .slice yo l.length yc] V fun e w' => e = .returned (.bool true) ∧ Gr V w') := fun V xo xc yo yc l hl h1 h2 => same_true h1 h2 (by omega)
  have HSP : Hid (∀ V xo xc yo yc, BytesAt V xo P → BytesAt V yo P → Calls Try.prog 10 #[.slice xo PL xc, .slice yo PL yc] V fun e w' => e = .returned (.bool true) ∧ Gr V w') := fun V xo xc yo yc h1 h2 => by
    rw [hPL]; exact HSm.out V xo xc yo yc P (by omega) h1 h2
  have HSE : Hid (∀ V xo xc yo yc, BytesAt V xo endB → BytesAt V yo endB → Calls Try.prog 10 #[.slice xo 24 xc, .slice yo 24 yc] V fun e w' => e = .returned (.bool true) ∧ Gr V w') := fun V xo xc yo yc h1 h2 => by
    have := HSm.out V xo xc yo yc endB (by rw [endB_len]; omega) h1 h2
    rw [endB_len] at this
    exact this
  have HKm : Hid (∀ V g, Gr w V → BytesAt V (some ⟨g, 0, none⟩) (m ++ marks) → Calls Try.prog 11 #[.slice (some ⟨g, 0, none⟩) (M + 3) (M + 3), .slice mo M mc] V fun e w' => e = .returned (.bool true) ∧ Gr V w') := fun V g k h => by
    rw [hM]; exact kept_true h (hm.gr k) hml (Nat.le_refl _)
  have HKb : Hid (∀ V g, Gr w V → BytesAt V (some ⟨g, 0, none⟩) (b ++ marks) → Calls Try.prog 11 #[.slice (some ⟨g, 0, none⟩) (N + 3) (N + 3), .slice bo N bc] V fun e w' => e = .returned (.bool true) ∧ Gr V w') := fun V g k h => by
    rw [hN]; exact kept_true h (hb.gr k) hbl (Nat.le_refl _)
  rw [← hM] at hml
  rw [← hN] at hbl
  rw [← hM, ← hN]
  clear hm hb hM hN hbx hP hpe hPL
  go_enter Try.func3, Try.ntmps3
  go_wp2_with (go_at_call 7; refine Hid.out ?_)
  unfold Hid
  refine Calls.mono (HD1.out _ G0.out) ?_
  rintro e W1 ⟨wo, wc, rfl, hb1⟩
  have HG1 := hidM (G0.out.trans hb1.gr (fun _ _ h => h))
  have HC1 : Hid (∀ V, Gr W1 V → V.cell? ⟨w.heap.size, 0, none⟩ = some (.slice mo M mc) ∧ V.cell? ⟨w.heap.size, 1, none⟩ = some (.slice bo N bc)) := fun V k => ⟨k.cell' (hb1.gr.cell' p0 id) id, k.cell' (hb1.gr.cell' p1 id) id⟩
  have HW1 := hidM hb1.own
  obtain ⟨Bx, hBx⟩ : ∃ Bx, Bx = w.heap.size := ⟨_, rfl⟩
  have HBx := hidM hBx
  rw [← hBx] at HC1 ⊢
  clear hb1 p0 p1 G0 hBx HD1
  obtain ⟨c0, -⟩ := HC1.out _ (Keeps.refl _ _)
  go_wp2_with (go_at_call 8; refine Hid.out ?_)
  unfold Hid
  refine Calls.mono (HLm.out _ HG1.out) ?_
  rintro e W2 ⟨g1, rfl, hb2⟩
  have HL1 := hidM hb2
  clear hb2 c0
  obtain ⟨-, c0⟩ := HC1.out _ HL1.out.gr
  have HG2 := hidM (HG1.out.trans HL1.out.gr (fun _ _ h => h))
  go_wp2_with (go_at_call 8; refine Hid.out ?_)
  unfold Hid
  refine Calls.mono (HLb.out _ HG2.out) ?_
  rintro e W3 ⟨g2, rfl, hb3⟩
  have HL2 := hidM hb3
  clear hb3 c0 HLm HLb
  have HG13 := hidM (HL1.out.gr.trans HL2.out.gr (fun _ _ h => h))
  have HG3 := hidM (HG2.out.trans HL2.out.gr (fun _ _ h => h))
  have HW3 := hidM (own_gr HW1.out HG13.out)
  have HM3 := hidM (own_gr HL1.out.own HL2.out.gr)
  have HB3 := hidM HL2.out.own
  have HC3 : Hid (∀ V, Gr W3 V → V.cell? ⟨Bx, 0, none⟩ = some (.slice mo M mc) ∧ V.cell? ⟨Bx, 1, none⟩ = some (.slice bo N bc)) := fun V k => HC1.out V (HG13.out.trans k (fun _ _ h => h))
  have hg12 : Hid (g1 < W2.heap.size ∧ W2.heap.size ≤ g2 ∧ W1.heap.size ≤ g1) := ⟨own_lt HL1.out.own g1 rfl, HL2.out.new g2 rfl, HL1.out.new g1 rfl⟩
  have HBw1 : Hid (Bx < W1.heap.size) := block_lt_of_cell (HC1.out _ (Keeps.refl _ _)).1
  have HW13 : Hid (w.heap.size ≤ W1.heap.size ∧ W1.heap.size ≤ W2.heap.size ∧ g2 < W3.heap.size ∧ W2.heap.size ≤ W3.heap.size) := ⟨HG1.out.size, HL1.out.gr.size, own_lt HL2.out.own g2 rfl, HL2.out.gr.size⟩
  clear HC1 HW1 HL1 HL2 HG13 HG2 HG1
  have HAdd : Hid (∀ V K N ao ac xo xc R Q D bo' bc' qo qc, Bk W3 V K N ao ac xo xc (.slice none 0 0) (.slice none 0 0) R Q D → N ≤ 100 → V.ownsRow 0 5 1 (.slice bo' PL bc') PL (bv P) → (∀ g, (Value.slice bo' PL bc').ownBlock = some g → W3.heap.size ≤ g ∧ ∀ i, i < N → (rv (R i)).ownBlock ≠ some g) → Calls Try.prog 14 #[.pointer (some ⟨K, 0, none⟩), .slice bo' PL bc', .slice qo PL qc] V fun e w' => e = .returned (.tuple #[]) ∧ Keeps V w' (fun g => Typ V g 22 ∨ Typ V g 33) ∧ ∃ ao' ac' wo' wc', Bk W3 w' K (N + 1) ao' ac' wo' wc' (.slice none 0 0) (.slice none 0 0) (fun i => if i < N then R i else (bo', PL, bc')) (fun i => if i < N then Q i else (qo, PL, qc)) (fun i => if i < N then D i else P)) := fun V K N ao ac xo xc R Q D bo' bc' qo qc h hN ho hn => by
    rw [HPL.out] at ho hn ⊢
    exact add_any h (by omega) ho (by rw [← HPL.out]; exact hPLb) hn
  have HAddE : Hid (∀ V K N ao ac xo xc R Q D bo' bc' qo qc, Bk W3 V K N ao ac xo xc (.slice none 0 0) (.slice none 0 0) R Q D → N ≤ 100 → V.ownsRow 0 5 1 (.slice bo' 24 bc') 24 (bv endB) → (∀ g, (Value.slice bo' 24 bc').ownBlock = some g → W3.heap.size ≤ g ∧ ∀ i, i < N → (rv (R i)).ownBlock ≠ some g) → Calls Try.prog 14 #[.pointer (some ⟨K, 0, none⟩), .slice bo' 24 bc', .slice qo 24 qc] V fun e w' => e = .returned (.tuple #[]) ∧ Keeps V w' (fun g => Typ V g 22 ∨ Typ V g 33) ∧ ∃ ao' ac' wo' wc', Bk W3 w' K (N + 1) ao' ac' wo' wc' (.slice none 0 0) (.slice none 0 0) (fun i => if i < N then R i else (bo', 24, bc')) (fun i => if i < N then Q i else (qo, 24, qc)) (fun i => if i < N then D i else endB)) := fun V K N ao ac xo xc R Q D bo' bc' qo qc h hN ho hn => by
    have e : (24 : Nat) = endB.length := endB_len.symm
    rw [e] at ho hn ⊢
    exact add_any h (by omega) ho (by rw [endB_len]; omega) hn
  have hK := heap_alloc_new W3 (.cells #[.slice none 0 0, .slice none 0 0, .slice none 0 0, .slice none 0 0] 33)
  have HBk := hidM (Bk.new W3 _ W3.heap.size (gr_alloc W3 _) (Nat.le_refl _) hK (fun _ => (none, 0, 0)) (fun _ => (none, 0, 0)) (fun _ => []))
  clear hK
  go_wp2_with fail
  obtain ⟨K, hKe⟩ : ∃ K, K = W3.heap.size := ⟨_, rfl⟩
  rw [← hKe] at HBk ⊢
  clear hKe
  go_loopw [8] (fun q wr => ∃ t : Nat, t ≤ 2 ∧ q = .int .i64 (t : Int) ∧ Hid (∃ ao ac xo xc R Q D, Bk W3 wr K (2 * t) ao ac xo xc (.slice none 0 0) (.slice none 0 0) R Q D ∧ ∀ i, i < 2 * t → wr.ownsRow 0 5 1 (rv (Q i)) (Q i).2.1 (bv (D i)))) (fun q _ => 2 - (intOf q).toNat)
  case atStart => exact ⟨0, by omega, rfl, _, _, _, _, _, _, _, HBk.out, fun i hi => by omega⟩
  case round =>
    obtain ⟨t, ht, rfl, HT⟩ := hrel
    clear HBk
    by_cases c : t < 2
    · have cI : (t : Int) < 2 := by omega
      obtain ⟨ao, ac, xo, xc, R, Q, D, hBk, hQ⟩ := HT.out
      have HBk := hidM hBk
      have HQ := hidM hQ
      obtain ⟨c0, c1⟩ := HC3.out _ hBk.gr
      clear HT hBk hQ
      have hM0 : (0 : Int) ≤ (M : Int) := by omega
      have hM3 : (M : Int) ≤ (M : Int) + 3 := by omega
      have hN0 : (0 : Int) ≤ (N : Int) := by omega
      have hN3 : (N : Int) ≤ (N : Int) + 3 := by omega
      go_wp2_with fail
      have gD := hidM (HBk.out.gr.trans ((Keeps.refl wr _).drew) (fun _ _ h => h))
      have HIN : Hid (wr.drew.cell? ⟨Bx, 0, none⟩ = some (.slice mo M mc) ∧ wr.drew.cell? ⟨Bx, 1, none⟩ = some (.slice bo N bc)) := ⟨c0, c1⟩
      have HP := hidM (HP9.out wr.drew g1 g2 (bt_pre ((bytes_of_own HM3.out).gr gD.out)) (bt_pre ((bytes_of_own HB3.out).gr gD.out)))
      clear c0 c1
      go_region_held3 (fun V => V.cell? ⟨Bx, 0, none⟩ = some (.slice mo M mc) ∧ V.cell? ⟨Bx, 1, none⟩ = some (.slice bo N bc)) (first | with_reducible exact HIN.out | with_reducible assumption | with_reducible exact HK5.out) (first | (go_at_call 9; (with_reducible refine HP.out.mono ?_); rintro e W5 ⟨vo5, vc5, rfl, hb5⟩; have HB5 := hidM hb5; have HK5 : Hid (W5.cell? ⟨Bx, 0, none⟩ = some (.slice mo M mc) ∧ W5.cell? ⟨Bx, 1, none⟩ = some (.slice bo N bc)) := HC3.out _ (gD.out.trans hb5.gr (fun _ _ h => h)); clear hb5))
      have HGs := hidM (HBk.out.gr.trans (((Keeps.refl wr _).drew).trans HB5.out.gr (fun _ _ h => h)) (fun _ _ h => h))
      clear HIN HK5 HP
      go_wp2_with (go_at_call 10; refine Hid.out ?_)
      unfold Hid
      refine Calls.mono (HSP.out W5 vo5 vc5 wo wc HB5.out.bytes (bytes_of_own (own_gr HW3.out HGs.out))) ?_
      rintro e W6 ⟨rfl, g6⟩
      have HG6 := hidM (HGs.out.trans g6 (fun _ _ h => h))
      have HO6 := hidM (own_gr HB5.out.own g6)
      have HF6 := hidM g6
      clear g6
      obtain ⟨c0, -⟩ := HC3.out _ HG6.out
      go_wp2_with (go_at_call 11; refine Hid.out ?_)
      unfold Hid
      refine Calls.mono (HKm.out W6 g1 (HG3.out.trans HG6.out (fun _ _ h => h)) ((bytes_of_own HM3.out).gr HG6.out |> fun h => h)) ?_
      rintro e W7 ⟨rfl, g7⟩
      have HG7 := hidM (HG6.out.trans g7 (fun _ _ h => h))
      have HO7 := hidM (own_gr HO6.out g7)
      have HF7 := hidM (HF6.out.trans g7 (fun _ _ h => h))
      clear g7 c0 HG6 HO6 HF6
      obtain ⟨-, c0⟩ := HC3.out _ HG7.out
      go_wp2_with (go_at_call 11; refine Hid.out ?_)
      unfold Hid
      refine Calls.mono (HKb.out W7 g2 (HG3.out.trans HG7.out (fun _ _ h => h)) ((bytes_of_own HB3.out).gr HG7.out)) ?_
      rintro e W8 ⟨rfl, g8⟩
      have HG8 := hidM (HG7.out.trans g8 (fun _ _ h => h))
      have HO8 := hidM (own_gr HO7.out g8)
      have HG58 := hidM (HF7.out.trans g8 (fun _ _ h => h))
      clear g8 c0 HG7 HO7 HF7
      go_wp2_with (go_at_call 12; refine Hid.out ?_)
      unfold Hid
      refine Calls.mono (close_any W8) ?_
      rintro e W9 ⟨eo, ec, rfl, hb9⟩
      have HB9 := hidM (show Byts W8 W9 eo ec 24 endB from hb9)
      clear hb9
      go_wp2_with (go_at_call 13; refine Hid.out ?_)
      unfold Hid
      refine Calls.mono (closeD_any W9) ?_
      rintro e W10 ⟨fo, fc, rfl, hb10⟩
      have HB10 := hidM (show Byts W9 W10 fo fc 24 endB from hb10)
      clear hb10
      go_wp2_with (go_at_call 10; refine Hid.out ?_)
      unfold Hid
      refine Calls.mono (HSE.out W10 eo ec fo fc (HB9.out.bytes.gr HB10.out.gr) HB10.out.bytes) ?_
      rintro e W11 ⟨rfl, g11⟩
      have HG811 := hidM (HB9.out.gr.trans (HB10.out.gr.trans g11 (fun _ _ h => h)) (fun _ _ h => h))
      have HG11 := hidM (HG8.out.trans HG811.out (fun _ _ h => h))
      have HO11 := hidM (own_gr HO8.out HG811.out)
      have HE11 := hidM (own_gr HB9.out.own (HB10.out.gr.trans g11 (fun _ _ h => h)))
      have HGr11 : Hid (Gr wr W11) := by
        show Gr wr W11
        exact (((Keeps.refl wr _).drew).trans HB5.out.gr (fun _ _ h => h)).trans (HG58.out.trans HG811.out (fun _ _ h => h)) (fun _ _ h => h)
      have HBk11 := hidM (HBk.out.grow HGr11.out)
      have HQ11 : Hid (∀ i, i < 2 * t → W11.ownsRow 0 5 1 (rv (Q i)) (Q i).2.1 (bv (D i))) := fun i hi => own_gr (HQ.out i hi) HGr11.out
      have HW11 := hidM (own_gr HW3.out HG11.out)
      have HN1 : Hid (∀ g, (Value.slice vo5 PL vc5).ownBlock = some g → (W3.heap.size ≤ g ∧ ∀ i, i < 2 * t → (rv (R i)).ownBlock ≠ some g) ∧ wr.heap.size ≤ g ∧ g < W8.heap.size) := fun g e => by
        have h1 : wr.heap.size ≤ g := HB5.out.new g e
        have h2 := HBk.out.gr.size
        have h3 := own_lt HB5.out.own g e
        have h4 := HG58.out.size
        exact ⟨⟨by omega, fun i hi q => by have := own_lt (HBk.out.rows i hi) g q; omega⟩, h1, by omega⟩
      have HN2 : Hid (∀ g, (Value.slice eo 24 ec).ownBlock = some g → W3.heap.size ≤ g ∧ ∀ i, i < 2 * t + 1 → (rv (if i < 2 * t then R i else (vo5, PL, vc5))).ownBlock ≠ some g) := fun g e => by
        have h1 := HB9.out.new g e
        have h2 := HG8.out.size
        refine ⟨by omega, fun i hi q => ?_⟩
        by_cases d : i < 2 * t
        · rw [if_pos d] at q
          have h3 := own_lt (HBk.out.rows i d) g q
          have h4 := HGs.out.size
          have h5 := HG58.out.size
          have h6 : wr.heap.size ≤ W5.heap.size := HB5.out.gr.size
          omega
        · rw [if_neg d] at q
          have := (HN1.out g q).2.2
          omega
      clear g11 HG811 HO8 HB9 HB10 HG58 HGs HG8 HB5 gD HBk HQ HGr11
      go_wp2_with (go_at_call 14; refine Hid.out ?_)
      unfold Hid
      refine Calls.mono (HAdd.out W11 K (2 * t) _ _ _ _ R Q D vo5 vc5 wo wc HBk11.out (by omega) HO11.out (fun g e => (HN1.out g e).1)) ?_
      rintro e W12 ⟨rfl, k12, ao1, ac1, xo1, xc1, hBk12⟩
      have HBk12 := hidM hBk12
      have HE12 := hidM (own_add HE11.out k12)
      have HQ12 : Hid (∀ i, i < 2 * t + 1 → W12.ownsRow 0 5 1 (rv (if i < 2 * t then Q i else (wo, PL, wc))) ((if i < 2 * t then Q i else (wo, PL, wc))).2.1 (bv (if i < 2 * t then D i else P))) := fun i hi => by
        by_cases d : i < 2 * t
        · rw [if_pos d, if_pos d]; exact own_add (HQ11.out i d) k12
        · rw [if_neg d, if_neg d]; exact own_add HW11.out k12
      clear k12 hBk12 HE11 HQ11 HW11 HN1 HO11 HBk11 HG11
      go_wp2_with (go_at_call 13; refine Hid.out ?_)
      unfold Hid
      refine Calls.mono (closeD_any W12) ?_
      rintro e W13 ⟨ho, hc, rfl, hb13⟩
      have HB13 := hidM (show Byts W12 W13 ho hc 24 endB from hb13)
      have HBk13 := hidM (HBk12.out.grow hb13.gr)
      have HE13 := hidM (own_gr HE12.out hb13.gr)
      have HQ13 : Hid (∀ i, i < 2 * t + 1 → W13.ownsRow 0 5 1 (rv (if i < 2 * t then Q i else (wo, PL, wc))) ((if i < 2 * t then Q i else (wo, PL, wc))).2.1 (bv (if i < 2 * t then D i else P))) := fun i hi => own_gr (HQ12.out i hi) HB13.out.gr
      clear hb13 HBk12 HE12 HQ12
      go_wp2_with (go_at_call 14; refine Hid.out ?_)
      unfold Hid
      refine Calls.mono (HAddE.out W13 K (2 * t + 1) _ _ _ _ _ _ _ eo ec ho hc HBk13.out (by omega) HE13.out (fun g e => HN2.out g e)) ?_
      rintro e W14 ⟨rfl, k14, ao2, ac2, xo2, xc2, hBk14⟩
      have HNx : Hid (∃ ao ac xo xc R Q D, Bk W3 W14 K (2 * (t + 1)) ao ac xo xc (.slice none 0 0) (.slice none 0 0) R Q D ∧ ∀ i, i < 2 * (t + 1) → W14.ownsRow 0 5 1 (rv (Q i)) (Q i).2.1 (bv (D i))) := by
        refine ⟨_, _, _, _, _, _, _, hBk14, fun i hi => ?_⟩
        by_cases d : i < 2 * t + 1
        · simp only [if_pos d]; exact own_add (HQ13.out i d) k14
        · simp only [if_neg d]; exact own_add HB13.out.own k14
      clear k14 hBk14 HB13 HBk13 HE13 HQ13 HN2
      go_wp2_with fail
      go_roundw
      case rel => exact ⟨t + 1, by omega, by simp, HNx.out⟩
      case measure => simp [intOf]; omega
    have cI : ¬ (t : Int) < 2 := by omega
    obtain rfl : t = 2 := by omega
    obtain ⟨ao, ac, xo, xc, R, Q, D, hBk, hQ⟩ := HT.out
    have HAp := hidM (apart_any hBk (by omega) (by omega) (fun i hi => bytes_of_own (hQ i hi)))
    clear HT hBk hQ HAdd HAddE HSE HSP HP9 HKm HKb
    go_wp2_with (go_at_call 15; refine Hid.out ?_)
    unfold Hid
    refine Calls.mono HAp.out ?_
    rintro e V0 ⟨rfl, gV0⟩
    have HV0 := hidM gV0
    obtain ⟨c0, c1⟩ := HC3.out _ gV0
    clear gV0 HAp
    have hM0 : (0 : Int) ≤ (M : Int) := by omega
    have hM3 : (M : Int) ≤ (M : Int) + 3 := by omega
    have hN0 : (0 : Int) ≤ (N : Int) := by omega
    have hN3 : (N : Int) ≤ (N : Int) + 3 := by omega
    go_wp2_with fail
    go_region_held3 (fun V => V.cell? ⟨Bx, 0, none⟩ = some (.slice mo M mc) ∧ V.cell? ⟨Bx, 1, none⟩ = some (.slice bo N bc)) (go_keep) (fail)
    obtain ⟨V1, hV1⟩ : ∃ V1, V1 = (V0.alloc (.cells #[.slice (some ⟨g1, 0, none⟩) M (M + 3), .slice (some ⟨g2, 0, none⟩) N (N + 3)] 24)).drew := ⟨_, rfl⟩
    obtain ⟨Ob, hOb⟩ : ∃ Ob, Ob = V0.heap.size := ⟨_, rfl⟩
    have hbo : V1.heap[Ob]? = some (.cells #[.slice (some ⟨g1, 0, none⟩) M (M + 3), .slice (some ⟨g2, 0, none⟩) N (N + 3)] 24 (0, 0)) := by rw [hV1, hOb]; exact heap_alloc_new V0 _
    have g01 : Gr V0 V1 := by rw [hV1]; exact (gr_alloc V0 _).trans ((Keeps.refl _ _).drew) (fun _ _ h => h)
    have HV1 := hidM (HV0.out.trans g01 (fun _ _ h => h))
    have HObs : Hid (W3.heap.size ≤ Ob) := by
      show _ ≤ _
      rw [hOb]
      exact HV0.out.size
    obtain ⟨q0, q1⟩ := ce2 hbo
    have HQc : Hid (V1.cell? ⟨Ob, 0, none⟩ = some (.slice (some ⟨g1, 0, none⟩) M (M + 3)) ∧ V1.cell? ⟨Ob, 1, none⟩ = some (.slice (some ⟨g2, 0, none⟩) N (N + 3))) := ⟨q0, q1⟩
    rw [← hV1, ← hOb]
    have HA1 : Hid (Byts w V1 (some ⟨g1, 0, none⟩) (M + 3) (M + 3) (m ++ marks)) := ⟨own_gr HM3.out HV1.out, HG3.out.trans HV1.out (fun _ _ h => h), fun g e => by
      have : g1 = g := by simpa [Value.ownBlock] using e
      have := hg12.out; have := HW13.out; omega⟩
    have HB1 := hidM (own_gr HB3.out HV1.out)
    have HCb : Hid (V1.cell? ⟨Bx, 0, none⟩ = some (.slice mo M mc) ∧ V1.cell? ⟨Bx, 1, none⟩ = some (.slice bo N bc)) := HC3.out _ HV1.out
    have HDis : Hid (Bx < g1 ∧ g1 < g2 ∧ g2 < Ob ∧ w.heap.size ≤ g1) := by
      have := hg12.out; have := HW13.out; have := HObs.out; have := HBw1.out
      show _ ∧ _ ∧ _ ∧ _
      omega
    clear hV1 hOb hbo g01 q0 q1 HV0 HV1 HM3 HB3 HC3 HW3 HObs hg12 HW13 HBw1 cI c
    rename_i hHeldX
    clear hHeldX
    have HR0 : Hid (∃ l, Ap w V1 V1 (some ⟨g1, 0, none⟩) (M + 3) (M + 3) (some ⟨g1, 0, none⟩) (M + 3) (M + 3) l) := ⟨_, Ap.refl HA1.out⟩
    clear c0 c1
    go_wp2_with fail
    go_loopw [18] (fun q wr => ∃ k : Nat, k ≤ M ∧ q = .int .i64 (k : Int) ∧ Hid (∃ l, Ap w V1 wr (some ⟨g1, 0, none⟩) (M + 3) (M + 3) (some ⟨g1, 0, none⟩) (M + 3) (M + 3) l)) (fun q _ => M - (intOf q).toNat)
    case atStart => exact ⟨0, by omega, rfl, HR0.out⟩
    case round =>
      obtain ⟨k, hk, rfl, HK⟩ := hrel
      clear HR0
      obtain ⟨l, hA⟩ := HK.out
      have c0 := hA.kp.cell' HCb.out.1 (fun e => by have := HDis.out; have hh := ob_eq e; (try dsimp only at hh); omega)
      by_cases d : k < M
      · have dI : (k : Int) < (M : Int) := by omega
        have dI3 : (k : Int) < (M : Int) + 3 := by omega
        have hk0 : (0 : Int) ≤ (k : Int) := by omega
        obtain ⟨X, hX, z0, z1, z2⟩ := hA.set (k := k) (by omega)
        cases hX
        have hw : IntKind.u8.wrap (((l.getD k 0).toNat : Int) + 1) = ((l.getD k 0 + 1).toNat : Int) := by
          have := (l.getD k 0).toNat_lt
          rw [IntKind.wrap_u8, UInt8.toNat_add]
          have e1 : UInt8.toNat 1 = 1 := rfl
          rw [e1]
          omega
        have HNx := hidM (z2 (l.getD k 0 + 1))
        obtain ⟨z, hz⟩ : ∃ z : Int, z = ((l.getD k 0).toNat : Int) := ⟨_, rfl⟩
        obtain ⟨y, hy⟩ : ∃ y : Int, y = ((l.getD k 0 + 1).toNat : Int) := ⟨_, rfl⟩
        rw [← hz] at z0 hw
        rw [← hy] at hw HNx
        clear hA z2 hz hy HK
        go_wp2_with fail
        go_roundw
        case rel => exact ⟨k + 1, by omega, by simp, _, HNx.out⟩
        case measure => simp [intOf]; omega
      have dI : ¬ (k : Int) < (M : Int) := by omega
      have HA2 := hidM hA
      have q0 := hA.kp.cell' HQc.out.1 (fun e => by have := HDis.out; have hh := ob_eq e; (try dsimp only at hh); omega)
      have q1 := hA.kp.cell' HQc.out.2 (fun e => by have := HDis.out; have hh := ob_eq e; (try dsimp only at hh); omega)
      have hne12 : ∀ g, (Value.slice (some ⟨g2, 0, none⟩) (N + 3) (N + 3)).ownBlock = some g → ¬ (Value.slice (some ⟨g1, 0, none⟩) (M + 3) (M + 3)).ownBlock = some g := fun g e e' => by
        have h1 : g2 = g := by simpa [Value.ownBlock] using e
        have h2 : g1 = g := by simpa [Value.ownBlock] using e'
        have := HDis.out
        omega
      have HB2 := hidM (own_ap HB1.out hA.kp hne12)
      clear hne12
      have HCb2 : Hid (wr.cell? ⟨Bx, 1, none⟩ = some (.slice bo N bc)) := hA.kp.cell' HCb.out.2 (fun e => by have := HDis.out; have hh := ob_eq e; (try dsimp only at hh); omega)
      have HQ2 : Hid (wr.cell? ⟨Ob, 0, none⟩ = some (.slice (some ⟨g1, 0, none⟩) M (M + 3)) ∧ wr.cell? ⟨Ob, 1, none⟩ = some (.slice (some ⟨g2, 0, none⟩) N (N + 3))) := ⟨q0, q1⟩
      obtain ⟨a, ha⟩ : ∃ a, a = l.take M := ⟨_, rfl⟩
      have hal : a.length = M := by have := hA.b.len; rw [ha, List.length_take]; omega
      have HAb : Hid (BytesAt wr (some ⟨g1, 0, none⟩) a) := by show BytesAt _ _ _; rw [ha]; exact hA.b.bytes.take M
      have HBb2 : Hid (BytesAt wr (some ⟨g2, 0, none⟩) b) := bt_pre (bytes_of_own HB2.out)
      have HAl := hidM hal
      obtain ⟨p, hp⟩ : ∃ p, p = putR a b := ⟨_, rfl⟩
      obtain ⟨pl, hpl⟩ : ∃ pl, pl = p.length := ⟨_, rfl⟩
      obtain ⟨pq, hpq⟩ : ∃ pq, pq = putE a b := ⟨_, rfl⟩
      have hplb : pl ≤ 5000000 := by rw [hpl, hp]; exact putR_len a b
      have HC7 : Hid (∀ V, Gr wr V → Calls Try.prog 7 #[.agg #[.slice (some ⟨g1, 0, none⟩) M (M + 3), .slice (some ⟨g2, 0, none⟩) N (N + 3)]] V fun e w' => ∃ vo vc, e = .returned (.tuple #[.slice vo pl vc, .int .i64 pq]) ∧ Byts V w' vo vc pl p) := fun V g => by
        have := HPD.out V g1 g2 a b HAl.out HN.out.symm (HAb.out.gr g) (HBb2.out.gr g)
        rw [← hp, ← hpl, ← hpq] at this
        exact this
      have HC9 : Hid (∀ V, Gr wr V → Calls Try.prog 9 #[.agg #[.slice (some ⟨g1, 0, none⟩) M (M + 3), .slice (some ⟨g2, 0, none⟩) N (N + 3)]] V fun e w' => ∃ vo vc, e = .returned (.tuple #[.slice vo pl vc, .int .i64 pq]) ∧ Byts V w' vo vc pl p) := fun V g => by
        have := HPP.out V g1 g2 a b HAl.out HN.out.symm (HAb.out.gr g) (HBb2.out.gr g)
        rw [← hp, ← hpl, ← hpq] at this
        exact this
      have HC10 : Hid (∀ V xo xc yo yc, BytesAt V xo p → BytesAt V yo p → Calls Try.prog 10 #[.slice xo pl xc, .slice yo pl yc] V fun e w' => e = .returned (.bool true) ∧ Gr V w') := fun V xo xc yo yc h1 h2 => by
        rw [hpl]; exact HSm.out V xo xc yo yc p (by omega) h1 h2
      clear hA HK ha hal hp hpl hpq HBb2 HA1 HCb
      go_wp2_with (go_at_call 7; refine Hid.out ?_)
      unfold Hid
      refine Calls.mono (HC7.out _ (Keeps.refl _ _)) ?_
      rintro e X1 ⟨y1, y1c, rfl, hx1⟩
      have HX1 := hidM hx1
      clear hx1 c0 q0 q1
      have q0 := HX1.out.gr.cell' HQ2.out.1 id
      have q1 := HX1.out.gr.cell' HQ2.out.2 id
      go_wp2_with (go_at_call 9; refine Hid.out ?_)
      unfold Hid
      refine Calls.mono (HC9.out _ HX1.out.gr) ?_
      rintro e X2 ⟨y2, y2c, rfl, hx2⟩
      have HX2 := hidM hx2
      clear hx2 q0 q1
      go_wp2_with (go_at_call 10; refine Hid.out ?_)
      unfold Hid
      refine Calls.mono (HC10.out X2 y2 y2c y1 y1c HX2.out.bytes (HX1.out.bytes.gr HX2.out.gr)) ?_
      rintro e X3 ⟨rfl, gx3⟩
      have HX3 := hidM (HX1.out.gr.trans (HX2.out.gr.trans gx3 (fun _ _ h => h)) (fun _ _ h => h))
      clear gx3 HX1 HX2 HC7 HC9 HC10
      have HGw3 := hidM (HA2.out.b.gr.trans HX3.out (fun _ _ h => h))
      have HB4 : Hid (Byts w X3 (some ⟨g2, 0, none⟩) (N + 3) (N + 3) (b ++ marks)) := ⟨own_gr HB2.out HX3.out, HGw3.out, fun g e => by
        have : g2 = g := by simpa [Value.ownBlock] using e
        have := HDis.out; omega⟩
      have HA4 := hidM (HAb.out.gr HX3.out)
      have HCb4 := hidM (HX3.out.cell' HCb2.out id)
      have HQ4 : Hid (X3.cell? ⟨Ob, 0, none⟩ = some (.slice (some ⟨g1, 0, none⟩) M (M + 3)) ∧ X3.cell? ⟨Ob, 1, none⟩ = some (.slice (some ⟨g2, 0, none⟩) N (N + 3))) := ⟨HX3.out.cell' HQ2.out.1 id, HX3.out.cell' HQ2.out.2 id⟩
      have HR0 : Hid (∃ l, Ap w X3 X3 (some ⟨g2, 0, none⟩) (N + 3) (N + 3) (some ⟨g2, 0, none⟩) (N + 3) (N + 3) l) := ⟨_, Ap.refl HB4.out⟩
      clear HX3 HA2 HB2 HAb HCb2 HQ2 HB1 dI d hk HGw3
      go_wp2_with fail
      go_loopw [22] (fun q wr => ∃ k : Nat, k ≤ N ∧ q = .int .i64 (k : Int) ∧ Hid (∃ l, Ap w X3 wr (some ⟨g2, 0, none⟩) (N + 3) (N + 3) (some ⟨g2, 0, none⟩) (N + 3) (N + 3) l)) (fun q _ => N - (intOf q).toNat)
      case atStart => exact ⟨0, by omega, rfl, HR0.out⟩
      case round =>
        obtain ⟨k, hk, rfl, HK⟩ := hrel
        clear HR0
        obtain ⟨l, hA⟩ := HK.out
        have c0 := hA.kp.cell' HCb4.out (fun e => by have := HDis.out; have hh := ob_eq e; (try dsimp only at hh); omega)
        by_cases d : k < N
        · have dI : (k : Int) < (N : Int) := by omega
          have dI3 : (k : Int) < (N : Int) + 3 := by omega
          have hk0 : (0 : Int) ≤ (k : Int) := by omega
          obtain ⟨X, hX, z0, z1, z2⟩ := hA.set (k := k) (by omega)
          cases hX
          have hw : IntKind.u8.wrap (((l.getD k 0).toNat : Int) + 1) = ((l.getD k 0 + 1).toNat : Int) := by
            have := (l.getD k 0).toNat_lt
            rw [IntKind.wrap_u8, UInt8.toNat_add]
            have e1 : UInt8.toNat 1 = 1 := rfl
            rw [e1]
            omega
          have HNx := hidM (z2 (l.getD k 0 + 1))
          obtain ⟨z, hz⟩ : ∃ z : Int, z = ((l.getD k 0).toNat : Int) := ⟨_, rfl⟩
          obtain ⟨y, hy⟩ : ∃ y : Int, y = ((l.getD k 0 + 1).toNat : Int) := ⟨_, rfl⟩
          rw [← hz] at z0 hw
          rw [← hy] at hw HNx
          clear hA z2 hz hy HK
          go_wp2_with fail
          go_roundw
          case rel => exact ⟨k + 1, by omega, by simp, _, HNx.out⟩
          case measure => simp [intOf]; omega
        have dI : ¬ (k : Int) < (N : Int) := by omega
        have q0 := hA.kp.cell' HQ4.out.1 (fun e => by have := HDis.out; have hh := ob_eq e; (try dsimp only at hh); omega)
        have q1 := hA.kp.cell' HQ4.out.2 (fun e => by have := HDis.out; have hh := ob_eq e; (try dsimp only at hh); omega)
        have HQ5 : Hid (wr.cell? ⟨Ob, 0, none⟩ = some (.slice (some ⟨g1, 0, none⟩) M (M + 3)) ∧ wr.cell? ⟨Ob, 1, none⟩ = some (.slice (some ⟨g2, 0, none⟩) N (N + 3))) := ⟨q0, q1⟩
        have HGe := hidM hA.b.gr
        have HAb : Hid (BytesAt wr (some ⟨g1, 0, none⟩) a) := HA4.out.keep hA.kp (fun X o e e' => by
          cases e
          have : g2 = g1 := by simpa [Value.ownBlock] using e'
          have := HDis.out; omega)
        obtain ⟨a2, ha2⟩ : ∃ a, a = l.take N := ⟨_, rfl⟩
        have hal2 : a2.length = N := by have := hA.b.len; rw [ha2, List.length_take]; omega
        have HBb5 : Hid (BytesAt wr (some ⟨g2, 0, none⟩) a2) := by show BytesAt _ _ _; rw [ha2]; exact hA.b.bytes.take N
        have HAl2 := hidM hal2
        obtain ⟨p', hp'⟩ : ∃ p, p = putR a a2 := ⟨_, rfl⟩
        obtain ⟨pl', hpl'⟩ : ∃ pl, pl = p'.length := ⟨_, rfl⟩
        obtain ⟨pq', hpq'⟩ : ∃ pq, pq = putE a a2 := ⟨_, rfl⟩
        have hplb' : pl' ≤ 5000000 := by rw [hpl', hp']; exact putR_len a a2
        have HC7 : Hid (∀ V, Gr wr V → Calls Try.prog 7 #[.agg #[.slice (some ⟨g1, 0, none⟩) M (M + 3), .slice (some ⟨g2, 0, none⟩) N (N + 3)]] V fun e w' => ∃ vo vc, e = .returned (.tuple #[.slice vo pl' vc, .int .i64 pq']) ∧ Byts V w' vo vc pl' p') := fun V g => by
          have := HPD.out V g1 g2 a a2 HAl.out HAl2.out (HAb.out.gr g) (HBb5.out.gr g)
          rw [← hp', ← hpl', ← hpq'] at this
          exact this
        have HC9 : Hid (∀ V, Gr wr V → Calls Try.prog 9 #[.agg #[.slice (some ⟨g1, 0, none⟩) M (M + 3), .slice (some ⟨g2, 0, none⟩) N (N + 3)]] V fun e w' => ∃ vo vc, e = .returned (.tuple #[.slice vo pl' vc, .int .i64 pq']) ∧ Byts V w' vo vc pl' p') := fun V g => by
          have := HPP.out V g1 g2 a a2 HAl.out HAl2.out (HAb.out.gr g) (HBb5.out.gr g)
          rw [← hp', ← hpl', ← hpq'] at this
          exact this
        have HC10 : Hid (∀ V xo xc yo yc, BytesAt V xo p' → BytesAt V yo p' → Calls Try.prog 10 #[.slice xo pl' xc, .slice yo pl' yc] V fun e w' => e = .returned (.bool true) ∧ Gr V w') := fun V xo xc yo yc h1 h2 => by
          rw [hpl']; exact HSm.out V xo xc yo yc p' (by omega) h1 h2
        clear hA HK ha2 hal2 hp' hpl' hpq' HB4 HCb4 HQ4
        go_wp2_with (go_at_call 7; refine Hid.out ?_)
        unfold Hid
        refine Calls.mono (HC7.out _ (Keeps.refl _ _)) ?_
        rintro e X1 ⟨y1, y1c, rfl, hx1⟩
        have HX1 := hidM hx1
        clear hx1 c0 q0 q1
        have q0 := HX1.out.gr.cell' HQ5.out.1 id
        have q1 := HX1.out.gr.cell' HQ5.out.2 id
        go_wp2_with (go_at_call 9; refine Hid.out ?_)
        unfold Hid
        refine Calls.mono (HC9.out _ HX1.out.gr) ?_
        rintro e X2 ⟨y2, y2c, rfl, hx2⟩
        have HX2 := hidM hx2
        clear hx2 q0 q1
        go_wp2_with (go_at_call 10; refine Hid.out ?_)
        unfold Hid
        refine Calls.mono (HC10.out X2 y2 y2c y1 y1c HX2.out.bytes (HX1.out.bytes.gr HX2.out.gr)) ?_
        rintro e X4 ⟨rfl, gx4⟩
        have HEnd := hidM (HGe.out.trans (HX1.out.gr.trans (HX2.out.gr.trans gx4 (fun _ _ h => h)) (fun _ _ h => h)) (fun _ _ h => h))
        clear gx4 HX1 HX2 HC7 HC9 HC10
        go_wp2_with fail
        go_ret
        exact ⟨rfl, HEnd.out⟩
end Go.Proofs.Ytemleibpmaclmaa.Kit
