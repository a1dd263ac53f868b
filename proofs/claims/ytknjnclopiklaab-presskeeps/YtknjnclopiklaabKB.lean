import Derived.Test.YtknjnclopiklaabKA
namespace Go.Proofs.Ytknjnclopiklaab.Kit
open Go.RowKit Go.Shelf Go.Deep
set_option linter.unusedVariables false
attribute [local go_sem] run_store_func

theorem Ten.apart5 {w W : World} {lo : Option Addr} {lc N : Nat} {R : Nat → Option Addr × Nat × Nat} {M : Nat → Nat → Int} (h : Ten w W lo lc N R M) {X n : Nat} {F : Nat → Int} (b : BRow W X n F) : ¬ (Value.slice lo N lc).ownBlock = some X := by
  intro e
  obtain ⟨c, c1, -⟩ := b.ex
  rcases h.own.2 with ⟨q, -⟩ | ⟨g, cap, cur, q, h1, h2, -⟩
  · cases q; simp [Value.ownBlock] at e
  · cases q
    have : g = X := by simpa [Value.ownBlock] using e
    subst this
    rw [h2] at c1
    cases c1
/-- two more rows -/
theorem Ten.app {w W W1 V W2 W3 W4 : World} {lo lo' vo1 vo2 : Option Addr} {lc lc' N vc1 n1 vc2 n2 : Nat} {b1 b2 : List UInt8} {R : Nat → Option Addr × Nat × Nat} {M : Nat → Nat → Int} (h : Ten w W lo lc N R M)
    (hp : Byts W W1 vo1 vc1 n1 b1) (g1 : Gr W1 V) (hx : Byts V W2 vo2 vc2 n2 b2) (g3 : Gr W2 W3) (hn1 : n1 ≤ 1000000) (hn2 : n2 ≤ 1000000)
    (own : W4.ownsRow 0 22 1 (.slice lo' (N + 2) lc') (N + 2) (((List.range N).map fun i => rv (R i)) ++ [.slice vo1 n1 vc1, .slice vo2 n2 vc2]))
    (hg : W3.grownBy W4 (Value.slice lo N lc).ownBlock) (hor : (Value.slice lo' (N + 2) lc').ownBlock = (Value.slice lo N lc).ownBlock ∨ ∀ g, (Value.slice lo' (N + 2) lc').ownBlock = some g → W3.heap.size ≤ g) :
    ∃ R' M', Ten w W4 lo' lc' (N + 2) R' M' := by
  have gWV : Gr W V := hp.gr.trans g1 (fun _ _ h => h)
  have gV3 : Gr V W3 := hx.gr.trans g3 (fun _ _ h => h)
  have g13 : Gr W1 W3 := g1.trans gV3 (fun _ _ h => h)
  have h' := h.grow (gWV.trans gV3 (fun _ _ h => h))
  have k4 := Keeps.ofGrown hg
  have keep : ∀ {X n : Nat} {F : Nat → Int}, BRow W3 X n F → BRow W4 X n F := fun b => b.kp (k4.block _ b.lt (h'.apart5 b))
  have s1 := h.gr.size
  have s2 := gWV.size
  have s3 := gV3.size
  have p3 := own_kp hp.own fun b e => g13.block b (own_lt hp.own b e) id
  have x3 := own_kp hx.own fun b e => g3.block b (own_lt hx.own b e) id
  have pl : ∀ X, vo1 = some ⟨X, 0, none⟩ → W.heap.size ≤ X ∧ X < V.heap.size := fun X e => by
    subst e
    have := own_lt hp.own X rfl
    have := g1.size
    exact ⟨hp.new X rfl, by omega⟩
  have xl : ∀ X, vo2 = some ⟨X, 0, none⟩ → V.heap.size ≤ X := fun X e => by
    subst e
    exact hx.new X rfl
  have ol : ∀ i X, i < N → 0 < (R i).2.1 → (R i).1 = some ⟨X, 0, none⟩ → X < W.heap.size := fun i X hi h0 e => by
    obtain ⟨Y, y1, y2, y3⟩ := h.row i hi h0
    rw [e] at y1
    cases y1
    exact y3.lt
  obtain ⟨R', hR'⟩ : ∃ R' : Nat → Option Addr × Nat × Nat, R' = fun i => if i < N then R i else if i = N then (vo1, n1, vc1) else (vo2, n2, vc2) := ⟨_, rfl⟩
  have r0 : ∀ i, i < N → R' i = R i := fun i hi => by rw [hR']; simp only; rw [if_pos hi]
  have r1 : R' N = (vo1, n1, vc1) := by rw [hR']; simp
  have r2 : R' (N + 1) = (vo2, n2, vc2) := by rw [hR']; simp only; rw [if_neg (by omega), if_neg (by omega)]
  have bd : ∀ i X, i < N + 2 → 0 < (R' i).2.1 → (R' i).1 = some ⟨X, 0, none⟩ → (i < N → X < W.heap.size) ∧ (i = N → W.heap.size ≤ X ∧ X < V.heap.size) ∧ (i = N + 1 → V.heap.size ≤ X) := fun i X hi h0 e => by
    refine ⟨fun hlt => ?_, fun q => ?_, fun q => ?_⟩
    · rw [r0 i hlt] at h0 e; exact ol i X hlt h0 e
    · subst q; rw [r1] at e; exact pl X e
    · subst q; rw [r2] at e; exact xl X e
  refine ⟨R', fun i k => if i < N then M i k else if i = N then ((b1.getD k 0).toNat : Int) else ((b2.getD k 0).toNat : Int), h'.gr.trans k4 (fun j hj e => by have := h.lnew j e; omega), ?_, fun g e => ?_, fun i hi h0 => ?_, fun i hi => ?_, fun i j X hi hj hij h0 h1 e1 e2 => ?_⟩
  · have e : ((List.range (N + 2)).map fun i => rv (R' i)) = ((List.range N).map fun i => rv (R i)) ++ [.slice vo1 n1 vc1, .slice vo2 n2 vc2] := by
      rw [List.range_succ, List.range_succ, List.map_append, List.map_append, List.append_assoc]
      congr 1
      · exact List.map_congr_left fun i hi => by rw [r0 i (List.mem_range.1 hi)]
      · simp only [List.map_cons, List.map_nil, r1, r2]; rfl
    rw [e]
    exact own
  · rcases hor with q | q
    · rw [q] at e; exact h.lnew g e
    · have := q g e; omega
  · by_cases c : i < N
    · rw [r0 i c] at h0 ⊢
      obtain ⟨X, x1, x2, y3⟩ := h'.row i c h0
      exact ⟨X, x1, x2, (keep y3).congr (fun k _ => by rw [if_pos c])⟩
    · by_cases d : i = N
      · subst d
        rw [r1] at h0 ⊢
        obtain ⟨X, x1, y3⟩ := BRow.of_own p3 h0
        exact ⟨X, x1, by have := pl X x1; omega, (keep y3).congr (fun k _ => by rw [if_neg (by omega), if_pos rfl])⟩
      · have d' : i = N + 1 := by omega
        subst d'
        rw [r2] at h0 ⊢
        obtain ⟨X, x1, y3⟩ := BRow.of_own x3 h0
        exact ⟨X, x1, by have := xl X x1; omega, (keep y3).congr (fun k _ => by rw [if_neg (by omega), if_neg (by omega)])⟩
  · by_cases c : i < N
    · rw [r0 i c]; exact h.len i c
    · by_cases d : i = N
      · subst d; rw [r1]; exact hn1
      · have d' : i = N + 1 := by omega
        subst d'
        rw [r2]; exact hn2
  · have q1 := bd i X hi h0 e1
    have q2 := bd j X hj h1 e2
    by_cases c : i < N
    · by_cases d : j < N
      · rw [r0 i c] at h0 e1
        rw [r0 j d] at h1 e2
        exact h.apart i j X c d hij h0 h1 e1 e2
      · omega
    · omega
set_option maxRecDepth 100000 in
set_option maxHeartbeats 8000000 in
theorem turns_any {ao : Option Addr} {ca : Nat} {bs p : List UInt8} {w : World} (how : Int) (h : BytesAt w ao bs) (hca : bs.length ≤ ca) (hl : bs.length ≤ 65536) (he : packE how bs = 0) (hp : packR how bs = p) (hpl : p.length ≤ 1000000) (hu : unpackE how p (bs.length : Int) = (0, bs)) :
    Calls Try.prog 9 #[.int .i64 how, .string ⟨p.toArray⟩, .slice ao bs.length ca] w fun e w' => e = .returned (.bool true) ∧ Gr w w' := by
  have HA := hidM h
  obtain ⟨L, hL⟩ : ∃ L, L = bs.length := ⟨_, rfl⟩
  have HL := hidM hL
  have HCa := hidM hca
  have HPk : Hid (∀ V, Gr w V → Calls Try.prog 6 #[.int .i64 how, .slice ao L ca] V fun e w' => ∃ vo vc, e = .returned (.tuple #[.slice vo p.length vc, .int .i64 0]) ∧ Byts V w' vo vc p.length p) := fun V g => by
    rw [hL]
    refine (pack_any how (HA.out.gr g) HCa.out (by omega)).mono ?_
    rintro e w' ⟨vo, vc, n, rfl, hb⟩
    rw [he]
    rw [hp] at hb
    have := hb.len
    subst this
    exact ⟨vo, vc, rfl, hb⟩
  have HUn : Hid (∀ V so sc, BytesAt V so p → p.length ≤ sc → Calls Try.prog 7 #[.int .i64 how, .slice so p.length sc, .int .i64 (L : Int)] V fun e w' => ∃ vo vc, e = .returned (.tuple #[.slice vo L vc, .int .i64 0]) ∧ Byts V w' vo vc L bs) := fun V so sc hb hc => by
    refine (unpack_any how (L : Int) hb hc (by omega)).mono ?_
    rw [hL, hu]
    rintro e w' ⟨vo, vc, n, rfl, hb⟩
    have := hb.len
    subst this
    exact ⟨vo, vc, rfl, hb⟩
  obtain ⟨P, hP⟩ : ∃ P, P = p.length := ⟨_, rfl⟩
  have hPb : P ≤ 1000000 := by omega
  obtain ⟨S, hS⟩ : ∃ S : ByteArray, S = ⟨p.toArray⟩ := ⟨_, rfl⟩
  obtain ⟨T, hT⟩ : ∃ T : ByteArray, T = ⟨bs.toArray⟩ := ⟨_, rfl⟩
  have HSt : Hid (∀ V vo vc, BytesAt V vo p → (convert 22 9 (.slice vo P vc)).run Try.prog V = .ok (.string S) V) := fun V vo vc hb => by rw [hP, hS]; exact bytes_string hb
  have HTt : Hid (∀ V vo vc, BytesAt V vo bs → (convert 22 9 (.slice vo L vc)).run Try.prog V = .ok (.string T) V) := fun V vo vc hb => by rw [hL, hT]; exact bytes_string hb
  have HCv : Hid (∀ V, ∃ cp V', (convert 9 22 (.string S)).run Try.prog V = .ok (.slice (some ⟨V.heap.size, 0, none⟩) P cp) V' ∧ Gr V V' ∧ BytesAt V' (some ⟨V.heap.size, 0, none⟩) p ∧ P ≤ cp) := fun V => by rw [hP, hS]; exact conv_in V p
  rw [← hP] at HPk HUn
  rw [← hL] at hl ⊢
  rw [← hS]
  clear h hca hL hP hS hT hu hp he hpl
  go_enter Try.func9, Try.ntmps9
  go_wp2_with fail
  go_loopw [7, 8] (fun v q wr => ∃ (i N : Nat) (lo : Option Addr) (lc : Nat), i ≤ 5 ∧ N ≤ 10 ∧ q = .int .i64 (i : Int) ∧ v = .slice lo N lc ∧ Hid (N = 2 * i ∧ ∃ R M, Ten w wr lo lc N R M)) (fun _ q _ => 5 - (intOf q).toNat)
  case atStart => exact ⟨0, 0, _, _, by omega, by omega, rfl, rfl, rfl, fun _ => (none, 0, 0), fun _ _ => 0, Ten.empty w _ _⟩
  case round =>
    obtain ⟨i, N, lo, lc, hi, hN, rfl, rfl, HR⟩ := hrel
    obtain ⟨hN2, R, M, hTen⟩ := HR.out
    have HN2 := hidM hN2
    have HT0 := hidM hTen
    clear HR hN2 hTen
    by_cases c : i < 5
    · have cI : (i : Int) < 5 := by omega
      have hN8 : N ≤ 8 := by have := HN2.out; omega
      go_wp2_with (go_at_call 6; refine Hid.out ?_)
      unfold Hid
      refine Calls.mono (HPk.out _ HT0.out.gr) ?_
      rintro e W1 ⟨vo1, vc1, rfl, hb1⟩
      have HB1 := hidM hb1
      obtain ⟨cp, V, hcv, gV, hbV, hcp⟩ := HCv.out W1
      have HGV := hidM gV
      obtain ⟨so, hso⟩ : ∃ so : Option Addr, so = some ⟨W1.heap.size, 0, none⟩ := ⟨_, rfl⟩
      rw [← hso] at hcv hbV
      have HC7 := hidM (HUn.out V so cp hbV hcp)
      clear hb1 gV hbV hcp hso
      go_wp2_with (go_at_call 7; refine Hid.out ?_)
      unfold Hid
      refine Calls.mono HC7.out ?_
      rintro e W2 ⟨vo2, vc2, rfl, hb2⟩
      have HB2 := hidM hb2
      have g12 : Gr W1 W2 := HGV.out.trans hb2.gr (fun _ _ h => h)
      have hs1 := HSt.out W2 vo1 vc1 (HB1.out.bytes.gr g12)
      have hs2 := HTt.out W2 vo2 vc2 hb2.bytes
      have hs3 := HTt.out W2 ao ca (HA.out.gr (HT0.out.gr.trans (HB1.out.gr.trans g12 (fun _ _ h => h)) (fun _ _ h => h)))
      clear hb2 hcv g12 HC7
      go_wp2_with (at_builtin; refine Hid.out ?_)
      unfold Hid
      have gA := gr_alloc W2 (.cells #[.slice vo1 P vc1, .slice vo2 L vc2] 22)
      have hT1 := HT0.out.grow (HB1.out.gr.trans (HGV.out.trans (HB2.out.gr.trans gA (fun _ _ h => h)) (fun _ _ h => h)) (fun _ _ h => h))
      refine wpList_append_any _ rfl (.tmp 56) (.tmp 59) 44 44 rfl 22 (.slice none 0 0) 24 Try.underlying44 info22 rfl _ N _ rfl hT1.own _ 2 [.slice vo1 P vc1, .slice vo2 L vc2] rfl (src_two W2 _ _ rfl rfl) (by omega) (by omega) ?_
      intro v' w1 hown hgrow hblk
      obtain ⟨lo', lc', rfl⟩ := own_form1 hown
      have HTn := hidM (HT0.out.app HB1.out HGV.out HB2.out gA hPb (by omega) hown hgrow hblk)
      clear hown hgrow hblk hT1 gA hs1 hs2 hs3
      go_wp2_with fail
      go_roundw
      case rel => exact ⟨i + 1, N + 2, lo', lc', by omega, by omega, by simp, rfl, by have := HN2.out; omega, HTn.out⟩
      case measure => simp [intOf]; omega
    have cI : ¬ (i : Int) < 5 := by omega
    have hN0 : 0 < N := by have := HN2.out; omega
    obtain ⟨Lb, hlo, -, -⟩ := HT0.out.cell hN0
    subst hlo
    have HCell : Hid (∀ W M', Ten w W (some ⟨Lb, 0, none⟩) lc N R M' → ∀ i, i < N → W.cell? ⟨Lb, i, none⟩ = some (rv (R i))) := fun W M' t j hj => by
      obtain ⟨L', e, -, hc⟩ := t.cell (by omega)
      cases e
      exact hc j hj
    clear HPk HUn HSt HTt HCv HN2 hN0
    go_wp2_with fail
    go_loopw [63] (fun q wr => ∃ i : Nat, i ≤ N ∧ q = .int .i64 (i : Int) ∧ Hid (∃ M, Ten w wr (some ⟨Lb, 0, none⟩) lc N R M ∧ ∀ j k, j < i → k < (R j).2.1 → M j k = ((j + 1 : Nat) : Int))) (fun q _ => N - (intOf q).toNat)
    case atStart => exact ⟨0, by omega, rfl, M, HT0.out, fun j k hj => by omega⟩
    case round =>
      clear cI c hi
      obtain ⟨i, hi, rfl, HR⟩ := hrel
      by_cases c : i < N
      · have cI : (i : Int) < (N : Int) := by omega
        have hi0 : (0 : Int) ≤ (i : Int) := by omega
        obtain ⟨M1, hT1, hM1⟩ := HR.out
        have t0 := HCell.out _ _ hT1 i c
        obtain ⟨ro, rn, rc, hRi⟩ : ∃ ro rn rc, R i = (ro, rn, rc) := ⟨_, _, _, rfl⟩
        rw [hRi] at t0
        have HRi := hidM hRi
        have hrn : rn ≤ 1000000 := by have := hT1.len i c; rw [hRi] at this; exact this
        have t0' : wr.cell? ⟨Lb, i, none⟩ = some (.slice ro rn rc) := t0
        clear t0 hRi
        clear hT1 hM1
        go_wp2_with fail
        clear t0'
        go_loopw [71] (fun q wi => ∃ k : Nat, k ≤ rn ∧ q = .int .i64 (k : Int) ∧ Hid (∃ M, Ten w wi (some ⟨Lb, 0, none⟩) lc N R M ∧ (∀ j k, j < i → k < (R j).2.1 → M j k = ((j + 1 : Nat) : Int)) ∧ ∀ k', k' < k → M i k' = ((i + 1 : Nat) : Int))) (fun q _ => rn - (intOf q).toNat)
        case atStart => 
          obtain ⟨M1, hT1, hM1⟩ := HR.out
          exact ⟨0, by omega, rfl, M1, hT1, hM1, fun k hk => by omega⟩
        case round =>
          obtain ⟨k, hk, rfl, HK⟩ := hrel
          by_cases d : k < rn
          · have dI : (k : Int) < (rn : Int) := by omega
            have hk0 : (0 : Int) ≤ (k : Int) := by omega
            obtain ⟨M2, hT2, hM2, hM3⟩ := HK.out
            have t0 := HCell.out _ _ hT2 i c
            rw [HRi.out] at t0
            have t0' : wr.cell? ⟨Lb, i, none⟩ = some (.slice ro rn rc) := t0
            clear t0
            obtain ⟨X, x1, x2, x3⟩ := hT2.row i c (by rw [HRi.out]; show 0 < rn; omega)
            have hro : ro = some ⟨X, 0, none⟩ := by rw [HRi.out] at x1; exact x1
            rw [HRi.out] at x3
            have t1 := x3.cell (k := k) d
            have t2 := x3.frz k
            obtain ⟨z, hz⟩ : ∃ z, z = M2 i k := ⟨_, rfl⟩
            rw [← hz] at t1
            obtain ⟨q, hq⟩ : ∃ q : Int, q = ((i + 1 : Nat) : Int) := ⟨_, rfl⟩
            have hw : IntKind.u8.wrap ((i : Int) + 1) = q := by rw [hq, IntKind.wrap_u8]; omega
            have HNx : Hid (∃ M, Ten w (wr.setCell ⟨X, k, none⟩ (.int .u8 q)) (some ⟨Lb, 0, none⟩) lc N R M ∧ (∀ j k, j < i → k < (R j).2.1 → M j k = ((j + 1 : Nat) : Int)) ∧ ∀ k', k' < k + 1 → M i k' = ((i + 1 : Nat) : Int)) := by
              refine ⟨_, hT2.set (k := k) c (by rw [HRi.out]; exact d) x1 q, fun j k' hj hk' => ?_, fun k' hk' => ?_⟩
              · rw [if_neg (by omega)]; exact hM2 j k' hj hk'
              · by_cases e : k' = k
                · rw [if_pos ⟨rfl, e⟩]; exact hq
                · rw [if_neg (by omega)]; exact hM3 k' (by omega)
            clear hT2 hM2 hM3 x1 x2 x3 hz hq HK
            subst hro
            go_wp2_with fail
            go_roundw
            case rel => exact ⟨k + 1, by omega, by simp, HNx.out⟩
            case measure => simp [intOf]; omega
          · have dI : ¬ (k : Int) < (rn : Int) := by omega
            have HNx : Hid (∃ M, Ten w wr (some ⟨Lb, 0, none⟩) lc N R M ∧ ∀ j k, j < i + 1 → k < (R j).2.1 → M j k = ((j + 1 : Nat) : Int)) := by
              obtain ⟨M2, hT2, hM2, hM3⟩ := HK.out
              refine ⟨M2, hT2, fun j k' hj hk' => ?_⟩
              by_cases e : j = i
              · subst e; rw [HRi.out] at hk'; exact hM3 k' (by have : k' < rn := hk'; omega)
              · exact hM2 j k' (by omega) hk'
            clear HK
            go_wp2_with fail
            go_roundw
            case rel => exact ⟨i + 1, by omega, by simp, HNx.out⟩
            case measure => simp [intOf]; omega
      have cI : ¬ (i : Int) < (N : Int) := by omega
      obtain ⟨M1, hT1, hM1⟩ := HR.out
      have HT1 := hidM hT1
      have HM : Hid (∀ j k, j < N → k < (R j).2.1 → M1 j k = ((j + 1 : Nat) : Int)) := fun j k hj hk => hM1 j k (by omega) hk
      clear HR hT1 hM1 HT0
      go_wp2_with fail
      go_loopw [87] (fun q wr => ∃ i : Nat, i ≤ N ∧ q = .int .i64 (i : Int) ∧ Hid (Ten w wr (some ⟨Lb, 0, none⟩) lc N R M1)) (fun q _ => N - (intOf q).toNat)
      case atStart => exact ⟨0, by omega, rfl, HT1.out⟩
      case round =>
        clear cI c hi HT1
        obtain ⟨i, hi, rfl, HR⟩ := hrel
        by_cases c : i < N
        rotate_left
        · have cI : ¬ (i : Int) < (N : Int) := by omega
          go_wp2_with fail
          go_ret
          exact ⟨rfl, HR.out.gr⟩
        have cI : (i : Int) < (N : Int) := by omega
        have hi0 : (0 : Int) ≤ (i : Int) := by omega
        have t0 := HCell.out _ _ HR.out i c
        obtain ⟨ro, rn, rc, hRi⟩ : ∃ ro rn rc, R i = (ro, rn, rc) := ⟨_, _, _, rfl⟩
        rw [hRi] at t0
        have HRi := hidM hRi
        have hrn : rn ≤ 1000000 := by have := HR.out.len i c; rw [hRi] at this; exact this
        have t0' : wr.cell? ⟨Lb, i, none⟩ = some (.slice ro rn rc) := t0
        clear t0 hRi
        go_wp2_with fail
        clear t0'
        go_loopw [95] (fun q wi => ∃ k : Nat, k ≤ rn ∧ q = .int .i64 (k : Int) ∧ Hid (Ten w wi (some ⟨Lb, 0, none⟩) lc N R M1)) (fun q _ => rn - (intOf q).toNat)
        case atStart => exact ⟨0, by omega, rfl, HR.out⟩
        case round =>
          obtain ⟨k, hk, rfl, HK⟩ := hrel
          by_cases d : k < rn
          · have dI : (k : Int) < (rn : Int) := by omega
            have hk0 : (0 : Int) ≤ (k : Int) := by omega
            have t0 := HCell.out _ _ HK.out i c
            rw [HRi.out] at t0
            have t0' : wr.cell? ⟨Lb, i, none⟩ = some (.slice ro rn rc) := t0
            clear t0
            obtain ⟨X, x1, x2, x3⟩ := HK.out.row i c (by rw [HRi.out]; show 0 < rn; omega)
            have hro : ro = some ⟨X, 0, none⟩ := by rw [HRi.out] at x1; exact x1
            have hm := HM.out i k c (by rw [HRi.out]; exact d)
            rw [HRi.out] at x3
            have t1 := x3.cell (k := k) d
            obtain ⟨q, hq⟩ : ∃ q : Int, q = ((i + 1 : Nat) : Int) := ⟨_, rfl⟩
            have hw : IntKind.u8.wrap ((i : Int) + 1) = q := by rw [hq, IntKind.wrap_u8]; omega
            rw [hm, ← hq] at t1
            clear x1 x2 x3 hm hq
            subst hro
            go_wp2_with fail
            go_roundw
            case rel => exact ⟨k + 1, by omega, by simp, HK.out⟩
            case measure => simp [intOf]; omega
          · have dI : ¬ (k : Int) < (rn : Int) := by omega
            go_wp2_with fail
            go_roundw
            case rel => exact ⟨i + 1, by omega, by simp, HK.out⟩
            case measure => simp [intOf]; omega
end Go.Proofs.Ytknjnclopiklaab.Kit
