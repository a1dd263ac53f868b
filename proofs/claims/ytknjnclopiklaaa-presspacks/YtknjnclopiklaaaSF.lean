import Derived.Test.YtknjnclopiklaaaSE
namespace Go.Proofs.Ytknjnclopiklaaa.Kit
open Go.RowKit Go.Shelf Go.Deep
set_option linter.unusedVariables false
attribute [local go_sem] run_store_func

/-! ### the document's Pack, and the law -/
set_option maxRecDepth 100000 in
set_option maxHeartbeats 2000000 in
theorem packDoc_any {ao : Option Addr} {ca : Nat} {bs : List UInt8} {w : World} (how : Int) (h : BytesAt w ao bs) (hca : bs.length ≤ ca) (hl : bs.length ≤ 140737488355328) :
    Calls Try.prog 16 #[.int .i64 how, .slice ao bs.length ca] w fun e w' => ∃ vo vc n, e = .returned (.tuple #[.slice vo n vc, .int .i64 (packE how bs)]) ∧ Byts w w' vo vc n (packR how bs) := by
  obtain ⟨L, hL⟩ : ∃ L, L = bs.length := ⟨_, rfl⟩
  have HL := hidM hL
  rw [← hL] at hl ⊢
  by_cases c0 : howB how = true
  rotate_left
  · have c0' : howB how = false := by simpa using c0
    have HE : Hid (packE how bs = 1 ∧ packR how bs = []) := by
      have : packE how bs = 1 := by unfold packE; rw [if_pos c0']
      exact ⟨this, by unfold packR; rw [this]; rfl⟩
    have hd : how < 0 ∨ 2 < how := by unfold howB at c0'; simp at c0'; omega
    by_cases d1 : how < 0
    · clear h hca c0 c0' hL hd
      go_enter Try.func16, Try.ntmps16
      go_wp2_with fail
      refine bodyPost_ret (v := .tuple #[.slice none 0 0, .int .i64 1]) ?_ rfl ⟨none, 0, 0, by rw [HE.out.1], by rw [HE.out.2]; exact Byts.nil _ _ (Keeps.refl _ _)⟩
      simp [results, Try.f16, go_sem]
    · have d2 : 2 < how := by omega
      clear h hca c0 c0' hL hd
      go_enter Try.func16, Try.ntmps16
      go_wp2_with fail
      refine bodyPost_ret (v := .tuple #[.slice none 0 0, .int .i64 1]) ?_ rfl ⟨none, 0, 0, by rw [HE.out.1], by rw [HE.out.2]; exact Byts.nil _ _ (Keeps.refl _ _)⟩
      simp [results, Try.f16, go_sem]
  have d1 : ¬ how < 0 := by unfold howB at c0; simp at c0; omega
  have d2 : ¬ 2 < how := by unfold howB at c0; simp at c0; omega
  by_cases c1 : 65536 < L
  · have c1I : (65536 : Int) < (L : Int) := by omega
    have HE : Hid (packE how bs = 4 ∧ packR how bs = []) := by
      have : packE how bs = 4 := by unfold packE; rw [c0, if_neg (by decide), if_pos (by omega)]
      exact ⟨this, by unfold packR; rw [this]; rfl⟩
    clear h hca c0 hL
    go_enter Try.func16, Try.ntmps16
    go_wp2_with fail
    refine bodyPost_ret (v := .tuple #[.slice none 0 0, .int .i64 4]) ?_ rfl ⟨none, 0, 0, by rw [HE.out.1], by rw [HE.out.2]; exact Byts.nil _ _ (Keeps.refl _ _)⟩
    simp [results, Try.f16, go_sem]
  have c1I : ¬ (65536 : Int) < (L : Int) := by omega
  have HE : Hid (packE how bs = 0 ∧ packR how bs = packH how bs) := by
    have : packE how bs = 0 := by unfold packE; rw [c0, if_neg (by decide), if_neg (by omega)]
    exact ⟨this, by unfold packR; rw [this]; rfl⟩
  have hh : how = 0 ∨ how = 1 ∨ how = 2 := by omega
  clear d1 d2
  rcases hh with rfl | rfl | rfl
  · have hsrc := src_all (ca := ca) (h.gr (gr_alloc w (.cells #[] 5)))
    rw [← hL] at hsrc
    have HSrc := hidM hsrc
    clear h c0 hL hsrc
    go_enter Try.func16, Try.ntmps16
    go_wp2_with (at_builtin; refine Hid.out ?_)
    unfold Hid
    have hB0 : Byts w (w.alloc (.cells #[] 5)) (some ⟨w.heap.size, 0, none⟩) 0 0 [] := Byts.empty w
    refine wpList_append_any _ rfl (.tmp 26) (.tmp 27) 25 25 rfl 5 (.int .u8 0) 1 Try.underlying25 info5 rfl _ 0 (bv []) rfl hB0.own _ L (bv bs) rfl HSrc.out (by omega) (by omega) ?_
    intro v' w1 hown hgrow hblk
    obtain ⟨vo2, vc2, rfl⟩ := own_form1 hown
    have HN := hidM (hB0.app (us := bs) rfl hown hgrow hblk).b
    clear hown hgrow hblk hB0
    go_wp2_with fail
    refine bodyPost_ret (v := .tuple #[.slice vo2 (0 + L) vc2, .int .i64 0]) ?_ rfl ⟨vo2, vc2, 0 + L, by rw [HE.out.1], by rw [HE.out.2]; exact HN.out⟩
    simp [results, Try.f16, go_sem]
  · have HP := hidM (packRunsR_any (ca := ca) h hca (by omega))
    rw [← hL] at HP
    clear h c0 hL
    go_enter Try.func16, Try.ntmps16
    go_wp2_with (go_at_call 25; refine Hid.out ?_)
    unfold Hid
    refine Calls.mono HP.out ?_
    rintro e V ⟨vo, vc, n, rfl, hb⟩
    go_wp2_with fail
    refine bodyPost_ret (v := .tuple #[.slice vo n vc, .int .i64 0]) ?_ rfl ⟨vo, vc, n, by rw [HE.out.1], by rw [HE.out.2]; exact hb⟩
    simp [results, Try.f16, go_sem]
  · have HP := hidM (packBackR_any (ca := ca) h hca (by omega))
    rw [← hL] at HP
    clear h c0 hL
    go_enter Try.func16, Try.ntmps16
    go_wp2_with (go_at_call 26; refine Hid.out ?_)
    unfold Hid
    refine Calls.mono HP.out ?_
    rintro e V ⟨vo, vc, n, rfl, hb⟩
    go_wp2_with fail
    refine bodyPost_ret (v := .tuple #[.slice vo n vc, .int .i64 0]) ?_ rfl ⟨vo, vc, n, by rw [HE.out.1], by rw [HE.out.2]; exact hb⟩
    simp [results, Try.f16, go_sem]
set_option maxRecDepth 100000 in
set_option maxHeartbeats 2000000 in
theorem packs_true {ao : Option Addr} {ca : Nat} {bs : List UInt8} {w : World} (how : Int) (h : BytesAt w ao bs) (hca : bs.length ≤ ca) (hl : bs.length ≤ 140737488355328) :
    Calls Try.prog 10 #[.int .i64 how, .slice ao bs.length ca] w fun e w' => e = .returned (.bool true) ∧ Gr w w' := by
  obtain ⟨L, hL⟩ : ∃ L, L = bs.length := ⟨_, rfl⟩
  have HD := hidM (packDoc_any (ca := ca) how h hca hl)
  have HP : Hid (∀ V, Gr w V → Calls Try.prog 15 #[.int .i64 how, .slice ao L ca] V fun e w' => ∃ vo vc n, e = .returned (.tuple #[.slice vo n vc, .int .i64 (packE how bs)]) ∧ Byts V w' vo vc n (packR how bs)) := fun V g => by
    rw [hL]; exact pack_any how (h.gr g) hca hl
  obtain ⟨p, hp⟩ : ∃ p, p = packE how bs := ⟨_, rfl⟩
  obtain ⟨l, hlr⟩ : ∃ l, l = packR how bs := ⟨_, rfl⟩
  rw [← hp, ← hlr] at HD HP
  rw [← hL] at HD ⊢
  clear h hca hL hp hlr hl
  go_enter Try.func10, Try.ntmps10
  go_wp2_with (go_at_call 16; refine Hid.out ?_)
  unfold Hid
  refine Calls.mono HD.out ?_
  rintro e V ⟨vo, vc, n, rfl, hb⟩
  have HB := hidM hb
  have hn := hb.len
  clear hb
  go_wp2_with (go_at_call 15; refine Hid.out ?_)
  unfold Hid
  refine Calls.mono (HP.out V HB.out.gr) ?_
  rintro e V2 ⟨vo2, vc2, n2, rfl, hb2⟩
  have hn2 := hb2.len
  obtain rfl : n2 = n := by omega
  have hs1 : (convert 25 9 (.slice vo n2 vc)).run Try.prog V2 = .ok (.string ⟨l.toArray⟩) V2 := by rw [← hn]; exact bytes_string (HB.out.bytes.gr hb2.gr)
  have hs2 : (convert 25 9 (.slice vo2 n2 vc2)).run Try.prog V2 = .ok (.string ⟨l.toArray⟩) V2 := by rw [← hn]; exact bytes_string hb2.bytes
  have HG := hidM (HB.out.gr.trans hb2.gr (fun _ _ h => h))
  obtain ⟨S, hS⟩ : ∃ S : ByteArray, S = ⟨l.toArray⟩ := ⟨_, rfl⟩
  rw [← hS] at hs1 hs2
  clear hS hb2 hn hn2
  go_wp2_with fail
  go_ret
  exact ⟨rfl, HG.out⟩
/-! ### lists of bytes -/
structure BsD where
  ao : Option Addr
  bs : List UInt8
  ca : Nat
instance : Inhabited BsD := ⟨⟨none, [], 0⟩⟩
structure BsIn (W : World) (x : BsD) : Prop where
  cap : x.bs.length ≤ x.ca
  len : x.bs.length ≤ 140737488355328
  at_ : BytesAt W x.ao x.bs
def BssAt (W : World) (lo : Option Addr) (l : List BsD) : Prop :=
  l.length ≤ 1000000000000000 ∧ (l ≠ [] → ∃ b o, lo = some ⟨b, o, none⟩ ∧ ∀ i (h : i < l.length), W.cell? ⟨b, o + i, none⟩ = some (.slice l[i].ao l[i].bs.length l[i].ca) ∧ BsIn W l[i])
def HowsAt (W : World) (lo : Option Addr) (l : List Int) : Prop :=
  l.length ≤ 1000000000000000 ∧ (l ≠ [] → ∃ b o, lo = some ⟨b, o, none⟩ ∧ ∀ i (h : i < l.length), W.cell? ⟨b, o + i, none⟩ = some (.int .i64 l[i]))
set_option maxRecDepth 100000 in
set_option maxHeartbeats 4000000 in
theorem packsLaw_any {lo ho : Option Addr} {lc hc : Nat} {l : List BsD} {hs : List Int} {w : World} (h : BssAt w lo l) (hh : HowsAt w ho hs) :
    Calls Try.prog 4 #[.slice lo l.length lc, .slice ho hs.length hc] w fun e w' => e = .returned (.bool true) ∧ Gr w w' := by
  have hlb := h.1
  have hhb := hh.1
  have HO := hidM h.2
  have HH := hidM hh.2
  have HAw := hidM (awake_any w)
  obtain ⟨N, hN⟩ : ∃ N, N = l.length := ⟨_, rfl⟩
  obtain ⟨M, hM⟩ : ∃ M, M = hs.length := ⟨_, rfl⟩
  rw [← hN] at hlb
  rw [← hM] at hhb
  rw [← hN, ← hM]
  have HN := hidM hN
  have HM := hidM hM
  have HEl : Hid (∀ i, i < N → ∃ b o ao bs ca, lo = some ⟨b, o, none⟩ ∧ w.cell? ⟨b, o + i, none⟩ = some (.slice ao (bs : List UInt8).length ca) ∧ ∀ V how, Gr w V → Calls Try.prog 10 #[.int .i64 how, .slice ao bs.length ca] V fun e w' => e = .returned (.bool true) ∧ Gr V w') := fun i hi => by
    have cl : i < l.length := by rw [← hN]; exact hi
    obtain ⟨b, o, e, hc⟩ := h.2 (ne_nil cl)
    obtain ⟨k0, kin⟩ := hc i cl
    exact ⟨b, o, _, _, _, e, k0, fun V how g => packs_true how (kin.at_.gr g) kin.cap kin.len⟩
  clear h hh hN hM HO
  go_enter Try.func4, Try.ntmps4
  go_wp2_with (go_at_call 9; refine Hid.out ?_)
  unfold Hid
  refine Calls.mono HAw.out ?_
  rintro e W1 ⟨rfl, hg1⟩
  have HG1 := hidM hg1
  clear hg1
  go_wp2_with fail
  go_loopw [15] (fun p wr => ∃ i : Nat, i ≤ N ∧ p = .int .i64 (i : Int) ∧ Hid (Gr w wr)) (fun p _ => N - (intOf p).toNat)
  case atStart => exact ⟨0, by omega, rfl, HG1.out⟩
  case round =>
    obtain ⟨i, hi, rfl, HG⟩ := hrel
    by_cases c : i < N
    · have cI : (i : Int) < (N : Int) := by omega
      have hi0 : (0 : Int) ≤ (i : Int) := by omega
      obtain ⟨b, o, ao, bs, ca, hlo, k0, kc⟩ := HEl.out i c
      subst hlo
      have t0 := HG.out.cell' k0 id
      have HK := hidM kc
      obtain ⟨L, hL⟩ : ∃ L, L = bs.length := ⟨_, rfl⟩
      rw [← hL] at t0 HK
      clear k0 kc hL
      go_wp2_with fail
      clear t0
      go_loopw [7] (fun p wi => ∃ k : Nat, k ≤ 3 ∧ p = .int .i64 (k : Int) ∧ Hid (Gr w wi)) (fun p _ => 3 - (intOf p).toNat)
      case atStart => exact ⟨0, by omega, rfl, HG.out⟩
      case round =>
        obtain ⟨k, hk, rfl, HGk⟩ := hrel
        by_cases d : k < 3
        · have dI : (k : Int) < 3 := by omega
          go_wp2_with (go_at_call 10; refine Hid.out ?_)
          unfold Hid
          refine Calls.mono (HK.out wr (k : Int) HGk.out) ?_
          rintro e V ⟨rfl, hg⟩
          have HG2 := hidM (HGk.out.trans hg (fun _ _ h => h))
          clear hg
          go_wp2_with fail
          go_roundw
          case rel => exact ⟨k + 1, by omega, by simp, HG2.out⟩
          case measure => simp [intOf]; omega
        · have dI : ¬ (k : Int) < 3 := by omega
          go_wp2_with fail
          go_roundw
          case rel => exact ⟨i + 1, by omega, by simp, HGk.out⟩
          case measure => simp [intOf]; omega
    · have cI : ¬ (i : Int) < (N : Int) := by omega
      go_wp2_with fail
      go_loopw [30] (fun p wr => ∃ i : Nat, i ≤ M ∧ p = .int .i64 (i : Int) ∧ Hid (Gr w wr)) (fun p _ => M - (intOf p).toNat)
      case atStart => exact ⟨0, by omega, rfl, HG.out⟩
      case round =>
        obtain ⟨j, hj, rfl, HGj⟩ := hrel
        by_cases d : j < M
        rotate_left
        · have dI : ¬ (j : Int) < (M : Int) := by omega
          go_wp2_with fail
          go_ret
          exact ⟨rfl, HGj.out⟩
        have dI : (j : Int) < (M : Int) := by omega
        have hj0 : (0 : Int) ≤ (j : Int) := by omega
        have dl : j < hs.length := by rw [← HM.out]; exact d
        obtain ⟨hb, hof, hho, hcs⟩ := HH.out (ne_nil dl)
        subst hho
        have t0 := HGj.out.cell' (hcs j dl) id
        obtain ⟨how, hhw⟩ : ∃ x, x = hs[j] := ⟨_, rfl⟩
        rw [← hhw] at t0
        clear hcs hhw dl
        have hw : IntKind.u8.wrap (j : Int) = ((UInt8.ofNat (j % 256)).toNat : Int) := by rw [u8_ofNat (by omega), IntKind.wrap_u8]; omega
        obtain ⟨x8, hx8⟩ : ∃ x : UInt8, x = UInt8.ofNat (j % 256) := ⟨_, rfl⟩
        rw [← hx8] at hw
        obtain ⟨x, hx⟩ : ∃ x : Int, x = (x8.toNat : Int) := ⟨_, rfl⟩
        rw [← hx] at hw
        have HX := hidM hx
        clear hx8 hx
        have HGa := hidM (HGj.out.alloc (.cells #[.int .u8 x, .int .u8 1, .int .u8 1, .int .u8 1, .int .u8 1, .int .u8 1] 5))
        by_cases d2 : j < N
        · have d2I : (j : Int) < (N : Int) := by omega
          obtain ⟨b, o, ao, bs, ca, hlo, k0, kc⟩ := HEl.out j d2
          subst hlo
          have t1 := HGa.out.cell' k0 id
          have HK := hidM kc
          obtain ⟨L, hL⟩ : ∃ L, L = bs.length := ⟨_, rfl⟩
          rw [← hL] at t1 HK
          clear k0 kc hL
          go_wp2_with (go_at_call 10; refine Hid.out ?_)
          unfold Hid
          refine Calls.mono (HK.out _ how HGa.out) ?_
          rintro e V ⟨rfl, hg⟩
          have HG2 := hidM (HGa.out.trans hg (fun _ _ h => h))
          clear hg t0 t1
          go_wp2_with fail
          go_roundw
          case rel => exact ⟨j + 1, by omega, by simp, HG2.out⟩
          case measure => simp [intOf]; omega
        · have d2I : ¬ (j : Int) < (N : Int) := by omega
          have hB6 : BytesAt (wr.alloc (.cells #[.int .u8 x, .int .u8 1, .int .u8 1, .int .u8 1, .int .u8 1, .int .u8 1] 5)) (some ⟨wr.heap.size, 0, none⟩) [x8, 1, 1, 1, 1, 1] := by
            rw [HX.out]
            exact bytes_new wr [x8, 1, 1, 1, 1, 1] (0, 0)
          have HK := hidM (packs_true (ca := 6) how hB6 (by simp) (by simp))
          clear hB6
          go_wp2_with (go_at_call 10; refine Hid.out ?_)
          unfold Hid
          refine Calls.mono HK.out ?_
          rintro e V ⟨rfl, hg⟩
          have HG2 := hidM (HGa.out.trans hg (fun _ _ h => h))
          clear hg t0
          go_wp2_with fail
          go_roundw
          case rel => exact ⟨j + 1, by omega, by simp, HG2.out⟩
          case measure => simp [intOf]; omega

end Go.Proofs.Ytknjnclopiklaaa.Kit
