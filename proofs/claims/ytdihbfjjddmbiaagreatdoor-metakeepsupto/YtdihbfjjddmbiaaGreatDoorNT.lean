import Derived.Test.YtdihbfjjddmbiaaGreatDoorYH
import Derived.Test.YtdihbfjjddmbiaaGreatDoorRU
import Derived.Test.YtdihbfjjddmbiaaGreatDoorYF
import Derived.Test.YtdihbfjjddmbiaaGreatDoorRows
import Derived.Test.YtdihbfjjddmbiaaGreatDoorLD
import Derived.ProofKit
import Derived.OpenShut
import Derived.ChangeOld
import Derived.Below
import Derived.Deep.Slices
import Derived.Lib.LaidTab
import Derived.Deep.DeepHandedRow
set_option maxRecDepth 100000
set_option maxHeartbeats 4000000
namespace Go.Proofs.YtdihbfjjddmbiaaGreatDoor.Kit
open Go.RowKit Go.Shelf Go.Deep
set_option linter.unusedVariables false
set_option linter.unusedSimpArgs false
attribute [local go_sem] run_store_func
theorem spoil28 {U V W : World} {hd : HD} {v : Value} (h : HV9 U V hd v) (g : Gr V W) (l0 : hd.fs.length ≤ 100000) (l1 : hd.ns.length ≤ 100000) (l2 : hd.nds.length ≤ 100000) (l3 : hd.sls.length ≤ 100000) : Calls Tryz.prog 28 #[v] W fun e w' => e = .returned (.tuple #[]) ∧ Keeps W w' (fun z => U.heap.size ≤ z ∧ z < V.heap.size) := by
  obtain ⟨fo, fc, no, nc, vo, vc, uo, uc, rfl, hcap, hrow, hns, hnd, hsl⟩ := h
  obtain ⟨lo, hlo⟩ : ∃ lo, lo = U.heap.size := ⟨_, rfl⟩
  obtain ⟨hi, hhi⟩ : ∃ hi, hi = V.heap.size := ⟨_, rfl⟩
  obtain ⟨nn, hnn⟩ : ∃ nn, nn = hd.ns.length := ⟨_, rfl⟩
  obtain ⟨nv, hnv⟩ : ∃ nv, nv = hd.nds.length := ⟨_, rfl⟩
  obtain ⟨nu, hnu⟩ : ∃ nu, nu = hd.sls.length := ⟨_, rfl⟩
  obtain ⟨nf, hnf⟩ : ∃ nf, nf = hd.fs.length := ⟨_, rfl⟩
  obtain ⟨x0, h0⟩ : ∃ x : Int, x = (hd.kind : Int) := ⟨_, rfl⟩
  obtain ⟨x3, h3⟩ : ∃ x : Int, x = (hd.id : Int) := ⟨_, rfl⟩
  obtain ⟨x4, h4⟩ : ∃ x, x = hd.delta := ⟨_, rfl⟩
  obtain ⟨x5, h5⟩ : ∃ x : Int, x = (hd.rows : Int) := ⟨_, rfl⟩
  obtain ⟨x6, h6⟩ : ∃ x : Int, x = (hd.press : Int) := ⟨_, rfl⟩
  obtain ⟨fs, hfs⟩ : ∃ fs, fs = hd.fs := ⟨_, rfl⟩
  have hg : ∀ b, b < hi → W.heap[b]? = V.heap[b]? := fun b hb => g.block b (by omega) id
  rw [← h0, ← h3, ← h4, ← h5, ← h6, ← hnn, ← hnv, ← hnu, ← hlo, ← hhi]
  rw [← hlo, ← hhi] at hrow
  obtain ⟨A0, hA0⟩ := ex (W.alloc (.cells #[.int .i64 x0, .slice fo hd.fs.length fc, .slice no nn nc, .int .i64 x3, .bool x4, .int .i64 x5, .int .i64 x6, .slice vo nv vc, .slice uo nu uc] 29))
  rw [← hfs] at hA0 hrow l0 ⊢
  rw [← hfs] at hnf
  have gA := gr_al hA0
  have bA : A0.heap[W.heap.size]? = some (.cells #[.int .i64 x0, .slice fo fs.length fc, .slice no nn nc, .int .i64 x3, .bool x4, .int .i64 x5, .int .i64 x6, .slice vo nv vc, .slice uo nu uc] 29 (0, 0)) := by rw [← hA0]; exact heap_alloc_new W _
  have hsz : hi ≤ W.heap.size := by rw [hhi]; exact g.size
  have hV : ∀ b, b < hi → A0.heap[b]? = V.heap[b]? := fun b hb => (gA.block b (by omega) id).trans (hg b hb)
  have oN : Hid (Sp lo hi W W.heap.size (.int .i64 x0) (.slice fo fs.length fc) (.int .i64 x3) (.bool x4) (.int .i64 x5) (.int .i64 x6) no nn nc vo nv vc uo nu uc A0) := by
    refine ⟨gA.mono fun _ _ h => h.elim, bA, Nat.le_refl _, ?_, fun g e => .inl ?_, ?_, fun g e => .inl ?_, ?_, fun g e => .inl ?_⟩
    · exact ⟨_, by rw [hnn]; exact row_kp hns.own fun g e => hV g (by rw [hhi]; exact own_lt hns.own g e)⟩
    · rw [hnn] at e; exact ⟨by rw [hlo]; exact hns.new g e, by rw [hhi]; exact own_lt hns.own g e⟩
    · exact ⟨_, by rw [hnv]; exact row_kp hnd.own fun g e => hV g (by rw [hhi]; exact own_lt hnd.own g e)⟩
    · rw [hnv] at e; exact ⟨by rw [hlo]; exact hnd.new g e, by rw [hhi]; exact own_lt hnd.own g e⟩
    · exact ⟨_, by rw [hnu]; exact row_kp hsl.own fun g e => hV g (by rw [hhi]; exact own_lt hsl.own g e)⟩
    rw [hnu] at e; exact ⟨by rw [hlo]; exact hsl.new g e, by rw [hhi]; exact own_lt hsl.own g e⟩
  have HR : Hid (RowI lo hi A0 65 fo fc fs) := hrow.kept fun b b1 b2 => hV b b2
  have HC48 : Hid (Calls Tryz.prog 48 #[.slice fo fs.length fc] A0 (SpQ lo hi 65 fo fc fs.length A0)) := spoil48 65 lo hi fo fc fs A0 HR.out (Nat.le_trans hsz gA.size)
  have HSZ := hidM hsz
  have c1 := (ce9 bA).2.1
  rw [← hnf] at HC48 c1 hA0 oN ⊢
  rw [← hnf] at l0
  rw [← hnn] at l1
  rw [← hnv] at l2
  rw [← hnu] at l3
  clear hcap hrow hns hnd hsl hlo hhi hnn hnv hnu hnf h0 h3 h4 h5 h6 hfs hg gA bA hsz hV g HR
  go_enter Tryz.func28, Tryz.ntmps28
  go_wp2_with (go_at_call 48; refine HC48.out.mono ?_)
  rintro e w1 ⟨rfl, k1, fs', hf', hr'⟩
  have HP1 := hidM (oN.out.gr k1)
  have HF1 : Hid (∃ fs' : List FT, fs'.length = nf ∧ RowI lo hi w1 65 fo fc fs') := ⟨fs', hf', hr'⟩
  clear k1 hf' hr' c1 oN HC48
  go_wp2_with fail
  go_loopw [2] (fun p wr => ∃ k : Nat, k ≤ nn ∧ p = .int .i64 (k : Int) ∧ Hid (Sp lo hi W W.heap.size (.int .i64 x0) (.slice fo nf fc) (.int .i64 x3) (.bool x4) (.int .i64 x5) (.int .i64 x6) no nn nc vo nv vc uo nu uc wr) ∧ Hid (∃ fs' : List FT, fs'.length = nf ∧ RowI lo hi wr 65 fo fc fs')) (fun p _ => nn - (intOf p).toNat)
  case atStart => exact ⟨0, by omega, rfl, HP1.out, HF1.out⟩
  case round =>
    obtain ⟨k, hk, rfl, HP, HF⟩ := hrel
    have c2 := (ce9 HP.out.box).2.2.1
    by_cases hlt : k < nn
    · have hltI : (k : Int) < (nn : Int) := by omega
      obtain ⟨g, cur, rfl, hg, hs⟩ := HP.out.n.form (by omega)
      have cc : wr.cell? ⟨g, k * 2, none⟩ = some (cur[k * 2]'(by omega)) := by rw [cell_of hg, Array.getElem?_eq_getElem (by omega)]
      have zz := frz hg (k * 2)
      obtain ⟨vv, hvv⟩ : ∃ vv, vv = cur[k * 2]'(by omega) := ⟨_, rfl⟩
      rw [← hvv] at cc
      have HS : Hid (∀ x, Sp lo hi W W.heap.size (.int .i64 x0) (.slice fo nf fc) (.int .i64 x3) (.bool x4) (.int .i64 x5) (.int .i64 x6) (some ⟨g, 0, none⟩) nn nc vo nv vc uo nu uc (wr.setCell ⟨g, k * 2, none⟩ x)) := fun x => HP.out.set hg (by decide) (HP.out.nb g rfl) _ x
      have HR2 : Hid (∀ x, ∃ fs' : List FT, fs'.length = nf ∧ RowI lo hi (wr.setCell ⟨g, k * 2, none⟩ x) 65 fo fc fs') := fun x => by
        obtain ⟨fs', h1, h2⟩ := HF.out
        refine ⟨fs', h1, h2.kept52 fun b c hb => heap_setCell_other _ _ _ _ fun e => ?_⟩
        have e2 : b = g := e
        rw [e2, hg] at hb
        simp at hb
      clear hvv hg hs
      go_wp2_with fail
      go_roundw
      case rel => exact ⟨k + 1, by omega, by simp, HS.out _, HR2.out _⟩
      case measure => simp [intOf]; omega
    have hkn : k = nn := by omega
    subst hkn
    have HP2 := hidM HP.out
    have HF2 := hidM HF.out
    clear HP HF HP1 HF1 hk hlt
    go_wp2_with fail
    go_loopw [3] (fun p wr => ∃ k2 : Nat, k2 ≤ nv ∧ p = .int .i64 (k2 : Int) ∧ Hid (Sp lo hi W W.heap.size (.int .i64 x0) (.slice fo nf fc) (.int .i64 x3) (.bool x4) (.int .i64 x5) (.int .i64 x6) no k nc vo nv vc uo nu uc wr) ∧ Hid (∃ fs' : List FT, fs'.length = nf ∧ RowI lo hi wr 65 fo fc fs')) (fun p _ => nv - (intOf p).toNat)
    case atStart => exact ⟨0, by omega, rfl, HP2.out, HF2.out⟩
    case round =>
      obtain ⟨k2, hk, rfl, HP, HF⟩ := hrel
      have c7 := (ce9 HP.out.box).2.2.2.2.2.2.2.1
      by_cases hlt : k2 < nv
      · have hltI : (k2 : Int) < (nv : Int) := by omega
        obtain ⟨g, cur, rfl, hg, hs⟩ := HP.out.d.form (by omega)
        have cc : wr.cell? ⟨g, k2 * 2, none⟩ = some (cur[k2 * 2]'(by omega)) := by rw [cell_of hg, Array.getElem?_eq_getElem (by omega)]
        have zz := frz hg (k2 * 2)
        obtain ⟨vv, hvv⟩ : ∃ vv, vv = cur[k2 * 2]'(by omega) := ⟨_, rfl⟩
        rw [← hvv] at cc
        have HS : Hid (∀ x, Sp lo hi W W.heap.size (.int .i64 x0) (.slice fo nf fc) (.int .i64 x3) (.bool x4) (.int .i64 x5) (.int .i64 x6) no k nc (some ⟨g, 0, none⟩) nv vc uo nu uc (wr.setCell ⟨g, k2 * 2, none⟩ x)) := fun x => HP.out.set hg (by decide) (HP.out.db g rfl) _ x
        have HR2 : Hid (∀ x, ∃ fs' : List FT, fs'.length = nf ∧ RowI lo hi (wr.setCell ⟨g, k2 * 2, none⟩ x) 65 fo fc fs') := fun x => by
          obtain ⟨fs', h1, h2⟩ := HF.out
          refine ⟨fs', h1, h2.kept52 fun b c hb => heap_setCell_other _ _ _ _ fun e => ?_⟩
          have e2 : b = g := e
          rw [e2, hg] at hb
          simp at hb
        clear hvv hg hs
        go_wp2_with fail
        go_roundw
        case rel => exact ⟨k2 + 1, by omega, by simp, HS.out _, HR2.out _⟩
        case measure => simp [intOf]; omega
      have hkn : k2 = nv := by omega
      subst hkn
      have HP3 := hidM HP.out
      have HF3 := hidM HF.out
      clear HP HF HP2 HF2 hk hlt
      go_wp2_with fail
      go_loopw [4] (fun p wr => ∃ k3 : Nat, k3 ≤ nu ∧ p = .int .i64 (k3 : Int) ∧ Hid (Sp lo hi W W.heap.size (.int .i64 x0) (.slice fo nf fc) (.int .i64 x3) (.bool x4) (.int .i64 x5) (.int .i64 x6) no k nc vo k2 vc uo nu uc wr) ∧ Hid (∃ fs' : List FT, fs'.length = nf ∧ RowI lo hi wr 65 fo fc fs')) (fun p _ => nu - (intOf p).toNat)
      case atStart => exact ⟨0, by omega, rfl, HP3.out, HF3.out⟩
      case round =>
        obtain ⟨k3, hk, rfl, HP, HF⟩ := hrel
        have c8 := (ce9 HP.out.box).2.2.2.2.2.2.2.2
        by_cases hlt : k3 < nu
        · have hltI : (k3 : Int) < (nu : Int) := by omega
          obtain ⟨g, cur, rfl, hg, hs⟩ := HP.out.s.form (by omega)
          have cc : wr.cell? ⟨g, k3 * 3, none⟩ = some (cur[k3 * 3]'(by omega)) := by rw [cell_of hg, Array.getElem?_eq_getElem (by omega)]
          have zz := frz hg (k3 * 3)
          obtain ⟨vv, hvv⟩ : ∃ vv, vv = cur[k3 * 3]'(by omega) := ⟨_, rfl⟩
          rw [← hvv] at cc
          have HS : Hid (∀ x, Sp lo hi W W.heap.size (.int .i64 x0) (.slice fo nf fc) (.int .i64 x3) (.bool x4) (.int .i64 x5) (.int .i64 x6) no k nc vo k2 vc (some ⟨g, 0, none⟩) nu uc (wr.setCell ⟨g, k3 * 3, none⟩ x)) := fun x => HP.out.set hg (by decide) (HP.out.sb g rfl) _ x
          have HR2 : Hid (∀ x, ∃ fs' : List FT, fs'.length = nf ∧ RowI lo hi (wr.setCell ⟨g, k3 * 3, none⟩ x) 65 fo fc fs') := fun x => by
            obtain ⟨fs', h1, h2⟩ := HF.out
            refine ⟨fs', h1, h2.kept52 fun b c hb => heap_setCell_other _ _ _ _ fun e => ?_⟩
            have e2 : b = g := e
            rw [e2, hg] at hb
            simp at hb
          clear hvv hg hs
          go_wp2_with fail
          go_roundw
          case rel => exact ⟨k3 + 1, by omega, by simp, HS.out _, HR2.out _⟩
          case measure => simp [intOf]; omega
        have hkn : k3 = nu := by omega
        subst hkn
        have HP4 := hidM HP.out
        obtain ⟨fs4, hf4, hr4⟩ := HF.out
        have HC49 : Hid (Calls Tryz.prog 49 #[.slice fo nf fc] wr (GrQ lo hi wr)) := by rw [← hf4]; exact grow49 65 lo hi fo fc fs4 wr hr4 (by have := HSZ.out; have := HP.out.kp.size; omega)
        have c1 := (ce9 HP.out.box).2.1
        clear hf4 hr4 HF HP HP3 HF3 hk hlt
        go_wp2_with (go_at_call 49; refine HC49.out.mono ?_)
        rintro e w4 ⟨rfl, k4⟩
        have HP5 := hidM (HP4.out.gr k4)
        clear k4 c1 HP4 HC49
        go_wp2_with fail
        go_loopw [5] (fun p wr => ∃ (j : Nat) (no : Option Addr) (nc : Nat) (vo : Option Addr) (vc : Nat) (uo : Option Addr) (uc : Nat), j ≤ 9 ∧ p = .int .i64 (j : Int) ∧ Hid (Sp lo hi W W.heap.size (.int .i64 x0) (.slice fo nf fc) (.int .i64 x3) (.bool x4) (.int .i64 x5) (.int .i64 x6) no (k + j) nc vo (k2 + j) vc uo (k3 + j) uc wr)) (fun p _ => 9 - (intOf p).toNat)
        case atStart => exact ⟨0, no, nc, vo, vc, uo, uc, by omega, rfl, HP5.out⟩
        case round =>
          obtain ⟨j, no, nc, vo, vc, uo, uc, hj, rfl, HP⟩ := hrel
          by_cases hlt : j < 9
          · have hltI : (j : Int) < 9 := by omega
            have c2 := (ce9 HP.out.box).2.2.1
            obtain ⟨xsN, hxsN⟩ := HP.out.n
            obtain ⟨A1, hA1⟩ := ex (wr.alloc (.cells #[.string ⟨#[103, 114, 111, 119, 110]⟩, .string ⟨#[]⟩] 55))
            have gA1 : Gr wr A1 := by rw [← hA1]; exact gr_alloc _ _
            have HON : Hid (A1.ownsRow 0 55 2 (.slice no (k + j) nc) (k + j) xsN) := by rw [← hA1]; exact hxsN.alloc _
            have HSN : Hid (Src Tryz.prog 2 23 (.slice (some ⟨wr.heap.size, 0, none⟩) 1 1) 1 [.string ⟨#[103, 114, 111, 119, 110]⟩, .string ⟨#[]⟩] A1) := by rw [← hA1]; exact src60 wr _ _
            have HGN := hidM gA1
            clear hxsN gA1
            go_wp2_with (at_builtin; refine Hid.out ?_)
            unfold Hid
            refine wpList_append_anyN (P := Tryz.prog) _ rfl (.tmp 64) (.tmp 66) 23 23 rfl 55 (.agg #[.string ⟨#[]⟩, .string ⟨#[]⟩]) 2 32 Tryz.underlying23 info60 rfl _ _ _ rfl HON.out _ _ _ rfl HSN.out (by omega) (by omega) ?_
            refine Hid.out ?_
            unfold Hid
            intro v' w5 hown hgrow hnew
            obtain ⟨no1, nc1, rfl⟩ := own_formK hown
            obtain ⟨hS, hq⟩ := HP.out.appN HGN.out hown hgrow hnew
            have hqb := hq.trans HP.out.box
            have d2 := (ce9 hqb).2.2.1
            have z2 := frz hqb 2
            obtain ⟨U1, hU1⟩ := ex (w5.setCell ⟨W.heap.size, 2, none⟩ (.slice no1 (k + j + 1) nc1))
            rw [hU1] at hS
            have HPa := hidM hS
            clear hown hgrow hnew hS hq hqb c2
            have c7 := (ce9 HPa.out.box).2.2.2.2.2.2.2.1
            obtain ⟨xsD, hxsD⟩ := HPa.out.d
            obtain ⟨A2, hA2⟩ := ex (U1.alloc (.cells #[.int .i64 (-77), .int .i64 0] 44))
            have gA2 : Gr U1 A2 := by rw [← hA2]; exact gr_alloc _ _
            have HOD : Hid (A2.ownsRow 0 44 2 (.slice vo (k2 + j) vc) (k2 + j) xsD) := by rw [← hA2]; exact hxsD.alloc _
            have HSD : Hid (Src Tryz.prog 2 26 (.slice (some ⟨U1.heap.size, 0, none⟩) 1 1) 1 [.int .i64 (-77), .int .i64 0] A2) := by rw [← hA2]; exact src62 U1 _ _
            have HGD := hidM gA2
            clear hxsD gA2
            go_wp2_with (at_builtin; refine Hid.out ?_)
            unfold Hid
            refine wpList_append_anyN (P := Tryz.prog) _ rfl (.tmp 71) (.tmp 73) 26 26 rfl 44 (.agg #[.int .i64 0, .int .i64 0]) 2 16 Tryz.underlying26 info62 rfl _ _ _ rfl HOD.out _ _ _ rfl HSD.out (by omega) (by omega) ?_
            refine Hid.out ?_
            unfold Hid
            intro v' w6 hown hgrow hnew
            obtain ⟨vo1, vc1, rfl⟩ := own_formK hown
            obtain ⟨hS, hq⟩ := HPa.out.appD HGD.out hown hgrow hnew
            have hqb := hq.trans HPa.out.box
            have d7 := (ce9 hqb).2.2.2.2.2.2.2.1
            have z7 := frz hqb 7
            obtain ⟨U2, hU2⟩ := ex (w6.setCell ⟨W.heap.size, 7, none⟩ (.slice vo1 (k2 + j + 1) vc1))
            rw [hU2] at hS
            have HPb := hidM hS
            clear hown hgrow hnew hS hq hqb c7
            have c8 := (ce9 HPb.out.box).2.2.2.2.2.2.2.2
            obtain ⟨xsS, hxsS⟩ := HPb.out.s
            obtain ⟨A3, hA3⟩ := ex (U2.alloc (.cells #[.int .i64 (-77), .int .i64 0, .int .i64 0] 46))
            have gA3 : Gr U2 A3 := by rw [← hA3]; exact gr_alloc _ _
            have HOS : Hid (A3.ownsRow 0 46 3 (.slice uo (k3 + j) uc) (k3 + j) xsS) := by rw [← hA3]; exact hxsS.alloc _
            have HSS : Hid (Src Tryz.prog 3 27 (.slice (some ⟨U2.heap.size, 0, none⟩) 1 1) 1 [.int .i64 (-77), .int .i64 0, .int .i64 0] A3) := by rw [← hA3]; exact src64 U2 _ _ _
            have HGS := hidM gA3
            clear hxsS gA3
            go_wp2_with (at_builtin; refine Hid.out ?_)
            unfold Hid
            refine wpList_append_anyN (P := Tryz.prog) _ rfl (.tmp 77) (.tmp 79) 27 27 rfl 46 (.agg #[.int .i64 0, .int .i64 0, .int .i64 0]) 3 24 Tryz.underlying27 info64 rfl _ _ _ rfl HOS.out _ _ _ rfl HSS.out (by omega) (by omega) ?_
            refine Hid.out ?_
            unfold Hid
            intro v' w7 hown hgrow hnew
            obtain ⟨uo1, uc1, rfl⟩ := own_formK hown
            obtain ⟨hS, hq⟩ := HPb.out.appS HGS.out hown hgrow hnew
            have hqb := hq.trans HPb.out.box
            have d8 := (ce9 hqb).2.2.2.2.2.2.2.2
            have z8 := frz hqb 8
            obtain ⟨U3, hU3⟩ := ex (w7.setCell ⟨W.heap.size, 8, none⟩ (.slice uo1 (k3 + j + 1) uc1))
            rw [hU3] at hS
            have HPc := hidM hS
            clear hown hgrow hnew hS hq hqb c8
            go_wp2_with fail
            go_roundw
            case rel => exact ⟨j + 1, no1, nc1, vo1, vc1, uo1, uc1, by omega, by simp, HPc.out⟩
            case measure => simp [intOf]; omega
          have hj9 : j = 9 := by omega
          subst hj9
          go_wp2_with fail
          go_end0
          exact ⟨rfl, HP.out.kp⟩
end Go.Proofs.YtdihbfjjddmbiaaGreatDoor.Kit
namespace Go.Proofs.YtdihbfjjddmbiaaGreatDoor.Kit
open Go.RowKit Go.Shelf Go.Deep
set_option linter.unusedVariables false
attribute [local go_sem] run_store_func
theorem same_head {S : Nat → Prop} {D : Nat} {k di rows pr : Int} {dl : Bool} {fo no vo uo fo' no' vo' uo' : Option Addr} {cf cn vc uc cf' cn' vc' uc' : Nat} {fs : List FT} {ns : List (ByteArray × ByteArray)} {nds : List (Int × Int)} {sls : List (Int × Int × Int)} {w : World} (h1 : HeadAt S D w fo no vo uo cf fs ns nds sls) (h2 : HeadAt S D w fo' no' vo' uo' cf' fs ns nds sls) :
    Ans 23 #[.agg #[.int .i64 k, .slice fo fs.length cf, .slice no ns.length cn, .int .i64 di, .bool dl, .int .i64 rows, .int .i64 pr, .slice vo nds.length vc, .slice uo sls.length uc], .agg #[.int .i64 k, .slice fo' fs.length cf', .slice no' ns.length cn', .int .i64 di, .bool dl, .int .i64 rows, .int .i64 pr, .slice vo' nds.length vc', .slice uo' sls.length uc']] true w := by
  intro W g
  have H1 := hidM (h1.gr g)
  have H2 := hidM (h2.gr g)
  have HF : Hid (Ans 40 #[.slice fo fs.length cf, .slice fo' fs.length cf'] true W) := same_fields S W H1.out.s D fs fo fo' cf cf' H1.out.row H2.out.row
  have l1 : nds.length ≤ 1000000000000 := h1.nodes.1
  have l2 : ns.length ≤ 1000000000000 := h1.notes.1
  have l3 : sls.length ≤ 1000000000000 := h1.slots.1
  obtain ⟨nf, hnf⟩ : ∃ n, n = fs.length := ⟨_, rfl⟩
  obtain ⟨nn, hnn⟩ : ∃ n, n = ns.length := ⟨_, rfl⟩
  obtain ⟨nd, hnd⟩ : ∃ n, n = nds.length := ⟨_, rfl⟩
  obtain ⟨nu, hnu⟩ : ∃ n, n = sls.length := ⟨_, rfl⟩
  rw [← hnn, ← hnd, ← hnu, ← hnf]
  rw [← hnf] at HF
  rw [← hnd] at l1
  rw [← hnn] at l2
  rw [← hnu] at l3
  have Hn := hidM (And.intro hnn (And.intro hnd hnu))
  obtain ⟨b, hb⟩ : ∃ b, b = W.heap.size := ⟨_, rfl⟩
  obtain ⟨V, hV⟩ := ex ((W.alloc (.cells #[.int .i64 k, .slice fo nf cf, .slice no nn cn, .int .i64 di, .bool dl, .int .i64 rows, .int .i64 pr, .slice vo nd vc, .slice uo nu uc] 29)).alloc (.cells #[.int .i64 k, .slice fo' nf cf', .slice no' nn cn', .int .i64 di, .bool dl, .int .i64 rows, .int .i64 pr, .slice vo' nd vc', .slice uo' nu uc'] 29))
  have s1 : (W.alloc (.cells #[.int .i64 k, .slice fo nf cf, .slice no nn cn, .int .i64 di, .bool dl, .int .i64 rows, .int .i64 pr, .slice vo nd vc, .slice uo nu uc] 29)).heap.size = b + 1 := by rw [hb]; simp
  have g1 := gr_alloc W (.cells #[.int .i64 k, .slice fo nf cf, .slice no nn cn, .int .i64 di, .bool dl, .int .i64 rows, .int .i64 pr, .slice vo nd vc, .slice uo nu uc] 29)
  have g2 := gr_alloc (W.alloc (.cells #[.int .i64 k, .slice fo nf cf, .slice no nn cn, .int .i64 di, .bool dl, .int .i64 rows, .int .i64 pr, .slice vo nd vc, .slice uo nu uc] 29)) (.cells #[.int .i64 k, .slice fo' nf cf', .slice no' nn cn', .int .i64 di, .bool dl, .int .i64 rows, .int .i64 pr, .slice vo' nd vc', .slice uo' nu uc'] 29)
  have c1 := heap_alloc_new W (.cells #[.int .i64 k, .slice fo nf cf, .slice no nn cn, .int .i64 di, .bool dl, .int .i64 rows, .int .i64 pr, .slice vo nd vc, .slice uo nu uc] 29)
  have c2 := heap_alloc_new (W.alloc (.cells #[.int .i64 k, .slice fo nf cf, .slice no nn cn, .int .i64 di, .bool dl, .int .i64 rows, .int .i64 pr, .slice vo nd vc, .slice uo nu uc] 29)) (.cells #[.int .i64 k, .slice fo' nf cf', .slice no' nn cn', .int .i64 di, .bool dl, .int .i64 rows, .int .i64 pr, .slice vo' nd vc', .slice uo' nu uc'] 29)
  rw [← hb] at c1
  rw [s1] at c2
  have g12 := g1.tr g2
  rw [hV] at g2 g12 c2
  have HA : Hid (V.heap[b]? = some (.cells #[.int .i64 k, .slice fo nf cf, .slice no nn cn, .int .i64 di, .bool dl, .int .i64 rows, .int .i64 pr, .slice vo nd vc, .slice uo nu uc] 29 (0, 0))) := (g2.block b (lt_of_heap c1) id).trans c1
  have HB : Hid (V.heap[b + 1]? = some (.cells #[.int .i64 k, .slice fo' nf cf', .slice no' nn cn', .int .i64 di, .bool dl, .int .i64 rows, .int .i64 pr, .slice vo' nd vc', .slice uo' nu uc'] 29 (0, 0))) := c2
  have HG : Hid (Gr W V) := g12
  have HV := hidM hV
  have Hb := hidM hb
  clear h1 h2 g hnf hnn hnd hnu g1 g2 g12 c1 c2 s1 hV hb
  go_enter Tryz.func23, Tryz.ntmps23
  go_wp2
  rw [HV.out, ← Hb.out]
  clear HV
  go_loopw [5] (fun p wr => ∃ j : Nat, j ≤ nn ∧ p = .int .i64 (j : Int) ∧ Hid (Gr V wr)) (fun p _ => nn - (intOf p).toNat)
  case atStart => exact ⟨0, by omega, rfl, Keeps.refl _ _⟩
  case round =>
    obtain ⟨j, hj, rfl, HK0⟩ := hrel
    have ba := (HK0.out.block b (lt_of_heap HA.out) id).trans HA.out
    have bb := (HK0.out.block (b + 1) (lt_of_heap HB.out) id).trans HB.out
    have pa : wr.cell? ⟨b, 2, none⟩ = some (.slice no nn cn) := by simp [World.cell?, ba]
    have pb : wr.cell? ⟨b + 1, 2, none⟩ = some (.slice no' nn cn') := by simp [World.cell?, bb]
    by_cases hlt : j < nn
    · have hjl : j < ns.length := by have := Hn.out; omega
      have gw : Gr W wr := HG.out.tr HK0.out
      obtain ⟨x, o, ex, hxs⟩ := (H1.out.gr gw).notes.2 (fun e => by subst e; simp at hjl)
      obtain ⟨y, u, ey, hys⟩ := (H2.out.gr gw).notes.2 (fun e => by subst e; simp at hjl)
      obtain ⟨f, hf⟩ : ∃ f, f = ns[j]'hjl := ⟨_, rfl⟩
      have hx := hxs j hjl
      have hy := hys j hjl
      rw [← hf] at hx hy
      rw [ex] at pa
      rw [ey] at pb
      have x0 : wr.cell? ⟨x, o + j * 2, none⟩ = some (.string f.1) := hx.1
      have x1 : wr.cell? ⟨x, o + j * 2 + 1, none⟩ = some (.string f.2) := hx.2
      have y0 : wr.cell? ⟨y, u + j * 2, none⟩ = some (.string f.1) := hy.1
      have y1 : wr.cell? ⟨y, u + j * 2 + 1, none⟩ = some (.string f.2) := hy.2
      have hltI : (j : Int) < (nn : Int) := by omega
      clear hx hy hxs hys ex ey ba bb gw hf hjl
      go_wp2
      go_region_held3 (fun w' => w'.cell? ⟨b, 2, none⟩ = some (.slice (some ⟨x, o, none⟩) nn cn) ∧ w'.cell? ⟨b + 1, 2, none⟩ = some (.slice (some ⟨y, u, none⟩) nn cn') ∧ w'.cell? ⟨x, o + j * 2, none⟩ = some (.string f.1) ∧ w'.cell? ⟨x, o + j * 2 + 1, none⟩ = some (.string f.2) ∧ w'.cell? ⟨y, u + j * 2, none⟩ = some (.string f.1) ∧ w'.cell? ⟨y, u + j * 2 + 1, none⟩ = some (.string f.2)) (go_keep) (fail)
      all_goals
        go_wp2_with fail
        go_roundw
        case rel => exact ⟨j + 1, by omega, by simp, HK0.out.drewN _⟩
        case measure => simp [intOf]; omega
    have hjn : j = nn := by omega
    subst hjn
    clear hlt
    go_wp2
    go_loopw [6] (fun p wr => ∃ j : Nat, j ≤ nd ∧ p = .int .i64 (j : Int) ∧ Hid (Gr V wr)) (fun p _ => nd - (intOf p).toNat)
    case atStart => exact ⟨0, by omega, rfl, HK0.out⟩
    case round =>
      obtain ⟨j, hj, rfl, HK1⟩ := hrel
      have ba := (HK1.out.block b (lt_of_heap HA.out) id).trans HA.out
      have bb := (HK1.out.block (b + 1) (lt_of_heap HB.out) id).trans HB.out
      have pa : wr.cell? ⟨b, 7, none⟩ = some (.slice vo nd vc) := by simp [World.cell?, ba]
      have pb : wr.cell? ⟨b + 1, 7, none⟩ = some (.slice vo' nd vc') := by simp [World.cell?, bb]
      by_cases hlt : j < nd
      · have hjl : j < nds.length := by have := Hn.out; omega
        have gw : Gr W wr := HG.out.tr HK1.out
        obtain ⟨x, o, ex, hxs⟩ := (H1.out.gr gw).nodes.2 (fun e => by subst e; simp at hjl)
        obtain ⟨y, u, ey, hys⟩ := (H2.out.gr gw).nodes.2 (fun e => by subst e; simp at hjl)
        obtain ⟨f, hf⟩ : ∃ f, f = nds[j]'hjl := ⟨_, rfl⟩
        have hx := hxs j hjl
        have hy := hys j hjl
        rw [← hf] at hx hy
        rw [ex] at pa
        rw [ey] at pb
        have x0 : wr.cell? ⟨x, o + j * 2, none⟩ = some (.int .i64 f.1) := hx.1
        have x1 : wr.cell? ⟨x, o + j * 2 + 1, none⟩ = some (.int .i64 f.2) := hx.2
        have y0 : wr.cell? ⟨y, u + j * 2, none⟩ = some (.int .i64 f.1) := hy.1
        have y1 : wr.cell? ⟨y, u + j * 2 + 1, none⟩ = some (.int .i64 f.2) := hy.2
        have hltI : (j : Int) < (nd : Int) := by omega
        clear hx hy hxs hys ex ey ba bb gw hf hjl
        go_wp2
        go_region_held3 (fun w' => w'.cell? ⟨b, 7, none⟩ = some (.slice (some ⟨x, o, none⟩) nd vc) ∧ w'.cell? ⟨b + 1, 7, none⟩ = some (.slice (some ⟨y, u, none⟩) nd vc') ∧ w'.cell? ⟨x, o + j * 2, none⟩ = some (.int .i64 f.1) ∧ w'.cell? ⟨x, o + j * 2 + 1, none⟩ = some (.int .i64 f.2) ∧ w'.cell? ⟨y, u + j * 2, none⟩ = some (.int .i64 f.1) ∧ w'.cell? ⟨y, u + j * 2 + 1, none⟩ = some (.int .i64 f.2)) (go_keep) (fail)
        all_goals
          go_wp2_with fail
          go_roundw
          case rel => exact ⟨j + 1, by omega, by simp, HK1.out.drewN _⟩
          case measure => simp [intOf]; omega
      have hjn : j = nd := by omega
      subst hjn
      clear hlt
      go_wp2
      go_loopw [7] (fun p wr => ∃ j : Nat, j ≤ nu ∧ p = .int .i64 (j : Int) ∧ Hid (Gr V wr)) (fun p _ => nu - (intOf p).toNat)
      case atStart => exact ⟨0, by omega, rfl, HK1.out⟩
      case round =>
        obtain ⟨j, hj, rfl, HK2⟩ := hrel
        have ba := (HK2.out.block b (lt_of_heap HA.out) id).trans HA.out
        have bb := (HK2.out.block (b + 1) (lt_of_heap HB.out) id).trans HB.out
        have pa : wr.cell? ⟨b, 8, none⟩ = some (.slice uo nu uc) := by simp [World.cell?, ba]
        have pb : wr.cell? ⟨b + 1, 8, none⟩ = some (.slice uo' nu uc') := by simp [World.cell?, bb]
        by_cases hlt : j < nu
        · have hjl : j < sls.length := by have := Hn.out; omega
          have gw : Gr W wr := HG.out.tr HK2.out
          obtain ⟨x, o, ex, hxs⟩ := (H1.out.gr gw).slots.2 (fun e => by subst e; simp at hjl)
          obtain ⟨y, u, ey, hys⟩ := (H2.out.gr gw).slots.2 (fun e => by subst e; simp at hjl)
          obtain ⟨f, hf⟩ : ∃ f, f = sls[j]'hjl := ⟨_, rfl⟩
          have hx := hxs j hjl
          have hy := hys j hjl
          rw [← hf] at hx hy
          rw [ex] at pa
          rw [ey] at pb
          have x0 : wr.cell? ⟨x, o + j * 3, none⟩ = some (.int .i64 f.1) := hx.1
          have x1 : wr.cell? ⟨x, o + j * 3 + 1, none⟩ = some (.int .i64 f.2.1) := hx.2.1
          have x2 : wr.cell? ⟨x, o + j * 3 + 2, none⟩ = some (.int .i64 f.2.2) := hx.2.2
          have y0 : wr.cell? ⟨y, u + j * 3, none⟩ = some (.int .i64 f.1) := hy.1
          have y1 : wr.cell? ⟨y, u + j * 3 + 1, none⟩ = some (.int .i64 f.2.1) := hy.2.1
          have y2 : wr.cell? ⟨y, u + j * 3 + 2, none⟩ = some (.int .i64 f.2.2) := hy.2.2
          have hltI : (j : Int) < (nu : Int) := by omega
          clear hx hy hxs hys ex ey ba bb gw hf hjl
          go_wp2
          go_region_held3 (fun w' => w'.cell? ⟨b, 8, none⟩ = some (.slice (some ⟨x, o, none⟩) nu uc) ∧ w'.cell? ⟨b + 1, 8, none⟩ = some (.slice (some ⟨y, u, none⟩) nu uc') ∧ w'.cell? ⟨x, o + j * 3, none⟩ = some (.int .i64 f.1) ∧ w'.cell? ⟨x, o + j * 3 + 1, none⟩ = some (.int .i64 f.2.1) ∧ w'.cell? ⟨x, o + j * 3 + 2, none⟩ = some (.int .i64 f.2.2) ∧ w'.cell? ⟨y, u + j * 3, none⟩ = some (.int .i64 f.1) ∧ w'.cell? ⟨y, u + j * 3 + 1, none⟩ = some (.int .i64 f.2.1) ∧ w'.cell? ⟨y, u + j * 3 + 2, none⟩ = some (.int .i64 f.2.2)) (go_keep) (fail)
          all_goals
            go_wp2_with fail
            go_roundw
            case rel => exact ⟨j + 1, by omega, by simp, HK2.out.drewN _⟩
            case measure => simp [intOf]; omega
        have hjn : j = nu := by omega
        subst hjn
        clear hlt
        have pc : wr.cell? ⟨b, 1, none⟩ = some (.slice fo nf cf) := by simp [World.cell?, ba]
        have pd : wr.cell? ⟨b + 1, 1, none⟩ = some (.slice fo' nf cf') := by simp [World.cell?, bb]
        clear ba bb
        go_wp2_with (go_at_call 40; refine Hid.out ?_)
        unfold Hid
        have g5 : Gr W wr := HG.out.tr HK2.out
        refine Calls.mono (HF.out wr g5) ?_
        rintro e V1 ⟨rfl, hg1⟩
        have HE := hidM (g5.tr hg1)
        clear hg1 g5
        go_wp2_with fail
        go_ret
        exact ⟨rfl, HE.out⟩
end Go.Proofs.YtdihbfjjddmbiaaGreatDoor.Kit
namespace Go.Proofs.YtdihbfjjddmbiaaGreatDoor.kindR
open Go.ChangeShapes Go.WideShapes Go.ChangeAt Go.RowKit Go.Deep
set_option linter.unusedVariables false
def rowD (k : Nat) : DataW Unit := .agg [.lit (.string (Kit.wordK k)), .lit (.int .i64 (Kit.bytesK k)), .lit (.int .i64 (Kit.bufsK k)), .lit (.int .i64 (Kit.leastK k)), .lit (.int .i64 (Kit.mostK k))]
theorem laid_rows : (Rows.laid_colonnade_kind_kinds : DataW Unit) = .agg ((List.range 21).map rowD) := rfl
theorem cells85 : Tryz.prog.cellsOf 141 = 5 := by kernel_rfl
theorem cells86 : Tryz.prog.cellsOf 142 = 105 := by kernel_rfl
theorem cells3 : Tryz.prog.cellsOf 3 = 1 := by kernel_rfl
theorem cells9 : Tryz.prog.cellsOf 9 = 1 := by kernel_rfl
theorem gKinds : Tryz.prog.globalNamed "colonnade/kind.kinds" = some 0 := by kernel_rfl
theorem gKindsT : (Tryz.prog.globals[0]?).map (·.type) = some 142 := by kernel_rfl
theorem row_at {W : World} {fuel : Nat} {cs : List Value} {k : Nat} {p : List MemPlace} (h : DataW.trod (fun _ => ()) Tryz.prog W 0 (fun _ => true) false fuel 141 cs = some (rowD k, p)) :
    cs = [.string ⟨(Kit.wordK k).toArray⟩, .int .i64 (Kit.bytesK k), .int .i64 (Kit.bufsK k), .int .i64 (Kit.leastK k), .int .i64 (Kit.mostK k)] := by
  obtain ⟨xs, m, _, hd, hl, hxs, hf⟩ := DataW.trod_struct Tryz.underlying141 h
  rw [cells85] at hl
  obtain ⟨c0, c1, c2, c3, c4, rfl⟩ : ∃ c0 c1 c2 c3 c4, cs = [c0, c1, c2, c3, c4] := by
    match cs, hl with
    | [a, b, c, d, e], _ => exact ⟨a, b, c, d, e, rfl⟩
  obtain ⟨y0, y1, y2, y3, y4, rfl⟩ : ∃ y0 y1 y2 y3 y4, xs = [y0, y1, y2, y3, y4] := by
    match xs, (hxs.trans rfl : xs.length = 5) with
    | [a, b, c, d, e], _ => exact ⟨a, b, c, d, e, rfl⟩
  have f0 : DataW.trod (fun _ => ()) Tryz.prog W 0 (fun _ => true) false m 9 ((([c0, c1, c2, c3, c4] : List Value).drop 0).take (Tryz.prog.cellsOf 9)) = some y0 := hf 0 _ rfl
  have f1 : DataW.trod (fun _ => ()) Tryz.prog W 0 (fun _ => true) false m 3 ((([c0, c1, c2, c3, c4] : List Value).drop 1).take (Tryz.prog.cellsOf 3)) = some y1 := hf 1 _ rfl
  have f2 : DataW.trod (fun _ => ()) Tryz.prog W 0 (fun _ => true) false m 3 ((([c0, c1, c2, c3, c4] : List Value).drop 2).take (Tryz.prog.cellsOf 3)) = some y2 := hf 2 _ rfl
  have f3 : DataW.trod (fun _ => ()) Tryz.prog W 0 (fun _ => true) false m 3 ((([c0, c1, c2, c3, c4] : List Value).drop 3).take (Tryz.prog.cellsOf 3)) = some y3 := hf 3 _ rfl
  have f4 : DataW.trod (fun _ => ()) Tryz.prog W 0 (fun _ => true) false m 3 ((([c0, c1, c2, c3, c4] : List Value).drop 4).take (Tryz.prog.cellsOf 3)) = some y4 := hf 4 _ rfl
  rw [cells9] at f0
  rw [cells3] at f1 f2 f3 f4
  simp only [List.drop_zero, List.drop_succ_cons, List.take_succ_cons, List.take_zero] at f0 f1 f2 f3 f4
  obtain ⟨s, e0, g0, _⟩ := DataW.trod_string Tryz.underlying9 f0
  obtain ⟨k1, e1, g1, _⟩ := DataW.trod_int Tryz.underlying3 f1
  obtain ⟨k2, e2, g2, _⟩ := DataW.trod_int Tryz.underlying3 f2
  obtain ⟨k3, e3, g3, _⟩ := DataW.trod_int Tryz.underlying3 f3
  obtain ⟨k4, e4, g4, _⟩ := DataW.trod_int Tryz.underlying3 f4
  subst g0 g1 g2 g3 g4
  simp only [rowD, Prod.mk.injEq, DataW.agg.injEq, List.map_cons, List.map_nil, List.cons.injEq, DataW.lit.injEq, Lit.string.injEq, Lit.int.injEq, true_and, and_true] at hd
  obtain ⟨⟨h0, h1, h2, h3, h4⟩, _⟩ := hd
  simp only [List.cons.injEq, and_true] at e0 e1 e2 e3 e4
  rw [e0, e1, e2, e3, e4, h0, h1, h2, h3, h4]
theorem table {W : World} {l0 l1 l2 : String × DataW Unit} (h : laidMet Tryz.prog [l0, l1, l2, ("colonnade/kind.kinds", Rows.laid_colonnade_kind_kinds)] W) : Kit.Tab W := by
  obtain ⟨ps, ⟨_, _, _, _, _, _, _, _, _, _, ⟨_, _, _, _, _, _, _, _, _, _, ⟨_, _, _, _, _, _, _, _, _, _, ⟨g', t', cs, fuel, p, q, hg', ht', hvar, hd, _, _⟩, _⟩, _⟩, _⟩, _⟩ := h
  obtain rfl := Option.some.inj (gKinds.symm.trans hg')
  obtain rfl := Option.some.inj (gKindsT.symm.trans ht')
  rw [laid_rows] at hd
  obtain ⟨xs, m, _, he, hl, hx, hf⟩ := DataW.trod_array Tryz.underlying142 hd
  rw [cells86] at hl
  rw [cells85] at hf
  simp only [Prod.mk.injEq, DataW.agg.injEq] at he
  have hcell := fun i => World.var?_cell gKinds hvar i
  have hsz : cs.size = 105 := by simpa using hl
  refine ⟨?_, fun k hk => ?_⟩
  · have := hcell 0
    rw [Array.getElem?_eq_getElem (by omega)] at this
    have := block_lt_of_cell this
    exact this
  have h1 := hf k hk
  rw [List.getElem?_eq_getElem (by omega)] at h1
  have h2 : (xs[k]'(by omega)).1 = rowD k := by
    have := congrArg (·[k]?) he.1
    simp only [List.getElem?_map, List.getElem?_range hk, Option.map_some] at this
    rw [List.getElem?_eq_getElem (by omega)] at this
    simpa using this.symm
  have h3 := row_at (k := k) (p := (xs[k]'(by omega)).2) (by rw [h1, ← h2])
  have h4 : ∀ j, j < 5 → cs[k * 5 + j]? = ([.string ⟨(Kit.wordK k).toArray⟩, .int .i64 (Kit.bytesK k), .int .i64 (Kit.bufsK k), .int .i64 (Kit.leastK k), .int .i64 (Kit.mostK k)] : List Value)[j]? := fun j hj => by
    rw [← h3, List.getElem?_take_of_lt hj, List.getElem?_drop, Array.getElem?_toList]
  exact ⟨(hcell _).trans (h4 0 (by decide)), (hcell _).trans (h4 1 (by decide)), (hcell _).trans (h4 2 (by decide)), (hcell _).trans (h4 3 (by decide)), (hcell _).trans (h4 4 (by decide))⟩
end Go.Proofs.YtdihbfjjddmbiaaGreatDoor.kindR
