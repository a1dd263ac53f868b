import Derived.Test.YtknjnclopiklaabSC
import Derived.Laws.MakeOwn
namespace Go.Proofs.Ytknjnclopiklaab.Kit
open Go.RowKit Go.Shelf Go.Deep
set_option linter.unusedVariables false
attribute [local go_sem] run_store_func

/-! ### the document's latest places -/
theorem make_ints (n : Nat) (h : n ≤ 100000) : ∀ w, (Instr.makeSlice 50 (.int .i64 (n : Int)) (.int .i64 (n : Int))).run Try.prog w = .ok (.slice (some ⟨w.heap.size, 0, none⟩) n n) (w.alloc (.cells (madeCells #[.int .i64 0] n) 3)) := by
  intro w
  obtain ⟨i, hi, hzz⟩ := Option.map_eq_some_iff.1 info3
  simp only [Prod.mk.injEq] at hzz
  obtain ⟨hz, hs, hb⟩ := hzz
  have hb' : (i.bytes : Int) * (n : Int) ≤ 281474976710656 := by rw [hb]; omega
  have hr := run_make (P := Try.prog) w 50 3 i _ Try.underlying50 hi hz .i64 .i64 n n (by omega) (Int.le_refl _) hb' (by omega)
  simp only [Int.toNat_natCast, hs, Nat.mul_one] at hr
  exact hr
theorem IRow.made (W : World) (n : Nat) : IRow (W.alloc (.cells (madeCells #[.int .i64 0] n) 3)) W.heap.size n (fun _ => 0) :=
  ⟨_, heap_alloc_new W _, size_madeCells _ _, fun k hk => by simp [madeCells, hk, Nat.mod_one]⟩
/-- the three rows at a place -/
structure Ch (w W : World) (bs : List UInt8) (A B C i : Nat) : Prop where
  gr : Gr w W
  a0 : w.heap.size ≤ A
  b0 : w.heap.size ≤ B
  c0 : w.heap.size ≤ C
  ab : A ≠ B
  ac : A ≠ C
  bc : B ≠ C
  la : IRow W A 4093 (fun c => metZ (lastC bs c i))
  be : ∃ F, IRow W B bs.length F ∧ ∀ p, p < i → p + 4 ≤ bs.length → F p = metZ (lastC bs (cls bs p) p)
  me : ∃ F, IRow W C bs.length F ∧ ∀ p, p < i → F p = metZ (metO bs p)
theorem keeps_set {w W : World} (g : Gr w W) {X k : Nat} {u : Value} (h : w.heap.size ≤ X) : Gr w (W.setCell ⟨X, k, none⟩ u) :=
  g.setCell (p := ⟨X, k, none⟩) (fun hlt => absurd hlt (by show ¬ X < _; omega)) u
theorem metZ_neg (o : Option Nat) : metZ o < 0 ↔ o = none := by
  cases o with
  | none => simp [metZ]
  | some p => simp [metZ]
/-- the row that is answered -/
structure MetsR (w W : World) (C : Nat) (bs : List UInt8) : Prop where
  c0 : w.heap.size ≤ C
  gr : Gr w W
  me : ∃ F, IRow W C bs.length F ∧ ∀ p, p < bs.length → F p = metZ (metO bs p)
set_option maxRecDepth 100000 in
set_option maxHeartbeats 8000000 in
theorem metAtR_any {ao : Option Addr} {ca : Nat} {bs : List UInt8} {w : World} (h : BytesAt w ao bs) (hl : bs.length ≤ 65536) :
    Calls Try.prog 33 #[.slice ao bs.length ca] w fun e w' => ∃ C, e = .returned (.slice (some ⟨C, 0, none⟩) bs.length bs.length) ∧ MetsR w w' C bs := by
  have HA := hidM h
  obtain ⟨N, hN⟩ : ∃ N, N = bs.length := ⟨_, rfl⟩
  have HN := hidM hN
  have hmk1 := make_ints 4093 (by omega)
  have hmk2 := make_ints bs.length (by omega)
  have HWs : Hid (∀ W i, Gr w W → i + 4 ≤ N → Calls Try.prog 36 #[.slice ao N ca, .int .i64 (i : Int)] W fun e w' => e = .returned (.int .i64 (wordN bs i : Int)) ∧ Gr W w') := fun W i g hi => by
    rw [hN] at hi ⊢
    exact wordR_some (ca := ca) HA.out hi (by omega) W g
  have HWn : Hid (∀ W i, i ≤ N → ¬ i + 4 ≤ N → Calls Try.prog 36 #[.slice ao N ca, .int .i64 (i : Int)] W fun e w' => e = .returned (.int .i64 (-1)) ∧ Gr W w') := fun W i hi h4 => wordR_none (by omega) (by omega) (by omega) W
  rw [← hN] at hl hmk2 ⊢
  have hmk1' : ∀ w, (Instr.makeSlice 50 (.int .i64 4093) (.int .i64 4093)).run Try.prog w = .ok (.slice (some ⟨w.heap.size, 0, none⟩) 4093 4093) (w.alloc (.cells (madeCells #[.int .i64 0] 4093) 3)) := hmk1
  obtain ⟨A, hA⟩ : ∃ A, A = w.heap.size := ⟨_, rfl⟩
  have HAe := hidM hA
  have HR0 := hidM (IRow.made w 4093)
  rw [← hA] at HR0
  obtain ⟨W0, hW0⟩ : ∃ W0, W0 = w.alloc (.cells (madeCells #[.int .i64 0] 4093) 3) := ⟨_, rfl⟩
  have HG0 : Hid (Gr w W0) := by rw [hW0]; exact gr_alloc _ _
  have hmk3 : (Instr.makeSlice 50 (.int .i64 4093) (.int .i64 4093)).run Try.prog w = .ok (.slice (some ⟨A, 0, none⟩) 4093 4093) W0 := by rw [hmk1', hA, hW0]
  rw [← hW0] at HR0
  clear h hN hmk1 hmk1' hA hW0
  go_enter Try.func33, Try.ntmps33
  go_wp2_with fail
  go_loopw [14] (fun p wr => ∃ i : Nat, i ≤ 4093 ∧ p = .int .i64 (i : Int) ∧ Hid (Gr w wr ∧ IRow wr A 4093 (fun k => if k < i then -1 else 0))) (fun p _ => 4093 - (intOf p).toNat)
  case atStart => exact ⟨0, by omega, rfl, HG0.out, HR0.out.congr (fun k _ => by simp)⟩
  case round =>
    obtain ⟨i, hi, rfl, HI⟩ := hrel
    by_cases c : i < 4093
    · have cI : (i : Int) < 4093 := by omega
      have hi0 : (0 : Int) ≤ (i : Int) := by omega
      have t0 := HI.out.2.cell c
      have t1 := HI.out.2.frz i
      have HNx : Hid (Gr w (wr.setCell ⟨A, i, none⟩ (.int .i64 (-1))) ∧ IRow (wr.setCell ⟨A, i, none⟩ (.int .i64 (-1))) A 4093 (fun k => if k < i + 1 then -1 else 0)) := by
        refine ⟨keeps_set HI.out.1 (by have := HAe.out; omega), (HI.out.2.set c (-1)).congr (fun k _ => ?_)⟩
        by_cases e : k = i
        · subst e; simp
        · simp only [e, if_false]
          by_cases e2 : k < i
          · rw [if_pos e2, if_pos (by omega)]
          · rw [if_neg e2, if_neg (by omega)]
      clear HI
      go_wp2_with fail
      go_roundw
      case rel => exact ⟨i + 1, by omega, by simp, HNx.out⟩
      case measure => simp [intOf]; omega
    · have cI : ¬ (i : Int) < 4093 := by omega
      have HA1 : Hid (IRow wr A 4093 (fun c => metZ (lastC bs c 0))) := HI.out.2.congr (fun k hk => by rw [if_pos (by omega)]; rfl)
      have HG1 := hidM HI.out.1
      clear HI
      obtain ⟨B, hB⟩ : ∃ B, B = wr.heap.size := ⟨_, rfl⟩
      obtain ⟨W2, hW2⟩ : ∃ W2, W2 = wr.alloc (.cells (madeCells #[.int .i64 0] N) 3) := ⟨_, rfl⟩
      obtain ⟨C, hC⟩ : ∃ C, C = W2.heap.size := ⟨_, rfl⟩
      obtain ⟨W3, hW3⟩ : ∃ W3, W3 = W2.alloc (.cells (madeCells #[.int .i64 0] N) 3) := ⟨_, rfl⟩
      have HCh : Hid (Ch w W3 bs A B C 0) := by
        have g2 : Gr wr W2 := by rw [hW2]; exact gr_alloc _ _
        have g3 : Gr W2 W3 := by rw [hW3]; exact gr_alloc _ _
        have hBn : IRow W2 B N (fun _ => 0) := by rw [hW2, hB]; exact IRow.made _ _
        have hCn : IRow W3 C N (fun _ => 0) := by rw [hW3, hC]; exact IRow.made _ _
        have hAlt := HA1.out.lt
        have hBlt := hBn.lt
        have hsz := HG1.out.size
        have hsz2 := g2.size
        refine ⟨HG1.out.trans (g2.trans g3 (fun _ _ h => h)) (fun _ _ h => h), by have := HAe.out; omega, by omega, by omega, by omega, by omega, by omega, HA1.out.gr (g2.trans g3 (fun _ _ h => h)), ?_, ?_⟩
        · rw [← HN.out]; exact ⟨_, hBn.gr g3, fun p hp => by omega⟩
        · rw [← HN.out]; exact ⟨_, hCn, fun p hp => by omega⟩
      have m2 : (Instr.makeSlice 50 (.int .i64 (N : Int)) (.int .i64 (N : Int))).run Try.prog wr = .ok (.slice (some ⟨B, 0, none⟩) N N) W2 := by rw [hmk2, hB, hW2]
      have m3 : (Instr.makeSlice 50 (.int .i64 (N : Int)) (.int .i64 (N : Int))).run Try.prog W2 = .ok (.slice (some ⟨C, 0, none⟩) N N) W3 := by rw [hmk2, hC, hW3]
      clear hB hC hW2 hW3 hmk2 hmk3 HA1
      go_wp2_with fail
      clear m2 m3
      go_loopw [29] (fun p wr => ∃ i : Nat, i ≤ N ∧ p = .int .i64 (i : Int) ∧ Hid (Ch w wr bs A B C i)) (fun p _ => N - (intOf p).toNat)
      case atStart => exact ⟨0, by omega, rfl, HCh.out⟩
      case round =>
        obtain ⟨i, hi, rfl, HI⟩ := hrel
        by_cases c : i < N
        rotate_left
        · have cI : ¬ (i : Int) < (N : Int) := by omega
          obtain ⟨F, hF1, hF2⟩ := HI.out.me
          have HF : Hid (w.heap.size ≤ C ∧ IRow wr C bs.length F ∧ (∀ p, p < bs.length → F p = metZ (metO bs p)) ∧ Gr w wr) := ⟨HI.out.c0, hF1, fun p hp => hF2 p (by have := HN.out; omega), HI.out.gr⟩
          clear hF1 hF2
          go_wp2_with fail
          go_ret
          exact ⟨C, rfl, HF.out.1, HF.out.2.2.2, F, HF.out.2.1, HF.out.2.2.1⟩
        have cI : (i : Int) < (N : Int) := by omega
        have hi0 : (0 : Int) ≤ (i : Int) := by omega
        have HCb : Hid (i < bs.length) := by show _ < _; rw [← HN.out]; exact c
        obtain ⟨F, hF1, hF2⟩ := HI.out.me
        have t0 := hF1.cell HCb.out
        have t1 := hF1.frz i
        obtain ⟨W4, hW4⟩ : ∃ W4, W4 = wr.setCell ⟨C, i, none⟩ (.int .i64 (-1)) := ⟨_, rfl⟩
        have hC4 : IRow W4 C bs.length (fun j => if j = i then -1 else F j) := by rw [hW4]; exact hF1.set HCb.out (-1)
        have hA4 : IRow W4 A 4093 (fun c => metZ (lastC bs c i)) := by rw [hW4]; exact HI.out.la.other HI.out.ac _
        obtain ⟨E, hE1, hE2⟩ := HI.out.be
        have hE4 : IRow W4 B bs.length E := by rw [hW4]; exact hE1.other HI.out.bc _
        have hg4 : Gr w W4 := by rw [hW4]; exact keeps_set HI.out.gr HI.out.c0
        have HF2 := hidM hF2
        have HE2 := hidM hE2
        have HC4 := hidM hC4
        have HA4 := hidM hA4
        have HE4 := hidM hE4
        have HG4 := hidM hg4
        by_cases c4 : i + 4 ≤ N
        rotate_left
        · have HNx : Hid (∀ V, Gr W4 V → Ch w V bs A B C (i + 1)) := fun V g => by
            refine ⟨HG4.out.trans g (fun _ _ h => h), HI.out.a0, HI.out.b0, HI.out.c0, HI.out.ab, HI.out.ac, HI.out.bc, (HA4.out.gr g).congr (fun k _ => by rw [lastC_past (by rw [← HN.out]; exact c4)]), ⟨E, HE4.out.gr g, fun p hp h4 => HE2.out p (by have := HN.out; omega) h4⟩, ⟨_, HC4.out.gr g, fun p hp => ?_⟩⟩
            by_cases e : p = i
            · subst e
              simp only [if_true]
              unfold metO
              rw [if_neg (by rw [← HN.out]; exact c4)]
              rfl
            · simp only [e, if_false]
              exact HF2.out p (by omega)
          have HW := hidM (HWn.out W4 i (by omega) c4)
          clear hF1 hF2 hC4 hA4 hE1 hE2 hE4 hg4
          go_wp2_with (go_at_call 36; refine Hid.out ?_)
          unfold Hid
          rw [← hW4]
          clear hW4 t0 t1
          refine Calls.mono HW.out ?_
          rintro e V ⟨rfl, hg⟩
          have HNv := hidM (HNx.out V hg)
          clear hg
          go_wp2_with fail
          go_roundw
          case rel => exact ⟨i + 1, by omega, by simp, HNv.out⟩
          case measure => simp [intOf]; omega
        have HW := hidM (HWs.out W4 i hg4 c4)
        have HC4b : Hid (i + 4 ≤ bs.length) := by show _ ≤ _; rw [← HN.out]; exact c4
        obtain ⟨wd, hwd⟩ : ∃ x, x = wordN bs i := ⟨_, rfl⟩
        have hwb : wd < 4294967296 := by
          rw [hwd]
          unfold wordN
          have k : ∀ n, (bs.getD n 0).toNat < 256 := fun n => UInt8.toNat_lt _
          have h0 := k i
          have h1 := k (i + 1)
          have h2 := k (i + 2)
          have h3 := k (i + 3)
          omega
        obtain ⟨cc, hcc⟩ : ∃ x, x = cls bs i := ⟨_, rfl⟩
        have hcw : cc = wd % 4093 := by rw [hcc, hwd]; rfl
        have hcI : (wd : Int).tmod 4093 = (cc : Int) := by rw [Int.tmod_eq_emod_of_nonneg (by omega)]; omega
        have hcb : cc < 4093 := by omega
        rw [← hwd] at HW
        have HWd := hidM hwd
        have HCc := hidM hcc
        clear hF1 hF2 hC4 hA4 hE1 hE2 hE4 hg4 hwd hcc hcw
        go_wp2_with (go_at_call 36; refine Hid.out ?_)
        unfold Hid
        rw [← hW4]
        clear hW4 t0 t1
        refine Calls.mono HW.out ?_
        rintro e V ⟨rfl, hg⟩
        have HAv := hidM (HA4.out.gr hg)
        have HEv := hidM (HE4.out.gr hg)
        have HCv := hidM (HC4.out.gr hg)
        have HGv := hidM (HG4.out.trans hg (fun _ _ h => h))
        clear hg HW HA4 HE4 HC4 HG4
        have t2 := HAv.out.cell hcb
        have hwp : ¬ (wd : Int) < 0 := by omega
        have hcI0 : (0 : Int) ≤ (cc : Int) := by omega
        have hcI1 : (cc : Int) < 4093 := by omega
        obtain ⟨z0, hz0⟩ : ∃ z, z = metZ (lastC bs cc i) := ⟨_, rfl⟩
        rw [← hz0] at t2
        have HZ0 := hidM hz0
        clear hz0
        go_wp2_with fail
        clear t2
        have HI0 := hidM HI.out
        clear HI
        go_loopw [10] (fun p wr => ∃ (q : Option Nat) (j : Nat), j ≤ i ∧ p = .int .i64 (metZ q) ∧ Hid (q = lastC bs cc j ∧ metGo bs (four bs i) i = metGo bs (four bs i) j ∧ Gr V wr)) (fun p _ => (intOf p + 1).toNat)
        case atStart => exact ⟨lastC bs cc i, i, by omega, by rw [HZ0.out], rfl, rfl, Keeps.refl _ _⟩
        case round =>
          obtain ⟨q, j, hj, rfl, HI⟩ := hrel
          cases q with
          | none =>
            have HMo : Hid (metO bs i = none) := by
              show _ = _
              unfold metO
              rw [if_pos HC4b.out, HI.out.2.1]
              exact met_none HC4b.out hj (by rw [← HCc.out]; exact HI.out.1.symm)
            have HAt := hidM (HAv.out.gr HI.out.2.2)
            have HEt := hidM (HEv.out.gr HI.out.2.2)
            have HMt := hidM (HCv.out.gr HI.out.2.2)
            have HGt := hidM (HGv.out.trans HI.out.2.2 (fun _ _ h => h))
            have HMv : Hid (∀ p, p < i + 1 → (fun j => if j = i then -1 else F j) p = metZ (metO bs p)) := fun p hp => by
              by_cases e : p = i
              · subst e; simp only [if_true]; rw [HMo.out]; rfl
              · simp only [e, if_false]; exact HF2.out p (by omega)
            have hz : metZ none = -1 := rfl
            simp only [hz]
            clear hz
            have u0 := HAt.out.cell hcb
            have u1 := HEt.out.cell HCb.out
            have u2 := HEt.out.frz i
            rw [← HZ0.out] at u0
            have hA6 := HAt.out.other (k := i) HI0.out.ab (.int .i64 z0)
            have u3 := hA6.cell hcb
            have u4 := hA6.frz cc
            have HNx : Hid (Ch w ((wr.setCell ⟨B, i, none⟩ (.int .i64 z0)).setCell ⟨A, cc, none⟩ (.int .i64 (i : Int))) bs A B C (i + 1)) := by
              refine ⟨keeps_set (keeps_set HGt.out HI0.out.b0) HI0.out.a0, HI0.out.a0, HI0.out.b0, HI0.out.c0, HI0.out.ab, HI0.out.ac, HI0.out.bc, (hA6.set hcb (i : Int)).congr (fun k _ => ?_), ⟨_, (HEt.out.set HCb.out z0).other (fun e => HI0.out.ab e.symm) _, fun p hp h4 => ?_⟩, ⟨_, (HMt.out.other (fun e => HI0.out.bc e.symm) _).other (fun e => HI0.out.ac e.symm) _, HMv.out⟩⟩
              · rw [lastC_step HC4b.out]
                by_cases e : k = cc
                · rw [if_pos e, if_pos (by rw [← HCc.out, e])]; rfl
                · rw [if_neg e, if_neg (fun e2 => e (by rw [HCc.out, e2]))]
              · by_cases e : p = i
                · subst e
                  simp only [if_true]
                  rw [← HCc.out]
                  exact HZ0.out
                · simp only [e, if_false]
                  exact HE2.out p (by omega) h4
            clear hA6 HI
            go_wp2_with fail
            go_roundw
            case rel => exact ⟨i + 1, by omega, by simp, HNx.out⟩
            case measure => simp [intOf]; omega
          | some p =>
            obtain ⟨hp1, hp2, hp3⟩ := lastC_lt HI.out.1.symm
            have hz : metZ (some p) = (p : Int) := rfl
            simp only [hz]
            clear hz
            have HWp := hidM (HWs.out wr p (HGv.out.trans HI.out.2.2 (fun _ _ h => h)) (by rw [HN.out]; exact hp2))
            obtain ⟨wp, hwp2⟩ : ∃ x, x = wordN bs p := ⟨_, rfl⟩
            rw [← hwp2] at HWp
            have HWpe := hidM hwp2
            have hp0 : (0 : Int) ≤ (p : Int) := by omega
            have HP2 := hidM hp2
            have HP3 := hidM hp3
            have hpN : (p : Int) < (N : Int) := by omega
            clear hwp2 hp2 hp3
            go_wp2_with (go_at_call 36; refine Hid.out ?_)
            unfold Hid
            refine Calls.mono HWp.out ?_
            rintro e V2 ⟨rfl, hg2⟩
            have hgt := HI.out.2.2.trans hg2 (fun _ _ h => h)
            have HAx := hidM (HAv.out.gr hgt)
            have HEx := hidM (HEv.out.gr hgt)
            have HCx := hidM (HCv.out.gr hgt)
            have HGx := hidM (HGv.out.trans hgt (fun _ _ h => h))
            have HHt := hidM hgt
            clear hg2 hgt HWp
            by_cases d : wp = wd
            · have dI : ((wp : Int) == (wd : Int)) = true := by simp; omega
              have hfe : four bs p = four bs i := (wordN_eq HC4b.out HP2.out).1 (by rw [← HWpe.out, ← HWd.out]; exact d)
              have HMo : Hid (metO bs i = some p) := by
                show _ = _
                unfold metO
                rw [if_pos HC4b.out, HI.out.2.1, met_some HC4b.out hj (by rw [← HCc.out]; exact HI.out.1.symm), if_pos hfe]
              have v0 := HCx.out.cell HCb.out
              simp only [if_true] at v0
              have v1 := HCx.out.frz i
              have HAt := hidM (HAx.out.other (k := i) HI0.out.ac (.int .i64 (p : Int)))
              have HEt := hidM (HEx.out.other (k := i) HI0.out.bc (.int .i64 (p : Int)))
              have HMt := hidM (HCx.out.set HCb.out (p : Int))
              have HGt := hidM (keeps_set (k := i) (u := .int .i64 (p : Int)) HGx.out HI0.out.c0)
              have HMv : Hid (∀ k, k < i + 1 → (fun j => if j = i then (p : Int) else (fun j => if j = i then -1 else F j) j) k = metZ (metO bs k)) := fun k hk => by
                by_cases e : k = i
                · subst e; simp only [if_true]; rw [HMo.out]; rfl
                · simp only [e, if_false]; exact HF2.out k (by omega)
              clear hfe d
              have u0 := HAt.out.cell hcb
              have u1 := HEt.out.cell HCb.out
              have u2 := HEt.out.frz i
              rw [← HZ0.out] at u0
              have hA6 := HAt.out.other (k := i) HI0.out.ab (.int .i64 z0)
              have u3 := hA6.cell hcb
              have u4 := hA6.frz cc
              have HNx : Hid (Ch w (((V2.setCell ⟨C, i, none⟩ (.int .i64 (p : Int))).setCell ⟨B, i, none⟩ (.int .i64 z0)).setCell ⟨A, cc, none⟩ (.int .i64 (i : Int))) bs A B C (i + 1)) := by
                refine ⟨keeps_set (keeps_set HGt.out HI0.out.b0) HI0.out.a0, HI0.out.a0, HI0.out.b0, HI0.out.c0, HI0.out.ab, HI0.out.ac, HI0.out.bc, (hA6.set hcb (i : Int)).congr (fun k _ => ?_), ⟨_, (HEt.out.set HCb.out z0).other (fun e => HI0.out.ab e.symm) _, fun p hp h4 => ?_⟩, ⟨_, (HMt.out.other (fun e => HI0.out.bc e.symm) _).other (fun e => HI0.out.ac e.symm) _, HMv.out⟩⟩
                · rw [lastC_step HC4b.out]
                  by_cases e : k = cc
                  · rw [if_pos e, if_pos (by rw [← HCc.out, e])]; rfl
                  · rw [if_neg e, if_neg (fun e2 => e (by rw [HCc.out, e2]))]
                · by_cases e : p = i
                  · subst e
                    simp only [if_true]
                    rw [← HCc.out]
                    exact HZ0.out
                  · simp only [e, if_false]
                    exact HE2.out p (by omega) h4
              clear hA6 HI
              go_wp2_with fail
              go_roundw
              case rel => exact ⟨i + 1, by omega, by simp, HNx.out⟩
              case measure => simp [intOf]; omega
            · have dI : ((wp : Int) == (wd : Int)) = false := beqF (by omega)
              have hfe : ¬ four bs p = four bs i := fun e => d (by rw [HWpe.out, HWd.out]; exact (wordN_eq HC4b.out HP2.out).2 e)
              have v0 := HEx.out.cell (k := p) (by have := HN.out; omega)
              rw [HE2.out p (by omega) HP2.out, HP3.out] at v0
              have HNx : Hid (metGo bs (four bs i) i = metGo bs (four bs i) p ∧ Gr V V2) := by
                refine ⟨?_, HHt.out⟩
                rw [HI.out.2.1, met_some HC4b.out hj (by rw [← HCc.out]; exact HI.out.1.symm), if_neg hfe]
              have hlt : metZ (lastC bs cc p) < (p : Int) := by
                cases hq : lastC bs cc p with
                | none => show (-1 : Int) < _; omega
                | some p' => have := (lastC_lt hq).1; show (p' : Int) < _; omega
              have hge : -1 ≤ metZ (lastC bs cc p) := by
                cases hq : lastC bs cc p with
                | none => show (-1 : Int) ≤ _; exact Int.le_refl _
                | some p' => show (-1 : Int) ≤ (p' : Int); omega
              obtain ⟨z, hz⟩ : ∃ z, z = metZ (lastC bs cc p) := ⟨_, rfl⟩
              rw [← hz] at v0 hlt hge
              have HZ := hidM hz
              clear hfe d hz
              go_wp2_with fail
              go_roundw
              case rel => exact ⟨lastC bs cc p, p, by omega, by rw [HZ.out], rfl, HNx.out.1, HNx.out.2⟩
              case measure => simp [intOf]; omega

end Go.Proofs.Ytknjnclopiklaab.Kit
