import Derived.Test.YtemleibpmaclmaaSF
namespace Go.Proofs.Ytemleibpmaclmaa.Kit
open Go.RowKit Go.Shelf Go.Deep
set_option linter.unusedVariables false
attribute [local go_sem] run_store_func

/-- what going forward needs -/
structure FwOk (s : Sc) : Prop where
  st8 : s.st ≤ 8
  h2 : s.left = 0 → s.st = 2 → 16 ≤ s.hd.length
  h3 : s.left = 0 → s.st = 3 → 20 ≤ s.hd.length
  h4 : 4 ≤ s.st → 20 ≤ s.hd.length
  hl : s.hd.length ≤ 1000
  lm : s.lm ≤ 100000000
  lb : s.lb ≤ 100000000
  me : s.me ≤ 100000000
  bo : s.bo ≤ 100000000
  ms : s.ms.length ≤ 100000000000
def stepF (s : Sc) : Sc := { s with st := s.st + 1, left := wantsF s.me s.bo (s.st + 1) }
theorem FwOk.step {s : Sc} (h : FwOk s) (h8 : s.st ≠ 8) (h0 : s.left = 0) : FwOk (stepF s) := by
  have h8' := h.st8
  refine ⟨?_, fun e0 e => ?_, fun e0 e => ?_, fun e => ?_, h.hl, h.lm, h.lb, h.me, h.bo, h.ms⟩
  · show s.st + 1 ≤ 8
    omega
  · exfalso
    have e1 : s.st + 1 = 2 := e
    have e2 : wantsF s.me s.bo (s.st + 1) = 0 := e0
    rw [e1] at e2
    simp [wantsF] at e2
  · exfalso
    have e1 : s.st + 1 = 3 := e
    have e2 : wantsF s.me s.bo (s.st + 1) = 0 := e0
    rw [e1] at e2
    simp [wantsF] at e2
  · show 20 ≤ s.hd.length
    have e1 : 4 ≤ s.st + 1 := e
    by_cases c : s.st = 3
    · exact h.h3 h0 c
    · exact h.h4 (by omega)
theorem FwOk.head {s : Sc} (h : FwOk s) (e : s.st = 2) (he : (readHeadF s).1 = 0) : FwOk (readHeadF s).2 ∧ (readHeadF s).2.st = 2 ∧ (readHeadF s).2.left = s.left ∧ (readHeadF s).2.ms = s.ms := by
  unfold readHeadF at he ⊢
  split
  · rename_i c; rw [if_pos c] at he; simp at he
  · rename_i c
    rw [if_neg c] at he
    split
    · rename_i c2; rw [if_pos c2] at he; simp at he
    · rename_i c2
      rw [if_neg c2] at he
      split
      · rename_i c3; rw [if_pos c3] at he; simp at he
      · have a1 : num4 s.hd 4 ≤ s.lm := by omega
        have a2 : num4 s.hd 8 ≤ s.lb := by omega
        have := h.lm
        have := h.lb
        exact ⟨⟨h.st8, h.h2, h.h3, h.h4, h.hl, h.lm, h.lb, by show num4 s.hd 4 ≤ _; omega, by show num4 s.hd 8 ≤ _; omega, h.ms⟩, e, rfl, rfl⟩
def stOf (W : World) (p : Nat) : Nat := match W.cell? ⟨p, 2, none⟩ with | some (.int _ z) => z.toNat | _ => 0
theorem Rd.stOf {w W : World} {p T : Nat} {tl : List Value} {s : Sc} {R : Nat → Row} {wo : Option Addr} {wc : Nat} (h : Rd w W p T tl s R wo wc) : Kit.stOf W p = s.st := by
  have c2 : W.cell? ⟨p, 2, none⟩ = some (.int .i64 (s.st : Int)) := h.cells rfl
  unfold Kit.stOf
  rw [c2]
  simp
/-- a scan that has come from another one -/
structure From (w W V : World) (p T : Nat) (tl : List Value) (n : Nat) (R : Nat → Row) (wo : Option Addr) (wc : Nat) (s' : Sc) (R' : Nat → Row) (wo' : Option Addr) (wc' : Nat) : Prop where
  rd : Rd w V p T tl s' R' wo' wc'
  kp : Keeps W V (RIs p n R wo wc)
  bk : ∀ g, RIs p s'.ms.length R' wo' wc' g → RIs p n R wo wc g ∨ W.heap.size ≤ g
theorem From.refl {w W : World} {p T : Nat} {tl : List Value} {s : Sc} {R : Nat → Row} {wo : Option Addr} {wc : Nat} (h : Rd w W p T tl s R wo wc) : From w W W p T tl s.ms.length R wo wc s R wo wc := ⟨h, Keeps.refl _ _, fun _ e => .inl e⟩
theorem From.then {w W V V' : World} {p T : Nat} {tl : List Value} {n : Nat} {R : Nat → Row} {wo : Option Addr} {wc : Nat} {s' s2 : Sc} {R' : Nat → Row} {wo' : Option Addr} {wc' : Nat} (h : From w W V p T tl n R wo wc s' R' wo' wc') (d : RdDone w V V' p T tl s'.ms.length R' wo' wc' s2) : ∃ R2 wo2 wc2, From w W V' p T tl n R wo wc s2 R2 wo2 wc2 := by
  obtain ⟨R2, wo2, wc2, r2, k2, b2⟩ := RdDone.trans (s1 := s') h.kp h.bk d
  exact ⟨R2, wo2, wc2, r2, k2, b2⟩
theorem From.done {w W V : World} {p T : Nat} {tl : List Value} {n : Nat} {R : Nat → Row} {wo : Option Addr} {wc : Nat} {s' : Sc} {R' : Nat → Row} {wo' : Option Addr} {wc' : Nat} (h : From w W V p T tl n R wo wc s' R' wo' wc') : RdDone w W V p T tl n R wo wc s' := ⟨R', wo', wc', h.rd, h.kp, h.bk⟩
theorem From.gr {w W V V' : World} {p T : Nat} {tl : List Value} {n : Nat} {R : Nat → Row} {wo : Option Addr} {wc : Nat} {s' : Sc} {R' : Nat → Row} {wo' : Option Addr} {wc' : Nat} (h : From w W V p T tl n R wo wc s' R' wo' wc') (g : Gr V V') : From w W V' p T tl n R wo wc s' R' wo' wc' := ⟨h.rd.grow g, h.kp.trans g (fun _ _ f => f.elim), h.bk⟩
theorem From.set {w W V : World} {p T j : Nat} {tl tl' : List Value} {n : Nat} {R : Nat → Row} {wo : Option Addr} {wc : Nat} {s' s2 : Sc} {R' : Nat → Row} {wo' : Option Addr} {wc' : Nat} {v : Value} (h : From w W V p T tl n R wo wc s' R' wo' wc') (hc : (scCells s' R' wo' wc' ++ tl).set j v = scCells s2 R' wo' wc' ++ tl') (hms : s2.ms = s'.ms) (hrow : ∀ i, s2.row i = s'.row i) :
    From w W (V.setCell ⟨p, j, none⟩ v) p T tl' n R wo wc s2 R' wo' wc' :=
  ⟨h.rd.set hc hms hrow, h.kp.trans (Keeps.setCell (S := RIs p s'.ms.length R' wo' wc') (p := ⟨p, j, none⟩) (Keeps.refl _ _) (fun _ => .inl rfl) v) (fun j hj e => by
    rcases h.bk j e with q | q
    · exact q
    · omega), fun g e => h.bk g (by rw [hms] at e; exact e)⟩
set_option maxRecDepth 100000 in
set_option maxHeartbeats 8000000 in
theorem forward_any {w W : World} {p : Nat} {x y : Value} {s : Sc} {R : Nat → Row} {wo : Option Addr} {wc : Nat} (h : Rd w W p 76 [x, y] s R wo wc) (hk : FwOk s) (n : Nat) (hn : 9 ≤ n + s.st) :
    Calls Try.prog 53 #[.pointer (some ⟨p, 0, none⟩)] W fun e w' => e = .returned (.int .i64 (forwardF n s).1) ∧ RdDone w W w' p 76 [x, y] s.ms.length R wo wc (forwardF n s).2 := by
  have HR0 : Hid (∃ n' s' R' wo' wc', From w W W p 76 [x, y] s.ms.length R wo wc s' R' wo' wc' ∧ forwardF n s = forwardF n' s' ∧ 9 ≤ n' + s'.st ∧ FwOk s') := ⟨n, s, R, wo, wc, From.refl h, rfl, hn, hk⟩
  clear h hk hn
  go_enter Try.func53, Try.ntmps53
  go_wp2_with fail
  go_loopw [3] (fun _ wr => Hid (∃ n' s' R' wo' wc', From w W wr p 76 [x, y] s.ms.length R wo wc s' R' wo' wc' ∧ forwardF n s = forwardF n' s' ∧ 9 ≤ n' + s'.st ∧ FwOk s')) (fun _ wr => 20 - stOf wr p)
  case atStart => exact HR0.out
  case round =>
    have HI := hidM hrel.out
    clear hrel
    clear HR0
    obtain ⟨n', s', R', wo', wc', hF, hE, hN, hK⟩ := HI.out
    have HF := hidM hF
    have HE := hidM hE
    have HN := hidM hN
    have HK := hidM hK
    have c2 : wr.cell? ⟨p, 2, none⟩ = some (.int .i64 (s'.st : Int)) := hF.rd.cells rfl
    have c3 : wr.cell? ⟨p, 3, none⟩ = some (.int .i64 (s'.left : Int)) := hF.rd.cells rfl
    have hst := hF.rd.stOf
    have HSt := hidM hst
    obtain ⟨st, hste⟩ : ∃ st, st = s'.st := ⟨_, rfl⟩
    obtain ⟨lf, hlf⟩ : ∃ lf, lf = s'.left := ⟨_, rfl⟩
    rw [← hste] at c2
    rw [← hlf] at c3
    have HSe := hidM hste
    have HLf := hidM hlf
    have h8 : st ≤ 8 := by rw [hste]; exact hK.st8
    clear HI hF hE hN hK hst hste hlf
    by_cases cl : lf = 0
    rotate_left
    · have clI : ((lf : Int) == 0) = false := by simp; omega
      have HFin : Hid (forwardF n s = (0, s')) := by
        show _ = _
        rw [HE.out]
        cases n' with
        | zero => rfl
        | succ k => unfold forwardF; rw [if_pos (by rw [← HLf.out]; exact cl)]
      go_wp2_with fail
      go_ret
      exact ⟨by rw [HFin.out]; rfl, by rw [HFin.out]; exact HF.out.done⟩
    have clI : ((lf : Int) == 0) = true := by simp; omega
    obtain ⟨k, rfl⟩ : ∃ k, n' = k + 1 := ⟨n' - 1, by have := HN.out; have := HSe.out; omega⟩
    by_cases c8 : st = 8
    · have c8I : ((st : Int) == 2) = false := by simp; omega
      have c8J : ((st : Int) == 8) = true := by simp; omega
      have HFin : Hid (forwardF n s = finishF s') := by
        show _ = _
        rw [HE.out]
        unfold forwardF
        rw [if_neg (by rw [← HLf.out]; simpa using cl), if_pos (by rw [← HSe.out]; exact c8)]
      have HC := hidM (finish_any HF.out.rd (HK.out.h4 (by rw [← HSe.out]; omega)) HK.out.hl HK.out.ms)
      go_wp2_with (go_at_call 62; refine Hid.out ?_)
      unfold Hid
      refine Calls.mono HC.out ?_
      rintro e V ⟨rfl, hD⟩
      obtain ⟨R2, wo2, wc2, hF2⟩ := HF.out.then hD
      have HF2 := hidM hF2
      clear hD hF2
      go_wp2_with fail
      go_ret
      exact ⟨by rw [HFin.out]; rfl, by rw [HFin.out]; exact HF2.out.done⟩
    have c8J : ((st : Int) == 8) = false := by simp; omega
    -- the rest of a round, behind what a head says
    have HRest : Hid (∀ V t R2 wo2 wc2, From w W V p 76 [x, y] s.ms.length R wo wc t R2 wo2 wc2 → t.st = st → t.left = 0 → FwOk t → forwardF n s = forwardF k (stepF t) →
        V.cell? ⟨p, 2, none⟩ = some (.int .i64 (st : Int)) ∧ V.frozen? ⟨p, 2, none⟩ = false ∧
        (∀ g2, Gr (V.setCell ⟨p, 2, none⟩ (.int .i64 ((st : Int) + 1))) g2 → g2.cell? ⟨p, 3, none⟩ = some (.int .i64 (t.left : Int)) ∧ g2.frozen? ⟨p, 3, none⟩ = false ∧ (∃ n' s' R' wo' wc', From w W (g2.setCell ⟨p, 3, none⟩ (.int .i64 (wantsF t.me t.bo (st + 1) : Int))) p 76 [x, y] s.ms.length R wo wc s' R' wo' wc' ∧ forwardF n s = forwardF n' s' ∧ 9 ≤ n' + s'.st ∧ FwOk s') ∧ stOf (g2.setCell ⟨p, 3, none⟩ (.int .i64 (wantsF t.me t.bo (st + 1) : Int))) p = st + 1) ∧
        (V.setCell ⟨p, 2, none⟩ (.int .i64 ((st : Int) + 1))).cell? ⟨p, 2, none⟩ = some (.int .i64 ((st : Int) + 1)) ∧
        Calls Try.prog 59 #[.pointer (some ⟨p, 0, none⟩), .int .i64 ((st : Int) + 1)] (V.setCell ⟨p, 2, none⟩ (.int .i64 ((st : Int) + 1))) fun e w' => e = .returned (.int .i64 (wantsF t.me t.bo (st + 1) : Int)) ∧ Gr (V.setCell ⟨p, 2, none⟩ (.int .i64 ((st : Int) + 1))) w') := fun V t R2 wo2 wc2 hF2 e1 e2 hK2 hE2 => by
      have i1 : ((st : Int) + 1) = ((st + 1 : Nat) : Int) := by omega
      have hF3 : From w W (V.setCell ⟨p, 2, none⟩ (.int .i64 ((st : Int) + 1))) p 76 [x, y] s.ms.length R wo wc { t with st := st + 1 } R2 wo2 wc2 := hF2.set (j := 2) (by rw [i1]; rfl) rfl (fun _ => rfl)
      refine ⟨by have := hF2.rd.cells (j := 2) (v := .int .i64 (t.st : Int)) rfl; rw [e1] at this; exact this, frz hF2.rd.box 2, fun V3 g3 => ?_, by have := hF3.rd.cells (j := 2) (v := .int .i64 ((st + 1 : Nat) : Int)) rfl; rw [← i1] at this; exact this, ?_⟩
      · have hF4 := hF3.gr g3
        have hF5 : From w W (V3.setCell ⟨p, 3, none⟩ (.int .i64 (wantsF t.me t.bo (st + 1) : Int))) p 76 [x, y] s.ms.length R wo wc (stepF t) R2 wo2 wc2 := hF4.set (j := 3) (by unfold stepF; rw [e1]; rfl) rfl (fun _ => rfl)
        refine ⟨hF4.rd.cells rfl, frz hF4.rd.box 3, ⟨k, stepF t, R2, wo2, wc2, hF5, hE2, ?_, hK2.step (by omega) e2⟩, ?_⟩
        · have := HN.out
          have := HSe.out
          show 9 ≤ k + (t.st + 1)
          omega
        · rw [hF5.rd.stOf]
          show t.st + 1 = st + 1
          omega
      · rw [i1]
        rw [i1] at hF3
        exact wants_any (by omega) (by have := hK2.me; omega) (by have := hK2.bo; omega) (hF3.rd.cells rfl) (hF3.rd.cells rfl)
    by_cases c2' : st = 2
    · have c2I : ((st : Int) == 2) = true := by simp; omega
      have HC := hidM (readHead_any HF.out.rd (HK.out.h2 (by rw [← HLf.out]; exact cl) (by rw [← HSe.out]; exact c2')) HK.out.hl HK.out.lm HK.out.lb)
      have HFin : Hid (forwardF n s = if (readHeadF s').1 ≠ 0 then readHeadF s' else forwardF k (stepF (readHeadF s').2)) := by
        show _ = _
        rw [HE.out]
        show forwardF (k + 1) s' = _
        rw [forwardF]
        rw [if_neg (by rw [← HLf.out]; simpa using cl), if_neg (by rw [← HSe.out]; exact c8)]
        simp only [show s'.st = 2 from by rw [← HSe.out]; exact c2', if_true]
        rfl
      obtain ⟨re, hre⟩ : ∃ re, re = (readHeadF s').1 := ⟨_, rfl⟩
      rw [← hre] at HC
      have HRe := hidM hre
      clear hre
      have HC2 := hidM c2'
      clear c2'
      go_wp2_with (go_at_call 61; refine Hid.out ?_)
      unfold Hid
      refine Calls.mono HC.out ?_
      rintro e V ⟨rfl, hD⟩
      obtain ⟨R2, wo2, wc2, hF2⟩ := HF.out.then hD
      have HF2 := hidM hF2
      clear hD hF2 HC
      by_cases cr : re = 0
      rotate_left
      · have crI : (re != 0) = true := by simpa using cr
        have HG : Hid (forwardF n s = readHeadF s') := by show _ = _; rw [HFin.out, if_pos (by rw [← HRe.out]; exact cr)]
        go_wp2_with fail
        go_ret
        exact ⟨by rw [HG.out, ← HRe.out]; rfl, by rw [HG.out]; exact HF2.out.done⟩
      have crI : (re != 0) = false := by simp [cr]
      have HG : Hid (forwardF n s = forwardF k (stepF (readHeadF s').2)) := by show _ = _; rw [HFin.out, if_neg (by rw [← HRe.out]; simpa using cr)]
      obtain ⟨b1, b2, b3, b4⟩ := HK.out.head (by rw [← HSe.out]; exact HC2.out) (by rw [← HRe.out]; exact cr)
      obtain ⟨q2, q2f, q3, q4, q5⟩ := HRest.out V _ R2 wo2 wc2 HF2.out (by rw [b2]; exact HC2.out.symm) (by rw [b3, ← HLf.out]; exact cl) b1 HG.out
      have HQ3 := hidM q3
      have HQ5 := hidM q5
      obtain ⟨wl, hwl⟩ : ∃ wl : Int, wl = (wantsF (readHeadF s').2.me (readHeadF s').2.bo (st + 1) : Int) := ⟨_, rfl⟩
      rw [← hwl] at HQ5
      simp only [← hwl] at HQ3
      clear q3 q5 hwl b1 b2 b3 b4 HRest HG HFin HF2 HF HE HN c2 c3 cr
      go_wp2_with (go_at_call 59; refine Hid.out ?_)
      unfold Hid
      refine Calls.mono HQ5.out ?_
      rintro e V2 ⟨rfl, g2⟩
      obtain ⟨r3, r3f, r4, r5⟩ := HQ3.out V2 g2
      have HR4 := hidM r4
      have HR5 := hidM r5
      clear r4 r5 g2 q2 q2f q4
      go_wp2_with fail
      go_roundw
      case rel => exact HR4.out
      case measure => have := HR5.out; have := HSt.out; have := HSe.out; omega
    · have c2I : ((st : Int) == 2) = false := by simp; omega
      have HG : Hid (forwardF n s = forwardF k (stepF s')) := by
        show _ = _
        rw [HE.out]
        show forwardF (k + 1) s' = _
        rw [forwardF]
        rw [if_neg (by rw [← HLf.out]; simpa using cl), if_neg (by rw [← HSe.out]; exact c8)]
        simp only [show ¬ s'.st = 2 from by rw [← HSe.out]; exact c2', if_false]
        rfl
      obtain ⟨q2, q2f, q3, q4, q5⟩ := HRest.out wr s' R' wo' wc' HF.out HSe.out.symm (by rw [← HLf.out]; exact cl) HK.out HG.out
      have HQ3 := hidM q3
      have HQ5 := hidM q5
      obtain ⟨wl, hwl⟩ : ∃ wl : Int, wl = (wantsF s'.me s'.bo (st + 1) : Int) := ⟨_, rfl⟩
      rw [← hwl] at HQ5
      simp only [← hwl] at HQ3
      clear q3 q5 hwl HRest HG HF HE HN
      go_wp2_with (go_at_call 59; refine Hid.out ?_)
      unfold Hid
      refine Calls.mono HQ5.out ?_
      rintro e V2 ⟨rfl, g2⟩
      obtain ⟨r3, r3f, r4, r5⟩ := HQ3.out V2 g2
      have HR4 := hidM r4
      have HR5 := hidM r5
      clear r4 r5 g2 q2 q2f q4
      go_wp2_with fail
      go_roundw
      case rel => exact HR4.out
      case measure => have := HR5.out; have := HSt.out; have := HSe.out; omega
end Go.Proofs.Ytemleibpmaclmaa.Kit
