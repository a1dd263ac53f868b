import Derived.Test.YteggcdhibcjneaaGreatDoorCB
set_option maxRecDepth 100000
set_option maxHeartbeats 4000000
namespace Go.Proofs.YteggcdhibcjneaaGreatDoor.Kit
variable {nx : Bool}
open Go.RowKit Go.Shelf Go.Deep
open Go.Proofs.YteggcdhibcjneaaGreatDoor.Kd (Ans AnsV cell5 cell2)
open Go.Proofs.YteggcdhibcjneaaGreatDoor.Ink (OwnRow)
set_option linter.unusedVariables false
set_option linter.unusedSimpArgs false
attribute [local go_sem] run_store_func

theorem results_cell31tt {fn : Func} {t u v : Tmp} {tmps : Array Value} {g : Nat} {cs : Array Value} {w : World} (h : fn.results = #[.cell t 50, .tmp u, .tmp v]) (ht : tmps.getD t undef = .pointer (some ⟨g, 0, none⟩)) (hg : w.heap[g]? = some (.cells cs 50 (0, 0))) (hi : (Tryz.prog.info? 50).map (·.size) = some cs.size) :
    (results fn tmps).run Tryz.prog w = .ok (.tuple #[.agg cs, tmps.getD u undef, tmps.getD v undef]) w := by
  have hl := run_loadVar_row (P := Tryz.prog) w g 50 50 cs (0, 0) _ hg Tryz.underlying50 rfl hi
  unfold results
  rw [h]
  simp only [Array.mapM_eq_mapM_toList, List.mapM_cons, List.mapM_nil, ht]
  simp [asAddr, hl]
theorem MaskQ.gr2 {W U w' u : World} {bs : List Bool} {v : Value} (h : MaskQ U w' bs v) (g0 : Gr W U) (g : Keeps w' u (fun z => ∃ c t, w'.heap[z]? = some (.cells c t) ∧ t ≠ 5 ∧ t ≠ 43)) (gu : Gr W u) : MaskQ W u bs v := by
  unfold MaskQ at *
  by_cases hz : offs bs = 0
  · rw [if_pos hz] at *; exact h
  · rw [if_neg hz] at *
    refine ⟨row_kp h.1 fun q e => g.block q (own_lt h.1 q e) (fun ⟨c, t, hc, h5, _⟩ => ?_), fun q e => Nat.le_trans g0.size (h.2.1 q e), gu⟩
    exact own_ne hc h.1 h5 e
theorem DatA.gr2 {W U w' u : World} {L : Nat} {bs : List Bool} {xs : List Int} {bo : Option Addr} {bc : Nat} (h : DatA U w' L bs xs bo bc) (g0 : Gr W U) (g : Keeps w' u (fun z => ∃ c t, w'.heap[z]? = some (.cells c t) ∧ t ≠ 5 ∧ t ≠ 43)) (gu : Gr W u) : DatA W u L bs xs bo bc := by
  obtain ⟨val, q, h1, h2, h3, h4, h5⟩ := h
  refine ⟨val, q, h1.gr2 g0 g gu, row_kp h2 fun q e => g.block q (own_lt h2 q e) (fun ⟨c, t, hc, _, h8⟩ => own_ne hc h2 h8 e), fun q e => Nat.le_trans g0.size (h3 q e), ?_, Nat.le_trans g0.size h5⟩
  refine (g.block q (lt_of_heap h4) (fun ⟨c, t, hc, h5, _⟩ => ?_)).trans h4
  rw [h4] at hc
  simp at hc
  exact h5 hc.2.symm
/-- a list of numbers and nulls as it is handed in -/
def VAt (W : World) (la : Option Addr) (vs : List (Bool × Int)) : Prop := ∀ k vn x, vs[k]? = some (vn, x) → ∃ lb xo xc, la = some ⟨lb, 0, none⟩ ∧ W.cell? ⟨lb, k * 4, none⟩ = some (.bool vn) ∧ W.cell? ⟨lb, k * 4 + 1, none⟩ = some (.int .i64 x) ∧ W.cell? ⟨lb, k * 4 + 2, none⟩ = some (.string ⟨#[]⟩) ∧ W.cell? ⟨lb, k * 4 + 3, none⟩ = some (.slice xo 0 xc)
theorem VAt.gr {W u : World} {la : Option Addr} {vs : List (Bool × Int)} (h : VAt W la vs) (g : Gr W u) : VAt u la vs := fun k vn x e => by
  obtain ⟨lb, xo, xc, e0, e1, e2, e3, e4⟩ := h k vn x e
  exact ⟨lb, xo, xc, e0, g.cell' e1 id, g.cell' e2 id, g.cell' e3 id, g.cell' e4 id⟩
def bsOf (vs : List (Bool × Int)) : List Bool := vs.map fun y => !y.1
def xsOf (vs : List (Bool × Int)) : List Int := vs.map fun y => y.2
/-- the builder behind k values -/
def OfI (nx : Bool) (A wr : World) (p n m t : Nat) (nu : Bool) (fo : Option Addr) (fc : Nat) (vs : List (Bool × Int)) (k : Nat) : Prop := Gr A wr ∧ wr.heap[p]? = some (.cells (bdC nx nu fo fc n t k) 220) ∧ (∃ vo vc lo lc, Nd A.heap.size wr n m t nu ((16 * k : Nat) : Int) vo k vc ((bsOf (vs.take k)).map Value.bool) lo lc ((xsOf (vs.take k)).map iv)) ∧ ∀ y ∈ vs.take k, fitN nu 3 y.1 y.2 = true
def OfA (W : World) (nu : Bool) (vs : List (Bool × Int)) (e : Ending) (w' : World) : Prop := Gr W w' ∧
  ((∃ bo bc, (∀ y ∈ vs, fitN nu 3 y.1 y.2 = true) ∧ e = .returned (.tuple #[.agg (dC vs.length (offs (bsOf vs)) (.slice bo 2 bc)), .int .i64 0, .int .i64 0]) ∧ DatA W w' vs.length (bsOf vs) (xsOf vs) bo bc) ∨
   ∃ (k : Nat) (y : Bool × Int), vs[k]? = some y ∧ fitN nu 3 y.1 y.2 = false ∧ (∀ y ∈ vs.take k, fitN nu 3 y.1 y.2 = true) ∧ e = .returned (.tuple #[.agg (dC 0 0 (.slice none 0 0)), .int .i64 7, .int .i64 k]))
/-- what Of does behind Done -/
theorem of_tail {W A wr X w9 : World} {p n t : Nat} {nu : Bool} {fo : Option Addr} {fc : Nat} {rows : Int} {L N : Nat} {bs : List Bool} {xs : List Int} {bo : Option Addr} {bc : Nat} (gA : Gr W A) (hsz : A.heap.size = W.heap.size + 2) (hr : A.heap[W.heap.size + 1]? = some (.cells (dC 0 0 (.slice none 0 0)) 50)) (gr : Gr A wr) (hp : A.heap.size ≤ p) (hpw : wr.heap[p]? = some (.cells (bdC nx nu fo fc n t rows) 220)) (hK : Keeps wr w9 (fun z => z = p)) (gX : Gr wr X) (kX : Keeps X w9 (fun z => z = p)) (hD : DatA wr X L bs xs bo bc) :
    (w9.alloc (.cells (dC L N (.slice bo 2 bc)) 50)).heap[w9.heap.size]? = some (.cells (dC L N (.slice bo 2 bc)) 50) ∧ (w9.alloc (.cells (dC L N (.slice bo 2 bc)) 50)).heap[W.heap.size + 1]? = some (.cells (dC 0 0 (.slice none 0 0)) 50) ∧ (mkU (w9.alloc (.cells (dC L N (.slice bo 2 bc)) 50)) (W.heap.size + 1) L N (.slice bo 2 bc)).heap[W.heap.size + 1]? = some (.cells (dC L N (.slice bo 2 bc)) 50) ∧ Gr W (mkU (w9.alloc (.cells (dC L N (.slice bo 2 bc)) 50)) (W.heap.size + 1) L N (.slice bo 2 bc)) ∧ DatA W (mkU (w9.alloc (.cells (dC L N (.slice bo 2 bc)) 50)) (W.heap.size + 1) L N (.slice bo 2 bc)) L bs xs bo bc := by
  have gWr : Gr W wr := gA.trans gr (fun _ _ h => h)
  have gA9 : Gr A w9 := gr.trans hK (fun j hj e => by have e' : j = p := e; omega)
  have gW9 : Gr W w9 := gA.trans gA9 (fun _ _ h => h)
  have hpX := (gX.block p (lt_of_heap hpw) id).trans hpw
  have hD9 : DatA W w9 L bs xs bo bc := hD.gr2 gWr (kX.mono fun j hj e => ⟨bdC nx nu fo fc n t rows, 220, by have e' : j = p := e; subst e'; exact hpX, by decide, by decide⟩) gW9
  obtain ⟨V, hV⟩ : ∃ V, w9.alloc (.cells (dC L N (.slice bo 2 bc)) 50) = V := ⟨_, rfl⟩
  have g9V : Gr w9 V := by rw [← hV]; exact gr_alloc w9 _
  have gV : Gr W V := gW9.trans g9V (fun _ _ h => h)
  have hrV := ((gA9.trans g9V (fun _ _ h => h)).block _ (by omega) id).trans hr
  have hd : V.heap[w9.heap.size]? = some (.cells (dC L N (.slice bo 2 bc)) 50) := by rw [← hV]; exact heap_alloc_new w9 _
  rw [hV]
  exact ⟨hd, hrV, mk_store gV (by omega) hrV (hD9.gr2 (Keeps.refl W _) (g9V.mono fun _ _ h => h.elim) gV)⟩
theorem of5 (nu : Bool) (ao : Option Addr) (ca : Nat) (la : Option Addr) (lcap : Nat) (vs : List (Bool × Int)) (W : World) (hT : Tab W) (hV : VAt W la vs) (hL : vs.length ≤ 3000) :
    Calls Tryz.prog 80 #[.agg #[.string (nmB nx), .bool nu, .int .i64 3, .int .i64 0, .int .i64 0, .int .i64 0, .slice ao 0 ca], .slice la vs.length lcap] W (OfA W nu vs) := by
  obtain ⟨Ln, hLn⟩ : ∃ Ln, vs.length = Ln := ⟨_, rfl⟩
  rw [hLn] at hL ⊢
  obtain ⟨A, hA⟩ : ∃ A, (W.alloc (.cells #[.string (nmB nx), .bool nu, .int .i64 3, .int .i64 0, .int .i64 0, .int .i64 0, .slice ao 0 ca] 47)).alloc (.cells (dC 0 0 (.slice none 0 0)) 50) = A := ⟨_, rfl⟩
  have gA : Gr W A := by rw [← hA]; exact (gr_alloc W _).trans (gr_alloc _ _) (fun _ _ h => h)
  have hsz : A.heap.size = W.heap.size + 2 := by rw [← hA]; simp
  have hb2 : A.heap[W.heap.size + 1]? = some (.cells (dC 0 0 (.slice none 0 0)) 50) := by
    have e2 := heap_alloc_new (W.alloc (.cells #[.string (nmB nx), .bool nu, .int .i64 3, .int .i64 0, .int .i64 0, .int .i64 0, .slice ao 0 ca] 47)) (.cells (dC 0 0 (.slice none 0 0)) 50)
    rw [show (W.alloc (.cells #[.string (nmB nx), .bool nu, .int .i64 3, .int .i64 0, .int .i64 0, .int .i64 0, .slice ao 0 ca] 47)).heap.size = W.heap.size + 1 by simp, hA] at e2
    exact e2
  have hb1 : A.heap[W.heap.size]? = some (.cells #[.string (nmB nx), .bool nu, .int .i64 3, .int .i64 0, .int .i64 0, .int .i64 0, .slice ao 0 ca] 47) := by
    have e1 := heap_alloc_new W (.cells #[.string (nmB nx), .bool nu, .int .i64 3, .int .i64 0, .int .i64 0, .int .i64 0, .slice ao 0 ca] 47)
    rw [← hA]
    exact ((gr_alloc _ _).block _ (lt_of_heap e1) id).trans e1
  have HNew : Hid (Calls Tryz.prog 102 #[.agg #[.string (nmB nx), .bool nu, .int .i64 3, .int .i64 0, .int .i64 0, .int .i64 0, .slice ao 0 ca]] A fun e w1 => ∃ p n m t fo fc, e = .returned (.tuple #[.pointer (some ⟨p, 0, none⟩), .int .i64 0]) ∧ A.heap.size ≤ p ∧ OfI nx A w1 p n m t nu fo fc vs 0) := by
    refine (new7 nu ao ca A (hT.gr gA)).mono ?_
    rintro e w1 ⟨p, n, m, t, fo, fc, rfl, g1, hlow, hb⟩
    exact ⟨p, n, m, t, fo, fc, rfl, hlow.1, g1, hb.hp, ⟨none, 0, none, 0, hb.hn, hb.hm, hb.ht, ⟨rfl, .inl ⟨rfl, rfl⟩⟩, ⟨rfl, .inl ⟨rfl, rfl⟩⟩, ⟨hlow.2.1, hlow.2.2.1, hlow.2.2.2⟩, fun g e => by simp [Value.ownBlock] at e, fun g e => by simp [Value.ownBlock] at e⟩, by simp⟩
  have HTA := hidM (hT.gr gA)
  have HVA := hidM (hV.gr gA)
  have HGA := hidM gA
  have HSZ := hidM hsz
  have HR := hidM hb2
  have HLn := hidM hLn
  obtain ⟨a0, a1, a2, a3, a4, a5, a6⟩ := cell7 hb1
  clear hT hV gA hsz hb2 hb1 hLn
  unfold dC at hA
  go_enter Tryz.func80, Tryz.ntmps80
  go_wp2_with (go_at_call 102; refine HNew.out.mono ?_; rintro e w1 ⟨p, n, m, t, fo, fc, rfl, hp, hI⟩; have HP := hidM hp; have HI0 := hidM hI; clear hp hI hA a0 a1 a2 a3 a4 a5 a6)
  go_loopw [24] (fun i wr => ∃ k : Nat, k ≤ Ln ∧ i = .int .i64 k ∧ Hid (OfI nx A wr p n m t nu fo fc vs k)) (fun i _ => Ln - (intOf i).toNat)
  case atStart => exact ⟨0, by omega, rfl, HI0⟩
  case round =>
    clear HI0
    obtain ⟨k, hk, rfl, HI⟩ := hrel
    by_cases hlt : k < Ln
    · have hxk : k < vs.length := by have := HLn.out; omega
      obtain ⟨⟨vn, x⟩, hy⟩ : ∃ y, vs[k]? = some y := ⟨_, List.getElem?_eq_getElem hxk⟩
      obtain ⟨lb, xo, xc, rfl, c0, c1, c2, c3⟩ := (HVA.out.gr HI.out.1) k vn x hy
      obtain ⟨V, hVe⟩ : ∃ V, wr.alloc (.cells #[.bool vn, .int .i64 x, .string ⟨#[]⟩, .slice xo 0 xc] 86) = V := ⟨_, rfl⟩
      have gV : Gr wr V := by rw [← hVe]; exact gr_alloc wr _
      have hvb : V.heap[wr.heap.size]? = some (.cells #[.bool vn, .int .i64 x, .string ⟨#[]⟩, .slice xo 0 xc] 86) := by rw [← hVe]; exact heap_alloc_new wr _
      obtain ⟨q0, q1, q2, q3⟩ := cell4 hvb
      have gAV : Gr A V := HI.out.1.trans gV (fun _ _ h => h)
      have HGV := hidM gAV
      have htk : vs.take (k + 1) = vs.take k ++ [(vn, x)] := by rw [List.take_add_one, hy]; rfl
      have HA9 : Hid (Calls Tryz.prog 103 #[.pointer (some ⟨p, 0, none⟩), .agg #[.bool vn, .int .i64 x, .string ⟨#[]⟩, .slice xo 0 xc]] V (AddA nx A.heap.size V p n m t nu fo fc k ((16 * k : Nat) : Int) k ((bsOf (vs.take k)).map Value.bool) ((xsOf (vs.take k)).map iv) vn x)) := by
        obtain ⟨-, hpb, ⟨vo, vc, lo, lc, hnd⟩, -⟩ := HI.out
        exact add8 A.heap.size p n m t nu fo fc k ((16 * k : Nat) : Int) vo k vc _ lo lc _ vn x xo xc V (HTA.out.gr gAV) ((gV.block _ (lt_of_heap hpb) id).trans hpb) (hnd.gr gV) gAV.size HP.out (by omega) ⟨by omega, by omega⟩ ⟨by omega, by omega⟩
      by_cases hf : fitN nu 3 vn x = true
      · have HNx : Hid (∀ e w2, AddA nx A.heap.size V p n m t nu fo fc k ((16 * k : Nat) : Int) k ((bsOf (vs.take k)).map Value.bool) ((xsOf (vs.take k)).map iv) vn x e w2 → e = .returned (.int .i64 0) ∧ OfI nx A w2 p n m t nu fo fc vs (k + 1)) := by
          intro e w2 h
          unfold AddA at h
          rw [if_pos hf] at h
          obtain ⟨rfl, hfr, hp2, vo', vc', lo', lc', hn2⟩ := h
          refine ⟨rfl, hfr.low gAV (Nat.le_refl _), hp2, ⟨vo', vc', lo', lc', ?_⟩, fun y hmem => ?_⟩
          · rw [htk]
            have e1 : ((16 * (k + 1) : Nat) : Int) = ((16 * k : Nat) : Int) + 16 := by omega
            rw [e1]
            simpa [bsOf, xsOf, iv] using hn2
          · rw [htk] at hmem
            rcases List.mem_append.mp hmem with h | h
            · exact HI.out.2.2.2 y h
            · simp at h
              subst h
              exact hf
        clear hvb gV gAV htk HI hy hxk hf
        go_wp2_with (go_at_call 103; refine HA9.out.mono ?_; intro e w2 hadd; obtain ⟨rfl, hI2⟩ := HNx.out e w2 hadd; have HI2 := hidM hI2; clear hadd hI2)
        go_roundw
        case rel => exact ⟨k + 1, by omega, by go_num, HI2⟩
        case measure => simp [intOf]; omega
      · have hf' : fitN nu 3 vn x = false := by simpa using hf
        have HNx : Hid (∀ e w2, AddA nx A.heap.size V p n m t nu fo fc k ((16 * k : Nat) : Int) k ((bsOf (vs.take k)).map Value.bool) ((xsOf (vs.take k)).map iv) vn x e w2 → e = .returned (.int .i64 7) ∧ Gr W w2 ∧ w2.heap[W.heap.size + 1]? = some (.cells (dC 0 0 (.slice none 0 0)) 50)) := by
          intro e w2 h
          unfold AddA at h
          rw [if_neg hf] at h
          have g2 : Gr A w2 := gAV.trans h.2 (fun _ _ h => h)
          exact ⟨h.1, HGA.out.trans g2 (fun _ _ h => h), (g2.block _ (lt_of_heap HR.out) id).trans HR.out⟩
        have HAll := hidM HI.out.2.2.2
        have HY := hidM hy
        have HF := hidM hf'
        clear hvb gV gAV htk HI hy hxk hf hf'
        go_wp2_with (go_at_call 103; refine HA9.out.mono ?_; intro e w2 hadd; obtain ⟨rfl, hg2, hr2⟩ := HNx.out e w2 hadd; have HG2 := hidM hg2; have HR2 := hidM hr2; have s0 := set_id (j := 0) (v := .int .i64 0) hr2 rfl; have s1 := set_id (j := 1) (v := .int .i64 0) hr2 rfl; have s2 := set_id (j := 2) (v := .int .i64 0) hr2 rfl; have s3 := set_id (j := 3) (v := .slice none 0 0) hr2 rfl; have s4 := set_id (j := 4) (v := .slice none 0 0) hr2 rfl; have s5 := set_id (j := 5) (v := .slice none 0 0) hr2 rfl; have y0 := frz hr2 0; have y1 := frz hr2 1; have y2 := frz hr2 2; have y3 := frz hr2 3; have y4 := frz hr2 4; have y5 := frz hr2 5; obtain ⟨g0, g1, g2, g3, g4, g5⟩ := cell6 hr2; clear hadd hg2 hr2)
        (try simp only [Exit.inBlock, Exit.then])
        refine bodyPost_ret (results_cell31tt rfl rfl (by with_reducible exact HR2.out) (by kernel_rfl)) rfl ?_
        exact ⟨HG2.out, .inr ⟨k, (vn, x), HY.out, HF.out, HAll.out, rfl⟩⟩
    · obtain rfl : k = Ln := by omega
      obtain ⟨N, hN⟩ : ∃ N, offs (bsOf vs) = N := ⟨_, rfl⟩
      have htk : vs.take k = vs := by rw [← HLn.out, List.take_length]
      have HD9 : Hid (Calls Tryz.prog 104 #[.pointer (some ⟨p, 0, none⟩)] wr fun e w' => ∃ bo bc, e = .returned (.tuple #[.agg (dC k N (.slice bo 2 bc)), .int .i64 0]) ∧ Keeps wr w' (fun z => z = p) ∧ ∃ U, Gr wr U ∧ Keeps U w' (fun z => z = p) ∧ DatA wr U k (bsOf vs) (xsOf vs) bo bc) := by
        obtain ⟨-, hpb, ⟨vo, vc, lo, lc, hnd⟩, -⟩ := HI.out
        rw [htk] at hnd
        have h := done9 A.heap.size p n m t nu fo fc k ((16 * k : Nat) : Int) vo k vc (bsOf vs) lo lc (xsOf vs) wr hpb hnd (by omega)
        rw [hN] at h
        exact h
      have HAll : Hid (∀ y ∈ vs, fitN nu 3 y.1 y.2 = true) := by have h := HI.out.2.2.2; rw [htk] at h; exact h
      have HTl : Hid (∀ w9 bo bc, Keeps wr w9 (fun z => z = p) → (∃ X, Gr wr X ∧ Keeps X w9 (fun z => z = p) ∧ DatA wr X k (bsOf vs) (xsOf vs) bo bc) → (w9.alloc (.cells (dC k N (.slice bo 2 bc)) 50)).heap[w9.heap.size]? = some (.cells (dC k N (.slice bo 2 bc)) 50) ∧ (w9.alloc (.cells (dC k N (.slice bo 2 bc)) 50)).heap[W.heap.size + 1]? = some (.cells (dC 0 0 (.slice none 0 0)) 50) ∧ (mkU (w9.alloc (.cells (dC k N (.slice bo 2 bc)) 50)) (W.heap.size + 1) k N (.slice bo 2 bc)).heap[W.heap.size + 1]? = some (.cells (dC k N (.slice bo 2 bc)) 50) ∧ Gr W (mkU (w9.alloc (.cells (dC k N (.slice bo 2 bc)) 50)) (W.heap.size + 1) k N (.slice bo 2 bc)) ∧ DatA W (mkU (w9.alloc (.cells (dC k N (.slice bo 2 bc)) 50)) (W.heap.size + 1) k N (.slice bo 2 bc)) k (bsOf vs) (xsOf vs) bo bc) := fun w9 bo bc hK ⟨X, gX, kX, hD⟩ => of_tail HGA.out HSZ.out HR.out HI.out.1 HP.out HI.out.2.1 hK gX kX hD
      have HN := hidM hN
      clear htk HI hN
      go_wp2_with (go_at_call 104; refine HD9.out.mono ?_; rintro e w9 ⟨bo, bc, rfl, hK, hX⟩; have HT := hidM (HTl.out w9 bo bc hK hX); clear hK hX; obtain ⟨V, hV⟩ : ∃ V, w9.alloc (.cells (dC k N (.slice bo 2 bc)) 50) = V := ⟨_, rfl⟩; rw [hV] at HT; obtain ⟨U, hU⟩ : ∃ U, mkU V (W.heap.size + 1) k N (.slice bo 2 bc) = U := ⟨_, rfl⟩; rw [hU] at HT; simp only [mkU, setAll] at hU; obtain ⟨e0, e1, e2, e3, e4, e5⟩ := cell6 HT.out.1; have z4 := frz HT.out.1 4; have z5 := frz HT.out.1 5; have s4 := set_id (j := 4) (v := .slice none 0 0) HT.out.1 rfl; have s5 := set_id (j := 5) (v := .slice none 0 0) HT.out.1 rfl; obtain ⟨r0, r1, r2, r3, r4, r5⟩ := cell6 HT.out.2.1; have y0 := frz HT.out.2.1 0; have y1 := frz HT.out.2.1 1; have y2 := frz HT.out.2.1 2; have y3 := frz HT.out.2.1 3; have y4 := frz HT.out.2.1 4; have y5 := frz HT.out.2.1 5; unfold dC at hV; unfold dC)
      (try simp only [Exit.inBlock, Exit.then])
      refine bodyPost_ret (results_cell31tt rfl rfl (by with_reducible exact HT.out.2.2.1) (by kernel_rfl)) rfl ?_
      refine ⟨HT.out.2.2.2.1, .inl ⟨bo, bc, HAll.out, ?_, ?_⟩⟩
      · rw [HN.out, HLn.out]; rfl
      · rw [HLn.out]; exact HT.out.2.2.2.2
end Go.Proofs.YteggcdhibcjneaaGreatDoor.Kit
