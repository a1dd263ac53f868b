import Derived.Test.YtknnoiomdngmfaaGreatDoorBW
set_option maxRecDepth 100000
set_option maxHeartbeats 4000000
namespace Go.Proofs.YtknnoiomdngmfaaGreatDoor.Kit
open Go.RowKit Go.Shelf Go.Deep
open Go.Proofs.YtknnoiomdngmfaaGreatDoor.Ink (OwnRow)
set_option linter.unusedVariables false
set_option linter.unusedSimpArgs false
attribute [local go_sem] run_store_func
theorem ptr_some (n : Nat) (w : World) : (binOp .eql 146 (.pointer (some ⟨n, 0, none⟩)) (.pointer none)).run Tryz.prog w = .ok (.bool false) w := by kernel_rfl
def dnW (V : World) (p : Nat) : World := setAll V p [(7, .pointer none), (8, .pointer none)]
theorem cell10 {W : World} {p t : Nat} {nu : Bool} {fo : Option Addr} {fc n t' : Nat} {rows : Int} (h : W.heap[p]? = some (.cells (bdC nu fo fc n t' rows) t)) : W.cell? ⟨p, 7, none⟩ = some (.pointer (some ⟨n, 0, none⟩)) ∧ W.cell? ⟨p, 8, none⟩ = some (.pointer (some ⟨t', 0, none⟩)) := by
  constructor <;> simp [World.cell?, h, bdC]
theorem set_id {W : World} {b ty j : Nat} {c : Array Value} {v : Value} (h : W.heap[b]? = some (.cells c ty)) (hv : c.setIfInBounds j v = c) : W.setCell ⟨b, j, none⟩ v = W := by
  have hm : (W.setCell ⟨b, j, none⟩ v).heap = W.heap := by
    apply Array.ext_getElem?
    intro i
    by_cases e : i = b
    · subst e
      rw [heap_setCell_same W i j _ _ v h, h, hv]
    exact heap_setCell_other _ _ _ _ e
  show ({ W with heap := (W.setCell ⟨b, j, none⟩ v).heap } : World) = W
  rw [hm]
structure DoneT (W A w1 : World) (p L N : Nat) (nu : Bool) (fo : Option Addr) (fc n t : Nat) (rows : Int) (bs : List Bool) (xs : List Int) (bo : Option Addr) (bc : Nat) (V Z U : World) : Prop where
  dV : V.heap[w1.heap.size]? = some (.cells (dC L N (.slice bo 2 bc)) 54)
  pV : V.heap[p]? = some (.cells (bdC nu fo fc n t rows) 149)
  pZ : (V.setCell ⟨p, 7, none⟩ (.pointer none)).frozen? ⟨p, 8, none⟩ = false
  dZ : Z.heap[w1.heap.size]? = some (.cells (dC L N (.slice bo 2 bc)) 54)
  rZ : Z.heap[W.heap.size]? = some (.cells (dC 0 0 (.slice none 0 0)) 54)
  rU : U.heap[W.heap.size]? = some (.cells (dC L N (.slice bo 2 bc)) 54)
  kU : Keeps W U (fun z => z = p)
  fin : ∃ X, Gr W X ∧ Keeps X U (fun z => z = p) ∧ DatA W X L bs xs bo bc
theorem done_tail {W A w1 : World} {p L N : Nat} {nu : Bool} {fo : Option Addr} {fc n t : Nat} {rows : Int} {bs : List Bool} {xs : List Int} {bo : Option Addr} {bc : Nat} (gA : Gr W A) (hsz : A.heap.size = W.heap.size + 1) (hr0 : A.heap[W.heap.size]? = some (.cells (dC 0 0 (.slice none 0 0)) 54)) (hp : W.heap[p]? = some (.cells (bdC nu fo fc n t rows) 149)) (g1 : Gr A w1) (hD : DatA A w1 L bs xs bo bc) :
    DoneT W A w1 p L N nu fo fc n t rows bs xs bo bc (w1.alloc (.cells (dC L N (.slice bo 2 bc)) 54)) (dnW (w1.alloc (.cells (dC L N (.slice bo 2 bc)) 54)) p) (mkU (dnW (w1.alloc (.cells (dC L N (.slice bo 2 bc)) 54)) p) W.heap.size L N (.slice bo 2 bc)) := by
  have gW1 : Gr W w1 := gA.tr g1
  obtain ⟨V, hV⟩ := ex (w1.alloc (.cells (dC L N (.slice bo 2 bc)) 54))
  have hdV := al_new hV
  have g1V := gr_al hV
  rw [hV]
  have gV : Gr W V := gW1.tr g1V
  have hpl := lt_of_heap hp
  have hs1 := g1.size
  have hpV := (gV.block p hpl id).trans hp
  have hrV := ((g1.tr g1V).block _ (by omega) id).trans hr0
  have kZ : Keeps V (dnW V p) (fun z => z = p) := setAll_kp _ _ _
  have hdZ := (kZ.block _ (lt_of_heap hdV) (by omega)).trans hdV
  have hrZ := (kZ.block _ (lt_of_heap hrV) (by omega)).trans hrV
  have kU : Keeps (dnW V p) (mkU (dnW V p) W.heap.size L N (.slice bo 2 bc)) (fun z => z = W.heap.size) := setAll_kp _ _ _
  have hst := mk_store (r := W.heap.size) (N := N) gV (Nat.le_refl _) hrV ((hD.gr gA (g1V.mono fun _ _ h => h.elim) gV))
  refine ⟨hdV, hpV, ?_, hdZ, hrZ, ?_, ?_, mkU V W.heap.size L N (.slice bo 2 bc), hst.2.1, ?_, hst.2.2⟩
  · exact frz (heap_setCell_same V p 7 _ _ _ hpV) 8
  · rw [show mkU (dnW V p) W.heap.size L N (.slice bo 2 bc) = setAll (dnW V p) W.heap.size _ from rfl, setAll_blk W.heap.size 54 _ _ _ hrZ]
    simp [setsA, dC]
  · exact (Keeps.trans (gV.mono fun _ _ h => h.elim) kZ (fun _ _ h => h)).trans kU (fun j hj (e : j = W.heap.size) => by omega)
  have k0 : Keeps V (mkU V W.heap.size L N (.slice bo 2 bc)) (fun z => z = W.heap.size) := setAll_kp _ _ _
  have e1 : (mkU V W.heap.size L N (.slice bo 2 bc)).heap.size = V.heap.size := by simp [mkU, setAll]
  have e2 : (mkU (dnW V p) W.heap.size L N (.slice bo 2 bc)).heap.size = V.heap.size := by simp [mkU, dnW, setAll]
  refine ⟨by rw [kU.os, kZ.os, k0.os], by rw [kU.tape, kZ.tape, k0.tape], by rw [kU.output, kZ.output, k0.output], by omega, fun j hj hn => ?_⟩
  have hjV : j < V.heap.size := by omega
  have hjZ := Nat.lt_of_lt_of_le hjV kZ.size
  by_cases e : j = W.heap.size
  · subst e
    rw [hst.1]
    rw [show mkU (dnW V p) W.heap.size L N (.slice bo 2 bc) = setAll (dnW V p) W.heap.size _ from rfl, setAll_blk W.heap.size 54 _ _ _ hrZ]
    simp [setsA, dC]
  rw [kU.block j hjZ e, k0.block j hjV e]
  exact kZ.block j hjV hn
theorem done9 (B p n m t : Nat) (nu : Bool) (fo : Option Addr) (fc : Nat) (rows wt : Int) (vo : Option Addr) (L vc : Nat) (bs : List Bool) (lo : Option Addr) (lc : Nat) (xs : List Int) (W : World) (hp : W.heap[p]? = some (.cells (bdC nu fo fc n t rows) 149)) (h : Nd B W n m t nu wt vo L vc (bs.map Value.bool) lo lc (xs.map iv)) (hL : L ≤ 4000) :
    Calls Tryz.prog 71 #[.pointer (some ⟨p, 0, none⟩)] W fun e w' => ∃ bo bc, e = .returned (.tuple #[.agg (dC L (offs bs) (.slice bo 2 bc)), .int .i64 0]) ∧ Keeps W w' (fun z => z = p) ∧ ∃ U, Gr W U ∧ Keeps U w' (fun z => z = p) ∧ DatA W U L bs xs bo bc := by
  obtain ⟨A, hA⟩ := ex (W.alloc (.cells (dC 0 0 (.slice none 0 0)) 54))
  have gA := gr_al hA
  have hsz : A.heap.size = W.heap.size + 1 := by rw [← hA]; simp
  have hr0 := al_new hA
  obtain ⟨N, hN⟩ := ex (offs bs)
  have hpA := (gA.block _ (lt_of_heap hp) id).trans hp
  obtain ⟨c7, c8⟩ := cell10 hpA
  have HC := hidM (data17 B n m t nu wt vo L vc bs lo lc xs A (h.gr gA) hL)
  have hptr := ptr_some n
  rw [hN] at HC
  have HN := hidM hN
  have HP := hidM hp
  have HPA := hidM hpA
  have HGA := hidM gA
  have HR0 := hidM hr0
  have HSZ := hidM hsz
  clear h gA hr0 hsz hN hp hpA
  unfold dC at hA
  go_enter Tryz.func71, Tryz.ntmps71
  go_wp2_with (go_at_call 102; refine HC.out.mono ?_; rintro e w1 ⟨bo, bc, rfl, g1, hD⟩; have HT := hidM (done_tail (N := N) HGA.out HSZ.out HR0.out HP.out g1 hD); clear hA c7 c8 g1 hD; obtain ⟨V, hV⟩ := ex (w1.alloc (.cells (dC L N (.slice bo 2 bc)) 54)); rw [hV] at HT; obtain ⟨Z, hZ⟩ := ex (dnW V p); rw [hZ] at HT; obtain ⟨U, hU⟩ := ex (mkU Z W.heap.size L N (.slice bo 2 bc)); rw [hU] at HT; simp only [mkU, setAll] at hU; simp only [dnW, setAll] at hZ; obtain ⟨e0, e1, e2, e3, e4, e5⟩ := cell6 HT.out.dV; obtain ⟨c7, c8⟩ := cell10 HT.out.pV; have z4 := frz HT.out.dV 4; have z5 := frz HT.out.dV 5; have s4 := set_id (j := 4) (v := .slice none 0 0) HT.out.dV rfl; have s5 := set_id (j := 5) (v := .slice none 0 0) HT.out.dV rfl; have z7 := frz HT.out.pV 7; have z8 := HT.out.pZ; obtain ⟨f0, f1, f2, f3, f4, f5⟩ := cell6 HT.out.dZ; obtain ⟨r0, r1, r2, r3, r4, r5⟩ := cell6 HT.out.rZ; obtain ⟨y0, y1, y2, y3, y4, y5⟩ := frz6 HT.out.rZ; unfold dC at hV; unfold dC)
  (try simp only [Exit.inBlock, Exit.then])
  refine bodyPost_ret (results_cell31t rfl rfl (by with_reducible exact HT.out.rU) (by kernel_rfl)) rfl ?_
  rw [HN.out]
  exact ⟨bo, bc, rfl, HT.out.kU, HT.out.fin.imp fun X hX => hX⟩
theorem results_cell31tt {fn : Func} {t u v : Tmp} {tmps : Array Value} {g : Nat} {cs : Array Value} {w : World} (h : fn.results = #[.cell t 54, .tmp u, .tmp v]) (ht : tmps.getD t undef = .pointer (some ⟨g, 0, none⟩)) (hg : w.heap[g]? = some (.cells cs 54 (0, 0))) (hi : (Tryz.prog.info? 54).map (·.size) = some cs.size) :
    (results fn tmps).run Tryz.prog w = .ok (.tuple #[.agg cs, tmps.getD u undef, tmps.getD v undef]) w := by
  have hl := run_loadVar_row (P := Tryz.prog) w g 54 54 cs (0, 0) _ hg Tryz.underlying54 rfl hi
  unfold results
  rw [h]
  simp only [Array.mapM_eq_mapM_toList, List.mapM_cons, List.mapM_nil, ht]
  simp [asAddr, hl]
theorem MaskQ.gr2 {W U w' u : World} {bs : List Bool} {v : Value} (h : MaskQ U w' bs v) (g0 : Gr W U) (g : Keeps w' u (fun z => ∃ c t, w'.heap[z]? = some (.cells c t) ∧ t ≠ 5 ∧ t ≠ 50)) (gu : Gr W u) : MaskQ W u bs v := by
  unfold MaskQ at *
  by_cases hz : offs bs = 0
  · rw [if_pos hz] at *; exact h
  rw [if_neg hz] at *
  refine ⟨row_kp h.1 fun q e => g.block q (own_lt h.1 q e) (fun ⟨c, t, hc, h5, _⟩ => ?_), fun q e => Nat.le_trans g0.size (h.2.1 q e), gu⟩
  exact own_ne hc h.1 h5 e
theorem DatA.gr2 {W U w' u : World} {L : Nat} {bs : List Bool} {xs : List Int} {bo : Option Addr} {bc : Nat} (h : DatA U w' L bs xs bo bc) (g0 : Gr W U) (g : Keeps w' u (fun z => ∃ c t, w'.heap[z]? = some (.cells c t) ∧ t ≠ 5 ∧ t ≠ 50)) (gu : Gr W u) : DatA W u L bs xs bo bc := by
  obtain ⟨val, q, h1, h2, h3, h4, h5⟩ := h
  refine ⟨val, q, h1.gr2 g0 g gu, row_kp h2 fun q e => g.block q (own_lt h2 q e) (fun ⟨c, t, hc, _, h8⟩ => own_ne hc h2 h8 e), fun q e => Nat.le_trans g0.size (h3 q e), ?_, Nat.le_trans g0.size h5⟩
  refine (g.block q (lt_of_heap h4) (fun ⟨c, t, hc, h5, _⟩ => ?_)).trans h4
  rw [h4] at hc
  simp at hc
  exact h5 hc.2.symm
def VAt (W : World) (la : Option Addr) (vs : List (Bool × Int)) : Prop := ∀ k vn x, vs[k]? = some (vn, x) → ∃ lb xo xc, la = some ⟨lb, 0, none⟩ ∧ W.cell? ⟨lb, k * 4, none⟩ = some (.bool vn) ∧ W.cell? ⟨lb, k * 4 + 1, none⟩ = some (.int .i64 x) ∧ W.cell? ⟨lb, k * 4 + 2, none⟩ = some (.string ⟨#[]⟩) ∧ W.cell? ⟨lb, k * 4 + 3, none⟩ = some (.slice xo 0 xc)
theorem VAt.gr {W u : World} {la : Option Addr} {vs : List (Bool × Int)} (h : VAt W la vs) (g : Gr W u) : VAt u la vs := fun k vn x e => by
  obtain ⟨lb, xo, xc, e0, e1, e2, e3, e4⟩ := h k vn x e
  exact ⟨lb, xo, xc, e0, g.cell' e1 id, g.cell' e2 id, g.cell' e3 id, g.cell' e4 id⟩
def bsOf (vs : List (Bool × Int)) : List Bool := vs.map fun y => !y.1
def xsOf (vs : List (Bool × Int)) : List Int := vs.map fun y => y.2
def OfI (A wr : World) (p n m t : Nat) (nu : Bool) (fo : Option Addr) (fc : Nat) (vs : List (Bool × Int)) (k : Nat) : Prop := Gr A wr ∧ wr.heap[p]? = some (.cells (bdC nu fo fc n t k) 149) ∧ (∃ vo vc lo lc, Nd A.heap.size wr n m t nu ((16 * k : Nat) : Int) vo k vc ((bsOf (vs.take k)).map Value.bool) lo lc ((xsOf (vs.take k)).map iv)) ∧ ∀ y ∈ vs.take k, fitN nu 3 y.1 y.2 = true
def OfA (W : World) (nu : Bool) (vs : List (Bool × Int)) (e : Ending) (w' : World) : Prop := Gr W w' ∧
  ((∃ bo bc, (∀ y ∈ vs, fitN nu 3 y.1 y.2 = true) ∧ e = .returned (.tuple #[.agg (dC vs.length (offs (bsOf vs)) (.slice bo 2 bc)), .int .i64 0, .int .i64 0]) ∧ DatA W w' vs.length (bsOf vs) (xsOf vs) bo bc) ∨
   ∃ (k : Nat) (y : Bool × Int), vs[k]? = some y ∧ fitN nu 3 y.1 y.2 = false ∧ (∀ y ∈ vs.take k, fitN nu 3 y.1 y.2 = true) ∧ e = .returned (.tuple #[.agg (dC 0 0 (.slice none 0 0)), .int .i64 7, .int .i64 k]))
theorem of_tail {W A wr X w9 : World} {p n t : Nat} {nu : Bool} {fo : Option Addr} {fc : Nat} {rows : Int} {L N : Nat} {bs : List Bool} {xs : List Int} {bo : Option Addr} {bc : Nat} (gA : Gr W A) (hsz : A.heap.size = W.heap.size + 2) (hr : A.heap[W.heap.size + 1]? = some (.cells (dC 0 0 (.slice none 0 0)) 54)) (gr : Gr A wr) (hp : A.heap.size ≤ p) (hpw : wr.heap[p]? = some (.cells (bdC nu fo fc n t rows) 149)) (hK : Keeps wr w9 (fun z => z = p)) (gX : Gr wr X) (kX : Keeps X w9 (fun z => z = p)) (hD : DatA wr X L bs xs bo bc) :
    (w9.alloc (.cells (dC L N (.slice bo 2 bc)) 54)).heap[w9.heap.size]? = some (.cells (dC L N (.slice bo 2 bc)) 54) ∧ (w9.alloc (.cells (dC L N (.slice bo 2 bc)) 54)).heap[W.heap.size + 1]? = some (.cells (dC 0 0 (.slice none 0 0)) 54) ∧ (mkU (w9.alloc (.cells (dC L N (.slice bo 2 bc)) 54)) (W.heap.size + 1) L N (.slice bo 2 bc)).heap[W.heap.size + 1]? = some (.cells (dC L N (.slice bo 2 bc)) 54) ∧ Gr W (mkU (w9.alloc (.cells (dC L N (.slice bo 2 bc)) 54)) (W.heap.size + 1) L N (.slice bo 2 bc)) ∧ DatA W (mkU (w9.alloc (.cells (dC L N (.slice bo 2 bc)) 54)) (W.heap.size + 1) L N (.slice bo 2 bc)) L bs xs bo bc := by
  have gWr : Gr W wr := gA.tr gr
  have gA9 : Gr A w9 := gr.trans hK (fun j hj (e : j = p) => by omega)
  have gW9 : Gr W w9 := gA.tr gA9
  have hpX := (gX.block p (lt_of_heap hpw) id).trans hpw
  have hD9 : DatA W w9 L bs xs bo bc := hD.gr2 gWr (kX.mono fun j hj e => ⟨bdC nu fo fc n t rows, 149, by have e' : j = p := e; subst e'; exact hpX, by decide, by decide⟩) gW9
  obtain ⟨V, hV⟩ := ex (w9.alloc (.cells (dC L N (.slice bo 2 bc)) 54))
  have g9V := gr_al hV
  have gV : Gr W V := gW9.tr g9V
  have hrV := ((gA9.tr g9V).block _ (by omega) id).trans hr
  have hd : V.heap[w9.heap.size]? = some (.cells (dC L N (.slice bo 2 bc)) 54) := by rw [← hV]; exact heap_alloc_new w9 _
  rw [hV]
  exact ⟨hd, hrV, mk_store gV (by omega) hrV (hD9.gr2 (Keeps.refl W _) (g9V.mono fun _ _ h => h.elim) gV)⟩
theorem of5 (nu : Bool) (ao : Option Addr) (ca : Nat) (la : Option Addr) (lcap : Nat) (vs : List (Bool × Int)) (W : World) (hT : Tab W) (hV : VAt W la vs) (hL : vs.length ≤ 3000) :
    Calls Tryz.prog 42 #[.agg #[.string nmA, .bool nu, .int .i64 3, .int .i64 0, .int .i64 0, .int .i64 0, .slice ao 0 ca], .slice la vs.length lcap] W (OfA W nu vs) := by
  obtain ⟨Ln, hLn⟩ := ex (vs.length)
  rw [hLn] at hL ⊢
  obtain ⟨A, hA⟩ := ex ((W.alloc (.cells #[.string nmA, .bool nu, .int .i64 3, .int .i64 0, .int .i64 0, .int .i64 0, .slice ao 0 ca] 26)).alloc (.cells (dC 0 0 (.slice none 0 0)) 54))
  have gA : Gr W A := by rw [← hA]; exact (gr_alloc W _).tr (gr_alloc _ _)
  have hsz : A.heap.size = W.heap.size + 2 := by rw [← hA]; simp
  have hb2 : A.heap[W.heap.size + 1]? = some (.cells (dC 0 0 (.slice none 0 0)) 54) := by
    have e2 := heap_alloc_new (W.alloc (.cells #[.string nmA, .bool nu, .int .i64 3, .int .i64 0, .int .i64 0, .int .i64 0, .slice ao 0 ca] 26)) (.cells (dC 0 0 (.slice none 0 0)) 54)
    rw [show (W.alloc (.cells #[.string nmA, .bool nu, .int .i64 3, .int .i64 0, .int .i64 0, .int .i64 0, .slice ao 0 ca] 26)).heap.size = W.heap.size + 1 by simp, hA] at e2
    exact e2
  have hb1 : A.heap[W.heap.size]? = some (.cells #[.string nmA, .bool nu, .int .i64 3, .int .i64 0, .int .i64 0, .int .i64 0, .slice ao 0 ca] 26) := by
    have e1 := heap_alloc_new W (.cells #[.string nmA, .bool nu, .int .i64 3, .int .i64 0, .int .i64 0, .int .i64 0, .slice ao 0 ca] 26)
    rw [← hA]
    exact ((gr_alloc _ _).block _ (lt_of_heap e1) id).trans e1
  have HNew : Hid (Calls Tryz.prog 69 #[.agg #[.string nmA, .bool nu, .int .i64 3, .int .i64 0, .int .i64 0, .int .i64 0, .slice ao 0 ca]] A fun e w1 => ∃ p n m t fo fc, e = .returned (.tuple #[.pointer (some ⟨p, 0, none⟩), .int .i64 0]) ∧ A.heap.size ≤ p ∧ OfI A w1 p n m t nu fo fc vs 0) := by
    refine (new7 nu ao ca A (hT.gr gA)).mono ?_
    rintro e w1 ⟨p, n, m, t, fo, fc, rfl, g1, hlow, hb⟩
    exact ⟨p, n, m, t, fo, fc, rfl, hlow.1, g1, hb.hp, ⟨none, 0, none, 0, hb.hn, hb.hm, hb.ht, ⟨rfl, .inl ⟨rfl, rfl⟩⟩, ⟨rfl, .inl ⟨rfl, rfl⟩⟩, ⟨hlow.2.1, hlow.2.2.1, hlow.2.2.2⟩, fun g e => by simp [Value.ownBlock] at e, fun g e => by simp [Value.ownBlock] at e⟩, by simp⟩
  have HTA := hidM (hT.gr gA)
  have HVA := hidM (hV.gr gA)
  have HGA := hidM gA
  have HSZ := hidM hsz
  have HR := hidM hb2
  have HLn := hidM hLn
  obtain ⟨a0, a1, a2, a3, a4, a5, a6⟩ := cell7 hb1
  clear hT hV gA hsz hb2 hb1 hLn
  unfold dC at hA
  go_enter Tryz.func42, Tryz.ntmps42
  go_wp2_with (go_at_call 69; refine HNew.out.mono ?_; rintro e w1 ⟨p, n, m, t, fo, fc, rfl, hp, hI⟩; have HP := hidM hp; have HI0 := hidM hI; clear hp hI hA a0 a1 a2 a3 a4 a5 a6)
  go_loopw [24] (fun i wr => ∃ k : Nat, k ≤ Ln ∧ i = .int .i64 k ∧ Hid (OfI A wr p n m t nu fo fc vs k)) (fun i _ => Ln - (intOf i).toNat)
  case atStart => exact ⟨0, by omega, rfl, HI0⟩
  case round =>
    clear HI0
    obtain ⟨k, hk, rfl, HI⟩ := hrel
    by_cases hlt : k < Ln
    · have hxk : k < vs.length := by have := HLn.out; omega
      obtain ⟨⟨vn, x⟩, hy⟩ : ∃ y, vs[k]? = some y := ⟨_, List.getElem?_eq_getElem hxk⟩
      obtain ⟨lb, xo, xc, rfl, c0, c1, c2, c3⟩ := (HVA.out.gr HI.out.1) k vn x hy
      obtain ⟨V, hVe⟩ := ex (wr.alloc (.cells #[.bool vn, .int .i64 x, .string ⟨#[]⟩, .slice xo 0 xc] 98))
      have gV := gr_al hVe
      have hvb := al_new hVe
      obtain ⟨q0, q1, q2, q3⟩ := cell4 hvb
      have gAV : Gr A V := HI.out.1.tr gV
      have HGV := hidM gAV
      have htk : vs.take (k + 1) = vs.take k ++ [(vn, x)] := by rw [List.take_add_one, hy]; rfl
      have HA9 : Hid (Calls Tryz.prog 70 #[.pointer (some ⟨p, 0, none⟩), .agg #[.bool vn, .int .i64 x, .string ⟨#[]⟩, .slice xo 0 xc]] V (AddA A.heap.size V p n m t nu fo fc k ((16 * k : Nat) : Int) k ((bsOf (vs.take k)).map Value.bool) ((xsOf (vs.take k)).map iv) vn x)) := by
        obtain ⟨-, hpb, ⟨vo, vc, lo, lc, hnd⟩, -⟩ := HI.out
        exact add8 A.heap.size p n m t nu fo fc k ((16 * k : Nat) : Int) vo k vc _ lo lc _ vn x xo xc V (HTA.out.gr gAV) ((gV.block _ (lt_of_heap hpb) id).trans hpb) (hnd.gr gV) gAV.size HP.out (by omega) ⟨by omega, by omega⟩ ⟨by omega, by omega⟩
      by_cases hf : fitN nu 3 vn x = true
      · have HNx : Hid (∀ e w2, AddA A.heap.size V p n m t nu fo fc k ((16 * k : Nat) : Int) k ((bsOf (vs.take k)).map Value.bool) ((xsOf (vs.take k)).map iv) vn x e w2 → e = .returned (.int .i64 0) ∧ OfI A w2 p n m t nu fo fc vs (k + 1)) := by
          intro e w2 h
          unfold AddA at h
          rw [if_pos hf] at h
          obtain ⟨rfl, hfr, hp2, vo', vc', lo', lc', hn2⟩ := h
          refine ⟨rfl, hfr.low gAV (Nat.le_refl _), hp2, ⟨vo', vc', lo', lc', ?_⟩, fun y hmem => ?_⟩
          · rw [htk]
            have e1 : ((16 * (k + 1) : Nat) : Int) = ((16 * k : Nat) : Int) + 16 := by omega
            rw [e1]
            simpa [bsOf, xsOf, iv] using hn2
          rw [htk] at hmem
          rcases List.mem_append.mp hmem with h | h
          · exact HI.out.2.2.2 y h
          simp at h
          subst h
          exact hf
        clear hvb gV gAV htk HI hy hxk hf
        go_wp2_with (go_at_call 70; refine HA9.out.mono ?_; intro e w2 hadd; obtain ⟨rfl, hI2⟩ := HNx.out e w2 hadd; have HI2 := hidM hI2; clear hadd hI2)
        go_roundw
        case rel => exact ⟨k + 1, by omega, by go_num, HI2⟩
        case measure => simp [intOf]; omega
      have hf' : fitN nu 3 vn x = false := by simpa using hf
      have HNx : Hid (∀ e w2, AddA A.heap.size V p n m t nu fo fc k ((16 * k : Nat) : Int) k ((bsOf (vs.take k)).map Value.bool) ((xsOf (vs.take k)).map iv) vn x e w2 → e = .returned (.int .i64 7) ∧ Gr W w2 ∧ w2.heap[W.heap.size + 1]? = some (.cells (dC 0 0 (.slice none 0 0)) 54)) := by
        intro e w2 h
        unfold AddA at h
        rw [if_neg hf] at h
        have g2 : Gr A w2 := gAV.tr h.2
        exact ⟨h.1, HGA.out.tr g2, (g2.block _ (lt_of_heap HR.out) id).trans HR.out⟩
      have HAll := hidM HI.out.2.2.2
      have HY := hidM hy
      have HF := hidM hf'
      clear hvb gV gAV htk HI hy hxk hf hf'
      go_wp2_with (go_at_call 70; refine HA9.out.mono ?_; intro e w2 hadd; obtain ⟨rfl, hg2, hr2⟩ := HNx.out e w2 hadd; have HG2 := hidM hg2; have HR2 := hidM hr2; have s0 := set_id (j := 0) (v := .int .i64 0) hr2 rfl; have s1 := set_id (j := 1) (v := .int .i64 0) hr2 rfl; have s2 := set_id (j := 2) (v := .int .i64 0) hr2 rfl; have s3 := set_id (j := 3) (v := .slice none 0 0) hr2 rfl; have s4 := set_id (j := 4) (v := .slice none 0 0) hr2 rfl; have s5 := set_id (j := 5) (v := .slice none 0 0) hr2 rfl; obtain ⟨y0, y1, y2, y3, y4, y5⟩ := frz6 hr2; obtain ⟨g0, g1, g2, g3, g4, g5⟩ := cell6 hr2; clear hadd hg2 hr2)
      (try simp only [Exit.inBlock, Exit.then])
      refine bodyPost_ret (results_cell31tt rfl rfl (by with_reducible exact HR2.out) (by kernel_rfl)) rfl ?_
      exact ⟨HG2.out, .inr ⟨k, (vn, x), HY.out, HF.out, HAll.out, rfl⟩⟩
    obtain rfl : k = Ln := by omega
    obtain ⟨N, hN⟩ := ex (offs (bsOf vs))
    have htk : vs.take k = vs := by rw [← HLn.out, List.take_length]
    have HD9 : Hid (Calls Tryz.prog 71 #[.pointer (some ⟨p, 0, none⟩)] wr fun e w' => ∃ bo bc, e = .returned (.tuple #[.agg (dC k N (.slice bo 2 bc)), .int .i64 0]) ∧ Keeps wr w' (fun z => z = p) ∧ ∃ U, Gr wr U ∧ Keeps U w' (fun z => z = p) ∧ DatA wr U k (bsOf vs) (xsOf vs) bo bc) := by
      obtain ⟨-, hpb, ⟨vo, vc, lo, lc, hnd⟩, -⟩ := HI.out
      rw [htk] at hnd
      have h := done9 A.heap.size p n m t nu fo fc k ((16 * k : Nat) : Int) vo k vc (bsOf vs) lo lc (xsOf vs) wr hpb hnd (by omega)
      rw [hN] at h
      exact h
    have HAll : Hid (∀ y ∈ vs, fitN nu 3 y.1 y.2 = true) := by have h := HI.out.2.2.2; rw [htk] at h; exact h
    have HTl : Hid (∀ w9 bo bc, Keeps wr w9 (fun z => z = p) → (∃ X, Gr wr X ∧ Keeps X w9 (fun z => z = p) ∧ DatA wr X k (bsOf vs) (xsOf vs) bo bc) → (w9.alloc (.cells (dC k N (.slice bo 2 bc)) 54)).heap[w9.heap.size]? = some (.cells (dC k N (.slice bo 2 bc)) 54) ∧ (w9.alloc (.cells (dC k N (.slice bo 2 bc)) 54)).heap[W.heap.size + 1]? = some (.cells (dC 0 0 (.slice none 0 0)) 54) ∧ (mkU (w9.alloc (.cells (dC k N (.slice bo 2 bc)) 54)) (W.heap.size + 1) k N (.slice bo 2 bc)).heap[W.heap.size + 1]? = some (.cells (dC k N (.slice bo 2 bc)) 54) ∧ Gr W (mkU (w9.alloc (.cells (dC k N (.slice bo 2 bc)) 54)) (W.heap.size + 1) k N (.slice bo 2 bc)) ∧ DatA W (mkU (w9.alloc (.cells (dC k N (.slice bo 2 bc)) 54)) (W.heap.size + 1) k N (.slice bo 2 bc)) k (bsOf vs) (xsOf vs) bo bc) := fun w9 bo bc hK ⟨X, gX, kX, hD⟩ => of_tail HGA.out HSZ.out HR.out HI.out.1 HP.out HI.out.2.1 hK gX kX hD
    have HN := hidM hN
    clear htk HI hN
    go_wp2_with (go_at_call 71; refine HD9.out.mono ?_; rintro e w9 ⟨bo, bc, rfl, hK, hX⟩; have HT := hidM (HTl.out w9 bo bc hK hX); clear hK hX; obtain ⟨V, hV⟩ := ex (w9.alloc (.cells (dC k N (.slice bo 2 bc)) 54)); rw [hV] at HT; obtain ⟨U, hU⟩ := ex (mkU V (W.heap.size + 1) k N (.slice bo 2 bc)); rw [hU] at HT; simp only [mkU, setAll] at hU; obtain ⟨e0, e1, e2, e3, e4, e5⟩ := cell6 HT.out.1; have z4 := frz HT.out.1 4; have z5 := frz HT.out.1 5; have s4 := set_id (j := 4) (v := .slice none 0 0) HT.out.1 rfl; have s5 := set_id (j := 5) (v := .slice none 0 0) HT.out.1 rfl; obtain ⟨r0, r1, r2, r3, r4, r5⟩ := cell6 HT.out.2.1; obtain ⟨y0, y1, y2, y3, y4, y5⟩ := frz6 HT.out.2.1; unfold dC at hV; unfold dC)
    (try simp only [Exit.inBlock, Exit.then])
    refine bodyPost_ret (results_cell31tt rfl rfl (by with_reducible exact HT.out.2.2.1) (by kernel_rfl)) rfl ?_
    refine ⟨HT.out.2.2.2.1, .inl ⟨bo, bc, HAll.out, ?_, ?_⟩⟩
    · rw [HN.out, HLn.out]; rfl
    rw [HLn.out]; exact HT.out.2.2.2.2
theorem add0 (g j : Nat) : (⟨g, 0, none⟩ : Addr).add j = ⟨g, j, none⟩ := by
  rw [Addr.add_lit, Nat.zero_add]
theorem must63 (c : Value) (at' : Int) (W : World) : Calls Tryz.prog 169 #[c, .int .i64 0, .int .i64 at'] W fun e w' => e = .returned (.tuple #[]) ∧ w' = W := by
  go_enter Tryz.func169, Tryz.ntmps169
  go_wp2_with fail
  go_end0
  exact ⟨rfl, rfl⟩
theorem isSigned90 (W : World) : Calls Tryz.prog 250 #[.int .i64 3] W fun e w' => e = .returned (.bool true) ∧ w' = W := by
  go_enter Tryz.func250, Tryz.ntmps250
  go_wp2_with fail
  go_ret
  exact ⟨rfl, rfl⟩
theorem familyOf62 (ao : Option Addr) (ca : Nat) (W : World) (hT : Tab W) : Calls Tryz.prog 168 #[.agg #[.int .i64 3, .int .i64 0, .int .i64 0, .int .i64 0, .slice ao 0 ca]] W fun e w' => e = .returned (.iface 302 (.agg #[.int .i64 1, .bool true])) ∧ Gr W w' := by
  obtain ⟨A, hA⟩ := ex (W.alloc (.cells #[.int .i64 3, .int .i64 0, .int .i64 0, .int .i64 0, .slice ao 0 ca] 24))
  have gA := gr_al hA
  have hb := al_new hA
  have hS : ∀ u, Gr A u → u.cell? ⟨W.heap.size, 0, none⟩ = some (.int .i64 3) ∧ u.cell? ⟨W.heap.size, 1, none⟩ = some (.int .i64 0) ∧ u.cell? ⟨W.heap.size, 2, none⟩ = some (.int .i64 0) ∧ u.cell? ⟨W.heap.size, 3, none⟩ = some (.int .i64 0) ∧ u.cell? ⟨W.heap.size, 4, none⟩ = some (.slice ao 0 ca) := fun u g => cell5 ((g.block _ (lt_of_heap hb) id).trans hb)
  obtain ⟨e0, e1, e2, e3, e4⟩ := cell5 hb
  have HS := hidM hS
  have HG := hidM gA
  have HT := hidM (hT.gr gA)
  have HS0 := hidM (hS A.drew gr_drew)
  clear gA hb hS hT
  go_enter Tryz.func168, Tryz.ntmps168
  go_wp2_with fail
  go_region_held3 (fun u => u.cell? ⟨W.heap.size, 0, none⟩ = some (.int .i64 3) ∧ u.cell? ⟨W.heap.size, 1, none⟩ = some (.int .i64 0) ∧ u.cell? ⟨W.heap.size, 2, none⟩ = some (.int .i64 0) ∧ u.cell? ⟨W.heap.size, 3, none⟩ = some (.int .i64 0) ∧ u.cell? ⟨W.heap.size, 4, none⟩ = some (.slice ao 0 ca)) (first | with_reducible exact HS0.out | with_reducible exact HS1.out) (first
    | (go_at_call 249; refine (width56 ao ca _ (HT.out.gr gr_drew)).mono ?_; rintro e w1 ⟨rfl, g1⟩; have HG1 : Hid (Gr A w1) := Keeps.trans gr_drew g1 (fun _ _ h => h); have HS1 := hidM (HS.out w1 HG1.out); clear g1)
    | (go_at_call 250; refine (isSigned90 _).mono ?_; rintro e w2 ⟨rfl, rfl⟩))
  go_wp2_with fail
  go_ret
  exact ⟨rfl, HG.out.tr HG1.out⟩
theorem results_cell27 {fn : Func} {t : Tmp} {tmps : Array Value} {g : Nat} {cs : Array Value} {w : World} (h : fn.results = #[.cell t 26]) (ht : tmps.getD t undef = .pointer (some ⟨g, 0, none⟩)) (hg : w.heap[g]? = some (.cells cs 26 (0, 0))) (hi : (Tryz.prog.info? 26).map (·.size) = some cs.size) :
    (results fn tmps).run Tryz.prog w = .ok (.agg cs) w := by
  have hl := run_loadVar_row (P := Tryz.prog) w g 26 26 cs (0, 0) _ hg Tryz.underlying26 rfl hi
  unfold results
  rw [h]
  simp only [Array.mapM_eq_mapM_toList, List.mapM_cons, List.mapM_nil, ht]
  simp [asAddr, hl]
theorem copied46 (nu : Bool) (ao : Option Addr) (ca : Nat) (W : World) (hT : Tab W) : Calls Tryz.prog 117 #[.agg #[.string nmA, .bool nu, .int .i64 3, .int .i64 0, .int .i64 0, .int .i64 0, .slice ao 0 ca]] W fun e w' => ∃ fo fc, e = .returned (.agg #[.string nmA, .bool nu, .int .i64 3, .int .i64 0, .int .i64 0, .int .i64 0, .slice fo 0 fc]) ∧ Gr W w' := by
  obtain ⟨A, hA⟩ := ex ((W.alloc (.cells #[.string nmA, .bool nu, .int .i64 3, .int .i64 0, .int .i64 0, .int .i64 0, .slice ao 0 ca] 26)).alloc (.cells #[.string ⟨#[]⟩, .bool false, .int .i64 0, .int .i64 0, .int .i64 0, .int .i64 0, .slice none 0 0] 26))
  have gA : Gr W A := by rw [← hA]; exact (gr_alloc W _).tr (gr_alloc _ _)
  have hsz : A.heap.size = W.heap.size + 2 := by rw [← hA]; simp
  have hb2 : A.heap[W.heap.size + 1]? = some (.cells #[.string ⟨#[]⟩, .bool false, .int .i64 0, .int .i64 0, .int .i64 0, .int .i64 0, .slice none 0 0] 26) := by
    have e2 := heap_alloc_new (W.alloc (.cells #[.string nmA, .bool nu, .int .i64 3, .int .i64 0, .int .i64 0, .int .i64 0, .slice ao 0 ca] 26)) (.cells #[.string ⟨#[]⟩, .bool false, .int .i64 0, .int .i64 0, .int .i64 0, .int .i64 0, .slice none 0 0] 26)
    rw [show (W.alloc (.cells #[.string nmA, .bool nu, .int .i64 3, .int .i64 0, .int .i64 0, .int .i64 0, .slice ao 0 ca] 26)).heap.size = W.heap.size + 1 by simp, hA] at e2
    exact e2
  have hb1 : A.heap[W.heap.size]? = some (.cells #[.string nmA, .bool nu, .int .i64 3, .int .i64 0, .int .i64 0, .int .i64 0, .slice ao 0 ca] 26) := by
    have e1 := heap_alloc_new W (.cells #[.string nmA, .bool nu, .int .i64 3, .int .i64 0, .int .i64 0, .int .i64 0, .slice ao 0 ca] 26)
    rw [← hA]
    exact ((gr_alloc _ _).block _ (lt_of_heap e1) id).trans e1
  obtain ⟨B, hB⟩ := ex ((A.alloc (.cells #[.string nmA, .bool nu, .int .i64 3, .int .i64 0, .int .i64 0, .int .i64 0, .slice ao 0 ca] 26)).alloc (.cells #[.int .i64 0] 3))
  have gB : Gr A B := by rw [← hB]; exact (gr_alloc A _).tr (gr_alloc _ _)
  have hg : B.heap[A.heap.size]? = some (.cells #[.string nmA, .bool nu, .int .i64 3, .int .i64 0, .int .i64 0, .int .i64 0, .slice ao 0 ca] 26) := by
    have e1 := heap_alloc_new A (.cells #[.string nmA, .bool nu, .int .i64 3, .int .i64 0, .int .i64 0, .int .i64 0, .slice ao 0 ca] 26)
    rw [← hB]
    exact ((gr_alloc _ _).block _ (lt_of_heap e1) id).trans e1
  have hz : B.cell? ⟨A.heap.size + 1, 0, none⟩ = some (.int .i64 0) := by
    have e2 := heap_alloc_new (A.alloc (.cells #[.string nmA, .bool nu, .int .i64 3, .int .i64 0, .int .i64 0, .int .i64 0, .slice ao 0 ca] 26)) (.cells #[.int .i64 0] 3)
    rw [show (A.alloc (.cells #[.string nmA, .bool nu, .int .i64 3, .int .i64 0, .int .i64 0, .int .i64 0, .slice ao 0 ca] 26)).heap.size = A.heap.size + 1 by simp, hB] at e2
    simp [World.cell?, e2]
  have HC := hidM (at13 nu ao ca A.heap.size (A.heap.size + 1) B (hT.gr (gA.tr gB)) hg hz)
  have HT : Hid (∀ (w2 : World) (fo : Option Addr) (fc : Nat), Gr B w2 → (w2.alloc (.cells #[.string nmA, .bool nu, .int .i64 3, .int .i64 0, .int .i64 0, .int .i64 0, .slice fo 0 fc] 26)).heap[w2.heap.size]? = some (.cells #[.string nmA, .bool nu, .int .i64 3, .int .i64 0, .int .i64 0, .int .i64 0, .slice fo 0 fc] 26) ∧ (w2.alloc (.cells #[.string nmA, .bool nu, .int .i64 3, .int .i64 0, .int .i64 0, .int .i64 0, .slice fo 0 fc] 26)).heap[W.heap.size + 1]? = some (.cells #[.string ⟨#[]⟩, .bool false, .int .i64 0, .int .i64 0, .int .i64 0, .int .i64 0, .slice none 0 0] 26) ∧ (setAll (w2.alloc (.cells #[.string nmA, .bool nu, .int .i64 3, .int .i64 0, .int .i64 0, .int .i64 0, .slice fo 0 fc] 26)) (W.heap.size + 1) [(0, .string nmA), (1, .bool nu), (2, .int .i64 3), (3, .int .i64 0), (4, .int .i64 0), (5, .int .i64 0), (6, .slice fo 0 fc)]).heap[W.heap.size + 1]? = some (.cells #[.string nmA, .bool nu, .int .i64 3, .int .i64 0, .int .i64 0, .int .i64 0, .slice fo 0 fc] 26) ∧ Gr W (setAll (w2.alloc (.cells #[.string nmA, .bool nu, .int .i64 3, .int .i64 0, .int .i64 0, .int .i64 0, .slice fo 0 fc] 26)) (W.heap.size + 1) [(0, .string nmA), (1, .bool nu), (2, .int .i64 3), (3, .int .i64 0), (4, .int .i64 0), (5, .int .i64 0), (6, .slice fo 0 fc)])) := by
    intro w2 fo fc g2
    obtain ⟨V, hV⟩ := ex (w2.alloc (.cells #[.string nmA, .bool nu, .int .i64 3, .int .i64 0, .int .i64 0, .int .i64 0, .slice fo 0 fc] 26))
    have g2V := gr_al hV
    have hd := al_new hV
    have gAV : Gr A V := (gB.tr g2).tr g2V
    have hr := (gAV.block _ (lt_of_heap hb2) id).trans hb2
    rw [hV]
    refine ⟨hd, hr, ?_, (gA.tr gAV).trans (setAll_kp _ _ _) (fun j hj (e : j = W.heap.size + 1) => by omega)⟩
    rw [setAll_blk (W.heap.size + 1) 26 _ _ _ hr]
    simp [setsA]
  obtain ⟨e0, e1, e2, e3, e4, e5, e6⟩ := cell7 hb1
  clear hT gA hsz hb2 hb1 gB hg hz
  go_enter Tryz.func117, Tryz.ntmps117
  go_wp2_with (go_at_call 14; refine HC.out.mono ?_; rintro e w2 ⟨fo, fc, rfl, g2⟩; have HX := hidM (HT.out w2 fo fc g2); clear g2 hA hB e0 e1 e2 e3 e4 e5 e6; obtain ⟨V, hV⟩ := ex (w2.alloc (.cells #[.string nmA, .bool nu, .int .i64 3, .int .i64 0, .int .i64 0, .int .i64 0, .slice fo 0 fc] 26)); rw [hV] at HX; obtain ⟨U, hU⟩ := ex (setAll V (W.heap.size + 1) [(0, .string nmA), (1, .bool nu), (2, .int .i64 3), (3, .int .i64 0), (4, .int .i64 0), (5, .int .i64 0), (6, .slice fo 0 fc)]); rw [hU] at HX; simp only [setAll] at hU; obtain ⟨e0, e1, e2, e3, e4, e5, e6⟩ := cell7 HX.out.1; obtain ⟨r0, r1, r2, r3, r4, r5, r6⟩ := cell7 HX.out.2.1; obtain ⟨y0, y1, y2, y3, y4, y5, y6⟩ := frz7 HX.out.2.1)
  (try simp only [Exit.inBlock, Exit.then])
  refine bodyPost_ret (results_cell27 rfl rfl (by with_reducible exact HX.out.2.2.1) (by kernel_rfl)) rfl ?_
  exact ⟨fo, fc, rfl, HX.out.2.2.2⟩
end Go.Proofs.YtknnoiomdngmfaaGreatDoor.Kit
