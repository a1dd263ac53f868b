import Derived.Test.YteggcdhibcjneaaGreatDoorBU
set_option maxRecDepth 100000
set_option maxHeartbeats 4000000
namespace Go.Proofs.YteggcdhibcjneaaGreatDoor.Kit
variable {nx : Bool}
open Go.RowKit Go.Shelf Go.Deep
open Go.Proofs.YteggcdhibcjneaaGreatDoor.Kd (Ans AnsV cell5 cell2)
open Go.Proofs.YteggcdhibcjneaaGreatDoor.Ink (OwnRow)
set_option linter.unusedVariables false
set_option linter.unusedSimpArgs false
attribute [local go_sem] run_store_func

/-- an array of numbers as it is made -/
def DatA (W w' : World) (L : Nat) (bs : List Bool) (xs : List Int) (bo : Option Addr) (bc : Nat) : Prop := ∃ val g, MaskQ W w' bs val ∧ w'.ownsRow 0 43 1 (.slice bo 2 bc) 2 [val, .slice (some ⟨g, 0, none⟩) (L) (L)] ∧ (∀ g, (Value.slice bo 2 bc).ownBlock = some g → W.heap.size ≤ g) ∧ OwnRow w' g 5 ((leAll xs).map (Value.int .u8)) ∧ W.heap.size ≤ g
theorem MaskQ.gr {W U w' u : World} {bs : List Bool} {v : Value} (h : MaskQ U w' bs v) (g0 : Gr W U) (g : Keeps w' u (fun z => ∃ c, w'.heap[z]? = some (.cells c 50))) (gu : Gr W u) : MaskQ W u bs v := by
  unfold MaskQ at *
  by_cases hz : offs bs = 0
  · rw [if_pos hz] at *; exact h
  · rw [if_neg hz] at *
    refine ⟨row_kp h.1 fun q e => g.block q (own_lt h.1 q e) (fun ⟨c, hc⟩ => ?_), fun q e => Nat.le_trans g0.size (h.2.1 q e), gu⟩
    exact own_ne hc h.1 (by decide) e
theorem DatA.gr {W U w' u : World} {L : Nat} {bs : List Bool} {xs : List Int} {bo : Option Addr} {bc : Nat} (h : DatA U w' L bs xs bo bc) (g0 : Gr W U) (g : Keeps w' u (fun z => ∃ c, w'.heap[z]? = some (.cells c 50))) (gu : Gr W u) : DatA W u L bs xs bo bc := by
  obtain ⟨val, q, h1, h2, h3, h4, h5⟩ := h
  refine ⟨val, q, h1.gr g0 g gu, row_kp h2 fun q e => g.block q (own_lt h2 q e) (fun ⟨c, hc⟩ => own_ne hc h2 (by decide) e), fun q e => Nat.le_trans g0.size (h3 q e), ?_, Nat.le_trans g0.size h5⟩
  refine (g.block q (lt_of_heap h4) (fun ⟨c, hc⟩ => ?_)).trans h4
  rw [h4] at hc
  simp at hc
theorem data259 (m L : Nat) (lo : Option Addr) (lc : Nat) (xs : List Int) (vo : Option Addr) (vc : Nat) (bs : List Bool) (W : World) (hm : W.heap[m]? = some (.cells #[.int .i64 1, .slice lo L lc] 329)) (hl : W.ownsRow 0 2 1 (.slice lo L lc) L (xs.map iv)) (hv : W.ownsRow 0 4 1 (.slice vo L vc) L (bs.map Value.bool)) (hL : L ≤ 4000) :
    Calls Tryz.prog 372 #[.pointer (some ⟨m, 0, none⟩), .slice vo L vc] W fun e w' => ∃ bo bc, e = .returned (.agg (dC L (offs bs) (.slice bo 2 bc))) ∧ Gr W w' ∧ DatA W w' L bs xs bo bc := by
  have hxL : xs.length = L := by have := row_len hl; simpa using this
  have hbL : bs.length = L := by have := row_len hv; simpa using this
  obtain ⟨A, hA⟩ : ∃ A, W.alloc (.cells (dC 0 0 (.slice none 0 0)) 50) = A := ⟨_, rfl⟩
  have gA : Gr W A := by rw [← hA]; exact gr_alloc W _
  have hsz : A.heap.size = W.heap.size + 1 := by rw [← hA]; simp
  have hr0 : A.heap[W.heap.size]? = some (.cells (dC 0 0 (.slice none 0 0)) 50) := by rw [← hA]; exact heap_alloc_new W _
  obtain ⟨N, hN⟩ : ∃ N, offs bs = N := ⟨_, rfl⟩
  have hS : ∀ u, Gr W u → u.cell? ⟨m, 0, none⟩ = some (.int .i64 1) ∧ u.cell? ⟨m, 1, none⟩ = some (.slice lo L lc) := fun u g => cell2 ((g.block _ (lt_of_heap hm) id).trans hm)
  have gD : Gr W A.drew := gA.trans gr_drew (fun _ _ h => h)
  have HS0 := hidM (hS A.drew gD)
  have HS := hidM hS
  have HC1 : Hid (Calls Tryz.prog 376 #[.slice lo L lc, .int .i64 1] A.drew fun e w' => ∃ g, e = .returned (.slice (some ⟨g, 0, none⟩) (L) (L)) ∧ Gr A.drew w' ∧ A.drew.heap.size ≤ g ∧ OwnRow w' g 5 ((leAll xs).map (Value.int .u8))) := by
    have h := numbered263 lo lc xs A.drew (by rw [hxL]; exact row_kp hl fun q e => gD.block q (own_lt hl q e) id) (by omega)
    rw [hxL] at h
    exact h
  have HC2 : Hid (∀ w1 g, Gr A.drew w1 → A.drew.heap.size ≤ g → OwnRow w1 g 5 ((leAll xs).map (Value.int .u8)) → Gr W w1 ∧ (∀ o, Gr W (w1.alloc o)) ∧ Calls Tryz.prog 291 #[.slice vo L vc, .slice (some ⟨w1.heap.size, 0, none⟩) 1 1] (w1.alloc (.cells #[.slice (some ⟨g, 0, none⟩) (L) (L)] 43)) fun e w2 => ∃ bo bc, e = .returned (.agg (dC L N (.slice bo 2 bc))) ∧ Gr W w2 ∧ w2.heap[W.heap.size]? = some (.cells (dC 0 0 (.slice none 0 0)) 50) ∧ (mkU w2 W.heap.size L N (.slice bo 2 bc)).heap[W.heap.size]? = some (.cells (dC L N (.slice bo 2 bc)) 50) ∧ Gr W (mkU w2 W.heap.size L N (.slice bo 2 bc)) ∧ DatA W (mkU w2 W.heap.size L N (.slice bo 2 bc)) L bs xs bo bc) := by
    intro w1 g g1 hg hrow
    have gW1 : Gr W w1 := gD.trans g1 (fun _ _ h => h)
    have gAl : ∀ o, Gr W (w1.alloc o) := fun o => gW1.alloc o
    refine ⟨gW1, gAl, ?_⟩
    have gA1 : Gr A w1 := Keeps.trans gr_drew g1 (fun _ _ h => h)
    have hd : A.drew.heap.size = A.heap.size := rfl
    obtain ⟨V, hV⟩ : ∃ V, w1.alloc (.cells #[.slice (some ⟨g, 0, none⟩) (L) (L)] 43) = V := ⟨_, rfl⟩
    have gV : Gr W V := by rw [← hV]; exact gAl _
    have g1V : Gr w1 V := by rw [← hV]; exact gr_alloc w1 _
    have hq : V.heap[w1.heap.size]? = some (.cells #[.slice (some ⟨g, 0, none⟩) (L) (L)] 43) := by rw [← hV]; exact heap_alloc_new w1 _
    have hvV : V.ownsRow 0 4 1 (.slice vo L vc) L (bs.map Value.bool) := row_kp hv fun q e => gV.block q (own_lt hv q e) id
    rw [hV]
    have h := masked171 vo vc bs w1.heap.size (.slice (some ⟨g, 0, none⟩) (L) (L)) V (by rw [hbL]; exact hvV) (by omega) hq rfl
    rw [hbL, hN] at h
    refine h.mono ?_
    rintro e w2 ⟨bo, bc, val, rfl, g2, hM, hB, hBb⟩
    have gW2 : Gr W w2 := gV.trans g2 (fun _ _ h => h)
    have hrA := (gA1.block _ (by omega) id).trans hr0
    have hrV := (g1V.block _ (lt_of_heap hrA) id).trans hrA
    have hr2 := (g2.block _ (lt_of_heap hrV) id).trans hrV
    have hkU : Keeps w2 (mkU w2 W.heap.size L N (.slice bo 2 bc)) (fun z => z = W.heap.size) := setAll_kp _ _ _
    have hgU : Gr W (mkU w2 W.heap.size L N (.slice bo 2 bc)) := gW2.trans hkU (fun j hj e => by have e' : j = W.heap.size := e; omega)
    have hrow2 : OwnRow w2 g 5 ((leAll xs).map (Value.int .u8)) := ((g1V.trans g2 (fun _ _ h => h)).block g (lt_of_heap hrow) id).trans hrow
    refine ⟨bo, bc, rfl, gW2, hr2, ?_, hgU, ?_⟩
    · rw [show mkU w2 W.heap.size L N (.slice bo 2 bc) = setAll w2 W.heap.size _ from rfl, setAll_blk W.heap.size 50 _ _ _ hr2]
      simp [setsA, dC]
    · have hk31 : Keeps w2 (mkU w2 W.heap.size L N (.slice bo 2 bc)) (fun z => ∃ c, w2.heap[z]? = some (.cells c 50)) := hkU.mono fun j hj e => ⟨dC 0 0 (.slice none 0 0), by have e' : j = W.heap.size := e; subst e'; exact hr2⟩
      have hs1 := gA1.size
      refine ⟨val, g, hM.gr gV hk31 hgU, row_kp hB fun q e => hkU.block q (own_lt hB q e) (fun e2 => own_ne hr2 hB (by decide) (e2 ▸ e)), fun q e => Nat.le_trans gV.size (hBb q e), ?_, by omega⟩
      exact (hkU.block g (lt_of_heap hrow2) (fun e => by have e' : g = W.heap.size := e; omega)).trans hrow2
  have HGA := hidM gA
  have HN := hidM hN
  clear hm hl hv gA gD hS hr0 hsz hxL hbL hN
  unfold dC at hA
  go_enter Tryz.func372, Tryz.ntmps372
  go_wp2_with fail
  go_region_held3 (fun w' => w'.cell? ⟨m, 0, none⟩ = some (.int .i64 1) ∧ w'.cell? ⟨m, 1, none⟩ = some (.slice lo L lc)) (first | with_reducible exact HS0.out | with_reducible exact HS1.out | with_reducible exact HS3.out | with_reducible exact HS4.out | exact HS2.out _) (first
    | (go_at_call 376; refine HC1.out.mono ?_; rintro e w1 ⟨g, rfl, g1, hg, hrow⟩; obtain ⟨a1, a2, a3⟩ := HC2.out w1 g g1 hg hrow; have HS1 := hidM (HS.out w1 a1); have HS2 : Hid (∀ o, (w1.alloc o).cell? ⟨m, 0, none⟩ = some (.int .i64 1) ∧ (w1.alloc o).cell? ⟨m, 1, none⟩ = some (.slice lo L lc)) := fun o => HS.out _ (a2 o); have HC3 := hidM a3; clear g1 hg hrow a1 a2 a3)
    | (go_at_call 291; refine HC3.out.mono ?_; rintro e w2 ⟨bo, bc, rfl, b1, b2, b3, b4, b5⟩; have HS3 := hidM (HS.out w2 b1); obtain ⟨U, hU⟩ : ∃ U, mkU w2 W.heap.size L N (.slice bo 2 bc) = U := ⟨_, rfl⟩; rw [hU] at b3 b4 b5; have HS4 := hidM (HS.out U b4); have HB := hidM (And.intro b3 (And.intro b4 b5)); simp only [mkU, setAll] at hU; have y0 := frz b2 0; have y1 := frz b2 1; have y2 := frz b2 2; have y3 := frz b2 3; have y4 := frz b2 4; have y5 := frz b2 5; obtain ⟨g0, g1, g2, g3, g4, g5⟩ := cell6 b2; clear b1 b2 b3 b4 b5; unfold dC))
  go_wp2_with fail
  (try simp only [Exit.inBlock, Exit.then])
  refine bodyPost_ret (results_cell31 rfl rfl (by with_reducible exact HB.out.1) (by kernel_rfl)) rfl ?_
  rw [HN.out]
  exact ⟨bo, bc, rfl, HB.out.2⟩
end Go.Proofs.YteggcdhibcjneaaGreatDoor.Kit
namespace Go.Proofs.YteggcdhibcjneaaGreatDoor.Kit
variable {nx : Bool}
open Go.RowKit Go.Shelf Go.Deep
open Go.Proofs.YteggcdhibcjneaaGreatDoor.Kd (Ans AnsV cell5 cell2)
open Go.Proofs.YteggcdhibcjneaaGreatDoor.Ink (OwnRow)
set_option linter.unusedVariables false
set_option linter.unusedSimpArgs false
attribute [local go_sem] run_store_func

theorem method_data (m : Nat) (w : World) : (method 554 308 (.pointer (some ⟨m, 0, none⟩)) "colonnade/build.data").run Tryz.prog w = .ok (372, .pointer (some ⟨m, 0, none⟩)) w := by kernel_rfl
/-- a Data is stored into its result's cell -/
theorem mk_store {W w2 : World} {r L N : Nat} {bs : List Bool} {xs : List Int} {bo : Option Addr} {bc : Nat} (g2 : Gr W w2) (hr : W.heap.size ≤ r) (hr2 : w2.heap[r]? = some (.cells (dC 0 0 (.slice none 0 0)) 50)) (hD : DatA W w2 L bs xs bo bc) :
    (mkU w2 r L N (.slice bo 2 bc)).heap[r]? = some (.cells (dC L N (.slice bo 2 bc)) 50) ∧ Gr W (mkU w2 r L N (.slice bo 2 bc)) ∧ DatA W (mkU w2 r L N (.slice bo 2 bc)) L bs xs bo bc := by
  have hkU : Keeps w2 (mkU w2 r L N (.slice bo 2 bc)) (fun z => z = r) := setAll_kp _ _ _
  have hgU : Gr W (mkU w2 r L N (.slice bo 2 bc)) := g2.trans hkU (fun j hj e => by have e' : j = r := e; omega)
  have hk31 : Keeps w2 (mkU w2 r L N (.slice bo 2 bc)) (fun z => ∃ c, w2.heap[z]? = some (.cells c 50)) := hkU.mono fun j hj e => ⟨dC 0 0 (.slice none 0 0), by have e' : j = r := e; subst e'; exact hr2⟩
  refine ⟨?_, hgU, hD.gr (Keeps.refl W _) hk31 hgU⟩
  rw [show mkU w2 r L N (.slice bo 2 bc) = setAll w2 r _ from rfl, setAll_blk r 50 _ _ _ hr2]
  simp [setsA, dC]
theorem data17 (B n m t : Nat) (nu : Bool) (wt : Int) (vo : Option Addr) (L vc : Nat) (bs : List Bool) (lo : Option Addr) (lc : Nat) (xs : List Int) (W : World) (h : Nd B W n m t nu wt vo L vc (bs.map Value.bool) lo lc (xs.map iv)) (hL : L ≤ 4000) :
    Calls Tryz.prog 126 #[.pointer (some ⟨n, 0, none⟩)] W fun e w' => ∃ bo bc, e = .returned (.agg (dC L (offs bs) (.slice bo 2 bc))) ∧ Gr W w' ∧ DatA W w' L bs xs bo bc := by
  obtain ⟨A, hA⟩ : ∃ A, W.alloc (.cells (dC 0 0 (.slice none 0 0)) 50) = A := ⟨_, rfl⟩
  have gA : Gr W A := by rw [← hA]; exact gr_alloc W _
  have hsz : A.heap.size = W.heap.size + 1 := by rw [← hA]; simp
  have hr0 : A.heap[W.heap.size]? = some (.cells (dC 0 0 (.slice none 0 0)) 50) := by rw [← hA]; exact heap_alloc_new W _
  obtain ⟨N, hN⟩ : ∃ N, offs bs = N := ⟨_, rfl⟩
  have hS : ∀ u, Gr W u → u.cell? ⟨n, 1, none⟩ = some (.iface 308 (.pointer (some ⟨m, 0, none⟩))) ∧ u.cell? ⟨n, 4, none⟩ = some (.slice vo L vc) := fun u g => by
    obtain ⟨-, c1, -, -, c4, -⟩ := cell6 ((g.block _ (lt_of_heap h.hn) id).trans h.hn)
    exact ⟨c1, c4⟩
  have gD : Gr W A.drew := gA.trans gr_drew (fun _ _ h => h)
  have HS0 := hidM (hS A.drew gD)
  have HC : Hid (Calls Tryz.prog 372 #[.pointer (some ⟨m, 0, none⟩), .slice vo L vc] A.drew fun e w2 => ∃ bo bc, e = .returned (.agg (dC L N (.slice bo 2 bc))) ∧ Gr W w2 ∧ w2.heap[W.heap.size]? = some (.cells (dC 0 0 (.slice none 0 0)) 50) ∧ (mkU w2 W.heap.size L N (.slice bo 2 bc)).heap[W.heap.size]? = some (.cells (dC L N (.slice bo 2 bc)) 50) ∧ Gr W (mkU w2 W.heap.size L N (.slice bo 2 bc)) ∧ DatA W (mkU w2 W.heap.size L N (.slice bo 2 bc)) L bs xs bo bc) := by
    have hD := h.gr gD
    refine (data259 m L lo lc xs vo vc bs A.drew hD.hm hD.rl hD.rv hL).mono ?_
    rintro e w2 ⟨bo, bc, rfl, g2, hda⟩
    have gW2 : Gr W w2 := gD.trans g2 (fun _ _ h => h)
    have hr2 := (g2.block _ (lt_of_heap (W := A.drew) hr0) id).trans hr0
    rw [hN]
    exact ⟨bo, bc, rfl, gW2, hr2, mk_store gW2 (Nat.le_refl _) hr2 (hda.gr gD (Keeps.refl w2 _) gW2)⟩
  have HS := hidM hS
  have HN := hidM hN
  have hmeth := method_data m
  clear h gA gD hS hr0 hsz hN
  unfold dC at hA
  go_enter Tryz.func126, Tryz.ntmps126
  go_wp2_with fail
  go_region_held3 (fun w' => w'.cell? ⟨n, 1, none⟩ = some (.iface 308 (.pointer (some ⟨m, 0, none⟩))) ∧ w'.cell? ⟨n, 4, none⟩ = some (.slice vo L vc)) (first | with_reducible exact HS0.out | with_reducible exact HS3.out | with_reducible exact HS4.out) ((go_at_call 372; refine HC.out.mono ?_; rintro e w2 ⟨bo, bc, rfl, b1, b2, b3, b4, b5⟩; have HS3 := hidM (HS.out w2 b1); obtain ⟨U, hU⟩ : ∃ U, mkU w2 W.heap.size L N (.slice bo 2 bc) = U := ⟨_, rfl⟩; rw [hU] at b3 b4 b5; have HS4 := hidM (HS.out U b4); have HB := hidM (And.intro b3 (And.intro b4 b5)); simp only [mkU, setAll] at hU; have y0 := frz b2 0; have y1 := frz b2 1; have y2 := frz b2 2; have y3 := frz b2 3; have y4 := frz b2 4; have y5 := frz b2 5; obtain ⟨g0, g1, g2, g3, g4, g5⟩ := cell6 b2; clear b1 b2 b3 b4 b5; unfold dC))
  go_wp2_with fail
  (try simp only [Exit.inBlock, Exit.then])
  refine bodyPost_ret (results_cell31 rfl rfl (by with_reducible exact HB.out.1) (by kernel_rfl)) rfl ?_
  rw [HN.out]
  exact ⟨bo, bc, rfl, HB.out.2⟩
theorem results_cell31t {fn : Func} {t u : Tmp} {tmps : Array Value} {g : Nat} {cs : Array Value} {w : World} (h : fn.results = #[.cell t 50, .tmp u]) (ht : tmps.getD t undef = .pointer (some ⟨g, 0, none⟩)) (hg : w.heap[g]? = some (.cells cs 50 (0, 0))) (hi : (Tryz.prog.info? 50).map (·.size) = some cs.size) :
    (results fn tmps).run Tryz.prog w = .ok (.tuple #[.agg cs, tmps.getD u undef]) w := by
  have hl := run_loadVar_row (P := Tryz.prog) w g 50 50 cs (0, 0) _ hg Tryz.underlying50 rfl hi
  unfold results
  rw [h]
  simp only [Array.mapM_eq_mapM_toList, List.mapM_cons, List.mapM_nil, ht]
  simp [asAddr, hl]
end Go.Proofs.YteggcdhibcjneaaGreatDoor.Kit
namespace Go.Proofs.YteggcdhibcjneaaGreatDoor.Kit
variable {nx : Bool}
open Go.RowKit Go.Shelf Go.Deep
open Go.Proofs.YteggcdhibcjneaaGreatDoor.Kd (Ans AnsV cell5 cell2)
open Go.Proofs.YteggcdhibcjneaaGreatDoor.Ink (OwnRow)
set_option linter.unusedVariables false
set_option linter.unusedSimpArgs false
attribute [local go_sem] run_store_func

theorem ptr_some (n : Nat) (w : World) : (binOp .eql 217 (.pointer (some ⟨n, 0, none⟩)) (.pointer none)).run Tryz.prog w = .ok (.bool false) w := by kernel_rfl
/-- Done's builder behind it -/
def dnW (V : World) (p : Nat) : World := setAll V p [(7, .pointer none), (8, .pointer none)]
theorem cell10 {W : World} {p t : Nat} {nu : Bool} {fo : Option Addr} {fc n t' : Nat} {rows : Int} (h : W.heap[p]? = some (.cells (bdC nx nu fo fc n t' rows) t)) : W.cell? ⟨p, 7, none⟩ = some (.pointer (some ⟨n, 0, none⟩)) ∧ W.cell? ⟨p, 8, none⟩ = some (.pointer (some ⟨t', 0, none⟩)) := by
  constructor <;> simp [World.cell?, h, bdC]
theorem set_id {W : World} {b ty j : Nat} {c : Array Value} {v : Value} (h : W.heap[b]? = some (.cells c ty)) (hv : c.setIfInBounds j v = c) : W.setCell ⟨b, j, none⟩ v = W := by
  have hm : (W.setCell ⟨b, j, none⟩ v).heap = W.heap := by
    apply Array.ext_getElem?
    intro i
    by_cases e : i = b
    · subst e
      rw [heap_setCell_same W i j _ _ v h, h, hv]
    · exact heap_setCell_other _ _ _ _ e
  show ({ W with heap := (W.setCell ⟨b, j, none⟩ v).heap } : World) = W
  rw [hm]
structure DoneT (nx : Bool) (W A w1 : World) (p L N : Nat) (nu : Bool) (fo : Option Addr) (fc n t : Nat) (rows : Int) (bs : List Bool) (xs : List Int) (bo : Option Addr) (bc : Nat) (V Z U : World) : Prop where
  dV : V.heap[w1.heap.size]? = some (.cells (dC L N (.slice bo 2 bc)) 50)
  pV : V.heap[p]? = some (.cells (bdC nx nu fo fc n t rows) 220)
  pZ : (V.setCell ⟨p, 7, none⟩ (.pointer none)).frozen? ⟨p, 8, none⟩ = false
  dZ : Z.heap[w1.heap.size]? = some (.cells (dC L N (.slice bo 2 bc)) 50)
  rZ : Z.heap[W.heap.size]? = some (.cells (dC 0 0 (.slice none 0 0)) 50)
  rU : U.heap[W.heap.size]? = some (.cells (dC L N (.slice bo 2 bc)) 50)
  kU : Keeps W U (fun z => z = p)
  fin : ∃ X, Gr W X ∧ Keeps X U (fun z => z = p) ∧ DatA W X L bs xs bo bc
theorem done_tail {W A w1 : World} {p L N : Nat} {nu : Bool} {fo : Option Addr} {fc n t : Nat} {rows : Int} {bs : List Bool} {xs : List Int} {bo : Option Addr} {bc : Nat} (gA : Gr W A) (hsz : A.heap.size = W.heap.size + 1) (hr0 : A.heap[W.heap.size]? = some (.cells (dC 0 0 (.slice none 0 0)) 50)) (hp : W.heap[p]? = some (.cells (bdC nx nu fo fc n t rows) 220)) (g1 : Gr A w1) (hD : DatA A w1 L bs xs bo bc) :
    DoneT nx W A w1 p L N nu fo fc n t rows bs xs bo bc (w1.alloc (.cells (dC L N (.slice bo 2 bc)) 50)) (dnW (w1.alloc (.cells (dC L N (.slice bo 2 bc)) 50)) p) (mkU (dnW (w1.alloc (.cells (dC L N (.slice bo 2 bc)) 50)) p) W.heap.size L N (.slice bo 2 bc)) := by
  have gW1 : Gr W w1 := gA.trans g1 (fun _ _ h => h)
  obtain ⟨V, hV⟩ : ∃ V, w1.alloc (.cells (dC L N (.slice bo 2 bc)) 50) = V := ⟨_, rfl⟩
  have hdV : V.heap[w1.heap.size]? = some (.cells (dC L N (.slice bo 2 bc)) 50) := by rw [← hV]; exact heap_alloc_new w1 _
  have g1V : Gr w1 V := by rw [← hV]; exact gr_alloc w1 _
  rw [hV]
  have gV : Gr W V := gW1.trans g1V (fun _ _ h => h)
  have hpl := lt_of_heap hp
  have hs1 := g1.size
  have hpV := (gV.block p hpl id).trans hp
  have hrV := ((g1.trans g1V (fun _ _ h => h)).block _ (by omega) id).trans hr0
  have kZ : Keeps V (dnW V p) (fun z => z = p) := setAll_kp _ _ _
  have hdZ := (kZ.block _ (lt_of_heap hdV) (by omega)).trans hdV
  have hrZ := (kZ.block _ (lt_of_heap hrV) (by omega)).trans hrV
  have kU : Keeps (dnW V p) (mkU (dnW V p) W.heap.size L N (.slice bo 2 bc)) (fun z => z = W.heap.size) := setAll_kp _ _ _
  have hst := mk_store (r := W.heap.size) (N := N) gV (Nat.le_refl _) hrV ((hD.gr gA (g1V.mono fun _ _ h => h.elim) gV))
  refine ⟨hdV, hpV, ?_, hdZ, hrZ, ?_, ?_, mkU V W.heap.size L N (.slice bo 2 bc), hst.2.1, ?_, hst.2.2⟩
  · exact frz (heap_setCell_same V p 7 _ _ _ hpV) 8
  · rw [show mkU (dnW V p) W.heap.size L N (.slice bo 2 bc) = setAll (dnW V p) W.heap.size _ from rfl, setAll_blk W.heap.size 50 _ _ _ hrZ]
    simp [setsA, dC]
  · exact (Keeps.trans (gV.mono fun _ _ h => h.elim) kZ (fun _ _ h => h)).trans kU (fun j hj e => by have e' : j = W.heap.size := e; omega)
  · have k0 : Keeps V (mkU V W.heap.size L N (.slice bo 2 bc)) (fun z => z = W.heap.size) := setAll_kp _ _ _
    have e1 : (mkU V W.heap.size L N (.slice bo 2 bc)).heap.size = V.heap.size := by simp [mkU, setAll]
    have e2 : (mkU (dnW V p) W.heap.size L N (.slice bo 2 bc)).heap.size = V.heap.size := by simp [mkU, dnW, setAll]
    refine ⟨by rw [kU.os, kZ.os, k0.os], by rw [kU.tape, kZ.tape, k0.tape], by rw [kU.output, kZ.output, k0.output], by omega, fun j hj hn => ?_⟩
    have hjV : j < V.heap.size := by omega
    have hjZ := Nat.lt_of_lt_of_le hjV kZ.size
    by_cases e : j = W.heap.size
    · subst e
      rw [hst.1]
      rw [show mkU (dnW V p) W.heap.size L N (.slice bo 2 bc) = setAll (dnW V p) W.heap.size _ from rfl, setAll_blk W.heap.size 50 _ _ _ hrZ]
      simp [setsA, dC]
    · rw [kU.block j hjZ e, k0.block j hjV e]
      exact kZ.block j hjV hn
theorem done9 (B p n m t : Nat) (nu : Bool) (fo : Option Addr) (fc : Nat) (rows wt : Int) (vo : Option Addr) (L vc : Nat) (bs : List Bool) (lo : Option Addr) (lc : Nat) (xs : List Int) (W : World) (hp : W.heap[p]? = some (.cells (bdC nx nu fo fc n t rows) 220)) (h : Nd B W n m t nu wt vo L vc (bs.map Value.bool) lo lc (xs.map iv)) (hL : L ≤ 4000) :
    Calls Tryz.prog 104 #[.pointer (some ⟨p, 0, none⟩)] W fun e w' => ∃ bo bc, e = .returned (.tuple #[.agg (dC L (offs bs) (.slice bo 2 bc)), .int .i64 0]) ∧ Keeps W w' (fun z => z = p) ∧ ∃ U, Gr W U ∧ Keeps U w' (fun z => z = p) ∧ DatA W U L bs xs bo bc := by
  obtain ⟨A, hA⟩ : ∃ A, W.alloc (.cells (dC 0 0 (.slice none 0 0)) 50) = A := ⟨_, rfl⟩
  have gA : Gr W A := by rw [← hA]; exact gr_alloc W _
  have hsz : A.heap.size = W.heap.size + 1 := by rw [← hA]; simp
  have hr0 : A.heap[W.heap.size]? = some (.cells (dC 0 0 (.slice none 0 0)) 50) := by rw [← hA]; exact heap_alloc_new W _
  obtain ⟨N, hN⟩ : ∃ N, offs bs = N := ⟨_, rfl⟩
  have hpA := (gA.block _ (lt_of_heap hp) id).trans hp
  obtain ⟨c7, c8⟩ := cell10 hpA
  have HC := hidM (data17 B n m t nu wt vo L vc bs lo lc xs A (h.gr gA) hL)
  have hptr := ptr_some n
  rw [hN] at HC
  have HN := hidM hN
  have HP := hidM hp
  have HPA := hidM hpA
  have HGA := hidM gA
  have HR0 := hidM hr0
  have HSZ := hidM hsz
  clear h gA hr0 hsz hN hp hpA
  unfold dC at hA
  go_enter Tryz.func104, Tryz.ntmps104
  go_wp2_with (go_at_call 126; refine HC.out.mono ?_; rintro e w1 ⟨bo, bc, rfl, g1, hD⟩; have HT := hidM (done_tail (N := N) HGA.out HSZ.out HR0.out HP.out g1 hD); clear hA c7 c8 g1 hD; obtain ⟨V, hV⟩ : ∃ V, w1.alloc (.cells (dC L N (.slice bo 2 bc)) 50) = V := ⟨_, rfl⟩; rw [hV] at HT; obtain ⟨Z, hZ⟩ : ∃ Z, dnW V p = Z := ⟨_, rfl⟩; rw [hZ] at HT; obtain ⟨U, hU⟩ : ∃ U, mkU Z W.heap.size L N (.slice bo 2 bc) = U := ⟨_, rfl⟩; rw [hU] at HT; simp only [mkU, setAll] at hU; simp only [dnW, setAll] at hZ; obtain ⟨e0, e1, e2, e3, e4, e5⟩ := cell6 HT.out.dV; obtain ⟨c7, c8⟩ := cell10 HT.out.pV; have z4 := frz HT.out.dV 4; have z5 := frz HT.out.dV 5; have s4 := set_id (j := 4) (v := .slice none 0 0) HT.out.dV rfl; have s5 := set_id (j := 5) (v := .slice none 0 0) HT.out.dV rfl; have z7 := frz HT.out.pV 7; have z8 := HT.out.pZ; obtain ⟨f0, f1, f2, f3, f4, f5⟩ := cell6 HT.out.dZ; obtain ⟨r0, r1, r2, r3, r4, r5⟩ := cell6 HT.out.rZ; have y0 := frz HT.out.rZ 0; have y1 := frz HT.out.rZ 1; have y2 := frz HT.out.rZ 2; have y3 := frz HT.out.rZ 3; have y4 := frz HT.out.rZ 4; have y5 := frz HT.out.rZ 5; unfold dC at hV; unfold dC)
  (try simp only [Exit.inBlock, Exit.then])
  refine bodyPost_ret (results_cell31t rfl rfl (by with_reducible exact HT.out.rU) (by kernel_rfl)) rfl ?_
  rw [HN.out]
  exact ⟨bo, bc, rfl, HT.out.kU, HT.out.fin.imp fun X hX => hX⟩
end Go.Proofs.YteggcdhibcjneaaGreatDoor.Kit
namespace Go.Proofs.YteggcdhibcjneaaGreatDoor.Kit
variable {nx : Bool}
open Go.RowKit Go.Shelf Go.Deep
open Go.Proofs.YteggcdhibcjneaaGreatDoor.Kd (Ans AnsV cell5 cell2)
open Go.Proofs.YteggcdhibcjneaaGreatDoor.Ink (OwnRow)
set_option linter.unusedVariables false
set_option linter.unusedSimpArgs false
attribute [local go_sem] run_store_func

theorem must63 (c : Value) (at' : Int) (W : World) : Calls Tryz.prog 107 #[c, .int .i64 0, .int .i64 at'] W fun e w' => e = .returned (.tuple #[]) ∧ w' = W := by
  go_enter Tryz.func107, Tryz.ntmps107
  go_wp2_with fail
  go_end0
  exact ⟨rfl, rfl⟩
theorem isSigned90 (W : World) : Calls Tryz.prog 128 #[.int .i64 3] W fun e w' => e = .returned (.bool true) ∧ w' = W := by
  go_enter Tryz.func128, Tryz.ntmps128
  go_wp2_with fail
  go_ret
  exact ⟨rfl, rfl⟩
theorem familyOf62 (ao : Option Addr) (ca : Nat) (W : World) (hT : Tab W) : Calls Tryz.prog 106 #[.agg #[.int .i64 3, .int .i64 0, .int .i64 0, .int .i64 0, .slice ao 0 ca]] W fun e w' => e = .returned (.iface 238 (.agg #[.int .i64 1, .bool true])) ∧ Gr W w' := by
  obtain ⟨A, hA⟩ : ∃ A, W.alloc (.cells #[.int .i64 3, .int .i64 0, .int .i64 0, .int .i64 0, .slice ao 0 ca] 45) = A := ⟨_, rfl⟩
  have gA : Gr W A := by rw [← hA]; exact gr_alloc W _
  have hb : A.heap[W.heap.size]? = some (.cells #[.int .i64 3, .int .i64 0, .int .i64 0, .int .i64 0, .slice ao 0 ca] 45) := by rw [← hA]; exact heap_alloc_new W _
  have hS : ∀ u, Gr A u → u.cell? ⟨W.heap.size, 0, none⟩ = some (.int .i64 3) ∧ u.cell? ⟨W.heap.size, 1, none⟩ = some (.int .i64 0) ∧ u.cell? ⟨W.heap.size, 2, none⟩ = some (.int .i64 0) ∧ u.cell? ⟨W.heap.size, 3, none⟩ = some (.int .i64 0) ∧ u.cell? ⟨W.heap.size, 4, none⟩ = some (.slice ao 0 ca) := fun u g => cell5 ((g.block _ (lt_of_heap hb) id).trans hb)
  obtain ⟨e0, e1, e2, e3, e4⟩ := cell5 hb
  have HS := hidM hS
  have HG := hidM gA
  have HT := hidM (hT.gr gA)
  have HS0 := hidM (hS A.drew gr_drew)
  clear gA hb hS hT
  go_enter Tryz.func106, Tryz.ntmps106
  go_wp2_with fail
  go_region_held3 (fun u => u.cell? ⟨W.heap.size, 0, none⟩ = some (.int .i64 3) ∧ u.cell? ⟨W.heap.size, 1, none⟩ = some (.int .i64 0) ∧ u.cell? ⟨W.heap.size, 2, none⟩ = some (.int .i64 0) ∧ u.cell? ⟨W.heap.size, 3, none⟩ = some (.int .i64 0) ∧ u.cell? ⟨W.heap.size, 4, none⟩ = some (.slice ao 0 ca)) (first | with_reducible exact HS0.out | with_reducible exact HS1.out) (first
    | (go_at_call 127; refine (width56 ao ca _ (HT.out.gr gr_drew)).mono ?_; rintro e w1 ⟨rfl, g1⟩; have HG1 : Hid (Gr A w1) := Keeps.trans gr_drew g1 (fun _ _ h => h); have HS1 := hidM (HS.out w1 HG1.out); clear g1)
    | (go_at_call 128; refine (isSigned90 _).mono ?_; rintro e w2 ⟨rfl, rfl⟩))
  go_wp2_with fail
  go_ret
  exact ⟨rfl, HG.out.trans HG1.out (fun _ _ h => h)⟩
theorem results_cell27 {fn : Func} {t : Tmp} {tmps : Array Value} {g : Nat} {cs : Array Value} {w : World} (h : fn.results = #[.cell t 47]) (ht : tmps.getD t undef = .pointer (some ⟨g, 0, none⟩)) (hg : w.heap[g]? = some (.cells cs 47 (0, 0))) (hi : (Tryz.prog.info? 47).map (·.size) = some cs.size) :
    (results fn tmps).run Tryz.prog w = .ok (.agg cs) w := by
  have hl := run_loadVar_row (P := Tryz.prog) w g 47 47 cs (0, 0) _ hg Tryz.underlying47 rfl hi
  unfold results
  rw [h]
  simp only [Array.mapM_eq_mapM_toList, List.mapM_cons, List.mapM_nil, ht]
  simp [asAddr, hl]
theorem copied46 (nu : Bool) (ao : Option Addr) (ca : Nat) (W : World) (hT : Tab W) : Calls Tryz.prog 89 #[.agg #[.string (nmB nx), .bool nu, .int .i64 3, .int .i64 0, .int .i64 0, .int .i64 0, .slice ao 0 ca]] W fun e w' => ∃ fo fc, e = .returned (.agg #[.string (nmB nx), .bool nu, .int .i64 3, .int .i64 0, .int .i64 0, .int .i64 0, .slice fo 0 fc]) ∧ Gr W w' := by
  obtain ⟨A, hA⟩ : ∃ A, (W.alloc (.cells #[.string (nmB nx), .bool nu, .int .i64 3, .int .i64 0, .int .i64 0, .int .i64 0, .slice ao 0 ca] 47)).alloc (.cells #[.string ⟨#[]⟩, .bool false, .int .i64 0, .int .i64 0, .int .i64 0, .int .i64 0, .slice none 0 0] 47) = A := ⟨_, rfl⟩
  have gA : Gr W A := by rw [← hA]; exact (gr_alloc W _).trans (gr_alloc _ _) (fun _ _ h => h)
  have hsz : A.heap.size = W.heap.size + 2 := by rw [← hA]; simp
  have hb2 : A.heap[W.heap.size + 1]? = some (.cells #[.string ⟨#[]⟩, .bool false, .int .i64 0, .int .i64 0, .int .i64 0, .int .i64 0, .slice none 0 0] 47) := by
    have e2 := heap_alloc_new (W.alloc (.cells #[.string (nmB nx), .bool nu, .int .i64 3, .int .i64 0, .int .i64 0, .int .i64 0, .slice ao 0 ca] 47)) (.cells #[.string ⟨#[]⟩, .bool false, .int .i64 0, .int .i64 0, .int .i64 0, .int .i64 0, .slice none 0 0] 47)
    rw [show (W.alloc (.cells #[.string (nmB nx), .bool nu, .int .i64 3, .int .i64 0, .int .i64 0, .int .i64 0, .slice ao 0 ca] 47)).heap.size = W.heap.size + 1 by simp, hA] at e2
    exact e2
  have hb1 : A.heap[W.heap.size]? = some (.cells #[.string (nmB nx), .bool nu, .int .i64 3, .int .i64 0, .int .i64 0, .int .i64 0, .slice ao 0 ca] 47) := by
    have e1 := heap_alloc_new W (.cells #[.string (nmB nx), .bool nu, .int .i64 3, .int .i64 0, .int .i64 0, .int .i64 0, .slice ao 0 ca] 47)
    rw [← hA]
    exact ((gr_alloc _ _).block _ (lt_of_heap e1) id).trans e1
  obtain ⟨B, hB⟩ : ∃ B, (A.alloc (.cells #[.string (nmB nx), .bool nu, .int .i64 3, .int .i64 0, .int .i64 0, .int .i64 0, .slice ao 0 ca] 47)).alloc (.cells #[.int .i64 0] 3) = B := ⟨_, rfl⟩
  have gB : Gr A B := by rw [← hB]; exact (gr_alloc A _).trans (gr_alloc _ _) (fun _ _ h => h)
  have hg : B.heap[A.heap.size]? = some (.cells #[.string (nmB nx), .bool nu, .int .i64 3, .int .i64 0, .int .i64 0, .int .i64 0, .slice ao 0 ca] 47) := by
    have e1 := heap_alloc_new A (.cells #[.string (nmB nx), .bool nu, .int .i64 3, .int .i64 0, .int .i64 0, .int .i64 0, .slice ao 0 ca] 47)
    rw [← hB]
    exact ((gr_alloc _ _).block _ (lt_of_heap e1) id).trans e1
  have hz : B.cell? ⟨A.heap.size + 1, 0, none⟩ = some (.int .i64 0) := by
    have e2 := heap_alloc_new (A.alloc (.cells #[.string (nmB nx), .bool nu, .int .i64 3, .int .i64 0, .int .i64 0, .int .i64 0, .slice ao 0 ca] 47)) (.cells #[.int .i64 0] 3)
    rw [show (A.alloc (.cells #[.string (nmB nx), .bool nu, .int .i64 3, .int .i64 0, .int .i64 0, .int .i64 0, .slice ao 0 ca] 47)).heap.size = A.heap.size + 1 by simp, hB] at e2
    simp [World.cell?, e2]
  have HC := hidM (at13 nu ao ca A.heap.size (A.heap.size + 1) B (hT.gr (gA.trans gB (fun _ _ h => h))) hg hz)
  have HT : Hid (∀ (w2 : World) (fo : Option Addr) (fc : Nat), Gr B w2 → (w2.alloc (.cells #[.string (nmB nx), .bool nu, .int .i64 3, .int .i64 0, .int .i64 0, .int .i64 0, .slice fo 0 fc] 47)).heap[w2.heap.size]? = some (.cells #[.string (nmB nx), .bool nu, .int .i64 3, .int .i64 0, .int .i64 0, .int .i64 0, .slice fo 0 fc] 47) ∧ (w2.alloc (.cells #[.string (nmB nx), .bool nu, .int .i64 3, .int .i64 0, .int .i64 0, .int .i64 0, .slice fo 0 fc] 47)).heap[W.heap.size + 1]? = some (.cells #[.string ⟨#[]⟩, .bool false, .int .i64 0, .int .i64 0, .int .i64 0, .int .i64 0, .slice none 0 0] 47) ∧ (setAll (w2.alloc (.cells #[.string (nmB nx), .bool nu, .int .i64 3, .int .i64 0, .int .i64 0, .int .i64 0, .slice fo 0 fc] 47)) (W.heap.size + 1) [(0, .string (nmB nx)), (1, .bool nu), (2, .int .i64 3), (3, .int .i64 0), (4, .int .i64 0), (5, .int .i64 0), (6, .slice fo 0 fc)]).heap[W.heap.size + 1]? = some (.cells #[.string (nmB nx), .bool nu, .int .i64 3, .int .i64 0, .int .i64 0, .int .i64 0, .slice fo 0 fc] 47) ∧ Gr W (setAll (w2.alloc (.cells #[.string (nmB nx), .bool nu, .int .i64 3, .int .i64 0, .int .i64 0, .int .i64 0, .slice fo 0 fc] 47)) (W.heap.size + 1) [(0, .string (nmB nx)), (1, .bool nu), (2, .int .i64 3), (3, .int .i64 0), (4, .int .i64 0), (5, .int .i64 0), (6, .slice fo 0 fc)])) := by
    intro w2 fo fc g2
    obtain ⟨V, hV⟩ : ∃ V, w2.alloc (.cells #[.string (nmB nx), .bool nu, .int .i64 3, .int .i64 0, .int .i64 0, .int .i64 0, .slice fo 0 fc] 47) = V := ⟨_, rfl⟩
    have g2V : Gr w2 V := by rw [← hV]; exact gr_alloc w2 _
    have hd : V.heap[w2.heap.size]? = some (.cells #[.string (nmB nx), .bool nu, .int .i64 3, .int .i64 0, .int .i64 0, .int .i64 0, .slice fo 0 fc] 47) := by rw [← hV]; exact heap_alloc_new w2 _
    have gAV : Gr A V := (gB.trans g2 (fun _ _ h => h)).trans g2V (fun _ _ h => h)
    have hr := (gAV.block _ (lt_of_heap hb2) id).trans hb2
    rw [hV]
    refine ⟨hd, hr, ?_, (gA.trans gAV (fun _ _ h => h)).trans (setAll_kp _ _ _) (fun j hj e => by have e' : j = W.heap.size + 1 := e; omega)⟩
    rw [setAll_blk (W.heap.size + 1) 47 _ _ _ hr]
    simp [setsA]
  obtain ⟨e0, e1, e2, e3, e4, e5, e6⟩ := cell7 hb1
  clear hT gA hsz hb2 hb1 gB hg hz
  go_enter Tryz.func89, Tryz.ntmps89
  go_wp2_with (go_at_call 34; refine HC.out.mono ?_; rintro e w2 ⟨fo, fc, rfl, g2⟩; have HX := hidM (HT.out w2 fo fc g2); clear g2 hA hB e0 e1 e2 e3 e4 e5 e6; obtain ⟨V, hV⟩ : ∃ V, w2.alloc (.cells #[.string (nmB nx), .bool nu, .int .i64 3, .int .i64 0, .int .i64 0, .int .i64 0, .slice fo 0 fc] 47) = V := ⟨_, rfl⟩; rw [hV] at HX; obtain ⟨U, hU⟩ : ∃ U, setAll V (W.heap.size + 1) [(0, .string (nmB nx)), (1, .bool nu), (2, .int .i64 3), (3, .int .i64 0), (4, .int .i64 0), (5, .int .i64 0), (6, .slice fo 0 fc)] = U := ⟨_, rfl⟩; rw [hU] at HX; simp only [setAll] at hU; obtain ⟨e0, e1, e2, e3, e4, e5, e6⟩ := cell7 HX.out.1; obtain ⟨r0, r1, r2, r3, r4, r5, r6⟩ := cell7 HX.out.2.1; have y0 := frz HX.out.2.1 0; have y1 := frz HX.out.2.1 1; have y2 := frz HX.out.2.1 2; have y3 := frz HX.out.2.1 3; have y4 := frz HX.out.2.1 4; have y5 := frz HX.out.2.1 5; have y6 := frz HX.out.2.1 6)
  (try simp only [Exit.inBlock, Exit.then])
  refine bodyPost_ret (results_cell27 rfl rfl (by with_reducible exact HX.out.2.2.1) (by kernel_rfl)) rfl ?_
  exact ⟨fo, fc, rfl, HX.out.2.2.2⟩
end Go.Proofs.YteggcdhibcjneaaGreatDoor.Kit
