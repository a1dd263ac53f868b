import Derived.Test.YtegjpmodleigeaaGreatDoorBW
set_option maxRecDepth 100000
set_option maxHeartbeats 4000000
namespace Go.Proofs.YtegjpmodleigeaaGreatDoor.Kit
open Go.RowKit Go.Shelf Go.Deep
open Go.Proofs.YtegjpmodleigeaaGreatDoor.Kd (Ans AnsV cell5 cell2)
open Go.Proofs.YtegjpmodleigeaaGreatDoor.Ink (OwnRow)
set_option linter.unusedVariables false
set_option linter.unusedSimpArgs false
attribute [local go_sem] run_store_func
theorem ptr_some (n : Nat) (w : World) : (binOp .eql 118 (.pointer (some ⟨n, 0, none⟩)) (.pointer none)).run Tryz.prog w = .ok (.bool false) w := by kernel_rfl
/-- Done's builder behind it -/
def dnW (V : World) (p : Nat) : World := setAll V p [(7, .pointer none), (8, .pointer none)]
theorem cell10 {W : World} {p t : Nat} {nu : Bool} {fo : Option Addr} {fc n t' : Nat} {rows : Int} (h : W.heap[p]? = some (.cells (bdC nu fo fc n t' rows) t)) : W.cell? ⟨p, 7, none⟩ = some (.pointer (some ⟨n, 0, none⟩)) ∧ W.cell? ⟨p, 8, none⟩ = some (.pointer (some ⟨t', 0, none⟩)) := by
  constructor <;> simp [World.cell?, h, bdC]
theorem set_id {W : World} {b ty j : Nat} {c : Array Value} {v : Value} (h : W.heap[b]? = some (.cells c ty)) (hv : c.setIfInBounds j v = c) : W.setCell ⟨b, j, none⟩ v = W := by
  have hm : (W.setCell ⟨b, j, none⟩ v).heap = W.heap := by
    apply Array.ext_getElem?
    intro i
    by_cases e : i = b
    · subst e
      rw [heap_setCell_same W i j _ _ v h, h, hv]
    · exact heap_setCell_other _ _ _ _ e
  show ({ W with heap := (W.setCell ⟨b, j, none⟩ v).heap } : World) = W
  rw [hm]
structure DoneT (W A w1 : World) (p L N : Nat) (nu : Bool) (fo : Option Addr) (fc n t : Nat) (rows : Int) (bs : List Bool) (xs : List Int) (bo : Option Addr) (bc : Nat) (V Z U : World) : Prop where
  dV : V.heap[w1.heap.size]? = some (.cells (dC L N (.slice bo 2 bc)) 32)
  pV : V.heap[p]? = some (.cells (bdC nu fo fc n t rows) 121)
  pZ : (V.setCell ⟨p, 7, none⟩ (.pointer none)).frozen? ⟨p, 8, none⟩ = false
  dZ : Z.heap[w1.heap.size]? = some (.cells (dC L N (.slice bo 2 bc)) 32)
  rZ : Z.heap[W.heap.size]? = some (.cells (dC 0 0 (.slice none 0 0)) 32)
  rU : U.heap[W.heap.size]? = some (.cells (dC L N (.slice bo 2 bc)) 32)
  kU : Keeps W U (fun z => z = p)
  fin : ∃ X, Gr W X ∧ Keeps X U (fun z => z = p) ∧ DatA W X L bs xs bo bc
theorem done_tail {W A w1 : World} {p L N : Nat} {nu : Bool} {fo : Option Addr} {fc n t : Nat} {rows : Int} {bs : List Bool} {xs : List Int} {bo : Option Addr} {bc : Nat} (gA : Gr W A) (hsz : A.heap.size = W.heap.size + 1) (hr0 : A.heap[W.heap.size]? = some (.cells (dC 0 0 (.slice none 0 0)) 32)) (hp : W.heap[p]? = some (.cells (bdC nu fo fc n t rows) 121)) (g1 : Gr A w1) (hD : DatA A w1 L bs xs bo bc) :
    DoneT W A w1 p L N nu fo fc n t rows bs xs bo bc (w1.alloc (.cells (dC L N (.slice bo 2 bc)) 32)) (dnW (w1.alloc (.cells (dC L N (.slice bo 2 bc)) 32)) p) (mkU (dnW (w1.alloc (.cells (dC L N (.slice bo 2 bc)) 32)) p) W.heap.size L N (.slice bo 2 bc)) := by
  have gW1 : Gr W w1 := gA.trans g1 (fun _ _ h => h)
  obtain ⟨V, hV⟩ : ∃ V, w1.alloc (.cells (dC L N (.slice bo 2 bc)) 32) = V := ⟨_, rfl⟩
  have hdV : V.heap[w1.heap.size]? = some (.cells (dC L N (.slice bo 2 bc)) 32) := by rw [← hV]; exact heap_alloc_new w1 _
  have g1V : Gr w1 V := by rw [← hV]; exact gr_alloc w1 _
  rw [hV]
  have gV : Gr W V := gW1.trans g1V (fun _ _ h => h)
  have hpl := lt_of_heap hp
  have hs1 := g1.size
  have hpV := (gV.block p hpl id).trans hp
  have hrV := ((g1.trans g1V (fun _ _ h => h)).block _ (by omega) id).trans hr0
  have kZ : Keeps V (dnW V p) (fun z => z = p) := setAll_kp _ _ _
  have hdZ := (kZ.block _ (lt_of_heap hdV) (by omega)).trans hdV
  have hrZ := (kZ.block _ (lt_of_heap hrV) (by omega)).trans hrV
  have kU : Keeps (dnW V p) (mkU (dnW V p) W.heap.size L N (.slice bo 2 bc)) (fun z => z = W.heap.size) := setAll_kp _ _ _
  have hst := mk_store (r := W.heap.size) (N := N) gV (Nat.le_refl _) hrV ((hD.gr gA (g1V.mono fun _ _ h => h.elim) gV))
  refine ⟨hdV, hpV, ?_, hdZ, hrZ, ?_, ?_, mkU V W.heap.size L N (.slice bo 2 bc), hst.2.1, ?_, hst.2.2⟩
  · exact frz (heap_setCell_same V p 7 _ _ _ hpV) 8
  · rw [show mkU (dnW V p) W.heap.size L N (.slice bo 2 bc) = setAll (dnW V p) W.heap.size _ from rfl, setAll_blk W.heap.size 32 _ _ _ hrZ]
    simp [setsA, dC]
  · exact (Keeps.trans (gV.mono fun _ _ h => h.elim) kZ (fun _ _ h => h)).trans kU (fun j hj e => by have e' : j = W.heap.size := e; omega)
  · have k0 : Keeps V (mkU V W.heap.size L N (.slice bo 2 bc)) (fun z => z = W.heap.size) := setAll_kp _ _ _
    have e1 : (mkU V W.heap.size L N (.slice bo 2 bc)).heap.size = V.heap.size := by simp [mkU, setAll]
    have e2 : (mkU (dnW V p) W.heap.size L N (.slice bo 2 bc)).heap.size = V.heap.size := by simp [mkU, dnW, setAll]
    refine ⟨by rw [kU.os, kZ.os, k0.os], by rw [kU.tape, kZ.tape, k0.tape], by rw [kU.output, kZ.output, k0.output], by omega, fun j hj hn => ?_⟩
    have hjV : j < V.heap.size := by omega
    have hjZ := Nat.lt_of_lt_of_le hjV kZ.size
    by_cases e : j = W.heap.size
    · subst e
      rw [hst.1]
      rw [show mkU (dnW V p) W.heap.size L N (.slice bo 2 bc) = setAll (dnW V p) W.heap.size _ from rfl, setAll_blk W.heap.size 32 _ _ _ hrZ]
      simp [setsA, dC]
    · rw [kU.block j hjZ e, k0.block j hjV e]
      exact kZ.block j hjV hn
theorem done9 {s k : Int} {st : Value} (B p n m t : Nat) (nu : Bool) (fo : Option Addr) (fc : Nat) (rows wt : Int) (vo : Option Addr) (L vc : Nat) (bs : List Bool) (lo : Option Addr) (lc : Nat) (xs : List Int) (W : World) (hp : W.heap[p]? = some (.cells (bdC nu fo fc n t rows) 121)) (h : Nd B W n m t s k st nu wt vo L vc (bs.map Value.bool) lo lc (xs.map iv)) (hL : L ≤ 4000) :
    Calls Tryz.prog 29 #[.pointer (some ⟨p, 0, none⟩)] W fun e w' => ∃ bo bc, e = .returned (.tuple #[.agg (dC L (offs bs) (.slice bo 2 bc)), .int .i64 0]) ∧ Keeps W w' (fun z => z = p) ∧ ∃ U, Gr W U ∧ Keeps U w' (fun z => z = p) ∧ DatA W U L bs xs bo bc := by
  obtain ⟨A, hA⟩ : ∃ A, W.alloc (.cells (dC 0 0 (.slice none 0 0)) 32) = A := ⟨_, rfl⟩
  have gA : Gr W A := by rw [← hA]; exact gr_alloc W _
  have hsz : A.heap.size = W.heap.size + 1 := by rw [← hA]; simp
  have hr0 : A.heap[W.heap.size]? = some (.cells (dC 0 0 (.slice none 0 0)) 32) := by rw [← hA]; exact heap_alloc_new W _
  obtain ⟨N, hN⟩ : ∃ N, offs bs = N := ⟨_, rfl⟩
  have hpA := (gA.block _ (lt_of_heap hp) id).trans hp
  obtain ⟨c7, c8⟩ := cell10 hpA
  have HC := hidM (data17 B n m t nu wt vo L vc bs lo lc xs A (h.gr gA) hL)
  have hptr := ptr_some n
  rw [hN] at HC
  have HN := hidM hN
  have HP := hidM hp
  have HPA := hidM hpA
  have HGA := hidM gA
  have HR0 := hidM hr0
  have HSZ := hidM hsz
  clear h gA hr0 hsz hN hp hpA
  unfold dC at hA
  go_enter Tryz.func29, Tryz.ntmps29
  go_wp2_with (go_at_call 43; refine HC.out.mono ?_; rintro e w1 ⟨bo, bc, rfl, g1, hD⟩; have HT := hidM (done_tail (N := N) HGA.out HSZ.out HR0.out HP.out g1 hD); clear hA c7 c8 g1 hD; obtain ⟨V, hV⟩ : ∃ V, w1.alloc (.cells (dC L N (.slice bo 2 bc)) 32) = V := ⟨_, rfl⟩; rw [hV] at HT; obtain ⟨Z, hZ⟩ : ∃ Z, dnW V p = Z := ⟨_, rfl⟩; rw [hZ] at HT; obtain ⟨U, hU⟩ : ∃ U, mkU Z W.heap.size L N (.slice bo 2 bc) = U := ⟨_, rfl⟩; rw [hU] at HT; simp only [mkU, setAll] at hU; simp only [dnW, setAll] at hZ; obtain ⟨e0, e1, e2, e3, e4, e5⟩ := cell6 HT.out.dV; obtain ⟨c7, c8⟩ := cell10 HT.out.pV; have z4 := frz HT.out.dV 4; have z5 := frz HT.out.dV 5; have s4 := set_id (j := 4) (v := .slice none 0 0) HT.out.dV rfl; have s5 := set_id (j := 5) (v := .slice none 0 0) HT.out.dV rfl; have z7 := frz HT.out.pV 7; have z8 := HT.out.pZ; obtain ⟨f0, f1, f2, f3, f4, f5⟩ := cell6 HT.out.dZ; obtain ⟨r0, r1, r2, r3, r4, r5⟩ := cell6 HT.out.rZ; have y0 := frz HT.out.rZ 0; have y1 := frz HT.out.rZ 1; have y2 := frz HT.out.rZ 2; have y3 := frz HT.out.rZ 3; have y4 := frz HT.out.rZ 4; have y5 := frz HT.out.rZ 5; unfold dC at hV; unfold dC)
  (try simp only [Exit.inBlock, Exit.then])
  refine bodyPost_ret (results_cell31t rfl rfl (by with_reducible exact HT.out.rU) (by kernel_rfl)) rfl ?_
  rw [HN.out]
  exact ⟨bo, bc, rfl, HT.out.kU, HT.out.fin.imp fun X hX => hX⟩
theorem must63 (c : Value) (at' : Int) (W : World) : Calls Tryz.prog 76 #[c, .int .i64 0, .int .i64 at'] W fun e w' => e = .returned (.tuple #[]) ∧ w' = W := by
  go_enter Tryz.func76, Tryz.ntmps76
  go_wp2_with fail
  go_end0
  exact ⟨rfl, rfl⟩
theorem isSigned90 (W : World) : Calls Tryz.prog 98 #[.int .i64 3] W fun e w' => e = .returned (.bool true) ∧ w' = W := by
  go_enter Tryz.func98, Tryz.ntmps98
  go_wp2_with fail
  go_ret
  exact ⟨rfl, rfl⟩
theorem familyOf62 (ao : Option Addr) (ca : Nat) (W : World) (hT : Tab W) : Calls Tryz.prog 75 #[.agg #[.int .i64 3, .int .i64 0, .int .i64 0, .int .i64 0, .slice ao 0 ca]] W fun e w' => e = .returned (.iface 236 (.agg #[.int .i64 1, .bool true])) ∧ Gr W w' := by
  obtain ⟨A, hA⟩ : ∃ A, W.alloc (.cells #[.int .i64 3, .int .i64 0, .int .i64 0, .int .i64 0, .slice ao 0 ca] 25) = A := ⟨_, rfl⟩
  have gA : Gr W A := by rw [← hA]; exact gr_alloc W _
  have hb : A.heap[W.heap.size]? = some (.cells #[.int .i64 3, .int .i64 0, .int .i64 0, .int .i64 0, .slice ao 0 ca] 25) := by rw [← hA]; exact heap_alloc_new W _
  have hS : ∀ u, Gr A u → u.cell? ⟨W.heap.size, 0, none⟩ = some (.int .i64 3) ∧ u.cell? ⟨W.heap.size, 1, none⟩ = some (.int .i64 0) ∧ u.cell? ⟨W.heap.size, 2, none⟩ = some (.int .i64 0) ∧ u.cell? ⟨W.heap.size, 3, none⟩ = some (.int .i64 0) ∧ u.cell? ⟨W.heap.size, 4, none⟩ = some (.slice ao 0 ca) := fun u g => cell5 ((g.block _ (lt_of_heap hb) id).trans hb)
  obtain ⟨e0, e1, e2, e3, e4⟩ := cell5 hb
  have HS := hidM hS
  have HG := hidM gA
  have HT := hidM (hT.gr gA)
  have HS0 := hidM (hS A.drew gr_drew)
  clear gA hb hS hT
  go_enter Tryz.func75, Tryz.ntmps75
  go_wp2_with fail
  go_region_held3 (fun u => u.cell? ⟨W.heap.size, 0, none⟩ = some (.int .i64 3) ∧ u.cell? ⟨W.heap.size, 1, none⟩ = some (.int .i64 0) ∧ u.cell? ⟨W.heap.size, 2, none⟩ = some (.int .i64 0) ∧ u.cell? ⟨W.heap.size, 3, none⟩ = some (.int .i64 0) ∧ u.cell? ⟨W.heap.size, 4, none⟩ = some (.slice ao 0 ca)) (first | with_reducible exact HS0.out | with_reducible exact HS1.out) (first
    | (go_at_call 97; refine (width56 ao ca _ (HT.out.gr gr_drew)).mono ?_; rintro e w1 ⟨rfl, g1⟩; have HG1 : Hid (Gr A w1) := Keeps.trans gr_drew g1 (fun _ _ h => h); have HS1 := hidM (HS.out w1 HG1.out); clear g1)
    | (go_at_call 98; refine (isSigned90 _).mono ?_; rintro e w2 ⟨rfl, rfl⟩))
  go_wp2_with fail
  go_ret
  exact ⟨rfl, HG.out.trans HG1.out (fun _ _ h => h)⟩
theorem results_cell27 {fn : Func} {t : Tmp} {tmps : Array Value} {g : Nat} {cs : Array Value} {w : World} (h : fn.results = #[.cell t 27]) (ht : tmps.getD t undef = .pointer (some ⟨g, 0, none⟩)) (hg : w.heap[g]? = some (.cells cs 27 (0, 0))) (hi : (Tryz.prog.info? 27).map (·.size) = some cs.size) :
    (results fn tmps).run Tryz.prog w = .ok (.agg cs) w := by
  have hl := run_loadVar_row (P := Tryz.prog) w g 27 27 cs (0, 0) _ hg Tryz.underlying27 rfl hi
  unfold results
  rw [h]
  simp only [Array.mapM_eq_mapM_toList, List.mapM_cons, List.mapM_nil, ht]
  simp [asAddr, hl]
theorem copied46 (nu : Bool) (ao : Option Addr) (ca : Nat) (W : World) (hT : Tab W) : Calls Tryz.prog 53 #[.agg #[.string nmA, .bool nu, .int .i64 3, .int .i64 0, .int .i64 0, .int .i64 0, .slice ao 0 ca]] W fun e w' => ∃ fo fc, e = .returned (.agg #[.string nmA, .bool nu, .int .i64 3, .int .i64 0, .int .i64 0, .int .i64 0, .slice fo 0 fc]) ∧ Gr W w' := by
  obtain ⟨A, hA⟩ : ∃ A, (W.alloc (.cells #[.string nmA, .bool nu, .int .i64 3, .int .i64 0, .int .i64 0, .int .i64 0, .slice ao 0 ca] 27)).alloc (.cells #[.string ⟨#[]⟩, .bool false, .int .i64 0, .int .i64 0, .int .i64 0, .int .i64 0, .slice none 0 0] 27) = A := ⟨_, rfl⟩
  have gA : Gr W A := by rw [← hA]; exact (gr_alloc W _).trans (gr_alloc _ _) (fun _ _ h => h)
  have hsz : A.heap.size = W.heap.size + 2 := by rw [← hA]; simp
  have hb2 : A.heap[W.heap.size + 1]? = some (.cells #[.string ⟨#[]⟩, .bool false, .int .i64 0, .int .i64 0, .int .i64 0, .int .i64 0, .slice none 0 0] 27) := by
    have e2 := heap_alloc_new (W.alloc (.cells #[.string nmA, .bool nu, .int .i64 3, .int .i64 0, .int .i64 0, .int .i64 0, .slice ao 0 ca] 27)) (.cells #[.string ⟨#[]⟩, .bool false, .int .i64 0, .int .i64 0, .int .i64 0, .int .i64 0, .slice none 0 0] 27)
    rw [show (W.alloc (.cells #[.string nmA, .bool nu, .int .i64 3, .int .i64 0, .int .i64 0, .int .i64 0, .slice ao 0 ca] 27)).heap.size = W.heap.size + 1 by simp, hA] at e2
    exact e2
  have hb1 : A.heap[W.heap.size]? = some (.cells #[.string nmA, .bool nu, .int .i64 3, .int .i64 0, .int .i64 0, .int .i64 0, .slice ao 0 ca] 27) := by
    have e1 := heap_alloc_new W (.cells #[.string nmA, .bool nu, .int .i64 3, .int .i64 0, .int .i64 0, .int .i64 0, .slice ao 0 ca] 27)
    rw [← hA]
    exact ((gr_alloc _ _).block _ (lt_of_heap e1) id).trans e1
  obtain ⟨B, hB⟩ : ∃ B, (A.alloc (.cells #[.string nmA, .bool nu, .int .i64 3, .int .i64 0, .int .i64 0, .int .i64 0, .slice ao 0 ca] 27)).alloc (.cells #[.int .i64 0] 3) = B := ⟨_, rfl⟩
  have gB : Gr A B := by rw [← hB]; exact (gr_alloc A _).trans (gr_alloc _ _) (fun _ _ h => h)
  have hg : B.heap[A.heap.size]? = some (.cells #[.string nmA, .bool nu, .int .i64 3, .int .i64 0, .int .i64 0, .int .i64 0, .slice ao 0 ca] 27) := by
    have e1 := heap_alloc_new A (.cells #[.string nmA, .bool nu, .int .i64 3, .int .i64 0, .int .i64 0, .int .i64 0, .slice ao 0 ca] 27)
    rw [← hB]
    exact ((gr_alloc _ _).block _ (lt_of_heap e1) id).trans e1
  have hz : B.cell? ⟨A.heap.size + 1, 0, none⟩ = some (.int .i64 0) := by
    have e2 := heap_alloc_new (A.alloc (.cells #[.string nmA, .bool nu, .int .i64 3, .int .i64 0, .int .i64 0, .int .i64 0, .slice ao 0 ca] 27)) (.cells #[.int .i64 0] 3)
    rw [show (A.alloc (.cells #[.string nmA, .bool nu, .int .i64 3, .int .i64 0, .int .i64 0, .int .i64 0, .slice ao 0 ca] 27)).heap.size = A.heap.size + 1 by simp, hB] at e2
    simp [World.cell?, e2]
  have HC := hidM (at13 nu ao ca A.heap.size (A.heap.size + 1) B (hT.gr (gA.trans gB (fun _ _ h => h))) hg hz)
  have HT : Hid (∀ (w2 : World) (fo : Option Addr) (fc : Nat), Gr B w2 → (w2.alloc (.cells #[.string nmA, .bool nu, .int .i64 3, .int .i64 0, .int .i64 0, .int .i64 0, .slice fo 0 fc] 27)).heap[w2.heap.size]? = some (.cells #[.string nmA, .bool nu, .int .i64 3, .int .i64 0, .int .i64 0, .int .i64 0, .slice fo 0 fc] 27) ∧ (w2.alloc (.cells #[.string nmA, .bool nu, .int .i64 3, .int .i64 0, .int .i64 0, .int .i64 0, .slice fo 0 fc] 27)).heap[W.heap.size + 1]? = some (.cells #[.string ⟨#[]⟩, .bool false, .int .i64 0, .int .i64 0, .int .i64 0, .int .i64 0, .slice none 0 0] 27) ∧ (setAll (w2.alloc (.cells #[.string nmA, .bool nu, .int .i64 3, .int .i64 0, .int .i64 0, .int .i64 0, .slice fo 0 fc] 27)) (W.heap.size + 1) [(0, .string nmA), (1, .bool nu), (2, .int .i64 3), (3, .int .i64 0), (4, .int .i64 0), (5, .int .i64 0), (6, .slice fo 0 fc)]).heap[W.heap.size + 1]? = some (.cells #[.string nmA, .bool nu, .int .i64 3, .int .i64 0, .int .i64 0, .int .i64 0, .slice fo 0 fc] 27) ∧ Gr W (setAll (w2.alloc (.cells #[.string nmA, .bool nu, .int .i64 3, .int .i64 0, .int .i64 0, .int .i64 0, .slice fo 0 fc] 27)) (W.heap.size + 1) [(0, .string nmA), (1, .bool nu), (2, .int .i64 3), (3, .int .i64 0), (4, .int .i64 0), (5, .int .i64 0), (6, .slice fo 0 fc)])) := by
    intro w2 fo fc g2
    obtain ⟨V, hV⟩ : ∃ V, w2.alloc (.cells #[.string nmA, .bool nu, .int .i64 3, .int .i64 0, .int .i64 0, .int .i64 0, .slice fo 0 fc] 27) = V := ⟨_, rfl⟩
    have g2V : Gr w2 V := by rw [← hV]; exact gr_alloc w2 _
    have hd : V.heap[w2.heap.size]? = some (.cells #[.string nmA, .bool nu, .int .i64 3, .int .i64 0, .int .i64 0, .int .i64 0, .slice fo 0 fc] 27) := by rw [← hV]; exact heap_alloc_new w2 _
    have gAV : Gr A V := (gB.trans g2 (fun _ _ h => h)).trans g2V (fun _ _ h => h)
    have hr := (gAV.block _ (lt_of_heap hb2) id).trans hb2
    rw [hV]
    refine ⟨hd, hr, ?_, (gA.trans gAV (fun _ _ h => h)).trans (setAll_kp _ _ _) (fun j hj e => by have e' : j = W.heap.size + 1 := e; omega)⟩
    rw [setAll_blk (W.heap.size + 1) 27 _ _ _ hr]
    simp [setsA]
  obtain ⟨e0, e1, e2, e3, e4, e5, e6⟩ := cell7 hb1
  clear hT gA hsz hb2 hb1 gB hg hz
  go_enter Tryz.func53, Tryz.ntmps53
  go_wp2_with (go_at_call 36; refine HC.out.mono ?_; rintro e w2 ⟨fo, fc, rfl, g2⟩; have HX := hidM (HT.out w2 fo fc g2); clear g2 hA hB e0 e1 e2 e3 e4 e5 e6; obtain ⟨V, hV⟩ : ∃ V, w2.alloc (.cells #[.string nmA, .bool nu, .int .i64 3, .int .i64 0, .int .i64 0, .int .i64 0, .slice fo 0 fc] 27) = V := ⟨_, rfl⟩; rw [hV] at HX; obtain ⟨U, hU⟩ : ∃ U, setAll V (W.heap.size + 1) [(0, .string nmA), (1, .bool nu), (2, .int .i64 3), (3, .int .i64 0), (4, .int .i64 0), (5, .int .i64 0), (6, .slice fo 0 fc)] = U := ⟨_, rfl⟩; rw [hU] at HX; simp only [setAll] at hU; obtain ⟨e0, e1, e2, e3, e4, e5, e6⟩ := cell7 HX.out.1; obtain ⟨r0, r1, r2, r3, r4, r5, r6⟩ := cell7 HX.out.2.1; have y0 := frz HX.out.2.1 0; have y1 := frz HX.out.2.1 1; have y2 := frz HX.out.2.1 2; have y3 := frz HX.out.2.1 3; have y4 := frz HX.out.2.1 4; have y5 := frz HX.out.2.1 5; have y6 := frz HX.out.2.1 6)
  (try simp only [Exit.inBlock, Exit.then])
  refine bodyPost_ret (results_cell27 rfl rfl (by with_reducible exact HX.out.2.2.1) (by kernel_rfl)) rfl ?_
  exact ⟨fo, fc, rfl, HX.out.2.2.2⟩
/-- a node of array in memory -/
def ndC (nu : Bool) (ao : Option Addr) (ca : Nat) (L N : Int) (bv : Value) : Array Value := #[.string nmA, .bool nu, .int .i64 3, .int .i64 0, .int .i64 0, .int .i64 0, .slice ao 0 ca, .iface 236 (.agg #[.int .i64 1, .bool true]), .int .i64 L, .int .i64 N, .int .i64 0, bv, .slice none 0 0]
/-- a Data with an offset -/
def dCo (L off : Int) (bv : Value) : Array Value := #[.int .i64 L, .int .i64 off, .int .i64 0, bv, .slice none 0 0, .slice none 0 0]
theorem bare45 (nu : Bool) (ao : Option Addr) (ca L N : Nat) (b : Value) (W : World) (hT : Tab W) : Calls Tryz.prog 52 #[.agg #[.string nmA, .bool nu, .int .i64 3, .int .i64 0, .int .i64 0, .int .i64 0, .slice ao 0 ca], .agg (dCo L N b)] W fun e w' => ∃ q, e = .returned (.pointer (some ⟨q, 0, none⟩)) ∧ Gr W w' ∧ W.heap.size ≤ q ∧ w'.heap[q]? = some (.cells (ndC nu ao ca L N (.slice none 0 0)) 108) := by
  obtain ⟨A, hA⟩ : ∃ A, (W.alloc (.cells #[.string nmA, .bool nu, .int .i64 3, .int .i64 0, .int .i64 0, .int .i64 0, .slice ao 0 ca] 27)).alloc (.cells (dCo L N b) 32) = A := ⟨_, rfl⟩
  have gA : Gr W A := by rw [← hA]; exact (gr_alloc W _).trans (gr_alloc _ _) (fun _ _ h => h)
  have hb2 : A.heap[W.heap.size + 1]? = some (.cells (dCo L N b) 32) := by
    have e2 := heap_alloc_new (W.alloc (.cells #[.string nmA, .bool nu, .int .i64 3, .int .i64 0, .int .i64 0, .int .i64 0, .slice ao 0 ca] 27)) (.cells (dCo L N b) 32)
    rw [show (W.alloc (.cells #[.string nmA, .bool nu, .int .i64 3, .int .i64 0, .int .i64 0, .int .i64 0, .slice ao 0 ca] 27)).heap.size = W.heap.size + 1 by simp, hA] at e2
    exact e2
  have hb1 : A.heap[W.heap.size]? = some (.cells #[.string nmA, .bool nu, .int .i64 3, .int .i64 0, .int .i64 0, .int .i64 0, .slice ao 0 ca] 27) := by
    have e1 := heap_alloc_new W (.cells #[.string nmA, .bool nu, .int .i64 3, .int .i64 0, .int .i64 0, .int .i64 0, .slice ao 0 ca] 27)
    rw [← hA]
    exact ((gr_alloc _ _).block _ (lt_of_heap e1) id).trans e1
  have hS : ∀ u, Gr A u → u.cell? ⟨W.heap.size, 0, none⟩ = some (.string nmA) ∧ u.cell? ⟨W.heap.size, 1, none⟩ = some (.bool nu) ∧ u.cell? ⟨W.heap.size, 2, none⟩ = some (.int .i64 3) ∧ u.cell? ⟨W.heap.size, 3, none⟩ = some (.int .i64 0) ∧ u.cell? ⟨W.heap.size, 4, none⟩ = some (.int .i64 0) ∧ u.cell? ⟨W.heap.size, 5, none⟩ = some (.int .i64 0) ∧ u.cell? ⟨W.heap.size, 6, none⟩ = some (.slice ao 0 ca) ∧ u.cell? ⟨W.heap.size + 1, 0, none⟩ = some (.int .i64 L) ∧ u.cell? ⟨W.heap.size + 1, 1, none⟩ = some (.int .i64 N) ∧ u.cell? ⟨W.heap.size + 1, 2, none⟩ = some (.int .i64 0) := fun u g => by
    obtain ⟨a0, a1, a2, a3, a4, a5, a6⟩ := cell7 ((g.block _ (lt_of_heap hb1) id).trans hb1)
    obtain ⟨d0, d1, d2, -⟩ := cell6 ((g.block _ (lt_of_heap hb2) id).trans hb2)
    exact ⟨a0, a1, a2, a3, a4, a5, a6, d0, d1, d2⟩
  have HS := hidM hS
  have HS0 := hidM (hS A.drew gr_drew)
  have HG := hidM gA
  have HT := hidM (hT.gr gA)
  clear hT gA hb1 hb2 hS
  unfold dCo at hA ⊢
  go_enter Tryz.func52, Tryz.ntmps52
  go_wp2_with fail
  go_region_held3 (fun u => u.cell? ⟨W.heap.size, 0, none⟩ = some (.string nmA) ∧ u.cell? ⟨W.heap.size, 1, none⟩ = some (.bool nu) ∧ u.cell? ⟨W.heap.size, 2, none⟩ = some (.int .i64 3) ∧ u.cell? ⟨W.heap.size, 3, none⟩ = some (.int .i64 0) ∧ u.cell? ⟨W.heap.size, 4, none⟩ = some (.int .i64 0) ∧ u.cell? ⟨W.heap.size, 5, none⟩ = some (.int .i64 0) ∧ u.cell? ⟨W.heap.size, 6, none⟩ = some (.slice ao 0 ca) ∧ u.cell? ⟨W.heap.size + 1, 0, none⟩ = some (.int .i64 L) ∧ u.cell? ⟨W.heap.size + 1, 1, none⟩ = some (.int .i64 N) ∧ u.cell? ⟨W.heap.size + 1, 2, none⟩ = some (.int .i64 0)) (first | with_reducible exact HS0.out | with_reducible exact HS1.out | exact HS2.out _) ((go_at_call 75; refine (familyOf62 ao ca _ (HT.out.gr gr_drew)).mono ?_; rintro e w1 ⟨rfl, g1⟩; have HG1 : Hid (Gr A w1) := Keeps.trans gr_drew g1 (fun _ _ h => h); have HS1 := hidM (HS.out w1 HG1.out); have HS2 : Hid (∀ o, (w1.alloc o).cell? ⟨W.heap.size, 0, none⟩ = some (.string nmA) ∧ (w1.alloc o).cell? ⟨W.heap.size, 1, none⟩ = some (.bool nu) ∧ (w1.alloc o).cell? ⟨W.heap.size, 2, none⟩ = some (.int .i64 3) ∧ (w1.alloc o).cell? ⟨W.heap.size, 3, none⟩ = some (.int .i64 0) ∧ (w1.alloc o).cell? ⟨W.heap.size, 4, none⟩ = some (.int .i64 0) ∧ (w1.alloc o).cell? ⟨W.heap.size, 5, none⟩ = some (.int .i64 0) ∧ (w1.alloc o).cell? ⟨W.heap.size, 6, none⟩ = some (.slice ao 0 ca) ∧ (w1.alloc o).cell? ⟨W.heap.size + 1, 0, none⟩ = some (.int .i64 L) ∧ (w1.alloc o).cell? ⟨W.heap.size + 1, 1, none⟩ = some (.int .i64 N) ∧ (w1.alloc o).cell? ⟨W.heap.size + 1, 2, none⟩ = some (.int .i64 0)) := fun o => HS.out _ (HG1.out.alloc o); clear g1))
  go_wp2_with fail
  go_ret
  have h1 := HG.out.size
  have h2 := HG1.out.size
  exact ⟨_, rfl, (HG.out.trans HG1.out (fun _ _ h => h)).alloc _, by omega, heap_alloc_new _ _⟩
theorem tooMany66 (r n c : Nat) (W : World) (h : ∀ k, k < n → ∃ (o : Option Addr) (l cc : Nat), W.cell? ⟨r, k, none⟩ = some (.slice o l cc) ∧ l ≤ 65536) (hn : n ≤ 1000) :
    Calls Tryz.prog 79 #[.slice (some ⟨r, 0, none⟩) n c] W fun e w' => e = .returned (.tuple #[.int .i64 0, .int .i64 0]) ∧ w' = W := by
  have H := hidM h
  clear h
  go_enter Tryz.func79, Tryz.ntmps79
  go_wp2_with fail
  go_loopw [8] (fun i wr => ∃ k : Nat, k ≤ n ∧ i = .int .i64 k ∧ wr = W) (fun i _ => n - (intOf i).toNat)
  case atStart => exact ⟨0, by omega, rfl, rfl⟩
  case round =>
    obtain ⟨k, hk, rfl, rfl⟩ := hrel
    by_cases hlt : k < n
    · obtain ⟨o, l, cc, c1, hl⟩ := H.out k hlt
      have hl' : ¬ ((65536 : Int) < (l : Int)) := by omega
      go_wp2_with fail
      go_roundw
      case rel => exact ⟨k + 1, by omega, by go_num, trivial⟩
      case measure => simp [intOf]; omega
    · obtain rfl : k = n := by omega
      go_wp2_with fail
      go_ret2
      exact ⟨rfl, rfl⟩
theorem results_tmp3' {fn : Func} {t u v : Tmp} (h : fn.results = #[.tmp t, .tmp u, .tmp v]) (tmps : Array Value) (P : Program) (w : World) :
    (results fn tmps).run P w = .ok (.tuple #[tmps.getD t undef, tmps.getD u undef, tmps.getD v undef]) w := by
  simp [results, h]
theorem shape91 (ao : Option Addr) (ca : Nat) (W : World) (hT : Tab W) : Calls Tryz.prog 99 #[.agg #[.int .i64 3, .int .i64 0, .int .i64 0, .int .i64 0, .slice ao 0 ca]] W fun e w' => e = .returned (.tuple #[.int .i64 2, .int .i64 0, .int .i64 0]) ∧ Gr W w' := by
  obtain ⟨A, hA⟩ : ∃ A, W.alloc (.cells #[.int .i64 3, .int .i64 0, .int .i64 0, .int .i64 0, .slice ao 0 ca] 25) = A := ⟨_, rfl⟩
  have gA : Gr W A := by rw [← hA]; exact gr_alloc W _
  have hb : A.heap[W.heap.size]? = some (.cells #[.int .i64 3, .int .i64 0, .int .i64 0, .int .i64 0, .slice ao 0 ca] 25) := by rw [← hA]; exact heap_alloc_new W _
  have hS : ∀ u, Gr A u → u.cell? ⟨W.heap.size, 0, none⟩ = some (.int .i64 3) ∧ u.cell? ⟨W.heap.size, 4, none⟩ = some (.slice ao 0 ca) ∧ u.cell? ⟨0, 17, none⟩ = some (.int .i64 2) := fun u g => by
    obtain ⟨p0, -, -, -, p4⟩ := cell5 ((g.block _ (lt_of_heap hb) id).trans hb)
    exact ⟨p0, p4, ((hT.gr (gA.trans g (fun _ _ h => h))).2 3 (by decide)).c2⟩
  obtain ⟨e0, e1, e2, e3, e4⟩ := cell5 hb
  have HS := hidM hS
  have HG := hidM gA
  have HT := hidM (hT.gr gA)
  clear gA hb hS hT
  go_enter Tryz.func99, Tryz.ntmps99
  go_wp2_with (go_at_call 118; refine (typeMayBe83 ao ca _ HT.out).mono ?_; rintro e w1 ⟨rfl, g1⟩; have HG1 := hidM g1; have HS0 := hidM (HS.out w1.drew (g1.trans gr_drew (fun _ _ h => h))); clear g1 hA e0 e1 e2 e3 e4)
  go_region_held3 (fun u => u.cell? ⟨W.heap.size, 0, none⟩ = some (.int .i64 3) ∧ u.cell? ⟨W.heap.size, 4, none⟩ = some (.slice ao 0 ca) ∧ u.cell? ⟨0, 17, none⟩ = some (.int .i64 2)) (with_reducible exact HS0.out) (fail)
  obtain ⟨f0, f4, -⟩ := HS0.out
  go_wp2_with fail
  (try simp only [Exit.inBlock, Exit.then])
  refine bodyPost_ret (results_tmp3' rfl _ _ _) rfl ?_
  exact ⟨rfl, (HG.out.trans HG1.out (fun _ _ h => h)).trans gr_drew (fun _ _ h => h)⟩
theorem sum92 (z c a b : Nat) (W : World) (h0 : W.cell? ⟨z, 0, none⟩ = some (.int .i64 a)) (h1 : W.cell? ⟨z, 1, none⟩ = some (.int .i64 b)) (ha : a ≤ 1000000) (hb : b ≤ 1000000) :
    Calls Tryz.prog 100 #[.slice (some ⟨z, 0, none⟩) 2 c] W fun e w' => e = .returned (.tuple #[.int .i64 ((a + b : Nat) : Int), .bool true]) ∧ w' = W := by
  have H0 := hidM h0
  have H1 := hidM h1
  clear h0 h1
  go_enter Tryz.func100, Tryz.ntmps100
  go_wp2_with fail
  go_loopw [9, 4] (fun i s wr => ∃ k : Nat, k ≤ 2 ∧ i = .int .i64 k ∧ s = .int .i64 (if k = 0 then ((0 : Nat) : Int) else if k = 1 then (a : Int) else ((a + b : Nat) : Int)) ∧ wr = W) (fun i _ _ => 2 - (intOf i).toNat)
  case atStart => exact ⟨0, by omega, rfl, rfl, rfl⟩
  case round =>
    obtain ⟨k, hk, rfl, rfl, rfl⟩ := hrel
    have hk3 : k = 0 ∨ k = 1 ∨ k = 2 := by omega
    rcases hk3 with rfl | rfl | rfl
    · have c0 := H0.out
      have w0 : ¬ ((a : Int) < 0) := by omega
      have w1 : ¬ ((9223372036854775807 : Int) < (a : Int)) := by omega
      simp only [if_pos rfl]
      go_wp2_with fail
      go_roundw
      case rel => exact ⟨1, by omega, by go_num, by simp; try (rw [IntKind.wrap_i64]; omega), trivial⟩
      case measure => simp [intOf]
    · have c0 := H1.out
      have w0 : ¬ ((b : Int) < 0) := by omega
      have wr1 : IntKind.i64.wrap (9223372036854775807 - (a : Int)) = 9223372036854775807 - (a : Int) := by rw [IntKind.wrap_i64]; omega
      have w1 : ¬ ((9223372036854775807 : Int) - (a : Int) < (b : Int)) := by omega
      have wr2 : IntKind.i64.wrap ((a : Int) + (b : Int)) = ((a + b : Nat) : Int) := by rw [IntKind.wrap_i64]; omega
      go_wp2_with fail
      go_roundw
      case rel => exact ⟨2, by omega, by go_num, by simp, trivial⟩
      case measure => simp [intOf]
    · go_wp2_with fail
      go_ret2
      exact ⟨by simp, rfl⟩
theorem wrongShape64 (ao : Option Addr) (ca L N : Nat) (bo : Option Addr) (bc : Nat) (W : World) (hT : Tab W) : Calls Tryz.prog 77 #[.agg #[.int .i64 3, .int .i64 0, .int .i64 0, .int .i64 0, .slice ao 0 ca], .agg (dCo L N (.slice bo 2 bc))] W fun e w' => e = .returned (.int .i64 0) ∧ Gr W w' := by
  obtain ⟨A, hA⟩ : ∃ A, (W.alloc (.cells #[.int .i64 3, .int .i64 0, .int .i64 0, .int .i64 0, .slice ao 0 ca] 25)).alloc (.cells (dCo L N (.slice bo 2 bc)) 32) = A := ⟨_, rfl⟩
  have gA : Gr W A := by rw [← hA]; exact (gr_alloc W _).trans (gr_alloc _ _) (fun _ _ h => h)
  have hb2 : A.heap[W.heap.size + 1]? = some (.cells (dCo L N (.slice bo 2 bc)) 32) := by
    have e2 := heap_alloc_new (W.alloc (.cells #[.int .i64 3, .int .i64 0, .int .i64 0, .int .i64 0, .slice ao 0 ca] 25)) (.cells (dCo L N (.slice bo 2 bc)) 32)
    rw [show (W.alloc (.cells #[.int .i64 3, .int .i64 0, .int .i64 0, .int .i64 0, .slice ao 0 ca] 25)).heap.size = W.heap.size + 1 by simp, hA] at e2
    exact e2
  have hb1 : A.heap[W.heap.size]? = some (.cells #[.int .i64 3, .int .i64 0, .int .i64 0, .int .i64 0, .slice ao 0 ca] 25) := by
    have e1 := heap_alloc_new W (.cells #[.int .i64 3, .int .i64 0, .int .i64 0, .int .i64 0, .slice ao 0 ca] 25)
    rw [← hA]
    exact ((gr_alloc _ _).block _ (lt_of_heap e1) id).trans e1
  obtain ⟨e0, e1, e2, e3, e4⟩ := cell5 hb1
  have HB2 := hidM hb2
  have HG := hidM gA
  have HT := hidM (hT.gr gA)
  clear gA hb1 hb2 hT
  unfold dCo at hA ⊢
  go_enter Tryz.func77, Tryz.ntmps77
  go_wp2_with (go_at_call 99; refine (shape91 ao ca _ HT.out).mono ?_; rintro e w1 ⟨rfl, g1⟩; have HG1 := hidM g1; obtain ⟨d0, d1, d2, d3, d4, d5⟩ := cell6 ((g1.block _ (lt_of_heap HB2.out) id).trans HB2.out); clear g1 hA e0 e1 e2 e3 e4)
  go_ret
  exact ⟨rfl, HG.out.trans HG1.out (fun _ _ h => h)⟩
theorem cellN {W : World} {q : Nat} {nu : Bool} {ao : Option Addr} {ca : Nat} {L N : Int} {bv : Value} (h : W.heap[q]? = some (.cells (ndC nu ao ca L N bv) 108)) : W.cell? ⟨q, 8, none⟩ = some (.int .i64 L) ∧ W.cell? ⟨q, 9, none⟩ = some (.int .i64 N) ∧ W.cell? ⟨q, 10, none⟩ = some (.int .i64 0) := by
  refine ⟨?_, ?_, ?_⟩ <;> simp [World.cell?, h, ndC]
theorem wrongNumbers65 (q : Nat) (nu : Bool) (ao : Option Addr) (ca L N : Nat) (bv : Value) (W : World) (h : W.heap[q]? = some (.cells (ndC nu ao ca L N bv) 108)) (hL : L ≤ 2000) (hN : N ≤ 2000) : Calls Tryz.prog 78 #[.pointer (some ⟨q, 0, none⟩)] W fun e w' => e = .returned (.int .i64 0) ∧ Gr W w' := by
  have hS : ∀ u, Gr W u → u.cell? ⟨q, 8, none⟩ = some (.int .i64 L) ∧ u.cell? ⟨q, 9, none⟩ = some (.int .i64 N) ∧ u.cell? ⟨q, 10, none⟩ = some (.int .i64 0) := fun u g => cellN ((g.block _ (lt_of_heap h) id).trans h)
  have HS := hidM hS
  have HS0 := hidM (hS W.drew gr_drew)
  have b1 : ¬ ((L : Int) < 0) := by omega
  have b2 : ¬ ((N : Int) < 0) := by omega
  have b4 : ¬ ((4096 : Int) < ((L + N : Nat) : Int)) := by omega
  have gdd : Gr W W.drew.drew := Keeps.trans gr_drew gr_drew (fun _ _ h => h)
  have HS1 := hidM (hS W.drew.drew gdd)
  have HS2 : Hid (∀ o, (W.drew.drew.alloc o).cell? ⟨q, 8, none⟩ = some (.int .i64 L) ∧ (W.drew.drew.alloc o).cell? ⟨q, 9, none⟩ = some (.int .i64 N) ∧ (W.drew.drew.alloc o).cell? ⟨q, 10, none⟩ = some (.int .i64 0)) := fun o => hS _ (gdd.alloc o)
  have HGd := hidM gdd
  have HC : Hid (Calls Tryz.prog 100 #[.slice (some ⟨W.drew.drew.heap.size, 0, none⟩) 2 2] (W.drew.drew.alloc (.cells #[.int .i64 L, .int .i64 N] 3)) fun e w' => e = .returned (.tuple #[.int .i64 ((L + N : Nat) : Int), .bool true]) ∧ w' = W.drew.drew.alloc (.cells #[.int .i64 L, .int .i64 N] 3)) := by
    have hh := heap_alloc_new W.drew.drew (.cells #[.int .i64 L, .int .i64 N] 3)
    obtain ⟨z0, z1⟩ := cell2 hh
    have h := sum92 W.drew.drew.heap.size 2 L N _ z0 z1 (by omega) (by omega)
    exact h
  clear h hS gdd
  go_enter Tryz.func78, Tryz.ntmps78
  go_wp2_with fail
  go_region_held3 (fun u => u.cell? ⟨q, 8, none⟩ = some (.int .i64 L) ∧ u.cell? ⟨q, 9, none⟩ = some (.int .i64 N) ∧ u.cell? ⟨q, 10, none⟩ = some (.int .i64 0)) (with_reducible exact HS0.out) (fail)
  go_wp2_with fail
  go_region_held3 (fun u => u.cell? ⟨q, 8, none⟩ = some (.int .i64 L) ∧ u.cell? ⟨q, 9, none⟩ = some (.int .i64 N) ∧ u.cell? ⟨q, 10, none⟩ = some (.int .i64 0)) (first | with_reducible exact HS1.out | exact HS2.out _) ((go_at_call 100; refine HC.out.mono ?_; rintro e w2 ⟨rfl, rfl⟩))
  go_wp2_with fail
  go_ret
  exact ⟨rfl, HGd.out.alloc _⟩
end Go.Proofs.YtegjpmodleigeaaGreatDoor.Kit
