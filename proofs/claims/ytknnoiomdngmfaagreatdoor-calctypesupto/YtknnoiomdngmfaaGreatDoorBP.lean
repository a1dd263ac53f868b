import Derived.Test.YtknnoiomdngmfaaGreatDoorWF
import Derived.Test.YtknnoiomdngmfaaGreatDoorND
import Derived.Deep.RegionHeld3
import Derived.Test.YtknnoiomdngmfaaGreatDoorLQ
import Derived.Deep.AppendSrc
set_option maxRecDepth 100000
set_option maxHeartbeats 4000000
namespace Go.Proofs.YtknnoiomdngmfaaGreatDoor.Kit
open Go.RowKit Go.Shelf Go.Deep
set_option linter.unusedVariables false
set_option linter.unusedSimpArgs false
def nmA : ByteArray := ⟨#[97]⟩
theorem allR (nu : Bool) : AllR (nodes (0 + 1) [leafF nmA nu 3] [] false) := by
  intro k hk
  have : k = 0 := by simp [nodes] at hk; omega
  subst this
  show wrongE ⟨[leafF nmA nu 3], [0], false⟩ 0 (tkL []) = 0
  cases nu <;> kernel_rfl
theorem row_leaf {W : World} {S : Nat → Prop} {g : Nat} {nu : Bool} {ao : Option Addr} {ca : Nat} (hS : S g) (h : W.heap[g]? = some (.cells #[.string nmA, .bool nu, .int .i64 3, .int .i64 0, .int .i64 0, .int .i64 0, .slice ao 0 ca] 26)) : RowAt S W 1 (some ⟨g, 0, none⟩) [leafF nmA nu 3] := by
  refine ⟨by show (1 : Nat) ≤ big; decide, fun _ => ⟨g, 0, rfl, hS, fun i hi => ?_⟩⟩
  obtain rfl : i = 0 := by simpa using hi
  refine ⟨ao, ca, ?_, Nat.zero_le _, rfl⟩
  constructor <;> simp [World.cell?, h, leafF, FT.name, FT.nul, FT.kind, FT.width, FT.id, FT.index, FT.kids]
theorem alone_may {w : World} {g : Nat} {nu : Bool} {ao : Option Addr} {ca : Nat} (hT : Tab w) (h : w.heap[g]? = some (.cells #[.string nmA, .bool nu, .int .i64 3, .int .i64 0, .int .i64 0, .int .i64 0, .slice ao 0 ca] 26)) : Ans 32 #[.agg #[.slice (some ⟨g, 0, none⟩) 1 1, .slice none 0 0]] true w := by
  have hlt := lt_of_heap h
  have hn : NotesAt w none [] := ⟨by decide, fun e => absurd rfl e⟩
  have hF : FaultIs (listsE 1 []) (nodes 1 [leafF nmA nu 3] [] false) 0 [] 0 := .inr (.inl ⟨by decide, allR nu, rfl, rfl, rfl⟩)
  have ht : Tells w 44 (.agg #[.slice (some ⟨g, 0, none⟩) 1 1, .slice none 0 0]) 0 [] 0 := fun W gr => by
    refine Calls.mono (check_fault (S := fun b => b = g) (D := 1) (fo := some ⟨g, 0, none⟩) (no := none) (cf := 1) (cn := 0) (fs := [leafF nmA nu 3]) (ns := []) hT (row_leaf rfl h) (Nat.le_refl _) (by decide) (fun b hb => by rw [hb]; exact hlt) hn W gr) ?_
    rintro e w' ⟨er, vo, vn, vc, tt, rfl, hg, p, hp, h2, h3⟩
    obtain ⟨rfl, rfl, rfl⟩ := hF.one h2
    obtain rfl : 0 = vn := hp
    exact ⟨vo, vc, rfl, hg, fun hne => absurd rfl hne⟩
  have := maybe_gen ht
  exact this
theorem asField113 (ao : Option Addr) (ca : Nat) (W : World) : Calls Tryz.prog 109 #[.agg #[.int .i64 3, .int .i64 0, .int .i64 0, .int .i64 0, .slice ao 0 ca]] W fun e w' => e = .returned (.agg #[.string nmA, .bool false, .int .i64 3, .int .i64 0, .int .i64 0, .int .i64 0, .slice ao 0 ca]) ∧ Gr W w' := by
  go_enter Tryz.func109, Tryz.ntmps109
  go_wp2
  refine bodyPost_ret (v := .agg #[.string nmA, .bool false, .int .i64 3, .int .i64 0, .int .i64 0, .int .i64 0, .slice ao 0 ca]) ?_ rfl ⟨rfl, ((Keeps.refl W _).alloc _).alloc _⟩
  simp [results, Tryz.f109, go_sem, nmA]
theorem fieldMayBe112 (nu : Bool) (ao : Option Addr) (ca : Nat) (W : World) (hT : Tab W) : Calls Tryz.prog 108 #[.agg #[.string nmA, .bool nu, .int .i64 3, .int .i64 0, .int .i64 0, .int .i64 0, .slice ao 0 ca]] W fun e w' => e = .returned (.bool true) ∧ Gr W w' := by
  have HT := hidM hT
  clear hT
  have HA := hidM (gr_alloc W (.cells #[.string nmA, .bool nu, .int .i64 3, .int .i64 0, .int .i64 0, .int .i64 0, .slice ao 0 ca] 26))
  go_enter Tryz.func108, Tryz.ntmps108
  go_wp2_with (first
    | (go_at_call 45; refine (alone_any nmA nu 3 0 0 0 ao 0 ca _).mono ?_; rintro e w1 ⟨g, rfl, g1, hg, hb⟩; have HG1 := hidM (HA.out.tr g1); have HB := hidM hb; clear g1 hb hg)
    | (go_at_call 32; refine Calls.mono ((alone_may (HT.out.gr HG1.out) HB.out) _ (Keeps.refl _ _)) ?_; rintro e w2 ⟨rfl, g2⟩; have HG2 := hidM (HG1.out.tr g2); clear g2))
  go_ret
  exact ⟨rfl, HG2.out⟩
theorem typeMayBe83 (ao : Option Addr) (ca : Nat) (W : World) (hT : Tab W) : Calls Tryz.prog 74 #[.agg #[.int .i64 3, .int .i64 0, .int .i64 0, .int .i64 0, .slice ao 0 ca]] W fun e w' => e = .returned (.bool true) ∧ Gr W w' := by
  have HT := hidM hT
  clear hT
  have HA := hidM (gr_alloc W (.cells #[.int .i64 3, .int .i64 0, .int .i64 0, .int .i64 0, .slice ao 0 ca] 24))
  go_enter Tryz.func74, Tryz.ntmps74
  go_wp2_with (first
    | (go_at_call 109; refine (asField113 ao ca _).mono ?_; rintro e w1 ⟨rfl, g1⟩; have HG1 := hidM (HA.out.tr g1); clear g1)
    | (go_at_call 108; refine (fieldMayBe112 false ao ca _ (HT.out.gr HG1.out)).mono ?_; rintro e w2 ⟨rfl, g2⟩; have HG2 := hidM (HG1.out.tr g2); clear g2))
  go_ret
  exact ⟨rfl, HG2.out⟩
theorem width56 (ao : Option Addr) (ca : Nat) (W : World) (hT : Tab W) : Calls Tryz.prog 249 #[.agg #[.int .i64 3, .int .i64 0, .int .i64 0, .int .i64 0, .slice ao 0 ca]] W fun e w' => e = .returned (.int .i64 1) ∧ Gr W w' := by
  have HT := hidM hT
  clear hT
  have HA := hidM (gr_alloc W (.cells #[.int .i64 3, .int .i64 0, .int .i64 0, .int .i64 0, .slice ao 0 ca] 24))
  have HB := hidM (heap_alloc_new W (.cells #[.int .i64 3, .int .i64 0, .int .i64 0, .int .i64 0, .slice ao 0 ca] 24))
  go_enter Tryz.func249, Tryz.ntmps249
  go_wp2_with (go_at_call 74; refine (typeMayBe83 ao ca _ (HT.out.gr HA.out)).mono ?_; rintro e w1 ⟨rfl, g1⟩; have HG1 := hidM (HA.out.tr g1); obtain ⟨p0, p1, p2, p3, p4⟩ := cell5 ((g1.block _ (lt_of_heap HB.out) id).trans HB.out); have t1 := ((HT.out.gr HG1.out).2 3 (by decide)).c1; simp only [show bytesK 3 = 1 from rfl] at t1; clear g1)
  go_ret
  exact ⟨rfl, HG1.out⟩
theorem newNumbers40 (ao : Option Addr) (ca : Nat) (W : World) (hT : Tab W) : Calls Tryz.prog 240 #[.agg #[.int .i64 3, .int .i64 0, .int .i64 0, .int .i64 0, .slice ao 0 ca]] W fun e w' => ∃ m, e = .returned (.pointer (some ⟨m, 0, none⟩)) ∧ Gr W w' ∧ W.heap.size ≤ m ∧ w'.heap[m]? = some (.cells #[.int .i64 1, .slice none 0 0] 344) := by
  have HT := hidM hT
  clear hT
  have HA := hidM (gr_alloc W (.cells #[.int .i64 3, .int .i64 0, .int .i64 0, .int .i64 0, .slice ao 0 ca] 24))
  go_enter Tryz.func240, Tryz.ntmps240
  go_wp2_with (go_at_call 249; refine (width56 ao ca _ (HT.out.gr HA.out)).mono ?_; rintro e w1 ⟨rfl, g1⟩; have HG1 := hidM (HA.out.tr g1); clear g1)
  go_ret
  exact ⟨_, rfl, HG1.out.alloc _, HG1.out.size, heap_alloc_new _ _⟩
theorem info61b : (Tryz.prog.info? 146).map (fun i => (i.zero, i.size, i.bytes)) = some (some (.pointer none), 1, 8) := by kernel_rfl
theorem newNodes38 (ao : Option Addr) (ca : Nat) (t : Value) (W : World) : Calls Tryz.prog 238 #[.slice ao 0 ca, t] W fun e w' => ∃ lo lc, e = .returned (.slice lo 0 lc) ∧ Gr W w' := by
  have hmk : ∀ w : World, (Instr.makeSlice 249 (.int .i64 0) (.int .i64 0)).run Tryz.prog w = .ok (.slice (some ⟨w.heap.size, 0, none⟩) 0 0) (w.alloc (.cells (madeCells #[.pointer none] 0) 146)) := fun w => run_make_row' (P := Tryz.prog) 249 146 (.pointer none) 8 Tryz.underlying249 info61b rfl .i64 .i64 0 (by omega) (by omega) w
  have HG := hidM (gr_alloc W (.cells (madeCells #[.pointer none] 0) 146))
  go_enter Tryz.func238, Tryz.ntmps238
  go_wp2
  go_loopw [13] (fun i wr => i = .int .i64 0 ∧ Hid (Gr W wr)) (fun _ _ => 0)
  case atStart => exact ⟨rfl, HG⟩
  case round =>
    clear HG hmk
    obtain ⟨rfl, HG⟩ := hrel
    go_wp2
    go_ret
    exact ⟨_, _, rfl, HG.out⟩
theorem newMaker27 (ao : Option Addr) (ca : Nat) (t : Value) (W : World) (hT : Tab W) : Calls Tryz.prog 155 #[.agg #[.int .i64 3, .int .i64 0, .int .i64 0, .int .i64 0, .slice ao 0 ca], t] W fun e w' => ∃ m, e = .returned (.iface 282 (.pointer (some ⟨m, 0, none⟩))) ∧ Gr W w' ∧ W.heap.size ≤ m ∧ w'.heap[m]? = some (.cells #[.int .i64 1, .slice none 0 0] 344) := by
  have HT := hidM hT
  clear hT
  have HA := hidM (gr_alloc W (.cells #[.int .i64 3, .int .i64 0, .int .i64 0, .int .i64 0, .slice ao 0 ca] 24))
  have HB := hidM (heap_alloc_new W (.cells #[.int .i64 3, .int .i64 0, .int .i64 0, .int .i64 0, .slice ao 0 ca] 24))
  obtain ⟨p0, p1, p2, p3, p4⟩ := cell5 HB.out
  go_enter Tryz.func155, Tryz.ntmps155
  go_wp2_with (first
    | (go_at_call 238; refine (newNodes38 ao ca t _).mono ?_; rintro e w1 ⟨lo, lc, rfl, g1⟩; have HG1 := hidM (HA.out.tr g1); clear p0 p1 p2 p3 p4; obtain ⟨p0, p1, p2, p3, p4⟩ := cell5 ((g1.block _ (lt_of_heap HB.out) id).trans HB.out); clear g1)
    | (go_at_call 240; refine (newNumbers40 ao ca _ (HT.out.gr HG1.out)).mono ?_; rintro e w2 ⟨m, rfl, g2, hm, hb⟩; have HG2 := hidM (HG1.out.tr g2); have HM := hidM (Nat.le_trans HG1.out.size hm); have HB2 := hidM hb; clear g2 hm hb))
  go_ret
  exact ⟨_, rfl, HG2.out, HM.out, HB2.out⟩
theorem newNode14 (nu : Bool) (ao : Option Addr) (ca : Nat) (t : Nat) (W : World) (hT : Tab W) : Calls Tryz.prog 99 #[.agg #[.string nmA, .bool nu, .int .i64 3, .int .i64 0, .int .i64 0, .int .i64 0, .slice ao 0 ca], .pointer (some ⟨t, 0, none⟩)] W fun e w' => ∃ n m, e = .returned (.pointer (some ⟨n, 0, none⟩)) ∧ Gr W w' ∧ W.heap.size ≤ n ∧ W.heap.size ≤ m ∧ w'.heap[n]? = some (.cells #[.bool nu, .iface 282 (.pointer (some ⟨m, 0, none⟩)), .pointer (some ⟨t, 0, none⟩), .int .i64 0, .slice none 0 0, .int .i64 0] 212) ∧ w'.heap[m]? = some (.cells #[.int .i64 1, .slice none 0 0] 344) := by
  have HT := hidM hT
  clear hT
  obtain ⟨A, hA⟩ := ex (W.alloc (.cells #[.string nmA, .bool nu, .int .i64 3, .int .i64 0, .int .i64 0, .int .i64 0, .slice ao 0 ca] 26))
  have HA : Hid (Gr W A) := by rw [← hA]; exact gr_alloc W _
  have hb := al_new hA
  have HS : Hid (∀ u, Gr A u → u.cell? ⟨W.heap.size, 1, none⟩ = some (.bool nu) ∧ u.cell? ⟨W.heap.size, 2, none⟩ = some (.int .i64 3) ∧ u.cell? ⟨W.heap.size, 3, none⟩ = some (.int .i64 0) ∧ u.cell? ⟨W.heap.size, 4, none⟩ = some (.int .i64 0) ∧ u.cell? ⟨W.heap.size, 5, none⟩ = some (.int .i64 0) ∧ u.cell? ⟨W.heap.size, 6, none⟩ = some (.slice ao 0 ca)) := fun u hk => by
    have h := (hk.block _ (lt_of_heap hb) id).trans hb
    simp [World.cell?, h]
  have HS0 := hidM (HS.out A.drew gr_drew)
  clear hb
  go_enter Tryz.func99, Tryz.ntmps99
  go_wp2_with fail
  go_region_held3 (fun w' => w'.cell? ⟨W.heap.size, 1, none⟩ = some (.bool nu) ∧ w'.cell? ⟨W.heap.size, 2, none⟩ = some (.int .i64 3) ∧ w'.cell? ⟨W.heap.size, 3, none⟩ = some (.int .i64 0) ∧ w'.cell? ⟨W.heap.size, 4, none⟩ = some (.int .i64 0) ∧ w'.cell? ⟨W.heap.size, 5, none⟩ = some (.int .i64 0) ∧ w'.cell? ⟨W.heap.size, 6, none⟩ = some (.slice ao 0 ca)) (first | with_reducible exact HS0.out | with_reducible exact HS1.out | exact HS2.out _) ((go_at_call 155; refine (newMaker27 ao ca (.pointer (some ⟨t, 0, none⟩)) _ (HT.out.gr (HA.out.tr gr_drew))).mono ?_; rintro e w1 ⟨m, rfl, g1, hm, hbm⟩; have HG1 : Hid (Gr A w1) := Keeps.trans gr_drew g1 (fun _ _ h => h); have HM : Hid (A.heap.size ≤ m) := hm; have HBM := hidM hbm; have HS1 := hidM (HS.out w1 HG1.out); have HS2 : Hid (∀ o, (w1.alloc o).cell? ⟨W.heap.size, 1, none⟩ = some (.bool nu) ∧ (w1.alloc o).cell? ⟨W.heap.size, 2, none⟩ = some (.int .i64 3) ∧ (w1.alloc o).cell? ⟨W.heap.size, 3, none⟩ = some (.int .i64 0) ∧ (w1.alloc o).cell? ⟨W.heap.size, 4, none⟩ = some (.int .i64 0) ∧ (w1.alloc o).cell? ⟨W.heap.size, 5, none⟩ = some (.int .i64 0) ∧ (w1.alloc o).cell? ⟨W.heap.size, 6, none⟩ = some (.slice ao 0 ca)) := fun o => HS.out _ (HG1.out.alloc o); clear g1 hm hbm))
  go_wp2_with fail
  go_ret
  have hs := HA.out.size
  exact ⟨_, m, rfl, (HA.out.tr HG1.out).alloc _, Nat.le_trans hs HG1.out.size, Nat.le_trans hs HM.out, heap_alloc_new _ _, ((gr_alloc _ _).block _ (lt_of_heap HBM.out) id).trans HBM.out⟩
structure Bd (W : World) (p n m t : Nat) (nu : Bool) (fo : Option Addr) (fc : Nat) (rows wt : Int) (vv lv : Value) : Prop where
  hp : W.heap[p]? = some (.cells #[.string nmA, .bool nu, .int .i64 3, .int .i64 0, .int .i64 0, .int .i64 0, .slice fo 0 fc, .pointer (some ⟨n, 0, none⟩), .pointer (some ⟨t, 0, none⟩), .int .i64 rows] 149)
  hn : W.heap[n]? = some (.cells #[.bool nu, .iface 282 (.pointer (some ⟨m, 0, none⟩)), .pointer (some ⟨t, 0, none⟩), .int .i64 0, vv, .int .i64 wt] 212)
  hm : W.heap[m]? = some (.cells #[.int .i64 1, lv] 344)
  ht : W.heap[t]? = some (.cells #[.int .i64 0, .slice none 0 0] 145)
theorem at13 (nu : Bool) (ao : Option Addr) (ca : Nat) (g z : Nat) (w : World) (hT : Tab w) (hg : w.heap[g]? = some (.cells #[.string nmA, .bool nu, .int .i64 3, .int .i64 0, .int .i64 0, .int .i64 0, .slice ao 0 ca] 26)) (hz : w.cell? ⟨z, 0, none⟩ = some (.int .i64 0)) :
    Calls Tryz.prog 14 #[.agg #[.slice (some ⟨g, 0, none⟩) 1 1, .slice none 0 0], .slice (some ⟨z, 0, none⟩) 1 1] w fun e w' => ∃ fo fc, e = .returned (.tuple #[.agg #[.string nmA, .bool nu, .int .i64 3, .int .i64 0, .int .i64 0, .int .i64 0, .slice fo 0 fc], .int .i64 0]) ∧ Gr w w' := by
  have hlt := lt_of_heap hg
  have h := at_gen (S := fun b => b = g) (D := 1) (fo := some ⟨g, 0, none⟩) (no := none) (po := some ⟨z, 0, none⟩) (cf := 1) (nn := 0) (cn := 0) (pc := 1) (fs := [leafF nmA nu 3]) (path := [0]) (er := 0) (alone_may hT hg) (row_leaf rfl hg) (Nat.le_refl _) (fun b hb => by rw [hb]; exact hlt)
    (fun _ => ⟨z, 0, rfl, fun j hj => by obtain rfl : j = 0 := by simpa using hj
                                         exact hz⟩) (by decide) w (Keeps.refl _ _)
  refine Calls.mono h ?_
  have e : atR 0 [leafF nmA nu 3] [0] = (0, leafF nmA nu 3) := rfl
  rw [e]
  rintro e w' ⟨vo, vc, he, hgr, -⟩
  exact ⟨vo, vc, he, hgr⟩
def setAll (w : World) (b : Nat) : List (Nat × Value) → World
  | [] => w
  | (k, v) :: l => setAll (w.setCell ⟨b, k, none⟩ v) b l
theorem setAll_oth (b k : Nat) (hb : k ≠ b) : ∀ (l : List (Nat × Value)) (w : World), (setAll w b l).heap[k]? = w.heap[k]?
  | [], w => rfl
  | (i, v) :: l, w => (setAll_oth b k hb l _).trans (heap_setCell_other _ _ _ _ hb)
theorem setAll_kp (b : Nat) : ∀ (l : List (Nat × Value)) (w : World), Keeps w (setAll w b l) (fun z => z = b)
  | [], w => Keeps.refl _ _
  | (i, v) :: l, w => Keeps.trans (Keeps.setCell (S := fun z => z = b) (p := ⟨b, i, none⟩) (Keeps.refl w (fun z => z = b)) (fun _ => rfl) v) (setAll_kp b l _) (fun _ _ h => h)
def setsA (c : Array Value) : List (Nat × Value) → Array Value
  | [] => c
  | (k, v) :: l => setsA (c.setIfInBounds k v) l
theorem setAll_blk (b t : Nat) : ∀ (l : List (Nat × Value)) (w : World) (c : Array Value), w.heap[b]? = some (.cells c t) → (setAll w b l).heap[b]? = some (.cells (setsA c l) t)
  | [], w, c, h => h
  | (i, v) :: l, w, c, h => setAll_blk b t l _ _ (heap_setCell_same w b i _ _ v h)
theorem new7 (nu : Bool) (ao : Option Addr) (ca : Nat) (W : World) (hT : Tab W) : Calls Tryz.prog 69 #[.agg #[.string nmA, .bool nu, .int .i64 3, .int .i64 0, .int .i64 0, .int .i64 0, .slice ao 0 ca]] W fun e w' => ∃ p n m t fo fc, e = .returned (.tuple #[.pointer (some ⟨p, 0, none⟩), .int .i64 0]) ∧ Gr W w' ∧ (W.heap.size ≤ p ∧ W.heap.size ≤ n ∧ W.heap.size ≤ m ∧ W.heap.size ≤ t) ∧ Bd w' p n m t nu fo fc 0 0 (.slice none 0 0) (.slice none 0 0) := by
  have HT := hidM hT
  clear hT
  obtain ⟨A, hA⟩ := ex (W.alloc (.cells #[.string nmA, .bool nu, .int .i64 3, .int .i64 0, .int .i64 0, .int .i64 0, .slice ao 0 ca] 26))
  have HA : Hid (Gr W A) := by rw [← hA]; exact gr_alloc W _
  have hb := al_new hA
  have HF : Hid (∀ u, Gr A u → u.heap[W.heap.size]? = some (.cells #[.string nmA, .bool nu, .int .i64 3, .int .i64 0, .int .i64 0, .int .i64 0, .slice ao 0 ca] 26)) := fun u hk => (hk.block _ (lt_of_heap hb) id).trans hb
  obtain ⟨tt, hck⟩ := leaf_tells (w := W) (ao := ao) (ca := ca) HT.out (allR nu)
  have HCK := hidM hck
  obtain ⟨e0, e1, e2, e3, e4, e5, e6⟩ := cell7 hb
  clear hb hck
  go_enter Tryz.func69, Tryz.ntmps69
  go_wp2_with (go_at_call 26; refine Hid.out ?_)
  unfold Hid
  refine Calls.mono (HCK.out _ HA.out) ?_
  rintro e w1 ⟨vo, vc, rfl, g1, -⟩
  have hfd : ∀ W : World, (Instr.field 60 (.agg #[.int .i64 0, .slice vo 0 vc, .int .i64 tt]) 0).run Tryz.prog W = .ok (.int .i64 0) W := fun W => by kernel_rfl
  have HG1 := hidM g1
  have hf1 := HF.out w1 g1
  clear e0 e1 e2 e3 e4 e5 e6
  obtain ⟨e0, e1, e2, e3, e4, e5, e6⟩ := cell7 hf1
  obtain ⟨V, hV⟩ := ex ((w1.alloc (.cells #[.string nmA, .bool nu, .int .i64 3, .int .i64 0, .int .i64 0, .int .i64 0, .slice ao 0 ca] 26)).alloc (.cells #[.int .i64 0] 3))
  have gv : Gr w1 V := by rw [← hV]; exact (gr_alloc _ _).tr (gr_alloc _ _)
  have hz : V.cell? ⟨w1.heap.size + 1, 0, none⟩ = some (.int .i64 0) ∧ V.heap[w1.heap.size]? = some (.cells #[.string nmA, .bool nu, .int .i64 3, .int .i64 0, .int .i64 0, .int .i64 0, .slice ao 0 ca] 26) := by
    have h2 := heap_alloc_new (w1.alloc (.cells #[.string nmA, .bool nu, .int .i64 3, .int .i64 0, .int .i64 0, .int .i64 0, .slice ao 0 ca] 26)) (.cells #[.int .i64 0] 3)
    rw [show (w1.alloc (.cells #[.string nmA, .bool nu, .int .i64 3, .int .i64 0, .int .i64 0, .int .i64 0, .slice ao 0 ca] 26)).heap.size = w1.heap.size + 1 by simp, hV] at h2
    have h1 := ((gr_alloc (w1.alloc (.cells #[.string nmA, .bool nu, .int .i64 3, .int .i64 0, .int .i64 0, .int .i64 0, .slice ao 0 ca] 26)) (.cells #[.int .i64 0] 3)).block _ (lt_of_heap (heap_alloc_new w1 (.cells #[.string nmA, .bool nu, .int .i64 3, .int .i64 0, .int .i64 0, .int .i64 0, .slice ao 0 ca] 26))) id).trans (heap_alloc_new w1 _)
    rw [hV] at h1
    exact ⟨by simp [World.cell?, h2], h1⟩
  have HGV : Hid (Gr A V) := g1.tr gv
  have HZ := hidM hz
  clear g1 gv hz hf1
  go_wp2_with (go_at_call 14; refine Hid.out ?_)
  unfold Hid
  refine Calls.mono (at13 nu ao ca w1.heap.size (w1.heap.size + 1) V (HT.out.gr (HA.out.tr HGV.out)) HZ.out.2 HZ.out.1) ?_
  rintro e w2 ⟨fo, fc, rfl, g2⟩
  have HG2 : Hid (Gr A w2) := HGV.out.tr g2
  have hf2 := HF.out w2 HG2.out
  clear e0 e1 e2 e3 e4 e5 e6 HZ hV hfd g2
  obtain ⟨e0, e1, e2, e3, e4, e5, e6⟩ := cell7 hf2
  obtain ⟨z0, z1, z2, z3, z4, z5, z6⟩ := frz7 hf2
  obtain ⟨U, hU⟩ := ex (setAll w2 W.heap.size [(0, .string nmA), (1, .bool nu), (2, .int .i64 3), (3, .int .i64 0), (4, .int .i64 0), (5, .int .i64 0), (6, .slice fo 0 fc)])
  have hUb : U.heap[W.heap.size]? = some (.cells #[.string nmA, .bool nu, .int .i64 3, .int .i64 0, .int .i64 0, .int .i64 0, .slice fo 0 fc] 26) := by
    have h := setAll_blk W.heap.size 26 [(0, .string nmA), (1, .bool nu), (2, .int .i64 3), (3, .int .i64 0), (4, .int .i64 0), (5, .int .i64 0), (6, .slice fo 0 fc)] w2 _ hf2
    rw [hU] at h
    rw [h]
    simp [setsA]
  have HKU : Hid (Gr W U) := by
    rw [← hU]
    exact (HA.out.tr HG2.out).trans (setAll_kp _ _ _) (fun j hj (e : j = W.heap.size) => by omega)
  simp only [setAll] at hU
  obtain ⟨T, hTT⟩ := ex (U.alloc (.cells #[.int .i64 0, .slice none 0 0] 145))
  have HGT : Hid (Gr U T) := by rw [← hTT]; exact gr_alloc U _
  have htb := al_new hTT
  have HFT : Hid (∀ u, Gr T u → u.heap[W.heap.size]? = some (.cells #[.string nmA, .bool nu, .int .i64 3, .int .i64 0, .int .i64 0, .int .i64 0, .slice fo 0 fc] 26) ∧ u.heap[U.heap.size]? = some (.cells #[.int .i64 0, .slice none 0 0] 145)) := fun u hk => ⟨((HGT.out.tr hk).block _ (lt_of_heap hUb) id).trans hUb, (hk.block _ (lt_of_heap htb) id).trans htb⟩
  clear hUb htb hf2
  have HS : Hid (∀ u, Gr T u → u.cell? ⟨W.heap.size, 0, none⟩ = some (.string nmA) ∧ u.cell? ⟨W.heap.size, 1, none⟩ = some (.bool nu) ∧ u.cell? ⟨W.heap.size, 2, none⟩ = some (.int .i64 3) ∧ u.cell? ⟨W.heap.size, 3, none⟩ = some (.int .i64 0) ∧ u.cell? ⟨W.heap.size, 4, none⟩ = some (.int .i64 0) ∧ u.cell? ⟨W.heap.size, 5, none⟩ = some (.int .i64 0) ∧ u.cell? ⟨W.heap.size, 6, none⟩ = some (.slice fo 0 fc)) := fun u hk => cell7 (HFT.out u hk).1
  have HS0 := hidM (HS.out T.drew gr_drew)
  clear e0 e1 e2 e3 e4 e5 e6
  obtain ⟨e0, e1, e2, e3, e4, e5, e6⟩ := cell7 (HF.out w2 HG2.out)
  go_wp2_with fail
  go_region_held3 (fun w' => w'.cell? ⟨W.heap.size, 0, none⟩ = some (.string nmA) ∧ w'.cell? ⟨W.heap.size, 1, none⟩ = some (.bool nu) ∧ w'.cell? ⟨W.heap.size, 2, none⟩ = some (.int .i64 3) ∧ w'.cell? ⟨W.heap.size, 3, none⟩ = some (.int .i64 0) ∧ w'.cell? ⟨W.heap.size, 4, none⟩ = some (.int .i64 0) ∧ w'.cell? ⟨W.heap.size, 5, none⟩ = some (.int .i64 0) ∧ w'.cell? ⟨W.heap.size, 6, none⟩ = some (.slice fo 0 fc)) (first | with_reducible exact HS0.out | with_reducible exact HS1.out | exact HS2.out _) ((go_at_call 99; refine (newNode14 nu fo fc U.heap.size _ (HT.out.gr ((HKU.out.tr HGT.out).tr gr_drew))).mono ?_; rintro e w3 ⟨n, m, rfl, g3, hn, hm, hbn, hbm⟩; have HG3 : Hid (Gr T w3) := Keeps.trans gr_drew g3 (fun _ _ h => h); have HN : Hid (T.heap.size ≤ n ∧ T.heap.size ≤ m) := ⟨hn, hm⟩; have HBN := hidM hbn; have HBM := hidM hbm; have HS1 := hidM (HS.out w3 HG3.out); have HS2 : Hid (∀ o, (w3.alloc o).cell? ⟨W.heap.size, 0, none⟩ = some (.string nmA) ∧ (w3.alloc o).cell? ⟨W.heap.size, 1, none⟩ = some (.bool nu) ∧ (w3.alloc o).cell? ⟨W.heap.size, 2, none⟩ = some (.int .i64 3) ∧ (w3.alloc o).cell? ⟨W.heap.size, 3, none⟩ = some (.int .i64 0) ∧ (w3.alloc o).cell? ⟨W.heap.size, 4, none⟩ = some (.int .i64 0) ∧ (w3.alloc o).cell? ⟨W.heap.size, 5, none⟩ = some (.int .i64 0) ∧ (w3.alloc o).cell? ⟨W.heap.size, 6, none⟩ = some (.slice fo 0 fc)) := fun o => HS.out _ (HG3.out.alloc o); clear g3 hn hm hbn hbm))
  go_wp2_with fail
  go_ret2
  have g3 : Gr U w3 := HGT.out.tr HG3.out
  have h1 := HKU.out.size
  have h2 := g3.size
  have h3 := HGT.out.size
  have hn := HN.out
  refine ⟨_, n, m, U.heap.size, fo, fc, rfl, (HKU.out.tr g3).alloc _, ⟨by omega, by omega, by omega, h1⟩, heap_alloc_new _ _, ((gr_alloc _ _).block _ (lt_of_heap HBN.out) id).trans HBN.out, ((gr_alloc _ _).block _ (lt_of_heap HBM.out) id).trans HBM.out, (HFT.out _ (HG3.out.alloc _)).2⟩
theorem info2 : (Tryz.prog.info? 2).map (fun i => (i.zero, i.size, i.bytes)) = some (some (.int .i64 0), 1, 8) := by kernel_rfl
structure Push (W w' : World) (m j t e : Nat) (c : Array Value) (lo : Option Addr) (L lc : Nat) (xs : List Value) (y : Value) (uo : Option Addr) (uc : Nat) : Prop where
  box : w'.heap[m]? = some (.cells (c.setIfInBounds j (.slice uo (L + 1) uc)) t)
  own : w'.ownsRow 0 e 1 (.slice uo (L + 1) uc) (L + 1) (xs ++ [y])
  kp : Keeps W w' (fun z => z = m ∨ (Value.slice lo L lc).ownBlock = some z)
  blk : (Value.slice uo (L + 1) uc).ownBlock = (Value.slice lo L lc).ownBlock ∨ ∀ g, (Value.slice uo (L + 1) uc).ownBlock = some g → W.heap.size ≤ g
theorem own_ne {W : World} {m t e s n : Nat} {c : Array Value} {v : Value} {xs : List Value} (h : W.heap[m]? = some (.cells c t)) (ho : W.ownsRow 0 e s v n xs) (hte : t ≠ e) : v.ownBlock ≠ some m := by
  intro he
  rcases ho.2 with ⟨rfl, _⟩ | ⟨g, cap, cur, rfl, _, hg, _⟩
  · simp [Value.ownBlock] at he
  have : g = m := by simpa [Value.ownBlock] using he
  subst this
  rw [h] at hg
  simp at hg
  exact hte hg.2
theorem lay261 (m : Nat) (vn : Bool) (x : Int) (vo : Option Addr) (vc : Nat) (lo : Option Addr) (L lc : Nat) (xs : List Value) (W : World) (hm : W.heap[m]? = some (.cells #[.int .i64 1, .slice lo L lc] 344)) (ho : W.ownsRow 0 2 1 (.slice lo L lc) L xs) (hL : L ≤ 5000) :
    Calls Tryz.prog 441 #[.pointer (some ⟨m, 0, none⟩), .agg #[.bool vn, .int .i64 x, .string ⟨#[]⟩, .slice vo 0 vc]] W fun e w' => ∃ uo uc, e = .returned (.int .i64 16) ∧ Push W w' m 1 344 2 #[.int .i64 1, .slice lo L lc] lo L lc xs (.int .i64 x) uo uc := by
  obtain ⟨A, hA⟩ := ex (W.alloc (.cells #[.bool vn, .int .i64 x, .string ⟨#[]⟩, .slice vo 0 vc] 98))
  have gA := gr_al hA
  have hb := al_new hA
  have hmA := (gA.block m (lt_of_heap hm) id).trans hm
  have HNE := hidM (own_ne hm ho (by decide))
  obtain ⟨m0, m1⟩ := cell2 hmA
  have q1 : A.cell? ⟨W.heap.size, 1, none⟩ = some (.int .i64 x) := by simp [World.cell?, hb]
  have HNM : Hid (W.heap.size ≠ m) := fun e => by have := lt_of_heap hm; omega
  have hq : ∀ u, Gr A u → u.cell? ⟨W.heap.size, 1, none⟩ = some (.int .i64 x) := fun u g => g.cell' q1 id
  have HQ0 := hidM (hq A.drew gr_drew)
  obtain ⟨A2, hA2⟩ := ex (A.alloc (.cells #[.int .i64 x] 2))
  have gA2 := gr_al hA2
  have g2 : Gr A A2.drew := gA2.tr gr_drew
  have HQ1 := hidM (hq A2.drew g2)
  have HOw : Hid (A2.drew.ownsRow 0 2 1 (.slice lo L lc) L xs) := row_kp ho fun g e => ((gA.tr g2).block g (own_lt ho g e) id)
  have HSr : Hid (Src Tryz.prog 1 342 (.slice (some ⟨A.heap.size, 0, none⟩) 1 1) 1 [.int .i64 x] A2.drew) := by
    have h := heap_alloc_new A (.cells #[.int .i64 x] 2)
    rw [hA2] at h
    refine Src.ofSlice (w := A2.drew) Tryz.underlying342 ⟨A.heap.size, 0, none⟩ 1 1 [.int .i64 x] rfl (fun j v hj => ?_) (fun v hv => by simp at hv; subst hv; rfl)
    cases j with
    | zero => cases hj; exact gr_drew.cell' (w := A2) (show A2.cell? ⟨A.heap.size, 0, none⟩ = some (.int .i64 x) by simp [World.cell?, h]) id
    | succ j => simp at hj
  have HAt : Hid (∀ w7, A2.drew.grownBy w7 (Value.slice lo L lc).ownBlock → w7.heap[m]? = some (.cells #[.int .i64 1, .slice lo L lc] 344) ∧ w7.cell? ⟨W.heap.size, 1, none⟩ = some (.int .i64 x)) := fun w7 h => by
    have hk := Keeps.ofGrown h
    refine ⟨(hk.block m (Nat.lt_of_lt_of_le (lt_of_heap hmA) gA2.size) (fun e => HNE.out e)).trans ((g2.block m (lt_of_heap hmA) id).trans hmA), hk.cell' HQ1.out (fun e => ?_)⟩
    have := own_lt ho _ e
    exact absurd this (Nat.lt_irrefl _)
  have HEnd : Hid (∀ uo uc w7, w7.ownsRow 0 2 1 (.slice uo (L + 1) uc) (L + 1) (xs ++ [.int .i64 x]) → A2.drew.grownBy w7 (Value.slice lo L lc).ownBlock → ((Value.slice uo (L + 1) uc).ownBlock = (Value.slice lo L lc).ownBlock ∨ ∀ g, (Value.slice uo (L + 1) uc).ownBlock = some g → A2.drew.heap.size ≤ g) → Push W (w7.setCell ⟨m, 1, none⟩ (.slice uo (L + 1) uc)) m 1 344 2 #[.int .i64 1, .slice lo L lc] lo L lc xs (.int .i64 x) uo uc) := fun uo uc w7 h1 h2 h3 => by
    have hm7 := (HAt.out w7 h2).1
    have hk : Keeps W w7 (fun z => (Value.slice lo L lc).ownBlock = some z) := ((gA.tr g2).mono (fun _ _ h => h.elim)).tr (Keeps.ofGrown h2)
    refine ⟨heap_setCell_same w7 m 1 _ _ _ hm7, row_kp h1 fun g e => heap_setCell_other _ _ _ _ (fun e' => own_ne hm7 h1 (by decide) (by rw [e, e'])), ?_, ?_⟩
    · exact (hk.mono (fun _ _ h => .inr h)).setCell (p := ⟨m, 1, none⟩) (fun _ => .inl rfl) _
    exact h3.imp id (fun h g e => Nat.le_trans (gA.tr g2).size (h g e))
  have m1b : A2.cell? ⟨m, 1, none⟩ = some (.slice lo L lc) := gA2.cell' m1 id
  clear hm ho hb hmA gA g2 gA2 hq
  go_enter Tryz.func441, Tryz.ntmps441
  go_wp2_with fail
  refine wp_region_held_drew (S := fun w' => w'.cell? ⟨W.heap.size, 1, none⟩ = some (.int .i64 x)) (by kernel_rfl) (HQ0.out) (fun hHeld => ?_)
  refine tk 0 ?_
  refine tk 1 ?_
  refine tk 2 ?_
  refine tk 3 ?_
  refine tk 5 ?_
  have HQQ : Hid True := trivial
  refine tk 6 ?_
  refine wpAnyH_ready (rs := [4, 7]) (by kernel_rfl) (by simp) ?_
  refine AllReadyH.cons (o := { dst := some 9, op := Op.load 342 (Operand.tmp 8), type := 342, pos := "leaf.go:78", after := #[{ on := 3, ground := Ground.data }], guard := none }) rfl (fun Kc hK => ?_) (AllReadyH.cons (o := { dst := some 12, op := Op.buildSlice 342 1 #[(0, Operand.tmp 11)], type := 342, pos := "leaf.go:78", after := #[{ on := 6, ground := Ground.data }], guard := none }) rfl (fun Kc hK => ?_) AllReadyH.nil)
  · go_simp
    refine hK.out _ _ HQ0.out (fun hHeld => ?_)
    clear hK Kc
    try simp only [Act.put, lA, lB, lC]
    refine rd1 7 fun Kc hK => ?_
    go_simp
    refine hK.out _ _ (HQ1.out) (fun hHeld => ?_)
    clear hK Kc
    try simp only [Act.put, lA, lB, lC]
    refine rd1 8 fun Kc hK => ?_
    refine step_append_any (P := Tryz.prog) _ rfl (.tmp 9) (.tmp 12) 342 342 rfl 2 (.int .i64 0) 8 Tryz.underlying342 info2 rfl (.slice lo L lc) L xs rfl HOw.out (.slice (some ⟨A.heap.size, 0, none⟩) 1 1) 1 [.int .i64 x] rfl HSr.out (by omega) (by omega) ?_
    intro v' w7 ha1 ha2 ha3
    obtain ⟨uo, uc, rfl⟩ := own_formN ha1
    obtain ⟨hm7, hq7⟩ := HAt.out w7 ha2
    obtain ⟨c0, c1⟩ := cell2 hm7
    have z1 := frz hm7 1
    have HQ7 := hidM hq7
    have HQ8 : Hid (∀ y, (w7.setCell ⟨m, 1, none⟩ y).cell? ⟨W.heap.size, 1, none⟩ = some (.int .i64 x)) := fun y => (World.cell?_of_block (heap_setCell_other _ _ _ _ HNM.out)).trans hq7
    have HE := hidM (HEnd.out _ _ _ ha1 ha2 ha3)
    clear ha1 ha2 ha3 hm7 hq7
    refine hK.out _ _ HQ7.out (fun hHeld => ?_)
    clear hK Kc
    try simp only [Act.put, lA, lB, lC]
    refine tk 9 ?_
    refine tk 10 ?_
    refine rd1 11 fun Kc hK => ?_
    go_simp
    refine hK.out _ _ (HQ8.out _) (fun hHeld => ?_)
    clear hK Kc
    try simp only [Act.put, lA, lB, lC]
    refine wpAnyH_done (by kernel_rfl) ?_ _
    clear hHeld c0 c1 z1
    go_wp2_with fail
    go_ret
    exact ⟨uo, uc, rfl, HE.out⟩
  go_simp
  refine hK.out _ _ HQ1.out (fun hHeld => ?_)
  clear hK Kc
  try simp only [Act.put, lA, lB, lC]
  refine rd1 4 fun Kc hK => ?_
  go_simp
  refine hK.out _ _ HQ1.out (fun hHeld => ?_)
  clear hK Kc
  try simp only [Act.put, lA, lB, lC]
  refine rd1 8 fun Kc hK => ?_
  refine step_append_any (P := Tryz.prog) _ rfl (.tmp 9) (.tmp 12) 342 342 rfl 2 (.int .i64 0) 8 Tryz.underlying342 info2 rfl (.slice lo L lc) L xs rfl HOw.out (.slice (some ⟨A.heap.size, 0, none⟩) 1 1) 1 [.int .i64 x] rfl HSr.out (by omega) (by omega) ?_
  intro v' w7 ha1 ha2 ha3
  obtain ⟨uo, uc, rfl⟩ := own_formN ha1
  obtain ⟨hm7, hq7⟩ := HAt.out w7 ha2
  obtain ⟨c0, c1⟩ := cell2 hm7
  have z1 := frz hm7 1
  have HQ7 := hidM hq7
  have HQ8 : Hid (∀ y, (w7.setCell ⟨m, 1, none⟩ y).cell? ⟨W.heap.size, 1, none⟩ = some (.int .i64 x)) := fun y => (World.cell?_of_block (heap_setCell_other _ _ _ _ HNM.out)).trans hq7
  have HE := hidM (HEnd.out _ _ _ ha1 ha2 ha3)
  clear ha1 ha2 ha3 hm7 hq7
  refine hK.out _ _ HQ7.out (fun hHeld => ?_)
  clear hK Kc
  try simp only [Act.put, lA, lB, lC]
  refine tk 9 ?_
  refine tk 10 ?_
  refine rd1 11 fun Kc hK => ?_
  go_simp
  refine hK.out _ _ (HQ8.out _) (fun hHeld => ?_)
  clear hK Kc
  try simp only [Act.put, lA, lB, lC]
  refine wpAnyH_done (by kernel_rfl) ?_ _
  clear hHeld c0 c1 z1
  go_wp2_with fail
  go_ret
  exact ⟨uo, uc, rfl, HE.out⟩
end Go.Proofs.YtknnoiomdngmfaaGreatDoor.Kit
