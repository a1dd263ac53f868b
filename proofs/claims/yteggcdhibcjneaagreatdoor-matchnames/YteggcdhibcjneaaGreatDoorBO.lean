import Derived.Test.YteggcdhibcjneaaGreatDoorWF
import Derived.Test.YteggcdhibcjneaaGreatDoorKdT
import Derived.Deep.RegionHeld3
set_option maxRecDepth 100000
set_option maxHeartbeats 4000000
namespace Go.Proofs.YteggcdhibcjneaaGreatDoor.Kit
open Go.RowKit Go.Shelf Go.Deep
open Go.Proofs.YteggcdhibcjneaaGreatDoor.Kd (Ans AnsV cell5 cell2)
set_option linter.unusedVariables false
set_option linter.unusedSimpArgs false
/-! ### numbers of kind 4: their field may be, their width -/
/-- one of two names -/
def nmB (x : Bool) : ByteArray := ⟨#[if x then 98 else 97]⟩
variable {nx : Bool}
theorem allR (nu : Bool) : AllR (nodes (0 + 1) [leafF (nmB nx) nu 3] [] false) := by
  intro k hk
  have : k = 0 := by simp [nodes] at hk; omega
  subst this
  show wrongE ⟨[leafF (nmB nx) nu 3], [0], false⟩ 0 (tkL []) = 0
  cases nx <;> cases nu <;> kernel_rfl
/-- the field in a block of its own -/
theorem row_leaf {W : World} {S : Nat → Prop} {g : Nat} {nu : Bool} {ao : Option Addr} {ca : Nat} (hS : S g) (h : W.heap[g]? = some (.cells #[.string (nmB nx), .bool nu, .int .i64 3, .int .i64 0, .int .i64 0, .int .i64 0, .slice ao 0 ca] 47)) : RowAt S W 1 (some ⟨g, 0, none⟩) [leafF (nmB nx) nu 3] := by
  refine ⟨by show (1 : Nat) ≤ big; decide, fun _ => ⟨g, 0, rfl, hS, fun i hi => ?_⟩⟩
  obtain rfl : i = 0 := by simpa using hi
  refine ⟨ao, ca, ?_, Nat.zero_le _, rfl⟩
  constructor <;> simp [World.cell?, h, leafF, FT.name, FT.nul, FT.kind, FT.width, FT.id, FT.index, FT.kids]
/-- a schema of it alone may be -/
theorem alone_may {w : World} {g : Nat} {nu : Bool} {ao : Option Addr} {ca : Nat} (hT : Tab w) (h : w.heap[g]? = some (.cells #[.string (nmB nx), .bool nu, .int .i64 3, .int .i64 0, .int .i64 0, .int .i64 0, .slice ao 0 ca] 47)) : Ans 56 #[.agg #[.slice (some ⟨g, 0, none⟩) 1 1, .slice none 0 0]] true w := by
  have hlt := lt_of_heap h
  have hn : NotesAt w none [] := ⟨by decide, fun e => absurd rfl e⟩
  have hF : FaultIs (listsE 1 []) (nodes 1 [leafF (nmB nx) nu 3] [] false) 0 [] 0 := .inr (.inl ⟨by decide, allR (nx := nx) nu, rfl, rfl, rfl⟩)
  have ht : Tells w 17 (.agg #[.slice (some ⟨g, 0, none⟩) 1 1, .slice none 0 0]) 0 [] 0 := fun W gr => by
    refine Calls.mono (check_fault (S := fun b => b = g) (D := 1) (fo := some ⟨g, 0, none⟩) (no := none) (cf := 1) (cn := 0) (fs := [leafF (nmB nx) nu 3]) (ns := []) hT (row_leaf rfl h) (Nat.le_refl _) (by decide) (fun b hb => by rw [hb]; exact hlt) hn W gr) ?_
    rintro e w' ⟨er, vo, vn, vc, tt, rfl, hg, p, hp, h2, h3⟩
    obtain ⟨rfl, rfl, rfl⟩ := hF.one h2
    obtain rfl : 0 = vn := hp
    exact ⟨vo, vc, rfl, hg, fun hne => absurd rfl hne⟩
  have := Kd.maybe_gen ht
  exact this
theorem asField113 (ao : Option Addr) (ca : Nat) (W : World) : Calls Tryz.prog 166 #[.agg #[.int .i64 3, .int .i64 0, .int .i64 0, .int .i64 0, .slice ao 0 ca]] W fun e w' => e = .returned (.agg #[.string (nmB false), .bool false, .int .i64 3, .int .i64 0, .int .i64 0, .int .i64 0, .slice ao 0 ca]) ∧ Gr W w' := by
  go_enter Tryz.func166, Tryz.ntmps166
  go_wp2
  refine bodyPost_ret (v := .agg #[.string (nmB false), .bool false, .int .i64 3, .int .i64 0, .int .i64 0, .int .i64 0, .slice ao 0 ca]) ?_ rfl ⟨rfl, ((Keeps.refl W _).alloc _).alloc _⟩
  simp [results, Tryz.f166, go_sem, nmB]
theorem fieldMayBe112 (nu : Bool) (ao : Option Addr) (ca : Nat) (W : World) (hT : Tab W) : Calls Tryz.prog 165 #[.agg #[.string (nmB nx), .bool nu, .int .i64 3, .int .i64 0, .int .i64 0, .int .i64 0, .slice ao 0 ca]] W fun e w' => e = .returned (.bool true) ∧ Gr W w' := by
  have HT := hidM hT
  clear hT
  have HA := hidM (gr_alloc W (.cells #[.string (nmB nx), .bool nu, .int .i64 3, .int .i64 0, .int .i64 0, .int .i64 0, .slice ao 0 ca] 47))
  go_enter Tryz.func165, Tryz.ntmps165
  go_wp2_with (first
    | (go_at_call 105; refine (alone_any (nmB nx) nu 3 0 0 0 ao 0 ca _).mono ?_; rintro e w1 ⟨g, rfl, g1, hg, hb⟩; have HG1 := hidM (HA.out.trans g1 (fun _ _ h => h)); have HB := hidM hb; clear g1 hb hg)
    | (go_at_call 56; refine Calls.mono ((alone_may (HT.out.gr HG1.out) HB.out) _ (Keeps.refl _ _)) ?_; rintro e w2 ⟨rfl, g2⟩; have HG2 := hidM (HG1.out.trans g2 (fun _ _ h => h)); clear g2))
  go_ret
  exact ⟨rfl, HG2.out⟩
theorem typeMayBe83 (ao : Option Addr) (ca : Nat) (W : World) (hT : Tab W) : Calls Tryz.prog 151 #[.agg #[.int .i64 3, .int .i64 0, .int .i64 0, .int .i64 0, .slice ao 0 ca]] W fun e w' => e = .returned (.bool true) ∧ Gr W w' := by
  have HT := hidM hT
  clear hT
  have HA := hidM (gr_alloc W (.cells #[.int .i64 3, .int .i64 0, .int .i64 0, .int .i64 0, .slice ao 0 ca] 45))
  go_enter Tryz.func151, Tryz.ntmps151
  go_wp2_with (first
    | (go_at_call 166; refine (asField113 ao ca _).mono ?_; rintro e w1 ⟨rfl, g1⟩; have HG1 := hidM (HA.out.trans g1 (fun _ _ h => h)); clear g1)
    | (go_at_call 165; refine (fieldMayBe112 false ao ca _ (HT.out.gr HG1.out)).mono ?_; rintro e w2 ⟨rfl, g2⟩; have HG2 := hidM (HG1.out.trans g2 (fun _ _ h => h)); clear g2))
  go_ret
  exact ⟨rfl, HG2.out⟩
theorem width56 (ao : Option Addr) (ca : Nat) (W : World) (hT : Tab W) : Calls Tryz.prog 127 #[.agg #[.int .i64 3, .int .i64 0, .int .i64 0, .int .i64 0, .slice ao 0 ca]] W fun e w' => e = .returned (.int .i64 1) ∧ Gr W w' := by
  have HT := hidM hT
  clear hT
  have HA := hidM (gr_alloc W (.cells #[.int .i64 3, .int .i64 0, .int .i64 0, .int .i64 0, .slice ao 0 ca] 45))
  have HB := hidM (heap_alloc_new W (.cells #[.int .i64 3, .int .i64 0, .int .i64 0, .int .i64 0, .slice ao 0 ca] 45))
  go_enter Tryz.func127, Tryz.ntmps127
  go_wp2_with (go_at_call 151; refine (typeMayBe83 ao ca _ (HT.out.gr HA.out)).mono ?_; rintro e w1 ⟨rfl, g1⟩; have HG1 := hidM (HA.out.trans g1 (fun _ _ h => h)); obtain ⟨p0, p1, p2, p3, p4⟩ := cell5 ((g1.block _ (lt_of_heap HB.out) id).trans HB.out); have t1 := ((HT.out.gr HG1.out).2 3 (by decide)).c1; simp only [show bytesK 3 = 1 from rfl] at t1; clear g1)
  go_ret
  exact ⟨rfl, HG1.out⟩
theorem newNumbers40 (ao : Option Addr) (ca : Nat) (W : World) (hT : Tab W) : Calls Tryz.prog 161 #[.agg #[.int .i64 3, .int .i64 0, .int .i64 0, .int .i64 0, .slice ao 0 ca]] W fun e w' => ∃ m, e = .returned (.pointer (some ⟨m, 0, none⟩)) ∧ Gr W w' ∧ W.heap.size ≤ m ∧ w'.heap[m]? = some (.cells #[.int .i64 1, .slice none 0 0] 329) := by
  have HT := hidM hT
  clear hT
  have HA := hidM (gr_alloc W (.cells #[.int .i64 3, .int .i64 0, .int .i64 0, .int .i64 0, .slice ao 0 ca] 45))
  go_enter Tryz.func161, Tryz.ntmps161
  go_wp2_with (go_at_call 127; refine (width56 ao ca _ (HT.out.gr HA.out)).mono ?_; rintro e w1 ⟨rfl, g1⟩; have HG1 := hidM (HA.out.trans g1 (fun _ _ h => h)); clear g1)
  go_ret
  exact ⟨_, rfl, HG1.out.alloc _, HG1.out.size, heap_alloc_new _ _⟩
end Go.Proofs.YteggcdhibcjneaaGreatDoor.Kit
namespace Go.Proofs.YteggcdhibcjneaaGreatDoor.Kit
variable {nx : Bool}
open Go.RowKit Go.Shelf Go.Deep
open Go.Proofs.YteggcdhibcjneaaGreatDoor.Kd (Ans AnsV cell5 cell2)
set_option linter.unusedVariables false
set_option linter.unusedSimpArgs false

theorem info61 : (Tryz.prog.info? 217).map (fun i => (i.zero, i.size, i.bytes)) = some (some (.pointer none), 1, 8) := by kernel_rfl
theorem newNodes38 (ao : Option Addr) (ca : Nat) (t : Value) (W : World) : Calls Tryz.prog 159 #[.slice ao 0 ca, t] W fun e w' => ∃ lo lc, e = .returned (.slice lo 0 lc) ∧ Gr W w' := by
  have hmk : ∀ w : World, (Instr.makeSlice 276 (.int .i64 0) (.int .i64 0)).run Tryz.prog w = .ok (.slice (some ⟨w.heap.size, 0, none⟩) 0 0) (w.alloc (.cells (madeCells #[.pointer none] 0) 217)) := fun w => run_make_row' (P := Tryz.prog) 276 217 (.pointer none) 8 Tryz.underlying276 info61 rfl .i64 .i64 0 (by omega) (by omega) w
  have HG := hidM (gr_alloc W (.cells (madeCells #[.pointer none] 0) 217))
  go_enter Tryz.func159, Tryz.ntmps159
  go_wp2
  go_loopw [13] (fun i wr => i = .int .i64 0 ∧ Hid (Gr W wr)) (fun _ _ => 0)
  case atStart => exact ⟨rfl, HG⟩
  case round =>
    clear HG hmk
    obtain ⟨rfl, HG⟩ := hrel
    go_wp2
    go_ret
    exact ⟨_, _, rfl, HG.out⟩
theorem newMaker27 (ao : Option Addr) (ca : Nat) (t : Value) (W : World) (hT : Tab W) : Calls Tryz.prog 144 #[.agg #[.int .i64 3, .int .i64 0, .int .i64 0, .int .i64 0, .slice ao 0 ca], t] W fun e w' => ∃ m, e = .returned (.iface 308 (.pointer (some ⟨m, 0, none⟩))) ∧ Gr W w' ∧ W.heap.size ≤ m ∧ w'.heap[m]? = some (.cells #[.int .i64 1, .slice none 0 0] 329) := by
  have HT := hidM hT
  clear hT
  have HA := hidM (gr_alloc W (.cells #[.int .i64 3, .int .i64 0, .int .i64 0, .int .i64 0, .slice ao 0 ca] 45))
  have HB := hidM (heap_alloc_new W (.cells #[.int .i64 3, .int .i64 0, .int .i64 0, .int .i64 0, .slice ao 0 ca] 45))
  obtain ⟨p0, p1, p2, p3, p4⟩ := cell5 HB.out
  go_enter Tryz.func144, Tryz.ntmps144
  go_wp2_with (first
    | (go_at_call 159; refine (newNodes38 ao ca t _).mono ?_; rintro e w1 ⟨lo, lc, rfl, g1⟩; have HG1 := hidM (HA.out.trans g1 (fun _ _ h => h)); clear p0 p1 p2 p3 p4; obtain ⟨p0, p1, p2, p3, p4⟩ := cell5 ((g1.block _ (lt_of_heap HB.out) id).trans HB.out); clear g1)
    | (go_at_call 161; refine (newNumbers40 ao ca _ (HT.out.gr HG1.out)).mono ?_; rintro e w2 ⟨m, rfl, g2, hm, hb⟩; have HG2 := hidM (HG1.out.trans g2 (fun _ _ h => h)); have HM := hidM (Nat.le_trans HG1.out.size hm); have HB2 := hidM hb; clear g2 hm hb))
  go_ret
  exact ⟨_, rfl, HG2.out, HM.out, HB2.out⟩
def Leaf6 (w : World) (b : Nat) (nu : Bool) (ao : Option Addr) (ca : Nat) : Prop := w.cell? ⟨b, 1, none⟩ = some (.bool nu) ∧ w.cell? ⟨b, 2, none⟩ = some (.int .i64 3) ∧ w.cell? ⟨b, 3, none⟩ = some (.int .i64 0) ∧ w.cell? ⟨b, 4, none⟩ = some (.int .i64 0) ∧ w.cell? ⟨b, 5, none⟩ = some (.int .i64 0) ∧ w.cell? ⟨b, 6, none⟩ = some (.slice ao 0 ca)
theorem newNode14 (nu : Bool) (ao : Option Addr) (ca : Nat) (t : Nat) (W : World) (hT : Tab W) : Calls Tryz.prog 123 #[.agg #[.string (nmB nx), .bool nu, .int .i64 3, .int .i64 0, .int .i64 0, .int .i64 0, .slice ao 0 ca], .pointer (some ⟨t, 0, none⟩)] W fun e w' => ∃ n m, e = .returned (.pointer (some ⟨n, 0, none⟩)) ∧ Gr W w' ∧ W.heap.size ≤ n ∧ W.heap.size ≤ m ∧ w'.heap[n]? = some (.cells #[.bool nu, .iface 308 (.pointer (some ⟨m, 0, none⟩)), .pointer (some ⟨t, 0, none⟩), .int .i64 0, .slice none 0 0, .int .i64 0] 264) ∧ w'.heap[m]? = some (.cells #[.int .i64 1, .slice none 0 0] 329) := by
  have HT := hidM hT
  clear hT
  obtain ⟨A, hA⟩ : ∃ A, W.alloc (.cells #[.string (nmB nx), .bool nu, .int .i64 3, .int .i64 0, .int .i64 0, .int .i64 0, .slice ao 0 ca] 47) = A := ⟨_, rfl⟩
  have HA : Hid (Gr W A) := by rw [← hA]; exact gr_alloc W _
  have hb : A.heap[W.heap.size]? = some (.cells #[.string (nmB nx), .bool nu, .int .i64 3, .int .i64 0, .int .i64 0, .int .i64 0, .slice ao 0 ca] 47) := by rw [← hA]; exact heap_alloc_new W _
  have HS : Hid (∀ u, Gr A u → u.cell? ⟨W.heap.size, 1, none⟩ = some (.bool nu) ∧ u.cell? ⟨W.heap.size, 2, none⟩ = some (.int .i64 3) ∧ u.cell? ⟨W.heap.size, 3, none⟩ = some (.int .i64 0) ∧ u.cell? ⟨W.heap.size, 4, none⟩ = some (.int .i64 0) ∧ u.cell? ⟨W.heap.size, 5, none⟩ = some (.int .i64 0) ∧ u.cell? ⟨W.heap.size, 6, none⟩ = some (.slice ao 0 ca)) := fun u hk => by
    have h := (hk.block _ (lt_of_heap hb) id).trans hb
    simp [World.cell?, h]
  have HS0 := hidM (HS.out A.drew gr_drew)
  clear hb
  go_enter Tryz.func123, Tryz.ntmps123
  go_wp2_with fail
  go_region_held3 (fun w' => w'.cell? ⟨W.heap.size, 1, none⟩ = some (.bool nu) ∧ w'.cell? ⟨W.heap.size, 2, none⟩ = some (.int .i64 3) ∧ w'.cell? ⟨W.heap.size, 3, none⟩ = some (.int .i64 0) ∧ w'.cell? ⟨W.heap.size, 4, none⟩ = some (.int .i64 0) ∧ w'.cell? ⟨W.heap.size, 5, none⟩ = some (.int .i64 0) ∧ w'.cell? ⟨W.heap.size, 6, none⟩ = some (.slice ao 0 ca)) (first | with_reducible exact HS0.out | with_reducible exact HS1.out | exact HS2.out _) ((go_at_call 144; refine (newMaker27 ao ca (.pointer (some ⟨t, 0, none⟩)) _ (HT.out.gr (HA.out.trans gr_drew (fun _ _ h => h)))).mono ?_; rintro e w1 ⟨m, rfl, g1, hm, hbm⟩; have HG1 : Hid (Gr A w1) := Keeps.trans gr_drew g1 (fun _ _ h => h); have HM : Hid (A.heap.size ≤ m) := hm; have HBM := hidM hbm; have HS1 := hidM (HS.out w1 HG1.out); have HS2 : Hid (∀ o, (w1.alloc o).cell? ⟨W.heap.size, 1, none⟩ = some (.bool nu) ∧ (w1.alloc o).cell? ⟨W.heap.size, 2, none⟩ = some (.int .i64 3) ∧ (w1.alloc o).cell? ⟨W.heap.size, 3, none⟩ = some (.int .i64 0) ∧ (w1.alloc o).cell? ⟨W.heap.size, 4, none⟩ = some (.int .i64 0) ∧ (w1.alloc o).cell? ⟨W.heap.size, 5, none⟩ = some (.int .i64 0) ∧ (w1.alloc o).cell? ⟨W.heap.size, 6, none⟩ = some (.slice ao 0 ca)) := fun o => HS.out _ (HG1.out.alloc o); clear g1 hm hbm))
  go_wp2_with fail
  go_ret
  have hs := HA.out.size
  exact ⟨_, m, rfl, (HA.out.trans HG1.out (fun _ _ h => h)).alloc _, Nat.le_trans hs HG1.out.size, Nat.le_trans hs HM.out, heap_alloc_new _ _, ((gr_alloc _ _).block _ (lt_of_heap HBM.out) id).trans HBM.out⟩
end Go.Proofs.YteggcdhibcjneaaGreatDoor.Kit
namespace Go.Proofs.YteggcdhibcjneaaGreatDoor.Kit
variable {nx : Bool}
open Go.RowKit Go.Shelf Go.Deep
open Go.Proofs.YteggcdhibcjneaaGreatDoor.Kd (Ans AnsV cell5 cell2)
set_option linter.unusedVariables false
set_option linter.unusedSimpArgs false

/-! ### a builder of numbers in memory -/
structure Bd (nx : Bool) (W : World) (p n m t : Nat) (nu : Bool) (fo : Option Addr) (fc : Nat) (rows wt : Int) (vv lv : Value) : Prop where
  hp : W.heap[p]? = some (.cells #[.string (nmB nx), .bool nu, .int .i64 3, .int .i64 0, .int .i64 0, .int .i64 0, .slice fo 0 fc, .pointer (some ⟨n, 0, none⟩), .pointer (some ⟨t, 0, none⟩), .int .i64 rows] 220)
  hn : W.heap[n]? = some (.cells #[.bool nu, .iface 308 (.pointer (some ⟨m, 0, none⟩)), .pointer (some ⟨t, 0, none⟩), .int .i64 0, vv, .int .i64 wt] 264)
  hm : W.heap[m]? = some (.cells #[.int .i64 1, lv] 329)
  ht : W.heap[t]? = some (.cells #[.int .i64 0, .slice none 0 0] 216)
theorem Bd.gr {W W' : World} {p n m t : Nat} {nu : Bool} {fo : Option Addr} {fc : Nat} {rows wt : Int} {vv lv : Value} (h : Bd nx W p n m t nu fo fc rows wt vv lv) (g : Gr W W') : Bd nx W' p n m t nu fo fc rows wt vv lv :=
  ⟨(g.block _ (lt_of_heap h.hp) id).trans h.hp, (g.block _ (lt_of_heap h.hn) id).trans h.hn, (g.block _ (lt_of_heap h.hm) id).trans h.hm, (g.block _ (lt_of_heap h.ht) id).trans h.ht⟩
/-- a copy of the field -/
theorem at13 (nu : Bool) (ao : Option Addr) (ca : Nat) (g z : Nat) (w : World) (hT : Tab w) (hg : w.heap[g]? = some (.cells #[.string (nmB nx), .bool nu, .int .i64 3, .int .i64 0, .int .i64 0, .int .i64 0, .slice ao 0 ca] 47)) (hz : w.cell? ⟨z, 0, none⟩ = some (.int .i64 0)) :
    Calls Tryz.prog 34 #[.agg #[.slice (some ⟨g, 0, none⟩) 1 1, .slice none 0 0], .slice (some ⟨z, 0, none⟩) 1 1] w fun e w' => ∃ fo fc, e = .returned (.tuple #[.agg #[.string (nmB nx), .bool nu, .int .i64 3, .int .i64 0, .int .i64 0, .int .i64 0, .slice fo 0 fc], .int .i64 0]) ∧ Gr w w' := by
  have hlt := lt_of_heap hg
  have h := Kd.at_gen (S := fun b => b = g) (D := 1) (fo := some ⟨g, 0, none⟩) (no := none) (po := some ⟨z, 0, none⟩) (cf := 1) (nn := 0) (cn := 0) (pc := 1) (fs := [leafF (nmB nx) nu 3]) (path := [0]) (er := 0) (alone_may hT hg) (row_leaf rfl hg) (Nat.le_refl _) (fun b hb => by rw [hb]; exact hlt)
    (fun _ => ⟨z, 0, rfl, fun j hj => by obtain rfl : j = 0 := by simpa using hj
                                         exact hz⟩) (by decide) w (Keeps.refl _ _)
  refine Calls.mono h ?_
  have e : Kd.atR 0 [leafF (nmB nx) nu 3] [0] = (0, leafF (nmB nx) nu 3) := rfl
  rw [e]
  rintro e w' ⟨vo, vc, he, hgr, -⟩
  exact ⟨vo, vc, he, hgr⟩
/-- stores into one block: all else stays -/
def setAll (w : World) (b : Nat) : List (Nat × Value) → World
  | [] => w
  | (k, v) :: l => setAll (w.setCell ⟨b, k, none⟩ v) b l
theorem setAll_oth (b k : Nat) (hb : k ≠ b) : ∀ (l : List (Nat × Value)) (w : World), (setAll w b l).heap[k]? = w.heap[k]?
  | [], w => rfl
  | (i, v) :: l, w => (setAll_oth b k hb l _).trans (heap_setCell_other _ _ _ _ hb)
theorem setAll_kp (b : Nat) : ∀ (l : List (Nat × Value)) (w : World), Keeps w (setAll w b l) (fun z => z = b)
  | [], w => Keeps.refl _ _
  | (i, v) :: l, w => Keeps.trans (Keeps.setCell (S := fun z => z = b) (p := ⟨b, i, none⟩) (Keeps.refl w (fun z => z = b)) (fun _ => rfl) v) (setAll_kp b l _) (fun _ _ h => h)
def setsA (c : Array Value) : List (Nat × Value) → Array Value
  | [] => c
  | (k, v) :: l => setsA (c.setIfInBounds k v) l
theorem setAll_blk (b t : Nat) : ∀ (l : List (Nat × Value)) (w : World) (c : Array Value), w.heap[b]? = some (.cells c t) → (setAll w b l).heap[b]? = some (.cells (setsA c l) t)
  | [], w, c, h => h
  | (i, v) :: l, w, c, h => setAll_blk b t l _ _ (heap_setCell_same w b i _ _ v h)
theorem new7 (nu : Bool) (ao : Option Addr) (ca : Nat) (W : World) (hT : Tab W) : Calls Tryz.prog 102 #[.agg #[.string (nmB nx), .bool nu, .int .i64 3, .int .i64 0, .int .i64 0, .int .i64 0, .slice ao 0 ca]] W fun e w' => ∃ p n m t fo fc, e = .returned (.tuple #[.pointer (some ⟨p, 0, none⟩), .int .i64 0]) ∧ Gr W w' ∧ (W.heap.size ≤ p ∧ W.heap.size ≤ n ∧ W.heap.size ≤ m ∧ W.heap.size ≤ t) ∧ Bd nx w' p n m t nu fo fc 0 0 (.slice none 0 0) (.slice none 0 0) := by
  have HT := hidM hT
  clear hT
  obtain ⟨A, hA⟩ : ∃ A, W.alloc (.cells #[.string (nmB nx), .bool nu, .int .i64 3, .int .i64 0, .int .i64 0, .int .i64 0, .slice ao 0 ca] 47) = A := ⟨_, rfl⟩
  have HA : Hid (Gr W A) := by rw [← hA]; exact gr_alloc W _
  have hb : A.heap[W.heap.size]? = some (.cells #[.string (nmB nx), .bool nu, .int .i64 3, .int .i64 0, .int .i64 0, .int .i64 0, .slice ao 0 ca] 47) := by rw [← hA]; exact heap_alloc_new W _
  have HF : Hid (∀ u, Gr A u → u.heap[W.heap.size]? = some (.cells #[.string (nmB nx), .bool nu, .int .i64 3, .int .i64 0, .int .i64 0, .int .i64 0, .slice ao 0 ca] 47)) := fun u hk => (hk.block _ (lt_of_heap hb) id).trans hb
  obtain ⟨tt, hck⟩ := leaf_tells (w := W) (ao := ao) (ca := ca) HT.out (allR (nx := nx) nu)
  have HCK := hidM hck
  obtain ⟨e0, e1, e2, e3, e4, e5, e6⟩ := cell7 hb
  clear hb hck
  go_enter Tryz.func102, Tryz.ntmps102
  go_wp2_with (go_at_call 86; refine Hid.out ?_)
  unfold Hid
  refine Calls.mono (HCK.out _ HA.out) ?_
  rintro e w1 ⟨vo, vc, rfl, g1, -⟩
  have hfd : ∀ W : World, (Instr.field 61 (.agg #[.int .i64 0, .slice vo 0 vc, .int .i64 tt]) 0).run Tryz.prog W = .ok (.int .i64 0) W := fun W => by kernel_rfl
  have HG1 := hidM g1
  have hf1 := HF.out w1 g1
  clear e0 e1 e2 e3 e4 e5 e6
  obtain ⟨e0, e1, e2, e3, e4, e5, e6⟩ := cell7 hf1
  obtain ⟨V, hV⟩ : ∃ V, (w1.alloc (.cells #[.string (nmB nx), .bool nu, .int .i64 3, .int .i64 0, .int .i64 0, .int .i64 0, .slice ao 0 ca] 47)).alloc (.cells #[.int .i64 0] 3) = V := ⟨_, rfl⟩
  have gv : Gr w1 V := by rw [← hV]; exact (gr_alloc _ _).trans (gr_alloc _ _) (fun _ _ h => h)
  have hz : V.cell? ⟨w1.heap.size + 1, 0, none⟩ = some (.int .i64 0) ∧ V.heap[w1.heap.size]? = some (.cells #[.string (nmB nx), .bool nu, .int .i64 3, .int .i64 0, .int .i64 0, .int .i64 0, .slice ao 0 ca] 47) := by
    have h2 := heap_alloc_new (w1.alloc (.cells #[.string (nmB nx), .bool nu, .int .i64 3, .int .i64 0, .int .i64 0, .int .i64 0, .slice ao 0 ca] 47)) (.cells #[.int .i64 0] 3)
    rw [show (w1.alloc (.cells #[.string (nmB nx), .bool nu, .int .i64 3, .int .i64 0, .int .i64 0, .int .i64 0, .slice ao 0 ca] 47)).heap.size = w1.heap.size + 1 by simp, hV] at h2
    have h1 := ((gr_alloc (w1.alloc (.cells #[.string (nmB nx), .bool nu, .int .i64 3, .int .i64 0, .int .i64 0, .int .i64 0, .slice ao 0 ca] 47)) (.cells #[.int .i64 0] 3)).block _ (lt_of_heap (heap_alloc_new w1 (.cells #[.string (nmB nx), .bool nu, .int .i64 3, .int .i64 0, .int .i64 0, .int .i64 0, .slice ao 0 ca] 47))) id).trans (heap_alloc_new w1 _)
    rw [hV] at h1
    exact ⟨by simp [World.cell?, h2], h1⟩
  have HGV : Hid (Gr A V) := g1.trans gv (fun _ _ h => h)
  have HZ := hidM hz
  clear g1 gv hz hf1
  go_wp2_with (go_at_call 34; refine Hid.out ?_)
  unfold Hid
  refine Calls.mono (at13 nu ao ca w1.heap.size (w1.heap.size + 1) V (HT.out.gr (HA.out.trans HGV.out (fun _ _ h => h))) HZ.out.2 HZ.out.1) ?_
  rintro e w2 ⟨fo, fc, rfl, g2⟩
  have HG2 : Hid (Gr A w2) := HGV.out.trans g2 (fun _ _ h => h)
  have hf2 := HF.out w2 HG2.out
  clear e0 e1 e2 e3 e4 e5 e6 HZ hV hfd g2
  obtain ⟨e0, e1, e2, e3, e4, e5, e6⟩ := cell7 hf2
  have z0 := frz hf2 0
  have z1 := frz hf2 1
  have z2 := frz hf2 2
  have z3 := frz hf2 3
  have z4 := frz hf2 4
  have z5 := frz hf2 5
  have z6 := frz hf2 6
  obtain ⟨U, hU⟩ : ∃ U, setAll w2 W.heap.size [(0, .string (nmB nx)), (1, .bool nu), (2, .int .i64 3), (3, .int .i64 0), (4, .int .i64 0), (5, .int .i64 0), (6, .slice fo 0 fc)] = U := ⟨_, rfl⟩
  have hUb : U.heap[W.heap.size]? = some (.cells #[.string (nmB nx), .bool nu, .int .i64 3, .int .i64 0, .int .i64 0, .int .i64 0, .slice fo 0 fc] 47) := by
    have h := setAll_blk W.heap.size 47 [(0, .string (nmB nx)), (1, .bool nu), (2, .int .i64 3), (3, .int .i64 0), (4, .int .i64 0), (5, .int .i64 0), (6, .slice fo 0 fc)] w2 _ hf2
    rw [hU] at h
    rw [h]
    simp [setsA]
  have HKU : Hid (Gr W U) := by
    rw [← hU]
    exact (HA.out.trans HG2.out (fun _ _ h => h)).trans (setAll_kp _ _ _) (fun j hj e => by have e' : j = W.heap.size := e; omega)
  simp only [setAll] at hU
  obtain ⟨T, hTT⟩ : ∃ T, U.alloc (.cells #[.int .i64 0, .slice none 0 0] 216) = T := ⟨_, rfl⟩
  have HGT : Hid (Gr U T) := by rw [← hTT]; exact gr_alloc U _
  have htb : T.heap[U.heap.size]? = some (.cells #[.int .i64 0, .slice none 0 0] 216) := by rw [← hTT]; exact heap_alloc_new U _
  have HFT : Hid (∀ u, Gr T u → u.heap[W.heap.size]? = some (.cells #[.string (nmB nx), .bool nu, .int .i64 3, .int .i64 0, .int .i64 0, .int .i64 0, .slice fo 0 fc] 47) ∧ u.heap[U.heap.size]? = some (.cells #[.int .i64 0, .slice none 0 0] 216)) := fun u hk => ⟨((HGT.out.trans hk (fun _ _ h => h)).block _ (lt_of_heap hUb) id).trans hUb, (hk.block _ (lt_of_heap htb) id).trans htb⟩
  clear hUb htb hf2
  have HS : Hid (∀ u, Gr T u → u.cell? ⟨W.heap.size, 0, none⟩ = some (.string (nmB nx)) ∧ u.cell? ⟨W.heap.size, 1, none⟩ = some (.bool nu) ∧ u.cell? ⟨W.heap.size, 2, none⟩ = some (.int .i64 3) ∧ u.cell? ⟨W.heap.size, 3, none⟩ = some (.int .i64 0) ∧ u.cell? ⟨W.heap.size, 4, none⟩ = some (.int .i64 0) ∧ u.cell? ⟨W.heap.size, 5, none⟩ = some (.int .i64 0) ∧ u.cell? ⟨W.heap.size, 6, none⟩ = some (.slice fo 0 fc)) := fun u hk => cell7 (HFT.out u hk).1
  have HS0 := hidM (HS.out T.drew gr_drew)
  clear e0 e1 e2 e3 e4 e5 e6
  obtain ⟨e0, e1, e2, e3, e4, e5, e6⟩ := cell7 (HF.out w2 HG2.out)
  go_wp2_with fail
  go_region_held3 (fun w' => w'.cell? ⟨W.heap.size, 0, none⟩ = some (.string (nmB nx)) ∧ w'.cell? ⟨W.heap.size, 1, none⟩ = some (.bool nu) ∧ w'.cell? ⟨W.heap.size, 2, none⟩ = some (.int .i64 3) ∧ w'.cell? ⟨W.heap.size, 3, none⟩ = some (.int .i64 0) ∧ w'.cell? ⟨W.heap.size, 4, none⟩ = some (.int .i64 0) ∧ w'.cell? ⟨W.heap.size, 5, none⟩ = some (.int .i64 0) ∧ w'.cell? ⟨W.heap.size, 6, none⟩ = some (.slice fo 0 fc)) (first | with_reducible exact HS0.out | with_reducible exact HS1.out | exact HS2.out _) ((go_at_call 123; refine (newNode14 nu fo fc U.heap.size _ (HT.out.gr ((HKU.out.trans HGT.out (fun _ _ h => h)).trans gr_drew (fun _ _ h => h)))).mono ?_; rintro e w3 ⟨n, m, rfl, g3, hn, hm, hbn, hbm⟩; have HG3 : Hid (Gr T w3) := Keeps.trans gr_drew g3 (fun _ _ h => h); have HN : Hid (T.heap.size ≤ n ∧ T.heap.size ≤ m) := ⟨hn, hm⟩; have HBN := hidM hbn; have HBM := hidM hbm; have HS1 := hidM (HS.out w3 HG3.out); have HS2 : Hid (∀ o, (w3.alloc o).cell? ⟨W.heap.size, 0, none⟩ = some (.string (nmB nx)) ∧ (w3.alloc o).cell? ⟨W.heap.size, 1, none⟩ = some (.bool nu) ∧ (w3.alloc o).cell? ⟨W.heap.size, 2, none⟩ = some (.int .i64 3) ∧ (w3.alloc o).cell? ⟨W.heap.size, 3, none⟩ = some (.int .i64 0) ∧ (w3.alloc o).cell? ⟨W.heap.size, 4, none⟩ = some (.int .i64 0) ∧ (w3.alloc o).cell? ⟨W.heap.size, 5, none⟩ = some (.int .i64 0) ∧ (w3.alloc o).cell? ⟨W.heap.size, 6, none⟩ = some (.slice fo 0 fc)) := fun o => HS.out _ (HG3.out.alloc o); clear g3 hn hm hbn hbm))
  go_wp2_with fail
  go_ret2
  have g3 : Gr U w3 := HGT.out.trans HG3.out (fun _ _ h => h)
  have h1 := HKU.out.size
  have h2 := g3.size
  have h3 := HGT.out.size
  have hn := HN.out
  refine ⟨_, n, m, U.heap.size, fo, fc, rfl, (HKU.out.trans g3 (fun _ _ h => h)).alloc _, ⟨by omega, by omega, by omega, h1⟩, heap_alloc_new _ _, ((gr_alloc _ _).block _ (lt_of_heap HBN.out) id).trans HBN.out, ((gr_alloc _ _).block _ (lt_of_heap HBM.out) id).trans HBM.out, (HFT.out _ (HG3.out.alloc _)).2⟩
end Go.Proofs.YteggcdhibcjneaaGreatDoor.Kit
