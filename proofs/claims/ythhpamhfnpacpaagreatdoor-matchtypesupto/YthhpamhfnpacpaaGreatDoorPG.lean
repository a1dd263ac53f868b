import Derived.Test.YthhpamhfnpacpaaGreatDoorME
set_option linter.unusedVariables false
set_option linter.unusedSimpArgs false
set_option maxRecDepth 100000
set_option maxHeartbeats 8000000
namespace Go.Proofs.YthhpamhfnpacpaaGreatDoor.Kit
variable {nx : Bool}
open Go.RowKit Go.Shelf Go.Deep
open Kd (Ans cell5 cell2)
attribute [local go_sem] run_store_func
theorem mk95 (w : World) : (Instr.makeSlice 123 (.int .i64 1) (.int .i64 1)).run Tryz.prog w = .ok (.slice (some ⟨w.heap.size, 0, none⟩) 1 1) (w.alloc (.cells #[.pointer none] 138)) := by kernel_rfl
structure Bt (nx : Bool) (W : World) (L g ac db dbc qb bc v2 c2 : Nat) (ao : Option Addr) (ca : Nat) : Prop where
 s : S1f nx W g ac ao ca
 d : W.heap[db]? = some (.cells #[.int .i64 L, .int .i64 0, .int .i64 0, .slice (some ⟨qb, 0, none⟩) 2 bc, .slice none 0 0, .slice none 0 0] 68)
 n : DatN W L qb v2 c2
theorem Bt.gr {W u : World} {L g ac db dbc qb bc v2 c2 : Nat} {ao : Option Addr} {ca : Nat} (h : Bt nx W L g ac db dbc qb bc v2 c2 ao ca) (k : Gr W u) : Bt nx u L g ac db dbc qb bc v2 c2 ao ca := ⟨h.s.gr k, (k.block _ (lt_of_heap h.d) id).trans h.d, h.n.gr k⟩
theorem openedColumns35 (L g ac db dbc qb bc v2 c2 : Nat) (ao : Option Addr) (ca : Nat) (W : World) (hB : Bt nx W L g ac db dbc qb bc v2 c2 ao ca) :
  Calls Tryz.prog 58 #[.agg #[.slice (some ⟨g, 0, none⟩) 1 ac, .slice none 0 0], .agg #[.int .i64 L, .slice (some ⟨db, 0, none⟩) 1 dbc]] W fun e w' => ∃ l a, e = .returned (.tuple #[.slice (some ⟨l, 0, none⟩) 1 1, .int .i64 0]) ∧ OpA nx W w' L v2 c2 a ∧ w'.heap[l]? = some (.cells #[.pointer (some ⟨a, 0, none⟩)] 138) := by
 obtain ⟨A0, hA0, g0, b0⟩ := nw W (.cells #[.slice (some ⟨g, 0, none⟩) 1 ac, .slice none 0 0] 25)
 obtain ⟨A1, hA1, g1, b1⟩ := nw A0 (.cells #[.int .i64 L, .slice (some ⟨db, 0, none⟩) 1 dbc] 28)
 have gW : Gr W A1 := g0.tr g1
 obtain ⟨e0, e1⟩ := cell2 ((g1.block _ (lt_of_heap b0) id).trans b0)
 obtain ⟨f0, f1⟩ := cell2 b1
 have hB1 := hB.gr gW
 obtain ⟨p0, p1, p2, p3, p4, p5, p6⟩ := cell7 hB1.s.f
 obtain ⟨d0, d1, d2, d3, d4, d5⟩ := cell6 hB1.d
 have HSS : Hid (∀ u, Gr A1 u → u.cell? ⟨W.heap.size, 0, none⟩ = some (.slice (some ⟨g, 0, none⟩) 1 ac) ∧ u.cell? ⟨W.heap.size, 1, none⟩ = some (.slice none 0 0) ∧ u.cell? ⟨A0.heap.size, 0, none⟩ = some (.int .i64 L) ∧ u.cell? ⟨A0.heap.size, 1, none⟩ = some (.slice (some ⟨db, 0, none⟩) 1 dbc) ∧ u.cell? ⟨g, 0, none⟩ = some (.string (nmB nx)) ∧ u.cell? ⟨g, 1, none⟩ = some (.bool false) ∧ u.cell? ⟨g, 2, none⟩ = some (.int .i64 3) ∧ u.cell? ⟨g, 3, none⟩ = some (.int .i64 0) ∧ u.cell? ⟨g, 4, none⟩ = some (.int .i64 0) ∧ u.cell? ⟨g, 5, none⟩ = some (.int .i64 0) ∧ u.cell? ⟨g, 6, none⟩ = some (.slice ao 0 ca) ∧ u.cell? ⟨db, 0, none⟩ = some (.int .i64 L) ∧ u.cell? ⟨db, 1, none⟩ = some (.int .i64 0) ∧ u.cell? ⟨db, 2, none⟩ = some (.int .i64 0) ∧ u.cell? ⟨db, 3, none⟩ = some (.slice (some ⟨qb, 0, none⟩) 2 bc) ∧ u.cell? ⟨db, 4, none⟩ = some (.slice none 0 0) ∧ u.cell? ⟨db, 5, none⟩ = some (.slice none 0 0)) := fun u g => ⟨g.cell' e0 id, g.cell' e1 id, g.cell' f0 id, g.cell' f1 id, g.cell' p0 id, g.cell' p1 id, g.cell' p2 id, g.cell' p3 id, g.cell' p4 id, g.cell' p5 id, g.cell' p6 id, g.cell' d0 id, g.cell' d1 id, g.cell' d2 id, g.cell' d3 id, g.cell' d4 id, g.cell' d5 id⟩
 have HC1 := hidM (check17 g ac ao ca A1 hB1.s.T hB1.s.c1 hB1.s.f)
 have HC2 : Hid (∀ u, Gr A1 u → Calls Tryz.prog 82 #[.agg #[.slice (some ⟨g, 0, none⟩) 1 ac, .slice none 0 0], .agg #[.int .i64 L, .slice (some ⟨db, 0, none⟩) 1 dbc]] u fun e w' => e = .returned (.bool true) ∧ Gr u w') := fun u k => hasColumns58 L g ac db dbc qb bc (by have := hB.n.hL; omega) u (hB1.gr k).d
 have HC3 : Hid (∀ u, Gr A1 u → Calls Tryz.prog 83 #[.agg #[.string (nmB nx), .bool false, .int .i64 3, .int .i64 0, .int .i64 0, .int .i64 0, .slice ao 0 ca], .agg #[.int .i64 L, .int .i64 0, .int .i64 0, .slice (some ⟨qb, 0, none⟩) 2 bc, .slice none 0 0, .slice none 0 0]] u fun e w' => ∃ a, e = .returned (.tuple #[.pointer (some ⟨a, 0, none⟩), .int .i64 0]) ∧ OpA nx u w' L v2 c2 a) := fun u k => opened59 L qb bc v2 c2 ao ca u (hB1.gr k).n
 have HG := hidM gW
 have hfl := fld52
 have hmk := mk95
 clear g0 b0 g1 b1 gW hB hB1 p0 p1 p2 p3 p4 p5 p6 d0 d1 d2 d3 d4 d5
 go_enter Tryz.func58, Tryz.ntmps58
 go_wp2_with (first
  | (go_at_call 21; refine HC1.out.mono ?_; rintro e w1 ⟨vo1, vn1, vc1, tt1, rfl, g1⟩; have HG1 := hidM g1; clear e0 e1 f0 f1 hA0 hA1; obtain ⟨e0, e1, f0, f1, -⟩ := HSS.out w1 g1; clear g1)
  | (go_at_call 82; refine (HC2.out w1 HG1.out).mono ?_; rintro e w2 ⟨rfl, g2⟩; have g3 := HG1.out.tr g2; clear e0 e1 f0 f1; obtain ⟨e0, e1, f0, f1, -⟩ := HSS.out w2 g3; obtain ⟨A3, hA3⟩ := ex (w2.alloc (.cells #[.pointer none] 138)); have gA3 := gr_al hA3; have hb3 := al_new hA3; have HG3 := hidM (g3.tr gA3); have HB3 := hidM hb3; have HWL := hidM (HG.out.tr g3).size; obtain ⟨k0, k1, k2, k3, -⟩ := HSS.out A3 HG3.out; clear g2 g3 gA3 hb3))
 clear e0 e1 f0 f1 k0 k1 k2 k3
 obtain ⟨l, hl⟩ := ex (w2.heap.size)
 rw [hl] at HB3 HWL
 rw [hl]
 clear hl hA3
 go_loopw [26] (fun i wr => ∃ k : Nat, k ≤ 1 ∧ i = .int .i64 k ∧ Hid ((k = 0 ∧ wr = A3) ∨ (k = 1 ∧ ∃ a, OpA nx W wr L v2 c2 a ∧ wr.heap[l]? = some (.cells #[.pointer (some ⟨a, 0, none⟩)] 138)))) (fun i _ => 1 - (intOf i).toNat)
 case atStart => exact ⟨0, by omega, rfl, .inl ⟨rfl, rfl⟩⟩
 case round =>
  obtain ⟨k, hk, rfl, HR⟩ := hrel
  rcases HR.out with ⟨rfl, rfl⟩ | ⟨rfl, a, hO, hla⟩
  ·clear HR
   obtain ⟨e0, e1, f0, f1, p0, p1, p2, p3, p4, p5, p6, d0, d1, d2, d3, d4, d5⟩ := HSS.out wr HG3.out
   obtain ⟨A4, hA4, g4, b4⟩ := nw wr (.cells #[.int .i64 L, .int .i64 0, .int .i64 0, .slice (some ⟨qb, 0, none⟩) 2 bc, .slice none 0 0, .slice none 0 0] 68)
   have HS4 : Hid (∀ u, Gr A4 u → u.cell? ⟨W.heap.size, 0, none⟩ = some (.slice (some ⟨g, 0, none⟩) 1 ac) ∧ u.cell? ⟨g, 0, none⟩ = some (.string (nmB nx)) ∧ u.cell? ⟨g, 1, none⟩ = some (.bool false) ∧ u.cell? ⟨g, 2, none⟩ = some (.int .i64 3) ∧ u.cell? ⟨g, 3, none⟩ = some (.int .i64 0) ∧ u.cell? ⟨g, 4, none⟩ = some (.int .i64 0) ∧ u.cell? ⟨g, 5, none⟩ = some (.int .i64 0) ∧ u.cell? ⟨g, 6, none⟩ = some (.slice ao 0 ca) ∧ u.cell? ⟨wr.heap.size, 0, none⟩ = some (.int .i64 L) ∧ u.cell? ⟨wr.heap.size, 1, none⟩ = some (.int .i64 0) ∧ u.cell? ⟨wr.heap.size, 2, none⟩ = some (.int .i64 0) ∧ u.cell? ⟨wr.heap.size, 3, none⟩ = some (.slice (some ⟨qb, 0, none⟩) 2 bc) ∧ u.cell? ⟨wr.heap.size, 4, none⟩ = some (.slice none 0 0) ∧ u.cell? ⟨wr.heap.size, 5, none⟩ = some (.slice none 0 0)) := fun u k => by
    obtain ⟨x0, x1, x2, x3, x4, x5⟩ := cell6 b4
    have k' := g4.tr k
    exact ⟨k'.cell' e0 id, k'.cell' p0 id, k'.cell' p1 id, k'.cell' p2 id, k'.cell' p3 id, k'.cell' p4 id, k'.cell' p5 id, k'.cell' p6 id, k.cell' x0 id, k.cell' x1 id, k.cell' x2 id, k.cell' x3 id, k.cell' x4 id, k.cell' x5 id⟩
   have HG4 := hidM (HG3.out.tr g4)
   have HSd := hidM (HS4.out A4.drew gr_drew)
   have HU : Hid (∀ w5 a, OpA nx A4.drew w5 L v2 c2 a → w5.heap[l]? = some (.cells #[.pointer none] 138) ∧ OpA nx W (w5.setCell ⟨l, 0, none⟩ (.pointer (some ⟨a, 0, none⟩))) L v2 c2 a ∧ (w5.setCell ⟨l, 0, none⟩ (.pointer (some ⟨a, 0, none⟩))).heap[l]? = some (.cells #[.pointer (some ⟨a, 0, none⟩)] 138)) := fun w5 a hO => by
    have hl5 := (hO.g.block _ (lt_of_heap (((g4.tr gr_drew).block _ (lt_of_heap HB3.out) id).trans HB3.out)) id).trans (((g4.tr gr_drew).block _ (lt_of_heap HB3.out) id).trans HB3.out)
    refine ⟨hl5, ?_, by rw [heap_setCell_same _ l 0 _ _ _ hl5]; rfl⟩
    have hlw := lt_of_heap HB3.out
    have h44 := g4.size
    have hdr : A4.heap.size ≤ A4.drew.heap.size := (gr_drew (w := A4)).size
    have hwl := HWL.out
    have gW5 : Gr W w5 := (HG.out.tr (HG4.out.tr (gr_drew (w := A4)))).tr hO.g
    have k5 : Keeps w5 (w5.setCell ⟨l, 0, none⟩ (.pointer (some ⟨a, 0, none⟩))) (fun z => z = l) := Keeps.setCell (S := fun z => z = l) (p := ⟨l, 0, none⟩) (Keeps.refl w5 _) (fun _ => rfl) _
    obtain ⟨q, r, rc, fo, fc, ⟨h1, h2, h3⟩, h4, h5⟩ := hO.p
    have hw := gW5.size
    have hsA := HG4.out.size
    have hs1 := HG.out.size
    refine ⟨gW5.trans k5 (fun j hj (e : j = l) => by omega), q, r, rc, fo, fc, ⟨by omega, by omega, by omega⟩, h4.kp k5 (fun e => by have e' : q = l := e; omega) (fun e => by have e' : r = l := e; omega), ?_⟩
    exact (k5.block a (lt_of_heap h5) (fun e => by have e' : a = l := e; omega)).trans h5
   have z := frzA b4
   have i0 := set_id (j := 0) (v := .int .i64 L) b4 rfl
   have i1 := set_id (j := 1) (v := .int .i64 0) b4 rfl
   have i2 := set_id (j := 2) (v := .int .i64 0) b4 rfl
   have i3 := set_id (j := 3) (v := .slice (some ⟨qb, 0, none⟩) 2 bc) b4 rfl
   have i4 := set_id (j := 4) (v := .slice none 0 0) b4 rfl
   have i5 := set_id (j := 5) (v := .slice none 0 0) b4 rfl
   obtain ⟨y0, y1, y2, y3, y4, y5⟩ := cell6 b4
   clear g4 b4
   go_wp2_with fail
   clear y0 y1 y2 y3 y4 y5 i0 i1 i2 i3 i4 i5 z e0 e1 f0 f1 p0 p1 p2 p3 p4 p5 p6 d0 d1 d2 d3 d4 d5
   go_region_held3 (fun u => u.cell? ⟨W.heap.size, 0, none⟩ = some (.slice (some ⟨g, 0, none⟩) 1 ac) ∧ u.cell? ⟨g, 0, none⟩ = some (.string (nmB nx)) ∧ u.cell? ⟨g, 1, none⟩ = some (.bool false) ∧ u.cell? ⟨g, 2, none⟩ = some (.int .i64 3) ∧ u.cell? ⟨g, 3, none⟩ = some (.int .i64 0) ∧ u.cell? ⟨g, 4, none⟩ = some (.int .i64 0) ∧ u.cell? ⟨g, 5, none⟩ = some (.int .i64 0) ∧ u.cell? ⟨g, 6, none⟩ = some (.slice ao 0 ca) ∧ u.cell? ⟨wr.heap.size, 0, none⟩ = some (.int .i64 L) ∧ u.cell? ⟨wr.heap.size, 1, none⟩ = some (.int .i64 0) ∧ u.cell? ⟨wr.heap.size, 2, none⟩ = some (.int .i64 0) ∧ u.cell? ⟨wr.heap.size, 3, none⟩ = some (.slice (some ⟨qb, 0, none⟩) 2 bc) ∧ u.cell? ⟨wr.heap.size, 4, none⟩ = some (.slice none 0 0) ∧ u.cell? ⟨wr.heap.size, 5, none⟩ = some (.slice none 0 0)) (first | with_reducible exact HSd.out | with_reducible exact HS5.out) ((go_at_call 83; refine (HC3.out A4.drew (HG4.out.tr gr_drew)).mono ?_; rintro e w5 ⟨a, rfl, hO⟩; have HS5 := hidM (HS4.out w5 ((gr_drew (w := A4)).tr hO.g)); obtain ⟨hl5, hu5, hv5⟩ := HU.out w5 a hO; have HU5 := hidM hu5; have HV5 := hidM hv5; have c5 := cell1 hl5; have z5 := frz hl5 0; clear hO hl5 hu5 hv5))
   go_wp2_with fail
   go_roundw
   case rel => exact ⟨1, by omega, by go_num, .inr ⟨rfl, a, HU5.out, HV5.out⟩⟩
   case measure => simp [intOf]
  have HE : Hid (OpA nx W wr L v2 c2 a ∧ wr.heap[l]? = some (.cells #[.pointer (some ⟨a, 0, none⟩)] 138)) := ⟨hO, hla⟩
  clear HR hO hla
  go_wp2_with fail
  go_ret2
  exact ⟨l, a, rfl, HE.out⟩
attribute [local go_sem] Oper.semAt_some
theorem values37 (o : Option Addr) (n c : Nat) (W : World) : Calls Tryz.prog 60 #[.slice o n c] W fun e w' => e = .returned (.func (.func 84) #[] #[.pointer (some ⟨W.heap.size, 0, none⟩)]) ∧ w' = W.alloc (.cells #[.slice o n c] 29) := by
 have hmf := mkf
 go_enter Tryz.func60, Tryz.ntmps60
 go_wp2_with fail
 go_ret
 exact ⟨rfl, rfl⟩
theorem nil60_seq (n b : Nat) (w : World) (hb : w.heap[b]? = some (.cells #[.slice none 0 0] 29)) :
  SeqOwn n Tryz.prog 84 #[.pointer (some ⟨b, 0, none⟩)] (fun (x : Int) => #[.int .i64 x]) (fun _ _ _ _ => False) (fun z => z = b) (fun ys => ys = []) (fun _ => True) w := by
 intro lp J Jx W hW hJ hJx hY h0
 have c0 : W.cell? ⟨b, 0, none⟩ = some (.slice none 0 0) := by simp [World.cell?, hW.block b (lt_of_heap hb) id, hb]
 have HE : Hid (J (fun _ => False) [] W) := h0
 clear hW hJ hJx hY h0 hb
 refine callsIn_of_wp Tryz.func84 rfl trivial ?_ rfl
 simp only [Tryz.ntmps84, List.size_toArray, List.length_cons, List.length_nil, Nat.reduceAdd, Nat.reduceSub, Array.replicate_succ, Array.replicate_zero, List.push_toArray, List.append_toArray, List.nil_append, List.cons_append]
 gi_wp2
 gi_loopw [7] (fun p wr => p = .int .i64 0 ∧ wr = W) (fun _ _ => 0)
 case atStart => exact ⟨rfl, rfl⟩
 case round =>
  obtain ⟨rfl, rfl⟩ := hrel
  gi_wp2
  go_end0
  exact ⟨⟨_, rfl⟩, .inl ⟨_, _, rfl, HE.out⟩⟩
theorem range_nil {g : Operand} {ps : Array Tmp} {assign body : Code} {Q : Exit → Act → World → Prop} {a : Act} {w : World} {b : Nat}
  (hg : a.eval g = .func (.func 84) #[] #[.pointer (some ⟨b, 0, none⟩)]) (hb : w.heap[b]? = some (.cells #[.slice none 0 0] 29)) (hps : 1 = ps.size)
  (hassign : ∀ (l : Nat) (x : Int) (W : World) (K : Act → World → Prop), (∀ a' W', Keeps W W' (fun _ => False) → True → K a' W') →
   assign.wpIn (Fence.wide.inRound l) (10 - 1 - 1) Tryz.prog (Exit.then K (fun _ _ _ => False)) { tmps := (ps.zip #[.int .i64 x]).foldl (fun t (p, v) => t.setIfInBounds p v) a.tmps, defers := [] } W)
  (hdone : ∀ W, Gr w W → w.heap.size + 2 ≤ W.heap.size → W.heap[w.heap.size]? = some (.deferred (some [])) → Q .normal { a with defers := { target := .collected w.heap.size, args := #[] } :: a.defers } W) :
  (Code.rangeFunc g ps assign body).wpIn Fence.wide 10 Tryz.prog Q a w := by
 refine rangeX (by decide) (gf := 84) (lb := #[.pointer (some ⟨b, 0, none⟩)]) hg (enters_of Tryz.func84 (by kernel_rfl) rfl) (nil60_seq (10 - 1) b w hb) (fun _ => hps) (fun z h => by have h' : z = b := h; rw [h']; exact lt_of_heap hb) (fun O pre x A B h k => h)
  (fun _ => False) (fun z h => h.elim) (fun _ A => Gr w A) (fun pre A B h hz hB => gr_below h (Nat.le_refl _) hB) (fun _ _ _ => False) (fun c pre A B h k => h) (Keeps.refl w _) (fun _ _ _ => True) (fun _ _ _ _ _ _ => trivial) ?_ ?_ ?_ ?_
 ·intro l x W K _ hK
  exact hassign l x W K hK
 ·intro l O pre x a' W _ h
  exact h.elim
 ·intro xs W _ hI hz hd
  exact hdone W hI hz hd
 intro c pre W _ h
 exact h.elim
theorem wrong36 (b : Nat) (n : Int) (bl : Bool) (W : World) (hb : W.heap[b]? = some (.cells #[.slice none 0 0] 29)) : Calls Tryz.prog 59 #[.func (.func 84) #[] #[.pointer (some ⟨b, 0, none⟩)], .int .i64 n, .bool bl] W fun e w' => e = .returned (.int .i64 0) ∧ Gr W w' := by
 obtain ⟨A0, hA0, g0, b0⟩ := nw W (.cells #[.int .i64 n] 3)
 obtain ⟨A1, hA1, g1, b1⟩ := nw A0 (.cells #[.bool bl] 4)
 obtain ⟨A2, hA2, g2, b2⟩ := nw A1 (.cells #[.int .i64 0] 33)
 have gW : Gr W A2 := (g0.tr g1).tr g2
 have hb2 := (gW.block _ (lt_of_heap hb) id).trans hb
 have HB := hidM b2
 have HG := hidM gW
 have HB2 := hidM hb2
 clear g0 b0 g1 b1 g2 b2 gW hb hb2
 refine (callsIn_wide (n := 10)).1 ?_
 refine callsIn_of_wp_marks Tryz.func59 rfl trivial ?_ rfl
 simp only [Tryz.ntmps59, List.size_toArray, List.length_cons, List.length_nil, Nat.reduceAdd, Nat.reduceSub, Array.replicate_succ, Array.replicate_zero, List.push_toArray, List.append_toArray, List.nil_append, List.cons_append]
 refine wpIn_wide.2 ?_
 go_wp2_with fail
 refine (wpIn_wide (n := 10)).1 ?_
 refine range_nil rfl HB2.out rfl ?_ ?_
 ·intro l x Wr K hK
  gi_wp2
  exact hK _ _ (Keeps.refl _ _) trivial
 intro Wr hg hz hd
 have hbr := (hg.block _ (lt_of_heap HB.out) id).trans HB.out
 have c0 := cell1 hbr
 have z0 := frz hbr 0
 have i0 := set_id (j := 0) (v := .int .i64 0) hbr rfl
 have hAr : A1.heap.size < A2.heap.size := lt_of_heap HB.out
 have HD := hidM hd
 have HE : Hid (Gr W (Wr.putObj A2.heap.size (.deferred none)) ∧ (Wr.putObj A2.heap.size (.deferred none)).heap[A1.heap.size]? = some (.cells #[.int .i64 0] 33)) := by
  have h2 := HG.out.size
  refine ⟨(HG.out.tr hg).trans (T := fun k => k = A2.heap.size) (keeps_put _ _ _) (fun j hj h => by have h' : j = A2.heap.size := h; omega), (World.putObj_heap_other (by omega)).trans hbr⟩
 clear hbr hd hz hg hAr
 go_wp2_with fail
 refine ⟨by simp, .inl ⟨_, _, rfl, run_takeDeferred HD.out, ?_⟩⟩
 have c9 := cell1 HE.out.2
 refine ⟨.int .i64 0, ?_, rfl, HE.out.1⟩
 simp [results, Tryz.f59, go_sem, c9]
attribute [local go_sem] Oper.semAt_some
theorem reader101 (a : Nat) (W : World) : Calls Tryz.prog 118 #[.pointer (some ⟨a, 0, none⟩)] W fun e w' => (∃ p q, e = .returned (.func (.func 137) #[] #[.pointer (some ⟨p, 0, none⟩), .pointer (some ⟨q, 0, none⟩)])) ∧ Gr W w' := by
 have hmf := mkf
 obtain ⟨A0, hA0⟩ := ex (W.alloc (.cells #[.pointer (some ⟨a, 0, none⟩)] 138))
 have g0 := gr_al hA0
 have b0 : A0.heap[W.heap.size]? = some (.cells #[.pointer (some ⟨a, 0, none⟩)] 138) := by rw [← hA0]; exact heap_alloc_new W _
 obtain ⟨A1, hA1⟩ := ex (A0.alloc (.map #[] 0))
 have g1 := gr_al hA1
 obtain ⟨A2, hA2, g2, b2⟩ := nw A1 (.cells #[.map (some A0.heap.size)] 221)
 have HG : Hid (Gr W A2) := (g0.tr g1).tr g2
 have c0 := cell1 b2
 have z0 := frz b2 0
 have i0 := set_id (j := 0) (v := .map (some A0.heap.size)) b2 rfl
 have hmm := @run_makeMap Tryz.prog
 clear g0 b0 g1 g2 b2
 go_enter Tryz.func118, Tryz.ntmps118
 go_wp2_with fail
 go_ret
 exact ⟨⟨_, _, rfl⟩, HG.out⟩
theorem each78 (a b c : Nat) (W : World) (hb : W.heap[b]? = some (.cells #[.slice none 0 0] 29)) : Calls Tryz.prog 101 #[.pointer (some ⟨a, 0, none⟩), .func (.func 84) #[] #[.pointer (some ⟨b, 0, none⟩)], .func (.func 102) #[] #[.pointer (some ⟨c, 0, none⟩)]] W fun e w' => (∃ v, e = .returned v) ∧ Gr W w' := by
 obtain ⟨A0, hA0⟩ := ex (W.alloc (.cells #[.func (.func 102) #[] #[.pointer (some ⟨c, 0, none⟩)]] 177))
 have g0 := gr_al hA0
 have b0 : A0.heap[W.heap.size]? = some (.cells #[.func (.func 102) #[] #[.pointer (some ⟨c, 0, none⟩)]] 177) := by rw [← hA0]; exact heap_alloc_new W _
 have HG := hidM g0
 have HB := hidM ((g0.block _ (lt_of_heap hb) id).trans hb)
 have HX : Hid (∀ (w1 : World) (p q : Nat), Gr A0 w1 → (w1.alloc (.cells #[.func (.func 137) #[] #[.pointer (some ⟨p, 0, none⟩), .pointer (some ⟨q, 0, none⟩)]] 197)).heap[w1.heap.size]? = some (.cells #[.func (.func 137) #[] #[.pointer (some ⟨p, 0, none⟩), .pointer (some ⟨q, 0, none⟩)]] 197) ∧ Gr A0 (w1.alloc (.cells #[.func (.func 137) #[] #[.pointer (some ⟨p, 0, none⟩), .pointer (some ⟨q, 0, none⟩)]] 197))) := fun w1 p q g => ⟨heap_alloc_new _ _, g.alloc _⟩
 clear g0 b0 hb
 refine (callsIn_wide (n := 10)).1 ?_
 refine callsIn_of_wp_marks Tryz.func101 rfl trivial ?_ rfl
 simp only [Tryz.ntmps101, List.size_toArray, List.length_cons, List.length_nil, Nat.reduceAdd, Nat.reduceSub, Array.replicate_succ, Array.replicate_zero, List.push_toArray, List.append_toArray, List.nil_append, List.cons_append]
 refine wpIn_wide.2 ?_
 go_wp2_with (go_at_call 118; refine (reader101 _ _).mono ?_; rintro e w1 ⟨⟨p, q, rfl⟩, g1⟩; obtain ⟨hv, gv⟩ := HX.out w1 p q g1; obtain ⟨V, hV⟩ := ex (w1.alloc (.cells #[.func (.func 137) #[] #[.pointer (some ⟨p, 0, none⟩), .pointer (some ⟨q, 0, none⟩)]] 197)); rw [hV] at hv gv; have y0 := cell1 hv; have z0 := frz hv 0; have i0 := set_id (j := 0) (v := .func (.func 137) #[] #[.pointer (some ⟨p, 0, none⟩), .pointer (some ⟨q, 0, none⟩)]) hv rfl; have HGV := hidM (HG.out.tr gv); have HBV := hidM ((gv.block _ (lt_of_heap HB.out) id).trans HB.out); clear g1 hv gv)
 refine (wpIn_wide (n := 10)).1 ?_
 refine range_nil rfl HBV.out rfl ?_ ?_
 ·intro l x Wr K hK
  gi_wp2
  exact hK _ _ (Keeps.refl _ _) trivial
 intro Wr hg hz hd
 have HD := hidM hd
 have HE : Hid (Gr W (Wr.putObj V.heap.size (.deferred none))) := by
  have h2 := HGV.out.size
  exact (HGV.out.tr hg).trans (T := fun k => k = V.heap.size) (keeps_put _ _ _) (fun j hj h => by have h' : j = V.heap.size := h; omega)
 clear hd hz hg
 go_wp2_with fail
 refine ⟨by simp, .inl ⟨_, _, rfl, run_takeDeferred HD.out, ?_⟩⟩
 refine ⟨.tuple #[], ?_, ⟨_, rfl⟩, HE.out⟩
 simp [results, Tryz.f101, go_sem]
open Go.Proofs.YthhpamhfnpacpaaGreatDoor.Ink (OwnRow)
theorem results_cell31tt {fn : Func} {t u v : Tmp} {tmps : Array Value} {g : Nat} {cs : Array Value} {w : World} (h : fn.results = #[.cell t 68, .tmp u, .tmp v]) (ht : tmps.getD t undef = .pointer (some ⟨g, 0, none⟩)) (hg : w.heap[g]? = some (.cells cs 68 (0, 0))) (hi : (Tryz.prog.info? 68).map (·.size) = some cs.size) :
  (results fn tmps).run Tryz.prog w = .ok (.tuple #[.agg cs, tmps.getD u undef, tmps.getD v undef]) w := by
 have hl := run_loadVar_row (P := Tryz.prog) w g 68 68 cs (0, 0) _ hg Tryz.underlying68 rfl hi
 unfold results
 rw [h]
 simp only [Array.mapM_eq_mapM_toList, List.mapM_cons, List.mapM_nil, ht]
 simp [asAddr, hl]
theorem MaskQ.gr2 {W U w' u : World} {bs : List Bool} {v : Value} (h : MaskQ U w' bs v) (g0 : Gr W U) (g : Keeps w' u (fun z => ∃ c t, w'.heap[z]? = some (.cells c t) ∧ t ≠ 5 ∧ t ≠ 65)) (gu : Gr W u) : MaskQ W u bs v := by
 unfold MaskQ at *
 by_cases hz : offs bs = 0
 ·rw [if_pos hz] at *; exact h
 rw [if_neg hz] at *
 refine ⟨row_kp h.1 fun q e => g.block q (own_lt h.1 q e) (fun ⟨c, t, hc, h5, _⟩ => ?_), fun q e => Nat.le_trans g0.size (h.2.1 q e), gu⟩
 exact own_ne hc h.1 h5 e
theorem DatA.gr2 {W U w' u : World} {L : Nat} {bs : List Bool} {xs : List Int} {bo : Option Addr} {bc : Nat} (h : DatA U w' L bs xs bo bc) (g0 : Gr W U) (g : Keeps w' u (fun z => ∃ c t, w'.heap[z]? = some (.cells c t) ∧ t ≠ 5 ∧ t ≠ 65)) (gu : Gr W u) : DatA W u L bs xs bo bc := by
 obtain ⟨val, q, h1, h2, h3, h4, h5⟩ := h
 refine ⟨val, q, h1.gr2 g0 g gu, row_kp h2 fun q e => g.block q (own_lt h2 q e) (fun ⟨c, t, hc, _, h8⟩ => own_ne hc h2 h8 e), fun q e => Nat.le_trans g0.size (h3 q e), ?_, Nat.le_trans g0.size h5⟩
 refine (g.block q (lt_of_heap h4) (fun ⟨c, t, hc, h5, _⟩ => ?_)).trans h4
 rw [h4] at hc
 simp at hc
 exact h5 hc.2.symm
def VAt (W : World) (la : Option Addr) (vs : List (Bool × Int)) : Prop := ∀ k vn x, vs[k]? = some (vn, x) → ∃ lb xo xc, la = some ⟨lb, 0, none⟩ ∧ W.cell? ⟨lb, k * 4, none⟩ = some (.bool vn) ∧ W.cell? ⟨lb, k * 4 + 1, none⟩ = some (.int .i64 x) ∧ W.cell? ⟨lb, k * 4 + 2, none⟩ = some (.string ⟨#[]⟩) ∧ W.cell? ⟨lb, k * 4 + 3, none⟩ = some (.slice xo 0 xc)
theorem VAt.gr {W u : World} {la : Option Addr} {vs : List (Bool × Int)} (h : VAt W la vs) (g : Gr W u) : VAt u la vs := fun k vn x e => by
 obtain ⟨lb, xo, xc, e0, e1, e2, e3, e4⟩ := h k vn x e
 exact ⟨lb, xo, xc, e0, g.cell' e1 id, g.cell' e2 id, g.cell' e3 id, g.cell' e4 id⟩
def bsOf (vs : List (Bool × Int)) : List Bool := vs.map fun y => !y.1
def xsOf (vs : List (Bool × Int)) : List Int := vs.map fun y => y.2
def OfI (nx : Bool) (A wr : World) (p n m t : Nat) (nu : Bool) (fo : Option Addr) (fc : Nat) (vs : List (Bool × Int)) (k : Nat) : Prop := Gr A wr ∧ wr.heap[p]? = some (.cells (bdC nx nu fo fc n t k) 231) ∧ (∃ vo vc lo lc, Nd A.heap.size wr n m t nu ((16 * k : Nat) : Int) vo k vc ((bsOf (vs.take k)).map Value.bool) lo lc ((xsOf (vs.take k)).map iv)) ∧ ∀ y ∈ vs.take k, fitN nu 3 y.1 y.2 = true
def OfA (W : World) (nu : Bool) (vs : List (Bool × Int)) (e : Ending) (w' : World) : Prop := Gr W w' ∧
 ((∃ bo bc, (∀ y ∈ vs, fitN nu 3 y.1 y.2 = true) ∧ e = .returned (.tuple #[.agg (dC vs.length (offs (bsOf vs)) (.slice bo 2 bc)), .int .i64 0, .int .i64 0]) ∧ DatA W w' vs.length (bsOf vs) (xsOf vs) bo bc) ∨
  ∃ (k : Nat) (y : Bool × Int), vs[k]? = some y ∧ fitN nu 3 y.1 y.2 = false ∧ (∀ y ∈ vs.take k, fitN nu 3 y.1 y.2 = true) ∧ e = .returned (.tuple #[.agg (dC 0 0 (.slice none 0 0)), .int .i64 7, .int .i64 k]))
theorem of_tail {W A wr X w9 : World} {p n t : Nat} {nu : Bool} {fo : Option Addr} {fc : Nat} {rows : Int} {L N : Nat} {bs : List Bool} {xs : List Int} {bo : Option Addr} {bc : Nat} (gA : Gr W A) (hsz : A.heap.size = W.heap.size + 2) (hr : A.heap[W.heap.size + 1]? = some (.cells (dC 0 0 (.slice none 0 0)) 68)) (gr : Gr A wr) (hp : A.heap.size ≤ p) (hpw : wr.heap[p]? = some (.cells (bdC nx nu fo fc n t rows) 231)) (hK : Keeps wr w9 (fun z => z = p)) (gX : Gr wr X) (kX : Keeps X w9 (fun z => z = p)) (hD : DatA wr X L bs xs bo bc) :
  (w9.alloc (.cells (dC L N (.slice bo 2 bc)) 68)).heap[w9.heap.size]? = some (.cells (dC L N (.slice bo 2 bc)) 68) ∧ (w9.alloc (.cells (dC L N (.slice bo 2 bc)) 68)).heap[W.heap.size + 1]? = some (.cells (dC 0 0 (.slice none 0 0)) 68) ∧ (mkU (w9.alloc (.cells (dC L N (.slice bo 2 bc)) 68)) (W.heap.size + 1) L N (.slice bo 2 bc)).heap[W.heap.size + 1]? = some (.cells (dC L N (.slice bo 2 bc)) 68) ∧ Gr W (mkU (w9.alloc (.cells (dC L N (.slice bo 2 bc)) 68)) (W.heap.size + 1) L N (.slice bo 2 bc)) ∧ DatA W (mkU (w9.alloc (.cells (dC L N (.slice bo 2 bc)) 68)) (W.heap.size + 1) L N (.slice bo 2 bc)) L bs xs bo bc := by
 have gWr : Gr W wr := gA.tr gr
 have gA9 : Gr A w9 := gr.trans hK (fun j hj (e : j = p) => by omega)
 have gW9 : Gr W w9 := gA.tr gA9
 have hpX := (gX.block p (lt_of_heap hpw) id).trans hpw
 have hD9 : DatA W w9 L bs xs bo bc := hD.gr2 gWr (kX.mono fun j hj e => ⟨bdC nx nu fo fc n t rows, 231, by have e' : j = p := e; subst e'; exact hpX, by decide, by decide⟩) gW9
 obtain ⟨V, hV⟩ := ex (w9.alloc (.cells (dC L N (.slice bo 2 bc)) 68))
 have g9V := gr_al hV
 have gV : Gr W V := gW9.tr g9V
 have hrV := ((gA9.tr g9V).block _ (by omega) id).trans hr
 have hd : V.heap[w9.heap.size]? = some (.cells (dC L N (.slice bo 2 bc)) 68) := by rw [← hV]; exact heap_alloc_new w9 _
 rw [hV]
 exact ⟨hd, hrV, mk_store gV (by omega) hrV (hD9.gr2 (Keeps.refl W _) (g9V.mono fun _ _ h => h.elim) gV)⟩
theorem of5 (nu : Bool) (ao : Option Addr) (ca : Nat) (la : Option Addr) (lcap : Nat) (vs : List (Bool × Int)) (W : World) (hT : Tab W) (hV : VAt W la vs) (hL : vs.length ≤ 3000) :
  Calls Tryz.prog 103 #[.agg #[.string (nmB nx), .bool nu, .int .i64 3, .int .i64 0, .int .i64 0, .int .i64 0, .slice ao 0 ca], .slice la vs.length lcap] W (OfA W nu vs) := by
 obtain ⟨Ln, hLn⟩ := ex (vs.length)
 rw [hLn] at hL ⊢
 obtain ⟨A, hA⟩ := ex ((W.alloc (.cells #[.string (nmB nx), .bool nu, .int .i64 3, .int .i64 0, .int .i64 0, .int .i64 0, .slice ao 0 ca] 58)).alloc (.cells (dC 0 0 (.slice none 0 0)) 68))
 have gA : Gr W A := by rw [← hA]; exact (gr_alloc W _).tr (gr_alloc _ _)
 have hsz : A.heap.size = W.heap.size + 2 := by rw [← hA]; simp
 have hb2 : A.heap[W.heap.size + 1]? = some (.cells (dC 0 0 (.slice none 0 0)) 68) := by
  have e2 := heap_alloc_new (W.alloc (.cells #[.string (nmB nx), .bool nu, .int .i64 3, .int .i64 0, .int .i64 0, .int .i64 0, .slice ao 0 ca] 58)) (.cells (dC 0 0 (.slice none 0 0)) 68)
  rw [show (W.alloc (.cells #[.string (nmB nx), .bool nu, .int .i64 3, .int .i64 0, .int .i64 0, .int .i64 0, .slice ao 0 ca] 58)).heap.size = W.heap.size + 1 by simp, hA] at e2
  exact e2
 have hb1 : A.heap[W.heap.size]? = some (.cells #[.string (nmB nx), .bool nu, .int .i64 3, .int .i64 0, .int .i64 0, .int .i64 0, .slice ao 0 ca] 58) := by
  have e1 := heap_alloc_new W (.cells #[.string (nmB nx), .bool nu, .int .i64 3, .int .i64 0, .int .i64 0, .int .i64 0, .slice ao 0 ca] 58)
  rw [← hA]
  exact ((gr_alloc _ _).block _ (lt_of_heap e1) id).trans e1
 have HNew : Hid (Calls Tryz.prog 119 #[.agg #[.string (nmB nx), .bool nu, .int .i64 3, .int .i64 0, .int .i64 0, .int .i64 0, .slice ao 0 ca]] A fun e w1 => ∃ p n m t fo fc, e = .returned (.tuple #[.pointer (some ⟨p, 0, none⟩), .int .i64 0]) ∧ A.heap.size ≤ p ∧ OfI nx A w1 p n m t nu fo fc vs 0) := by
  refine (new7 nu ao ca A (hT.gr gA)).mono ?_
  rintro e w1 ⟨p, n, m, t, fo, fc, rfl, g1, hlow, hb⟩
  exact ⟨p, n, m, t, fo, fc, rfl, hlow.1, g1, hb.hp, ⟨none, 0, none, 0, hb.hn, hb.hm, hb.ht, ⟨rfl, .inl ⟨rfl, rfl⟩⟩, ⟨rfl, .inl ⟨rfl, rfl⟩⟩, ⟨hlow.2.1, hlow.2.2.1, hlow.2.2.2⟩, fun g e => by simp [Value.ownBlock] at e, fun g e => by simp [Value.ownBlock] at e⟩, by simp⟩
 have HTA := hidM (hT.gr gA)
 have HVA := hidM (hV.gr gA)
 have HGA := hidM gA
 have HSZ := hidM hsz
 have HR := hidM hb2
 have HLn := hidM hLn
 obtain ⟨a0, a1, a2, a3, a4, a5, a6⟩ := cell7 hb1
 clear hT hV gA hsz hb2 hb1 hLn
 unfold dC at hA
 go_enter Tryz.func103, Tryz.ntmps103
 go_wp2_with (go_at_call 119; refine HNew.out.mono ?_; rintro e w1 ⟨p, n, m, t, fo, fc, rfl, hp, hI⟩; have HP := hidM hp; have HI0 := hidM hI; clear hp hI hA a0 a1 a2 a3 a4 a5 a6)
 go_loopw [24] (fun i wr => ∃ k : Nat, k ≤ Ln ∧ i = .int .i64 k ∧ Hid (OfI nx A wr p n m t nu fo fc vs k)) (fun i _ => Ln - (intOf i).toNat)
 case atStart => exact ⟨0, by omega, rfl, HI0⟩
 case round =>
  clear HI0
  obtain ⟨k, hk, rfl, HI⟩ := hrel
  by_cases hlt : k < Ln
  ·have hxk : k < vs.length := by have := HLn.out; omega
   obtain ⟨⟨vn, x⟩, hy⟩ : ∃ y, vs[k]? = some y := ⟨_, List.getElem?_eq_getElem hxk⟩
   obtain ⟨lb, xo, xc, rfl, c0, c1, c2, c3⟩ := (HVA.out.gr HI.out.1) k vn x hy
   obtain ⟨V, hVe, gV, hvb⟩ := nw wr (.cells #[.bool vn, .int .i64 x, .string ⟨#[]⟩, .slice xo 0 xc] 108)
   obtain ⟨q0, q1, q2, q3⟩ := cell4 hvb
   have gAV : Gr A V := HI.out.1.tr gV
   have htk : vs.take (k + 1) = vs.take k ++ [(vn, x)] := by rw [List.take_add_one, hy]; rfl
   have HA9 : Hid (Calls Tryz.prog 120 #[.pointer (some ⟨p, 0, none⟩), .agg #[.bool vn, .int .i64 x, .string ⟨#[]⟩, .slice xo 0 xc]] V (AddA nx A.heap.size V p n m t nu fo fc k ((16 * k : Nat) : Int) k ((bsOf (vs.take k)).map Value.bool) ((xsOf (vs.take k)).map iv) vn x)) := by
    obtain ⟨-, hpb, ⟨vo, vc, lo, lc, hnd⟩, -⟩ := HI.out
    exact add8 A.heap.size p n m t nu fo fc k ((16 * k : Nat) : Int) vo k vc _ lo lc _ vn x xo xc V (HTA.out.gr gAV) ((gV.block _ (lt_of_heap hpb) id).trans hpb) (hnd.gr gV) gAV.size HP.out (by omega) ⟨by omega, by omega⟩ ⟨by omega, by omega⟩
   by_cases hf : fitN nu 3 vn x = true
   ·have HNx : Hid (∀ e w2, AddA nx A.heap.size V p n m t nu fo fc k ((16 * k : Nat) : Int) k ((bsOf (vs.take k)).map Value.bool) ((xsOf (vs.take k)).map iv) vn x e w2 → e = .returned (.int .i64 0) ∧ OfI nx A w2 p n m t nu fo fc vs (k + 1)) := by
     intro e w2 h
     unfold AddA at h
     rw [if_pos hf] at h
     obtain ⟨rfl, hfr, hp2, vo', vc', lo', lc', hn2⟩ := h
     refine ⟨rfl, hfr.low gAV (Nat.le_refl _), hp2, ⟨vo', vc', lo', lc', ?_⟩, fun y hmem => ?_⟩
     ·rw [htk]
      have e1 : ((16 * (k + 1) : Nat) : Int) = ((16 * k : Nat) : Int) + 16 := by omega
      rw [e1]
      simpa [bsOf, xsOf, iv] using hn2
     rw [htk] at hmem
     rcases List.mem_append.mp hmem with h | h
     ·exact HI.out.2.2.2 y h
     simp at h
     subst h
     exact hf
    clear hvb gV gAV htk HI hy hxk hf
    go_wp2_with (go_at_call 120; refine HA9.out.mono ?_; intro e w2 hadd; obtain ⟨rfl, hI2⟩ := HNx.out e w2 hadd; have HI2 := hidM hI2; clear hadd hI2)
    go_roundw
    case rel => exact ⟨k + 1, by omega, by go_num, HI2⟩
    case measure => simp [intOf]; omega
   have hf' : fitN nu 3 vn x = false := by simpa using hf
   have HNx : Hid (∀ e w2, AddA nx A.heap.size V p n m t nu fo fc k ((16 * k : Nat) : Int) k ((bsOf (vs.take k)).map Value.bool) ((xsOf (vs.take k)).map iv) vn x e w2 → e = .returned (.int .i64 7) ∧ Gr W w2 ∧ w2.heap[W.heap.size + 1]? = some (.cells (dC 0 0 (.slice none 0 0)) 68)) := by
    intro e w2 h
    unfold AddA at h
    rw [if_neg hf] at h
    have g2 : Gr A w2 := gAV.tr h.2
    exact ⟨h.1, HGA.out.tr g2, (g2.block _ (lt_of_heap HR.out) id).trans HR.out⟩
   have HAll := hidM HI.out.2.2.2
   have HY := hidM hy
   have HF := hidM hf'
   clear hvb gV gAV htk HI hy hxk hf hf'
   go_wp2_with (go_at_call 120; refine HA9.out.mono ?_; intro e w2 hadd; obtain ⟨rfl, hg2, hr2⟩ := HNx.out e w2 hadd; have HG2 := hidM hg2; have HR2 := hidM hr2; have s0 := set_id (j := 0) (v := .int .i64 0) hr2 rfl; have s1 := set_id (j := 1) (v := .int .i64 0) hr2 rfl; have s2 := set_id (j := 2) (v := .int .i64 0) hr2 rfl; have s3 := set_id (j := 3) (v := .slice none 0 0) hr2 rfl; have s4 := set_id (j := 4) (v := .slice none 0 0) hr2 rfl; have s5 := set_id (j := 5) (v := .slice none 0 0) hr2 rfl; have y0 := frz hr2 0; have y1 := frz hr2 1; have y2 := frz hr2 2; have y3 := frz hr2 3; have y4 := frz hr2 4; have y5 := frz hr2 5; obtain ⟨g0, g1, g2, g3, g4, g5⟩ := cell6 hr2; clear hadd hg2 hr2)
   (try simp only [Exit.inBlock, Exit.then])
   refine bodyPost_ret (results_cell31tt rfl rfl (by with_reducible exact HR2.out) (by kernel_rfl)) rfl ?_
   exact ⟨HG2.out, .inr ⟨k, (vn, x), HY.out, HF.out, HAll.out, rfl⟩⟩
  obtain rfl : k = Ln := by omega
  obtain ⟨N, hN⟩ := ex (offs (bsOf vs))
  have htk : vs.take k = vs := by rw [← HLn.out, List.take_length]
  have HD9 : Hid (Calls Tryz.prog 121 #[.pointer (some ⟨p, 0, none⟩)] wr fun e w' => ∃ bo bc, e = .returned (.tuple #[.agg (dC k N (.slice bo 2 bc)), .int .i64 0]) ∧ Keeps wr w' (fun z => z = p) ∧ ∃ U, Gr wr U ∧ Keeps U w' (fun z => z = p) ∧ DatA wr U k (bsOf vs) (xsOf vs) bo bc) := by
   obtain ⟨-, hpb, ⟨vo, vc, lo, lc, hnd⟩, -⟩ := HI.out
   rw [htk] at hnd
   have h := done9 A.heap.size p n m t nu fo fc k ((16 * k : Nat) : Int) vo k vc (bsOf vs) lo lc (xsOf vs) wr hpb hnd (by omega)
   rw [hN] at h
   exact h
  have HAll : Hid (∀ y ∈ vs, fitN nu 3 y.1 y.2 = true) := by have h := HI.out.2.2.2; rw [htk] at h; exact h
  have HTl : Hid (∀ w9 bo bc, Keeps wr w9 (fun z => z = p) → (∃ X, Gr wr X ∧ Keeps X w9 (fun z => z = p) ∧ DatA wr X k (bsOf vs) (xsOf vs) bo bc) → (w9.alloc (.cells (dC k N (.slice bo 2 bc)) 68)).heap[w9.heap.size]? = some (.cells (dC k N (.slice bo 2 bc)) 68) ∧ (w9.alloc (.cells (dC k N (.slice bo 2 bc)) 68)).heap[W.heap.size + 1]? = some (.cells (dC 0 0 (.slice none 0 0)) 68) ∧ (mkU (w9.alloc (.cells (dC k N (.slice bo 2 bc)) 68)) (W.heap.size + 1) k N (.slice bo 2 bc)).heap[W.heap.size + 1]? = some (.cells (dC k N (.slice bo 2 bc)) 68) ∧ Gr W (mkU (w9.alloc (.cells (dC k N (.slice bo 2 bc)) 68)) (W.heap.size + 1) k N (.slice bo 2 bc)) ∧ DatA W (mkU (w9.alloc (.cells (dC k N (.slice bo 2 bc)) 68)) (W.heap.size + 1) k N (.slice bo 2 bc)) k (bsOf vs) (xsOf vs) bo bc) := fun w9 bo bc hK ⟨X, gX, kX, hD⟩ => of_tail HGA.out HSZ.out HR.out HI.out.1 HP.out HI.out.2.1 hK gX kX hD
  have HN := hidM hN
  clear htk HI hN
  go_wp2_with (go_at_call 121; refine HD9.out.mono ?_; rintro e w9 ⟨bo, bc, rfl, hK, hX⟩; have HT := hidM (HTl.out w9 bo bc hK hX); clear hK hX; obtain ⟨V, hV⟩ := ex (w9.alloc (.cells (dC k N (.slice bo 2 bc)) 68)); rw [hV] at HT; obtain ⟨U, hU⟩ := ex (mkU V (W.heap.size + 1) k N (.slice bo 2 bc)); rw [hU] at HT; simp only [mkU, setAll] at hU; obtain ⟨e0, e1, e2, e3, e4, e5⟩ := cell6 HT.out.1; have z4 := frz HT.out.1 4; have z5 := frz HT.out.1 5; have s4 := set_id (j := 4) (v := .slice none 0 0) HT.out.1 rfl; have s5 := set_id (j := 5) (v := .slice none 0 0) HT.out.1 rfl; obtain ⟨r0, r1, r2, r3, r4, r5⟩ := cell6 HT.out.2.1; have y0 := frz HT.out.2.1 0; have y1 := frz HT.out.2.1 1; have y2 := frz HT.out.2.1 2; have y3 := frz HT.out.2.1 3; have y4 := frz HT.out.2.1 4; have y5 := frz HT.out.2.1 5; unfold dC at hV; unfold dC)
  (try simp only [Exit.inBlock, Exit.then])
  refine bodyPost_ret (results_cell31tt rfl rfl (by with_reducible exact HT.out.2.2.1) (by kernel_rfl)) rfl ?_
  refine ⟨HT.out.2.2.2.1, .inl ⟨bo, bc, HAll.out, ?_, ?_⟩⟩
  ·rw [HN.out, HLn.out]; rfl
  rw [HLn.out]; exact HT.out.2.2.2.2
theorem field81 (L v2 c2 a : Nat) (W0 W : World) (hT : Tab W) (hO : OpA nx W0 W L v2 c2 a) : Calls Tryz.prog 104 #[.pointer (some ⟨a, 0, none⟩)] W fun e w' => ∃ fo fc, e = .returned (.agg #[.string (nmB nx), .bool false, .int .i64 3, .int .i64 0, .int .i64 0, .int .i64 0, .slice fo 0 fc]) ∧ Gr W w' := by
 obtain ⟨q, r, rc, fo0, fc0, -, hN, ha⟩ := hO.p
 obtain ⟨A0, hA0⟩ := ex (W.alloc (.cells #[.string ⟨#[]⟩, .bool false, .int .i64 0, .int .i64 0, .int .i64 0, .int .i64 0, .slice none 0 0] 58))
 have g0 := gr_al hA0
 have b0 : A0.heap[W.heap.size]? = some (.cells #[.string ⟨#[]⟩, .bool false, .int .i64 0, .int .i64 0, .int .i64 0, .int .i64 0, .slice none 0 0] 58) := by rw [← hA0]; exact heap_alloc_new W _
 have hN0 := (hN.gr g0).nd
 have hT0 := hT.gr g0
 have HC := hidM (copied46 (nx := nx) false fo0 fc0 A0 hT0)
 have HX : Hid (∀ (w2 : World) (fo : Option Addr) (fc : Nat), Gr A0 w2 → w2.heap[W.heap.size]? = some (.cells #[.string ⟨#[]⟩, .bool false, .int .i64 0, .int .i64 0, .int .i64 0, .int .i64 0, .slice none 0 0] 58) ∧ (setAll w2 W.heap.size [(0, .string (nmB nx)), (1, .bool false), (2, .int .i64 3), (3, .int .i64 0), (4, .int .i64 0), (5, .int .i64 0), (6, .slice fo 0 fc)]).heap[W.heap.size]? = some (.cells #[.string (nmB nx), .bool false, .int .i64 3, .int .i64 0, .int .i64 0, .int .i64 0, .slice fo 0 fc] 58) ∧ Gr W (setAll w2 W.heap.size [(0, .string (nmB nx)), (1, .bool false), (2, .int .i64 3), (3, .int .i64 0), (4, .int .i64 0), (5, .int .i64 0), (6, .slice fo 0 fc)])) := fun w2 fo fc g2 => by
  have hr := (g2.block _ (lt_of_heap b0) id).trans b0
  refine ⟨hr, ?_, (g0.tr g2).trans (setAll_kp _ _ _) (fun j hj (e : j = W.heap.size) => by omega)⟩
  rw [setAll_blk W.heap.size 58 _ _ _ hr]
  simp [setsA]
 obtain ⟨a0, a1, a2, a3⟩ := cell4 ((g0.block _ (lt_of_heap ha) id).trans ha)
 obtain ⟨n0, n1, n2, n3, n4, n5, n6⟩ : A0.cell? ⟨q, 0, none⟩ = some (.string (nmB nx)) ∧ A0.cell? ⟨q, 1, none⟩ = some (.bool false) ∧ A0.cell? ⟨q, 2, none⟩ = some (.int .i64 3) ∧ A0.cell? ⟨q, 3, none⟩ = some (.int .i64 0) ∧ A0.cell? ⟨q, 4, none⟩ = some (.int .i64 0) ∧ A0.cell? ⟨q, 5, none⟩ = some (.int .i64 0) ∧ A0.cell? ⟨q, 6, none⟩ = some (.slice fo0 0 fc0) := by
  refine ⟨?_, ?_, ?_, ?_, ?_, ?_, ?_⟩ <;> simp [World.cell?, hN0, ndC]
 clear g0 b0 hN0 hT0 hN hO hT ha
 go_enter Tryz.func104, Tryz.ntmps104
 go_wp2_with (go_at_call 112; refine HC.out.mono ?_; rintro e w2 ⟨fo, fc, rfl, g2⟩; obtain ⟨hr, hu, hg⟩ := HX.out w2 fo fc g2; obtain ⟨U, hU⟩ := ex (setAll w2 W.heap.size [(0, .string (nmB nx)), (1, .bool false), (2, .int .i64 3), (3, .int .i64 0), (4, .int .i64 0), (5, .int .i64 0), (6, .slice fo 0 fc)]); rw [hU] at hu hg; simp only [setAll] at hU; obtain ⟨r0, r1, r2, r3, r4, r5, r6⟩ := cell7 hr; have y := frzA hr; have HU := hidM hu; have HG := hidM hg; clear g2 hr hu hg hA0 n0 n1 n2 n3 n4 n5 n6 a0 a1 a2 a3)
 (try simp only [Exit.inBlock, Exit.then])
 refine bodyPost_ret (results_cell27 rfl rfl (by with_reducible exact HU.out) (by kernel_rfl)) rfl ?_
 exact ⟨fo, fc, rfl, HG.out⟩
theorem of80_nil (ao : Option Addr) (ca : Nat) (W : World) (hT : Tab W) : Calls Tryz.prog 103 #[.agg #[.string (nmB nx), .bool false, .int .i64 3, .int .i64 0, .int .i64 0, .int .i64 0, .slice ao 0 ca], .slice none 0 0] W fun e w' => ∃ bo bc, e = .returned (.tuple #[.agg #[.int .i64 0, .int .i64 0, .int .i64 0, .slice bo 2 bc, .slice none 0 0, .slice none 0 0], .int .i64 0, .int .i64 0]) ∧ Gr W w' := by
 refine (of5 (nx := nx) false ao ca none 0 [] W hT (fun k vn x h => by simp at h) (by decide)).mono ?_
 rintro e w' ⟨g, ⟨bo, bc, -, rfl, -⟩ | ⟨k, y, h, -⟩⟩
 ·exact ⟨bo, bc, rfl, g⟩
 simp at h
theorem laid61 (L v2 c2 a b : Nat) (W0 W : World) (hT : Tab W) (hO : OpA nx W0 W L v2 c2 a) (hb : W.heap[b]? = some (.cells #[.slice none 0 0] 29)) : Calls Tryz.prog 85 #[.pointer (some ⟨a, 0, none⟩), .func (.func 84) #[] #[.pointer (some ⟨b, 0, none⟩)]] W fun e w' => ∃ bo bc, e = .returned (.tuple #[.agg #[.int .i64 0, .int .i64 0, .int .i64 0, .slice bo 2 bc, .slice none 0 0, .slice none 0 0], .int .i64 0]) ∧ Gr W w' := by
 have hmf := mkf
 obtain ⟨A0, hA0⟩ := ex (W.alloc (.cells #[.int .i64 0, .int .i64 0, .int .i64 0, .slice none 0 0, .slice none 0 0, .slice none 0 0] 68))
 have g0 := gr_al hA0
 have b0 : A0.heap[W.heap.size]? = some (.cells #[.int .i64 0, .int .i64 0, .int .i64 0, .slice none 0 0, .slice none 0 0, .slice none 0 0] 68) := by rw [← hA0]; exact heap_alloc_new W _
 obtain ⟨A1, hA1, g1, b1⟩ := nw A0 (.cells #[.slice none 0 0] 84)
 have gW : Gr W A1 := g0.tr g1
 have HE := hidM (each78 a b A0.heap.size A1 ((gW.block _ (lt_of_heap hb) id).trans hb))
 have HD : Hid (∀ w1, Gr A1 w1 → (w1.drew.cell? ⟨A0.heap.size, 0, none⟩ = some (.slice none 0 0)) ∧ Calls Tryz.prog 104 #[.pointer (some ⟨a, 0, none⟩)] w1.drew fun e w' => ∃ fo fc, e = .returned (.agg #[.string (nmB nx), .bool false, .int .i64 3, .int .i64 0, .int .i64 0, .int .i64 0, .slice fo 0 fc]) ∧ Gr w1.drew w') := fun w1 g => by
  have g' := g.tr (gr_drew (w := w1))
  exact ⟨g'.cell' (cell1 b1) id, field81 L v2 c2 a W0 w1.drew (hT.gr (gW.tr g')) (hO.gr (gW.tr g'))⟩
 have HF : Hid (∀ w2, Gr A1 w2 → w2.cell? ⟨A0.heap.size, 0, none⟩ = some (.slice none 0 0) ∧ ∀ fo fc, Calls Tryz.prog 103 #[.agg #[.string (nmB nx), .bool false, .int .i64 3, .int .i64 0, .int .i64 0, .int .i64 0, .slice fo 0 fc], .slice none 0 0] w2 fun e w' => ∃ bo bc, e = .returned (.tuple #[.agg #[.int .i64 0, .int .i64 0, .int .i64 0, .slice bo 2 bc, .slice none 0 0, .slice none 0 0], .int .i64 0, .int .i64 0]) ∧ Gr w2 w') := fun w2 g => ⟨g.cell' (cell1 b1) id, fun fo fc => of80_nil fo fc w2 (hT.gr (gW.tr g))⟩
 have HX : Hid (∀ (V0 : World) (t : Nat) (bo : Option Addr) (bc : Nat), Gr A1 V0 → V0.heap[t]? = some (.cells #[.int .i64 0, .int .i64 0, .int .i64 0, .slice none 0 0, .slice none 0 0, .slice none 0 0] 68) → A1.heap.size ≤ t → V0.cell? ⟨A0.heap.size, 0, none⟩ = some (.slice none 0 0) ∧ (V0.setCell ⟨t, 3, none⟩ (.slice bo 2 bc)).cell? ⟨A0.heap.size, 0, none⟩ = some (.slice none 0 0) ∧ (V0.setCell ⟨t, 3, none⟩ (.slice bo 2 bc)).heap[t]? = some (.cells #[.int .i64 0, .int .i64 0, .int .i64 0, .slice bo 2 bc, .slice none 0 0, .slice none 0 0] 68) ∧ (V0.setCell ⟨t, 3, none⟩ (.slice bo 2 bc)).heap[W.heap.size]? = some (.cells #[.int .i64 0, .int .i64 0, .int .i64 0, .slice none 0 0, .slice none 0 0, .slice none 0 0] 68) ∧ (setAll (V0.setCell ⟨t, 3, none⟩ (.slice bo 2 bc)) W.heap.size [(0, .int .i64 0), (1, .int .i64 0), (2, .int .i64 0), (3, .slice bo 2 bc), (4, .slice none 0 0), (5, .slice none 0 0)]).heap[W.heap.size]? = some (.cells #[.int .i64 0, .int .i64 0, .int .i64 0, .slice bo 2 bc, .slice none 0 0, .slice none 0 0] 68) ∧ Gr W (setAll (V0.setCell ⟨t, 3, none⟩ (.slice bo 2 bc)) W.heap.size [(0, .int .i64 0), (1, .int .i64 0), (2, .int .i64 0), (3, .slice bo 2 bc), (4, .slice none 0 0), (5, .slice none 0 0)])) := fun V0 t bo bc g3 hv ht => by
  have k1 : Keeps V0 (V0.setCell ⟨t, 3, none⟩ (.slice bo 2 bc)) (fun z => z = t) := Keeps.setCell (S := fun z => z = t) (p := ⟨t, 3, none⟩) (Keeps.refl V0 _) (fun _ => rfl) _
  have hs1 := g1.size
  have hs0 := gW.size
  have hlt := lt_of_heap b1
  have hlt0 := lt_of_heap b0
  have hc : V0.heap[A0.heap.size]? = some (.cells #[.slice none 0 0] 84) := (g3.block _ (lt_of_heap b1) id).trans b1
  have hr := ((g1.tr g3).block _ (lt_of_heap b0) id).trans b0
  have hr1 := (k1.block _ (lt_of_heap hr) (fun e => by have e' : W.heap.size = t := e; omega)).trans hr
  refine ⟨cell1 hc, cell1 ((k1.block _ (lt_of_heap hc) (fun e => by have e' : A0.heap.size = t := e; omega)).trans hc), ?_, hr1, ?_, ?_⟩
  ·rw [heap_setCell_same V0 t 3 _ _ _ hv]; rfl
  ·rw [setAll_blk W.heap.size 68 _ _ _ hr1]
   simp [setsA]
  exact ((gW.tr g3).trans k1 (fun j hj (e : j = t) => by omega)).trans (setAll_kp _ _ _) (fun j hj (e : j = W.heap.size) => by omega)
 have H81 : Hid (∀ w1, Gr A1 w1 → Calls Tryz.prog 104 #[.pointer (some ⟨a, 0, none⟩)] w1 fun e w' => ∃ fo fc, e = .returned (.agg #[.string (nmB nx), .bool false, .int .i64 3, .int .i64 0, .int .i64 0, .int .i64 0, .slice fo 0 fc]) ∧ Gr w1 w') := fun w1 g => field81 L v2 c2 a W0 w1 (hT.gr (gW.tr g)) (hO.gr (gW.tr g))
 clear g0 b0 g1 b1 gW hb hO hT HD
 go_enter Tryz.func85, Tryz.ntmps85
 go_wp2_with (go_at_call 101; refine HE.out.mono ?_; rintro e w1 ⟨⟨v9, rfl⟩, g1⟩; have HG1 := hidM (g1.tr (gr_drew (w := w1))); clear g1)
 obtain ⟨B, hB⟩ := ex (w1.drew.alloc (.cells #[.int .i64 0, .int .i64 0, .int .i64 0, .slice none 0 0, .slice none 0 0, .slice none 0 0] 68))
 have HGB : Hid (Gr A1 B ∧ B.heap[w1.heap.size]? = some (.cells #[.int .i64 0, .int .i64 0, .int .i64 0, .slice none 0 0, .slice none 0 0, .slice none 0 0] 68)) := by rw [← hB]; exact ⟨HG1.out.tr (gr_alloc _ _), heap_alloc_new _ _⟩
 have HSd := hidM (HF.out w1.drew HG1.out).1
 have HSb := hidM (HF.out B HGB.out.1).1
 clear hA0 hA1 HE
 go_region_held3 (fun u => u.cell? ⟨A0.heap.size, 0, none⟩ = some (.slice none 0 0)) (first | with_reducible exact HSd.out | with_reducible exact HSb.out | with_reducible exact HS2.out | with_reducible exact HSc.out | with_reducible exact HS4.out | with_reducible exact HSz.out | with_reducible exact HSu.out) (first
  | (go_at_call 103; have _ := HP2; refine ((HF.out w2 HG2.out.1).2 fo fc).mono ?_; rintro e w3 ⟨bo, bc, rfl, g3⟩; have HS4 := hidM (HF.out w3 (HG2.out.1.tr g3)).1; have HV := hidM (And.intro (HG2.out.1.tr g3) ((g3.block _ (lt_of_heap HG2.out.2) id).trans HG2.out.2)); obtain ⟨h2, h5, h6, h7, h3, h4⟩ := HX.out w3 w1.heap.size bo bc HV.out.1 HV.out.2 HG1.out.size; obtain ⟨V, hV⟩ := ex (w3.setCell ⟨w1.heap.size, 3, none⟩ (.slice bo 2 bc)); rw [hV] at h3 h4 h5 h6 h7; have HSz := hidM h2; have HSu := hidM h5; obtain ⟨U, hU⟩ := ex (setAll V W.heap.size [(0, .int .i64 0), (1, .int .i64 0), (2, .int .i64 0), (3, .slice bo 2 bc), (4, .slice none 0 0), (5, .slice none 0 0)]); rw [hU] at h3 h4; have HQ := hidM (And.intro h6 h7); have HU := hidM h3; have HK := hidM h4; obtain ⟨y0, y1, y2, y3, y4, y5⟩ := cell6 HV.out.2; have z0 := frz HV.out.2 0; have z1 := frz HV.out.2 1; have z2 := frz HV.out.2 2; have z3 := frz HV.out.2 3; have z4 := frz HV.out.2 4; have z5 := frz HV.out.2 5; have i0 := set_id (j := 0) (v := .int .i64 0) HV.out.2 rfl; have i1 := set_id (j := 1) (v := .int .i64 0) HV.out.2 rfl; have i2 := set_id (j := 2) (v := .int .i64 0) HV.out.2 rfl; have i4 := set_id (j := 4) (v := .slice none 0 0) HQ.out.1 rfl; have i5 := set_id (j := 5) (v := .slice none 0 0) HQ.out.1 rfl; have q0 := frz HQ.out.1 0; have q1 := frz HQ.out.1 1; have q2 := frz HQ.out.1 2; have q3 := frz HQ.out.1 3; have q4 := frz HQ.out.1 4; have q5 := frz HQ.out.1 5; obtain ⟨x0, x1, x2, x3, x4, x5⟩ := cell6 HQ.out.1; clear h2 h3 h4 h5 h6 h7 g3)
  | (go_at_call 103; refine ((HF.out w2 HG2.out).2 fo fc).mono ?_; rintro e w3 ⟨bo, bc, rfl, g3⟩; have HS4 := hidM (HF.out w3 (HG2.out.tr g3)).1; obtain ⟨V0, hV0⟩ := ex (w3.alloc (.cells #[.int .i64 0, .int .i64 0, .int .i64 0, .slice none 0 0, .slice none 0 0, .slice none 0 0] 68)); have HV : Hid (Gr A1 V0 ∧ V0.heap[w3.heap.size]? = some (.cells #[.int .i64 0, .int .i64 0, .int .i64 0, .slice none 0 0, .slice none 0 0, .slice none 0 0] 68)) := (by rw [← hV0]; exact ⟨(HG2.out.tr g3).tr (gr_alloc _ _), heap_alloc_new _ _⟩); obtain ⟨h2, h5, h6, h7, h3, h4⟩ := HX.out V0 w3.heap.size bo bc HV.out.1 HV.out.2 (HG2.out.tr g3).size; obtain ⟨V, hV⟩ := ex (V0.setCell ⟨w3.heap.size, 3, none⟩ (.slice bo 2 bc)); rw [hV] at h3 h4 h5 h6 h7; have HSz := hidM h2; have HSu := hidM h5; obtain ⟨U, hU⟩ := ex (setAll V W.heap.size [(0, .int .i64 0), (1, .int .i64 0), (2, .int .i64 0), (3, .slice bo 2 bc), (4, .slice none 0 0), (5, .slice none 0 0)]); rw [hU] at h3 h4; have HQ := hidM (And.intro h6 h7); have HU := hidM h3; have HK := hidM h4; obtain ⟨y0, y1, y2, y3, y4, y5⟩ := cell6 HV.out.2; have z0 := frz HV.out.2 0; have z1 := frz HV.out.2 1; have z2 := frz HV.out.2 2; have z3 := frz HV.out.2 3; have z4 := frz HV.out.2 4; have z5 := frz HV.out.2 5; have i0 := set_id (j := 0) (v := .int .i64 0) HV.out.2 rfl; have i1 := set_id (j := 1) (v := .int .i64 0) HV.out.2 rfl; have i2 := set_id (j := 2) (v := .int .i64 0) HV.out.2 rfl; have i4 := set_id (j := 4) (v := .slice none 0 0) HQ.out.1 rfl; have i5 := set_id (j := 5) (v := .slice none 0 0) HQ.out.1 rfl; have q0 := frz HQ.out.1 0; have q1 := frz HQ.out.1 1; have q2 := frz HQ.out.1 2; have q3 := frz HQ.out.1 3; have q4 := frz HQ.out.1 4; have q5 := frz HQ.out.1 5; obtain ⟨x0, x1, x2, x3, x4, x5⟩ := cell6 HQ.out.1; clear h2 h3 h4 h5 h6 h7 g3)
  | (go_at_call 103; refine ((HF.out C HC2.out.1).2 fo fc).mono ?_; rintro e w3 ⟨bo, bc, rfl, g3⟩; have HS4 := hidM (HF.out w3 (HC2.out.1.tr g3)).1; have HV := hidM (And.intro (HC2.out.1.tr g3) ((g3.block _ (lt_of_heap HC2.out.2) id).trans HC2.out.2)); obtain ⟨h2, h5, h6, h7, h3, h4⟩ := HX.out w3 w2.heap.size bo bc HV.out.1 HV.out.2 HG2.out.size; obtain ⟨V, hV⟩ := ex (w3.setCell ⟨w2.heap.size, 3, none⟩ (.slice bo 2 bc)); rw [hV] at h3 h4 h5 h6 h7; have HSz := hidM h2; have HSu := hidM h5; obtain ⟨U, hU⟩ := ex (setAll V W.heap.size [(0, .int .i64 0), (1, .int .i64 0), (2, .int .i64 0), (3, .slice bo 2 bc), (4, .slice none 0 0), (5, .slice none 0 0)]); rw [hU] at h3 h4; have HQ := hidM (And.intro h6 h7); have HU := hidM h3; have HK := hidM h4; obtain ⟨y0, y1, y2, y3, y4, y5⟩ := cell6 HV.out.2; have z0 := frz HV.out.2 0; have z1 := frz HV.out.2 1; have z2 := frz HV.out.2 2; have z3 := frz HV.out.2 3; have z4 := frz HV.out.2 4; have z5 := frz HV.out.2 5; have i0 := set_id (j := 0) (v := .int .i64 0) HV.out.2 rfl; have i1 := set_id (j := 1) (v := .int .i64 0) HV.out.2 rfl; have i2 := set_id (j := 2) (v := .int .i64 0) HV.out.2 rfl; have i4 := set_id (j := 4) (v := .slice none 0 0) HQ.out.1 rfl; have i5 := set_id (j := 5) (v := .slice none 0 0) HQ.out.1 rfl; have q0 := frz HQ.out.1 0; have q1 := frz HQ.out.1 1; have q2 := frz HQ.out.1 2; have q3 := frz HQ.out.1 3; have q4 := frz HQ.out.1 4; have q5 := frz HQ.out.1 5; obtain ⟨x0, x1, x2, x3, x4, x5⟩ := cell6 HQ.out.1; clear h2 h3 h4 h5 h6 h7 g3)
  | (go_at_call 104; refine (H81.out B HGB.out.1).mono ?_; rintro e w2 ⟨fo, fc, rfl, g2⟩; have HP2 := hidM trivial; have HG2 := hidM (And.intro (HGB.out.1.tr g2) ((g2.block _ (lt_of_heap HGB.out.2) id).trans HGB.out.2)); have HS2 := hidM (HF.out w2 HG2.out.1).1; clear g2)
  | (go_at_call 104; refine (H81.out w1.drew HG1.out).mono ?_; rintro e w2 ⟨fo, fc, rfl, g2⟩; have HG2 := hidM (HG1.out.tr g2); have HS2 := hidM (HF.out w2 HG2.out).1; obtain ⟨C, hC⟩ := ex (w2.alloc (.cells #[.int .i64 0, .int .i64 0, .int .i64 0, .slice none 0 0, .slice none 0 0, .slice none 0 0] 68)); have HC2 : Hid (Gr A1 C ∧ C.heap[w2.heap.size]? = some (.cells #[.int .i64 0, .int .i64 0, .int .i64 0, .slice none 0 0, .slice none 0 0, .slice none 0 0] 68)) := (by rw [← hC]; exact ⟨HG2.out.tr (gr_alloc _ _), heap_alloc_new _ _⟩); have HSc := hidM (HF.out C HC2.out.1).1; clear g2))
 all_goals
  clear y0 y1 y2 y3 y4 y5 z0 z1 z2 z3 z4 z5 hV i0 i1 i2 i4 i5
  obtain ⟨r0, r1, r2, r3, r4, r5⟩ := cell6 HQ.out.2
  have yr := frzA HQ.out.2
  simp only [setAll] at hU
  go_wp2_with fail
  (try simp only [Exit.inBlock, Exit.then])
  refine bodyPost_ret (results_cell31t rfl rfl (by with_reducible exact HU.out) (by kernel_rfl)) rfl ?_
  exact ⟨bo, bc, rfl, HK.out⟩
theorem mk31 (w : World) : (Instr.makeSlice 26 (.int .i64 1) (.int .i64 1)).run Tryz.prog w = .ok (.slice (some ⟨w.heap.size, 0, none⟩) 1 1) (w.alloc (.cells #[.int .i64 0, .int .i64 0, .int .i64 0, .slice none 0 0, .slice none 0 0, .slice none 0 0] 68)) := by kernel_rfl
theorem results_cell33t {fn : Func} {t u : Tmp} {tmps : Array Value} {g : Nat} {cs : Array Value} {w : World} (h : fn.results = #[.cell t 28, .tmp u]) (ht : tmps.getD t undef = .pointer (some ⟨g, 0, none⟩)) (hg : w.heap[g]? = some (.cells cs 28 (0, 0))) (hi : (Tryz.prog.info? 28).map (·.size) = some cs.size) :
  (results fn tmps).run Tryz.prog w = .ok (.tuple #[.agg cs, tmps.getD u undef]) w := by
 have hl := run_loadVar_row (P := Tryz.prog) w g 28 28 cs (0, 0) _ hg Tryz.underlying28 rfl hi
 unfold results
 rw [h]
 simp only [Array.mapM_eq_mapM_toList, List.mapM_cons, List.mapM_nil, ht]
 simp [asAddr, hl]
theorem laidBatch39 (L v2 c2 a l : Nat) (W0 W : World) (hT : Tab W) (hO : OpA nx W0 W L v2 c2 a) (hl : W.heap[l]? = some (.cells #[.pointer (some ⟨a, 0, none⟩)] 138)) : Calls Tryz.prog 62 #[.slice (some ⟨l, 0, none⟩) 1 1, .slice none 0 0] W fun e w' => ∃ m, e = .returned (.tuple #[.agg #[.int .i64 0, .slice (some ⟨m, 0, none⟩) 1 1], .int .i64 0]) ∧ Gr W w' := by
 obtain ⟨A0, hA0, g0, b0⟩ := nw W (.cells #[.int .i64 0, .slice none 0 0] 28)
 obtain ⟨A1, hA1, g1, b1⟩ := nw A0 (.cells #[.int .i64 0, .int .i64 0, .int .i64 0, .slice none 0 0, .slice none 0 0, .slice none 0 0] 68)
 obtain ⟨A2, hA2, g2, b2⟩ := nw A1 (.cells #[.int .i64 0, .slice (some ⟨A0.heap.size, 0, none⟩) 1 1] 28)
 have g12 := g1.tr g2
 have gW : Gr W A2 := g0.tr g12
 have s0 := sz_al hA0
 have s1 := sz_al hA1
 have HL := hidM (cell1 ((gW.block _ (lt_of_heap hl) id).trans hl))
 have H0 := hidM ((g12.block _ (lt_of_heap b0) id).trans b0)
 have H1 := hidM ((g2.block _ (lt_of_heap b1) id).trans b1)
 have H2 := hidM b2
 obtain ⟨A3, hA3, g3, b3⟩ := nw A2 (.cells #[.slice none 0 0] 29)
 have HC := hidM (laid61 (nx := nx) L v2 c2 a A2.heap.size W0 A3 (hT.gr (gW.tr g3)) (hO.gr (gW.tr g3)) b3)
 have HX : Hid (∀ (w4 V : World) (bo : Option Addr) (bc : Nat), Gr A3 w4 → w4.alloc (.cells #[.int .i64 0, .int .i64 0, .int .i64 0, .slice bo 2 bc, .slice none 0 0, .slice none 0 0] 68) = V → V.heap[w4.heap.size]? = some (.cells #[.int .i64 0, .int .i64 0, .int .i64 0, .slice bo 2 bc, .slice none 0 0, .slice none 0 0] 68) ∧ V.heap[A0.heap.size]? = some (.cells #[.int .i64 0, .int .i64 0, .int .i64 0, .slice none 0 0, .slice none 0 0, .slice none 0 0] 68) ∧ V.heap[A1.heap.size]? = some (.cells #[.int .i64 0, .slice (some ⟨A0.heap.size, 0, none⟩) 1 1] 28) ∧ (setAll V A0.heap.size [(0, .int .i64 0), (1, .int .i64 0), (2, .int .i64 0), (3, .slice bo 2 bc), (4, .slice none 0 0), (5, .slice none 0 0)]).heap[A1.heap.size]? = some (.cells #[.int .i64 0, .slice (some ⟨A0.heap.size, 0, none⟩) 1 1] 28) ∧ (setAll V A0.heap.size [(0, .int .i64 0), (1, .int .i64 0), (2, .int .i64 0), (3, .slice bo 2 bc), (4, .slice none 0 0), (5, .slice none 0 0)]).heap[W.heap.size]? = some (.cells #[.int .i64 0, .slice none 0 0] 28) ∧ (setAll (setAll V A0.heap.size [(0, .int .i64 0), (1, .int .i64 0), (2, .int .i64 0), (3, .slice bo 2 bc), (4, .slice none 0 0), (5, .slice none 0 0)]) W.heap.size [(0, .int .i64 0), (1, .slice (some ⟨A0.heap.size, 0, none⟩) 1 1)]).heap[W.heap.size]? = some (.cells #[.int .i64 0, .slice (some ⟨A0.heap.size, 0, none⟩) 1 1] 28) ∧ Gr W (setAll (setAll V A0.heap.size [(0, .int .i64 0), (1, .int .i64 0), (2, .int .i64 0), (3, .slice bo 2 bc), (4, .slice none 0 0), (5, .slice none 0 0)]) W.heap.size [(0, .int .i64 0), (1, .slice (some ⟨A0.heap.size, 0, none⟩) 1 1)])) := fun w4 V bo bc g4 hV => by
  have g5 := gr_al hV
  have g25 : Gr A2 V := (g3.tr g4).tr g5
  have k1 : Keeps V (setAll V A0.heap.size [(0, .int .i64 0), (1, .int .i64 0), (2, .int .i64 0), (3, .slice bo 2 bc), (4, .slice none 0 0), (5, .slice none 0 0)]) (fun z => z = A0.heap.size) := setAll_kp _ _ _
  have c0 := (g25.block _ (lt_of_heap H0.out) id).trans H0.out
  have c1 := (g25.block _ (lt_of_heap H1.out) id).trans H1.out
  have c2 := (g25.block _ (lt_of_heap H2.out) id).trans H2.out
  have c2' := (k1.block _ (lt_of_heap c2) (fun e => by have e' : A1.heap.size = A0.heap.size := e; omega)).trans c2
  have c0' := (k1.block _ (lt_of_heap c0) (fun e => by have e' : W.heap.size = A0.heap.size := e; omega)).trans c0
  refine ⟨by rw [← hV]; exact heap_alloc_new w4 _, c1, c2, c2', c0', ?_, ((gW.tr g25).trans k1 (fun j hj (e : j = A0.heap.size) => by omega)).trans (setAll_kp _ _ _) (fun j hj (e : j = W.heap.size) => by omega)⟩
  rw [setAll_blk W.heap.size 28 _ _ _ c0']
  simp [setsA]
 have hmk := mk31
 obtain ⟨l0, l1⟩ := cell2 b2
 have lz := frzA b2
 have li0 := set_id (j := 0) (v := .int .i64 0) b2 rfl
 have li1 := set_id (j := 1) (v := .slice (some ⟨A0.heap.size, 0, none⟩) 1 1) b2 rfl
 clear g0 b0 g1 b1 g2 b2 g12 gW s0 s1 g3 b3 hl hO hT
 go_enter Tryz.func62, Tryz.ntmps62
 go_wp2_with fail
 clear l0 l1 lz li0 li1
 go_loopw [19] (fun i wr => ∃ k : Nat, k ≤ 1 ∧ i = .int .i64 k ∧ Hid ((k = 0 ∧ wr = A2) ∨ (k = 1 ∧ wr.heap[A1.heap.size]? = some (.cells #[.int .i64 0, .slice (some ⟨A0.heap.size, 0, none⟩) 1 1] 28) ∧ wr.heap[W.heap.size]? = some (.cells #[.int .i64 0, .slice none 0 0] 28) ∧ (setAll wr W.heap.size [(0, .int .i64 0), (1, .slice (some ⟨A0.heap.size, 0, none⟩) 1 1)]).heap[W.heap.size]? = some (.cells #[.int .i64 0, .slice (some ⟨A0.heap.size, 0, none⟩) 1 1] 28) ∧ Gr W (setAll wr W.heap.size [(0, .int .i64 0), (1, .slice (some ⟨A0.heap.size, 0, none⟩) 1 1)])))) (fun i _ => 1 - (intOf i).toNat)
 case atStart => exact ⟨0, by omega, rfl, .inl ⟨rfl, rfl⟩⟩
 case round =>
  obtain ⟨k, hk, rfl, HR⟩ := hrel
  rcases HR.out with ⟨rfl, rfl⟩ | ⟨rfl, q1, q2, q3, q4⟩
  ·clear HR
   have hL := HL.out
   go_wp2_with (first
    | (go_at_call 60; refine (values37 _ _ _ _).mono ?_; rintro e w3 ⟨rfl, rfl⟩)
    | (go_at_call 85; refine HC.out.mono ?_; rintro e w4 ⟨bo, bc, rfl, g4⟩; obtain ⟨V, hV⟩ := ex (w4.alloc (.cells #[.int .i64 0, .int .i64 0, .int .i64 0, .slice bo 2 bc, .slice none 0 0, .slice none 0 0] 68)); obtain ⟨h1, h2, h3, h4, h5, h6, h7⟩ := HX.out w4 V bo bc g4 hV; obtain ⟨U, hU⟩ := ex (setAll V A0.heap.size [(0, .int .i64 0), (1, .int .i64 0), (2, .int .i64 0), (3, .slice bo 2 bc), (4, .slice none 0 0), (5, .slice none 0 0)]); rw [hU] at h4 h5 h6 h7; have HE := hidM (And.intro h4 (And.intro h5 (And.intro h6 h7))); simp only [setAll] at hU; obtain ⟨y0, y1, y2, y3, y4, y5⟩ := cell6 h1; have yz := frzA h1; have i0 := set_id (j := 0) (v := .int .i64 0) h1 rfl; have i1 := set_id (j := 1) (v := .int .i64 0) h1 rfl; have i2 := set_id (j := 2) (v := .int .i64 0) h1 rfl; have i3 := set_id (j := 3) (v := .slice bo 2 bc) h1 rfl; have i4 := set_id (j := 4) (v := .slice none 0 0) h1 rfl; have i5 := set_id (j := 5) (v := .slice none 0 0) h1 rfl; obtain ⟨t0, t1⟩ := cell2 h3; obtain ⟨x0, x1, x2, x3, x4, x5⟩ := cell6 h2; have xz := frzA h2; clear g4 h1 h2 h3 h4 h5 h6 h7))
   go_roundw
   case rel => exact ⟨1, by omega, by go_num, .inr ⟨rfl, HE.out⟩⟩
   case measure => simp [intOf]
  obtain ⟨X, hX⟩ := ex (setAll wr W.heap.size [(0, .int .i64 0), (1, .slice (some ⟨A0.heap.size, 0, none⟩) 1 1)])
  rw [hX] at q3 q4
  simp only [setAll] at hX
  obtain ⟨t0, t1⟩ := cell2 q1
  obtain ⟨x0, x1⟩ := cell2 q2
  have xz := frzA q2
  have HU := hidM q3
  have HK := hidM q4
  clear q1 q2 q3 q4 HR
  go_wp2_with fail
  (try simp only [Exit.inBlock, Exit.then])
  refine bodyPost_ret (results_cell33t rfl rfl (by with_reducible exact HU.out) (by kernel_rfl)) rfl ?_
  exact ⟨_, rfl, HK.out⟩
theorem takeRows25 (L g ac db dbc qb bc v2 c2 : Nat) (ao : Option Addr) (ca : Nat) (W : World) (hB : Bt nx W L g ac db dbc qb bc v2 c2 ao ca) :
  Calls Tryz.prog 44 #[.agg #[.slice (some ⟨g, 0, none⟩) 1 ac, .slice none 0 0], .agg #[.int .i64 L, .slice (some ⟨db, 0, none⟩) 1 dbc], .slice none 0 0] W fun e w' => ∃ m, e = .returned (.tuple #[.agg #[.int .i64 0, .slice (some ⟨m, 0, none⟩) 1 1], .int .i64 0]) ∧ Gr W w' := by
 obtain ⟨A0, hA0, g0, b0⟩ := nw W (.cells #[.slice (some ⟨g, 0, none⟩) 1 ac, .slice none 0 0] 25)
 obtain ⟨A1, hA1, g1, b1⟩ := nw A0 (.cells #[.int .i64 L, .slice (some ⟨db, 0, none⟩) 1 dbc] 28)
 obtain ⟨A2, hA2, g2, b2⟩ := nw A1 (.cells #[.int .i64 0, .slice none 0 0] 28)
 have g12 := g1.tr g2
 have gW : Gr W A2 := g0.tr g12
 have s0 := sz_al hA0
 have s1 := sz_al hA1
 obtain ⟨e0, e1⟩ := cell2 ((g12.block _ (lt_of_heap b0) id).trans b0)
 obtain ⟨f0, f1⟩ := cell2 ((g2.block _ (lt_of_heap b1) id).trans b1)
 have HSS : Hid (∀ u, Gr A2 u → u.cell? ⟨W.heap.size, 0, none⟩ = some (.slice (some ⟨g, 0, none⟩) 1 ac) ∧ u.cell? ⟨W.heap.size, 1, none⟩ = some (.slice none 0 0) ∧ u.cell? ⟨A0.heap.size, 0, none⟩ = some (.int .i64 L) ∧ u.cell? ⟨A0.heap.size, 1, none⟩ = some (.slice (some ⟨db, 0, none⟩) 1 dbc)) := fun u g => ⟨g.cell' e0 id, g.cell' e1 id, g.cell' f0 id, g.cell' f1 id⟩
 have HB := hidM (hB.gr gW)
 have HC1 := hidM (openedColumns35 L g ac db dbc qb bc v2 c2 ao ca A2 HB.out)
 have HX : Hid (∀ (w5 : World) (m : Nat), Gr A2 w5 → w5.heap[A1.heap.size]? = some (.cells #[.int .i64 0, .slice none 0 0] 28) ∧ (setAll w5 A1.heap.size [(0, .int .i64 0), (1, .slice (some ⟨m, 0, none⟩) 1 1)]).heap[A1.heap.size]? = some (.cells #[.int .i64 0, .slice (some ⟨m, 0, none⟩) 1 1] 28) ∧ Gr W (setAll w5 A1.heap.size [(0, .int .i64 0), (1, .slice (some ⟨m, 0, none⟩) 1 1)])) := fun w5 m g5 => by
  have c := (g5.block _ (lt_of_heap b2) id).trans b2
  refine ⟨c, ?_, (gW.tr g5).trans (setAll_kp _ _ _) (fun j hj (e : j = A1.heap.size) => by omega)⟩
  rw [setAll_blk A1.heap.size 28 _ _ _ c]
  simp [setsA]
 clear g0 b0 g1 b1 g2 b2 g12 gW s0 s1 hB
 go_enter Tryz.func44, Tryz.ntmps44
 go_wp2_with (go_at_call 58; refine HC1.out.mono ?_; rintro e w1 ⟨l, a, rfl, hO, hl⟩; clear e0 e1 f0 f1 hA0 hA1 hA2; have HG1 := hidM (hO.g.tr (gr_drew (w := w1))); have HO := hidM (And.intro hO hl); have HSd := hidM (HSS.out w1.drew HG1.out); clear hO hl)
 obtain ⟨B, hB⟩ := ex (w1.drew.alloc (.cells #[.slice none 0 0] 29))
 have HGB : Hid (Gr A2 B ∧ B.heap[w1.heap.size]? = some (.cells #[.slice none 0 0] 29)) := by rw [← hB]; exact ⟨HG1.out.tr (gr_alloc _ _), heap_alloc_new _ _⟩
 have HSb := hidM (HSS.out B HGB.out.1)
 go_region_held3 (fun u => u.cell? ⟨W.heap.size, 0, none⟩ = some (.slice (some ⟨g, 0, none⟩) 1 ac) ∧ u.cell? ⟨W.heap.size, 1, none⟩ = some (.slice none 0 0) ∧ u.cell? ⟨A0.heap.size, 0, none⟩ = some (.int .i64 L) ∧ u.cell? ⟨A0.heap.size, 1, none⟩ = some (.slice (some ⟨db, 0, none⟩) 1 dbc)) (first | with_reducible exact HSd.out | with_reducible exact HSb.out | with_reducible exact HS3.out | with_reducible exact HS4.out) (first
  | (go_at_call 60; refine (values37 _ _ _ _).mono ?_; rintro e w2 ⟨rfl, rfl⟩)
  | (go_at_call 61; refine (letsNulls38 (nx := nx) g ac B ao ca (HB.out.gr HGB.out.1).s.f).mono ?_; rintro e w3 ⟨rfl, g3⟩; have HG3 := hidM (HGB.out.1.tr g3); have HB3 := hidM ((g3.block _ (lt_of_heap HGB.out.2) id).trans HGB.out.2); have HS3 := hidM (HSS.out w3 HG3.out); have HBw := hidM g3; clear g3)
  | (go_at_call 59; refine (wrong36 _ _ _ _ HB3.out).mono ?_; rintro e w4 ⟨rfl, g4⟩; have HG4 := hidM (HG3.out.tr g4); have HS4 := hidM (HSS.out w4 HG4.out); have HO4 : Hid (OpA nx A2 w4 L v2 c2 a ∧ w4.heap[l]? = some (.cells #[.pointer (some ⟨a, 0, none⟩)] 138)) := (by have k : Gr w1 w4 := (((gr_drew (w := w1)).tr (show Gr w1.drew B from by rw [← hB]; exact gr_alloc _ _)).tr HBw.out).tr g4; exact ⟨HO.out.1.gr k, (k.block _ (lt_of_heap HO.out.2) id).trans HO.out.2⟩); clear g4))
 have HC2 := hidM (laidBatch39 (nx := nx) L v2 c2 a l A2 w4 ((HB.out.gr HG4.out).n.T) HO4.out.1 HO4.out.2)
 clear hB
 go_wp2_with (go_at_call 62; refine HC2.out.mono ?_; rintro e w5 ⟨m, rfl, g5⟩; obtain ⟨h1, h2, h3⟩ := HX.out w5 m (HG4.out.tr g5); obtain ⟨U, hU⟩ := ex (setAll w5 A1.heap.size [(0, .int .i64 0), (1, .slice (some ⟨m, 0, none⟩) 1 1)]); rw [hU] at h2 h3; have HU := hidM h2; have HK := hidM h3; simp only [setAll] at hU; obtain ⟨y0, y1⟩ := cell2 h1; have yz := frzA h1; clear g5 h1 h2 h3)
 (try simp only [Exit.inBlock, Exit.then])
 refine bodyPost_ret (results_cell33t rfl rfl (by with_reducible exact HU.out) (by kernel_rfl)) rfl ?_
 exact ⟨_, rfl, HK.out⟩
theorem wrongBatch14 (L g ac db dbc qb bc v2 c2 : Nat) (ao : Option Addr) (ca : Nat) (W : World) (hB : Bt nx W L g ac db dbc qb bc v2 c2 ao ca) :
  Calls Tryz.prog 34 #[.agg #[.slice (some ⟨g, 0, none⟩) 1 ac, .slice none 0 0], .agg #[.int .i64 L, .slice (some ⟨db, 0, none⟩) 1 dbc]] W fun e w' => e = .returned (.int .i64 0) ∧ Gr W w' := by
 obtain ⟨A0, hA0, g0, b0⟩ := nw W (.cells #[.slice (some ⟨g, 0, none⟩) 1 ac, .slice none 0 0] 25)
 obtain ⟨A1, hA1, g1, b1⟩ := nw A0 (.cells #[.int .i64 L, .slice (some ⟨db, 0, none⟩) 1 dbc] 28)
 have gW : Gr W A1 := g0.tr g1
 have HG := hidM gW
 obtain ⟨e0, e1⟩ := cell2 ((g1.block _ (lt_of_heap b0) id).trans b0)
 obtain ⟨f0, f1⟩ := cell2 b1
 have HC := hidM (takeRows25 L g ac db dbc qb bc v2 c2 ao ca A1 (hB.gr gW))
 clear g0 b0 g1 b1 gW hB
 go_enter Tryz.func34, Tryz.ntmps34
 go_wp2_with (go_at_call 44; refine HC.out.mono ?_; rintro e w1 ⟨m, rfl, g1⟩; clear hA0 hA1; obtain ⟨V, hV⟩ := ex (w1.alloc (.cells #[.int .i64 0, .slice (some ⟨m, 0, none⟩) 1 1] 28)); have gV := gr_al hV; have hv := al_new hV; obtain ⟨y0, y1⟩ := cell2 hv; have yz := frzA hv; have i0 := set_id (j := 0) (v := .int .i64 0) hv rfl; have i1 := set_id (j := 1) (v := .slice (some ⟨m, 0, none⟩) 1 1) hv rfl; have HE := hidM ((HG.out.tr g1).tr gV); clear g1 gV hv)
 go_ret
 exact ⟨rfl, HE.out⟩
variable {nx ny : Bool}
theorem own_get {w : World} {e size n : Nat} {v : Value} {xs : List Value} (h : w.ownsRow 0 e size v n xs) (hn : 0 < n) : ∃ g cap cur, v = .slice (some ⟨g, 0, none⟩) n cap ∧ n ≤ cap ∧ w.heap[g]? = some (.cells cur e (0, 0)) ∧ cur.size = cap * size ∧ cur.toList.take (n * size) = xs ∧ ∀ j x, xs[j]? = some x → w.cell? ⟨g, j, none⟩ = some x := by
 obtain ⟨hl, ⟨-, h0⟩ | ⟨g, cap, cur, rfl, -, hg, h1, h2, h3, h4⟩⟩ := h
 ·omega
 refine ⟨g, cap, cur, rfl, h1, hg, h3, h4, fun j x hj => ?_⟩
 rw [← h4] at hj
 have hj2 : cur.toList[j]? = some x := by
  rw [List.getElem?_take] at hj
  split at hj
  ·exact hj
  cases hj
 have : cur[j]? = some x := by simpa using hj2
 simp [World.cell?, hg, this]
theorem info67 : (Tryz.prog.info? 72).map (fun i => (i.zero, i.size, i.bytes)) = some (some (.agg #[.int .i64 0, .int .i64 0]), 2, 16) := by kernel_rfl
theorem src67 {Z : World} {z : Nat} {x y : Int} (h : Z.heap[z]? = some (.cells #[.int .i64 x, .int .i64 y] 72)) : Src Tryz.prog 2 49 (.slice (some ⟨z, 0, none⟩) 1 1) 1 [.int .i64 x, .int .i64 y] Z := by
 refine Src.ofSlice (w := Z) Tryz.underlying49 ⟨z, 0, none⟩ 1 1 [.int .i64 x, .int .i64 y] rfl (fun j v hj => ?_) (fun v hv => by simp at hv; rcases hv with rfl | rfl <;> rfl)
 rw [Addr.add_lit, Nat.zero_add]
 obtain ⟨c0, c1⟩ := cell2 h
 match j, hj with
 | 0, hj => cases hj; exact c0
 | 1, hj => cases hj; exact c1
 | j + 2, hj => simp at hj
open Kd (ZsAt ZsAt.gr)
def rowO (l : List (Int × Int)) : List Value := l.flatMap fun x => [.int .i64 x.1, .int .i64 x.2]
theorem rowO_snoc (l : List (Int × Int)) (x : Int × Int) : rowO (l ++ [x]) = rowO l ++ [.int .i64 x.1, .int .i64 x.2] := by simp [rowO]
structure OrI (W wr : World) (l : List (Int × Int)) (vo : Option Addr) (vc : Nat) : Prop where
 gr : Gr W wr
 own : wr.ownsRow 0 72 2 (.slice vo l.length vc) l.length (rowO l)
 new : ∀ g, (Value.slice vo l.length vc).ownBlock = some g → W.heap.size ≤ g
theorem OrI.nil (W : World) : OrI W W [] none 0 := ⟨Keeps.refl _ _, World.ownsRow_nil W 0 72 2, fun g h => by simp [Value.ownBlock] at h⟩
theorem OrI.gr' {W wr w' : World} {l : List (Int × Int)} {vo : Option Addr} {vc : Nat} (h : OrI W wr l vo vc) (g : Gr wr w') : OrI W w' l vo vc := by
 refine ⟨h.gr.tr g, ?_, h.new⟩
 rcases h.own with ⟨h1, h2 | ⟨g0, cap, cur, e1, e2, e3, e4⟩⟩
 ·exact ⟨h1, .inl h2⟩
 exact ⟨h1, .inr ⟨g0, cap, cur, e1, e2, (g.block _ (lt_of_heap e3) id).trans e3, e4⟩⟩
theorem OrI.push {W Z w4 : World} {l : List (Int × Int)} {x : Int × Int} {vo vo' : Option Addr} {vc vc' : Nat} (h : OrI W Z l vo vc)
  (ho : w4.ownsRow 0 72 2 (.slice vo' (l.length + 1) vc') (l.length + 1) (rowO l ++ [.int .i64 x.1, .int .i64 x.2])) (hg : Z.grownBy w4 (Value.slice vo l.length vc).ownBlock)
  (hb : (Value.slice vo' (l.length + 1) vc').ownBlock = (Value.slice vo l.length vc).ownBlock ∨ ∀ g, (Value.slice vo' (l.length + 1) vc').ownBlock = some g → Z.heap.size ≤ g) : OrI W w4 (l ++ [x]) vo' vc' := by
 have kz := Keeps.ofGrown hg
 have hll : (l ++ [x]).length = l.length + 1 := by simp
 refine ⟨h.gr.trans kz (fun j hj e => by have := h.new j e; omega), ?_, fun g e => ?_⟩
 ·rw [hll, rowO_snoc]; exact ho
 rw [hll] at e
 rcases hb with hb | hb
 ·rw [hb] at e; exact h.new g e
 have := hb g e; have := h.gr.size; omega
def orA (sm : Bool) (k1 k2 : List Int) (i : Nat) : Int × Int := ((i : Int), if 0 ≤ plc k1 i ∧ sm = false then (k2[(plc k1 i).toNat]?).getD 0 else -1)
def orB (sm : Bool) (k2 : List Int) (m : Nat) : List (Int × Int) := ((List.range m).filter fun (i : Nat) => !decide (0 ≤ plc k2 (i : Int)) && !sm).map fun (i : Nat) => ((-1 : Int), (i : Int))
theorem orB_yes {sm : Bool} {k2 : List Int} {m : Nat} (h : ¬ 0 ≤ plc k2 (m : Int)) (hs : sm = false) : orB sm k2 (m + 1) = orB sm k2 m ++ [(-1, (m : Int))] := by
 simp [orB, List.range_succ, List.filter_append, h, hs]
theorem orB_no {sm : Bool} {k2 : List Int} {m : Nat} (h : 0 ≤ plc k2 (m : Int) ∨ sm = true) : orB sm k2 (m + 1) = orB sm k2 m := by
 rcases h with h | h <;> simp [orB, List.range_succ, List.filter_append, h]
theorem plc_lt (l : List Int) (x : Int) : plc l x < l.length := by
 unfold plc
 cases h : l.findIdx? (· == x) with
 | some i => have := (List.findIdx?_eq_some_iff_getElem.1 h).1; simp; exact this
 | none => simp; omega
theorem originsOf14 (join : Int) (k1 k2 : List Int) (po qo fo no go mo : Option Addr) (pc qc n cf nn cn m cg mm cm : Nat) (sm : Bool) (W : World) (hsm : sm = decide (join = 4 ∨ join = 5)) (hn : n ≤ 1000000000000) (hm : m ≤ 1000000000000) (hk : k1.length = k2.length) (hk8 : k1.length ≤ 1000000000000) (h1 : ZsAt W po k1) (h2 : ZsAt W qo k2) :
  Calls Tryz.prog 14 #[.int .i64 join, .agg #[.slice fo n cf, .slice no nn cn], .slice po k1.length pc, .agg #[.slice go m cg, .slice mo mm cm], .slice qo k2.length qc] W fun e w' => ∃ vo vc, e = .returned (.slice vo (n + (orB sm k2 m).length) vc) ∧ Gr W w' ∧ OrI W w' ((List.range n).map (orA sm k1 k2) ++ orB sm k2 m) vo vc := by
 obtain ⟨A0, hA0, g0, b0⟩ := nw W (.cells #[.slice fo n cf, .slice no nn cn] 25)
 obtain ⟨A1, hA1, g1, b1⟩ := nw A0 (.cells #[.slice go m cg, .slice mo mm cm] 25)
 have gW : Gr W A1 := g0.tr g1
 have HW := hidM gW
 have HT : Hid (∀ u, Gr A1 u → u.cell? ⟨A0.heap.size, 0, none⟩ = some (.slice go m cg)) := fun u g => g.cell' (cell2 b1).1 id
 have HZ1 : Hid (∀ u, Gr A1 u → ZsAt u po k1) := fun u g => h1.gr (gW.tr g)
 have HZ2 : Hid (∀ u, Gr A1 u → ZsAt u qo k2) := fun u g => h2.gr (gW.tr g)
 obtain ⟨q0, q1⟩ := cell2 ((g1.block _ (lt_of_heap b0) id).trans b0)
 have HST := hidM (OrI.nil A1)
 have HN := hidM hn
 have HM := hidM hm
 have HSM := hidM hsm
 have HKK := hidM hk
 have HK8 := hidM hk8
 obtain ⟨c1, hc1⟩ : ∃ c, c = k1.length := ⟨_, rfl⟩
 obtain ⟨c2, hc2⟩ : ∃ c, c = k2.length := ⟨_, rfl⟩
 rw [← hc1, ← hc2]
 have HC1 := hidM hc1
 have HC2 := hidM hc2
 clear g0 b0 g1 b1 gW h1 h2 hsm hk hk8 hc1 hc2
 go_enter Tryz.func14, Tryz.ntmps14
 go_wp2_with fail
 clear q0 q1 hA0 hA1
 go_loopw [19, 11] (fun i s wr => ∃ (k : Nat) (vo : Option Addr) (vc : Nat), k ≤ n ∧ i = .int .i64 (k : Int) ∧ s = .slice vo k vc ∧ Hid (OrI A1 wr ((List.range k).map (orA sm k1 k2)) vo vc)) (fun i _ _ => n - (intOf i).toNat)
 case atStart => exact ⟨0, none, 0, by omega, rfl, rfl, HST⟩
 case round =>
  obtain ⟨k, vo, vc, hk, rfl, rfl, HK⟩ := hrel
  by_cases hlt : k < n
  ·have hltI : (k : Int) < (n : Int) := by omega
   obtain ⟨X, hX, gX, bX⟩ := nw wr (.cells #[.int .i64 0, .int .i64 0] 72)
   obtain ⟨z0, z1⟩ := cell2 bX
   have fX := frz bX
   obtain ⟨Y, hY⟩ := ex (setAll X wr.heap.size [(0, .int .i64 (k : Int)), (1, .int .i64 (-1))])
   have kY : Keeps X Y (fun z => z = wr.heap.size) := by rw [← hY]; exact setAll_kp _ _ _
   have bY : Y.heap[wr.heap.size]? = some (.cells #[.int .i64 (k : Int), .int .i64 (-1)] 72) := by rw [← hY, setAll_blk wr.heap.size 72 _ _ _ bX]; simp [setsA]
   have gY : Gr wr Y := gX.trans kY (fun j hj (e : j = wr.heap.size) => by omega)
   have gAY : Gr A1 Y := HK.out.gr.tr gY
   obtain ⟨t0, t1⟩ := cell2 bY
   have fY := frz bY
   have HBY := hidM bY
   have HIx := hidM (index26 k1 (k : Int) po pc Y HK8.out (HZ1.out Y gAY))
   rw [← HC1.out] at HIx
   have HKL := hidM (keepsLeft27 join Y)
   rw [← HSM.out] at HKL
   have HY : Hid (True ∧ Gr wr Y) := ⟨trivial, gY⟩
   have HAY := hidM gAY
   simp only [setAll] at hY
   obtain ⟨p, hp⟩ : ∃ p, p = plc k1 (k : Int) := ⟨_, rfl⟩
   rw [← hp] at HIx
   have HPp := hidM hp
   clear gX bX kY bY gY gAY hp
   by_cases hp0 : 0 ≤ p
   ·rcases Bool.eq_false_or_eq_true sm with hs | hs
    ·have HOr : Hid (orA sm k1 k2 k = ((k : Int), (-1 : Int))) := by show _ = _; simp [orA, hs]
     have hs' := hidM hs
     rw [hs] at HKL
     clear hs
     obtain ⟨l, hl⟩ : ∃ l, l = (List.range k).map (orA sm k1 k2) := ⟨_, rfl⟩
     have hL : l.length = k := by rw [hl]; simp
     have HK' := HK.out
     rw [← hl] at HK'
     obtain ⟨Z, hZ⟩ := ex (Y.alloc (.cells #[.int .i64 (k : Int), .int .i64 (-1)] 72))
     have gZ : Gr wr Z := by rw [← hZ]; exact HY.out.2.tr (gr_alloc _ _)
     have hOZ := HK'.gr' gZ
     have HO : Hid (Z.ownsRow 0 72 2 (.slice vo k vc) k (rowO l)) := by
      have h := hOZ.own
      rw [hL] at h
      exact h
     have HSr : Hid (Src Tryz.prog 2 49 (.slice (some ⟨Y.heap.size, 0, none⟩) 1 1) 1 [.int .i64 (k : Int), .int .i64 (-1)] Z) := by
      rw [← hZ]
      exact src67 (heap_alloc_new _ _)
     have HP : Hid (∀ (w4 : World) (vo' : Option Addr) (vc' : Nat), w4.ownsRow 0 72 2 (.slice vo' (k + 1) vc') (k + 1) (rowO l ++ [.int .i64 (k : Int), .int .i64 (-1)]) → Z.grownBy w4 (Value.slice vo k vc).ownBlock → ((Value.slice vo' (k + 1) vc').ownBlock = (Value.slice vo k vc).ownBlock ∨ ∀ g, (Value.slice vo' (k + 1) vc').ownBlock = some g → Z.heap.size ≤ g) → OrI A1 w4 ((List.range (k + 1)).map (orA sm k1 k2)) vo' vc') := by
      intro w4 vo' vc' h1 h2 h3
      rw [List.range_succ, List.map_append, ← hl, List.map_singleton, HOr.out]
      refine hOZ.push ?_ ?_ ?_
      ·rw [hL]; exact h1
      ·rw [hL]; exact h2
      rw [hL]; exact h3
     have H63 : Hid (k + 1 ≤ 9223372036854775807) := by show _ ≤ _; have := HN.out; omega
     have H80 : Hid ((k + 1) * 16 ≤ 140737488355328) := by show _ ≤ _; have := HN.out; omega
     clear HK' hl hL hOZ gZ
     go_wp2_with (first | (go_at_call 26; refine HIx.out.mono ?_; rintro e w1 ⟨rfl, hw⟩; subst w1) | (go_at_call 27; refine HKL.out.mono ?_; rintro e w1 ⟨rfl, hw⟩; subst w1) | (with_reducible show wpList Tryz.prog _ _ (Oper.mk (some 42) _ _ _ _ _ :: _) _ _; refine wpList_append_anyN (P := Tryz.prog) Z rfl (.tmp 39) (.tmp 41) 49 49 rfl 72 (.agg #[.int .i64 0, .int .i64 0]) 2 16 Tryz.underlying49 info67 rfl (.slice vo k vc) k (rowO l) rfl HO.out (.slice (some ⟨Y.heap.size, 0, none⟩) 1 1) 1 [.int .i64 (k : Int), .int .i64 (-1)] rfl HSr.out H63.out H80.out ?_; intro v' w4 hown hgrow hblk; obtain ⟨vo', vc', rfl⟩ := own_formN hown; replace hown := hidM hown; replace hgrow := hidM hgrow; replace hblk := hidM hblk))
     have HN2 := hidM (HP.out w4 vo' vc' hown.out hgrow.out hblk.out)
     clear hown hgrow hblk HP HO HSr hZ
     (try go_wp2_with fail)
     go_roundw
     case rel => exact ⟨k + 1, vo', vc', by omega, by simp, rfl, HN2⟩
     case measure => simp [intOf]; omega
    obtain ⟨i, rfl⟩ : ∃ i : Nat, p = (i : Int) := ⟨p.toNat, by omega⟩
    have hil : i < k2.length := by have := plc_lt k1 (k : Int); have := HPp.out; have := HKK.out; omega
    obtain ⟨y, hy⟩ : ∃ y, y = k2[i]'hil := ⟨_, rfl⟩
    have HOr : Hid (orA sm k1 k2 k = ((k : Int), y)) := by show _ = _; have := HPp.out; simp [orA, ← this, hs, hil, hy]
    obtain ⟨bb, o, rfl, hc⟩ := HZ2.out Y HAY.out (fun e => by subst e; simp at hil)
    have c := hc i hil
    rw [← hy] at c
    have hiI : (i : Int) < (c2 : Int) := by have := HC2.out; omega
    obtain ⟨V, hV⟩ := ex (Y.setCell ⟨wr.heap.size, 1, none⟩ (.int .i64 y))
    have kV : Keeps Y V (fun z => z = wr.heap.size) := by rw [← hV]; exact Keeps.setCell (S := fun z => z = wr.heap.size) (p := ⟨wr.heap.size, 1, none⟩) (Keeps.refl Y _) (fun _ => rfl) _
    have bV : V.heap[wr.heap.size]? = some (.cells #[.int .i64 (k : Int), .int .i64 y] 72) := by rw [← hV, heap_setCell_same Y wr.heap.size 1 _ _ _ HBY.out]; rfl
    have gV : Gr wr V := HY.out.2.trans kV (fun j hj (e : j = wr.heap.size) => by omega)
    obtain ⟨v0, v1⟩ := cell2 bV
    clear HY
    have HY : Hid (True ∧ Gr wr V) := ⟨trivial, gV⟩
    rw [hs] at HKL
    clear hs hc hy kV bV gV hil
    obtain ⟨l, hl⟩ : ∃ l, l = (List.range k).map (orA sm k1 k2) := ⟨_, rfl⟩
    have hL : l.length = k := by rw [hl]; simp
    have HK' := HK.out
    rw [← hl] at HK'
    obtain ⟨Z, hZ⟩ := ex (V.alloc (.cells #[.int .i64 (k : Int), .int .i64 y] 72))
    have gZ : Gr wr Z := by rw [← hZ]; exact HY.out.2.tr (gr_alloc _ _)
    have hOZ := HK'.gr' gZ
    have HO : Hid (Z.ownsRow 0 72 2 (.slice vo k vc) k (rowO l)) := by
     have h := hOZ.own
     rw [hL] at h
     exact h
    have HSr : Hid (Src Tryz.prog 2 49 (.slice (some ⟨V.heap.size, 0, none⟩) 1 1) 1 [.int .i64 (k : Int), .int .i64 y] Z) := by
     rw [← hZ]
     exact src67 (heap_alloc_new _ _)
    have HP : Hid (∀ (w4 : World) (vo' : Option Addr) (vc' : Nat), w4.ownsRow 0 72 2 (.slice vo' (k + 1) vc') (k + 1) (rowO l ++ [.int .i64 (k : Int), .int .i64 y]) → Z.grownBy w4 (Value.slice vo k vc).ownBlock → ((Value.slice vo' (k + 1) vc').ownBlock = (Value.slice vo k vc).ownBlock ∨ ∀ g, (Value.slice vo' (k + 1) vc').ownBlock = some g → Z.heap.size ≤ g) → OrI A1 w4 ((List.range (k + 1)).map (orA sm k1 k2)) vo' vc') := by
     intro w4 vo' vc' h1 h2 h3
     rw [List.range_succ, List.map_append, ← hl, List.map_singleton, HOr.out]
     refine hOZ.push ?_ ?_ ?_
     ·rw [hL]; exact h1
     ·rw [hL]; exact h2
     rw [hL]; exact h3
    have H63 : Hid (k + 1 ≤ 9223372036854775807) := by show _ ≤ _; have := HN.out; omega
    have H80 : Hid ((k + 1) * 16 ≤ 140737488355328) := by show _ ≤ _; have := HN.out; omega
    clear HK' hl hL hOZ gZ
    go_wp2_with (first | (go_at_call 26; refine HIx.out.mono ?_; rintro e w1 ⟨rfl, hw⟩; subst w1) | (go_at_call 27; refine HKL.out.mono ?_; rintro e w1 ⟨rfl, hw⟩; subst w1) | (with_reducible show wpList Tryz.prog _ _ (Oper.mk (some 42) _ _ _ _ _ :: _) _ _; refine wpList_append_anyN (P := Tryz.prog) Z rfl (.tmp 39) (.tmp 41) 49 49 rfl 72 (.agg #[.int .i64 0, .int .i64 0]) 2 16 Tryz.underlying49 info67 rfl (.slice vo k vc) k (rowO l) rfl HO.out (.slice (some ⟨V.heap.size, 0, none⟩) 1 1) 1 [.int .i64 (k : Int), .int .i64 y] rfl HSr.out H63.out H80.out ?_; intro v' w4 hown hgrow hblk; obtain ⟨vo', vc', rfl⟩ := own_formN hown; replace hown := hidM hown; replace hgrow := hidM hgrow; replace hblk := hidM hblk))
    have HN2 := hidM (HP.out w4 vo' vc' hown.out hgrow.out hblk.out)
    clear hown hgrow hblk HP HO HSr hZ
    (try go_wp2_with fail)
    go_roundw
    case rel => exact ⟨k + 1, vo', vc', by omega, by simp, rfl, HN2⟩
    case measure => simp [intOf]; omega
   have HOr : Hid (orA sm k1 k2 k = ((k : Int), (-1 : Int))) := by show _ = _; have := HPp.out; simp [orA, ← this, hp0]
   obtain ⟨l, hl⟩ : ∃ l, l = (List.range k).map (orA sm k1 k2) := ⟨_, rfl⟩
   have hL : l.length = k := by rw [hl]; simp
   have HK' := HK.out
   rw [← hl] at HK'
   obtain ⟨Z, hZ⟩ := ex (Y.alloc (.cells #[.int .i64 (k : Int), .int .i64 (-1)] 72))
   have gZ : Gr wr Z := by rw [← hZ]; exact HY.out.2.tr (gr_alloc _ _)
   have hOZ := HK'.gr' gZ
   have HO : Hid (Z.ownsRow 0 72 2 (.slice vo k vc) k (rowO l)) := by
    have h := hOZ.own
    rw [hL] at h
    exact h
   have HSr : Hid (Src Tryz.prog 2 49 (.slice (some ⟨Y.heap.size, 0, none⟩) 1 1) 1 [.int .i64 (k : Int), .int .i64 (-1)] Z) := by
    rw [← hZ]
    exact src67 (heap_alloc_new _ _)
   have HP : Hid (∀ (w4 : World) (vo' : Option Addr) (vc' : Nat), w4.ownsRow 0 72 2 (.slice vo' (k + 1) vc') (k + 1) (rowO l ++ [.int .i64 (k : Int), .int .i64 (-1)]) → Z.grownBy w4 (Value.slice vo k vc).ownBlock → ((Value.slice vo' (k + 1) vc').ownBlock = (Value.slice vo k vc).ownBlock ∨ ∀ g, (Value.slice vo' (k + 1) vc').ownBlock = some g → Z.heap.size ≤ g) → OrI A1 w4 ((List.range (k + 1)).map (orA sm k1 k2)) vo' vc') := by
    intro w4 vo' vc' h1 h2 h3
    rw [List.range_succ, List.map_append, ← hl, List.map_singleton, HOr.out]
    refine hOZ.push ?_ ?_ ?_
    ·rw [hL]; exact h1
    ·rw [hL]; exact h2
    rw [hL]; exact h3
   have H63 : Hid (k + 1 ≤ 9223372036854775807) := by show _ ≤ _; have := HN.out; omega
   have H80 : Hid ((k + 1) * 16 ≤ 140737488355328) := by show _ ≤ _; have := HN.out; omega
   clear HK' hl hL hOZ gZ
   go_wp2_with (first | (go_at_call 26; refine HIx.out.mono ?_; rintro e w1 ⟨rfl, hw⟩; subst w1) | (with_reducible show wpList Tryz.prog _ _ (Oper.mk (some 42) _ _ _ _ _ :: _) _ _; refine wpList_append_anyN (P := Tryz.prog) Z rfl (.tmp 39) (.tmp 41) 49 49 rfl 72 (.agg #[.int .i64 0, .int .i64 0]) 2 16 Tryz.underlying49 info67 rfl (.slice vo k vc) k (rowO l) rfl HO.out (.slice (some ⟨Y.heap.size, 0, none⟩) 1 1) 1 [.int .i64 (k : Int), .int .i64 (-1)] rfl HSr.out H63.out H80.out ?_; intro v' w4 hown hgrow hblk; obtain ⟨vo', vc', rfl⟩ := own_formN hown; replace hown := hidM hown; replace hgrow := hidM hgrow; replace hblk := hidM hblk))
   have HN2 := hidM (HP.out w4 vo' vc' hown.out hgrow.out hblk.out)
   clear hown hgrow hblk HP HO HSr hZ
   (try go_wp2_with fail)
   go_roundw
   case rel => exact ⟨k + 1, vo', vc', by omega, by simp, rfl, HN2⟩
   case measure => simp [intOf]; omega
  have hkn : k = n := by omega
  subst hkn
  have hs0 := HT.out wr HK.out.gr
  obtain ⟨lA, hlA⟩ : ∃ l, l = (List.range k).map (orA sm k1 k2) := ⟨_, rfl⟩
  have hLA : lA.length = k := by rw [hlA]; simp
  rw [← hlA] at HK
  have HLA := hidM hLA
  have HlA := hidM hlA
  clear hlA hLA
  go_wp2_with fail
  clear hs0
  go_loopw [47, 11] (fun i s w2 => ∃ (j L : Nat) (vo : Option Addr) (vc : Nat), j ≤ m ∧ L ≤ k + j ∧ i = .int .i64 (j : Int) ∧ s = .slice vo L vc ∧ Hid (L = k + (orB sm k2 j).length ∧ OrI A1 w2 (lA ++ orB sm k2 j) vo vc)) (fun i _ _ => m - (intOf i).toNat)
  case atStart => exact ⟨0, k, vo, vc, by omega, by omega, rfl, rfl, by simp [orB], by have h := HK.out; simpa [orB] using h⟩
  case round =>
   obtain ⟨j, L, vo, vc, hj, hLj, rfl, rfl, HJ⟩ := hrel
   by_cases hjm : j < m
   ·have hjI : (j : Int) < (m : Int) := by omega
    have HCt := hidM (contains28 k2 (j : Int) qo qc wr (by rw [← HKK.out]; exact HK8.out) (HZ2.out wr HJ.out.2.gr))
    rw [← HC2.out] at HCt
    have HKL := hidM (keepsLeft27 join wr)
    rw [← HSM.out] at HKL
    obtain ⟨cb, hcb⟩ : ∃ b, b = decide (0 ≤ plc k2 (j : Int)) := ⟨_, rfl⟩
    rw [← hcb] at HCt
    rcases Bool.eq_false_or_eq_true cb with hb | hb
    ·have HNx : Hid (L = k + (orB sm k2 (j + 1)).length ∧ OrI A1 wr (lA ++ orB sm k2 (j + 1)) vo vc) := by
      rw [orB_no (.inl (by rw [hb] at hcb; simpa using hcb.symm))]; exact HJ.out
     rw [hb] at HCt
     clear hb hcb
     go_wp2_with (first | (go_at_call 28; refine HCt.out.mono ?_; rintro e w1 ⟨rfl, hw⟩; subst w1))
     go_roundw
     case rel => exact ⟨j + 1, L, vo, vc, by omega, by omega, by simp, rfl, HNx⟩
     case measure => simp [intOf]; omega
    rcases Bool.eq_false_or_eq_true sm with hs | hs
    ·have HNx : Hid (L = k + (orB sm k2 (j + 1)).length ∧ OrI A1 wr (lA ++ orB sm k2 (j + 1)) vo vc) := by
      rw [orB_no (.inr hs)]; exact HJ.out
     rw [hb] at HCt
     rw [hs] at HKL
     clear hb hcb hs
     go_wp2_with (first | (go_at_call 28; refine HCt.out.mono ?_; rintro e w1 ⟨rfl, hw⟩; subst w1) | (go_at_call 27; refine HKL.out.mono ?_; rintro e w1 ⟨rfl, hw⟩; subst w1))
     go_roundw
     case rel => exact ⟨j + 1, L, vo, vc, by omega, by omega, by simp, rfl, HNx⟩
     case measure => simp [intOf]; omega
    have hor : orB sm k2 (j + 1) = orB sm k2 j ++ [(-1, (j : Int))] := orB_yes (by rw [hb] at hcb; simpa using hcb.symm) hs
    obtain ⟨l, hl⟩ : ∃ l, l = lA ++ orB sm k2 j := ⟨_, rfl⟩
    have hL : l.length = L := by rw [hl, List.length_append, HLA.out]; exact HJ.out.1.symm
    have hJ' := HJ.out.2
    rw [← hl] at hJ'
    obtain ⟨Z, hZ⟩ := ex (wr.alloc (.cells #[.int .i64 (-1), .int .i64 (j : Int)] 72))
    have gZ : Gr wr Z := by rw [← hZ]; exact gr_alloc _ _
    have hOZ := hJ'.gr' gZ
    have HO : Hid (Z.ownsRow 0 72 2 (.slice vo L vc) L (rowO l)) := by
     have h := hOZ.own
     rw [hL] at h
     exact h
    have HSr : Hid (Src Tryz.prog 2 49 (.slice (some ⟨wr.heap.size, 0, none⟩) 1 1) 1 [.int .i64 (-1), .int .i64 (j : Int)] Z) := by
     rw [← hZ]
     exact src67 (heap_alloc_new _ _)
    have HP : Hid (∀ (w4 : World) (vo' : Option Addr) (vc' : Nat), w4.ownsRow 0 72 2 (.slice vo' (L + 1) vc') (L + 1) (rowO l ++ [.int .i64 (-1), .int .i64 (j : Int)]) → Z.grownBy w4 (Value.slice vo L vc).ownBlock → ((Value.slice vo' (L + 1) vc').ownBlock = (Value.slice vo L vc).ownBlock ∨ ∀ g, (Value.slice vo' (L + 1) vc').ownBlock = some g → Z.heap.size ≤ g) → L + 1 = k + (orB sm k2 (j + 1)).length ∧ OrI A1 w4 (lA ++ orB sm k2 (j + 1)) vo' vc') := by
     intro w4 vo' vc' h1 h2 h3
     rw [hor, ← List.append_assoc, ← hl]
     refine ⟨by rw [List.length_append, ← Nat.add_assoc, ← HJ.out.1]; rfl, hOZ.push ?_ ?_ ?_⟩
     ·rw [hL]; exact h1
     ·rw [hL]; exact h2
     rw [hL]; exact h3
    have H63 : Hid (L + 1 ≤ 9223372036854775807) := by show _ ≤ _; have := HN.out; have := HM.out; omega
    have H80 : Hid ((L + 1) * 16 ≤ 140737488355328) := by show _ ≤ _; have := HN.out; have := HM.out; omega
    rw [hb] at HCt
    rw [hs] at HKL
    clear hJ' hl hL hOZ gZ hor hb hcb hs
    go_wp2_with (first | (go_at_call 28; refine HCt.out.mono ?_; rintro e w1 ⟨rfl, hw⟩; subst w1) | (go_at_call 27; refine HKL.out.mono ?_; rintro e w1 ⟨rfl, hw⟩; subst w1) | (with_reducible show wpList Tryz.prog _ _ (Oper.mk (some 63) _ _ _ _ _ :: _) _ _; refine wpList_append_anyN (P := Tryz.prog) Z rfl (.tmp 59) (.tmp 62) 49 49 rfl 72 (.agg #[.int .i64 0, .int .i64 0]) 2 16 Tryz.underlying49 info67 rfl (.slice vo L vc) L (rowO l) rfl HO.out (.slice (some ⟨wr.heap.size, 0, none⟩) 1 1) 1 [.int .i64 (-1), .int .i64 (j : Int)] rfl HSr.out H63.out H80.out ?_; intro v' w4 hown hgrow hblk; obtain ⟨vo', vc', rfl⟩ := own_formN hown; replace hown := hidM hown; replace hgrow := hidM hgrow; replace hblk := hidM hblk))
    have HN2 := hidM (HP.out w4 vo' vc' hown.out hgrow.out hblk.out)
    clear hown hgrow hblk HP HO HSr hZ
    (try go_wp2_with fail)
    go_roundw
    case rel => exact ⟨j + 1, L + 1, vo', vc', by omega, by omega, by simp, rfl, HN2⟩
    case measure => simp [intOf]; omega
   have hjm' : j = m := by omega
   subst hjm'
   have hO := HJ.out.2
   have HE : Hid (Gr W wr ∧ OrI W wr (lA ++ orB sm k2 j) vo vc) := ⟨HW.out.tr hO.gr, HW.out.tr hO.gr, hO.own, fun g e => by have := hO.new g e; have := HW.out.size; omega⟩
   have hL := HJ.out.1
   clear hO
   go_wp2_with fail
   go_ret
   exact ⟨vo, vc, by rw [← hL]; rfl, HE.out.1, by rw [← HlA.out]; exact HE.out.2⟩
open Kd (NewB z37 info37 c37)
def ren (a : ByteArray) (b : Bool) (f : FT) : FT := .mk a b f.kind f.width f.id f.index f.kids
theorem bareF_ren (a : ByteArray) (b : Bool) : ∀ (d : Nat) (f : FT), bareF d (ren a b f) = ren a b (bareF d f)
 | 0, f => rfl
 | d + 1, f => by
  have hk : (ren a b f).kind = f.kind := rfl
  have hl : (ren a b f).kids = f.kids := rfl
  unfold bareF
  rw [hk, hl]
  split
  ·cases h : f.kids with
   | nil => rfl
   | cons c t => rfl
  rfl
theorem ren_self (f : FT) : ren f.name f.nul f = f := by cases f; rfl
theorem bare17_in (d : Nat) (T : Nat → Prop) (f : FT) (ao : Option Addr) (ca : Nat) (W : World) (hrow : RowAt T W (d + 1) ao f.kids) (hT : ∀ b, T b → b < W.heap.size) (hle : f.kids.length ≤ ca)
  (h17 : ∀ g ∈ f.kids, ∀ (a : ByteArray) (b : Bool) (ko : Option Addr) (kc : Nat) (u : World), RowAt T u d ko g.kids → (∀ b, T b → b < u.heap.size) → g.kids.length ≤ kc → Calls Tryz.prog 17 #[.agg #[.string a, .bool b, .int .i64 g.kind, .int .i64 g.width, .int .i64 g.id, .int .i64 g.index, .slice ko g.kids.length kc]] u fun e w' => ∃ v, e = .returned v ∧ Gr u w' ∧ FVx d u w' (ren a b (bareF d g)) v) (c1 : f.kind = 19 ∨ f.kind = 20) (hne : f.kids ≠ []) :
  Calls Tryz.prog 17 #[.agg #[.string f.name, .bool f.nul, .int .i64 f.kind, .int .i64 f.width, .int .i64 f.id, .int .i64 f.index, .slice ao f.kids.length ca]] W fun e w' => ∃ v, e = .returned v ∧ Gr W w' ∧ FVx (d + 1) W w' (bareF (d + 1) f) v := by
 obtain ⟨n, hn⟩ : ∃ n, n = f.kids.length := ⟨_, rfl⟩
 have hlen : n ≤ 1000000000000 := by rw [hn]; exact hrow.1
 obtain ⟨A0, hA0, g0, b0⟩ := nw W (.cells #[.string f.name, .bool f.nul, .int .i64 f.kind, .int .i64 f.width, .int .i64 f.id, .int .i64 f.index, .slice ao n ca] 58)
 obtain ⟨A1, hA1, g1, b1⟩ := nw A0 (.cells #[.string ⟨#[]⟩, .bool false, .int .i64 0, .int .i64 0, .int .i64 0, .int .i64 0, .slice none 0 0] 58)
 have s0 := sz_al hA0
 have s1 := sz_al hA1
 obtain ⟨A2, hA2, g2, b2⟩ := nw A1 (.cells #[.int .i64 0, .int .i64 0, .int .i64 0, .int .i64 0, .slice none 0 0] 56)
 have s2 := sz_al hA2
 obtain ⟨A3, hA3⟩ := ex (setAll A2 A1.heap.size [(0, .int .i64 f.kind), (1, .int .i64 f.width), (2, .int .i64 f.id), (3, .int .i64 f.index), (4, .slice ao n ca)])
 have k3 : Keeps A2 A3 (fun z => z = A1.heap.size) := by rw [← hA3]; exact setAll_kp _ _ _
 have b3 : A3.heap[A1.heap.size]? = some (.cells #[.int .i64 f.kind, .int .i64 f.width, .int .i64 f.id, .int .i64 f.index, .slice ao n ca] 56) := by rw [← hA3, setAll_blk A1.heap.size 56 _ _ _ b2]; simp [setsA]
 have s3 := k3.size
 have gW1 : Gr W A1 := g0.tr g1
 have gW3 : Gr W A3 := (gW1.tr g2).trans k3 (fun j hj (e : j = A1.heap.size) => by omega)
 have b01 := (g1.block _ (lt_of_heap b0) id).trans b0
 have b02 := (g2.block _ (lt_of_heap b01) id).trans b01
 have b03 := (k3.block _ (lt_of_heap b02) (by omega)).trans b02
 have b12 := (g2.block _ (lt_of_heap b1) id).trans b1
 have b13 := (k3.block _ (lt_of_heap b12) (by omega)).trans b12
 obtain ⟨e0, e1, e2, e3, e4, e5, e6⟩ := cell7 b01
 obtain ⟨i0, i1, i2, i3, i4, i5, i6⟩ := cell7 b02
 obtain ⟨j0, j1, j2, j3, j4⟩ := cell5 b2
 have fz2 := frz b2
 obtain ⟨t0, t1, t2, t3, t4⟩ := cell5 b3
 obtain ⟨p0, p1, p2, p3, p4, p5, p6⟩ := cell7 b03
 obtain ⟨b, o, rfl, hb, hi⟩ := hrow.2 hne
 have h0 : 0 < f.kids.length := by cases hk : f.kids with | nil => exact absurd hk hne | cons _ _ => simp
 obtain ⟨ko, kc, hc, hle0, hr⟩ := hi 0 h0
 obtain ⟨g, hg⟩ : ∃ g, g = f.kids[0] := ⟨_, rfl⟩
 rw [← hg] at hc hle0 hr
 rw [Nat.zero_mul, Nat.add_zero] at hc
 have hcw := hc.kept (gW3.block b (hT b hb) id)
 obtain ⟨x0, x1, x2, x3, x4, x5, x6⟩ := id hcw
 obtain ⟨A4, hA4, g4, b4⟩ := nw A3 (.cells #[.string ⟨#[]⟩, .bool false, .int .i64 0, .int .i64 0, .int .i64 0, .int .i64 0, .slice none 0 0] 58)
 have s4 := sz_al hA4
 obtain ⟨m0, m1, m2, m3, m4, m5, m6⟩ := cell7 b4
 have fz4 := frz b4
 have hcw4 := hcw.kept (g4.block b (Nat.lt_of_lt_of_le (hT b hb) gW3.size) id)
 obtain ⟨w0, w1, w2, w3, w4, w5, w6⟩ := hcw4
 obtain ⟨A5, hA5⟩ := ex (setAll A4 A3.heap.size [(0, .string g.name), (1, .bool g.nul), (2, .int .i64 g.kind), (3, .int .i64 g.width), (4, .int .i64 g.id), (5, .int .i64 g.index), (6, .slice ko g.kids.length kc)])
 have k5 : Keeps A4 A5 (fun z => z = A3.heap.size) := by rw [← hA5]; exact setAll_kp _ _ _
 have b5 : A5.heap[A3.heap.size]? = some (.cells #[.string g.name, .bool g.nul, .int .i64 g.kind, .int .i64 g.width, .int .i64 g.id, .int .i64 g.index, .slice ko g.kids.length kc] 58) := by rw [← hA5, setAll_blk A3.heap.size 58 _ _ _ b4]; simp [setsA]
 obtain ⟨n0, n1, n2, n3, n4, n5, n6⟩ := cell7 b5
 have g35 : Gr A3 A5 := g4.trans k5 (fun j hj (e : j = A3.heap.size) => by omega)
 have b05 := (g35.block _ (lt_of_heap b03) id).trans b03
 have b15 := (g35.block _ (lt_of_heap b13) id).trans b13
 obtain ⟨q0, q1, q2, q3, q4, q5, q6⟩ := cell7 b05
 have gW : Gr W A5 := gW3.tr g35
 have HQ := hidM (h17 g (by rw [hg]; exact List.getElem_mem h0) f.name f.nul ko kc A5 (hr.kept fun z hz => gW.block z (hT z hz) id) (fun z hz => Nat.lt_of_lt_of_le (hT z hz) gW.size) hle0)
 have hbar : bareF (d + 1) f = ren f.name f.nul (bareF d g) := by
  rw [bareF, if_pos c1]
  cases hk : f.kids with
  | nil => exact absurd hk hne
  | cons a t => simp [hg, hk, ren]
 have hnI : (0 : Int) < (n : Int) := by omega
 have HB := hidM (And.intro b15 (And.intro gW (And.intro s0 s1)))
 have HS5 := hidM (And.intro s2 (And.intro s3 (And.intro s4 k5.size)))
 have HF := hidM hbar
 have hbr : (f.kind == 19) = true ∨ ((f.kind == 19) = false ∧ (f.kind == 20) = true) := by
  rcases c1 with e | e
  ·exact .inl (by simp [e])
  exact .inr ⟨by simp [e], by simp [e]⟩
 rw [← hn]
 simp only [setAll] at hA3 hA5
 clear hrow hT h17 hi hc hcw hb hr hle0 hle g0 g1 g2 g4 g35 b0 b1 b01 b02 b03 b12 b13 b2 b3 b4 b5 b05 b15 k3 k5 gW gW1 gW3 s0 s1 s2 s3 s4 hbar c1 hne hn hg
 rcases hbr with k1 | ⟨k1, k2⟩
 ·go_enter Tryz.func17, Tryz.ntmps17
  go_wp2_with (go_at_call 17; refine Hid.out ?_)
  unfold Hid
  refine Calls.mono HQ.out ?_
  rintro e V ⟨v, rfl, gV, hv⟩
  obtain ⟨xo, xc, rfl, hxl, hxr⟩ := hv
  obtain ⟨r, hrr⟩ : ∃ r, r = bareF d g := ⟨_, rfl⟩
  rw [← hrr] at hxl hxr ⊢
  obtain ⟨b15, gW, s0, s1⟩ := HB.out
  rw [s0] at b15
  have q1 := (gV.block _ (lt_of_heap b15) id).trans b15
  obtain ⟨r0, r1, r2, r3, r4, r5, r6⟩ := cell7 q1
  have fq := frz q1
  obtain ⟨U, hU⟩ := ex (setAll V (W.heap.size + 1) [(0, .string f.name), (1, .bool f.nul), (2, .int .i64 r.kind), (3, .int .i64 r.width), (4, .int .i64 r.id), (5, .int .i64 r.index), (6, .slice xo r.kids.length xc)])
  have ku : Keeps V U (fun z => z = (W.heap.size + 1)) := by rw [← hU]; exact setAll_kp _ _ _
  have hu : U.heap[(W.heap.size + 1)]? = some (.cells #[.string f.name, .bool f.nul, .int .i64 r.kind, .int .i64 r.width, .int .i64 r.id, .int .i64 r.index, .slice xo r.kids.length xc] 58) := by rw [← hU, setAll_blk (W.heap.size + 1) 58 _ _ _ q1]; simp [setsA]
  have HU := hidM hu
  have HE : Hid (Gr W U ∧ FVx (d + 1) W U (bareF (d + 1) f) (.agg #[.string f.name, .bool f.nul, .int .i64 r.kind, .int .i64 r.width, .int .i64 r.id, .int .i64 r.index, .slice xo r.kids.length xc])) := by
   have hs := gV.size
   have hs2 := ku.size
   have hs3 := HS5.out
   refine ⟨(gW.tr gV).trans ku (fun j hj e => by have e' : j = (W.heap.size + 1) := e; omega), xo, xc, ?_, ?_, ?_⟩
   ·rw [HF.out, ← hrr]; rfl
   ·rw [HF.out, ← hrr]; exact hxl
   rw [HF.out, ← hrr]
   exact ((hxr.kept fun z hz => ku.block z hz.2 (by have := hz.1; omega)).mono fun z hz => ⟨by have := hz.1; have := gW.size; omega, by have := hz.2; omega⟩).up
  simp only [setAll] at hU
  have f0 : (ren f.name f.nul r).name = f.name := rfl
  have f1 : (ren f.name f.nul r).nul = f.nul := rfl
  have f2 : (ren f.name f.nul r).kind = r.kind := rfl
  have f3 : (ren f.name f.nul r).width = r.width := rfl
  have f4 : (ren f.name f.nul r).id = r.id := rfl
  have f5 : (ren f.name f.nul r).index = r.index := rfl
  have f6 : (ren f.name f.nul r).kids = r.kids := rfl
  rw [f0, f1, f2, f3, f4, f5, f6]
  clear q1 ku hu gV hxl hxr hrr
  go_wp2_with fail
  (try simp only [Exit.inBlock, Exit.then])
  refine bodyPost_ret (results_cell58 rfl rfl (by with_reducible exact HU.out) (by kernel_rfl)) rfl ?_
  exact ⟨_, rfl, HE.out⟩
 go_enter Tryz.func17, Tryz.ntmps17
 go_wp2_with (go_at_call 17; refine Hid.out ?_)
 unfold Hid
 refine Calls.mono HQ.out ?_
 rintro e V ⟨v, rfl, gV, hv⟩
 obtain ⟨xo, xc, rfl, hxl, hxr⟩ := hv
 obtain ⟨r, hrr⟩ : ∃ r, r = bareF d g := ⟨_, rfl⟩
 rw [← hrr] at hxl hxr ⊢
 obtain ⟨b15, gW, s0, s1⟩ := HB.out
 rw [s0] at b15
 have q1 := (gV.block _ (lt_of_heap b15) id).trans b15
 obtain ⟨r0, r1, r2, r3, r4, r5, r6⟩ := cell7 q1
 have fq := frz q1
 obtain ⟨U, hU⟩ := ex (setAll V (W.heap.size + 1) [(0, .string f.name), (1, .bool f.nul), (2, .int .i64 r.kind), (3, .int .i64 r.width), (4, .int .i64 r.id), (5, .int .i64 r.index), (6, .slice xo r.kids.length xc)])
 have ku : Keeps V U (fun z => z = (W.heap.size + 1)) := by rw [← hU]; exact setAll_kp _ _ _
 have hu : U.heap[(W.heap.size + 1)]? = some (.cells #[.string f.name, .bool f.nul, .int .i64 r.kind, .int .i64 r.width, .int .i64 r.id, .int .i64 r.index, .slice xo r.kids.length xc] 58) := by rw [← hU, setAll_blk (W.heap.size + 1) 58 _ _ _ q1]; simp [setsA]
 have HU := hidM hu
 have HE : Hid (Gr W U ∧ FVx (d + 1) W U (bareF (d + 1) f) (.agg #[.string f.name, .bool f.nul, .int .i64 r.kind, .int .i64 r.width, .int .i64 r.id, .int .i64 r.index, .slice xo r.kids.length xc])) := by
  have hs := gV.size
  have hs2 := ku.size
  have hs3 := HS5.out
  refine ⟨(gW.tr gV).trans ku (fun j hj e => by have e' : j = (W.heap.size + 1) := e; omega), xo, xc, ?_, ?_, ?_⟩
  ·rw [HF.out, ← hrr]; rfl
  ·rw [HF.out, ← hrr]; exact hxl
  rw [HF.out, ← hrr]
  exact ((hxr.kept fun z hz => ku.block z hz.2 (by have := hz.1; omega)).mono fun z hz => ⟨by have := hz.1; have := gW.size; omega, by have := hz.2; omega⟩).up
 simp only [setAll] at hU
 have f0 : (ren f.name f.nul r).name = f.name := rfl
 have f1 : (ren f.name f.nul r).nul = f.nul := rfl
 have f2 : (ren f.name f.nul r).kind = r.kind := rfl
 have f3 : (ren f.name f.nul r).width = r.width := rfl
 have f4 : (ren f.name f.nul r).id = r.id := rfl
 have f5 : (ren f.name f.nul r).index = r.index := rfl
 have f6 : (ren f.name f.nul r).kids = r.kids := rfl
 rw [f0, f1, f2, f3, f4, f5, f6]
 clear q1 ku hu gV hxl hxr hrr
 go_wp2_with fail
 (try simp only [Exit.inBlock, Exit.then])
 refine bodyPost_ret (results_cell58 rfl rfl (by with_reducible exact HU.out) (by kernel_rfl)) rfl ?_
 exact ⟨_, rfl, HE.out⟩
end Go.Proofs.YthhpamhfnpacpaaGreatDoor.Kit
