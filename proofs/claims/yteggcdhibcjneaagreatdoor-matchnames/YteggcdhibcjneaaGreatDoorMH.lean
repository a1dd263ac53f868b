import Derived.Test.YteggcdhibcjneaaGreatDoorME
import Derived.Test.YteggcdhibcjneaaGreatDoorSI
set_option maxRecDepth 100000
set_option maxHeartbeats 4000000
namespace Go.Proofs.YteggcdhibcjneaaGreatDoor.Kit
variable {nx : Bool}
open Go.RowKit Go.Shelf Go.Deep
open Go.Proofs.YteggcdhibcjneaaGreatDoor.Kd (Ans AnsV cell5 cell2)
set_option linter.unusedVariables false
set_option linter.unusedSimpArgs false
attribute [local go_sem] run_store_func

theorem mk95 (w : World) : (Instr.makeSlice 95 (.int .i64 1) (.int .i64 1)).run Tryz.prog w = .ok (.slice (some ⟨w.heap.size, 0, none⟩) 1 1) (w.alloc (.cells #[.pointer none] 110)) := by kernel_rfl
/-- a batch of one column, and its schema -/
structure Bt (nx : Bool) (W : World) (L g ac db dbc qb bc v2 c2 : Nat) (ao : Option Addr) (ca : Nat) : Prop where
  s : S1f nx W g ac ao ca
  d : W.heap[db]? = some (.cells #[.int .i64 L, .int .i64 0, .int .i64 0, .slice (some ⟨qb, 0, none⟩) 2 bc, .slice none 0 0, .slice none 0 0] 50)
  n : DatN W L qb v2 c2
theorem Bt.gr {W u : World} {L g ac db dbc qb bc v2 c2 : Nat} {ao : Option Addr} {ca : Nat} (h : Bt nx W L g ac db dbc qb bc v2 c2 ao ca) (k : Gr W u) : Bt nx u L g ac db dbc qb bc v2 c2 ao ca := ⟨h.s.gr k, (k.block _ (lt_of_heap h.d) id).trans h.d, h.n.gr k⟩
theorem openedColumns35 (L g ac db dbc qb bc v2 c2 : Nat) (ao : Option Addr) (ca : Nat) (W : World) (hB : Bt nx W L g ac db dbc qb bc v2 c2 ao ca) :
    Calls Tryz.prog 35 #[.agg #[.slice (some ⟨g, 0, none⟩) 1 ac, .slice none 0 0], .agg #[.int .i64 L, .slice (some ⟨db, 0, none⟩) 1 dbc]] W fun e w' => ∃ l a, e = .returned (.tuple #[.slice (some ⟨l, 0, none⟩) 1 1, .int .i64 0]) ∧ OpA nx W w' L v2 c2 a ∧ w'.heap[l]? = some (.cells #[.pointer (some ⟨a, 0, none⟩)] 110) := by
  obtain ⟨A0, hA0⟩ : ∃ A, W.alloc (.cells #[.slice (some ⟨g, 0, none⟩) 1 ac, .slice none 0 0] 30) = A := ⟨_, rfl⟩
  have g0 : Gr W A0 := by rw [← hA0]; exact gr_alloc W _
  have b0 : A0.heap[W.heap.size]? = some (.cells #[.slice (some ⟨g, 0, none⟩) 1 ac, .slice none 0 0] 30) := by rw [← hA0]; exact heap_alloc_new W _
  obtain ⟨A1, hA1⟩ : ∃ A, A0.alloc (.cells #[.int .i64 L, .slice (some ⟨db, 0, none⟩) 1 dbc] 33) = A := ⟨_, rfl⟩
  have g1 : Gr A0 A1 := by rw [← hA1]; exact gr_alloc A0 _
  have b1 : A1.heap[A0.heap.size]? = some (.cells #[.int .i64 L, .slice (some ⟨db, 0, none⟩) 1 dbc] 33) := by rw [← hA1]; exact heap_alloc_new A0 _
  have gW : Gr W A1 := g0.trans g1 (fun _ _ h => h)
  obtain ⟨e0, e1⟩ := cell2 ((g1.block _ (lt_of_heap b0) id).trans b0)
  obtain ⟨f0, f1⟩ := cell2 b1
  have hB1 := hB.gr gW
  obtain ⟨p0, p1, p2, p3, p4, p5, p6⟩ := cell7 hB1.s.f
  obtain ⟨d0, d1, d2, d3, d4, d5⟩ := cell6 hB1.d
  have HSS : Hid (∀ u, Gr A1 u → u.cell? ⟨W.heap.size, 0, none⟩ = some (.slice (some ⟨g, 0, none⟩) 1 ac) ∧ u.cell? ⟨W.heap.size, 1, none⟩ = some (.slice none 0 0) ∧ u.cell? ⟨A0.heap.size, 0, none⟩ = some (.int .i64 L) ∧ u.cell? ⟨A0.heap.size, 1, none⟩ = some (.slice (some ⟨db, 0, none⟩) 1 dbc) ∧ u.cell? ⟨g, 0, none⟩ = some (.string (nmB nx)) ∧ u.cell? ⟨g, 1, none⟩ = some (.bool false) ∧ u.cell? ⟨g, 2, none⟩ = some (.int .i64 3) ∧ u.cell? ⟨g, 3, none⟩ = some (.int .i64 0) ∧ u.cell? ⟨g, 4, none⟩ = some (.int .i64 0) ∧ u.cell? ⟨g, 5, none⟩ = some (.int .i64 0) ∧ u.cell? ⟨g, 6, none⟩ = some (.slice ao 0 ca) ∧ u.cell? ⟨db, 0, none⟩ = some (.int .i64 L) ∧ u.cell? ⟨db, 1, none⟩ = some (.int .i64 0) ∧ u.cell? ⟨db, 2, none⟩ = some (.int .i64 0) ∧ u.cell? ⟨db, 3, none⟩ = some (.slice (some ⟨qb, 0, none⟩) 2 bc) ∧ u.cell? ⟨db, 4, none⟩ = some (.slice none 0 0) ∧ u.cell? ⟨db, 5, none⟩ = some (.slice none 0 0)) := fun u g => ⟨g.cell' e0 id, g.cell' e1 id, g.cell' f0 id, g.cell' f1 id, g.cell' p0 id, g.cell' p1 id, g.cell' p2 id, g.cell' p3 id, g.cell' p4 id, g.cell' p5 id, g.cell' p6 id, g.cell' d0 id, g.cell' d1 id, g.cell' d2 id, g.cell' d3 id, g.cell' d4 id, g.cell' d5 id⟩
  have HC1 := hidM (check17 g ac ao ca A1 hB1.s.T hB1.s.c1 hB1.s.f)
  have HC2 : Hid (∀ u, Gr A1 u → Calls Tryz.prog 58 #[.agg #[.slice (some ⟨g, 0, none⟩) 1 ac, .slice none 0 0], .agg #[.int .i64 L, .slice (some ⟨db, 0, none⟩) 1 dbc]] u fun e w' => e = .returned (.bool true) ∧ Gr u w') := fun u k => hasColumns58 L g ac db dbc qb bc (by have := hB.n.hL; omega) u (hB1.gr k).d
  have HC3 : Hid (∀ u, Gr A1 u → Calls Tryz.prog 59 #[.agg #[.string (nmB nx), .bool false, .int .i64 3, .int .i64 0, .int .i64 0, .int .i64 0, .slice ao 0 ca], .agg #[.int .i64 L, .int .i64 0, .int .i64 0, .slice (some ⟨qb, 0, none⟩) 2 bc, .slice none 0 0, .slice none 0 0]] u fun e w' => ∃ a, e = .returned (.tuple #[.pointer (some ⟨a, 0, none⟩), .int .i64 0]) ∧ OpA nx u w' L v2 c2 a) := fun u k => opened59 L qb bc v2 c2 ao ca u (hB1.gr k).n
  have HG := hidM gW
  have hfl : ∀ (vo : Option Addr) (vn vc : Nat) (tt : Int) (w : World), (Instr.field 61 (.agg #[.int .i64 0, .slice vo vn vc, .int .i64 tt]) 0).run Tryz.prog w = .ok (.int .i64 0) w := fun vo vn vc tt w => by kernel_rfl
  have hmk := mk95
  clear g0 b0 g1 b1 gW hB hB1 p0 p1 p2 p3 p4 p5 p6 d0 d1 d2 d3 d4 d5
  go_enter Tryz.func35, Tryz.ntmps35
  go_wp2_with (first
    | (go_at_call 17; refine HC1.out.mono ?_; rintro e w1 ⟨vo1, vn1, vc1, tt1, rfl, g1⟩; have HG1 := hidM g1; clear e0 e1 f0 f1 hA0 hA1; obtain ⟨e0, e1, f0, f1, -⟩ := HSS.out w1 g1; clear g1)
    | (go_at_call 58; refine (HC2.out w1 HG1.out).mono ?_; rintro e w2 ⟨rfl, g2⟩; have g3 := HG1.out.trans g2 (fun _ _ h => h); clear e0 e1 f0 f1; obtain ⟨e0, e1, f0, f1, -⟩ := HSS.out w2 g3; obtain ⟨A3, hA3⟩ : ∃ A, w2.alloc (.cells #[.pointer none] 110) = A := ⟨_, rfl⟩; have gA3 : Gr w2 A3 := (by rw [← hA3]; exact gr_alloc w2 _); have hb3 : A3.heap[w2.heap.size]? = some (.cells #[.pointer none] 110) := (by rw [← hA3]; exact heap_alloc_new w2 _); have HG3 := hidM (g3.trans gA3 (fun _ _ h => h)); have HB3 := hidM hb3; have HWL := hidM (HG.out.trans g3 (fun _ _ h => h)).size; obtain ⟨k0, k1, k2, k3, -⟩ := HSS.out A3 HG3.out; clear g2 g3 gA3 hb3))
  clear e0 e1 f0 f1 k0 k1 k2 k3
  obtain ⟨l, hl⟩ : ∃ l, w2.heap.size = l := ⟨_, rfl⟩
  rw [hl] at HB3 HWL
  rw [hl]
  clear hl hA3
  go_loopw [26] (fun i wr => ∃ k : Nat, k ≤ 1 ∧ i = .int .i64 k ∧ Hid ((k = 0 ∧ wr = A3) ∨ (k = 1 ∧ ∃ a, OpA nx W wr L v2 c2 a ∧ wr.heap[l]? = some (.cells #[.pointer (some ⟨a, 0, none⟩)] 110)))) (fun i _ => 1 - (intOf i).toNat)
  case atStart => exact ⟨0, by omega, rfl, .inl ⟨rfl, rfl⟩⟩
  case round =>
    obtain ⟨k, hk, rfl, HR⟩ := hrel
    rcases HR.out with ⟨rfl, rfl⟩ | ⟨rfl, a, hO, hla⟩
    · clear HR
      obtain ⟨e0, e1, f0, f1, p0, p1, p2, p3, p4, p5, p6, d0, d1, d2, d3, d4, d5⟩ := HSS.out wr HG3.out
      obtain ⟨A4, hA4⟩ : ∃ A, wr.alloc (.cells #[.int .i64 L, .int .i64 0, .int .i64 0, .slice (some ⟨qb, 0, none⟩) 2 bc, .slice none 0 0, .slice none 0 0] 50) = A := ⟨_, rfl⟩
      have g4 : Gr wr A4 := by rw [← hA4]; exact gr_alloc wr _
      have b4 : A4.heap[wr.heap.size]? = some (.cells #[.int .i64 L, .int .i64 0, .int .i64 0, .slice (some ⟨qb, 0, none⟩) 2 bc, .slice none 0 0, .slice none 0 0] 50) := by rw [← hA4]; exact heap_alloc_new wr _
      have HS4 : Hid (∀ u, Gr A4 u → u.cell? ⟨W.heap.size, 0, none⟩ = some (.slice (some ⟨g, 0, none⟩) 1 ac) ∧ u.cell? ⟨g, 0, none⟩ = some (.string (nmB nx)) ∧ u.cell? ⟨g, 1, none⟩ = some (.bool false) ∧ u.cell? ⟨g, 2, none⟩ = some (.int .i64 3) ∧ u.cell? ⟨g, 3, none⟩ = some (.int .i64 0) ∧ u.cell? ⟨g, 4, none⟩ = some (.int .i64 0) ∧ u.cell? ⟨g, 5, none⟩ = some (.int .i64 0) ∧ u.cell? ⟨g, 6, none⟩ = some (.slice ao 0 ca) ∧ u.cell? ⟨wr.heap.size, 0, none⟩ = some (.int .i64 L) ∧ u.cell? ⟨wr.heap.size, 1, none⟩ = some (.int .i64 0) ∧ u.cell? ⟨wr.heap.size, 2, none⟩ = some (.int .i64 0) ∧ u.cell? ⟨wr.heap.size, 3, none⟩ = some (.slice (some ⟨qb, 0, none⟩) 2 bc) ∧ u.cell? ⟨wr.heap.size, 4, none⟩ = some (.slice none 0 0) ∧ u.cell? ⟨wr.heap.size, 5, none⟩ = some (.slice none 0 0)) := fun u k => by
        obtain ⟨x0, x1, x2, x3, x4, x5⟩ := cell6 b4
        have k' := g4.trans k (fun _ _ h => h)
        exact ⟨k'.cell' e0 id, k'.cell' p0 id, k'.cell' p1 id, k'.cell' p2 id, k'.cell' p3 id, k'.cell' p4 id, k'.cell' p5 id, k'.cell' p6 id, k.cell' x0 id, k.cell' x1 id, k.cell' x2 id, k.cell' x3 id, k.cell' x4 id, k.cell' x5 id⟩
      have HG4 := hidM (HG3.out.trans g4 (fun _ _ h => h))
      have HSd := hidM (HS4.out A4.drew gr_drew)
      have HU : Hid (∀ w5 a, OpA nx A4.drew w5 L v2 c2 a → w5.heap[l]? = some (.cells #[.pointer none] 110) ∧ OpA nx W (w5.setCell ⟨l, 0, none⟩ (.pointer (some ⟨a, 0, none⟩))) L v2 c2 a ∧ (w5.setCell ⟨l, 0, none⟩ (.pointer (some ⟨a, 0, none⟩))).heap[l]? = some (.cells #[.pointer (some ⟨a, 0, none⟩)] 110)) := fun w5 a hO => by
        have hl5 := (hO.g.block _ (lt_of_heap (((g4.trans gr_drew (fun _ _ h => h)).block _ (lt_of_heap HB3.out) id).trans HB3.out)) id).trans (((g4.trans gr_drew (fun _ _ h => h)).block _ (lt_of_heap HB3.out) id).trans HB3.out)
        refine ⟨hl5, ?_, by rw [heap_setCell_same _ l 0 _ _ _ hl5]; rfl⟩
        have hlw := lt_of_heap HB3.out
        have h44 := g4.size
        have hdr : A4.heap.size ≤ A4.drew.heap.size := (gr_drew (w := A4)).size
        have hwl := HWL.out
        have gW5 : Gr W w5 := (HG.out.trans (HG4.out.trans (gr_drew (w := A4)) (fun _ _ h => h)) (fun _ _ h => h)).trans hO.g (fun _ _ h => h)
        have k5 : Keeps w5 (w5.setCell ⟨l, 0, none⟩ (.pointer (some ⟨a, 0, none⟩))) (fun z => z = l) := Keeps.setCell (S := fun z => z = l) (p := ⟨l, 0, none⟩) (Keeps.refl w5 _) (fun _ => rfl) _
        obtain ⟨q, r, rc, fo, fc, ⟨h1, h2, h3⟩, h4, h5⟩ := hO.p
        have hw := gW5.size
        have hsA := HG4.out.size
        have hs1 := HG.out.size
        refine ⟨gW5.trans k5 (fun j hj e => by have e' : j = l := e; omega), q, r, rc, fo, fc, ⟨by omega, by omega, by omega⟩, h4.kp k5 (fun e => by have e' : q = l := e; omega) (fun e => by have e' : r = l := e; omega), ?_⟩
        exact (k5.block a (lt_of_heap h5) (fun e => by have e' : a = l := e; omega)).trans h5
      have z := frzA b4
      have i0 := set_id (j := 0) (v := .int .i64 L) b4 rfl
      have i1 := set_id (j := 1) (v := .int .i64 0) b4 rfl
      have i2 := set_id (j := 2) (v := .int .i64 0) b4 rfl
      have i3 := set_id (j := 3) (v := .slice (some ⟨qb, 0, none⟩) 2 bc) b4 rfl
      have i4 := set_id (j := 4) (v := .slice none 0 0) b4 rfl
      have i5 := set_id (j := 5) (v := .slice none 0 0) b4 rfl
      obtain ⟨y0, y1, y2, y3, y4, y5⟩ := cell6 b4
      clear g4 b4
      go_wp2_with fail
      clear y0 y1 y2 y3 y4 y5 i0 i1 i2 i3 i4 i5 z e0 e1 f0 f1 p0 p1 p2 p3 p4 p5 p6 d0 d1 d2 d3 d4 d5
      go_region_held3 (fun u => u.cell? ⟨W.heap.size, 0, none⟩ = some (.slice (some ⟨g, 0, none⟩) 1 ac) ∧ u.cell? ⟨g, 0, none⟩ = some (.string (nmB nx)) ∧ u.cell? ⟨g, 1, none⟩ = some (.bool false) ∧ u.cell? ⟨g, 2, none⟩ = some (.int .i64 3) ∧ u.cell? ⟨g, 3, none⟩ = some (.int .i64 0) ∧ u.cell? ⟨g, 4, none⟩ = some (.int .i64 0) ∧ u.cell? ⟨g, 5, none⟩ = some (.int .i64 0) ∧ u.cell? ⟨g, 6, none⟩ = some (.slice ao 0 ca) ∧ u.cell? ⟨wr.heap.size, 0, none⟩ = some (.int .i64 L) ∧ u.cell? ⟨wr.heap.size, 1, none⟩ = some (.int .i64 0) ∧ u.cell? ⟨wr.heap.size, 2, none⟩ = some (.int .i64 0) ∧ u.cell? ⟨wr.heap.size, 3, none⟩ = some (.slice (some ⟨qb, 0, none⟩) 2 bc) ∧ u.cell? ⟨wr.heap.size, 4, none⟩ = some (.slice none 0 0) ∧ u.cell? ⟨wr.heap.size, 5, none⟩ = some (.slice none 0 0)) (first | with_reducible exact HSd.out | with_reducible exact HS5.out) ((go_at_call 59; refine (HC3.out A4.drew (HG4.out.trans gr_drew (fun _ _ h => h))).mono ?_; rintro e w5 ⟨a, rfl, hO⟩; have HS5 := hidM (HS4.out w5 ((gr_drew (w := A4)).trans hO.g (fun _ _ h => h))); obtain ⟨hl5, hu5, hv5⟩ := HU.out w5 a hO; have HU5 := hidM hu5; have HV5 := hidM hv5; have c5 := cell1 hl5; have z5 := frz hl5 0; clear hO hl5 hu5 hv5))
      go_wp2_with fail
      go_roundw
      case rel => exact ⟨1, by omega, by go_num, .inr ⟨rfl, a, HU5.out, HV5.out⟩⟩
      case measure => simp [intOf]
    · have HE : Hid (OpA nx W wr L v2 c2 a ∧ wr.heap[l]? = some (.cells #[.pointer (some ⟨a, 0, none⟩)] 110)) := ⟨hO, hla⟩
      clear HR hO hla
      go_wp2_with fail
      go_ret2
      exact ⟨l, a, rfl, HE.out⟩
end Go.Proofs.YteggcdhibcjneaaGreatDoor.Kit
namespace Go.Proofs.YteggcdhibcjneaaGreatDoor.Kit
variable {nx : Bool}
open Go.RowKit Go.Shelf Go.Deep
open Go.Proofs.YteggcdhibcjneaaGreatDoor.Kd (Ans AnsV cell5 cell2)
set_option linter.unusedVariables false
set_option linter.unusedSimpArgs false
attribute [local go_sem] run_store_func
attribute [local go_sem] Oper.semAt_some

theorem values37 (o : Option Addr) (n c : Nat) (W : World) : Calls Tryz.prog 37 #[.slice o n c] W fun e w' => e = .returned (.func (.func 60) #[] #[.pointer (some ⟨W.heap.size, 0, none⟩)]) ∧ w' = W.alloc (.cells #[.slice o n c] 34) := by
  have hmf : ∀ (fn : Fn) (first cap : Array Value) (w : World), (Instr.makeFunc fn first cap).run Tryz.prog w = .ok (.func fn first cap) w := fun _ _ _ _ => rfl
  go_enter Tryz.func37, Tryz.ntmps37
  go_wp2_with fail
  go_ret
  exact ⟨rfl, rfl⟩
theorem nil60_seq (n b : Nat) (w : World) (hb : w.heap[b]? = some (.cells #[.slice none 0 0] 34)) :
    SeqOwn n Tryz.prog 60 #[.pointer (some ⟨b, 0, none⟩)] (fun (x : Int) => #[.int .i64 x]) (fun _ _ _ _ => False) (fun z => z = b) (fun ys => ys = []) (fun _ => True) w := by
  intro lp J Jx W hW hJ hJx hY h0
  have c0 : W.cell? ⟨b, 0, none⟩ = some (.slice none 0 0) := by simp [World.cell?, hW.block b (lt_of_heap hb) id, hb]
  have HE : Hid (J (fun _ => False) [] W) := h0
  clear hW hJ hJx hY h0 hb
  refine callsIn_of_wp Tryz.func60 rfl trivial ?_ rfl
  simp only [Tryz.ntmps60, List.size_toArray, List.length_cons, List.length_nil, Nat.reduceAdd, Nat.reduceSub, Array.replicate_succ, Array.replicate_zero, List.push_toArray, List.append_toArray, List.nil_append, List.cons_append]
  gi_wp2
  gi_loopw [7] (fun p wr => p = .int .i64 0 ∧ wr = W) (fun _ _ => 0)
  case atStart => exact ⟨rfl, rfl⟩
  case round =>
    obtain ⟨rfl, rfl⟩ := hrel
    gi_wp2
    go_end0
    exact ⟨⟨_, rfl⟩, .inl ⟨_, _, rfl, HE.out⟩⟩
/-- a range over no numbers -/
theorem range_nil {g : Operand} {ps : Array Tmp} {assign body : Code} {Q : Exit → Act → World → Prop} {a : Act} {w : World} {b : Nat}
    (hg : a.eval g = .func (.func 60) #[] #[.pointer (some ⟨b, 0, none⟩)]) (hb : w.heap[b]? = some (.cells #[.slice none 0 0] 34)) (hps : 1 = ps.size)
    (hassign : ∀ (l : Nat) (x : Int) (W : World) (K : Act → World → Prop), (∀ a' W', Keeps W W' (fun _ => False) → True → K a' W') →
      assign.wpIn (Fence.wide.inRound l) (10 - 1 - 1) Tryz.prog (Exit.then K (fun _ _ _ => False)) { tmps := (ps.zip #[.int .i64 x]).foldl (fun t (p, v) => t.setIfInBounds p v) a.tmps, defers := [] } W)
    (hdone : ∀ W, Gr w W → w.heap.size + 2 ≤ W.heap.size → W.heap[w.heap.size]? = some (.deferred (some [])) → Q .normal { a with defers := { target := .collected w.heap.size, args := #[] } :: a.defers } W) :
    (Code.rangeFunc g ps assign body).wpIn Fence.wide 10 Tryz.prog Q a w := by
  refine rangeX (by decide) (gf := 60) (lb := #[.pointer (some ⟨b, 0, none⟩)]) hg (enters_of Tryz.func60 (by kernel_rfl) rfl) (nil60_seq (10 - 1) b w hb) (fun _ => hps) (fun z h => by have h' : z = b := h; rw [h']; exact lt_of_heap hb) (fun O pre x A B h k => h)
    (fun _ => False) (fun z h => h.elim) (fun _ A => Gr w A) (fun pre A B h hz hB => gr_below h (Nat.le_refl _) hB) (fun _ _ _ => False) (fun c pre A B h k => h) (Keeps.refl w _) (fun _ _ _ => True) (fun _ _ _ _ _ _ => trivial) ?_ ?_ ?_ ?_
  · intro l x W K _ hK
    exact hassign l x W K hK
  · intro l O pre x a' W _ h
    exact h.elim
  · intro xs W _ hI hz hd
    exact hdone W hI hz hd
  · intro c pre W _ h
    exact h.elim
theorem wrong36 (b : Nat) (n : Int) (bl : Bool) (W : World) (hb : W.heap[b]? = some (.cells #[.slice none 0 0] 34)) : Calls Tryz.prog 36 #[.func (.func 60) #[] #[.pointer (some ⟨b, 0, none⟩)], .int .i64 n, .bool bl] W fun e w' => e = .returned (.int .i64 0) ∧ Gr W w' := by
  obtain ⟨A0, hA0⟩ : ∃ A, W.alloc (.cells #[.int .i64 n] 3) = A := ⟨_, rfl⟩
  have g0 : Gr W A0 := by rw [← hA0]; exact gr_alloc W _
  have b0 : A0.heap[W.heap.size]? = some (.cells #[.int .i64 n] 3) := by rw [← hA0]; exact heap_alloc_new W _
  obtain ⟨A1, hA1⟩ : ∃ A, A0.alloc (.cells #[.bool bl] 4) = A := ⟨_, rfl⟩
  have g1 : Gr A0 A1 := by rw [← hA1]; exact gr_alloc A0 _
  have b1 : A1.heap[A0.heap.size]? = some (.cells #[.bool bl] 4) := by rw [← hA1]; exact heap_alloc_new A0 _
  obtain ⟨A2, hA2⟩ : ∃ A, A1.alloc (.cells #[.int .i64 0] 24) = A := ⟨_, rfl⟩
  have g2 : Gr A1 A2 := by rw [← hA2]; exact gr_alloc A1 _
  have b2 : A2.heap[A1.heap.size]? = some (.cells #[.int .i64 0] 24) := by rw [← hA2]; exact heap_alloc_new A1 _
  have gW : Gr W A2 := (g0.trans g1 (fun _ _ h => h)).trans g2 (fun _ _ h => h)
  have hb2 := (gW.block _ (lt_of_heap hb) id).trans hb
  have HB := hidM b2
  have HG := hidM gW
  have HB2 := hidM hb2
  clear g0 b0 g1 b1 g2 b2 gW hb hb2
  refine (callsIn_wide (n := 10)).1 ?_
  refine callsIn_of_wp_marks Tryz.func36 rfl trivial ?_ rfl
  simp only [Tryz.ntmps36, List.size_toArray, List.length_cons, List.length_nil, Nat.reduceAdd, Nat.reduceSub, Array.replicate_succ, Array.replicate_zero, List.push_toArray, List.append_toArray, List.nil_append, List.cons_append]
  refine wpIn_wide.2 ?_
  go_wp2_with fail
  refine (wpIn_wide (n := 10)).1 ?_
  refine range_nil rfl HB2.out rfl ?_ ?_
  · intro l x Wr K hK
    gi_wp2
    exact hK _ _ (Keeps.refl _ _) trivial
  · intro Wr hg hz hd
    have hbr := (hg.block _ (lt_of_heap HB.out) id).trans HB.out
    have c0 := cell1 hbr
    have z0 := frz hbr 0
    have i0 := set_id (j := 0) (v := .int .i64 0) hbr rfl
    have hAr : A1.heap.size < A2.heap.size := lt_of_heap HB.out
    have HD := hidM hd
    have HE : Hid (Gr W (Wr.putObj A2.heap.size (.deferred none)) ∧ (Wr.putObj A2.heap.size (.deferred none)).heap[A1.heap.size]? = some (.cells #[.int .i64 0] 24)) := by
      have h2 := HG.out.size
      refine ⟨(HG.out.trans hg (fun _ _ h => h)).trans (T := fun k => k = A2.heap.size) (keeps_put _ _ _) (fun j hj h => by have h' : j = A2.heap.size := h; omega), (World.putObj_heap_other (by omega)).trans hbr⟩
    clear hbr hd hz hg hAr
    go_wp2_with fail
    refine ⟨by simp, .inl ⟨_, _, rfl, run_takeDeferred HD.out, ?_⟩⟩
    have c9 := cell1 HE.out.2
    refine ⟨.int .i64 0, ?_, rfl, HE.out.1⟩
    simp [results, Tryz.f36, go_sem, c9]
end Go.Proofs.YteggcdhibcjneaaGreatDoor.Kit
namespace Go.Proofs.YteggcdhibcjneaaGreatDoor.Kit
variable {nx : Bool}
open Go.RowKit Go.Shelf Go.Deep
open Go.Proofs.YteggcdhibcjneaaGreatDoor.Kd (Ans AnsV cell5 cell2)
set_option linter.unusedVariables false
set_option linter.unusedSimpArgs false
attribute [local go_sem] run_store_func
attribute [local go_sem] Oper.semAt_some

theorem reader101 (a : Nat) (W : World) : Calls Tryz.prog 101 #[.pointer (some ⟨a, 0, none⟩)] W fun e w' => (∃ p q, e = .returned (.func (.func 121) #[] #[.pointer (some ⟨p, 0, none⟩), .pointer (some ⟨q, 0, none⟩)])) ∧ Gr W w' := by
  have hmf : ∀ (fn : Fn) (first cap : Array Value) (w : World), (Instr.makeFunc fn first cap).run Tryz.prog w = .ok (.func fn first cap) w := fun _ _ _ _ => rfl
  obtain ⟨A0, hA0⟩ : ∃ A, W.alloc (.cells #[.pointer (some ⟨a, 0, none⟩)] 110) = A := ⟨_, rfl⟩
  have g0 : Gr W A0 := by rw [← hA0]; exact gr_alloc W _
  have b0 : A0.heap[W.heap.size]? = some (.cells #[.pointer (some ⟨a, 0, none⟩)] 110) := by rw [← hA0]; exact heap_alloc_new W _
  obtain ⟨A1, hA1⟩ : ∃ A, A0.alloc (.map #[] 0) = A := ⟨_, rfl⟩
  have g1 : Gr A0 A1 := by rw [← hA1]; exact gr_alloc A0 _
  obtain ⟨A2, hA2⟩ : ∃ A, A1.alloc (.cells #[.map (some A0.heap.size)] 210) = A := ⟨_, rfl⟩
  have g2 : Gr A1 A2 := by rw [← hA2]; exact gr_alloc A1 _
  have b2 : A2.heap[A1.heap.size]? = some (.cells #[.map (some A0.heap.size)] 210) := by rw [← hA2]; exact heap_alloc_new A1 _
  have HG : Hid (Gr W A2) := (g0.trans g1 (fun _ _ h => h)).trans g2 (fun _ _ h => h)
  have c0 := cell1 b2
  have z0 := frz b2 0
  have i0 := set_id (j := 0) (v := .map (some A0.heap.size)) b2 rfl
  have hmm := @run_makeMap Tryz.prog
  clear g0 b0 g1 g2 b2
  go_enter Tryz.func101, Tryz.ntmps101
  go_wp2_with fail
  go_ret
  exact ⟨⟨_, _, rfl⟩, HG.out⟩
theorem each78 (a b c : Nat) (W : World) (hb : W.heap[b]? = some (.cells #[.slice none 0 0] 34)) : Calls Tryz.prog 78 #[.pointer (some ⟨a, 0, none⟩), .func (.func 60) #[] #[.pointer (some ⟨b, 0, none⟩)], .func (.func 79) #[] #[.pointer (some ⟨c, 0, none⟩)]] W fun e w' => (∃ v, e = .returned v) ∧ Gr W w' := by
  obtain ⟨A0, hA0⟩ : ∃ A, W.alloc (.cells #[.func (.func 79) #[] #[.pointer (some ⟨c, 0, none⟩)]] 161) = A := ⟨_, rfl⟩
  have g0 : Gr W A0 := by rw [← hA0]; exact gr_alloc W _
  have b0 : A0.heap[W.heap.size]? = some (.cells #[.func (.func 79) #[] #[.pointer (some ⟨c, 0, none⟩)]] 161) := by rw [← hA0]; exact heap_alloc_new W _
  have HG := hidM g0
  have HB := hidM ((g0.block _ (lt_of_heap hb) id).trans hb)
  have HX : Hid (∀ (w1 : World) (p q : Nat), Gr A0 w1 → (w1.alloc (.cells #[.func (.func 121) #[] #[.pointer (some ⟨p, 0, none⟩), .pointer (some ⟨q, 0, none⟩)]] 186)).heap[w1.heap.size]? = some (.cells #[.func (.func 121) #[] #[.pointer (some ⟨p, 0, none⟩), .pointer (some ⟨q, 0, none⟩)]] 186) ∧ Gr A0 (w1.alloc (.cells #[.func (.func 121) #[] #[.pointer (some ⟨p, 0, none⟩), .pointer (some ⟨q, 0, none⟩)]] 186))) := fun w1 p q g => ⟨heap_alloc_new _ _, g.alloc _⟩
  clear g0 b0 hb
  refine (callsIn_wide (n := 10)).1 ?_
  refine callsIn_of_wp_marks Tryz.func78 rfl trivial ?_ rfl
  simp only [Tryz.ntmps78, List.size_toArray, List.length_cons, List.length_nil, Nat.reduceAdd, Nat.reduceSub, Array.replicate_succ, Array.replicate_zero, List.push_toArray, List.append_toArray, List.nil_append, List.cons_append]
  refine wpIn_wide.2 ?_
  go_wp2_with (go_at_call 101; refine (reader101 _ _).mono ?_; rintro e w1 ⟨⟨p, q, rfl⟩, g1⟩; obtain ⟨hv, gv⟩ := HX.out w1 p q g1; obtain ⟨V, hV⟩ : ∃ V, w1.alloc (.cells #[.func (.func 121) #[] #[.pointer (some ⟨p, 0, none⟩), .pointer (some ⟨q, 0, none⟩)]] 186) = V := ⟨_, rfl⟩; rw [hV] at hv gv; have y0 := cell1 hv; have z0 := frz hv 0; have i0 := set_id (j := 0) (v := .func (.func 121) #[] #[.pointer (some ⟨p, 0, none⟩), .pointer (some ⟨q, 0, none⟩)]) hv rfl; have HGV := hidM (HG.out.trans gv (fun _ _ h => h)); have HBV := hidM ((gv.block _ (lt_of_heap HB.out) id).trans HB.out); clear g1 hv gv)
  refine (wpIn_wide (n := 10)).1 ?_
  refine range_nil rfl HBV.out rfl ?_ ?_
  · intro l x Wr K hK
    gi_wp2
    exact hK _ _ (Keeps.refl _ _) trivial
  · intro Wr hg hz hd
    have HD := hidM hd
    have HE : Hid (Gr W (Wr.putObj V.heap.size (.deferred none))) := by
      have h2 := HGV.out.size
      exact (HGV.out.trans hg (fun _ _ h => h)).trans (T := fun k => k = V.heap.size) (keeps_put _ _ _) (fun j hj h => by have h' : j = V.heap.size := h; omega)
    clear hd hz hg
    go_wp2_with fail
    refine ⟨by simp, .inl ⟨_, _, rfl, run_takeDeferred HD.out, ?_⟩⟩
    refine ⟨.tuple #[], ?_, ⟨_, rfl⟩, HE.out⟩
    simp [results, Tryz.f78, go_sem]
end Go.Proofs.YteggcdhibcjneaaGreatDoor.Kit
