import Derived.Test.YteggcdhibcjneaaGreatDoorNC
set_option maxRecDepth 100000
set_option maxHeartbeats 4000000
namespace Go.Proofs.YteggcdhibcjneaaGreatDoor.Kit
variable {nx : Bool}
open Go.RowKit Go.Shelf Go.Deep
open Go.Proofs.YteggcdhibcjneaaGreatDoor.Kd (Ans AnsV cell5 cell2)
set_option linter.unusedVariables false
set_option linter.unusedSimpArgs false
attribute [local go_sem] run_store_func

/-- all blocks stand but those of pairs, of the list of pairs and of bools -/
def St (W u : World) : Prop := (∀ (z : Nat) (c : Array Value) (t : TypeId), W.heap[z]? = some (Obj.cells c t) → t ≠ 41 → t ≠ 23 → t ≠ 4 → u.heap[z]? = some (Obj.cells c t)) ∧ ∀ (z : Nat) (es : Array MapEntry) (n : Nat), W.heap[z]? = some (Obj.map es n) → u.heap[z]? = some (Obj.map es n)
theorem St.trans {W u v : World} (h : St W u) (k : St u v) : St W v := ⟨fun z c t h1 a b d => k.1 z c t (h.1 z c t h1 a b d) a b d, fun z es n h1 => k.2 z es n (h.2 z es n h1)⟩
theorem St.ofGr {W u : World} (g : Gr W u) : St W u := ⟨fun z c t h _ _ _ => (g.block _ (lt_of_heap h) id).trans h, fun z es n h => (g.block _ (lt_of_heap h) id).trans h⟩
theorem St.ofFr {P : Nat} {W u : World} {ps : List (Int × Int)} (h : FrP P W u) (hP : PAt W P ps) : St W u := by
  obtain ⟨v, hv, -⟩ := hP
  refine ⟨fun z c t hz a b _ => h.cells hz (fun e => ?_) a, fun z es n hz => (Keeps.block h z (lt_of_heap hz) fun e => ?_).trans hz⟩
  · rw [e, hv] at hz
    simp at hz
    exact b hz.2.symm
  · rcases e with e | ⟨-, c, f, e⟩
    · rw [e, hv] at hz
      cases hz
    · rw [hz] at e
      cases e
theorem St.met {W : World} {mb j : Nat} {c : Array Value} {v : Value} (h : W.heap[mb]? = some (.cells c 4)) : St W (W.setCell ⟨mb, j, none⟩ v) := by
  refine ⟨fun z c' t hz _ _ d => (heap_setCell_other _ _ _ _ (fun e => ?_)).trans hz, fun z es n hz => (heap_setCell_other _ _ _ _ (fun e => ?_)).trans hz⟩
  · rw [e, h] at hz
    simp at hz
    exact d hz.2.symm
  · rw [e, h] at hz
    cases hz
theorem RwV.cells {W u : World} {l : Nat} {x : Int} (h : RwV W l x) (hc : ∃ c, W.heap[l]? = some (.cells c 86)) (s : St W u) : RwV u l x ∧ ∃ c, u.heap[l]? = some (.cells c 86) := by
  obtain ⟨c, hc⟩ := hc
  have hu := s.1 l c 86 hc (by decide) (by decide) (by decide)
  have e : ∀ j, u.cell? ⟨l, j, none⟩ = W.cell? ⟨l, j, none⟩ := fun j => by simp [World.cell?, hu, hc]
  exact ⟨⟨(e 0).trans h.1, (e 1).trans h.2.1, (e 2).trans h.2.2.1, (e 3).trans h.2.2.2⟩, c, hu⟩
theorem RwsK.st {xs : Nat → Int} {L gr k : Nat} {W u : World} (h : RwsK xs L gr k W) (s : St W u) : RwsK xs L gr k u := by
  obtain ⟨ls, cs, hr, hv⟩ := h
  exact ⟨ls, cs, s.1 _ _ _ hr (by decide) (by decide) (by decide), fun i hi => ⟨(hv i hi).1, (hv i hi).2.1.cells (hv i hi).2.2 s⟩⟩
theorem Ent.st {W u : World} {i : Int} {v : Value} (h : Ent W i v) (s : St W u) : Ent u i v := by
  obtain ⟨lb, lc, ib, ic, cur, h1, h2, h3, h4⟩ := h
  exact ⟨lb, lc, ib, ic, cur, h1, s.1 _ _ _ h2 (by decide) (by decide) (by decide), h3, s.1 _ _ _ h4 (by decide) (by decide) (by decide)⟩
theorem MpAt.st {W u : World} {m : Nat} {l : List (Int × Value)} (h : MpAt W m l) (s : St W u) : MpAt u m l := s.2 _ _ _ h
/-- what stands while the pairs are made -/
structure Pf (xl xr : Nat → Int) (gl gr P p db xb m : Nat) (v v' : Value) (u : World) : Prop where
  fp : u.heap[p]? = some (.cells #[.func (.func 27) #[] #[.pointer (some ⟨P, 0, none⟩)]] 79)
  fd : u.heap[db]? = some (.cells #[.func (.func 40) #[] #[.pointer (some ⟨p, 0, none⟩)], .func (.func 43) #[] #[.pointer (some ⟨p, 0, none⟩)], .func (.func 44) #[] #[.pointer (some ⟨p, 0, none⟩)]] 77)
  fx : u.heap[xb]? = some (.cells #[.slice (some ⟨gr, 0, none⟩) 2 2, .map (some m)] 82)
  fm : MpAt u m [(hR 8, v), (hR 5, v')]
  fe : Ent u 1 v'
  fl : RwsK xl 3 gl 3 u
  fr : RwsK xr 2 gr 2 u
theorem Pf.st {xl xr : Nat → Int} {gl gr P p db xb m : Nat} {v v' : Value} {u w : World} (h : Pf xl xr gl gr P p db xb m v v' u) (s : St u w) : Pf xl xr gl gr P p db xb m v v' w :=
  ⟨s.1 _ _ _ h.fp (by decide) (by decide) (by decide), s.1 _ _ _ h.fd (by decide) (by decide) (by decide), s.1 _ _ _ h.fx (by decide) (by decide) (by decide), h.fm.st s, h.fe.st s, h.fl.st s, h.fr.st s⟩
theorem rwCells3 {ls cs : Nat → Nat} {k gr : Nat} {u : World} (hk : k < 3) (h : u.heap[gr]? = some (.cells (rwK ls cs 3 3) 86)) : u.cell? ⟨gr, 4 * k, none⟩ = some (.bool false) ∧ u.cell? ⟨gr, 4 * k + 1, none⟩ = some (.int .i64 0) ∧ u.cell? ⟨gr, 4 * k + 2, none⟩ = some (.string ⟨#[]⟩) ∧ u.cell? ⟨gr, 4 * k + 3, none⟩ = some (.slice (some ⟨ls k, 0, none⟩) 1 (cs k)) := by
  rcases (show k = 0 ∨ k = 1 ∨ k = 2 by omega) with rfl | rfl | rfl <;> (refine ⟨?_, ?_, ?_, ?_⟩ <;> simp [World.cell?, h] <;> rfl)
/-- the meeting of a row that has none, and of one that has one -/
theorem met_no {xl xr : Nat → Int} {gl gr P p db xb m l2 c2 : Nat} {v v' : Value} {u : World} (h : Pf xl xr gl gr P p db xb m v v' u) (h2 : RwV u l2 7) : Calls Tryz.prog 29 #[.agg #[.slice (some ⟨gr, 0, none⟩) 2 2, .map (some m)], .agg #[.bool false, .int .i64 0, .string ⟨#[]⟩, .slice (some ⟨l2, 0, none⟩) 1 c2]] u fun e w' => e = .returned (.slice none 0 0) ∧ Gr u w' :=
  meeting29_no gr 2 m l2 c2 _ 7 (by omega) u h.fm (by
    have a : (hR 7 == hR 5) = false := by kernel_rfl
    simp [lkO, a, hR78]) h2
theorem met_one {xl xr : Nat → Int} {gl gr P p db xb m l2 c2 lb lc ib ic : Nat} {cur : Array Value} {v v' : Value} {u : World} (h : Pf xl xr gl gr P p db xb m v v' u) (hx : xr 1 = 5) (h1 : v' = .slice (some ⟨lb, 0, none⟩) 1 lc) (h3 : u.heap[lb]? = some (.cells cur 34)) (h4 : cur[0]? = some (.slice (some ⟨ib, 0, none⟩) 1 ic)) (h5 : u.heap[ib]? = some (.cells #[.int .i64 1] 3)) (h2 : RwV u l2 5) : Calls Tryz.prog 29 #[.agg #[.slice (some ⟨gr, 0, none⟩) 2 2, .map (some m)], .agg #[.bool false, .int .i64 0, .string ⟨#[]⟩, .slice (some ⟨l2, 0, none⟩) 1 c2]] u fun e w' => e = .returned (.slice (some ⟨ib, 0, none⟩) 1 ic) ∧ Gr u w' := by
  obtain ⟨ls, cs, hr, hv⟩ := h.fr
  have hv1 := (hv 1 (by omega)).2.1
  rw [hx] at hv1
  have hc := rwCells (k := 1) (by omega) hr
  exact meeting29_1 gr 2 m l2 c2 lb lc ib ic (ls 1) (cs 1) _ 5 (by omega) u h.fm (by
    subst h1
    simp [lkV, lkO, hR58]) (by simp [World.cell?, h3, h4]) (cell1 h5) hc hv1 h2
end Go.Proofs.YteggcdhibcjneaaGreatDoor.Kit
namespace Go.Proofs.YteggcdhibcjneaaGreatDoor.Kit
variable {nx : Bool}
open Go.RowKit Go.Shelf Go.Deep
open Go.Proofs.YteggcdhibcjneaaGreatDoor.Kd (Ans AnsV cell5 cell2)
set_option linter.unusedVariables false
set_option linter.unusedSimpArgs false
attribute [local go_sem] run_store_func

theorem own_st {W W' : World} {t sz : Nat} {v : Value} {n : Nat} {xs : List Value} (h : W.ownsRow 0 t sz v n xs) (e : ∀ g, v.ownBlock = some g → W'.heap[g]? = W.heap[g]?) : W'.ownsRow 0 t sz v n xs := by
  obtain ⟨hl, h0 | ⟨g, cap, cur, rfl, h1, hg, h2, h3, h4⟩⟩ := h
  · exact ⟨hl, .inl h0⟩
  · exact ⟨hl, .inr ⟨g, cap, cur, rfl, h1, (e g rfl).trans hg, h2, h3, h4⟩⟩
theorem PAt.gr {W u : World} {P : Nat} {ps : List (Int × Int)} (h : PAt W P ps) (g : Gr W u) : PAt u P ps := by
  obtain ⟨v, hv, ho, hge⟩ := h
  refine ⟨v, (g.block _ (lt_of_heap hv) id).trans hv, own_st ho fun b hb => ?_, hge⟩
  obtain ⟨hl, ⟨h0, -⟩ | ⟨b', cap, cur, rfl, h1, hg, h2, h3, h4⟩⟩ := ho
  · subst h0
    simp [Value.ownBlock] at hb
  · have hb' : b' = b := by simpa [Value.ownBlock] using hb
    subst hb'
    exact g.block _ (lt_of_heap hg) id
theorem PAt.met {W : World} {P mb j : Nat} {ps : List (Int × Int)} {c : Array Value} {x : Value} (h : PAt W P ps) (hm : W.heap[mb]? = some (.cells c 4)) : PAt (W.setCell ⟨mb, j, none⟩ x) P ps := by
  obtain ⟨v, hv, ho, hge⟩ := h
  refine ⟨v, (heap_setCell_other _ _ _ _ (fun e => ?_)).trans hv, own_st ho fun b hb => heap_setCell_other _ _ _ _ (fun e => ?_), hge⟩
  · rw [e, hm] at hv
    simp at hv
  · obtain ⟨hl, ⟨h0, -⟩ | ⟨b', cap, cur, rfl, h1, hg, h2, h3, h4⟩⟩ := ho
    · subst h0
      simp [Value.ownBlock] at hb
    · have hb' : b' = b := by simpa [Value.ownBlock] using hb
      subst hb'
      rw [e, hm] at hg
      simp at hg
theorem PAt.get {W : World} {P n : Nat} {ps : List (Int × Int)} (h : PAt W P ps) (hn : ps.length = n) (h0 : 0 < n) : ∃ g cap, W.cell? ⟨P, 0, none⟩ = some (.slice (some ⟨g, 0, none⟩) n cap) ∧ W.ownsRow 0 41 2 (.slice (some ⟨g, 0, none⟩) n cap) n (flat2 ps) := by
  obtain ⟨v, hv, ho, -⟩ := h
  rw [hn] at ho
  obtain ⟨g, cap, cur, rfl, -, -, -, -, -⟩ := own_get ho h0
  exact ⟨g, cap, cell1 hv, ho⟩
/-- the state of the pairs' making: k of ps are laid, the list of what is met is ms -/
def PrI (W : World) (xl xr : Nat → Int) (gl gr P p db xb m mb : Nat) (v v' : Value) (ps : List (Int × Int)) (ms : Array Value) (u : World) : Prop := FrP P W u ∧ PAt u P ps ∧ Pf xl xr gl gr P p db xb m v v' u ∧ u.heap[mb]? = some (.cells ms 4) ∧ W.heap.size ≤ mb ∧ mb ≠ P
theorem PrI.gr {W u w : World} {xl xr : Nat → Int} {gl gr P p db xb m mb : Nat} {v v' : Value} {ps : List (Int × Int)} {ms : Array Value} (h : PrI W xl xr gl gr P p db xb m mb v v' ps ms u) (g : Gr u w) : PrI W xl xr gl gr P p db xb m mb v v' ps ms w :=
  ⟨h.1.trans (FrP.ofGr g), h.2.1.gr g, h.2.2.1.st (St.ofGr g), (g.block _ (lt_of_heap h.2.2.2.1) id).trans h.2.2.2.1, h.2.2.2.2⟩
theorem PrI.fr {W u w : World} {xl xr : Nat → Int} {gl gr P p db xb m mb : Nat} {v v' : Value} {ps qs : List (Int × Int)} {ms : Array Value} (h : PrI W xl xr gl gr P p db xb m mb v v' ps ms u) (f : FrP P u w) (hq : PAt w P qs) : PrI W xl xr gl gr P p db xb m mb v v' qs ms w :=
  ⟨h.1.trans f, hq, h.2.2.1.st (St.ofFr f h.2.1), f.cells h.2.2.2.1 h.2.2.2.2.2 (by decide), h.2.2.2.2⟩
theorem PrI.met {W u : World} {xl xr : Nat → Int} {gl gr P p db xb m mb : Nat} {v v' : Value} {ps : List (Int × Int)} {b : Value} (h : PrI W xl xr gl gr P p db xb m mb v v' ps #[.bool false, b] u) : PrI W xl xr gl gr P p db xb m mb v v' ps #[.bool false, .bool true] (u.setCell ⟨mb, 1, none⟩ (.bool true)) := by
  obtain ⟨h1, h2, h3, h4, h5, h6⟩ := h
  have kp : Keeps u (u.setCell ⟨mb, 1, none⟩ (.bool true)) (fun z => z = mb) := Keeps.setCell (S := fun z => z = mb) (p := ⟨mb, 1, none⟩) (Keeps.refl u _) (fun _ => rfl) _
  refine ⟨Keeps.trans h1 kp (fun j hj e => ?_), h2.met h4, h3.st (St.met h4), heap_setCell_same _ mb 1 _ _ _ h4, h5, h6⟩
  have e' : j = mb := e
  omega
end Go.Proofs.YteggcdhibcjneaaGreatDoor.Kit
namespace Go.Proofs.YteggcdhibcjneaaGreatDoor.Kit
variable {nx : Bool}
open Go.RowKit Go.Shelf Go.Deep
open Go.Proofs.YteggcdhibcjneaaGreatDoor.Kd (Ans AnsV cell5 cell2)
set_option linter.unusedVariables false
set_option linter.unusedSimpArgs false
attribute [local go_sem] run_store_func

theorem mk84 (w : World) : (Instr.makeSlice 84 (.int .i64 2) (.int .i64 2)).run Tryz.prog w = .ok (.slice (some ⟨w.heap.size, 0, none⟩) 2 2) (w.alloc (.cells #[.bool false, .bool false] 4)) := by kernel_rfl
theorem paired15 (gl gr : Nat) (xl xr : Nat → Int) (W : World) (hRl : RwsK xl 3 gl 3 W) (hRr : RwsK xr 2 gr 2 W) (hxl0 : xl 0 = 5) (hxl1 : xl 1 = 7) (hxl2 : xl 2 = 5) (hx0 : xr 0 = 8) (hx1 : xr 1 = 5) :
    Calls Tryz.prog 15 #[.int .i64 3, .slice (some ⟨gl, 0, none⟩) 3 3, .slice (some ⟨gr, 0, none⟩) 2 2] W fun e w' => ∃ g cap, e = .returned (.tuple #[.slice (some ⟨g, 0, none⟩) 4 cap, .int .i64 0]) ∧ FrP W.heap.size W w' ∧ w'.ownsRow 0 41 2 (.slice (some ⟨g, 0, none⟩) 4 cap) 4 (flat2 [((0 : Int), (1 : Int)), (1, -1), (2, 1), (-1, 0)]) := by
  obtain ⟨A0, hA0⟩ : ∃ A, W.alloc (.cells #[.slice none 0 0] 23) = A := ⟨_, rfl⟩
  have g0 : Gr W A0 := by rw [← hA0]; exact gr_alloc W _
  have b0 : A0.heap[W.heap.size]? = some (.cells #[.slice none 0 0] 23) := by rw [← hA0]; exact heap_alloc_new W _
  have HC26 := hidM (manner26 W.heap.size A0)
  have HC28 : Hid (∀ u, Gr A0 u → Calls Tryz.prog 28 #[.slice (some ⟨gr, 0, none⟩) 2 2] u fun e w' => ∃ m v v', e = .returned (.agg #[.slice (some ⟨gr, 0, none⟩) 2 2, .map (some m)]) ∧ Gr u w' ∧ MpAt w' m [(hR 8, v), (hR 5, v')] ∧ Ent w' 0 v ∧ Ent w' 1 v') := fun u g => indexed28 gr xr u (hRr.st (St.ofGr (g0.trans g (fun _ _ h => h)))) hx0 hx1
  have HW : Hid (∀ u, Gr A0 u → FrP W.heap.size W u ∧ PAt u W.heap.size [] ∧ RwsK xl 3 gl 3 u ∧ RwsK xr 2 gr 2 u) := fun u g => ⟨FrP.ofGr (g0.trans g (fun _ _ h => h)), ⟨_, (g.block _ (lt_of_heap b0) id).trans b0, World.ownsRow_nil _ 0 41 2, fun g e => by simp [Value.ownBlock] at e⟩, hRl.st (St.ofGr (g0.trans g (fun _ _ h => h))), hRr.st (St.ofGr (g0.trans g (fun _ _ h => h)))⟩
  have HZ0 : Hid (A0.heap.size = W.heap.size + 1) := by rw [← hA0]; simp [Hid]
  clear g0 b0 hRl hRr
  go_enter Tryz.func15, Tryz.ntmps15
  go_wp2_with (first
    | (go_at_call 26; refine HC26.out.mono ?_; rintro e w1 ⟨p, rfl, g1, hp⟩; obtain ⟨A1, hA1⟩ : ∃ A, w1.alloc (.cells #[.func (.func 40) #[] #[.pointer (some ⟨p, 0, none⟩)], .func (.func 43) #[] #[.pointer (some ⟨p, 0, none⟩)], .func (.func 44) #[] #[.pointer (some ⟨p, 0, none⟩)]] 77) = A := ⟨_, rfl⟩; have gA1 : Gr w1 A1 := by { rw [← hA1]; exact gr_alloc _ _ }; have bA1 : A1.heap[w1.heap.size]? = some (.cells #[.func (.func 40) #[] #[.pointer (some ⟨p, 0, none⟩)], .func (.func 43) #[] #[.pointer (some ⟨p, 0, none⟩)], .func (.func 44) #[] #[.pointer (some ⟨p, 0, none⟩)]] 77) := by { rw [← hA1]; exact heap_alloc_new _ _ }; have HA1 : Hid (Gr A0 A1 ∧ A1.heap[p]? = some (.cells #[.func (.func 27) #[] #[.pointer (some ⟨W.heap.size, 0, none⟩)]] 79) ∧ A1.heap[w1.heap.size]? = some (.cells #[.func (.func 40) #[] #[.pointer (some ⟨p, 0, none⟩)], .func (.func 43) #[] #[.pointer (some ⟨p, 0, none⟩)], .func (.func 44) #[] #[.pointer (some ⟨p, 0, none⟩)]] 77)) := ⟨g1.trans gA1 (fun _ _ h => h), (gA1.block _ (lt_of_heap hp) id).trans hp, bA1⟩; obtain ⟨d0, d1, d2⟩ := cell3 bA1; have dz := frzA bA1; clear g1 hp gA1 bA1)
    | (go_at_call 28; refine (HC28.out A1 HA1.out.1).mono ?_; rintro e w2 ⟨m, v, v', rfl, g2, hm, en0, en1⟩; obtain ⟨A2, hA2⟩ : ∃ A, w2.alloc (.cells #[.slice (some ⟨gr, 0, none⟩) 2 2, .map (some m)] 82) = A := ⟨_, rfl⟩; have gA2 : Gr w2 A2 := by { rw [← hA2]; exact gr_alloc _ _ }; have bA2 : A2.heap[w2.heap.size]? = some (.cells #[.slice (some ⟨gr, 0, none⟩) 2 2, .map (some m)] 82) := by { rw [← hA2]; exact heap_alloc_new _ _ }; obtain ⟨A3, hA3⟩ : ∃ A, A2.alloc (.cells #[.bool false, .bool false] 4) = A := ⟨_, rfl⟩; have gA3 : Gr A2 A3 := by { rw [← hA3]; exact gr_alloc _ _ }; have bA3 : A3.heap[A2.heap.size]? = some (.cells #[.bool false, .bool false] 4) := by { rw [← hA3]; exact heap_alloc_new _ _ }; have hmk : (Instr.makeSlice 84 (.int .i64 2) (.int .i64 2)).run Tryz.prog A2 = .ok (.slice (some ⟨A2.heap.size, 0, none⟩) 2 2) A3 := by { rw [← hA3]; exact mk84 A2 }; have g23 := gA2.trans gA3 (fun _ _ h => h); have g13 : Gr A1 A3 := g2.trans g23 (fun _ _ h => h); have g03 : Gr A0 A3 := HA1.out.1.trans g13 (fun _ _ h => h); have HI0 : Hid (PrI W xl xr gl gr W.heap.size p w1.heap.size w2.heap.size m A2.heap.size v v' ([] : List (Int × Int)) #[.bool false, .bool false] A3) := ⟨(HW.out A3 g03).1, (HW.out A3 g03).2.1, ⟨(g13.block _ (lt_of_heap HA1.out.2.1) id).trans HA1.out.2.1, (g13.block _ (lt_of_heap HA1.out.2.2) id).trans HA1.out.2.2, (gA3.block _ (lt_of_heap bA2) id).trans bA2, (g23.block _ (lt_of_heap hm) id).trans hm, en1.gr g23, (HW.out A3 g03).2.2.1, (HW.out A3 g03).2.2.2⟩, bA3, by { have := HZ0.out; have := HA1.out.1.size; have := g2.size; have := gA2.size; omega }, by { have := HZ0.out; have := HA1.out.1.size; have := g2.size; have := gA2.size; omega }⟩; obtain ⟨x0, x1⟩ := cell2 bA2; have xz := frzA bA2; clear g2 hm en0 en1 gA2 bA2 gA3 bA3 g23 g13 g03 d0 d1 d2 dz))
  clear hmk x0 x1 xz HC26 HC28 HW HZ0 HA1 hA0 hA1 hA2 hA3
  go_loopw [28] (fun i wr => ∃ k : Nat, k ≤ 3 ∧ i = .int .i64 k ∧ Hid ((k = 0 ∧ PrI W xl xr gl gr W.heap.size p w1.heap.size w2.heap.size m A2.heap.size v v' ([] : List (Int × Int)) #[.bool false, .bool false] wr) ∨ (k = 1 ∧ PrI W xl xr gl gr W.heap.size p w1.heap.size w2.heap.size m A2.heap.size v v' [((0 : Int), (1 : Int))] #[.bool false, .bool true] wr) ∨ (k = 2 ∧ PrI W xl xr gl gr W.heap.size p w1.heap.size w2.heap.size m A2.heap.size v v' [((0 : Int), (1 : Int)), (1, -1)] #[.bool false, .bool true] wr) ∨ (k = 3 ∧ PrI W xl xr gl gr W.heap.size p w1.heap.size w2.heap.size m A2.heap.size v v' [((0 : Int), (1 : Int)), (1, -1), (2, 1)] #[.bool false, .bool true] wr))) (fun i _ => 3 - (intOf i).toNat)
  case atStart => exact ⟨0, by omega, rfl, .inl ⟨rfl, HI0.out⟩⟩
  case round =>
    clear HI0
    obtain ⟨k, hk, rfl, HR⟩ := hrel
    rcases HR.out with ⟨rfl, hI⟩ | ⟨rfl, hI⟩ | ⟨rfl, hI⟩ | ⟨rfl, hI⟩ <;> clear HR
    ·   rw [show ((0 : Nat) : Int) = 0 from rfl]
        obtain ⟨ls, cs, hr, hv⟩ := hI.2.2.1.fl
        obtain ⟨l1, hl1⟩ : ∃ l1, l1 = ls 0 := ⟨_, rfl⟩
        obtain ⟨c1, hc1⟩ : ∃ c1, c1 = cs 0 := ⟨_, rfl⟩
        have rv : RwV wr l1 5 := by
          have := (hv 0 (by omega)).2.1
          rw [← hl1, hxl0] at this
          exact this
        obtain ⟨r0, r1, r2, r3⟩ := rwCells3 (k := 0) (by omega) hr
        rw [← hl1, ← hc1] at r3
        simp only [Nat.reduceMul, Nat.reduceAdd] at r0 r1 r2 r3
        clear hr hv hl1 hc1
        obtain ⟨A, hA⟩ : ∃ A, wr.alloc (.cells #[.bool false, .int .i64 0, .string ⟨#[]⟩, .slice (some ⟨l1, 0, none⟩) 1 c1] 86) = A := ⟨_, rfl⟩
        have gA : Gr wr A := by rw [← hA]; exact gr_alloc wr _
        have bA : A.heap[wr.heap.size]? = some (.cells #[.bool false, .int .i64 0, .string ⟨#[]⟩, .slice (some ⟨l1, 0, none⟩) 1 c1] 86) := by rw [← hA]; exact heap_alloc_new wr _
        have jA := hI.gr gA
        have HJ := hidM jA
        obtain ⟨y0, y1, y2, y3⟩ := cell4 bA
        have yz := frzA bA
        obtain ⟨e0, e1⟩ := cell2 jA.2.2.1.fx
        obtain ⟨lb, lc, ib, ic, cur, q1, q2, q3, q4⟩ := jA.2.2.1.fe
        have HC29 := hidM (met_one (c2 := c1) jA.2.2.1 hx1 q1 q2 q3 q4 (rv.gr gA))
        have HC40 : Hid (∀ u, Gr A u → u.cell? ⟨w1.heap.size, 0, none⟩ = some (.func (.func 40) #[] #[.pointer (some ⟨p, 0, none⟩)]) ∧ Calls Tryz.prog 40 #[.int .i64 0, .slice (some ⟨ib, 0, none⟩) 1 ic, .pointer (some ⟨p, 0, none⟩)] u fun e w' => e = .returned (.tuple #[]) ∧ FrP W.heap.size u w' ∧ PAt w' W.heap.size [((0 : Int), (1 : Int))]) := fun u g =>
          ⟨(cell3 (jA.gr g).2.2.1.fd).1, all40 p W.heap.size ib ic ([] : List (Int × Int)) 0 u (jA.gr g).2.2.1.fp (cell1 ((g.block _ (lt_of_heap q4) id).trans q4)) (jA.gr g).2.1 (by decide)⟩
        have HN5 : Hid (∀ u w5, Gr A u → FrP W.heap.size u w5 → PAt w5 W.heap.size [((0 : Int), (1 : Int))] → PrI W xl xr gl gr W.heap.size p w1.heap.size w2.heap.size m A2.heap.size v v' [((0 : Int), (1 : Int))] #[.bool false, .bool false] w5 ∧ w5.cell? ⟨ib, 0, none⟩ = some (.int .i64 1)) := fun u w5 g f h =>
          ⟨(jA.gr g).fr f h, cell1 ((St.ofFr f (jA.gr g).2.1).1 _ _ _ ((g.block _ (lt_of_heap q4) id).trans q4) (by decide) (by decide) (by decide))⟩
        clear rv gA bA jA q1 q2 q3 q4 hI
        go_wp2_with (first
          | (go_at_call 29; refine HC29.out.mono ?_; rintro e w4 ⟨rfl, g4⟩; have HG4 := hidM g4; clear y0 y1 y2 y3 e0 e1 r0 r1 r2 r3 yz hA; obtain ⟨d0, -⟩ := HC40.out w4 g4; clear g4)
          | (go_at_call 40; refine (HC40.out w4 HG4.out).2.mono ?_; rintro e w5 ⟨rfl, f5, h5⟩; obtain ⟨h6, i0⟩ := HN5.out w4 w5 HG4.out f5 h5; have HI5 := hidM h6; obtain ⟨g9, cap, p0, -⟩ := h6.2.1.get (n := 1) rfl (by omega); obtain ⟨m0, m1⟩ := cell2 h6.2.2.2.1; have mz := frzA h6.2.2.2.1; clear f5 h5 h6 d0))
        obtain ⟨X, hX⟩ : ∃ X, w5.setCell ⟨A2.heap.size, 1, none⟩ (.bool true) = X := ⟨_, rfl⟩
        have HIX : Hid (PrI W xl xr gl gr W.heap.size p w1.heap.size w2.heap.size m A2.heap.size v v' [((0 : Int), (1 : Int))] #[.bool false, .bool true] X) := by rw [← hX]; exact HI5.out.met
        clear HC29 HC40 HN5 HJ
        go_loopw [53] (fun i wr => ∃ k : Nat, k ≤ 1 ∧ i = .int .i64 k ∧ Hid ((k = 0 ∧ wr = w5) ∨ (k = 1 ∧ wr = X))) (fun i _ => 1 - (intOf i).toNat)
        case atStart => exact ⟨0, by omega, rfl, .inl ⟨rfl, rfl⟩⟩
        case round =>
          obtain ⟨k, hk, rfl, HR⟩ := hrel
          rcases HR.out with ⟨rfl, rfl⟩ | ⟨rfl, rfl⟩
          · clear HR
            rw [show ((0 : Nat) : Int) = 0 from rfl]
            go_wp2_with fail
            go_roundw
            case rel => exact ⟨1, by omega, by go_num, .inr ⟨rfl, by trivial⟩⟩
            case measure => simp [intOf]
          · clear HR
            rw [show ((1 : Nat) : Int) = 1 from rfl]
            go_wp2_with fail
            go_roundw
            case rel => exact ⟨1, by omega, by go_num, .inr (.inl ⟨rfl, HIX.out⟩)⟩
            case measure => simp [intOf]
    ·   rw [show ((1 : Nat) : Int) = 1 from rfl]
        obtain ⟨ls, cs, hr, hv⟩ := hI.2.2.1.fl
        obtain ⟨l1, hl1⟩ : ∃ l1, l1 = ls 1 := ⟨_, rfl⟩
        obtain ⟨c1, hc1⟩ : ∃ c1, c1 = cs 1 := ⟨_, rfl⟩
        have rv : RwV wr l1 7 := by
          have := (hv 1 (by omega)).2.1
          rw [← hl1, hxl1] at this
          exact this
        obtain ⟨r0, r1, r2, r3⟩ := rwCells3 (k := 1) (by omega) hr
        rw [← hl1, ← hc1] at r3
        simp only [Nat.reduceMul, Nat.reduceAdd] at r0 r1 r2 r3
        clear hr hv hl1 hc1
        obtain ⟨A, hA⟩ : ∃ A, wr.alloc (.cells #[.bool false, .int .i64 0, .string ⟨#[]⟩, .slice (some ⟨l1, 0, none⟩) 1 c1] 86) = A := ⟨_, rfl⟩
        have gA : Gr wr A := by rw [← hA]; exact gr_alloc wr _
        have bA : A.heap[wr.heap.size]? = some (.cells #[.bool false, .int .i64 0, .string ⟨#[]⟩, .slice (some ⟨l1, 0, none⟩) 1 c1] 86) := by rw [← hA]; exact heap_alloc_new wr _
        have jA := hI.gr gA
        have HJ := hidM jA
        obtain ⟨y0, y1, y2, y3⟩ := cell4 bA
        have yz := frzA bA
        obtain ⟨e0, e1⟩ := cell2 jA.2.2.1.fx
        have HC29 := hidM (met_no (c2 := c1) jA.2.2.1 (rv.gr gA))
        have HC43 : Hid (∀ u, Gr A u → u.cell? ⟨w1.heap.size, 1, none⟩ = some (.func (.func 43) #[] #[.pointer (some ⟨p, 0, none⟩)]) ∧ Calls Tryz.prog 43 #[.int .i64 1, .pointer (some ⟨p, 0, none⟩)] u fun e w' => e = .returned (.tuple #[]) ∧ FrP W.heap.size u w' ∧ PAt w' W.heap.size [((0 : Int), (1 : Int)), (1, -1)]) := fun u g =>
          ⟨(cell3 (jA.gr g).2.2.1.fd).2.1, alone43 p W.heap.size [((0 : Int), (1 : Int))] 1 u (jA.gr g).2.2.1.fp (jA.gr g).2.1 (by decide)⟩
        clear rv gA bA jA hI
        go_wp2_with (first
          | (go_at_call 29; refine HC29.out.mono ?_; rintro e w4 ⟨rfl, g4⟩; have HG4 := hidM g4; clear y0 y1 y2 y3 e0 e1 r0 r1 r2 r3 yz hA; obtain ⟨d1, -⟩ := HC43.out w4 g4; clear g4)
          | (go_at_call 43; refine (HC43.out w4 HG4.out).2.mono ?_; rintro e w5 ⟨rfl, f5, h5⟩; have HI5 := hidM ((HJ.out.gr HG4.out).fr f5 h5); clear f5 h5 d1))
        go_roundw
        case rel => exact ⟨2, by omega, by go_num, .inr (.inr (.inl ⟨rfl, HI5.out⟩))⟩
        case measure => simp [intOf]
    ·   rw [show ((2 : Nat) : Int) = 2 from rfl]
        obtain ⟨ls, cs, hr, hv⟩ := hI.2.2.1.fl
        obtain ⟨l1, hl1⟩ : ∃ l1, l1 = ls 2 := ⟨_, rfl⟩
        obtain ⟨c1, hc1⟩ : ∃ c1, c1 = cs 2 := ⟨_, rfl⟩
        have rv : RwV wr l1 5 := by
          have := (hv 2 (by omega)).2.1
          rw [← hl1, hxl2] at this
          exact this
        obtain ⟨r0, r1, r2, r3⟩ := rwCells3 (k := 2) (by omega) hr
        rw [← hl1, ← hc1] at r3
        simp only [Nat.reduceMul, Nat.reduceAdd] at r0 r1 r2 r3
        clear hr hv hl1 hc1
        obtain ⟨A, hA⟩ : ∃ A, wr.alloc (.cells #[.bool false, .int .i64 0, .string ⟨#[]⟩, .slice (some ⟨l1, 0, none⟩) 1 c1] 86) = A := ⟨_, rfl⟩
        have gA : Gr wr A := by rw [← hA]; exact gr_alloc wr _
        have bA : A.heap[wr.heap.size]? = some (.cells #[.bool false, .int .i64 0, .string ⟨#[]⟩, .slice (some ⟨l1, 0, none⟩) 1 c1] 86) := by rw [← hA]; exact heap_alloc_new wr _
        have jA := hI.gr gA
        have HJ := hidM jA
        obtain ⟨y0, y1, y2, y3⟩ := cell4 bA
        have yz := frzA bA
        obtain ⟨e0, e1⟩ := cell2 jA.2.2.1.fx
        obtain ⟨lb, lc, ib, ic, cur, q1, q2, q3, q4⟩ := jA.2.2.1.fe
        have HC29 := hidM (met_one (c2 := c1) jA.2.2.1 hx1 q1 q2 q3 q4 (rv.gr gA))
        have HC40 : Hid (∀ u, Gr A u → u.cell? ⟨w1.heap.size, 0, none⟩ = some (.func (.func 40) #[] #[.pointer (some ⟨p, 0, none⟩)]) ∧ Calls Tryz.prog 40 #[.int .i64 2, .slice (some ⟨ib, 0, none⟩) 1 ic, .pointer (some ⟨p, 0, none⟩)] u fun e w' => e = .returned (.tuple #[]) ∧ FrP W.heap.size u w' ∧ PAt w' W.heap.size [((0 : Int), (1 : Int)), (1, -1), (2, 1)]) := fun u g =>
          ⟨(cell3 (jA.gr g).2.2.1.fd).1, all40 p W.heap.size ib ic [((0 : Int), (1 : Int)), (1, -1)] 2 u (jA.gr g).2.2.1.fp (cell1 ((g.block _ (lt_of_heap q4) id).trans q4)) (jA.gr g).2.1 (by decide)⟩
        have HN5 : Hid (∀ u w5, Gr A u → FrP W.heap.size u w5 → PAt w5 W.heap.size [((0 : Int), (1 : Int)), (1, -1), (2, 1)] → PrI W xl xr gl gr W.heap.size p w1.heap.size w2.heap.size m A2.heap.size v v' [((0 : Int), (1 : Int)), (1, -1), (2, 1)] #[.bool false, .bool true] w5 ∧ w5.cell? ⟨ib, 0, none⟩ = some (.int .i64 1)) := fun u w5 g f h =>
          ⟨(jA.gr g).fr f h, cell1 ((St.ofFr f (jA.gr g).2.1).1 _ _ _ ((g.block _ (lt_of_heap q4) id).trans q4) (by decide) (by decide) (by decide))⟩
        clear rv gA bA jA q1 q2 q3 q4 hI
        go_wp2_with (first
          | (go_at_call 29; refine HC29.out.mono ?_; rintro e w4 ⟨rfl, g4⟩; have HG4 := hidM g4; clear y0 y1 y2 y3 e0 e1 r0 r1 r2 r3 yz hA; obtain ⟨d0, -⟩ := HC40.out w4 g4; clear g4)
          | (go_at_call 40; refine (HC40.out w4 HG4.out).2.mono ?_; rintro e w5 ⟨rfl, f5, h5⟩; obtain ⟨h6, i0⟩ := HN5.out w4 w5 HG4.out f5 h5; have HI5 := hidM h6; obtain ⟨g9, cap, p0, -⟩ := h6.2.1.get (n := 3) rfl (by omega); obtain ⟨m0, m1⟩ := cell2 h6.2.2.2.1; have mz := frzA h6.2.2.2.1; clear f5 h5 h6 d0))
        obtain ⟨X, hX⟩ : ∃ X, w5.setCell ⟨A2.heap.size, 1, none⟩ (.bool true) = X := ⟨_, rfl⟩
        have HIX : Hid (PrI W xl xr gl gr W.heap.size p w1.heap.size w2.heap.size m A2.heap.size v v' [((0 : Int), (1 : Int)), (1, -1), (2, 1)] #[.bool false, .bool true] X) := by rw [← hX]; exact HI5.out.met
        clear HC29 HC40 HN5 HJ
        go_loopw [53] (fun i wr => ∃ k : Nat, k ≤ 1 ∧ i = .int .i64 k ∧ Hid ((k = 0 ∧ wr = w5) ∨ (k = 1 ∧ wr = X))) (fun i _ => 1 - (intOf i).toNat)
        case atStart => exact ⟨0, by omega, rfl, .inl ⟨rfl, rfl⟩⟩
        case round =>
          obtain ⟨k, hk, rfl, HR⟩ := hrel
          rcases HR.out with ⟨rfl, rfl⟩ | ⟨rfl, rfl⟩
          · clear HR
            rw [show ((0 : Nat) : Int) = 0 from rfl]
            go_wp2_with fail
            go_roundw
            case rel => exact ⟨1, by omega, by go_num, .inr ⟨rfl, by trivial⟩⟩
            case measure => simp [intOf]
          · clear HR
            rw [show ((1 : Nat) : Int) = 1 from rfl]
            go_wp2_with fail
            go_roundw
            case rel => exact ⟨3, by omega, by go_num, .inr (.inr (.inr ⟨rfl, HIX.out⟩))⟩
            case measure => simp [intOf]
    · have HI := hidM hI
      clear hI
      rw [show ((3 : Nat) : Int) = 3 from rfl]
      go_wp2_with fail
      go_loopw [64] (fun i wr => ∃ k : Nat, k ≤ 2 ∧ i = .int .i64 k ∧ Hid ((k = 0 ∧ PrI W xl xr gl gr W.heap.size p w1.heap.size w2.heap.size m A2.heap.size v v' [((0 : Int), (1 : Int)), (1, -1), (2, 1)] #[.bool false, .bool true] wr) ∨ (1 ≤ k ∧ PrI W xl xr gl gr W.heap.size p w1.heap.size w2.heap.size m A2.heap.size v v' [((0 : Int), (1 : Int)), (1, -1), (2, 1), (-1, 0)] #[.bool false, .bool true] wr))) (fun i _ => 2 - (intOf i).toNat)
      case atStart => exact ⟨0, by omega, rfl, .inl ⟨rfl, HI.out⟩⟩
      case round =>
        clear HI
        obtain ⟨k, hk, rfl, HR⟩ := hrel
        rcases HR.out with ⟨rfl, hI⟩ | ⟨hk1, hI⟩ <;> clear HR
        · rw [show ((0 : Nat) : Int) = 0 from rfl]
          have HI := hidM hI
          obtain ⟨m0, m1⟩ := cell2 hI.2.2.2.1
          obtain ⟨d0, d1, d2⟩ := cell3 hI.2.2.1.fd
          have HC44 := hidM (alone44 p W.heap.size [((0 : Int), (1 : Int)), (1, -1), (2, 1)] 0 wr hI.2.2.1.fp hI.2.1 (by decide))
          clear hI
          go_wp2_with (go_at_call 44; refine HC44.out.mono ?_; rintro e w5 ⟨rfl, f5, h5⟩; have HI5 := hidM (HI.out.fr f5 h5); clear f5 h5 m0 m1 d0 d1 d2)
          go_roundw
          case rel => exact ⟨1, by omega, by go_num, .inr ⟨by omega, HI5.out⟩⟩
          case measure => simp [intOf]
        · have HI := hidM hI
          rcases (show k = 1 ∨ k = 2 by omega) with rfl | rfl
          · rw [show ((1 : Nat) : Int) = 1 from rfl]
            obtain ⟨m0, m1⟩ := cell2 hI.2.2.2.1
            clear hI
            go_wp2_with fail
            go_roundw
            case rel => exact ⟨2, by omega, by go_num, .inr ⟨by omega, HI.out⟩⟩
            case measure => simp [intOf]
          · rw [show ((2 : Nat) : Int) = 2 from rfl]
            obtain ⟨g9, cap, p0, ho⟩ := hI.2.1.get (n := 4) rfl (by omega)
            have HO := hidM ho
            clear hI ho
            go_wp2_with fail
            go_ret2
            exact ⟨_, _, rfl, HI.out.1, HO.out⟩
end Go.Proofs.YteggcdhibcjneaaGreatDoor.Kit
