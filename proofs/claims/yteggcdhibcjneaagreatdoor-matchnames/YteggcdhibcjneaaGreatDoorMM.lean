import Derived.Test.YteggcdhibcjneaaGreatDoorMJ
set_option maxRecDepth 100000
set_option maxHeartbeats 4000000
namespace Go.Proofs.YteggcdhibcjneaaGreatDoor.Kit
variable {nx : Bool}
open Go.RowKit Go.Shelf Go.Deep
open Go.Proofs.YteggcdhibcjneaaGreatDoor.Kd (Ans AnsV cell5 cell2)
set_option linter.unusedVariables false
set_option linter.unusedSimpArgs false
attribute [local go_sem] run_store_func

theorem takeRows25 (L g ac db dbc qb bc v2 c2 : Nat) (ao : Option Addr) (ca : Nat) (W : World) (hB : Bt nx W L g ac db dbc qb bc v2 c2 ao ca) :
    Calls Tryz.prog 25 #[.agg #[.slice (some ⟨g, 0, none⟩) 1 ac, .slice none 0 0], .agg #[.int .i64 L, .slice (some ⟨db, 0, none⟩) 1 dbc], .slice none 0 0] W fun e w' => ∃ m, e = .returned (.tuple #[.agg #[.int .i64 0, .slice (some ⟨m, 0, none⟩) 1 1], .int .i64 0]) ∧ Gr W w' := by
  obtain ⟨A0, hA0⟩ : ∃ A, W.alloc (.cells #[.slice (some ⟨g, 0, none⟩) 1 ac, .slice none 0 0] 30) = A := ⟨_, rfl⟩
  have g0 : Gr W A0 := by rw [← hA0]; exact gr_alloc W _
  have b0 : A0.heap[W.heap.size]? = some (.cells #[.slice (some ⟨g, 0, none⟩) 1 ac, .slice none 0 0] 30) := by rw [← hA0]; exact heap_alloc_new W _
  obtain ⟨A1, hA1⟩ : ∃ A, A0.alloc (.cells #[.int .i64 L, .slice (some ⟨db, 0, none⟩) 1 dbc] 33) = A := ⟨_, rfl⟩
  have g1 : Gr A0 A1 := by rw [← hA1]; exact gr_alloc A0 _
  have b1 : A1.heap[A0.heap.size]? = some (.cells #[.int .i64 L, .slice (some ⟨db, 0, none⟩) 1 dbc] 33) := by rw [← hA1]; exact heap_alloc_new A0 _
  obtain ⟨A2, hA2⟩ : ∃ A, A1.alloc (.cells #[.int .i64 0, .slice none 0 0] 33) = A := ⟨_, rfl⟩
  have g2 : Gr A1 A2 := by rw [← hA2]; exact gr_alloc A1 _
  have b2 : A2.heap[A1.heap.size]? = some (.cells #[.int .i64 0, .slice none 0 0] 33) := by rw [← hA2]; exact heap_alloc_new A1 _
  have g12 := g1.trans g2 (fun _ _ h => h)
  have gW : Gr W A2 := g0.trans g12 (fun _ _ h => h)
  have s0 : A0.heap.size = W.heap.size + 1 := by rw [← hA0]; simp
  have s1 : A1.heap.size = A0.heap.size + 1 := by rw [← hA1]; simp
  have HG := hidM gW
  obtain ⟨e0, e1⟩ := cell2 ((g12.block _ (lt_of_heap b0) id).trans b0)
  obtain ⟨f0, f1⟩ := cell2 ((g2.block _ (lt_of_heap b1) id).trans b1)
  have HSS : Hid (∀ u, Gr A2 u → u.cell? ⟨W.heap.size, 0, none⟩ = some (.slice (some ⟨g, 0, none⟩) 1 ac) ∧ u.cell? ⟨W.heap.size, 1, none⟩ = some (.slice none 0 0) ∧ u.cell? ⟨A0.heap.size, 0, none⟩ = some (.int .i64 L) ∧ u.cell? ⟨A0.heap.size, 1, none⟩ = some (.slice (some ⟨db, 0, none⟩) 1 dbc)) := fun u g => ⟨g.cell' e0 id, g.cell' e1 id, g.cell' f0 id, g.cell' f1 id⟩
  have HB := hidM (hB.gr gW)
  have HC1 := hidM (openedColumns35 L g ac db dbc qb bc v2 c2 ao ca A2 HB.out)
  have HX : Hid (∀ (w5 : World) (m : Nat), Gr A2 w5 → w5.heap[A1.heap.size]? = some (.cells #[.int .i64 0, .slice none 0 0] 33) ∧ (setAll w5 A1.heap.size [(0, .int .i64 0), (1, .slice (some ⟨m, 0, none⟩) 1 1)]).heap[A1.heap.size]? = some (.cells #[.int .i64 0, .slice (some ⟨m, 0, none⟩) 1 1] 33) ∧ Gr W (setAll w5 A1.heap.size [(0, .int .i64 0), (1, .slice (some ⟨m, 0, none⟩) 1 1)])) := fun w5 m g5 => by
    have c := (g5.block _ (lt_of_heap b2) id).trans b2
    refine ⟨c, ?_, (gW.trans g5 (fun _ _ h => h)).trans (setAll_kp _ _ _) (fun j hj e => by have e' : j = A1.heap.size := e; omega)⟩
    rw [setAll_blk A1.heap.size 33 _ _ _ c]
    simp [setsA]
  clear g0 b0 g1 b1 g2 b2 g12 gW s0 s1 hB
  go_enter Tryz.func25, Tryz.ntmps25
  go_wp2_with (go_at_call 35; refine HC1.out.mono ?_; rintro e w1 ⟨l, a, rfl, hO, hl⟩; clear e0 e1 f0 f1 hA0 hA1 hA2; have HG1 := hidM (hO.g.trans (gr_drew (w := w1)) (fun _ _ h => h)); have HO := hidM (And.intro hO hl); have HSd := hidM (HSS.out w1.drew HG1.out); clear hO hl)
  obtain ⟨B, hB⟩ : ∃ B, w1.drew.alloc (.cells #[.slice none 0 0] 34) = B := ⟨_, rfl⟩
  have HGB : Hid (Gr A2 B ∧ B.heap[w1.heap.size]? = some (.cells #[.slice none 0 0] 34)) := by rw [← hB]; exact ⟨HG1.out.trans (gr_alloc _ _) (fun _ _ h => h), heap_alloc_new _ _⟩
  have HSb := hidM (HSS.out B HGB.out.1)
  go_region_held3 (fun u => u.cell? ⟨W.heap.size, 0, none⟩ = some (.slice (some ⟨g, 0, none⟩) 1 ac) ∧ u.cell? ⟨W.heap.size, 1, none⟩ = some (.slice none 0 0) ∧ u.cell? ⟨A0.heap.size, 0, none⟩ = some (.int .i64 L) ∧ u.cell? ⟨A0.heap.size, 1, none⟩ = some (.slice (some ⟨db, 0, none⟩) 1 dbc)) (first | with_reducible exact HSd.out | with_reducible exact HSb.out | with_reducible exact HS3.out | with_reducible exact HS4.out) (first
    | (go_at_call 37; refine (values37 _ _ _ _).mono ?_; rintro e w2 ⟨rfl, rfl⟩)
    | (go_at_call 38; refine (letsNulls38 (nx := nx) g ac B ao ca (HB.out.gr HGB.out.1).s.f).mono ?_; rintro e w3 ⟨rfl, g3⟩; have HG3 := hidM (HGB.out.1.trans g3 (fun _ _ h => h)); have HB3 := hidM ((g3.block _ (lt_of_heap HGB.out.2) id).trans HGB.out.2); have HS3 := hidM (HSS.out w3 HG3.out); have HBw := hidM g3; clear g3)
    | (go_at_call 36; refine (wrong36 _ _ _ _ HB3.out).mono ?_; rintro e w4 ⟨rfl, g4⟩; have HG4 := hidM (HG3.out.trans g4 (fun _ _ h => h)); have HS4 := hidM (HSS.out w4 HG4.out); have HO4 : Hid (OpA nx A2 w4 L v2 c2 a ∧ w4.heap[l]? = some (.cells #[.pointer (some ⟨a, 0, none⟩)] 110)) := (by have k : Gr w1 w4 := (((gr_drew (w := w1)).trans (show Gr w1.drew B from by rw [← hB]; exact gr_alloc _ _) (fun _ _ h => h)).trans HBw.out (fun _ _ h => h)).trans g4 (fun _ _ h => h); exact ⟨HO.out.1.gr k, (k.block _ (lt_of_heap HO.out.2) id).trans HO.out.2⟩); clear g4))
  have HC2 := hidM (laidBatch39 (nx := nx) L v2 c2 a l A2 w4 ((HB.out.gr HG4.out).n.T) HO4.out.1 HO4.out.2)
  clear hB
  go_wp2_with (go_at_call 39; refine HC2.out.mono ?_; rintro e w5 ⟨m, rfl, g5⟩; obtain ⟨h1, h2, h3⟩ := HX.out w5 m (HG4.out.trans g5 (fun _ _ h => h)); obtain ⟨U, hU⟩ : ∃ U, setAll w5 A1.heap.size [(0, .int .i64 0), (1, .slice (some ⟨m, 0, none⟩) 1 1)] = U := ⟨_, rfl⟩; rw [hU] at h2 h3; have HU := hidM h2; have HK := hidM h3; simp only [setAll] at hU; obtain ⟨y0, y1⟩ := cell2 h1; have yz := frzA h1; clear g5 h1 h2 h3)
  (try simp only [Exit.inBlock, Exit.then])
  refine bodyPost_ret (results_cell33t rfl rfl (by with_reducible exact HU.out) (by kernel_rfl)) rfl ?_
  exact ⟨_, rfl, HK.out⟩
theorem wrongBatch14 (L g ac db dbc qb bc v2 c2 : Nat) (ao : Option Addr) (ca : Nat) (W : World) (hB : Bt nx W L g ac db dbc qb bc v2 c2 ao ca) :
    Calls Tryz.prog 14 #[.agg #[.slice (some ⟨g, 0, none⟩) 1 ac, .slice none 0 0], .agg #[.int .i64 L, .slice (some ⟨db, 0, none⟩) 1 dbc]] W fun e w' => e = .returned (.int .i64 0) ∧ Gr W w' := by
  obtain ⟨A0, hA0⟩ : ∃ A, W.alloc (.cells #[.slice (some ⟨g, 0, none⟩) 1 ac, .slice none 0 0] 30) = A := ⟨_, rfl⟩
  have g0 : Gr W A0 := by rw [← hA0]; exact gr_alloc W _
  have b0 : A0.heap[W.heap.size]? = some (.cells #[.slice (some ⟨g, 0, none⟩) 1 ac, .slice none 0 0] 30) := by rw [← hA0]; exact heap_alloc_new W _
  obtain ⟨A1, hA1⟩ : ∃ A, A0.alloc (.cells #[.int .i64 L, .slice (some ⟨db, 0, none⟩) 1 dbc] 33) = A := ⟨_, rfl⟩
  have g1 : Gr A0 A1 := by rw [← hA1]; exact gr_alloc A0 _
  have b1 : A1.heap[A0.heap.size]? = some (.cells #[.int .i64 L, .slice (some ⟨db, 0, none⟩) 1 dbc] 33) := by rw [← hA1]; exact heap_alloc_new A0 _
  have gW : Gr W A1 := g0.trans g1 (fun _ _ h => h)
  have HG := hidM gW
  obtain ⟨e0, e1⟩ := cell2 ((g1.block _ (lt_of_heap b0) id).trans b0)
  obtain ⟨f0, f1⟩ := cell2 b1
  have HC := hidM (takeRows25 L g ac db dbc qb bc v2 c2 ao ca A1 (hB.gr gW))
  clear g0 b0 g1 b1 gW hB
  go_enter Tryz.func14, Tryz.ntmps14
  go_wp2_with (go_at_call 25; refine HC.out.mono ?_; rintro e w1 ⟨m, rfl, g1⟩; clear hA0 hA1; obtain ⟨V, hV⟩ : ∃ V, w1.alloc (.cells #[.int .i64 0, .slice (some ⟨m, 0, none⟩) 1 1] 33) = V := ⟨_, rfl⟩; have gV : Gr w1 V := (by rw [← hV]; exact gr_alloc w1 _); have hv : V.heap[w1.heap.size]? = some (.cells #[.int .i64 0, .slice (some ⟨m, 0, none⟩) 1 1] 33) := (by rw [← hV]; exact heap_alloc_new w1 _); obtain ⟨y0, y1⟩ := cell2 hv; have yz := frzA hv; have i0 := set_id (j := 0) (v := .int .i64 0) hv rfl; have i1 := set_id (j := 1) (v := .slice (some ⟨m, 0, none⟩) 1 1) hv rfl; have HE := hidM ((HG.out.trans g1 (fun _ _ h => h)).trans gV (fun _ _ h => h)); clear g1 gV hv)
  go_ret
  exact ⟨rfl, HE.out⟩
end Go.Proofs.YteggcdhibcjneaaGreatDoor.Kit
namespace Go.Proofs.YteggcdhibcjneaaGreatDoor.Kit
variable {nx ny : Bool}
open Go.RowKit Go.Shelf Go.Deep
open Go.Proofs.YteggcdhibcjneaaGreatDoor.Kd (Ans AnsV cell5 cell2)
set_option linter.unusedVariables false
set_option linter.unusedSimpArgs false
attribute [local go_sem] run_store_func

theorem own_get {w : World} {e size n : Nat} {v : Value} {xs : List Value} (h : w.ownsRow 0 e size v n xs) (hn : 0 < n) : ∃ g cap cur, v = .slice (some ⟨g, 0, none⟩) n cap ∧ n ≤ cap ∧ w.heap[g]? = some (.cells cur e (0, 0)) ∧ cur.size = cap * size ∧ cur.toList.take (n * size) = xs ∧ ∀ j x, xs[j]? = some x → w.cell? ⟨g, j, none⟩ = some x := by
  obtain ⟨hl, ⟨-, h0⟩ | ⟨g, cap, cur, rfl, -, hg, h1, h2, h3, h4⟩⟩ := h
  · omega
  · refine ⟨g, cap, cur, rfl, h1, hg, h3, h4, fun j x hj => ?_⟩
    rw [← h4] at hj
    have hj2 : cur.toList[j]? = some x := by
      rw [List.getElem?_take] at hj
      split at hj
      · exact hj
      · cases hj
    have : cur[j]? = some x := by simpa using hj2
    simp [World.cell?, hg, this]
theorem info67 : (Tryz.prog.info? 67).map (fun i => (i.zero, i.size, i.bytes)) = some (some (.agg #[.int .i64 0, .int .i64 0]), 2, 16) := by kernel_rfl
theorem src67 {Z : World} {z : Nat} {x y : Int} (h : Z.heap[z]? = some (.cells #[.int .i64 x, .int .i64 y] 67)) : Src Tryz.prog 2 54 (.slice (some ⟨z, 0, none⟩) 1 1) 1 [.int .i64 x, .int .i64 y] Z := by
  refine Src.ofSlice (w := Z) Tryz.underlying54 ⟨z, 0, none⟩ 1 1 [.int .i64 x, .int .i64 y] rfl (fun j v hj => ?_) (fun v hv => by simp at hv; rcases hv with rfl | rfl <;> rfl)
  rw [Addr.add_lit, Nat.zero_add]
  obtain ⟨c0, c1⟩ := cell2 h
  match j, hj with
  | 0, hj => cases hj; exact c0
  | 1, hj => cases hj; exact c1
  | j + 2, hj => simp at hj
theorem origins13 (ga ac gb bc za zac zb zbc : Nat) (W : World) (ha0 : W.cell? ⟨za, 0, none⟩ = some (.int .i64 0)) (hb0 : W.cell? ⟨zb, 0, none⟩ = some (.int .i64 0)) : Calls Tryz.prog 13 #[.int .i64 2, .agg #[.slice (some ⟨ga, 0, none⟩) 1 ac, .slice none 0 0], .slice (some ⟨za, 0, none⟩) 1 zac, .agg #[.slice (some ⟨gb, 0, none⟩) 1 bc, .slice none 0 0], .slice (some ⟨zb, 0, none⟩) 1 zbc] W fun e w' => ∃ g c, e = .returned (.slice (some ⟨g, 0, none⟩) 1 c) ∧ Gr W w' ∧ w'.cell? ⟨g, 0, none⟩ = some (.int .i64 0) ∧ w'.cell? ⟨g, 1, none⟩ = some (.int .i64 0) := by
  obtain ⟨A0, hA0⟩ : ∃ A, W.alloc (.cells #[.slice (some ⟨ga, 0, none⟩) 1 ac, .slice none 0 0] 30) = A := ⟨_, rfl⟩
  have g0 : Gr W A0 := by rw [← hA0]; exact gr_alloc W _
  have b0 : A0.heap[W.heap.size]? = some (.cells #[.slice (some ⟨ga, 0, none⟩) 1 ac, .slice none 0 0] 30) := by rw [← hA0]; exact heap_alloc_new W _
  obtain ⟨A1, hA1⟩ : ∃ A, A0.alloc (.cells #[.slice (some ⟨gb, 0, none⟩) 1 bc, .slice none 0 0] 30) = A := ⟨_, rfl⟩
  have g1 : Gr A0 A1 := by rw [← hA1]; exact gr_alloc A0 _
  have b1 : A1.heap[A0.heap.size]? = some (.cells #[.slice (some ⟨gb, 0, none⟩) 1 bc, .slice none 0 0] 30) := by rw [← hA1]; exact heap_alloc_new A0 _
  have gW : Gr W A1 := g0.trans g1 (fun _ _ h => h)
  have HG := hidM gW
  obtain ⟨e0, e1⟩ := cell2 ((g1.block _ (lt_of_heap b0) id).trans b0)
  obtain ⟨f0, f1⟩ := cell2 b1
  have ha := gW.cell' ha0 id
  have hb := gW.cell' hb0 id
  have HSS : Hid (∀ u, Gr A1 u → u.cell? ⟨W.heap.size, 0, none⟩ = some (.slice (some ⟨ga, 0, none⟩) 1 ac) ∧ u.cell? ⟨W.heap.size, 1, none⟩ = some (.slice none 0 0) ∧ u.cell? ⟨A0.heap.size, 0, none⟩ = some (.slice (some ⟨gb, 0, none⟩) 1 bc) ∧ u.cell? ⟨A0.heap.size, 1, none⟩ = some (.slice none 0 0) ∧ u.cell? ⟨za, 0, none⟩ = some (.int .i64 0) ∧ u.cell? ⟨zb, 0, none⟩ = some (.int .i64 0)) := fun u g => ⟨g.cell' e0 id, g.cell' e1 id, g.cell' f0 id, g.cell' f1 id, g.cell' ha id, g.cell' hb id⟩
  obtain ⟨A2, hA2⟩ : ∃ A, A1.alloc (.cells #[.int .i64 0, .int .i64 (-1)] 67) = A := ⟨_, rfl⟩
  have g2 : Gr A1 A2 := by rw [← hA2]; exact gr_alloc A1 _
  have b2 : A2.heap[A1.heap.size]? = some (.cells #[.int .i64 0, .int .i64 (-1)] 67) := by rw [← hA2]; exact heap_alloc_new A1 _
  obtain ⟨A3, hA3⟩ : ∃ A, A2.setCell ⟨A1.heap.size, 1, none⟩ (.int .i64 0) = A := ⟨_, rfl⟩
  have g3 : Gr A1 A3 := by rw [← hA3]; exact g2.trans (Keeps.setCell (S := fun z => z = A1.heap.size) (p := ⟨A1.heap.size, 1, none⟩) (Keeps.refl A2 _) (fun _ => rfl) _) (fun j hj e => by have e' : j = A1.heap.size := e; omega)
  have b3 : A3.heap[A1.heap.size]? = some (.cells #[.int .i64 0, .int .i64 0] 67) := by rw [← hA3, heap_setCell_same A2 A1.heap.size 1 _ _ _ b2]; rfl
  obtain ⟨A4, hA4⟩ : ∃ A, A3.alloc (.cells #[.int .i64 0, .int .i64 0] 67) = A := ⟨_, rfl⟩
  have g4 : Gr A3 A4 := by rw [← hA4]; exact gr_alloc A3 _
  have b4 : A4.heap[A3.heap.size]? = some (.cells #[.int .i64 0, .int .i64 0] 67) := by rw [← hA4]; exact heap_alloc_new A3 _
  have H4 : Hid (Gr A1 A4 ∧ Src Tryz.prog 2 54 (.slice (some ⟨A3.heap.size, 0, none⟩) 1 1) 1 [.int .i64 0, .int .i64 0] A4) := ⟨g3.trans g4 (fun _ _ h => h), src67 b4⟩
  have HS2 := hidM (HSS.out A2 g2)
  have HS3 := hidM (HSS.out A3 g3)
  have HX2 := hidM (cell2 b2)
  have HZ2 := hidM (frzA b2)
  have HI2 := hidM (And.intro (set_id (j := 0) (v := .int .i64 0) b2 rfl) (set_id (j := 1) (v := .int .i64 (-1)) b2 rfl))
  have HX3 := hidM (cell2 b3)
  clear g0 b0 g1 b1 gW ha0 hb0 g2 b2 g3 b3 g4 b4
  go_enter Tryz.func13, Tryz.ntmps13
  go_wp2_with fail
  clear e0 e1 f0 f1 ha hb
  go_loopw [19, 11] (fun i s wr => ∃ k : Nat, k ≤ 1 ∧ i = .int .i64 k ∧ Hid ((k = 0 ∧ s = .slice none 0 0 ∧ wr = A1) ∨ (k = 1 ∧ Gr A1 wr ∧ wr.ownsRow 0 67 2 s 1 [.int .i64 0, .int .i64 0]))) (fun i _ _ => 1 - (intOf i).toNat)
  case atStart => exact ⟨0, by omega, rfl, .inl ⟨rfl, rfl, rfl⟩⟩
  case round =>
    obtain ⟨k, hk, rfl, HR⟩ := hrel
    rcases HR.out with ⟨rfl, rfl, rfl⟩ | ⟨rfl, hg, ho⟩
    · clear HR
      obtain ⟨a0, a1, a2, a3, a4, a5⟩ := HSS.out wr (Keeps.refl _ _)
      obtain ⟨b0, b1, b2, b3, b4, b5⟩ := HS2.out
      obtain ⟨d0, d1, d2, d3, d4, d5⟩ := HS3.out
      obtain ⟨x0, x1⟩ := HX2.out
      obtain ⟨y0, y1⟩ := HX3.out
      obtain ⟨i0, i1⟩ := HI2.out
      have z := HZ2.out
      go_wp2_with (first
        | (go_at_call 22; refine (index22_1 _ _ _ b4).mono ?_; rintro e w1 ⟨rfl, rfl⟩)
        | (go_at_call 23; refine (keepsLeft23 _ (.inl rfl) _).mono ?_; rintro e w1 ⟨rfl, rfl⟩)
        | (at_builtin; refine Hid.out ?_))
      unfold Hid
      refine wpList_append_anyN (P := Tryz.prog) _ rfl (.tmp 39) (.tmp 41) 54 54 rfl 67 (.agg #[.int .i64 0, .int .i64 0]) 2 16 Tryz.underlying54 info67 rfl (.slice none 0 0) 0 [] rfl (World.ownsRow_nil _ 0 67 2) _ 1 [.int .i64 0, .int .i64 0] rfl H4.out.2 (by omega) (by omega) ?_
      intro v' w3 ha1 ha2 ha3
      have HN : Hid (Gr wr w3 ∧ w3.ownsRow 0 67 2 v' 1 [.int .i64 0, .int .i64 0]) := ⟨H4.out.1.trans (Keeps.ofGrown ha2) (fun j hj e => by simp [Value.ownBlock] at e), ha1⟩
      clear ha1 ha2 ha3 a0 a1 a2 a3 a4 a5 b0 b1 b2 b3 b4 b5 d0 d1 d2 d3 d4 d5 x0 x1 y0 y1 i0 i1 z
      go_wp2_with fail
      go_roundw
      case rel => exact ⟨1, by omega, by go_num, .inr ⟨rfl, HN.out⟩⟩
      case measure => simp [intOf]
    · obtain ⟨vo, vc, rfl⟩ := own_formN ho
      have HG1 := hidM hg
      have HO := hidM ho
      obtain ⟨a0, a1, a2, a3, a4, a5⟩ := HSS.out wr hg
      clear HR hg ho
      rw [show ((1 : Nat) : Int) = 1 from rfl]
      go_wp2_with fail
      clear a0 a1 a2 a3 a4 a5
      go_loopw [47, 11] (fun i s wu => ∃ k : Nat, k ≤ 1 ∧ i = .int .i64 k ∧ s = .slice vo 1 vc ∧ wu = wr) (fun i _ _ => 1 - (intOf i).toNat)
      case atStart => exact ⟨0, by omega, rfl, rfl, rfl⟩
      case round =>
        obtain ⟨k, hk, rfl, rfl, rfl⟩ := hrel
        obtain ⟨a0, a1, a2, a3, a4, a5⟩ := HSS.out wr HG1.out
        have hk3 : k = 0 ∨ k = 1 := by omega
        rcases hk3 with rfl | rfl
        · go_wp2_with (go_at_call 24; refine (contains24_1 _ _ _ a5).mono ?_; rintro e w1 ⟨rfl, rfl⟩)
          go_roundw
          case rel => exact ⟨1, by omega, by go_num, rfl, trivial⟩
          case measure => simp [intOf]
        · obtain ⟨g, cap, cur, hv, -, -, -, -, hc⟩ := own_get HO.out (by omega)
          have HE : Hid (Gr W wr ∧ wr.cell? ⟨g, 0, none⟩ = some (.int .i64 0) ∧ wr.cell? ⟨g, 1, none⟩ = some (.int .i64 0)) := ⟨HG.out.trans HG1.out (fun _ _ h => h), hc 0 _ rfl, hc 1 _ rfl⟩
          cases hv
          clear hc
          go_wp2_with fail
          go_ret
          exact ⟨g, _, rfl, HE.out⟩
end Go.Proofs.YteggcdhibcjneaaGreatDoor.Kit
namespace Go.Proofs.YteggcdhibcjneaaGreatDoor.Kit
variable {nx ny : Bool}
open Go.RowKit Go.Shelf Go.Deep
open Go.Proofs.YteggcdhibcjneaaGreatDoor.Kd (Ans AnsV cell5 cell2)
set_option linter.unusedVariables false
set_option linter.unusedSimpArgs false
attribute [local go_sem] run_store_func

theorem fieldOf21 (ga ac gb bc : Nat) (ao : Option Addr) (ca : Nat) (W : World) (h1 : S1f nx W ga ac ao ca) : Calls Tryz.prog 21 #[.int .i64 2, .agg #[.slice (some ⟨ga, 0, none⟩) 1 ac, .slice none 0 0], .agg #[.slice (some ⟨gb, 0, none⟩) 1 bc, .slice none 0 0], .agg #[.int .i64 0, .int .i64 0]] W fun e w' => ∃ fo, e = .returned (.agg #[.string (nmB nx), .bool false, .int .i64 3, .int .i64 0, .int .i64 0, .int .i64 0, .slice fo 0 0]) ∧ Gr W w' := by
  obtain ⟨A0, hA0⟩ : ∃ A, W.alloc (.cells #[.slice (some ⟨ga, 0, none⟩) 1 ac, .slice none 0 0] 30) = A := ⟨_, rfl⟩
  have g0 : Gr W A0 := by rw [← hA0]; exact gr_alloc W _
  have b0 : A0.heap[W.heap.size]? = some (.cells #[.slice (some ⟨ga, 0, none⟩) 1 ac, .slice none 0 0] 30) := by rw [← hA0]; exact heap_alloc_new W _
  obtain ⟨A1, hA1⟩ : ∃ A, A0.alloc (.cells #[.slice (some ⟨gb, 0, none⟩) 1 bc, .slice none 0 0] 30) = A := ⟨_, rfl⟩
  have g1 : Gr A0 A1 := by rw [← hA1]; exact gr_alloc A0 _
  have b1 : A1.heap[A0.heap.size]? = some (.cells #[.slice (some ⟨gb, 0, none⟩) 1 bc, .slice none 0 0] 30) := by rw [← hA1]; exact heap_alloc_new A0 _
  obtain ⟨A2, hA2⟩ : ∃ A, A1.alloc (.cells #[.int .i64 0, .int .i64 0] 67) = A := ⟨_, rfl⟩
  have g2 : Gr A1 A2 := by rw [← hA2]; exact gr_alloc A1 _
  have b2 : A2.heap[A1.heap.size]? = some (.cells #[.int .i64 0, .int .i64 0] 67) := by rw [← hA2]; exact heap_alloc_new A1 _
  obtain ⟨A3, hA3⟩ : ∃ A, A2.alloc (.cells #[.string ⟨#[]⟩, .bool false, .int .i64 0, .int .i64 0, .int .i64 0, .int .i64 0, .slice none 0 0] 47) = A := ⟨_, rfl⟩
  have g3 : Gr A2 A3 := by rw [← hA3]; exact gr_alloc A2 _
  have b3 : A3.heap[A2.heap.size]? = some (.cells #[.string ⟨#[]⟩, .bool false, .int .i64 0, .int .i64 0, .int .i64 0, .int .i64 0, .slice none 0 0] 47) := by rw [← hA3]; exact heap_alloc_new A2 _
  have g23 := g2.trans g3 (fun _ _ h => h)
  have g13 := g1.trans g23 (fun _ _ h => h)
  have gW : Gr W A3 := g0.trans g13 (fun _ _ h => h)
  have s0 : A0.heap.size = W.heap.size + 1 := by rw [← hA0]; simp
  have s1 : A1.heap.size = A0.heap.size + 1 := by rw [← hA1]; simp
  have s2 : A2.heap.size = A1.heap.size + 1 := by rw [← hA2]; simp
  obtain ⟨e0, e1⟩ := cell2 ((g13.block _ (lt_of_heap b0) id).trans b0)
  obtain ⟨f0, f1⟩ := cell2 ((g23.block _ (lt_of_heap b1) id).trans b1)
  obtain ⟨o0, o1⟩ := cell2 ((g3.block _ (lt_of_heap b2) id).trans b2)
  obtain ⟨p0, p1, p2, p3, p4, p5, p6⟩ := cell7 (h1.gr gW).f
  have HX : Hid (∀ (w1 V : World) (fo : Option Addr), Gr A3 w1 → w1.alloc (.cells #[.string (nmB nx), .bool false, .int .i64 3, .int .i64 0, .int .i64 0, .int .i64 0, .slice fo 0 0] 47) = V → V.heap[w1.heap.size]? = some (.cells #[.string (nmB nx), .bool false, .int .i64 3, .int .i64 0, .int .i64 0, .int .i64 0, .slice fo 0 0] 47) ∧ V.heap[A2.heap.size]? = some (.cells #[.string ⟨#[]⟩, .bool false, .int .i64 0, .int .i64 0, .int .i64 0, .int .i64 0, .slice none 0 0] 47) ∧ (setAll V A2.heap.size [(0, .string (nmB nx)), (1, .bool false), (2, .int .i64 3), (3, .int .i64 0), (4, .int .i64 0), (5, .int .i64 0), (6, .slice fo 0 0)]).heap[A2.heap.size]? = some (.cells #[.string (nmB nx), .bool false, .int .i64 3, .int .i64 0, .int .i64 0, .int .i64 0, .slice fo 0 0] 47) ∧ Gr W (setAll V A2.heap.size [(0, .string (nmB nx)), (1, .bool false), (2, .int .i64 3), (3, .int .i64 0), (4, .int .i64 0), (5, .int .i64 0), (6, .slice fo 0 0)])) := fun w1 V fo k hV => by
    have g4 : Gr A3 V := k.trans (by rw [← hV]; exact gr_alloc w1 _) (fun _ _ h => h)
    have hr := (g4.block _ (lt_of_heap b3) id).trans b3
    refine ⟨by rw [← hV]; exact heap_alloc_new w1 _, hr, ?_, (gW.trans g4 (fun _ _ h => h)).trans (setAll_kp _ _ _) (fun j hj e => by have e' : j = A2.heap.size := e; omega)⟩
    rw [setAll_blk A2.heap.size 47 _ _ _ hr]
    simp [setsA]
  clear g0 b0 g1 b1 g2 b2 g3 b3 g23 g13 gW s0 s1 s2 h1
  go_enter Tryz.func21, Tryz.ntmps21
  go_wp2_with (first
    | (go_at_call 23; refine (keepsLeft23 _ (.inl rfl) _).mono ?_; rintro e w1 ⟨rfl, rfl⟩)
    | (go_at_call 20; refine (bare20 _ _ _).mono ?_; rintro e w1 ⟨fo, rfl, g4⟩; clear hA0 hA1 hA2 hA3 e0 e1 f0 f1 o0 o1 p0 p1 p2 p3 p4 p5 p6; obtain ⟨V, hV⟩ : ∃ V, w1.alloc (.cells #[.string (nmB nx), .bool false, .int .i64 3, .int .i64 0, .int .i64 0, .int .i64 0, .slice fo 0 0] 47) = V := ⟨_, rfl⟩; obtain ⟨h1, h2, h3, h4⟩ := HX.out w1 V fo g4 hV; obtain ⟨U, hU⟩ : ∃ U, setAll V A2.heap.size [(0, .string (nmB nx)), (1, .bool false), (2, .int .i64 3), (3, .int .i64 0), (4, .int .i64 0), (5, .int .i64 0), (6, .slice fo 0 0)] = U := ⟨_, rfl⟩; rw [hU] at h3 h4; have HU := hidM h3; have HK := hidM h4; simp only [setAll] at hU; obtain ⟨y0, y1, y2, y3, y4, y5, y6⟩ := cell7 h1; have yz := frzA h1; have i0 := set_id (j := 0) (v := .string (nmB nx)) h1 rfl; have i1 := set_id (j := 1) (v := .bool false) h1 rfl; have i2 := set_id (j := 2) (v := .int .i64 3) h1 rfl; have i3 := set_id (j := 3) (v := .int .i64 0) h1 rfl; have i4 := set_id (j := 4) (v := .int .i64 0) h1 rfl; have i5 := set_id (j := 5) (v := .int .i64 0) h1 rfl; have i6 := set_id (j := 6) (v := .slice fo 0 0) h1 rfl; obtain ⟨r0, r1, r2, r3, r4, r5, r6⟩ := cell7 h2; have rz := frzA h2; clear g4 h1 h2 h3 h4))
  (try simp only [Exit.inBlock, Exit.then])
  refine bodyPost_ret (results_cell27 rfl rfl (by with_reducible exact HU.out) (by kernel_rfl)) rfl ?_
  exact ⟨fo, rfl, HK.out⟩
theorem info47f : (Tryz.prog.info? 47).map (fun i => (i.zero, i.size, i.bytes)) = some (some (.agg #[.string ⟨#[]⟩, .bool false, .int .i64 0, .int .i64 0, .int .i64 0, .int .i64 0, .slice none 0 0]), 7, 80) := by kernel_rfl
theorem src47 {Z : World} {z : Nat} {fo : Option Addr} {fc : Nat} (h : Z.heap[z]? = some (.cells #[.string (nmB nx), .bool false, .int .i64 3, .int .i64 0, .int .i64 0, .int .i64 0, .slice fo 0 fc] 47)) : Src Tryz.prog 7 27 (.slice (some ⟨z, 0, none⟩) 1 1) 1 [.string (nmB nx), .bool false, .int .i64 3, .int .i64 0, .int .i64 0, .int .i64 0, .slice fo 0 fc] Z := by
  refine Src.ofSlice (w := Z) Tryz.underlying27 ⟨z, 0, none⟩ 1 1 [.string (nmB nx), .bool false, .int .i64 3, .int .i64 0, .int .i64 0, .int .i64 0, .slice fo 0 fc] rfl (fun j v hj => ?_) (fun v hv => by simp at hv; rcases hv with rfl | rfl | rfl | rfl | rfl <;> rfl)
  rw [Addr.add_lit, Nat.zero_add]
  obtain ⟨c0, c1, c2, c3, c4, c5, c6⟩ := cell7 h
  match j, hj with
  | 0, hj => cases hj; exact c0
  | 1, hj => cases hj; exact c1
  | 2, hj => cases hj; exact c2
  | 3, hj => cases hj; exact c3
  | 4, hj => cases hj; exact c4
  | 5, hj => cases hj; exact c5
  | 6, hj => cases hj; exact c6
  | j + 7, hj => simp at hj
theorem row_cells {W : World} {S : Nat → Prop} {g : Nat} {ao : Option Addr} {ca : Nat} (hS : S g) (h : W.cell? ⟨g, 0, none⟩ = some (.string (nmB nx)) ∧ W.cell? ⟨g, 1, none⟩ = some (.bool false) ∧ W.cell? ⟨g, 2, none⟩ = some (.int .i64 3) ∧ W.cell? ⟨g, 3, none⟩ = some (.int .i64 0) ∧ W.cell? ⟨g, 4, none⟩ = some (.int .i64 0) ∧ W.cell? ⟨g, 5, none⟩ = some (.int .i64 0) ∧ W.cell? ⟨g, 6, none⟩ = some (.slice ao 0 ca)) : RowAt S W 1 (some ⟨g, 0, none⟩) [leafF (nmB nx) false 3] := by
  obtain ⟨c0, c1, c2, c3, c4, c5, c6⟩ := h
  refine ⟨by show (1 : Nat) ≤ big; decide, fun _ => ⟨g, 0, rfl, hS, fun i hi => ?_⟩⟩
  obtain rfl : i = 0 := by simpa using hi
  refine ⟨ao, ca, ?_, Nat.zero_le _, rfl⟩
  constructor <;> simp [c0, c1, c2, c3, c4, c5, c6, leafF, FT.name, FT.nul, FT.kind, FT.width, FT.id, FT.index, FT.kids]
theorem check17c (fb fcc : Nat) (ao : Option Addr) (ca : Nat) (W : World) (hT : Tab W) (hc : 1 ≤ fcc) (hf : W.cell? ⟨fb, 0, none⟩ = some (.string (nmB nx)) ∧ W.cell? ⟨fb, 1, none⟩ = some (.bool false) ∧ W.cell? ⟨fb, 2, none⟩ = some (.int .i64 3) ∧ W.cell? ⟨fb, 3, none⟩ = some (.int .i64 0) ∧ W.cell? ⟨fb, 4, none⟩ = some (.int .i64 0) ∧ W.cell? ⟨fb, 5, none⟩ = some (.int .i64 0) ∧ W.cell? ⟨fb, 6, none⟩ = some (.slice ao 0 ca)) : Calls Tryz.prog 17 #[.agg #[.slice (some ⟨fb, 0, none⟩) 1 fcc, .slice none 0 0]] W fun e w' => ∃ vo vn vc tt, e = .returned (.agg #[.int .i64 0, .slice vo vn vc, .int .i64 tt]) ∧ Gr W w' := by
  refine (check_fault (S := fun b => b = fb) (D := 1) (fo := some ⟨fb, 0, none⟩) (no := none) (cf := fcc) (cn := 0) (fs := [leafF (nmB nx) false 3]) (ns := []) (w := W) hT (row_cells rfl hf) hc (by decide) (fun b e => by have e' : b = fb := e; rw [e']; exact block_lt_of_cell hf.1) ⟨by decide, fun h => absurd rfl h⟩ W (Keeps.refl _ _)).mono ?_
  rintro e w' ⟨er, vo, vn, vc, tt, rfl, g, p, h1, h2, -⟩
  have hF : FaultIs (listsE 1 []) (nodes 1 [leafF (nmB nx) false 3] [] false) 0 [] 0 := .inr (.inl ⟨rfl, allR (nx := nx) false, rfl, rfl, rfl⟩)
  obtain ⟨rfl, -, -⟩ := hF.one h2
  exact ⟨vo, vn, vc, tt, rfl, g⟩
end Go.Proofs.YteggcdhibcjneaaGreatDoor.Kit
