import Derived.Test.YtegjpmodleigeaaGreatDoorWC
set_option maxRecDepth 100000
set_option maxHeartbeats 4000000
namespace Go.Proofs.YtegjpmodleigeaaGreatDoor.Kit
open Go.RowKit Go.Shelf Go.Deep
open Go.Proofs.YtegjpmodleigeaaGreatDoor.Kd (Ans AnsV cell5 cell2)
set_option linter.unusedVariables false
set_option linter.unusedSimpArgs false
attribute [local go_sem] run_store_func
/-- a batch in the making: of one column, with rows of numbers -/
structure Pil (B : Nat) (W : World) (pl pc p n m t : Nat) (nu : Bool) (fo : Option Addr) (fc : Nat) (xs : List Int) : Prop where
  hl : W.heap[pl]? = some (.cells #[.int .i64 (xs.length : Nat), .slice (some ⟨pc, 0, none⟩) 1 1] 78)
  hc : W.heap[pc]? = some (.cells #[.pointer (some ⟨p, 0, none⟩)] 82)
  hp : W.heap[p]? = some (.cells (bdC nu fo fc n t (xs.length : Nat)) 121)
  nd : ∃ vo vc lo lc, Nd B W n m t (xs.length : Nat) (xs.length : Nat) (.slice none 0 0) nu ((16 * xs.length : Nat) : Int) vo xs.length vc ((xs.map fun _ => true).map Value.bool) lo lc (xs.map iv)
  low : B ≤ pl ∧ B ≤ pc ∧ B ≤ p
theorem Pil.gr {B : Nat} {W u : World} {pl pc p n m t : Nat} {nu : Bool} {fo : Option Addr} {fc : Nat} {xs : List Int} (h : Pil B W pl pc p n m t nu fo fc xs) (g : Gr W u) : Pil B u pl pc p n m t nu fo fc xs := by
  obtain ⟨vo, vc, lo, lc, hn⟩ := h.nd
  exact ⟨(g.block _ (lt_of_heap h.hl) id).trans h.hl, (g.block _ (lt_of_heap h.hc) id).trans h.hc, (g.block _ (lt_of_heap h.hp) id).trans h.hp, ⟨vo, vc, lo, lc, hn.gr g⟩, h.low⟩
theorem mk76 (w : World) : (Instr.makeSlice 76 (.int .i64 1) (.int .i64 1)).run Tryz.prog w = .ok (.slice (some ⟨w.heap.size, 0, none⟩) 1 1) (w.alloc (.cells #[.pointer none] 82)) := by kernel_rfl
theorem hpC (p : Nat) (nu : Bool) (fo : Option Addr) (fc n t : Nat) (rows : Int) : bdC nu fo fc n t rows = #[.string nmA, .bool nu, .int .i64 3, .int .i64 0, .int .i64 0, .int .i64 0, .slice fo 0 fc, .pointer (some ⟨n, 0, none⟩), .pointer (some ⟨t, 0, none⟩), .int .i64 rows] := rfl
theorem newPile18 (fb fcc : Nat) (nu : Bool) (ao : Option Addr) (ca : Nat) (W : World) (hT : Tab W) (hf : W.heap[fb]? = some (.cells #[.string nmA, .bool nu, .int .i64 3, .int .i64 0, .int .i64 0, .int .i64 0, .slice ao 0 ca] 27)) : Calls Tryz.prog 18 #[.slice (some ⟨fb, 0, none⟩) 1 fcc] W fun e w' => ∃ pl pc p n m t fo fc, e = .returned (.pointer (some ⟨pl, 0, none⟩)) ∧ Gr W w' ∧ Pil W.heap.size w' pl pc p n m t nu fo fc [] := by
  obtain ⟨A1, hA1⟩ : ∃ A1, W.alloc (.cells #[.pointer none] 82) = A1 := ⟨_, rfl⟩
  have g1 : Gr W A1 := by rw [← hA1]; exact gr_alloc W _
  have s1 : A1.heap.size = W.heap.size + 1 := by rw [← hA1]; simp
  have b1 : A1.heap[W.heap.size]? = some (.cells #[.pointer none] 82) := by rw [← hA1]; exact heap_alloc_new W _
  obtain ⟨A2, hA2⟩ : ∃ A2, A1.alloc (.cells #[.int .i64 0, .slice (some ⟨W.heap.size, 0, none⟩) 1 1] 78) = A2 := ⟨_, rfl⟩
  have g2 : Gr A1 A2 := by rw [← hA2]; exact gr_alloc A1 _
  have s2 : A2.heap.size = W.heap.size + 1 + 1 := by rw [← hA2]; simp [s1]
  have b2 : A2.heap[W.heap.size + 1]? = some (.cells #[.int .i64 0, .slice (some ⟨W.heap.size, 0, none⟩) 1 1] 78) := by rw [← hA2, ← s1]; exact heap_alloc_new A1 _
  obtain ⟨A3, hA3⟩ : ∃ A3, A2.alloc (.cells #[.string nmA, .bool nu, .int .i64 3, .int .i64 0, .int .i64 0, .int .i64 0, .slice ao 0 ca] 27) = A3 := ⟨_, rfl⟩
  have g3 : Gr A2 A3 := by rw [← hA3]; exact gr_alloc A2 _
  have b3 : A3.heap[W.heap.size + 1 + 1]? = some (.cells #[.string nmA, .bool nu, .int .i64 3, .int .i64 0, .int .i64 0, .int .i64 0, .slice ao 0 ca] 27) := by rw [← hA3, ← s2]; exact heap_alloc_new A2 _
  have gW2 : Gr W A2 := g1.trans g2 (fun _ _ h => h)
  have gW3 : Gr W A3 := gW2.trans g3 (fun _ _ h => h)
  have c1 := ((g2.trans g3 (fun _ _ h => h)).block _ (lt_of_heap b1) id).trans b1
  have c2 := (g3.block _ (lt_of_heap b2) id).trans b2
  have HS : Hid (∀ u, Gr A3 u → u.cell? ⟨W.heap.size + 1, 1, none⟩ = some (.slice (some ⟨W.heap.size, 0, none⟩) 1 1) ∧ u.cell? ⟨W.heap.size + 1 + 1, 0, none⟩ = some (.string nmA) ∧ u.cell? ⟨W.heap.size + 1 + 1, 1, none⟩ = some (.bool nu) ∧ u.cell? ⟨W.heap.size + 1 + 1, 2, none⟩ = some (.int .i64 3) ∧ u.cell? ⟨W.heap.size + 1 + 1, 3, none⟩ = some (.int .i64 0) ∧ u.cell? ⟨W.heap.size + 1 + 1, 4, none⟩ = some (.int .i64 0) ∧ u.cell? ⟨W.heap.size + 1 + 1, 5, none⟩ = some (.int .i64 0) ∧ u.cell? ⟨W.heap.size + 1 + 1, 6, none⟩ = some (.slice ao 0 ca)) := fun u g => ⟨(cell2 ((g.block _ (lt_of_heap c2) id).trans c2)).2, cell7 ((g.block _ (lt_of_heap b3) id).trans b3)⟩
  have HS0 := hidM (HS.out A3.drew gr_drew)
  have HN := hidM (new7 nu ao ca A3.drew ((hT.gr gW3).gr gr_drew))
  have HP : Hid (∀ w1 p n m t fo fc, Gr A3.drew w1 → (A3.drew.heap.size ≤ p ∧ A3.drew.heap.size ≤ n ∧ A3.drew.heap.size ≤ m ∧ A3.drew.heap.size ≤ t) → Bd w1 p n m t nu fo fc 0 0 (.slice none 0 0) (.slice none 0 0) → w1.heap[W.heap.size]? = some (.cells #[.pointer none] 82) ∧ (w1.cell? ⟨W.heap.size + 1, 1, none⟩ = some (.slice (some ⟨W.heap.size, 0, none⟩) 1 1) ∧ w1.cell? ⟨W.heap.size + 1 + 1, 0, none⟩ = some (.string nmA) ∧ w1.cell? ⟨W.heap.size + 1 + 1, 1, none⟩ = some (.bool nu) ∧ w1.cell? ⟨W.heap.size + 1 + 1, 2, none⟩ = some (.int .i64 3) ∧ w1.cell? ⟨W.heap.size + 1 + 1, 3, none⟩ = some (.int .i64 0) ∧ w1.cell? ⟨W.heap.size + 1 + 1, 4, none⟩ = some (.int .i64 0) ∧ w1.cell? ⟨W.heap.size + 1 + 1, 5, none⟩ = some (.int .i64 0) ∧ w1.cell? ⟨W.heap.size + 1 + 1, 6, none⟩ = some (.slice ao 0 ca)) ∧ ((w1.setCell ⟨W.heap.size, 0, none⟩ (.pointer (some ⟨p, 0, none⟩))).cell? ⟨W.heap.size + 1, 1, none⟩ = some (.slice (some ⟨W.heap.size, 0, none⟩) 1 1) ∧ (w1.setCell ⟨W.heap.size, 0, none⟩ (.pointer (some ⟨p, 0, none⟩))).cell? ⟨W.heap.size + 1 + 1, 0, none⟩ = some (.string nmA) ∧ (w1.setCell ⟨W.heap.size, 0, none⟩ (.pointer (some ⟨p, 0, none⟩))).cell? ⟨W.heap.size + 1 + 1, 1, none⟩ = some (.bool nu) ∧ (w1.setCell ⟨W.heap.size, 0, none⟩ (.pointer (some ⟨p, 0, none⟩))).cell? ⟨W.heap.size + 1 + 1, 2, none⟩ = some (.int .i64 3) ∧ (w1.setCell ⟨W.heap.size, 0, none⟩ (.pointer (some ⟨p, 0, none⟩))).cell? ⟨W.heap.size + 1 + 1, 3, none⟩ = some (.int .i64 0) ∧ (w1.setCell ⟨W.heap.size, 0, none⟩ (.pointer (some ⟨p, 0, none⟩))).cell? ⟨W.heap.size + 1 + 1, 4, none⟩ = some (.int .i64 0) ∧ (w1.setCell ⟨W.heap.size, 0, none⟩ (.pointer (some ⟨p, 0, none⟩))).cell? ⟨W.heap.size + 1 + 1, 5, none⟩ = some (.int .i64 0) ∧ (w1.setCell ⟨W.heap.size, 0, none⟩ (.pointer (some ⟨p, 0, none⟩))).cell? ⟨W.heap.size + 1 + 1, 6, none⟩ = some (.slice ao 0 ca)) ∧ Gr W (w1.setCell ⟨W.heap.size, 0, none⟩ (.pointer (some ⟨p, 0, none⟩))) ∧ Pil W.heap.size (w1.setCell ⟨W.heap.size, 0, none⟩ (.pointer (some ⟨p, 0, none⟩))) (W.heap.size + 1) W.heap.size p n m t nu fo fc []) := fun w1 p n m t fo fc g hlow hb => by
    have gA : Gr A3 w1 := Keeps.trans gr_drew g (fun _ _ h => h)
    have d1 := (gA.block _ (lt_of_heap c1) id).trans c1
    have d2 := (gA.block _ (lt_of_heap c2) id).trans c2
    have d3 := (gA.block _ (lt_of_heap b3) id).trans b3
    have hsz : W.heap.size + 1 + 1 < A3.heap.size := lt_of_heap b3
    have hl2 : A3.heap.size ≤ p ∧ A3.heap.size ≤ n ∧ A3.heap.size ≤ m ∧ A3.heap.size ≤ t := hlow
    have ks : Keeps w1 (w1.setCell ⟨W.heap.size, 0, none⟩ (.pointer (some ⟨p, 0, none⟩))) (fun z => z = W.heap.size) := Keeps.setCell (S := fun z => z = W.heap.size) (p := ⟨W.heap.size, 0, none⟩) (Keeps.refl w1 _) (fun _ => rfl) _
    have ne : ∀ b, W.heap.size < b → ¬ (b = W.heap.size) := fun b h e => by omega
    have e2 := (ks.block _ (lt_of_heap d2) (ne _ (by omega))).trans d2
    have e3 := (ks.block _ (lt_of_heap d3) (ne _ (by omega))).trans d3
    refine ⟨d1, HS.out w1 gA, ⟨(cell2 e2).2, cell7 e3⟩, (gW3.trans gA (fun _ _ h => h)).trans ks (fun j hj e => by have e' : j = W.heap.size := e; omega), ⟨e2, ?_, (ks.block _ (lt_of_heap hb.hp) (ne _ (by omega))).trans hb.hp, ⟨none, 0, none, 0, (ks.block _ (lt_of_heap hb.hn) (ne _ (by omega))).trans hb.hn, (ks.block _ (lt_of_heap hb.hm) (ne _ (by omega))).trans hb.hm, (ks.block _ (lt_of_heap hb.ht) (ne _ (by omega))).trans hb.ht, ⟨rfl, .inl ⟨rfl, rfl⟩⟩, ⟨rfl, .inl ⟨rfl, rfl⟩⟩, ⟨by omega, by omega, by omega⟩, fun g e => by simp [Value.ownBlock] at e, fun g e => by simp [Value.ownBlock] at e⟩, ⟨by omega, by omega, by omega⟩⟩⟩
    rw [heap_setCell_same w1 W.heap.size 0 _ _ _ d1]; rfl
  obtain ⟨f0, f1, f2, f3, f4, f5, f6⟩ := cell7 ((gW2.block _ (lt_of_heap hf) id).trans hf)
  have hmk := mk76
  have HZ2 := hidM s2
  have hs1 := s1
  clear hT hf g1 b1 g2 s2 b2 g3 b3 gW2 gW3 c1 c2 s1
  go_enter Tryz.func18, Tryz.ntmps18
  go_wp2_with fail
  clear hmk hA1 hA2
  go_loopw [13] (fun i wr => (i = .int .i64 0 ∧ A2 = wr) ∨ (i = .int .i64 1 ∧ Hid (Gr W wr ∧ ∃ pc p n m t fo fc, Pil W.heap.size wr (W.heap.size + 1) pc p n m t nu fo fc []))) (fun i _ => 1 - (intOf i).toNat)
  case atStart => exact .inl ⟨rfl, rfl⟩
  case round =>
    rcases hrel with ⟨rfl, rfl⟩ | ⟨rfl, HI⟩
    · have hz := HZ2.out
      go_wp2_with fail
      go_region_held3 (fun w' => w'.cell? ⟨W.heap.size + 1, 1, none⟩ = some (.slice (some ⟨W.heap.size, 0, none⟩) 1 1) ∧ w'.cell? ⟨W.heap.size + 1 + 1, 0, none⟩ = some (.string nmA) ∧ w'.cell? ⟨W.heap.size + 1 + 1, 1, none⟩ = some (.bool nu) ∧ w'.cell? ⟨W.heap.size + 1 + 1, 2, none⟩ = some (.int .i64 3) ∧ w'.cell? ⟨W.heap.size + 1 + 1, 3, none⟩ = some (.int .i64 0) ∧ w'.cell? ⟨W.heap.size + 1 + 1, 4, none⟩ = some (.int .i64 0) ∧ w'.cell? ⟨W.heap.size + 1 + 1, 5, none⟩ = some (.int .i64 0) ∧ w'.cell? ⟨W.heap.size + 1 + 1, 6, none⟩ = some (.slice ao 0 ca)) (first | with_reducible exact HS0.out | with_reducible exact HS1.out | with_reducible exact HS2.out) ((go_at_call 26; refine HN.out.mono ?_; rintro e w1 ⟨p, n, m, t, fo, fc, rfl, g1, hlow, hb⟩; obtain ⟨d1, hs, hs2, gU, hP⟩ := HP.out w1 p n m t fo fc g1 hlow hb; have HS1 := hidM hs; have p0 : w1.cell? ⟨W.heap.size, 0, none⟩ = some (.pointer none) := (by simp [World.cell?, d1]); have zz := frz d1 0; obtain ⟨U, hU⟩ : ∃ U, w1.setCell ⟨W.heap.size, 0, none⟩ (.pointer (some ⟨p, 0, none⟩)) = U := ⟨_, rfl⟩; rw [hU] at hs2 gU hP; have HS2 := hidM hs2; have HX : Hid (Gr W U ∧ ∃ pc p n m t fo fc, Pil W.heap.size U (W.heap.size + 1) pc p n m t nu fo fc []) := ⟨gU, _, p, n, m, t, fo, fc, hP⟩; clear g1 hlow hb d1 hs hs2 gU hP))
      go_wp2_with fail
      go_roundw
      case rel => exact .inr ⟨by go_num, HX⟩
      case measure => simp [intOf]
    · go_wp2_with fail
      go_ret
      obtain ⟨g, pc, p, n, m, t, fo, fc, h⟩ := HI.out
      exact ⟨_, pc, p, n, m, t, fo, fc, by first | rfl | rw [hs1], g, h⟩
def IsP (B : Nat) (w : World) (k : Nat) : Prop := B ≤ k ∧ ∃ cs ty fz, w.heap[k]? = some (.cells cs ty fz) ∧ (ty = 78 ∨ ty = 121 ∨ ty = 151 ∨ ty = 262 ∨ ty = 4 ∨ ty = 2 ∨ ty = 117)
def FrP (B : Nat) (w W : World) : Prop := Keeps w W (IsP B w)
theorem Gr.frP {B : Nat} {w W : World} (g : Gr w W) : FrP B w W := g.mono (fun _ _ h => h.elim)
theorem FrD.frP {B : Nat} {w W : World} (g : FrD B w W) : FrP B w W := g.mono (fun k _ h => by
  obtain ⟨h1, cs, ty, fz, h2, h3⟩ := h
  exact ⟨h1, cs, ty, fz, h2, .inr h3⟩)
theorem FrP.trans {B : Nat} {u v w : World} (h : FrP B u v) (g : FrP B v w) : FrP B u w := by
  refine Keeps.trans h g (fun k hk ⟨hl, cs, ty, fz, e, ht⟩ => ?_)
  by_cases hi : IsP B u k
  · exact hi
  · exact ⟨hl, cs, ty, fz, (h.block k hk hi) ▸ e, ht⟩
theorem FrP.oth {B : Nat} {w W : World} (h : FrP B w W) {b ty : Nat} {c : Array Value} (hb : w.heap[b]? = some (.cells c ty)) (hn : ¬ (ty = 78 ∨ ty = 121 ∨ ty = 151 ∨ ty = 262 ∨ ty = 4 ∨ ty = 2 ∨ ty = 117)) : W.heap[b]? = some (.cells c ty) := by
  refine (h.block b (lt_of_heap hb) (fun q => ?_)).trans hb
  obtain ⟨-, cs, ty', fz, e, ht⟩ := q
  rw [hb] at e
  cases e
  exact hn ht
theorem FrP.low {B : Nat} {w W : World} (h : FrP B w W) {a : World} (g : Gr a w) (hB : a.heap.size ≤ B) : Gr a W := g.trans h (fun k hk q => by have := q.1; omega)
theorem pil_next {B : Nat} {W w2 : World} {pl pc p n m t : Nat} {nu : Bool} {fo : Option Addr} {fc : Nat} {xs : List Int} {x : Int} (h : Pil B W pl pc p n m t nu fo fc xs) (q : AddQ B W p n m t (xs.length : Nat) nu fo fc (xs.length : Nat) ((16 * xs.length : Nat) : Int) xs.length ((xs.map fun _ => true).map Value.bool) (xs.map iv) x w2) : w2.heap[pl]? = some (.cells #[.int .i64 (xs.length : Nat), .slice (some ⟨pc, 0, none⟩) 1 1] 78) ∧ FrP B W (w2.setCell ⟨pl, 0, none⟩ (.int .i64 (((xs.length : Nat) : Int) + 1))) ∧ Pil B (w2.setCell ⟨pl, 0, none⟩ (.int .i64 (((xs.length : Nat) : Int) + 1))) pl pc p n m t nu fo fc (xs ++ [x]) := by
  obtain ⟨f, hp, vo, vc, lo, lc, hn⟩ := q
  have l2 := f.oth h.hl (by decide) (by decide) (by decide) (by decide) (by decide) (by decide)
  have c2 := f.oth h.hc (by decide) (by decide) (by decide) (by decide) (by decide) (by decide)
  have ks : Keeps w2 (w2.setCell ⟨pl, 0, none⟩ (.int .i64 (((xs.length : Nat) : Int) + 1))) (fun z => z = pl) := Keeps.setCell (S := fun z => z = pl) (p := ⟨pl, 0, none⟩) (Keeps.refl w2 _) (fun _ => rfl) _
  have hot : ∀ {b ty : Nat} {c : Array Value}, w2.heap[b]? = some (.cells c ty) → ty ≠ 78 → (w2.setCell ⟨pl, 0, none⟩ (.int .i64 (((xs.length : Nat) : Int) + 1))).heap[b]? = some (.cells c ty) := fun hb ht => (ks.block _ (lt_of_heap hb) (fun e => by have e' : _ = pl := e; subst e'; rw [l2] at hb; simp at hb; exact ht hb.2.symm)).trans hb
  have hrow : ∀ {e N : Nat} {v : Value} {ys : List Value}, w2.ownsRow 0 e 1 v N ys → e ≠ 78 → (w2.setCell ⟨pl, 0, none⟩ (.int .i64 (((xs.length : Nat) : Int) + 1))).ownsRow 0 e 1 v N ys := fun hr he => row_kp hr fun q e2 => ks.block q (own_lt hr q e2) (fun e3 => by have e' : _ = pl := e3; subst e'; exact own_ne l2 hr (Ne.symm he) e2)
  have e1 : (((xs ++ [x]).length : Nat) : Int) = ((xs.length : Nat) : Int) + 1 := by simp
  have e2 : ((16 * (xs ++ [x]).length : Nat) : Int) = ((16 * xs.length : Nat) : Int) + 16 := by simp; omega
  have e3 : (((xs ++ [x]).map fun _ => true).map Value.bool) = ((xs.map fun _ => true).map Value.bool) ++ [.bool true] := by simp
  have e4 : (xs ++ [x]).map iv = xs.map iv ++ [.int .i64 x] := by simp [iv]
  have e5 : (xs ++ [x]).length = xs.length + 1 := by simp
  refine ⟨l2, (FrD.frP f).trans (ks.mono fun k hk e => by have e' : k = pl := e; subst e'; exact ⟨h.low.1, _, 78, _, l2, .inl rfl⟩), ⟨?_, hot c2 (by decide), ?_, ⟨vo, vc, lo, lc, ?_⟩, h.low⟩⟩
  · rw [e1, heap_setCell_same w2 pl 0 _ _ _ l2]; rfl
  · rw [e1]; exact hot hp (by decide)
  · rw [e1, e2, e3, e4, e5]
    exact ⟨hot hn.hn (by decide), hot hn.hm (by decide), hot hn.ht (by decide), hrow hn.rv (by decide), hrow hn.rl (by decide), hn.low, hn.bv, hn.bl⟩
theorem add19 (B pl pc p n m t : Nat) (nu : Bool) (fo : Option Addr) (fc : Nat) (xs : List Int) (cb cc a i : Nat) (x : Int) (W : World) (hT : Tab W) (h : Pil B W pl pc p n m t nu fo fc xs) (hB : B ≤ W.heap.size) (hg : GetA W a i x) (hc : W.cell? ⟨cb, 0, none⟩ = some (.pointer (some ⟨a, 0, none⟩))) (hL : xs.length ≤ 1000) (hfit : fitN nu 3 false x = true) :
    Calls Tryz.prog 19 #[.pointer (some ⟨pl, 0, none⟩), .agg #[.slice (some ⟨cb, 0, none⟩) 1 cc, .int .i64 i]] W fun e w' => e = .returned (.int .i64 0) ∧ FrP B W w' ∧ Pil B w' pl pc p n m t nu fo fc (xs ++ [x]) := by
  obtain ⟨A, hA⟩ : ∃ A, W.alloc (.cells #[.slice (some ⟨cb, 0, none⟩) 1 cc, .int .i64 i] 69) = A := ⟨_, rfl⟩
  have gA : Gr W A := by rw [← hA]; exact gr_alloc W _
  have bA : A.heap[W.heap.size]? = some (.cells #[.slice (some ⟨cb, 0, none⟩) 1 cc, .int .i64 i] 69) := by rw [← hA]; exact heap_alloc_new W _
  have hP := h.gr gA
  obtain ⟨l0, l1⟩ := cell2 hP.hl
  have pc0 := cell1 hP.hc
  obtain ⟨r0, r1⟩ := cell2 bA
  have hne : ((xs.length : Nat) : Int) ≠ 4096 := by omega
  have hne' : (((xs.length : Nat) : Int) == 4096) = false := by simp; omega
  have HV := hidM (value28 cb cc a i x A (hg.gr gA) (gA.cell' hc id))
  have HAd : Hid (∀ w1, Gr A w1 → Calls Tryz.prog 27 #[.pointer (some ⟨p, 0, none⟩), .agg #[.bool false, .int .i64 x, .string ⟨#[]⟩, .slice none 0 0]] w1 fun e w2 => e = .returned (.int .i64 0) ∧ w2.heap[pl]? = some (.cells #[.int .i64 (xs.length : Nat), .slice (some ⟨pc, 0, none⟩) 1 1] 78) ∧ FrP B W (w2.setCell ⟨pl, 0, none⟩ (.int .i64 (((xs.length : Nat) : Int) + 1))) ∧ Pil B (w2.setCell ⟨pl, 0, none⟩ (.int .i64 (((xs.length : Nat) : Int) + 1))) pl pc p n m t nu fo fc (xs ++ [x])) := fun w1 g1 => by
    have gW := gA.trans g1 (fun _ _ h => h)
    have hP1 := h.gr gW
    obtain ⟨vo, vc, lo, lc, hn⟩ := hP1.nd
    refine (add27 B p n m t (xs.length : Nat) nu fo fc (xs.length : Nat) ((16 * xs.length : Nat) : Int) vo xs.length vc _ lo lc _ x w1 (hT.gr gW) hP1.hp hn (Nat.le_trans hB gW.size) h.low.2.2 (by omega) ⟨by omega, by omega⟩ ⟨by omega, by omega⟩ ⟨by omega, by omega⟩ hfit).mono ?_
    rintro e w2 ⟨rfl, hq⟩
    obtain ⟨a1, a2, a3⟩ := pil_next hP1 hq
    exact ⟨rfl, a1, (Gr.frP gW).trans a2, a3⟩
  have hwr : IntKind.i64.wrap (((xs.length : Nat) : Int) + 1) = ((xs.length : Nat) : Int) + 1 := by rw [IntKind.wrap_i64]; omega
  clear hT h hB hg hc hL hfit gA bA hP
  go_enter Tryz.func19, Tryz.ntmps19
  go_wp2_with fail
  clear hA
  go_loopw [18] (fun j wr => (j = .int .i64 0 ∧ A = wr) ∨ (j = .int .i64 1 ∧ Hid (wr.heap[pl]? = some (.cells #[.int .i64 (xs.length : Nat), .slice (some ⟨pc, 0, none⟩) 1 1] 78) ∧ FrP B W (wr.setCell ⟨pl, 0, none⟩ (.int .i64 (((xs.length : Nat) : Int) + 1))) ∧ Pil B (wr.setCell ⟨pl, 0, none⟩ (.int .i64 (((xs.length : Nat) : Int) + 1))) pl pc p n m t nu fo fc (xs ++ [x])))) (fun j _ => 1 - (intOf j).toNat)
  case atStart => exact .inl ⟨rfl, rfl⟩
  case round =>
    rcases hrel with ⟨rfl, rfl⟩ | ⟨rfl, HI⟩
    · go_wp2_with (first
        | (go_at_call 28; refine HV.out.mono ?_; rintro e w1 ⟨rfl, g1⟩; have HA1 := hidM (HAd.out w1 g1); clear g1)
        | (go_at_call 27; refine HA1.out.mono ?_; rintro e w2 ⟨rfl, hq⟩; have HQ := hidM hq; clear hq))
      go_roundw
      case rel => exact .inr ⟨by go_num, HQ⟩
      case measure => simp [intOf]
    · clear l0 l1 pc0 r0 r1
      obtain ⟨l0, l1⟩ := cell2 HI.out.1
      have z0 := frz HI.out.1 0
      obtain ⟨U, hU⟩ : ∃ U, wr.setCell ⟨pl, 0, none⟩ (.int .i64 (((xs.length : Nat) : Int) + 1)) = U := ⟨_, rfl⟩
      rw [hU] at HI
      go_wp2_with fail
      go_ret
      exact ⟨rfl, HI.out.2⟩
end Go.Proofs.YtegjpmodleigeaaGreatDoor.Kit
