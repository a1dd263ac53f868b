import Derived.Test.YtegjpmodleigeaaGreatDoorWL
set_option maxRecDepth 100000
set_option maxHeartbeats 4000000
namespace Go.Proofs.YtegjpmodleigeaaGreatDoor.Kit
open Go.RowKit Go.Shelf Go.Deep
open Go.Proofs.YtegjpmodleigeaaGreatDoor.Kd (Ans AnsV cell5 cell2)
set_option linter.unusedVariables false
set_option linter.unusedSimpArgs false
attribute [local go_sem] run_store_func
attribute [local go_sem] Oper.semAt_some
theorem LdI.next {w0 V w' : World} {pl pc p n m t : Nat} {fo : Option Addr} {fc q6 s : Nat} {vs : Nat → Int} {O S : Nat → Prop} {pre : List Nat} {x : Nat} (h : LdI w0 pl pc p n m t fo fc q6 s vs O pre V) (hf : FrP w0.heap.size V w') (hp : Pil w0.heap.size w' pl pc p n m t false fo fc (pre.map vs ++ [vs x])) (hOt : ∀ b cs ty fz, O b → V.heap[b]? = some (.cells cs ty fz) → ty = 59 ∨ ty = 72 ∨ ty = 69) (hd : V.heap[s]? = some (.deferred (some []))) (hl : ∃ lp, V.heap[s + 1]? = some (.loop lp)) (hS : ∀ b, S b → b < w0.heap.size) (hO : ∀ b, O b → b < V.heap.size) (hs : s + 2 ≤ V.heap.size) : Left S O s V w' ∧ LdI w0 pl pc p n m t fo fc q6 s vs O (pre ++ [x]) w' := by
  obtain ⟨lp, hl⟩ := hl
  have l0 := h.1.size
  have kO : ∀ b, O b → w'.heap[b]? = V.heap[b]? := fun b hb => hf.block b (hO b hb) (fun q => by
    obtain ⟨_, cs, ty, fz, e, ht⟩ := q
    rcases hOt b cs ty fz hb e with rfl | rfl | rfl <;> simp at ht)
  have ks : w'.heap[s]? = V.heap[s]? := hf.block s (by omega) (fun q => by
    obtain ⟨_, cs, ty, fz, e, ht⟩ := q
    rw [hd] at e
    cases e)
  have ks1 : w'.heap[s + 1]? = V.heap[s + 1]? := hf.block (s + 1) (by omega) (fun q => by
    obtain ⟨_, cs, ty, fz, e, ht⟩ := q
    rw [hl] at e
    cases e)
  refine ⟨⟨fun b hb => ?_, hf.size⟩, ?_⟩
  · rcases hb with hb | hb | rfl | rfl
    · exact hf.block b (by have := hS b hb; omega) (fun q => by have := hS b hb; have := q.1; omega)
    · exact kO b hb
    · exact ks
    · exact ks1
  · obtain ⟨-, h6⟩ := h.pil
    obtain ⟨g, W0, -, -, -, l6, -⟩ := h
    refine ⟨hf.low g (Nat.le_refl _), w', Nat.le_refl _, by rw [List.map_append]; exact hp, hf.oth h6 (by decide), l6, fun b hb => ⟨rfl, fun ho => ?_, fun e => ?_, fun e => ?_⟩⟩
    · obtain ⟨_, cs, ty, fz, e, ht⟩ := hb
      rw [kO b ho] at e
      rcases hOt b cs ty fz ho e with rfl | rfl | rfl <;> simp at ht
    · subst e
      obtain ⟨_, cs, ty, fz, e, ht⟩ := hb
      rw [ks, hd] at e
      cases e
    · subst e
      obtain ⟨_, cs, ty, fz, e, ht⟩ := hb
      rw [ks1, hl] at e
      cases e
theorem results_cell43_33 {fn : Func} {t u : Tmp} {tmps : Array Value} {g g2 : Nat} {v0 v1 : Value} {k : Int} {w : World} (h : fn.results = #[.cell t 43, .cell u 33]) (ht : tmps.getD t undef = .pointer (some ⟨g, 0, none⟩)) (hu : tmps.getD u undef = .pointer (some ⟨g2, 0, none⟩)) (hg : w.heap[g]? = some (.cells #[v0, v1] 43)) (hg2 : w.heap[g2]? = some (.cells #[.int .i64 k] 33)) :
    (results fn tmps).run Tryz.prog w = .ok (.tuple #[.agg #[v0, v1], .int .i64 k]) w := by
  obtain ⟨c0, c1⟩ := cell2 hg
  have hc := cell1 hg2
  unfold results
  rw [h]
  simp only [Array.mapM_eq_mapM_toList, List.mapM_cons, List.mapM_nil, ht, hu]
  simp [asAddr, go_sem, hc, c0, c1]
theorem DatX.kp {w w' : World} {lb lb' : Nat} {bo : Option Addr} {xs : List Int} {T : Nat → Prop} (h : DatX w lb bo xs) (k : Keeps w w' T) (hT : ∀ b, T b → b < lb) (hl : lb' ≤ lb) : DatX w' lb' bo xs := by
  obtain ⟨qb, v2, h0, h1, h2, h3, h4, h5⟩ := h
  exact ⟨qb, v2, h0, by omega, by omega, k.cell' h3 (fun e => by have := hT _ e; simp only at this; omega), k.cell' h4 (fun e => by have := hT _ e; simp only at this; omega), fun j y hy => k.cell' (h5 j y hy) (fun e => by have := hT _ e; simp only at this; omega)⟩
theorem laid9 (cbs ccs is ars : Nat → Nat) (vs : Nat → Int) (gf : Nat) (lb : Array Value) (S : Nat → Prop) (fb fcc : Nat) (ao : Option Addr) (ca : Nat) (W : World) (eg : ∀ args w, (callFunc gf args).run Tryz.prog w = .ok (.enter gf args) w) (hT : Tab W) (hf : W.heap[fb]? = some (.cells #[.string nmA, .bool false, .int .i64 3, .int .i64 0, .int .i64 0, .int .i64 0, .slice ao 0 ca] 27)) (hg : ∀ x, x < 2 → GetA W (ars x) (is x) (vs x)) (hc : ∀ x, x < 2 → W.cell? ⟨cbs x, 0, none⟩ = some (.pointer (some ⟨ars x, 0, none⟩))) (hv : ∀ x, x < 2 → fitN false 3 false (vs x) = true) (hS : ∀ b, S b → b < W.heap.size)
    (hseq : ∀ u, Gr W u → SeqNew 9 Tryz.prog gf lb (fun x => #[.agg #[.slice (some ⟨cbs x, 0, none⟩) 1 (ccs x), .int .i64 (is x)]]) (AtT 2) S (fun xs => xs = List.range 2) (fun _ => True) u) :
    Calls Tryz.prog 9 #[.slice (some ⟨fb, 0, none⟩) 1 fcc, .func (.func gf) #[] lb] W fun e w' => ∃ db bo bc, e = .returned (.tuple #[.agg #[.int .i64 2, .slice (some ⟨db, 0, none⟩) 1 1], .int .i64 0]) ∧ Gr W w' ∧ w'.heap[db]? = some (.cells (dC 2 0 (.slice bo 2 bc)) 32) ∧ DatX w' W.heap.size bo [vs 0, vs 1] := by
  obtain ⟨z, hz⟩ : ∃ z, W.heap.size = z := ⟨_, rfl⟩
  obtain ⟨A1, hA1⟩ : ∃ A1, W.alloc (.cells #[.int .i64 0, .slice none 0 0] 43) = A1 := ⟨_, rfl⟩
  have g1 : Gr W A1 := by rw [← hA1]; exact gr_alloc W _
  have s1 : A1.heap.size = z + 1 := by rw [← hA1, ← hz]; simp
  have b1 : A1.heap[z]? = some (.cells #[.int .i64 0, .slice none 0 0] 43) := by rw [← hA1, ← hz]; exact heap_alloc_new W _
  obtain ⟨w0, hw0⟩ : ∃ w0, A1.alloc (.cells #[.int .i64 0] 33) = w0 := ⟨_, rfl⟩
  have g2 : Gr A1 w0 := by rw [← hw0]; exact gr_alloc A1 _
  have s2 : w0.heap.size = z + 2 := by rw [← hw0]; simp [s1]
  have b2 : w0.heap[z + 1]? = some (.cells #[.int .i64 0] 33) := by rw [← hw0, ← s1]; exact heap_alloc_new A1 _
  have gW : Gr W w0 := g1.trans g2 (fun _ _ h => h)
  have bz := (g2.block _ (lt_of_heap b1) id).trans b1
  have HP := hidM (newPile18 fb fcc false ao ca w0 (hT.gr gW) ((gW.block _ (lt_of_heap hf) id).trans hf))
  have HB1 := hidM (And.intro bz b2)
  have HGW := hidM gW
  have HG := hidM hg
  have HC := hidM hc
  have HSq := hidM hseq
  have HT := hidM (hT.gr gW)
  have HZ := hidM (And.intro hz s2)
  have HS : Hid (∀ b, S b → b < w0.heap.size) := fun b h => by have := hS b h; omega
  clear hT hf hg hc hseq g1 b1 g2 b2 gW bz hS hz s2
  refine (callsIn_wide (n := 10)).1 ?_
  refine callsIn_of_wp_marks Tryz.func9 rfl trivial ?_ rfl
  simp only [Tryz.ntmps9, List.size_toArray, List.length_cons, List.length_nil, Nat.reduceAdd, Nat.reduceSub, Array.replicate_succ, Array.replicate_zero, List.push_toArray, List.append_toArray, List.nil_append, List.cons_append]
  refine wpIn_wide.2 ?_
  go_wp2_with (go_at_call 18; refine HP.out.mono ?_; rintro e w1 ⟨pl, pc, p, n, m, t, fo, fc, rfl, gP, hPil⟩)
  obtain ⟨w2, hw2⟩ : ∃ w2, w1.alloc (.cells #[.pointer (some ⟨pl, 0, none⟩)] 66) = w2 := ⟨_, rfl⟩
  rw [hw2]
  have gw12 : Gr w1 w2 := by rw [← hw2]; exact gr_alloc w1 _
  have gw02 : Gr w0 w2 := gP.trans gw12 (fun _ _ h => h)
  have h62 : w2.heap[w1.heap.size]? = some (.cells #[.pointer (some ⟨pl, 0, none⟩)] 66) := by rw [← hw2]; exact heap_alloc_new w1 _
  have hsq := HSq.out w2 (HGW.out.trans gw02 (fun _ _ h => h))
  have H0 : Hid (∀ V, Keeps w2 V (fun _ => False) → V.heap.size = w2.heap.size + 2 → LdI w0 pl pc p n m t fo fc w1.heap.size w2.heap.size vs (fun _ => False) [] V) := fun V k hs =>
    ⟨gw02.trans k (fun _ _ h => h), w2, k.size, hPil.gr gw12, h62, gP.size, fun b hb => ⟨k.block b hb.lt id, id, by have := hb.lt; omega, by have := hb.lt; omega⟩⟩
  have hsz := gw02.size
  have HL6 : Hid (w0.heap.size ≤ w1.heap.size) := gP.size
  clear hw2 gw12 h62 hPil gP HP HSq
  refine (wpIn_wide (n := 10)).1 ?_
  refine rangeY (by decide) (gf := gf) (lb := lb) rfl eg hsq (fun _ => rfl) (fun b h => by have := HS.out b h; omega)
    (fun O pre x A B h hA hO k => ⟨h.1, h.2.1, fun b cs ty fz ho e => h.2.2 b cs ty fz ho (((k.block b (hO b ho).2 (fun e => by have e' : b = w2.heap.size + 1 := e; have := (hO b ho).1; omega)).symm).trans e)⟩)
    (LdI w0 pl pc p n m t fo fc w1.heap.size w2.heap.size vs)
    (fun O O' pre A B h hA hO k hO' => h.step k (fun b hb => by have := (hO b hb).1; omega) (fun b hb => .inl hb) (fun b hb => (hO' b hb).2))
    (fun O pre A B h k => h.step k (fun b hb => by rcases hb with e | e <;> omega) (fun b hb => .inr hb) (fun b hb => .inl hb))
    (fun _ _ _ _ => False) (fun O c pre A B h k => h) H0.out
    (fun x a' V => ∃ Bx, V.heap[Bx]? = some (.cells #[.slice (some ⟨cbs x, 0, none⟩) 1 (ccs x), .int .i64 (is x)] 69) ∧ w2.heap.size + 2 ≤ Bx ∧ a' = { tmps := #[.slice (some ⟨fb, 0, none⟩) 1 fcc, .func (.func gf) #[] lb, undef, undef, .pointer (some ⟨W.heap.size, 0, none⟩), .pointer (some ⟨z + 1, 0, none⟩), .pointer (some ⟨w1.heap.size, 0, none⟩), .pointer (some ⟨Bx, 0, none⟩), undef, .slice (some ⟨fb, 0, none⟩) 1 fcc, .pointer (some ⟨pl, 0, none⟩), .func (.func gf) #[] lb, .agg #[.slice (some ⟨cbs x, 0, none⟩) 1 (ccs x), .int .i64 (is x)], undef, undef, undef, undef, undef, undef, undef, undef, undef], defers := [] })
    (fun x a' Y Z h hk => by
      obtain ⟨Bx, h1, h2, h3⟩ := h
      exact ⟨Bx, (hk.block Bx (lt_of_heap h1) (fun e => by have e' : Bx = w2.heap.size + 1 := e; omega)).trans h1, h2, h3⟩)
    ?assign ?body ?done ?stop
  case assign =>
    intro l x V K hz hK
    clear hsq H0 HGW HG HC HT HZ HS HB1 HL6 hsz gw02 hv s1 hA1 hw0
    gi_wp2
    refine hK _ _ (gr_alloc V _) ⟨V.heap.size, heap_alloc_new V _, by omega, rfl⟩
  case body =>
    rintro ll O pre x a' V hi ⟨rfl, hx2, hOt⟩ ⟨Bx, hbx, hBx, rfl⟩ hO hz hd hl
    obtain ⟨hP, h6⟩ := hi.pil
    obtain ⟨b0, b1⟩ := cell2 hbx
    have c6 := cell1 h6
    have gV := hi.1
    have HADD : Hid (Calls Tryz.prog 19 #[.pointer (some ⟨pl, 0, none⟩), .agg #[.slice (some ⟨cbs x, 0, none⟩) 1 (ccs x), .int .i64 (is x)]] V fun e w' => e = .returned (.int .i64 0) ∧ Hid (Left S O w2.heap.size V w' ∧ LdI w0 pl pc p n m t fo fc w1.heap.size w2.heap.size vs O (List.range x ++ [x]) w')) := by
      refine (add19 w0.heap.size pl pc p n m t false fo fc ((List.range x).map vs) (cbs x) (ccs x) (ars x) (is x) (vs x) V (HT.out.gr gV) hP gV.size ((HG.out x hx2).gr (HGW.out.trans gV (fun _ _ h => h))) ((HGW.out.trans gV (fun _ _ h => h)).cell' (HC.out x hx2) id) (by simp; omega) (hv x hx2)).mono ?_
      rintro e w' ⟨rfl, hf, hp⟩
      exact ⟨rfl, hi.next hf hp hOt hd hl HS.out (fun b hb => (hO b hb).2) hz⟩
    clear hsq H0 HGW HG HC HT HZ HS HB1 HL6 hsz gw02 hv s1 hA1 hw0 hi hOt hbx hP h6 gV hO hz hd hl hBx hx2
    gi_wp2_with fail
    refine ⟨trivial, CallsIn.mono (CallsIn.inRound ll (callsIn_wide.2 HADD.out)) ?_⟩
    rintro e w3 ⟨rfl, HN⟩
    clear b0 b1 c6 HADD
    gi_wp2_with fail
    exact HN.out
  case done =>
    rintro O xs V rfl hi hz hd
    obtain ⟨hP, h6⟩ := hi.pil
    have c6 := cell1 h6
    have gV := hi.1
    have hPs : p ≠ w2.heap.size := fun e => by have h := hP.hp; rw [e, hd] at h; cases h
    obtain ⟨hzW, hs2⟩ := HZ.out
    have e2 : (List.range 2).map vs = [vs 0, vs 1] := rfl
    rw [e2] at hP
    have HD20 : Hid (Calls Tryz.prog 20 #[.pointer (some ⟨pl, 0, none⟩)] V fun e w4 => ∃ db bo bc, e = .returned (.agg #[.int .i64 2, .slice (some ⟨db, 0, none⟩) 1 1]) ∧ w4.heap[z]? = some (.cells #[.int .i64 0, .slice none 0 0] 43) ∧ ∃ U, (w4.setCell ⟨z, 0, none⟩ (.int .i64 2)).setCell ⟨z, 1, none⟩ (.slice (some ⟨db, 0, none⟩) 1 1) = U ∧ U.heap[z]? = some (.cells #[.int .i64 2, .slice (some ⟨db, 0, none⟩) 1 1] 43) ∧ U.heap[z + 1]? = some (.cells #[.int .i64 0] 33) ∧ Hid (U.heap[w2.heap.size]? = some (.deferred (some []))) ∧ Hid (∀ u, Keeps U u (fun b => b = w2.heap.size) → (u.heap[z]? = some (.cells #[.int .i64 2, .slice (some ⟨db, 0, none⟩) 1 1] 43) ∧ u.heap[z + 1]? = some (.cells #[.int .i64 0] 33)) ∧ Gr W u ∧ u.heap[db]? = some (.cells (dC 2 0 (.slice bo 2 bc)) 32) ∧ DatX u W.heap.size bo [vs 0, vs 1])) := by
      refine (done20 w0.heap.size pl pc p n m t false fo fc [vs 0, vs 1] V hP (by simp)).mono ?_
      rintro e w4 ⟨db, bo, bc, rfl, k4, ldb, hdb, hX⟩
      have low := hP.low.2.2
      have gsz := gV.size
      have g4 : Gr w0 w4 := gV.trans k4 (fun j hj e => by have e' : j = p := e; omega)
      have z4 := (g4.block _ (lt_of_heap HB1.out.1) id).trans HB1.out.1
      have z5 := (g4.block _ (lt_of_heap HB1.out.2) id).trans HB1.out.2
      have ks := setAll_kp z [(0, .int .i64 2), (1, .slice (some ⟨db, 0, none⟩) 1 1)] w4
      have kb := setAll_blk z 43 [(0, .int .i64 2), (1, .slice (some ⟨db, 0, none⟩) 1 1)] w4 _ z4
      obtain ⟨U, hU⟩ : ∃ U, setAll w4 z [(0, .int .i64 2), (1, .slice (some ⟨db, 0, none⟩) 1 1)] = U := ⟨_, rfl⟩
      rw [hU] at ks kb
      have kz : z < w0.heap.size := by omega
      have dU : U.heap[w2.heap.size]? = some (.deferred (some [])) := (ks.block _ (by have := k4.size; omega) (fun e => by have e' : w2.heap.size = z := e; omega)).trans ((k4.block _ (by omega) (fun e => hPs e.symm)).trans hd)
      have zU : U.heap[z + 1]? = some (.cells #[.int .i64 0] 33) := (ks.block _ (lt_of_heap z5) (fun e => by have e' : z + 1 = z := e; omega)).trans z5
      refine ⟨db, bo, bc, rfl, z4, U, hU, kb, zU, dU, fun u ku => ?_⟩
      have ez := lt_of_heap kb
      refine ⟨⟨(ku.block _ ez (fun e => by have e' : z = w2.heap.size := e; omega)).trans kb, (ku.block _ (lt_of_heap zU) (fun e => by have e' : z + 1 = w2.heap.size := e; omega)).trans zU⟩, ?_, ?_, ?_⟩
      · exact ((HGW.out.trans g4 (fun _ _ h => h)).trans ks (fun j hj e => by have e' : j = z := e; omega)).trans ku (fun j hj e => by have e' : j = w2.heap.size := e; omega)
      · have h1 := (ks.block _ (lt_of_heap hdb) (fun e => by have e' : db = z := e; omega)).trans hdb
        exact (ku.block _ (lt_of_heap h1) (fun e => by have e' : db = w2.heap.size := e; omega)).trans h1
      · exact (hX.kp ks (fun b e => by have e' : b = z := e; omega) (Nat.le_refl _)).kp ku (fun b e => by have e' : b = w2.heap.size := e; omega) (by omega)
    have hzW' := hidM hzW
    rw [hzW]
    clear hsq H0 HGW HG HC HT HZ HS HB1 HL6 hsz gw02 hv s1 hA1 hw0 hi hP h6 gV hPs e2 hzW hs2 hd hz
    go_wp2_with (go_at_call 20; refine HD20.out.mono ?_; rintro e w4 ⟨db, bo, bc, rfl, z4, U, hU, zU, zU1, HDf, HE⟩; obtain ⟨y0, y1⟩ := cell2 z4; have f0 := frz z4 0; have f1 := frz z4 1; have y2 := cell1 zU1; have f2 := frz zU1 0; have i2 := set_idT (j := 0) (v := .int .i64 0) zU1 rfl; clear z4 zU zU1 c6 HD20)
    refine ⟨by simp, .inl ⟨_, _, rfl, run_takeDeferred HDf.out, ?_⟩⟩
    obtain ⟨⟨r0, r1⟩, r2, r3, r4⟩ := HE.out _ (keeps_put U w2.heap.size (.deferred none))
    refine ⟨.tuple #[.agg #[.int .i64 2, .slice (some ⟨db, 0, none⟩) 1 1], .int .i64 0], ?_, db, bo, bc, rfl, r2, r3, r4⟩
    exact results_cell43_33 rfl rfl rfl r0 r1
  case stop => intro O c pre V h1 h2; exact h2.elim
end Go.Proofs.YtegjpmodleigeaaGreatDoor.Kit
namespace Go.Proofs.YtegjpmodleigeaaGreatDoor.Kit
open Go.RowKit Go.Shelf Go.Deep
open Go.Proofs.YtegjpmodleigeaaGreatDoor.Kd (Ans AnsV cell5 cell2)
set_option linter.unusedVariables false
set_option linter.unusedSimpArgs false
attribute [local go_sem] run_store_func
attribute [local go_sem] Oper.semAt_some
/-- the blocks that joined's own loops have -/
def Ow (P : Nat → Prop) (y : Nat) (O : Nat → Prop) (b : Nat) : Prop := O b ∨ P b ∨ b = y ∨ b = y + 1 ∨ b = y + 2 ∨ b = y + 3
structure SI (S P : Nat → Prop) (V2 : World) (y : Nat) (J : (Nat → Prop) → List Nat → World → Prop) (j : Nat) (O : Nat → Prop) (pre : List Nat) (V : World) : Prop where
  o : ∀ b, O b → y + 4 ≤ b ∧ b < V.heap.size
  sz : y + 4 ≤ V.heap.size
  fx : ∀ b, (S b ∨ P b ∨ b = y ∨ b = y + 1) → V.heap[b]? = V2.heap[b]?
  j : J (Ow P y O) (List.range j ++ pre.map fun _ => j) V
structure SX (S P : Nat → Prop) (V2 : World) (y : Nat) (Jx : (Nat → Prop) → List Nat → World → Prop) (j : Nat) (O : Nat → Prop) (V : World) : Prop where
  o : ∀ b, O b → y + 4 ≤ b
  sz : y + 4 ≤ V.heap.size
  fx : ∀ b, (S b ∨ P b ∨ b = y ∨ b = y + 1) → V.heap[b]? = V2.heap[b]?
  j : Jx (Ow P y O) (List.range j ++ [j]) V
theorem SI.step {S P : Nat → Prop} {V2 : World} {y : Nat} {J : (Nat → Prop) → List Nat → World → Prop} (hJ : JAbides J) (hlow : ∀ b, (S b ∨ P b) → b < y) {j : Nat} {O O' : Nat → Prop} {pre : List Nat} {A B : World} {T : Nat → Prop} (h : SI S P V2 y J j O pre A) (k : Keeps A B T) (hT : ∀ b, T b → O b ∨ b = y + 2 ∨ b = y + 3) (hO' : ∀ b, O' b → b < B.heap.size ∧ (O b ∨ A.heap.size ≤ b)) : SI S P V2 y J j O' pre B := by
  have hsz := h.sz
  have hks := k.size
  refine ⟨fun b hb => ⟨(hO' b hb).2.elim (fun h' => (h.o b h').1) fun h' => by omega, (hO' b hb).1⟩, by omega, fun b hb => ?_, hJ _ _ _ _ _ h.j (k.mono fun b _ t => ?_) (fun b hb => ?_)⟩
  · have hb' : b < y + 2 := by
      rcases hb with hb | hb | hb | hb
      · have := hlow b (.inl hb); omega
      · have := hlow b (.inr hb); omega
      · omega
      · omega
    refine (k.block b (by omega) fun t => ?_).trans (h.fx b hb)
    rcases hT b t with t | t | t
    · have := (h.o b t).1; omega
    · omega
    · omega
  · rcases hT b t with t | t | t
    · exact .inl t
    · exact .inr (.inr (.inr (.inr (.inl t))))
    · exact .inr (.inr (.inr (.inr (.inr t))))
  · rcases hb with hb | hb
    · exact ⟨(hO' b hb).1, (hO' b hb).2.elim (fun h => .inl (.inl h)) .inr⟩
    · refine ⟨?_, .inl (.inr hb)⟩
      rcases hb with hb | hb
      · have := hlow b (.inr hb); omega
      · omega
theorem SX.step {S P : Nat → Prop} {V2 : World} {y : Nat} {Jx : (Nat → Prop) → List Nat → World → Prop} (hL : LAbides Jx) (hlow : ∀ b, (S b ∨ P b) → b < y) {j : Nat} {O : Nat → Prop} {A B : World} {T : Nat → Prop} (h : SX S P V2 y Jx j O A) (k : Keeps A B T) (hT : ∀ b, T b → O b ∨ b = y + 2 ∨ b = y + 3) : SX S P V2 y Jx j O B := by
  have hsz := h.sz
  have hks := k.size
  refine ⟨h.o, by omega, fun b hb => ?_, hL _ _ _ _ h.j (k.mono fun b _ t => ?_)⟩
  · have hb' : b < y + 2 := by
      rcases hb with hb | hb | hb | hb
      · have := hlow b (.inl hb); omega
      · have := hlow b (.inr hb); omega
      · omega
      · omega
    refine (k.block b (by omega) fun t => ?_).trans (h.fx b hb)
    rcases hT b t with t | t | t
    · have := h.o b t; omega
    · omega
    · omega
  · rcases hT b t with t | t | t
    · exact .inl t
    · exact .inr (.inr (.inr (.inr (.inl t))))
    · exact .inr (.inr (.inr (.inr (.inr t))))
/-- a row is handed on -/
theorem join_yield {n m ll l N : Nat} {encs : Nat → Array Value} {S P : Nat → Prop} {V2 : World} {y j : Nat} {J Jx : (Nat → Prop) → List Nat → World → Prop} (hlow : ∀ b, (S b ∨ P b) → b < y) (hj : j < 2) (hPt : ∀ b cs ty fz, P b → V2.heap[b]? = some (.cells cs ty fz) → ty = 59 ∨ ty = 72 ∨ ty = 69) (hy : ∀ b cs ty fz, (b = y ∨ b = y + 1) → V2.heap[b]? = some (.cells cs ty fz) → ty = 59 ∨ ty = 72 ∨ ty = 69)
    (hY : ∀ O pre x W1, J O pre W1 → AtT 2 N O pre x W1 → YieldAt Fence.wide (n - 1) Tryz.prog l (encs x) W1 fun e W' => (KpOf (fun b => S b ∨ O b) W1 W' ∧ W1.heap.size ≤ W'.heap.size) ∧ ((e = .returned (.bool true) ∧ J O (pre ++ [x]) W') ∨ (e = .returned (.bool false) ∧ Jx O (pre ++ [x]) W')))
    {O : Nat → Prop} {V : World} (h : SI S P V2 y J j O [] V) (hO : ∀ b cs ty fz, O b → V.heap[b]? = some (.cells cs ty fz) → ty = 59 ∨ ty = 72 ∨ ty = 69) (hd : V.heap[y + 2]? = some (.deferred (some []))) (hl : ∃ lp, V.heap[y + 3]? = some (.loop lp)) :
    YieldAt (Fence.wide.inRound ll) m Tryz.prog l (encs j) V fun e W' => ∃ r : Bool, e = .returned (.bool r) ∧ Hid (Left (fun b => b = y + 1) O (y + 2) V W' ∧ (r = true → SI S P V2 y J j O [0] W') ∧ (r = false → SX S P V2 y Jx j O W')) := by
  have hj0 : J (Ow P y O) (List.range j) V := by have := h.j; simpa using this
  have hat : AtT 2 N (Ow P y O) (List.range j) j V := by
    refine ⟨rfl, hj, fun b cs ty fz hb e => ?_⟩
    rcases hb with hb | hb | hb | hb | hb | hb
    · exact hO b cs ty fz hb e
    · exact hPt b cs ty fz hb ((h.fx b (.inr (.inl hb))).symm.trans e)
    · exact hy b cs ty fz (.inl hb) ((h.fx b (.inr (.inr (.inl hb)))).symm.trans e)
    · exact hy b cs ty fz (.inr hb) ((h.fx b (.inr (.inr (.inr hb)))).symm.trans e)
    · rw [hb, hd] at e; cases e
    · obtain ⟨lp, hl⟩ := hl
      rw [hb, hl] at e; cases e
  refine (yieldRound (m' := m) (l' := ll) (hY _ _ _ V hj0 hat)).mono ?_
  rintro e W' ⟨⟨hkp, hsz⟩, h'⟩
  have hleft : Left (fun b => b = y + 1) O (y + 2) V W' := ⟨fun b hb => hkp b (.inr (by
    rcases hb with hb | hb | hb | hb
    · exact .inr (.inr (.inr (.inl hb)))
    · exact .inl hb
    · exact .inr (.inr (.inr (.inr (.inl hb))))
    · exact .inr (.inr (.inr (.inr (.inr hb)))))), hsz⟩
  have hfx : ∀ b, (S b ∨ P b ∨ b = y ∨ b = y + 1) → W'.heap[b]? = V2.heap[b]? := fun b hb => (hkp b (by
    rcases hb with hb | hb | hb | hb
    · exact .inl hb
    · exact .inr (.inr (.inl hb))
    · exact .inr (.inr (.inr (.inl hb)))
    · exact .inr (.inr (.inr (.inr (.inl hb)))))).trans (h.fx b hb)
  have h0 := h.sz
  rcases h' with ⟨rfl, hj'⟩ | ⟨rfl, hx'⟩
  · exact ⟨true, rfl, hleft, fun _ => ⟨fun b hb => ⟨(h.o b hb).1, by have := (h.o b hb).2; omega⟩, by omega, hfx, hj'⟩, fun h => by cases h⟩
  · exact ⟨false, rfl, hleft, (fun h => by cases h), fun _ => ⟨fun b hb => (h.o b hb).1, by omega, hfx, hx'⟩⟩
end Go.Proofs.YtegjpmodleigeaaGreatDoor.Kit
