import Derived.Test.YtegjpmodleigeaaGreatDoorWQ
import Derived.Test.YtegjpmodleigeaaGreatDoorCW
set_option maxRecDepth 100000
set_option maxHeartbeats 4000000
namespace Go.Proofs.YtegjpmodleigeaaGreatDoor.Kit
open Go.RowKit Go.Shelf Go.Deep
open Go.Proofs.YtegjpmodleigeaaGreatDoor.Kd (Ans AnsV cell5 cell2)
set_option linter.unusedVariables false
set_option linter.unusedSimpArgs false
attribute [local go_sem] run_store_func
attribute [local go_sem] Oper.semAt_some
theorem results_cell39_33 {fn : Func} {t u : Tmp} {tmps : Array Value} {g g2 : Nat} {v : Value} {k : Int} {w : World} (h : fn.results = #[.cell t 39, .cell u 33]) (ht : tmps.getD t undef = .pointer (some ⟨g, 0, none⟩)) (hu : tmps.getD u undef = .pointer (some ⟨g2, 0, none⟩)) (hg : w.heap[g]? = some (.cells #[v] 39)) (hg2 : w.heap[g2]? = some (.cells #[.int .i64 k] 33)) :
    (results fn tmps).run Tryz.prog w = .ok (.tuple #[v, .int .i64 k]) w := by
  have c0 := cell1 hg
  have hc := cell1 hg2
  unfold results
  rw [h]
  simp only [Array.mapM_eq_mapM_toList, List.mapM_cons, List.mapM_nil, ht, hu]
  simp [asAddr, go_sem, hc, c0]
theorem pieces14 (cbs ccs is ars : Nat → Nat) (vs : Nat → Int) (gf : Nat) (lb : Array Value) (S : Nat → Prop) (fb fcc : Nat) (ao : Option Addr) (ca : Nat) (W : World) (eg : ∀ args w, (callFunc gf args).run Tryz.prog w = .ok (.enter gf args) w) (hT : Tab W) (hf : W.heap[fb]? = some (.cells #[.string nmA, .bool false, .int .i64 3, .int .i64 0, .int .i64 0, .int .i64 0, .slice ao 0 ca] 27)) (hg : ∀ x, x < 2 → GetA W (ars x) (is x) (vs x)) (hc : ∀ x, x < 2 → W.cell? ⟨cbs x, 0, none⟩ = some (.pointer (some ⟨ars x, 0, none⟩))) (hv : ∀ x, x < 2 → fitN false 3 false (vs x) = true) (hS : ∀ b, S b → b < W.heap.size)
    (hseq : ∀ u, Gr W u → SeqNew 9 Tryz.prog gf lb (fun x => #[.agg #[.slice (some ⟨cbs x, 0, none⟩) 1 (ccs x), .int .i64 (is x)]]) (AtT 2) S (fun xs => xs = List.range 2) (fun _ => True) u) :
    Calls Tryz.prog 14 #[.slice (some ⟨fb, 0, none⟩) 1 fcc, .func (.func gf) #[] lb, .int .i64 1] W fun e w' => ∃ lb lc, e = .returned (.tuple #[.slice (some ⟨lb, 0, none⟩) 2 lc, .int .i64 0]) ∧ Gr W w' ∧ 2 ≤ lc ∧ w'.cell? ⟨lb, 2, none⟩ = some (.int .i64 1) := by
  obtain ⟨z, hz⟩ : ∃ z, W.heap.size = z := ⟨_, rfl⟩
  obtain ⟨A1, hA1⟩ : ∃ A, W.alloc (.cells #[.slice (some ⟨fb, 0, none⟩) 1 fcc] 23) = A := ⟨_, rfl⟩
  have gA1 : Gr W A1 := by rw [← hA1]; exact gr_alloc W _
  have sA1 : A1.heap.size = z + 1 := by rw [← hA1]; simp [hz]
  have bA1 : A1.heap[z]? = some (.cells #[.slice (some ⟨fb, 0, none⟩) 1 fcc] 23) := by rw [← hA1, ← hz]; exact heap_alloc_new W _
  obtain ⟨A2, hA2⟩ : ∃ A, A1.alloc (.cells #[.int .i64 1] 3) = A := ⟨_, rfl⟩
  have gA2 : Gr A1 A2 := by rw [← hA2]; exact gr_alloc A1 _
  have sA2 : A2.heap.size = z + 2 := by rw [← hA2]; simp [sA1]
  have bA2 : A2.heap[z + 1]? = some (.cells #[.int .i64 1] 3) := by rw [← hA2, ← sA1]; exact heap_alloc_new A1 _
  obtain ⟨A3, hA3⟩ : ∃ A, A2.alloc (.cells #[.slice none 0 0] 39) = A := ⟨_, rfl⟩
  have gA3 : Gr A2 A3 := by rw [← hA3]; exact gr_alloc A2 _
  have sA3 : A3.heap.size = z + 3 := by rw [← hA3]; simp [sA2]
  have bA3 : A3.heap[z + 2]? = some (.cells #[.slice none 0 0] 39) := by rw [← hA3, ← sA2]; exact heap_alloc_new A2 _
  obtain ⟨A4, hA4⟩ : ∃ A, A3.alloc (.cells #[.int .i64 0] 33) = A := ⟨_, rfl⟩
  have gA4 : Gr A3 A4 := by rw [← hA4]; exact gr_alloc A3 _
  have sA4 : A4.heap.size = z + 4 := by rw [← hA4]; simp [sA3]
  have bA4 : A4.heap[z + 3]? = some (.cells #[.int .i64 0] 33) := by rw [← hA4, ← sA3]; exact heap_alloc_new A3 _
  obtain ⟨A5, hA5⟩ : ∃ A, A4.alloc (.cells #[.slice none 0 0] 39) = A := ⟨_, rfl⟩
  have gA5 : Gr A4 A5 := by rw [← hA5]; exact gr_alloc A4 _
  have sA5 : A5.heap.size = z + 5 := by rw [← hA5]; simp [sA4]
  have bA5 : A5.heap[z + 4]? = some (.cells #[.slice none 0 0] 39) := by rw [← hA5, ← sA4]; exact heap_alloc_new A4 _
  have g02 := gA1.trans gA2 (fun _ _ h => h)
  have g03 := g02.trans gA3 (fun _ _ h => h)
  have g04 := g03.trans gA4 (fun _ _ h => h)
  have gW : Gr W A5 := g04.trans gA5 (fun _ _ h => h)
  have bx4 := (gA5.block _ (lt_of_heap bA4) id).trans bA4
  have g35 := gA4.trans gA5 (fun _ _ h => h)
  have bx3 := (g35.block _ (lt_of_heap bA3) id).trans bA3
  have g25 := gA3.trans g35 (fun _ _ h => h)
  have bx2 := (g25.block _ (lt_of_heap bA2) id).trans bA2
  have g15 := gA2.trans g25 (fun _ _ h => h)
  have bx1 := (g15.block _ (lt_of_heap bA1) id).trans bA1
  have HP := hidM (newPile18 fb fcc false ao ca A5 (hT.gr gW) ((gW.block _ (lt_of_heap hf) id).trans hf))
  have HB := hidM (And.intro bx1 (And.intro bx2 (And.intro bx3 (And.intro bx4 (And.intro bA5 sA5)))))
  have HGW := hidM gW
  have HG := hidM hg
  have HC := hidM hc
  have HSq := hidM hseq
  have HTb : Hid (∀ u, FrR z W u → Tab u ∧ u.heap[fb]? = some (.cells #[.string nmA, .bool false, .int .i64 3, .int .i64 0, .int .i64 0, .int .i64 0, .slice ao 0 ca] 27)) := fun u h => by
    have g : Gr W u := h.mono fun k hk q => by have := q.1; omega
    exact ⟨hT.gr g, (g.block _ (lt_of_heap hf) id).trans hf⟩
  have HZ := hidM hz
  have HS := hidM hS
  have HTW := hidM hT
  have c1 := cell1 bx1
  clear hT hf hg hc hseq gW bx1 bx2 bx3 bx4 g02 g03 g04 g35 g25 g15 hS gA1 gA2 gA3 gA4 gA5 bA1 bA2 bA3 bA4 bA5 sA5
  refine (callsIn_wide (n := 10)).1 ?_
  refine callsIn_of_wp_marks Tryz.func14 rfl trivial ?_ rfl
  simp only [Tryz.ntmps14, List.size_toArray, List.length_cons, List.length_nil, Nat.reduceAdd, Nat.reduceSub, Array.replicate_succ, Array.replicate_zero, List.push_toArray, List.append_toArray, List.nil_append, List.cons_append]
  refine wpIn_wide.2 ?_
  go_wp2_with (go_at_call 18; refine HP.out.mono ?_; rintro e w1 ⟨pl0, pc0, p0, n0, m0, t0, fo0, fc0, rfl, gP, hPil⟩)
  obtain ⟨w2, hw2⟩ : ∃ w2, w1.alloc (.cells #[.pointer (some ⟨pl0, 0, none⟩)] 66) = w2 := ⟨_, rfl⟩
  rw [hw2]
  obtain ⟨q, hq⟩ : ∃ q, w1.heap.size = q := ⟨_, rfl⟩
  rw [hq]
  have gw12 : Gr w1 w2 := by rw [← hw2]; exact gr_alloc w1 _
  have gw52 : Gr A5 w2 := gP.trans gw12 (fun _ _ h => h)
  have hq2 : w2.heap[q]? = some (.cells #[.pointer (some ⟨pl0, 0, none⟩)] 66) := by rw [← hw2, ← hq]; exact heap_alloc_new w1 _
  have hsq := HSq.out w2 (HGW.out.trans gw52 (fun _ _ h => h))
  have HSt : Hid (PcS z q fb fcc w2 0 ∧ z + 5 ≤ w2.heap.size) := by
    obtain ⟨x1, x2, x3, x4, x5, x6⟩ := HB.out
    have tr : ∀ (b : Nat) (o : Obj), A5.heap[b]? = some o → w2.heap[b]? = some o := fun b o h => (gw52.block _ (by have : A5.heap[b]? ≠ none := (by rw [h]; simp); simpa using this) id).trans h
    have := gP.size
    have := gw52.size
    refine ⟨⟨tr _ _ x1, tr _ _ x2, tr _ _ x3, tr _ _ x4, ⟨none, 0, tr _ _ x5, [], ⟨rfl, .inl ⟨rfl, rfl⟩⟩, (fun g e => by simp [Value.ownBlock] at e), (fun i hi => by omega)⟩, ⟨pl0, pc0, p0, n0, m0, t0, fo0, fc0, hq2, (hPil.gr gw12).low' (by omega)⟩, by omega⟩, by omega⟩
  have H0 : Hid (∀ V, Keeps w2 V (fun _ => False) → V.heap.size = w2.heap.size + 2 → PcI W z q fb fcc w2.heap.size (fun _ => False) [] V) := fun V k hs =>
    ⟨(HGW.out.trans gw52 (fun _ _ h => h)).trans k (fun _ _ h => h), w2, k.size, HSt.out.1, fun b hb => ⟨k.block b hb.lt id, id, by have := hb.lt; omega, by have := hb.lt; omega⟩⟩
  have hsz := HSt.out.2
  clear hw2 gw12 gw52 hq2 hPil gP HP HSq HSt HB c1 hq
  try rw [hz]
  refine (wpIn_wide (n := 10)).1 ?_
  refine rangeY (by decide) (gf := gf) (lb := lb) rfl eg hsq (fun _ => rfl) (fun b h => by have := HS.out b h; omega)
    (fun O pre x A B h hA hO k => ⟨h.1, h.2.1, fun b cs ty fz ho e => h.2.2 b cs ty fz ho (((k.block b (hO b ho).2 (fun e => by have e' : b = w2.heap.size + 1 := e; have := (hO b ho).1; omega)).symm).trans e)⟩)
    (PcI W z q fb fcc w2.heap.size)
    (fun O O' pre A B h hA hO k hO' => h.step k (fun b hb => by have := (hO b hb).1; omega) (fun b hb => .inl hb) (fun b hb => (hO' b hb).2))
    (fun O pre A B h k => h.step k (fun b hb => by rcases hb with e | e <;> omega) (fun b hb => .inr hb) (fun b hb => .inl hb))
    (fun _ _ _ _ => False) (fun O c pre A B h k => h) H0.out
    (fun x a' V => ∃ Bx, V.heap[Bx]? = some (.cells #[.slice (some ⟨cbs x, 0, none⟩) 1 (ccs x), .int .i64 (is x)] 69) ∧ w2.heap.size + 2 ≤ Bx ∧ a' = { tmps := #[.slice (some ⟨fb, 0, none⟩) 1 fcc, .func (.func gf) #[] lb, .int .i64 1, .pointer (some ⟨z, 0, none⟩), undef, .pointer (some ⟨z + 1, 0, none⟩), .pointer (some ⟨z + 2, 0, none⟩), .pointer (some ⟨z + 3, 0, none⟩), .pointer (some ⟨z + 4, 0, none⟩), .pointer (some ⟨q, 0, none⟩), .pointer (some ⟨Bx, 0, none⟩), undef, .slice (some ⟨fb, 0, none⟩) 1 fcc, .pointer (some ⟨pl0, 0, none⟩), .func (.func gf) #[] lb, .agg #[.slice (some ⟨cbs x, 0, none⟩) 1 (ccs x), .int .i64 (is x)], undef, undef, undef, undef, undef, undef, undef, undef, undef, undef, undef, undef, undef, undef, undef, undef, undef, undef, undef, undef, undef, undef, undef, undef, undef, undef, undef, undef, undef, undef], defers := [] })
    (fun x a' Y Z h hk => by
      obtain ⟨Bx, h1, h2, h3⟩ := h
      exact ⟨Bx, (hk.block Bx (lt_of_heap h1) (fun e => by have e' : Bx = w2.heap.size + 1 := e; omega)).trans h1, h2, h3⟩)
    ?assign ?body ?done ?stop
  case assign =>
    intro l x V K hzz hK
    clear hsq H0 HGW HG HC HTW HZ HS hsz hv HTb hA1 hA2 hA3 hA4 hA5 hz sA1 sA2 sA3 sA4
    gi_wp2
    refine hK _ _ (gr_alloc V _) ⟨V.heap.size, heap_alloc_new V _, by omega, rfl⟩
  case body =>
    rintro ll O pre x a' V hi ⟨rfl, hx2, hOt⟩ ⟨Bx, hbx, hBx, rfl⟩ hO hsV hd hl
    obtain ⟨k, hk⟩ : ∃ k, (List.range x).length = k := ⟨_, rfl⟩
    have hst := hi.st
    rw [hk] at hst
    obtain ⟨lo, lc, pl, xs, pc, p, n, m, t, fo, fc, hT, hP⟩ := hst.t
    have hk1 : k ≤ 1 := by have : (List.range x).length = x := List.length_range; omega
    obtain ⟨b0, b1⟩ := cell2 hbx
    have c9 := cell1 hT.hq
    have gV := hi.1
    have HZ4 : Hid (∀ u, FrR z V u → z ≤ u.heap.size) := fun u h => by have := h.size; have := gV.size; omega
    have HADD : Hid (Calls Tryz.prog 19 #[.pointer (some ⟨pl, 0, none⟩), .agg #[.slice (some ⟨cbs x, 0, none⟩) 1 (ccs x), .int .i64 (is x)]] V fun e w' => e = .returned (.int .i64 0) ∧ FrP z V w' ∧ Pil z w' pl pc p n m t false fo fc [vs x]) := add19 z pl pc p n m t false fo fc [] (cbs x) (ccs x) (ars x) (is x) (vs x) V (HTW.out.gr gV) hP (by have := gV.size; omega) ((HG.out x hx2).gr gV) (gV.cell' (HC.out x hx2) id) (by simp) (hv x hx2)
    have HNx : Hid (∀ w', FrR z V w' → PcS z q fb fcc w' (k + 1) → Left S O w2.heap.size V w' ∧ PcI W z q fb fcc w2.heap.size O (List.range x ++ [x]) w') := fun w' h1 h2 => hi.next hz.symm h1 (by rw [hk]; exact h2) hOt hd hl HS.out (fun b hb => (hO b hb).2) hsV
    have HTb' : Hid (∀ u, FrR z V u → Tab u ∧ u.heap[fb]? = some (.cells #[.string nmA, .bool false, .int .i64 3, .int .i64 0, .int .i64 0, .int .i64 0, .slice ao 0 ca] 27)) := fun u h => HTb.out u (FrR.trans (Gr.frR gV) h)
    have HTV := hidM hT
    clear hsq H0 HGW HG HC HTW HZ HS hsz hv HTb hi hOt hbx gV hO hsV hd hl hBx hx2 hst hT hP hA1 hA2 hA3 hA4 hA5 hz sA1 sA2 sA3 sA4 hk
    have HTb := HTb'
    clear HTb'
    gi_wp2_with fail
    refine ⟨trivial, CallsIn.mono (CallsIn.inRound ll (callsIn_wide.2 HADD.out)) ?_⟩
    rintro e w3 ⟨rfl, hf3, hp3⟩
    have HT3 := hidM (pc_add HTV.out hf3)
    have HC3 : Hid (∀ u, Gr w3 u → u.cell? ⟨q, 0, none⟩ = some (.pointer (some ⟨pl, 0, none⟩)) ∧ u.cell? ⟨pl, 0, none⟩ = some (.int .i64 1) ∧ u.cell? ⟨z + 1, 0, none⟩ = some (.int .i64 1)) := fun u g => ⟨cell1 ((HT3.out.gr g).hq), (cell2 (hp3.gr g).hl).1, cell1 ((HT3.out.gr g).nz)⟩
    have HL3 : Hid (∀ u, Gr w3 u → u.cell? ⟨z + 4, 0, none⟩ = some (.slice lo k lc)) := fun u g => cell1 ((HT3.out.gr g).lz)
    have HD20 : Hid (∀ u, Gr w3 u → Calls Tryz.prog 20 #[.pointer (some ⟨pl, 0, none⟩)] u fun e w4 => ∃ db, e = .returned (.agg #[.int .i64 1, .slice (some ⟨db, 0, none⟩) 1 1]) ∧ Hid (FrR z V w4 ∧ PcT z q fb fcc w4 k lo lc pl xs ∧ True)) := fun u g => by
      have hpu := hp3.gr g
      refine (done20 z pl pc p n m t false fo fc [vs x] u hpu (by simp)).mono ?_
      rintro e w4 ⟨db, bo, bc, rfl, k4, -, -, -⟩
      obtain ⟨h1, h2⟩ := pc_done (HT3.out.gr g) hpu.hp hpu.low.2.2 k4
      exact ⟨db, rfl, FrR.trans (FrR.trans (FrP.r hf3) (Gr.frR g)) h2, h1, trivial⟩
    clear b0 b1 c9 HADD hf3 hp3 HTV HT3
    gi_wp2_with fail
    have hmix : Tryz.prog.follows .mixedOrders = true := by kernel_rfl
    refine region_round (S := fun w' => w'.cell? ⟨q, 0, none⟩ = some (.pointer (some ⟨pl, 0, none⟩)) ∧ w'.cell? ⟨pl, 0, none⟩ = some (.int .i64 1) ∧ w'.cell? ⟨z + 1, 0, none⟩ = some (.int .i64 1)) (by kernel_rfl) (noDefer_spec (by kernel_rfl)) (fun ⟨_, _, h⟩ => h) ?_
    obtain ⟨wd, hwd⟩ : ∃ wd, w3.drew = wd := ⟨_, rfl⟩
    have gd : Gr w3 wd := by rw [← hwd]; exact gr_drew
    rw [hwd]
    have hHeld : (fun w' : World => w'.cell? ⟨q, 0, none⟩ = some (.pointer (some ⟨pl, 0, none⟩)) ∧ w'.cell? ⟨pl, 0, none⟩ = some (.int .i64 1) ∧ w'.cell? ⟨z + 1, 0, none⟩ = some (.int .i64 1)) wd := HC3.out wd gd
    refine wpAnyH_take (i := 0) (oi := { dst := some 22, op := Op.load 66 (Operand.tmp 9), type := 66, pos := "lay.go:68", after := #[], guard := none }) (v := ?v0e1) rfl (by kernel_rfl) (by kernel_rfl) (by kernel_rfl) (fun _ _ _ h => h) (Or.inl ⟨by rfl, ?y0e1⟩) (by assumption) ?r0e1
    case y0e1 => (intro w hSw; obtain ⟨s0, s1, s2⟩ := hSw; go_simp; (try with_reducible rfl))
    (try simp only [Act.put]); (try simp only [List.setIfInBounds_toArray]); (try simp only [List.set_cons_succ]); (try simp only [List.set_cons_zero])
    refine wpAnyH_take (i := 1) (oi := { dst := some 23, op := Op.nilCheck (Operand.tmp 22), type := 0, pos := "lay.go:68", after := #[{ on := 0, ground := Ground.data }], guard := none }) (v := ?v1e2) rfl (by kernel_rfl) (by kernel_rfl) (by kernel_rfl) (fun _ _ _ h => h) (Or.inl ⟨by rfl, ?y1e2⟩) (by assumption) ?r1e2
    case y1e2 => (intro w hSw; obtain ⟨s0, s1, s2⟩ := hSw; go_simp; (try with_reducible rfl))
    (try simp only [Act.put]); (try simp only [List.setIfInBounds_toArray]); (try simp only [List.set_cons_succ]); (try simp only [List.set_cons_zero])
    refine wpAnyH_take (i := 2) (oi := { dst := some 24, op := Op.fieldAddr 78 (Operand.tmp 23) 0, type := 0, pos := "lay.go:68", after := #[{ on := 1, ground := Ground.data }], guard := none }) (v := ?v2e3) rfl (by kernel_rfl) (by kernel_rfl) (by kernel_rfl) (fun _ _ _ h => h) (Or.inl ⟨by rfl, ?y2e3⟩) (by assumption) ?r2e3
    case y2e3 => (intro w hSw; obtain ⟨s0, s1, s2⟩ := hSw; go_simp; (try with_reducible rfl))
    (try simp only [Act.put]); (try simp only [List.setIfInBounds_toArray]); (try simp only [List.set_cons_succ]); (try simp only [List.set_cons_zero])
    refine wpAnyH_take (i := 3) (oi := { dst := some 25, op := Op.load 3 (Operand.tmp 24), type := 3, pos := "lay.go:68", after := #[{ on := 2, ground := Ground.data }], guard := none }) (v := ?v3e4) rfl (by kernel_rfl) (by kernel_rfl) (by kernel_rfl) (fun _ _ _ h => h) (Or.inl ⟨by rfl, ?y3e4⟩) (by assumption) ?r3e4
    case y3e4 => (intro w hSw; obtain ⟨s0, s1, s2⟩ := hSw; go_simp; (try with_reducible rfl))
    (try simp only [Act.put]); (try simp only [List.setIfInBounds_toArray]); (try simp only [List.set_cons_succ]); (try simp only [List.set_cons_zero])
    refine wpAnyH_take (i := 4) (oi := { dst := some 26, op := Op.load 3 (Operand.tmp 5), type := 3, pos := "lay.go:68", after := #[], guard := none }) (v := ?v4e5) rfl (by kernel_rfl) (by kernel_rfl) (by kernel_rfl) (fun _ _ _ h => h) (Or.inl ⟨by rfl, ?y4e5⟩) (by assumption) ?r4e5
    case y4e5 => (intro w hSw; obtain ⟨s0, s1, s2⟩ := hSw; go_simp; (try with_reducible rfl))
    (try simp only [Act.put]); (try simp only [List.setIfInBounds_toArray]); (try simp only [List.set_cons_succ]); (try simp only [List.set_cons_zero])
    refine wpAnyH_take (i := 5) (oi := { dst := some 27, op := Op.binOp BinOp.eql 3 (Operand.tmp 25) (Operand.tmp 26) 3, type := 4, pos := "lay.go:68", after := #[{ on := 3, ground := Ground.data }, { on := 4, ground := Ground.data }], guard := none }) (v := ?v5e6) rfl (by kernel_rfl) (by kernel_rfl) (by kernel_rfl) (fun _ _ _ h => h) (Or.inl ⟨by rfl, ?y5e6⟩) (by assumption) ?r5e6
    case y5e6 => (intro w hSw; obtain ⟨s0, s1, s2⟩ := hSw; go_simp; (try with_reducible rfl))
    (try simp only [Act.put]); (try simp only [List.setIfInBounds_toArray]); (try simp only [List.set_cons_succ]); (try simp only [List.set_cons_zero])
    refine wpAnyH_done (by kernel_rfl) ?_ _
    clear hHeld
    gi_wp2_with fail
    refine region_round (S := fun w' => w'.cell? ⟨q, 0, none⟩ = some (.pointer (some ⟨pl, 0, none⟩))) (by kernel_rfl) (noDefer_spec (by kernel_rfl)) (fun ⟨_, _, h⟩ => h) ?_
    obtain ⟨we, hwe⟩ : ∃ we, wd.drew = we := ⟨_, rfl⟩
    have ge : Gr w3 we := gd.trans (by rw [← hwe]; exact gr_drew) (fun _ _ h => h)
    rw [hwe]
    have HSe := hidM (HC3.out we ge).1
    have lze := (HL3.out we ge)
    have HD20e := hidM (HD20.out we ge)
    have hHeld : (fun w' : World => w'.cell? ⟨q, 0, none⟩ = some (.pointer (some ⟨pl, 0, none⟩))) we := HSe.out
    refine wpAnyH_take (i := 1) (oi := { dst := some 29, op := Op.load 66 (Operand.tmp 9), type := 66, pos := "lay.go:69", after := #[], guard := none }) (v := ?v1f1) rfl (by kernel_rfl) (by kernel_rfl) (by kernel_rfl) (fun _ _ _ h => h) (Or.inl ⟨by rfl, ?y1f1⟩) (by assumption) ?r1f1
    case y1f1 => (intro w hSw; obtain s0 := hSw; go_simp; (try with_reducible rfl))
    (try simp only [Act.put]); (try simp only [List.setIfInBounds_toArray]); (try simp only [List.set_cons_succ]); (try simp only [List.set_cons_zero])
    refine wpAnyH_ready (rs := [0, 2]) (by kernel_rfl) (by simp) ?_
    refine (AllReadyH.cons (o := { dst := some 28, op := Op.load 39 (Operand.tmp 8), type := 39, pos := "lay.go:69", after := #[], guard := none }) rfl (fun Kc hK => ?_) (AllReadyH.cons (o := { dst := some 30, op := Op.call { callee := Callee.value (Operand.func 20), args := #[Operand.tmp 29], argTypes := #[66] }, type := 43, pos := "lay.go:69", after := #[{ on := 1, ground := Ground.data }], guard := none }) rfl (fun Kc hK => ?_) AllReadyH.nil))
    · go_simp
      refine hK.out _ _ (HSe.out) (fun hHeld => ?_)
      clear hK Kc
      (try simp only [Act.put]); (try simp only [List.setIfInBounds_toArray]); (try simp only [List.set_cons_succ]); (try simp only [List.set_cons_zero])
      clear lze
      refine wpAnyH_ready (rs := [2]) (by kernel_rfl) (by simp) ?_
      refine (AllReadyH.cons (o := { dst := some 30, op := Op.call { callee := Callee.value (Operand.func 20), args := #[Operand.tmp 29], argTypes := #[66] }, type := 43, pos := "lay.go:69", after := #[{ on := 1, ground := Ground.data }], guard := none }) rfl (fun Kc hK => ?_) AllReadyH.nil)
      go_simp
      go_at_call 20
      refine Calls.mono HD20e.out ?_
      rintro e' w4 ⟨db, rfl, HF4⟩
      have HT4 := hidM HF4.out.2.1
      have lz4 := cell1 HT4.out.lz
      have HS4 := hidM (cell1 HT4.out.hq)
      go_wp2_with fail
      refine hK.out _ _ (HS4.out) (fun hHeld => ?_)
      clear hK Kc
      (try simp only [Act.put]); (try simp only [List.setIfInBounds_toArray]); (try simp only [List.set_cons_succ]); (try simp only [List.set_cons_zero])
      clear lz4
      refine wpAnyH_ready (rs := [3]) (by kernel_rfl) (by simp) ?_
      refine (AllReadyH.cons (o := { dst := some 31, op := Op.buildSlice 39 1 #[(0, Operand.tmp 30)], type := 39, pos := "lay.go:69", after := #[{ on := 2, ground := Ground.data }], guard := none }) rfl (fun Kc hK => ?_) AllReadyH.nil)
      obtain ⟨w5, hw5⟩ : ∃ w5, w4.alloc (.cells #[.int .i64 1, .slice (some ⟨db, 0, none⟩) 1 1] 43) = w5 := ⟨_, rfl⟩
      have g5 : Gr w4 w5 := by rw [← hw5]; exact gr_alloc w4 _
      have HT5 := hidM (HT4.out.gr g5)
      have HSr := hidM (src43 w4 (.int .i64 1) (.slice (some ⟨db, 0, none⟩) 1 1) rfl rfl)
      have lz5 := cell1 HT5.out.lz
      have HS5 := hidM (cell1 HT5.out.hq)
      go_simp
      refine hK.out _ _ (HS5.out) (fun hHeld => ?_)
      clear hK Kc
      (try simp only [Act.put]); (try simp only [List.setIfInBounds_toArray]); (try simp only [List.set_cons_succ]); (try simp only [List.set_cons_zero])
      clear lz5
      refine wpAnyH_ready (rs := [4]) (by kernel_rfl) (by simp) ?_
      refine (AllReadyH.cons (o := { dst := some 32, op := Op.call { callee := Callee.builtin Builtin.append, args := #[Operand.tmp 28, Operand.tmp 31], argTypes := #[39, 39] }, type := 39, pos := "lay.go:69", after := #[{ on := 0, ground := Ground.data }, { on := 3, ground := Ground.data }, { on := 2, ground := Ground.chain }], guard := none }) rfl (fun Kc hK => ?_) AllReadyH.nil)
      rw [hw5] at HSr
      refine step_append_anyN (P := Tryz.prog) _ rfl (.tmp 28) (.tmp 31) 39 39 rfl 43 (.agg #[.int .i64 0, .slice none 0 0]) 2 32 Tryz.underlying39 info43 rfl (.slice lo k lc) k xs rfl HT5.out.row (.slice (some ⟨w4.heap.size, 0, none⟩) 1 1) 1 [.int .i64 1, .slice (some ⟨db, 0, none⟩) 1 1] rfl HSr.out (by omega) (by omega) ?_
      intro v' w6 ha1 ha2 ha3
      obtain ⟨uo, uc, rfl⟩ := own_formN ha1
      obtain ⟨x1, x0, x2, x3⟩ := pc_app HT5.out (by have h1 := HZ4.out _ HF4.out.1; have h2 := g5.size; omega) ha1 ha2 ha3
      have c4 := cell1 x1
      have z4 := frz x1 0
      have hq6 := cell1 x0
      refine hK.out _ _ (hq6) (fun hHeld => ?_)
      clear hK Kc
      (try simp only [Act.put]); (try simp only [List.setIfInBounds_toArray]); (try simp only [List.set_cons_succ]); (try simp only [List.set_cons_zero])
      refine wpAnyH_ready (rs := [5]) (by kernel_rfl) (by simp) ?_
      refine (AllReadyH.cons (o := { dst := none, op := Op.store 39 (Operand.tmp 8) (Operand.tmp 32), type := 0, pos := "lay.go:69", after := #[{ on := 4, ground := Ground.data }, { on := 4, ground := Ground.chain }, { on := 0, ground := Ground.phase }, { on := 1, ground := Ground.phase }, { on := 2, ground := Ground.phase }, { on := 3, ground := Ground.phase }, { on := 4, ground := Ground.phase }], guard := none }) rfl (fun Kc hK => ?_) AllReadyH.nil)
      obtain ⟨w7, hw7⟩ : ∃ w7, w6.setCell ⟨z + 4, 0, none⟩ (.slice uo (k + 1) uc) = w7 := ⟨_, rfl⟩
      rw [hw7] at x2 x3
      have HT7 := hidM x3
      have HF7 := hidM (FrR.trans (FrR.trans HF4.out.1 (Gr.frR g5)) x2)
      have q7 := cell1 x3.hq
      go_simp
      refine hK.out _ _ (q7) (fun hHeld => ?_)
      clear hK Kc
      (try simp only [Act.put]); (try simp only [List.setIfInBounds_toArray]); (try simp only [List.set_cons_succ]); (try simp only [List.set_cons_zero])
      refine wpAnyH_done (by kernel_rfl) ?_ _
      have fz7 := cell1 HT7.out.fz
      have HN := hidM (newPile18 fb fcc false ao ca w7 (HTb.out w7 HF7.out).1 (HTb.out w7 HF7.out).2)
      clear c4 z4 hq6 x0 x1 x2 x3 ha1 ha2 ha3 hw5 hw7 q7 HSr g5
      gi_wp2_with (refine ⟨trivial, ?_⟩; refine CallsIn.mono (CallsIn.inRound ll (callsIn_wide.2 HN.out)) ?_; refine Hid.out ?_)
      unfold Hid
      rintro e w8 ⟨pl', pc', p', n', m', t', fo', fc', rfl, g8, hp8⟩
      obtain ⟨y1, y2, y3⟩ := pc_new HT7.out (HZ4.out _ HF7.out) g8 hp8
      have c8 := cell1 y1
      have z8 := frz y1 0
      have HFin := HNx.out _ (FrR.trans HF7.out y2) y3
      clear y1 y2 y3 g8 hp8 fz7 HT7 HF7
      gi_wp2_with fail
      exact HFin
    · clear lze
      go_simp
      go_at_call 20
      refine Calls.mono HD20e.out ?_
      rintro e' w4 ⟨db, rfl, HF4⟩
      have HT4 := hidM HF4.out.2.1
      have lz4 := cell1 HT4.out.lz
      have HS4 := hidM (cell1 HT4.out.hq)
      go_wp2_with fail
      refine hK.out _ _ (HS4.out) (fun hHeld => ?_)
      clear hK Kc
      (try simp only [Act.put]); (try simp only [List.setIfInBounds_toArray]); (try simp only [List.set_cons_succ]); (try simp only [List.set_cons_zero])
      refine wpAnyH_ready (rs := [0, 3]) (by kernel_rfl) (by simp) ?_
      refine (AllReadyH.cons (o := { dst := some 28, op := Op.load 39 (Operand.tmp 8), type := 39, pos := "lay.go:69", after := #[], guard := none }) rfl (fun Kc hK => ?_) (AllReadyH.cons (o := { dst := some 31, op := Op.buildSlice 39 1 #[(0, Operand.tmp 30)], type := 39, pos := "lay.go:69", after := #[{ on := 2, ground := Ground.data }], guard := none }) rfl (fun Kc hK => ?_) AllReadyH.nil))
      · go_simp
        refine hK.out _ _ (HS4.out) (fun hHeld => ?_)
        clear hK Kc
        (try simp only [Act.put]); (try simp only [List.setIfInBounds_toArray]); (try simp only [List.set_cons_succ]); (try simp only [List.set_cons_zero])
        refine wpAnyH_ready (rs := [3]) (by kernel_rfl) (by simp) ?_
        refine (AllReadyH.cons (o := { dst := some 31, op := Op.buildSlice 39 1 #[(0, Operand.tmp 30)], type := 39, pos := "lay.go:69", after := #[{ on := 2, ground := Ground.data }], guard := none }) rfl (fun Kc hK => ?_) AllReadyH.nil)
        obtain ⟨w5, hw5⟩ : ∃ w5, w4.alloc (.cells #[.int .i64 1, .slice (some ⟨db, 0, none⟩) 1 1] 43) = w5 := ⟨_, rfl⟩
        have g5 : Gr w4 w5 := by rw [← hw5]; exact gr_alloc w4 _
        have HT5 := hidM (HT4.out.gr g5)
        have HSr := hidM (src43 w4 (.int .i64 1) (.slice (some ⟨db, 0, none⟩) 1 1) rfl rfl)
        have lz5 := cell1 HT5.out.lz
        have HS5 := hidM (cell1 HT5.out.hq)
        go_simp
        refine hK.out _ _ (HS5.out) (fun hHeld => ?_)
        clear hK Kc
        (try simp only [Act.put]); (try simp only [List.setIfInBounds_toArray]); (try simp only [List.set_cons_succ]); (try simp only [List.set_cons_zero])
        clear lz5
        refine wpAnyH_ready (rs := [4]) (by kernel_rfl) (by simp) ?_
        refine (AllReadyH.cons (o := { dst := some 32, op := Op.call { callee := Callee.builtin Builtin.append, args := #[Operand.tmp 28, Operand.tmp 31], argTypes := #[39, 39] }, type := 39, pos := "lay.go:69", after := #[{ on := 0, ground := Ground.data }, { on := 3, ground := Ground.data }, { on := 2, ground := Ground.chain }], guard := none }) rfl (fun Kc hK => ?_) AllReadyH.nil)
        rw [hw5] at HSr
        refine step_append_anyN (P := Tryz.prog) _ rfl (.tmp 28) (.tmp 31) 39 39 rfl 43 (.agg #[.int .i64 0, .slice none 0 0]) 2 32 Tryz.underlying39 info43 rfl (.slice lo k lc) k xs rfl HT5.out.row (.slice (some ⟨w4.heap.size, 0, none⟩) 1 1) 1 [.int .i64 1, .slice (some ⟨db, 0, none⟩) 1 1] rfl HSr.out (by omega) (by omega) ?_
        intro v' w6 ha1 ha2 ha3
        obtain ⟨uo, uc, rfl⟩ := own_formN ha1
        obtain ⟨x1, x0, x2, x3⟩ := pc_app HT5.out (by have h1 := HZ4.out _ HF4.out.1; have h2 := g5.size; omega) ha1 ha2 ha3
        have c4 := cell1 x1
        have z4 := frz x1 0
        have hq6 := cell1 x0
        refine hK.out _ _ (hq6) (fun hHeld => ?_)
        clear hK Kc
        (try simp only [Act.put]); (try simp only [List.setIfInBounds_toArray]); (try simp only [List.set_cons_succ]); (try simp only [List.set_cons_zero])
        refine wpAnyH_ready (rs := [5]) (by kernel_rfl) (by simp) ?_
        refine (AllReadyH.cons (o := { dst := none, op := Op.store 39 (Operand.tmp 8) (Operand.tmp 32), type := 0, pos := "lay.go:69", after := #[{ on := 4, ground := Ground.data }, { on := 4, ground := Ground.chain }, { on := 0, ground := Ground.phase }, { on := 1, ground := Ground.phase }, { on := 2, ground := Ground.phase }, { on := 3, ground := Ground.phase }, { on := 4, ground := Ground.phase }], guard := none }) rfl (fun Kc hK => ?_) AllReadyH.nil)
        obtain ⟨w7, hw7⟩ : ∃ w7, w6.setCell ⟨z + 4, 0, none⟩ (.slice uo (k + 1) uc) = w7 := ⟨_, rfl⟩
        rw [hw7] at x2 x3
        have HT7 := hidM x3
        have HF7 := hidM (FrR.trans (FrR.trans HF4.out.1 (Gr.frR g5)) x2)
        have q7 := cell1 x3.hq
        go_simp
        refine hK.out _ _ (q7) (fun hHeld => ?_)
        clear hK Kc
        (try simp only [Act.put]); (try simp only [List.setIfInBounds_toArray]); (try simp only [List.set_cons_succ]); (try simp only [List.set_cons_zero])
        refine wpAnyH_done (by kernel_rfl) ?_ _
        have fz7 := cell1 HT7.out.fz
        have HN := hidM (newPile18 fb fcc false ao ca w7 (HTb.out w7 HF7.out).1 (HTb.out w7 HF7.out).2)
        clear c4 z4 hq6 x0 x1 x2 x3 ha1 ha2 ha3 hw5 hw7 q7 HSr g5
        gi_wp2_with (refine ⟨trivial, ?_⟩; refine CallsIn.mono (CallsIn.inRound ll (callsIn_wide.2 HN.out)) ?_; refine Hid.out ?_)
        unfold Hid
        rintro e w8 ⟨pl', pc', p', n', m', t', fo', fc', rfl, g8, hp8⟩
        obtain ⟨y1, y2, y3⟩ := pc_new HT7.out (HZ4.out _ HF7.out) g8 hp8
        have c8 := cell1 y1
        have z8 := frz y1 0
        have HFin := HNx.out _ (FrR.trans HF7.out y2) y3
        clear y1 y2 y3 g8 hp8 fz7 HT7 HF7
        gi_wp2_with fail
        exact HFin
      · clear lz4
        obtain ⟨w5, hw5⟩ : ∃ w5, w4.alloc (.cells #[.int .i64 1, .slice (some ⟨db, 0, none⟩) 1 1] 43) = w5 := ⟨_, rfl⟩
        have g5 : Gr w4 w5 := by rw [← hw5]; exact gr_alloc w4 _
        have HT5 := hidM (HT4.out.gr g5)
        have HSr := hidM (src43 w4 (.int .i64 1) (.slice (some ⟨db, 0, none⟩) 1 1) rfl rfl)
        have lz5 := cell1 HT5.out.lz
        have HS5 := hidM (cell1 HT5.out.hq)
        go_simp
        refine hK.out _ _ (HS5.out) (fun hHeld => ?_)
        clear hK Kc
        (try simp only [Act.put]); (try simp only [List.setIfInBounds_toArray]); (try simp only [List.set_cons_succ]); (try simp only [List.set_cons_zero])
        refine wpAnyH_ready (rs := [0]) (by kernel_rfl) (by simp) ?_
        refine (AllReadyH.cons (o := { dst := some 28, op := Op.load 39 (Operand.tmp 8), type := 39, pos := "lay.go:69", after := #[], guard := none }) rfl (fun Kc hK => ?_) AllReadyH.nil)
        go_simp
        refine hK.out _ _ (HS5.out) (fun hHeld => ?_)
        clear hK Kc
        (try simp only [Act.put]); (try simp only [List.setIfInBounds_toArray]); (try simp only [List.set_cons_succ]); (try simp only [List.set_cons_zero])
        refine wpAnyH_ready (rs := [4]) (by kernel_rfl) (by simp) ?_
        refine (AllReadyH.cons (o := { dst := some 32, op := Op.call { callee := Callee.builtin Builtin.append, args := #[Operand.tmp 28, Operand.tmp 31], argTypes := #[39, 39] }, type := 39, pos := "lay.go:69", after := #[{ on := 0, ground := Ground.data }, { on := 3, ground := Ground.data }, { on := 2, ground := Ground.chain }], guard := none }) rfl (fun Kc hK => ?_) AllReadyH.nil)
        rw [hw5] at HSr
        refine step_append_anyN (P := Tryz.prog) _ rfl (.tmp 28) (.tmp 31) 39 39 rfl 43 (.agg #[.int .i64 0, .slice none 0 0]) 2 32 Tryz.underlying39 info43 rfl (.slice lo k lc) k xs rfl HT5.out.row (.slice (some ⟨w4.heap.size, 0, none⟩) 1 1) 1 [.int .i64 1, .slice (some ⟨db, 0, none⟩) 1 1] rfl HSr.out (by omega) (by omega) ?_
        intro v' w6 ha1 ha2 ha3
        obtain ⟨uo, uc, rfl⟩ := own_formN ha1
        obtain ⟨x1, x0, x2, x3⟩ := pc_app HT5.out (by have h1 := HZ4.out _ HF4.out.1; have h2 := g5.size; omega) ha1 ha2 ha3
        have c4 := cell1 x1
        have z4 := frz x1 0
        have hq6 := cell1 x0
        refine hK.out _ _ (hq6) (fun hHeld => ?_)
        clear hK Kc
        (try simp only [Act.put]); (try simp only [List.setIfInBounds_toArray]); (try simp only [List.set_cons_succ]); (try simp only [List.set_cons_zero])
        refine wpAnyH_ready (rs := [5]) (by kernel_rfl) (by simp) ?_
        refine (AllReadyH.cons (o := { dst := none, op := Op.store 39 (Operand.tmp 8) (Operand.tmp 32), type := 0, pos := "lay.go:69", after := #[{ on := 4, ground := Ground.data }, { on := 4, ground := Ground.chain }, { on := 0, ground := Ground.phase }, { on := 1, ground := Ground.phase }, { on := 2, ground := Ground.phase }, { on := 3, ground := Ground.phase }, { on := 4, ground := Ground.phase }], guard := none }) rfl (fun Kc hK => ?_) AllReadyH.nil)
        obtain ⟨w7, hw7⟩ : ∃ w7, w6.setCell ⟨z + 4, 0, none⟩ (.slice uo (k + 1) uc) = w7 := ⟨_, rfl⟩
        rw [hw7] at x2 x3
        have HT7 := hidM x3
        have HF7 := hidM (FrR.trans (FrR.trans HF4.out.1 (Gr.frR g5)) x2)
        have q7 := cell1 x3.hq
        go_simp
        refine hK.out _ _ (q7) (fun hHeld => ?_)
        clear hK Kc
        (try simp only [Act.put]); (try simp only [List.setIfInBounds_toArray]); (try simp only [List.set_cons_succ]); (try simp only [List.set_cons_zero])
        refine wpAnyH_done (by kernel_rfl) ?_ _
        have fz7 := cell1 HT7.out.fz
        have HN := hidM (newPile18 fb fcc false ao ca w7 (HTb.out w7 HF7.out).1 (HTb.out w7 HF7.out).2)
        clear c4 z4 hq6 x0 x1 x2 x3 ha1 ha2 ha3 hw5 hw7 q7 HSr g5
        gi_wp2_with (refine ⟨trivial, ?_⟩; refine CallsIn.mono (CallsIn.inRound ll (callsIn_wide.2 HN.out)) ?_; refine Hid.out ?_)
        unfold Hid
        rintro e w8 ⟨pl', pc', p', n', m', t', fo', fc', rfl, g8, hp8⟩
        obtain ⟨y1, y2, y3⟩ := pc_new HT7.out (HZ4.out _ HF7.out) g8 hp8
        have c8 := cell1 y1
        have z8 := frz y1 0
        have HFin := HNx.out _ (FrR.trans HF7.out y2) y3
        clear y1 y2 y3 g8 hp8 fz7 HT7 HF7
        gi_wp2_with fail
        exact HFin
  case done =>
    rintro O xs V rfl hi hsV hd
    have hst : PcS z q fb fcc V 2 := hi.st
    obtain ⟨lo, lc, pl, xs, pc, p, n, m, t, fo, fc, hT, hP⟩ := hst.t
    have gV := hi.1
    obtain ⟨g, hg, hcap, hgc⟩ : ∃ g, lo = some ⟨g, 0, none⟩ ∧ 2 ≤ lc ∧ V.cell? ⟨g, 2, none⟩ = some (.int .i64 1) := by
      rcases hT.row.2 with ⟨_, h⟩ | ⟨g, cap, cur, e0, _, hgg, h1, h2, h3, h4⟩
      · omega
      · cases e0
        have h5 := hT.one 1 (by omega)
        rw [← h4] at h5
        refine ⟨g, rfl, h1, ?_⟩
        rw [List.getElem?_take] at h5
        simp at h5
        simp [World.cell?, hgg, h5]
    subst hg
    have hrow : ∃ cs fz, V.heap[g]? = some (.cells cs 43 fz) := own_typeN hT.row rfl
    have c9 := cell1 hT.hq
    have c0 : V.cell? ⟨pl, 0, none⟩ = some (.int .i64 0) := (cell2 hP.hl).1
    have c4 := cell1 hT.lz
    have c2 := cell1 hT.rz
    have f2 := frz hT.rz 0
    have HU : Hid (∃ U, V.setCell ⟨z + 2, 0, none⟩ (.slice (some ⟨g, 0, none⟩) 2 lc) = U ∧ U.heap[z + 3]? = some (.cells #[.int .i64 0] 33) ∧ Hid (U.heap[w2.heap.size]? = some (.deferred (some []))) ∧ Hid (∀ u, Keeps U u (fun b => b = w2.heap.size) → (u.heap[z + 2]? = some (.cells #[.slice (some ⟨g, 0, none⟩) 2 lc] 39) ∧ u.heap[z + 3]? = some (.cells #[.int .i64 0] 33)) ∧ Gr W u ∧ u.cell? ⟨g, 2, none⟩ = some (.int .i64 1))) := by
      have ks : Keeps V (V.setCell ⟨z + 2, 0, none⟩ (.slice (some ⟨g, 0, none⟩) 2 lc)) (fun b => b = z + 2) := Keeps.setCell (S := fun b => b = z + 2) (p := ⟨z + 2, 0, none⟩) (Keeps.refl V _) (fun _ => rfl) _
      have kb := heap_setCell_same V (z + 2) 0 _ _ (.slice (some ⟨g, 0, none⟩) 2 lc) hT.rz
      obtain ⟨U, hU⟩ : ∃ U, V.setCell ⟨z + 2, 0, none⟩ (.slice (some ⟨g, 0, none⟩) 2 lc) = U := ⟨_, rfl⟩
      rw [hU] at ks kb
      have e3 := (ks.block _ (lt_of_heap hT.ez) (fun e => by have e' : z + 3 = z + 2 := e; omega)).trans hT.ez
      have dU : U.heap[w2.heap.size]? = some (.deferred (some [])) := (ks.block _ (by omega) (fun e => by have e' : w2.heap.size = z + 2 := e; omega)).trans hd
      obtain ⟨cs, fz, hgg⟩ := hrow
      refine ⟨U, hU, e3, dU, fun u ku => ⟨⟨(ku.block _ (lt_of_heap kb) (fun e => by have e' : z + 2 = w2.heap.size := e; omega)).trans kb, (ku.block _ (lt_of_heap e3) (fun e => by have e' : z + 3 = w2.heap.size := e; omega)).trans e3⟩, ?_, ?_⟩⟩
      · exact (gV.trans ks (fun j hj e => by have e' : j = z + 2 := e; omega)).trans ku (fun j hj e => by have e' : j = w2.heap.size := e; omega)
      · refine ku.cell' (ks.cell' hgc (fun e => ?_)) (fun e => ?_)
        · have e' : g = z + 2 := e
          rw [e', hT.rz] at hgg
          cases hgg
        · have e' : g = w2.heap.size := e
          rw [e', hd] at hgg
          cases hgg
    obtain ⟨U, hU, e3, HDf, HE⟩ := HU.out
    have y2 := cell1 e3
    have f3 := frz e3 0
    have i3 := set_idT (j := 0) (v := .int .i64 0) e3 rfl
    clear hsq H0 HGW HG HC HTW HZ HS hsz hv HTb hi gV hsV hd hst hT hP hrow hgc hA1 hA2 hA3 hA4 hA5 hz sA1 sA2 sA3 sA4 e3 HU
    go_wp2_with fail
    refine ⟨by simp, .inl ⟨_, _, rfl, run_takeDeferred HDf.out, ?_⟩⟩
    obtain ⟨⟨r0, r1⟩, r2, r3⟩ := HE.out _ (keeps_put U w2.heap.size (.deferred none))
    refine ⟨.tuple #[.slice (some ⟨g, 0, none⟩) 2 lc, .int .i64 0], ?_, g, lc, rfl, r2, hcap, r3⟩
    exact results_cell39_33 rfl rfl rfl r0 r1
  case stop => intro O c pre V h1 h2; exact h2.elim
end Go.Proofs.YtegjpmodleigeaaGreatDoor.Kit
