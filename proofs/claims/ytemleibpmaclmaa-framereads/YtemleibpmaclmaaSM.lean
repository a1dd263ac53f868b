import Derived.Test.YtemleibpmaclmaaSL
namespace Go.Proofs.Ytemleibpmaclmaa.Kit
open Go.RowKit Go.Shelf Go.Deep
set_option linter.unusedVariables false
attribute [local go_sem] run_store_func

theorem run_storeVar_off (w : World) (b o : Nat) (ty : TypeId) (cells cur : Array Value) (T : Nat) (hb : w.heap[b]? = some (.cells cur T (0, 0))) (hsz : o + cells.size ≤ cur.size) (hi : (Try.prog.info? ty).map (·.size) = some cells.size) (h1 : ∀ v ∈ cells.toList, v.oneCell' = true) :
    (storeVar ty ⟨b, o, none⟩ (.agg cells)).run Try.prog w = .ok () (w.setRow b (cur.toList.take o ++ cells.toList ++ cur.toList.drop (o + cells.size)).toArray) := by
  have hst := run_storeCells_at Try.prog b o T cells.toList 0 cur w hb (by simpa using hsz) h1
  simp only [Nat.add_zero, Array.length_toList] at hst
  cases hq : Try.prog.info? ty with
  | none => simp [hq] at hi
  | some i =>
    have hs : cells.size = i.size := by simp [hq] at hi; omega
    rw [hs] at hst
    simp [storeVar, sizeOf, typeInfo, hq, Value.cells, hs, hst]
theorem wpList_store_off {ops : Array Oper} {rest : List Oper} {op : Oper} {a : Act} {w : World} {Q : Exit → Act → World → Prop} (hgd : op.guard = none) (ty : TypeId) (x y : Operand) (ho : op.op = .store ty x y)
    (b o : Nat) (cells : Array Value) {cur : Array Value} {T : Nat} (hb : w.heap[b]? = some (.cells cur T (0, 0))) (hx : a.eval x = .pointer (some ⟨b, o, none⟩)) (hy : a.eval y = .agg cells)
    (hsz : o + cells.size ≤ cur.size) (hi : (Try.prog.info? ty).map (·.size) = some cells.size) (h1 : ∀ v ∈ cells.toList, v.oneCell' = true)
    (h : wpList Try.prog ops Q rest (a.put op.dst undef) (w.setRow b (cur.toList.take o ++ cells.toList ++ cur.toList.drop (o + cells.size)).toArray)) : wpList Try.prog ops Q (op :: rest) a w :=
  wpList_plain hgd fun _ hK => by
    unfold Oper.wp execOp
    simp only [ho, hx, hy, Instr.storeAt, Instr.sureAddr, Sem.run_bind, Sem.run_pure, Result.andThen_ok, run_storeVar_off w b o ty cells cur T hb hsz hi h1]
    exact hK _ _ h
/-! ### the first message is told -/
def pop2 (R : Nat → Row) (i : Nat) : Row := if i < 3 then R i else R (i + 2)
def popF (s : Sc) : Sc := { s with ms := s.ms.tail }
theorem wCells_pop (R : Nat → Row) (n : Nat) : wCells R (n + 1) = rv (R 3) :: rv (R 4) :: wCells (pop2 R) n := by
  unfold wCells
  rw [List.range_succ_eq_map, List.flatMap_cons, List.flatMap_map]
  simp only [Nat.mul_zero, Nat.add_zero, List.cons_append, List.nil_append]
  congr 3
  funext i
  unfold pop2
  rw [if_neg (by omega), if_neg (by omega)]
  have e1 : 3 + 2 * i + 2 = 3 + 2 * (i + 1) := by omega
  have e2 : 4 + 2 * i + 2 = 4 + 2 * (i + 1) := by omega
  rw [e1, e2]
theorem row_pop (s : Sc) (i : Nat) : (popF s).row i = if i < 3 then s.row i else s.row (i + 2) := by
  unfold Sc.row popF
  by_cases c : i < 3
  · rw [if_pos c]
    have : i = 0 ∨ i = 1 ∨ i = 2 := by omega
    rcases this with rfl | rfl | rfl <;> rfl
  · rw [if_neg c]
    have h0 : ¬ i = 0 := by omega
    have h1 : ¬ i = 1 := by omega
    have h2 : ¬ i = 2 := by omega
    have g0 : ¬ i + 2 = 0 := by omega
    have g1 : ¬ i + 2 = 1 := by omega
    have g2 : ¬ i + 2 = 2 := by omega
    simp only [h0, h1, h2, g0, g1, g2, if_false]
    have e : (i + 2 - 3) / 2 = (i - 3) / 2 + 1 := by omega
    have e2 : (i + 2) % 2 = i % 2 := by omega
    have e3 : s.ms.tail.getD ((i - 3) / 2) ([], []) = s.ms.getD ((i - 3) / 2 + 1) ([], []) := by
      cases s.ms with
      | nil => simp
      | cons a t => simp
    rw [e, e2, e3]
theorem Rd.popped {w W V : World} {p n : Nat} {tl : List Value} {s : Sc} {R : Nat → Row} {wo wo' : Option Addr} {wc wc' : Nat} (h : Rd w W p 76 tl s R wo wc) (hn : s.ms.length = n + 1) (k : Keeps W V (fun x => x = p ∨ (Value.slice wo s.ms.length wc).ownBlock = some x))
    (hb : V.heap[p]? = some (.cells (scCells (popF s) (pop2 R) wo' wc' ++ tl).toArray 76 (0, 0))) (hw : OffRow V 24 2 wo' n wc' (wCells (pop2 R) n)) (hwb : ∀ x, (Value.slice wo' n wc').ownBlock = some x → (Value.slice wo s.ms.length wc).ownBlock = some x) :
    From w W V p 76 tl s.ms.length R wo wc (popF s) (pop2 R) wo' wc' ∧
    (∀ i, i = 3 ∨ i = 4 → V.ownsRow 0 5 1 (rv (R i)) (R i).2.1 (bv (s.row i)) ∧ ∀ x, (rv (R i)).ownBlock = some x → w.heap.size ≤ x ∧ ¬ RIs p n (pop2 R) wo' wc' x) ∧ (∀ x, (rv (R 3)).ownBlock = some x → (rv (R 4)).ownBlock ≠ some x) := by
  have tp : Typ W p 76 := ⟨_, _, h.box⟩
  have wsz := h.gr.size
  have hl : (popF s).ms.length = n := by unfold popF; simp [hn]
  have row5 : ∀ i, i < 3 + 2 * s.ms.length → V.ownsRow 0 5 1 (rv (R i)) (R i).2.1 (bv (s.row i)) := fun i hi => own_kp (h.rows i hi) fun g e => k.block g (own_lt (h.rows i hi) g e) (fun z => by
    have t5 := own_typ (h.rows i hi) e
    rcases z with z | z
    · subst z; exact absurd (tp.ne t5) (by decide)
    · exact absurd ((h.wown.typ z).ne t5) (by decide))
  have idx : ∀ i, i < 3 + 2 * n → ∃ j, j < 3 + 2 * s.ms.length ∧ pop2 R i = R j ∧ (popF s).row i = s.row j ∧ ((i < 3 ∧ j = i) ∨ (3 ≤ i ∧ j = i + 2)) := fun i hi => by
    rw [row_pop]
    unfold pop2
    by_cases c : i < 3
    · exact ⟨i, by omega, by rw [if_pos c], by rw [if_pos c], .inl ⟨c, rfl⟩⟩
    · exact ⟨i + 2, by omega, by rw [if_neg c], by rw [if_neg c], .inr ⟨by omega, rfl⟩⟩
  have sub : ∀ x, RIs p n (pop2 R) wo' wc' x → RIs p s.ms.length R wo wc x := fun x e => by
    rcases e with e | e | ⟨i, hi, e⟩
    · exact .inl e
    · exact .inr (.inl (hwb x e))
    · obtain ⟨j, hj, q1, -⟩ := idx i hi
      rw [q1] at e
      exact .inr (.inr ⟨j, hj, e⟩)
  refine ⟨⟨⟨h.gr.trans k (fun j hj e => ?_), h.pnew, h.ty, hb, fun i hi => ?_, fun i hi g e => ?_, fun i j g hi hj hij e q => ?_, by rw [hl]; exact hw, fun g e => ?_⟩, k.mono fun x _ e => ?_, fun g e => .inl (sub g (by rw [hl] at e; exact e))⟩, fun i hi => ⟨row5 i (by omega), fun x e => ⟨h.rnew i (by omega) x e, fun z => ?_⟩⟩, fun x e => h.apart 3 4 x (by omega) (by omega) (by omega) e⟩
  · rcases e with e | e
    · have := h.pnew; omega
    · have := h.wnew j e; omega
  · rw [hl] at hi
    obtain ⟨j, hj, q1, q2, -⟩ := idx i hi
    rw [q1, q2]
    exact row5 j hj
  · rw [hl] at hi
    obtain ⟨j, hj, q1, -⟩ := idx i hi
    rw [q1] at e
    exact h.rnew j hj g e
  · rw [hl] at hi hj
    obtain ⟨i', hi', q1, -, q3⟩ := idx i hi
    obtain ⟨j', hj', u1, -, u3⟩ := idx j hj
    rw [q1] at e
    rw [u1] at q
    exact h.apart i' j' g hi' hj' (by omega) e q
  · rw [hl] at e
    exact h.wnew g (hwb g e)
  · rcases e with e | e
    · exact .inl e
    · exact .inr (.inl e)
  · have t5 := own_typ (h.rows i (by omega)) e
    rcases z with z | z | ⟨j, hj, z⟩
    · subst z; exact absurd (tp.ne t5) (by decide)
    · exact absurd ((h.wown.typ (hwb x z)).ne t5) (by decide)
    · obtain ⟨j', hj', u1, -, u3⟩ := idx j hj
      rw [u1] at z
      exact h.apart i j' x (by omega) hj' (by omega) e z
/-- what first leaves -/
def Told (w W V : World) (p : Nat) (tl : List Value) (s : Sc) (R : Nat → Row) (wo : Option Addr) (wc : Nat) : Prop :=
  ∃ wo' wc', From w W V p 76 tl s.ms.length R wo wc (popF s) (pop2 R) wo' wc' ∧
    (∀ i, i = 3 ∨ i = 4 → V.ownsRow 0 5 1 (rv (R i)) (R i).2.1 (bv (s.row i)) ∧ ∀ x, (rv (R i)).ownBlock = some x → w.heap.size ≤ x ∧ ¬ RIs p (popF s).ms.length (pop2 R) wo' wc' x) ∧ (∀ x, (rv (R 3)).ownBlock = some x → (rv (R 4)).ownBlock ≠ some x)
set_option maxRecDepth 100000 in
set_option maxHeartbeats 8000000 in
theorem first_any {w W : World} {p n : Nat} {x y : Value} {s : Sc} {R : Nat → Row} {wo : Option Addr} {wc : Nat} (h : Rd w W p 76 [x, y] s R wo wc) (hn : s.ms.length = n + 1) :
    Calls Try.prog 38 #[.pointer (some ⟨p, 0, none⟩)] W fun e w' => e = .returned (.agg #[rv (R 3), rv (R 4)]) ∧ Told w W w' p [x, y] s R wo wc := by
  have hw := h.wown
  rcases hw.ex with ⟨-, h0, -⟩ | ⟨g, off, cur, rfl, hg, hnc, hcm, hcs, htake⟩
  · omega
  obtain ⟨m1, m2, m3, hR3⟩ : ∃ a b c, R 3 = (a, b, c) := ⟨_, _, _, rfl⟩
  obtain ⟨b1, b2, b3, hR4⟩ : ∃ a b c, R 4 = (a, b, c) := ⟨_, _, _, rfl⟩
  have hwc : wCells R s.ms.length = rv (R 3) :: rv (R 4) :: wCells (pop2 R) n := by rw [hn]; exact wCells_pop R n
  have cg0 : W.cell? ⟨g, off, none⟩ = some (.slice m1 m2 m3) := by
    have := hw.cells (j := 0) (u := rv (R 3)) (by rw [hwc]; rfl)
    rw [hR3] at this
    exact this
  have cg1 : W.cell? ⟨g, off + 1, none⟩ = some (.slice b1 b2 b3) := by
    have := hw.cells (j := 1) (u := rv (R 4)) (by rw [hwc]; rfl)
    rw [hR4] at this
    exact this
  have c10 : W.cell? ⟨p, 10, none⟩ = some (.slice (some ⟨g, off, none⟩) s.ms.length wc) := h.cells rfl
  obtain ⟨N, hN⟩ : ∃ N, N = s.ms.length := ⟨_, rfl⟩
  have HR := hidM h
  have HG := hidM hg
  have HWc := hidM hwc
  have HTk := hidM htake
  have HNe := hidM hN
  have HR3 := hidM hR3
  have HR4 := hidM hR4
  have a0 : ∀ o, (W.alloc o).cell? ⟨g, off, none⟩ = some (.slice m1 m2 m3) := fun o => (gr_alloc W o).cell' cg0 id
  have a1 : ∀ o, (W.alloc o).cell? ⟨g, off + 1, none⟩ = some (.slice b1 b2 b3) := fun o => (gr_alloc W o).cell' cg1 id
  have a10 : ∀ o, (W.alloc o).cell? ⟨p, 10, none⟩ = some (.slice (some ⟨g, off, none⟩) s.ms.length wc) := fun o => (gr_alloc W o).cell' c10 id
  have a10' : ∀ o o', ((W.alloc o).alloc o').cell? ⟨p, 10, none⟩ = some (.slice (some ⟨g, off, none⟩) s.ms.length wc) := fun o o' => (gr_alloc _ o').cell' (a10 o) id
  rw [← hN] at a10 a10' hnc hn
  have hN0 : (0 : Int) < (N : Int) := by omega
  have hN1 : (1 : Int) ≤ (N : Int) := by omega
  clear h hw hg htake hwc cg0 cg1 c10 hN
  go_enter Try.func38, Try.ntmps38
  go_wp2_with (with_reducible show wpList Try.prog _ _ (Oper.mk none (Op.store 24 (Operand.tmp 15) _) _ _ _ _ :: _) _ _; refine Hid.out ?_)
  unfold Hid
  obtain ⟨A, hA⟩ : ∃ A, A = W.alloc (.cells #[.slice none 0 0, .slice none 0 0] 24) := ⟨_, rfl⟩
  have gA : Gr W A := by rw [hA]; exact gr_alloc _ _
  have sA : A.heap.size = W.heap.size + 1 := by rw [hA]; simp
  have hra : A.heap[W.heap.size]? = some (.cells #[.slice none 0 0, .slice none 0 0] 24 (0, 0)) := by rw [hA]; exact heap_alloc_new W _
  rw [← hA, ← sA]
  clear hA
  obtain ⟨B, hB⟩ : ∃ B, B = A.alloc (.cells #[.slice m1 m2 m3, .slice b1 b2 b3] 24) := ⟨_, rfl⟩
  have gB : Gr A B := by rw [hB]; exact gr_alloc _ _
  have sB : B.heap.size = A.heap.size + 1 := by rw [hB]; simp
  have hrb : B.heap[A.heap.size]? = some (.cells #[.slice m1 m2 m3, .slice b1 b2 b3] 24 (0, 0)) := by rw [hB]; exact heap_alloc_new A _
  rw [← hB]
  clear hB
  obtain ⟨ra, hrae⟩ : ∃ ra, ra = W.heap.size := ⟨_, rfl⟩
  obtain ⟨rb, hrbe⟩ : ∃ rb, rb = A.heap.size := ⟨_, rfl⟩
  rw [← hrae] at hra
  rw [← hrbe] at hrb
  simp only [← hrae, ← hrbe]
  have hra' := (gB.block ra (by omega) id).trans hra
  have gW := gA.trans gB (fun _ _ h => h)
  have tp : Typ W p 76 := ⟨_, _, HR.out.box⟩
  have hgW : g < W.heap.size := lt_of_heap HG.out
  have hpW : p < W.heap.size := lt_of_heap HR.out.box
  have hpg : p ≠ g := fun e => by
    have t2 : Typ W p 24 := by rw [e]; exact ⟨_, _, HG.out⟩
    exact absurd (tp.ne t2) (by decide)
  have hgB : B.heap[g]? = some (.cells cur 24 (0, 0)) := (gW.block g hgW id).trans HG.out
  have HN1 : Hid (N = n + 1) := hn
  refine wpList_store_off rfl 24 (.tmp 15) (.tmp 14) rfl g off #[.slice none 0 0, .slice none 0 0] hgB (by rfl) (by rfl) (by show off + 2 ≤ cur.size; omega) (by kernel_rfl) (by simp [Value.oneCell']) ?_
  obtain ⟨C, hC⟩ : ∃ C, C = B.setRow g (cur.toList.take off ++ (#[.slice none 0 0, .slice none 0 0] : Array Value).toList ++ cur.toList.drop (off + (#[.slice none 0 0, .slice none 0 0] : Array Value).size)).toArray := ⟨_, rfl⟩
  rw [← hC]
  obtain ⟨c2, hc2⟩ : ∃ c2 : List Value, c2 = cur.toList.take off ++ (#[.slice none 0 0, .slice none 0 0] : Array Value).toList ++ cur.toList.drop (off + (#[.slice none 0 0, .slice none 0 0] : Array Value).size) := ⟨_, rfl⟩
  rw [← hc2] at hC
  have hgC : C.heap[g]? = some (.cells c2.toArray 24 (0, 0)) := by rw [hC]; exact setRow_heap B g _ _ 24 (0, 0) hgB
  have hoC : ∀ z, z ≠ g → C.heap[z]? = B.heap[z]? := fun z hz => by rw [hC]; exact setRow_other B g z _ hz
  have hkC : Keeps W C (fun z => z = p ∨ z = g) := by
    have k1 : Keeps B C (fun z => z = g) := by rw [hC]; exact ⟨rfl, rfl, rfl, by simp, fun kk hk hn => setRow_other B g kk _ hn⟩
    exact (gW.mono fun _ _ f => f.elim).trans k1 (fun j hj e => .inr e)
  have hpC : C.heap[p]? = some (.cells (scCells s R (some ⟨g, off, none⟩) wc ++ [x, y]).toArray 76 (0, 0)) := (hoC p hpg).trans ((gW.block p hpW id).trans HR.out.box)
  have hraC := (hoC ra (by omega)).trans hra'
  have hrbC := (hoC rb (by omega)).trans hrb
  have t10 : C.cell? ⟨p, 10, none⟩ = some (.slice (some ⟨g, off, none⟩) N wc) := by rw [HNe.out]; simp [World.cell?, hpC, scCells]
  have f10 : C.frozen? ⟨p, 10, none⟩ = false := frz hpC 10
  have HRa : Hid (W.heap.size ≤ ra ∧ p < W.heap.size ∧ ra < rb) := by show _ ∧ _ ∧ _; omega
  have HF0 : Hid (∀ (C0 : World) (u : Value), (C0.heap[p]? = some (.cells ((scCells s R (some ⟨g, off, none⟩) wc ++ [x, y]).set 10 u).toArray 76 (0, 0)) ∧ C0.heap[g]? = some (.cells c2.toArray 24 (0, 0)) ∧ C0.heap[ra]? = some (.cells #[.slice none 0 0, .slice none 0 0] 24 (0, 0)) ∧ C0.heap[rb]? = some (.cells #[.slice m1 m2 m3, .slice b1 b2 b3] 24 (0, 0)) ∧ Keeps W C0 (fun z => z = p ∨ z = g)) → ∀ v, (C0.setCell ⟨p, 10, none⟩ v).heap[p]? = some (.cells ((scCells s R (some ⟨g, off, none⟩) wc ++ [x, y]).set 10 v).toArray 76 (0, 0)) ∧ (C0.setCell ⟨p, 10, none⟩ v).heap[g]? = some (.cells c2.toArray 24 (0, 0)) ∧ (C0.setCell ⟨p, 10, none⟩ v).heap[ra]? = some (.cells #[.slice none 0 0, .slice none 0 0] 24 (0, 0)) ∧ (C0.setCell ⟨p, 10, none⟩ v).heap[rb]? = some (.cells #[.slice m1 m2 m3, .slice b1 b2 b3] 24 (0, 0)) ∧ Keeps W (C0.setCell ⟨p, 10, none⟩ v) (fun z => z = p ∨ z = g)) := fun C0 u h v => by
    obtain ⟨h1, h2, h3, h4, h5⟩ := h
    have oth : ∀ z, z ≠ p → (C0.setCell ⟨p, 10, none⟩ v).heap[z]? = C0.heap[z]? := fun z hz => heap_setCell_other C0 ⟨p, 10, none⟩ z _ hz
    refine ⟨?_, (oth g (fun e => hpg e.symm)).trans h2, (oth ra (by omega)).trans h3, (oth rb (by omega)).trans h4, Keeps.setCell (S := fun z => z = p ∨ z = g) (p := ⟨p, 10, none⟩) h5 (fun _ => .inl rfl) v⟩
    rw [heap_setCell_same C0 p 10 _ 76 v h1]
    simp [scCells]
  have HFC : Hid (C.heap[p]? = some (.cells ((scCells s R (some ⟨g, off, none⟩) wc ++ [x, y]).set 10 (.slice (some ⟨g, off, none⟩) s.ms.length wc)).toArray 76 (0, 0)) ∧ C.heap[g]? = some (.cells c2.toArray 24 (0, 0)) ∧ C.heap[ra]? = some (.cells #[.slice none 0 0, .slice none 0 0] 24 (0, 0)) ∧ C.heap[rb]? = some (.cells #[.slice m1 m2 m3, .slice b1 b2 b3] 24 (0, 0)) ∧ Keeps W C (fun z => z = p ∨ z = g)) := ⟨hpC.trans (by simp [scCells]), hgC, hraC, hrbC, hkC⟩
  have HPl : Hid ((popF s).ms.length = n) := by
    show _ = _
    have := HN1.out
    have := HNe.out
    unfold popF
    simp
    omega
  have HCv : Hid (∀ (wo2 : Option Addr) (wc2 : Nat), (some (Obj.cells ((scCells s R (some ⟨g, off, none⟩) wc ++ [x, y]).set 10 (.slice wo2 n wc2)).toArray 76 (0, 0))) = some (.cells (scCells (popF s) (pop2 R) wo2 wc2 ++ [x, y]).toArray 76 (0, 0))) := fun wo2 wc2 => by
    have e0 : pop2 R 0 = R 0 := rfl
    have e1 : pop2 R 1 = R 1 := rfl
    have e2 : pop2 R 2 = R 2 := rfl
    simp only [scCells, e0, e1, e2, HPl.out]
    rfl
  have hdrop : c2.drop (off + 2) = cur.toList.drop (off + 2) := by
    rw [hc2, List.drop_left']
    · rfl
    · simp
      omega
  have hc2l : c2.length = cur.size := by
    rw [hc2]
    simp
    omega
  have HOff : Hid (∀ V : World, V.heap[g]? = some (.cells c2.toArray 24 (0, 0)) → OffRow V 24 2 (some ⟨g, off + 2, none⟩) n (wc - 1) (wCells (pop2 R) n)) := fun V hV => by
    have e1 : (cur.toList.drop (off + 2)).take (n * 2) = wCells (pop2 R) n := by
      have h1 := HTk.out
      rw [HWc.out, ← HNe.out, HN1.out] at h1
      have h2 := congrArg (List.drop 2) h1
      rw [List.drop_take, List.drop_drop] at h2
      simpa [show (n + 1) * 2 - 2 = n * 2 by omega] using h2
    refine ⟨?_, .inr ⟨g, off + 2, c2.toArray, rfl, hV, by omega, by omega, ?_, ?_⟩⟩
    · rw [← e1]
      simp
      have := HN1.out
      omega
    · simp
      omega
    · rw [List.toList_toArray, hdrop]
      exact e1
  clear hrae hrbe hC hoC hkC hpC hraC hrbC hgC hdrop hra hrb hra' gA gB gW sA sB hgB tp a0 a1 a10 a10' hc2 hc2l hR3 hR4
  by_cases hz : n = 0
  · subst hz
    have hn' : N = 1 := hn
    clear hn
    subst hn'
    obtain ⟨vA, hvA⟩ : ∃ vA, vA = Value.slice none 0 0 := ⟨_, rfl⟩
    by_cases hw1 : wc = 1
    · subst hw1
      have q1 := HF0.out C _ HFC.out (.slice (some ⟨g, off, none⟩) 0 0)
      have u10 : (C.setCell ⟨p, 10, none⟩ (.slice (some ⟨g, off, none⟩) 0 0)).cell? ⟨p, 10, none⟩ = some (.slice (some ⟨g, off, none⟩) 0 0) := by simp [World.cell?, q1.1, scCells]
      have uf : (C.setCell ⟨p, 10, none⟩ (.slice (some ⟨g, off, none⟩) 0 0)).frozen? ⟨p, 10, none⟩ = false := frz q1.1 10
      have HQ1 := hidM q1
      clear q1
      obtain ⟨hpE', hgE, hraE, hrbE, hkE⟩ := HF0.out (C.setCell ⟨p, 10, none⟩ (.slice (some ⟨g, off, none⟩) 0 0)) _ HQ1.out (.slice none 0 0)
      have hpE : ((C.setCell ⟨p, 10, none⟩ (.slice (some ⟨g, off, none⟩) 0 0)).setCell ⟨p, 10, none⟩ (.slice none 0 0)).heap[p]? = some (.cells (scCells (popF s) (pop2 R) none 0 ++ [x, y]).toArray 76 (0, 0)) := hpE'.trans (HCv.out _ _)
      obtain ⟨r0, r1⟩ := ce2 hrbE
      go_wp2_with (with_reducible show wpList Try.prog _ _ (Oper.mk none (Op.store 24 (Operand.tmp 2) _) _ _ _ _ :: _) _ _; refine Hid.out ?_)
      unfold Hid
      refine wpList_store_off rfl 24 (.tmp 2) (.tmp 33) rfl ra 0 #[.slice m1 m2 m3, .slice b1 b2 b3] hraE (by rfl) (by rfl) (by simp) (by kernel_rfl) (by simp [Value.oneCell']) ?_
      obtain ⟨F, hF⟩ : ∃ F, F = ((C.setCell ⟨p, 10, none⟩ (.slice (some ⟨g, off, none⟩) 0 0)).setCell ⟨p, 10, none⟩ (.slice none 0 0)).setRow ra ((#[.slice none 0 0, .slice none 0 0] : Array Value).toList.take 0 ++ (#[.slice m1 m2 m3, .slice b1 b2 b3] : Array Value).toList ++ (#[.slice none 0 0, .slice none 0 0] : Array Value).toList.drop (0 + (#[.slice m1 m2 m3, .slice b1 b2 b3] : Array Value).size)).toArray := ⟨_, rfl⟩
      rw [← hF]
      have hbF : F.heap[ra]? = some (.cells #[.slice m1 m2 m3, .slice b1 b2 b3] 24 (0, 0)) := by rw [hF]; exact setRow_heap ((C.setCell ⟨p, 10, none⟩ (.slice (some ⟨g, off, none⟩) 0 0)).setCell ⟨p, 10, none⟩ (.slice none 0 0)) ra _ _ 24 (0, 0) hraE
      have hoF : ∀ z, z ≠ ra → F.heap[z]? = ((C.setCell ⟨p, 10, none⟩ (.slice (some ⟨g, off, none⟩) 0 0)).setCell ⟨p, 10, none⟩ (.slice none 0 0)).heap[z]? := fun z hz => by rw [hF]; exact setRow_other ((C.setCell ⟨p, 10, none⟩ (.slice (some ⟨g, off, none⟩) 0 0)).setCell ⟨p, 10, none⟩ (.slice none 0 0)) ra z _ hz
      have hkF : Keeps W F (fun z => z = p ∨ z = g) := by
        have k1 : Keeps ((C.setCell ⟨p, 10, none⟩ (.slice (some ⟨g, off, none⟩) 0 0)).setCell ⟨p, 10, none⟩ (.slice none 0 0)) F (fun z => z = ra) := by rw [hF]; exact ⟨rfl, rfl, rfl, by simp, fun kk hk hn => setRow_other ((C.setCell ⟨p, 10, none⟩ (.slice (some ⟨g, off, none⟩) 0 0)).setCell ⟨p, 10, none⟩ (.slice none 0 0)) ra kk _ hn⟩
        exact hkE.trans k1 (fun j hj e => by have := HRa.out; omega)
      have hFr := HR.out.popped (n := 0) (wo' := none) (wc' := 0) (V := F) (by have h1 := HN1.out; have h2 := HNe.out; omega) (hkF.mono fun z _ e => by
        rcases e with e | e
        · exact .inl e
        · exact .inr (by rw [e]; rfl)) ((hoF p (by have := HRa.out; omega)).trans hpE) (OffRow.nil _ _ _) (fun z e => by simp [Value.ownBlock] at e)
      have HTd : Hid (Told w W F p [x, y] s R (some ⟨g, off, none⟩) 1) := by
        refine ⟨none, 0, hFr.1, ?_, hFr.2.2⟩
        rw [HPl.out]
        exact hFr.2.1
      have hld : (loadVar 24 ⟨ra, 0, none⟩).run Try.prog F = .ok (.agg #[.slice m1 m2 m3, .slice b1 b2 b3]) F := by
        refine run_loadVar_mid F ra 0 24 [.slice m1 m2 m3, .slice b1 b2 b3] _ (fun j v hj => ?_) Try.underlying24 rfl (by kernel_rfl)
        rw [Nat.zero_add]
        simp only [World.cell?, hbF]
        simpa using hj
      clear hF hbF hoF hkF hFr hkE hraE hrbE hpE hpE' hgE r0 r1
      go_wp2_with fail
      refine bodyPost_ret (v := .agg #[.slice m1 m2 m3, .slice b1 b2 b3]) ?_ rfl ⟨by rw [HR3.out, HR4.out]; rfl, HTd.out⟩
      exact results_cell (t := 2) (ty := 24) rfl rfl hld
    have q1 := HF0.out C _ HFC.out (.slice (some ⟨g, off + 2, none⟩) 0 (wc - 1))
    have u10 : (C.setCell ⟨p, 10, none⟩ (.slice (some ⟨g, off + 2, none⟩) 0 (wc - 1))).cell? ⟨p, 10, none⟩ = some (.slice (some ⟨g, off + 2, none⟩) 0 (wc - 1)) := by simp [World.cell?, q1.1, scCells]
    have uf : (C.setCell ⟨p, 10, none⟩ (.slice (some ⟨g, off + 2, none⟩) 0 (wc - 1))).frozen? ⟨p, 10, none⟩ = false := frz q1.1 10
    have HQ1 := hidM q1
    clear q1
    obtain ⟨hpE', hgE, hraE, hrbE, hkE⟩ := HF0.out (C.setCell ⟨p, 10, none⟩ (.slice (some ⟨g, off + 2, none⟩) 0 (wc - 1))) _ HQ1.out (.slice none 0 0)
    have hpE : ((C.setCell ⟨p, 10, none⟩ (.slice (some ⟨g, off + 2, none⟩) 0 (wc - 1))).setCell ⟨p, 10, none⟩ (.slice none 0 0)).heap[p]? = some (.cells (scCells (popF s) (pop2 R) none 0 ++ [x, y]).toArray 76 (0, 0)) := hpE'.trans (HCv.out _ _)
    obtain ⟨r0, r1⟩ := ce2 hrbE
    go_wp2_with (with_reducible show wpList Try.prog _ _ (Oper.mk none (Op.store 24 (Operand.tmp 2) _) _ _ _ _ :: _) _ _; refine Hid.out ?_)
    unfold Hid
    refine wpList_store_off rfl 24 (.tmp 2) (.tmp 33) rfl ra 0 #[.slice m1 m2 m3, .slice b1 b2 b3] hraE (by rfl) (by rfl) (by simp) (by kernel_rfl) (by simp [Value.oneCell']) ?_
    obtain ⟨F, hF⟩ : ∃ F, F = ((C.setCell ⟨p, 10, none⟩ (.slice (some ⟨g, off + 2, none⟩) 0 (wc - 1))).setCell ⟨p, 10, none⟩ (.slice none 0 0)).setRow ra ((#[.slice none 0 0, .slice none 0 0] : Array Value).toList.take 0 ++ (#[.slice m1 m2 m3, .slice b1 b2 b3] : Array Value).toList ++ (#[.slice none 0 0, .slice none 0 0] : Array Value).toList.drop (0 + (#[.slice m1 m2 m3, .slice b1 b2 b3] : Array Value).size)).toArray := ⟨_, rfl⟩
    rw [← hF]
    have hbF : F.heap[ra]? = some (.cells #[.slice m1 m2 m3, .slice b1 b2 b3] 24 (0, 0)) := by rw [hF]; exact setRow_heap ((C.setCell ⟨p, 10, none⟩ (.slice (some ⟨g, off + 2, none⟩) 0 (wc - 1))).setCell ⟨p, 10, none⟩ (.slice none 0 0)) ra _ _ 24 (0, 0) hraE
    have hoF : ∀ z, z ≠ ra → F.heap[z]? = ((C.setCell ⟨p, 10, none⟩ (.slice (some ⟨g, off + 2, none⟩) 0 (wc - 1))).setCell ⟨p, 10, none⟩ (.slice none 0 0)).heap[z]? := fun z hz => by rw [hF]; exact setRow_other ((C.setCell ⟨p, 10, none⟩ (.slice (some ⟨g, off + 2, none⟩) 0 (wc - 1))).setCell ⟨p, 10, none⟩ (.slice none 0 0)) ra z _ hz
    have hkF : Keeps W F (fun z => z = p ∨ z = g) := by
      have k1 : Keeps ((C.setCell ⟨p, 10, none⟩ (.slice (some ⟨g, off + 2, none⟩) 0 (wc - 1))).setCell ⟨p, 10, none⟩ (.slice none 0 0)) F (fun z => z = ra) := by rw [hF]; exact ⟨rfl, rfl, rfl, by simp, fun kk hk hn => setRow_other ((C.setCell ⟨p, 10, none⟩ (.slice (some ⟨g, off + 2, none⟩) 0 (wc - 1))).setCell ⟨p, 10, none⟩ (.slice none 0 0)) ra kk _ hn⟩
      exact hkE.trans k1 (fun j hj e => by have := HRa.out; omega)
    have hFr := HR.out.popped (n := 0) (wo' := none) (wc' := 0) (V := F) (by have h1 := HN1.out; have h2 := HNe.out; omega) (hkF.mono fun z _ e => by
      rcases e with e | e
      · exact .inl e
      · exact .inr (by rw [e]; rfl)) ((hoF p (by have := HRa.out; omega)).trans hpE) (OffRow.nil _ _ _) (fun z e => by simp [Value.ownBlock] at e)
    have HTd : Hid (Told w W F p [x, y] s R (some ⟨g, off, none⟩) wc) := by
      refine ⟨none, 0, hFr.1, ?_, hFr.2.2⟩
      rw [HPl.out]
      exact hFr.2.1
    have hld : (loadVar 24 ⟨ra, 0, none⟩).run Try.prog F = .ok (.agg #[.slice m1 m2 m3, .slice b1 b2 b3]) F := by
      refine run_loadVar_mid F ra 0 24 [.slice m1 m2 m3, .slice b1 b2 b3] _ (fun j v hj => ?_) Try.underlying24 rfl (by kernel_rfl)
      rw [Nat.zero_add]
      simp only [World.cell?, hbF]
      simpa using hj
    clear hF hbF hoF hkF hFr hkE hraE hrbE hpE hpE' hgE r0 r1
    go_wp2_with fail
    refine bodyPost_ret (v := .agg #[.slice m1 m2 m3, .slice b1 b2 b3]) ?_ rfl ⟨by rw [HR3.out, HR4.out]; rfl, HTd.out⟩
    exact results_cell (t := 2) (ty := 24) rfl rfl hld
  have hw1 : ¬ wc = 1 := by omega
  have hnz : ((n : Int) == 0) = false := by simp; omega
  have q1 := HF0.out C _ HFC.out (.slice (some ⟨g, off + 2, none⟩) n (wc - 1))
  have u10 : (C.setCell ⟨p, 10, none⟩ (.slice (some ⟨g, off + 2, none⟩) n (wc - 1))).cell? ⟨p, 10, none⟩ = some (.slice (some ⟨g, off + 2, none⟩) n (wc - 1)) := by simp [World.cell?, q1.1, scCells]
  have HQ1 := hidM q1
  clear q1
  obtain ⟨hpE', hgE, hraE, hrbE, hkE⟩ := HQ1.out
  have hpE : (C.setCell ⟨p, 10, none⟩ (.slice (some ⟨g, off + 2, none⟩) n (wc - 1))).heap[p]? = some (.cells (scCells (popF s) (pop2 R) (some ⟨g, off + 2, none⟩) (wc - 1) ++ [x, y]).toArray 76 (0, 0)) := hpE'.trans (HCv.out _ _)
  obtain ⟨r0, r1⟩ := ce2 hrbE
  go_wp2_with (with_reducible show wpList Try.prog _ _ (Oper.mk none (Op.store 24 (Operand.tmp 2) _) _ _ _ _ :: _) _ _; refine Hid.out ?_)
  unfold Hid
  refine wpList_store_off rfl 24 (.tmp 2) (.tmp 33) rfl ra 0 #[.slice m1 m2 m3, .slice b1 b2 b3] hraE (by rfl) (by rfl) (by simp) (by kernel_rfl) (by simp [Value.oneCell']) ?_
  obtain ⟨F, hF⟩ : ∃ F, F = (C.setCell ⟨p, 10, none⟩ (.slice (some ⟨g, off + 2, none⟩) n (wc - 1))).setRow ra ((#[.slice none 0 0, .slice none 0 0] : Array Value).toList.take 0 ++ (#[.slice m1 m2 m3, .slice b1 b2 b3] : Array Value).toList ++ (#[.slice none 0 0, .slice none 0 0] : Array Value).toList.drop (0 + (#[.slice m1 m2 m3, .slice b1 b2 b3] : Array Value).size)).toArray := ⟨_, rfl⟩
  rw [← hF]
  have hbF : F.heap[ra]? = some (.cells #[.slice m1 m2 m3, .slice b1 b2 b3] 24 (0, 0)) := by rw [hF]; exact setRow_heap (C.setCell ⟨p, 10, none⟩ (.slice (some ⟨g, off + 2, none⟩) n (wc - 1))) ra _ _ 24 (0, 0) hraE
  have hoF : ∀ z, z ≠ ra → F.heap[z]? = (C.setCell ⟨p, 10, none⟩ (.slice (some ⟨g, off + 2, none⟩) n (wc - 1))).heap[z]? := fun z hz => by rw [hF]; exact setRow_other (C.setCell ⟨p, 10, none⟩ (.slice (some ⟨g, off + 2, none⟩) n (wc - 1))) ra z _ hz
  have hkF : Keeps W F (fun z => z = p ∨ z = g) := by
    have k1 : Keeps (C.setCell ⟨p, 10, none⟩ (.slice (some ⟨g, off + 2, none⟩) n (wc - 1))) F (fun z => z = ra) := by rw [hF]; exact ⟨rfl, rfl, rfl, by simp, fun kk hk hn => setRow_other (C.setCell ⟨p, 10, none⟩ (.slice (some ⟨g, off + 2, none⟩) n (wc - 1))) ra kk _ hn⟩
    exact hkE.trans k1 (fun j hj e => by have := HRa.out; omega)
  have hFr := HR.out.popped (n := n) (wo' := (some ⟨g, off + 2, none⟩)) (wc' := (wc - 1)) (V := F) (by have h1 := HN1.out; have h2 := HNe.out; omega) (hkF.mono fun z _ e => by
    rcases e with e | e
    · exact .inl e
    · exact .inr (by rw [e]; rfl)) ((hoF p (by have := HRa.out; omega)).trans hpE) (HOff.out F ((hoF g (by have := HRa.out; omega)).trans hgE)) (fun z e => e)
  have HTd : Hid (Told w W F p [x, y] s R (some ⟨g, off, none⟩) wc) := by
    refine ⟨(some ⟨g, off + 2, none⟩), (wc - 1), hFr.1, ?_, hFr.2.2⟩
    rw [HPl.out]
    exact hFr.2.1
  have hld : (loadVar 24 ⟨ra, 0, none⟩).run Try.prog F = .ok (.agg #[.slice m1 m2 m3, .slice b1 b2 b3]) F := by
    refine run_loadVar_mid F ra 0 24 [.slice m1 m2 m3, .slice b1 b2 b3] _ (fun j v hj => ?_) Try.underlying24 rfl (by kernel_rfl)
    rw [Nat.zero_add]
    simp only [World.cell?, hbF]
    simpa using hj
  clear hF hbF hoF hkF hFr hkE hraE hrbE hpE hpE' hgE r0 r1
  go_wp2_with fail
  refine bodyPost_ret (v := .agg #[.slice m1 m2 m3, .slice b1 b2 b3]) ?_ rfl ⟨by rw [HR3.out, HR4.out]; rfl, HTd.out⟩
  exact results_cell (t := 2) (ty := 24) rfl rfl hld
end Go.Proofs.Ytemleibpmaclmaa.Kit
