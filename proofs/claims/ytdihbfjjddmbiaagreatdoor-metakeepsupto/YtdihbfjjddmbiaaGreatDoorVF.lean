import Derived.Test.YtdihbfjjddmbiaaGreatDoorRX
import Derived.Test.YtdihbfjjddmbiaaGreatDoorVD
import Derived.Test.YtdihbfjjddmbiaaGreatDoorLK
set_option maxRecDepth 100000
set_option maxHeartbeats 4000000
namespace Go.Proofs.YtdihbfjjddmbiaaGreatDoor.Kit
open Go.RowKit Go.Shelf Go.Deep
set_option linter.unusedVariables false
attribute [local go_sem] run_store_func
def unlB (l : List FT) : Bool := (List.range l.length).all fun i => (List.range i).all fun j => !(sEq (l[i]!).name (l[j]!).name)
theorem unlB_iff (l : List FT) : unlB l = true ↔ unl l := by
  unfold unlB unl
  simp only [List.all_eq_true, List.mem_range, Bool.not_eq_true']
  constructor
  · intro h i hi j hj hji
    have := h i hi j hji
    rwa [getElem!_pos l i hi, getElem!_pos l j hj] at this
  intro h i hi j hji
  have hj : j < l.length := by omega
  rw [getElem!_pos l i hi, getElem!_pos l j hj]
  exact h i hi j hj hji
def headB (inD : Bool) (deep : Nat) (f : FT) (st : Nat × List Int) : Bool :=
  nameB f.name && decide (st.1 + 1 ≤ 256) && decide (deep ≤ 64) && tableB f && nullB f && !(inD && (decide (f.kind = 19) || decide (f.kind = 20))) && !(decide (f.kind = 19) && (kid0 f || decide (f.id ∈ st.2)))
def idsA (f : FT) (ids : List Int) : List Int := if f.kind = 19 then ids ++ [f.id] else ids
def mayK (g : FT → Nat × List Int → Option (Nat × List Int)) : List FT → Nat × List Int → Option (Nat × List Int)
  | [], st => some st
  | x :: l, st => (g x st).bind (mayK g l)
def mayG (g : FT → Nat × List Int → Option (Nat × List Int)) (inD : Bool) (deep : Nat) (f : FT) (st : Nat × List Int) : Option (Nat × List Int) :=
  if (headB inD deep f st && unlB f.kids) = true then mayK g f.kids (st.1 + 1, idsA f st.2) else none
def mayF : Nat → Bool → Nat → FT → Nat × List Int → Option (Nat × List Int)
  | 0, inD, deep, f, st => mayG (fun _ _ => none) inD deep f st
  | d + 1, inD, deep, f, st => mayG (mayF d (inD || decide (f.kind = 19)) (deep + 1)) inD deep f st
theorem mayK_snoc (g : FT → Nat × List Int → Option (Nat × List Int)) : ∀ (l : List FT) (x : FT) (st : Nat × List Int), mayK g (l ++ [x]) st = (mayK g l st).bind (g x)
  | [], x, st => by simp [mayK]
  | y :: l, x, st => by
    show (g y st).bind (mayK g (l ++ [x])) = ((g y st).bind (mayK g l)).bind (g x)
    cases g y st with
    | none => rfl
    | some s => exact mayK_snoc g l x s
theorem mayK_none (g : FT → Nat × List Int → Option (Nat × List Int)) : ∀ (l r : List FT) (st : Nat × List Int), mayK g l st = none → mayK g (l ++ r) st = none
  | [], r, st, h => by cases h
  | y :: l, r, st, h => by
    have h' : (g y st).bind (mayK g l) = none := h
    show (g y st).bind (mayK g (l ++ r)) = none
    cases hg : g y st with
    | none => rfl
    | some s => rw [hg] at h'; exact mayK_none g l r s h'
theorem headB_iff {inD : Bool} {deep : Nat} {f : FT} {st : Nat × List Int} : headB inD deep f st = true ↔ (nameB f.name = true ∧ st.1 + 1 ≤ 256 ∧ deep ≤ 64 ∧ tableB f = true ∧ nullB f = true ∧ (inD = true → f.kind ≠ 19 ∧ f.kind ≠ 20) ∧ (f.kind = 19 → kid0 f = false ∧ f.id ∉ st.2)) := by
  unfold headB
  simp only [Bool.and_eq_true, decide_eq_true_eq, Bool.not_eq_true', Bool.and_eq_false_iff, Bool.or_eq_false_iff, decide_eq_false_iff_not]
  constructor
  · rintro ⟨⟨⟨⟨⟨⟨h1, h2⟩, h3⟩, h4⟩, h5⟩, h6⟩, h7⟩
    refine ⟨h1, h2, h3, h4, h5, fun e => ?_, fun e => ?_⟩
    · rcases h6 with h6 | h6
      · rw [h6] at e; cases e
      exact h6
    rcases h7 with h7 | h7
    · exact absurd e h7
    exact h7
  rintro ⟨h1, h2, h3, h4, h5, h6, h7⟩
  refine ⟨⟨⟨⟨⟨⟨h1, h2⟩, h3⟩, h4⟩, h5⟩, ?_⟩, ?_⟩
  · cases inD with
    | false => exact .inl rfl
    | true => exact .inr (h6 rfl)
  by_cases e : f.kind = 19
  · exact .inr (h7 e)
  exact .inl e
theorem mayK_bound {g : FT → Nat × List Int → Option (Nat × List Int)} (hg : ∀ x st st', st.2.length ≤ st.1 → g x st = some st' → st'.1 ≤ 256 ∧ st'.2.length ≤ st'.1) : ∀ (l : List FT) (st st' : Nat × List Int), st.1 ≤ 256 → st.2.length ≤ st.1 → mayK g l st = some st' → st'.1 ≤ 256 ∧ st'.2.length ≤ st'.1
  | [], st, st', h1, h2, h => by cases h; exact ⟨h1, h2⟩
  | x :: l, st, st', h1, h2, h => by
    have h' : (g x st).bind (mayK g l) = some st' := h
    cases hx : g x st with
    | none => rw [hx] at h'; cases h'
    | some s =>
      rw [hx] at h'
      obtain ⟨k1, k2⟩ := hg x st s h2 hx
      exact mayK_bound hg l s st' k1 k2 h'
structure Seen (w W : World) (K nd : Nat) (ids : List Int) : Prop where
  gr : Gr w W
  k0 : w.heap.size ≤ K
  ex : ∃ vo m vc, W.heap[K]? = some (.cells #[.int .i64 (nd : Int), .slice vo m vc] 74) ∧ W.ownsRow 0 3 1 (.slice vo m vc) m (ids.map (Value.int .i64)) ∧ ∀ g, (Value.slice vo m vc).ownBlock = some g → w.heap.size ≤ g
def KT (K : Nat) (W w' : World) : Prop := W.heap.size ≤ w'.heap.size ∧ ∀ b c t, W.heap[b]? = some (.cells c t) → t ≠ 3 → b ≠ K → w'.heap[b]? = some (.cells c t)
theorem KT.trans {K : Nat} {A B C : World} (h : KT K A B) (k : KT K B C) : KT K A C := ⟨Nat.le_trans h.1 k.1, fun b c t hb ht hn => k.2 b c t (h.2 b c t hb ht hn) ht hn⟩
theorem KT.keeps {K : Nat} {A B : World} (k : Keeps A B (fun b => b = K)) : KT K A B := ⟨k.size, fun b c t hb _ hn => (k.block b (lt_of_heap hb) hn).trans hb⟩
theorem KT.gr {K : Nat} {A B : World} (k : Gr A B) : KT K A B := KT.keeps (k.mono fun _ _ f => f.elim)
theorem KT.row {K : Nat} {A B : World} {v : Value} {n : Nat} {xs : List Value} (hr : A.ownsRow 0 3 1 v n xs) (k : Keeps A B (fun b => v.ownBlock = some b)) : KT K A B :=
  ⟨k.size, fun b c t hb ht hn => (k.block b (lt_of_heap hb) (row_ne_box hr hb ht)).trans hb⟩
theorem Seen.kept {w W W' : World} {K nd : Nat} {ids : List Int} (h : Seen w W K nd ids) (g : Gr W W') : Seen w W' K nd ids := by
  obtain ⟨vo, m, vc, h1, h2, h3⟩ := h.ex
  exact ⟨h.gr.tr g, h.k0, vo, m, vc, (g.block K (lt_of_heap h1) id).trans h1, own_kp h2 fun b e => g.block b (own_lt h2 b e) id, h3⟩
def MayQ (w W : World) (K : Nat) (r : Option (Nat × List Int)) (e : Ending) (w' : World) : Prop := match r with | some st => e = .returned (.bool true) ∧ Seen w w' K st.1 st.2 ∧ KT K W w' | none => e = .returned (.bool false) ∧ Gr w w'
theorem seenField_walk (f : FT) (ao : Option Addr) (ca K : Nat) (g : Bool → FT → Nat × List Int → Option (Nat × List Int)) (inD : Bool) (dp : Nat) (w : World) (S : Nat → Prop) (D : Nat) (hr : RowAt S w D ao f.kids) (hSb : ∀ b, S b → b < w.heap.size) (hdp : dp ≤ 1000) (hgb : ∀ ind x st st', st.2.length ≤ st.1 → g ind x st = some st' → st'.1 ≤ 256 ∧ st'.2.length ≤ st'.1) (hidl : f.kids.length ≤ 1000000000000)
    (hk : f.kids ≠ [] → ∃ b o, ao = some ⟨b, o, none⟩ ∧ ∀ i (h : i < f.kids.length), ∃ ao' ca', CellsAt w b (o + i * 7) f.kids[i] ao' ca' ∧ ∀ ind W nd ids, Seen w W K nd ids → nd ≤ 256 → ids.length ≤ nd → dp + 1 ≤ 100 → Calls Tryz.prog 30 #[.pointer (some ⟨K, 0, none⟩), .agg #[.string f.kids[i].name, .bool f.kids[i].nul, .int .i64 f.kids[i].kind, .int .i64 f.kids[i].width, .int .i64 f.kids[i].id, .int .i64 f.kids[i].index, .slice ao' f.kids[i].kids.length ca'], .int .i64 ((dp : Int) + 1), .bool ind] W (MayQ w W K (g ind f.kids[i] (nd, ids)))) :
    ∀ W nd ids, Seen w W K nd ids → nd ≤ 256 → ids.length ≤ nd → Calls Tryz.prog 30 #[.pointer (some ⟨K, 0, none⟩), .agg #[.string f.name, .bool f.nul, .int .i64 f.kind, .int .i64 f.width, .int .i64 f.id, .int .i64 f.index, .slice ao f.kids.length ca], .int .i64 (dp : Int), .bool inD] W (MayQ w W K (mayG (g (inD || decide (f.kind = 19))) inD dp f (nd, ids))) := by
  intro W nd ids hs hnd hil
  obtain ⟨vo, m, vc, hK, hrow, hnew⟩ := hs.ex
  have hml : ids.length = m := by have := hrow.1; simpa using this
  have HKids := hidM hk
  have HS := hidM hs
  have HNone : Hid (headB inD dp f (nd, ids) = false → mayG (g (inD || decide (f.kind = 19))) inD dp f (nd, ids) = none) := fun h => by unfold mayG; rw [h, Bool.false_and]; rfl
  have HNoneU : Hid (unlB f.kids = false → mayG (g (inD || decide (f.kind = 19))) inD dp f (nd, ids) = none) := fun h => by unfold mayG; rw [h, Bool.and_false]; rfl
  have HSome : Hid (headB inD dp f (nd, ids) = true → unlB f.kids = true → mayG (g (inD || decide (f.kind = 19))) inD dp f (nd, ids) = mayK (g (inD || decide (f.kind = 19))) f.kids (nd + 1, idsA f ids)) := fun h h2 => by unfold mayG; rw [h, h2]; rfl
  generalize mayG (g (inD || decide (f.kind = 19))) inD dp f (nd, ids) = RR at *
  obtain ⟨V0, hV0⟩ : ∃ V0, V0 = W.alloc (.cells #[.string f.name, .bool f.nul, .int .i64 f.kind, .int .i64 f.width, .int .i64 f.id, .int .i64 f.index, .slice ao f.kids.length ca] 52) := ⟨_, rfl⟩
  have g0 : Gr W V0 := by rw [hV0]; exact gr_alloc W _
  have hB0 : V0.heap[W.heap.size]? = some (.cells #[.string f.name, .bool f.nul, .int .i64 f.kind, .int .i64 f.width, .int .i64 f.id, .int .i64 f.index, .slice ao f.kids.length ca] 52) := by rw [hV0]; exact World.alloc_heap_new W _
  have hV1w : (W.alloc (.cells #[.string f.name, .bool f.nul, .int .i64 f.kind, .int .i64 f.width, .int .i64 f.id, .int .i64 f.index, .slice ao f.kids.length ca] 52)).setCell ⟨K, 0, none⟩ (.int .i64 ((nd : Int) + 1)) = V0.setCell ⟨K, 0, none⟩ (.int .i64 ((nd : Int) + 1)) := by rw [hV0]
  obtain ⟨V1, hV1⟩ := ex (V0.setCell ⟨K, 0, none⟩ (.int .i64 ((nd : Int) + 1)))
  rw [hV1] at hV1w
  have hK0 := (g0.block K (lt_of_heap hK) id).trans hK
  have hK1 := setc (j := 0) hK0 (.int .i64 ((nd : Int) + 1))
  have kk := keep1 (j := 0) (Keeps.refl V0 (fun b => b = K)) (.int .i64 ((nd : Int) + 1))
  rw [hV1] at hK1 kk
  have hKV : V1.heap[K]? = some (.cells #[.int .i64 ((nd : Int) + 1), .slice vo m vc] 74) := hK1.trans (by simp)
  have kV : Keeps W V1 (fun b => b = K) := (g0.mono fun _ _ f => f.elim).tr kk
  have hnK : W.heap.size ≠ K := fun h => by have := lt_of_heap hK; omega
  have hB1 : V1.heap[W.heap.size]? = some (.cells #[.string f.name, .bool f.nul, .int .i64 f.kind, .int .i64 f.width, .int .i64 f.id, .int .i64 f.index, .slice ao f.kids.length ca] 52) := (kk.block _ (lt_of_heap hB0) hnK).trans hB0
  have hrowV : V1.ownsRow 0 3 1 (.slice vo m vc) m (ids.map (Value.int .i64)) := own_kp hrow fun b e => kV.block b (own_lt hrow b e) (fun h => row_ne_box hrow hK (by decide) (by rw [e, h]))
  have hgV : Gr w V1 := hs.gr.trans kV (fun j hj h => by have := hs.k0; omega)
  have c0 : ∀ o, (W.alloc o).cell? ⟨K, 0, none⟩ = some (.int .i64 (nd : Int)) := fun o => (gr_alloc W o).cell' (ce2 hK).1 id
  have cf : ∀ o, (W.alloc o).frozen? ⟨K, 0, none⟩ = false := fun o => frz (((gr_alloc W o).block K (lt_of_heap hK) id).trans hK) 0
  obtain ⟨d0, d1⟩ := ce2 hKV
  obtain ⟨p0, p1, p2, p3, p4, p5, p6⟩ := ce7 hB1
  have HV := hidM (And.intro hgV (And.intro (KT.keeps (K := K) kV) (And.intro hKV (And.intro hrowV (And.intro hB1 (And.intro hnew hnK))))))
  have hwr : IntKind.i64.wrap ((nd : Int) + 1) = (nd : Int) + 1 := by rw [IntKind.wrap_i64]; omega
  have H44 := hidM (fun W => namedR_any f.name W)
  have HRow := hidM hr
  clear hk hs hK hrow hnew hK1 kk kV hKV hrowV hgV hB1 hr hnK hV1 hK0 hB0 g0 hV0
  have HGb := hidM hgb
  clear hgb
  obtain ⟨nb, hnb⟩ : ∃ nb, nb = nameB f.name := ⟨_, rfl⟩
  rw [← hnb] at H44
  have HNb := hidM hnb
  clear hnb
  have HF : Hid (∀ P : Prop, ¬ P → (headB inD dp f (nd, ids) = true → P) → headB inD dp f (nd, ids) = false) := fun P h1 h2 => by cases hh : headB inD dp f (nd, ids) with | false => rfl | true => exact absurd (h2 hh) h1
  go_enter Tryz.func30, Tryz.ntmps30
  go_wp2_with (go_at_call 50; refine Hid.out ?_)
  unfold Hid
  try rw [hV1w]
  clear hV1w c0 cf
  refine Calls.mono (H44.out _) ?_
  rintro e V1' ⟨rfl, hw⟩
  replace hw := hw.symm
  subst hw
  cases nb with
  | false =>
    have HR : Hid (RR = none) := HNone.out (HF.out _ (by rw [← HNb.out]; decide) fun h => (headB_iff.1 h).1)
    have HGx : Hid (Gr w _) := HV.out.1
    go_wp2_with fail
    go_ret
    show MayQ w W K RR _ _
    rw [HR.out]
    exact ⟨rfl, HGx.out⟩
  | true =>
    by_cases h256 : nd + 1 ≤ 256
    rotate_left
    · have n256I : (256 : Int) < (nd : Int) + 1 := by omega
      have HR : Hid (RR = none) := HNone.out (HF.out _ (h256) fun h => (headB_iff.1 h).2.1)
      have HGx : Hid (Gr w _) := HV.out.1
      go_wp2_with fail
      go_ret
      show MayQ w W K RR _ _
      rw [HR.out]
      exact ⟨rfl, HGx.out⟩
    have n256I : ¬ (256 : Int) < (nd : Int) + 1 := by omega
    by_cases h64 : dp ≤ 64
    rotate_left
    · have n64I : (64 : Int) < (dp : Int) := by omega
      have HR : Hid (RR = none) := HNone.out (HF.out _ (h64) fun h => (headB_iff.1 h).2.2.1)
      have HGx : Hid (Gr w _) := HV.out.1
      go_wp2_with fail
      go_ret
      show MayQ w W K RR _ _
      rw [HR.out]
      exact ⟨rfl, HGx.out⟩
    have n64I : ¬ (64 : Int) < (dp : Int) := by omega
    have H256 := hidM (And.intro h256 h64)
    have x2 := World.alloc_heap_new V1 (.cells #[.int .i64 f.kind, .int .i64 f.width, .int .i64 f.id, .int .i64 f.index, .slice ao f.kids.length ca] 50)
    have g2 := gr_alloc V1 (.cells #[.int .i64 f.kind, .int .i64 f.width, .int .i64 f.id, .int .i64 f.index, .slice ao f.kids.length ca] 50)
    have HX2 := hidM (And.intro x2 g2)
    have H45 := hidM (fun W => shaped_any f.kind f.width f.id f.index ao f.kids.length ca W hidl)
    rw [tabP_eq] at H45
    obtain ⟨tb, htb⟩ : ∃ tb, tb = tableB f := ⟨_, rfl⟩
    rw [← htb] at H45
    have HTb := hidM htb
    clear htb x2 g2
    go_wp2_with (go_at_call 51; refine Hid.out ?_)
    unfold Hid
    refine Calls.mono (H45.out _) ?_
    rintro e V3 ⟨rfl, hg3⟩
    obtain ⟨B2, hB2⟩ : ∃ B2, B2 = V1.heap.size := ⟨_, rfl⟩
    have HB : Hid (Gr w V3 ∧ KT K W V3 ∧ V3.heap[K]? = some (.cells #[.int .i64 ((nd : Int) + 1), .slice vo m vc] 74) ∧ V3.ownsRow 0 3 1 (.slice vo m vc) m (ids.map (Value.int .i64)) ∧ V3.heap[W.heap.size]? = some (.cells #[.string f.name, .bool f.nul, .int .i64 f.kind, .int .i64 f.width, .int .i64 f.id, .int .i64 f.index, .slice ao f.kids.length ca] 52) ∧ V3.heap[B2]? = some (.cells #[.int .i64 f.kind, .int .i64 f.width, .int .i64 f.id, .int .i64 f.index, .slice ao f.kids.length ca] 50) ∧ B2 ≠ K) := by
      obtain ⟨a1, a2, a3, a4, a5, a6, a7⟩ := HV.out
      have g13 : Gr V1 V3 := HX2.out.2.tr hg3
      refine ⟨a1.tr g13, a2.trans (KT.gr g13), (g13.block K (lt_of_heap a3) id).trans a3, own_kp a4 fun b e => g13.block b (own_lt a4 b e) id, (g13.block _ (lt_of_heap a5) id).trans a5, ?_, fun h => by have := lt_of_heap a3; omega⟩
      rw [hB2]; exact (hg3.block _ (lt_of_heap HX2.out.1) id).trans HX2.out.1
    obtain ⟨p0, p1, p2, p3, p4, p5, p6⟩ := ce7 HB.out.2.2.2.2.1
    obtain ⟨r0, r1, r2, r3, r4⟩ := ce5 HB.out.2.2.2.2.2.1
    obtain ⟨d0, d1⟩ := ce2 HB.out.2.2.1
    rw [← hB2]
    clear hg3 H45 hB2 HX2
    cases tb with
    | false =>
      have HR : Hid (RR = none) := HNone.out (HF.out _ (by rw [← HTb.out]; decide) fun h => (headB_iff.1 h).2.2.2.1)
      have HGx : Hid (Gr w _) := HB.out.1
      go_wp2_with fail
      go_ret
      show MayQ w W K RR _ _
      rw [HR.out]
      exact ⟨rfl, HGx.out⟩
    | true =>
      have HBK := hidM HB.out.2.2.2.2.2.2
      have HSS : Hid (∀ b, S b → b < w.heap.size) := hSb
      by_cases c19 : f.kind = 19
      rotate_left
      · have HIds : Hid (idsA f ids = ids) := by show _ = _; unfold idsA; rw [if_neg c19]
        have HIdl : Hid ((idsA f ids).length ≤ nd + 1) := by show _ ≤ _; rw [HIds.out]; omega
        have HFB : Hid (Gr w V3 ∧ KT K W V3 ∧ Seen w V3 K (nd + 1) (idsA f ids) ∧ V3.heap[B2]? = some (.cells #[.int .i64 f.kind, .int .i64 f.width, .int .i64 f.id, .int .i64 f.index, .slice ao f.kids.length ca] 50)) := by
          obtain ⟨a1, a2, a3, a4, a5, a6, a7⟩ := HB.out
          refine ⟨a1, a2, ⟨a1, HS.out.k0, vo, m, vc, ?_, ?_, HV.out.2.2.2.2.2.1⟩, a6⟩
          · rw [a3]; simp
          rw [HIds.out]; exact a4
        have HInd0 : Hid ((inD || decide (f.kind = 19)) = inD) := by show _ = _; rw [show decide (f.kind = 19) = false from decide_eq_false c19, Bool.or_false]
        have HC19 := hidM c19
        by_cases c1 : f.kind = 1
        · have e1 : (f.kind == 1) = true := by simp [c1]
          have e18 : (f.kind == 18) = false := beqF (by omega)
          have e20 : (f.kind == 20) = false := beqF (by omega)
          have e19 : (f.kind == 19) = false := beqF (by omega)
          have HC1 := hidM c1
          clear c1 c19
          cases hnu : f.nul with
          | false =>
            rw [hnu] at p1
            have HR : Hid (RR = none) := HNone.out (HF.out _ (by unfold nullB; rw [if_pos HC1.out, hnu]; decide) fun h => (headB_iff.1 h).2.2.2.2.1)
            have HGx : Hid (Gr w _) := HB.out.1
            go_wp2_with fail
            go_ret
            show MayQ w W K RR _ _
            rw [HR.out]
            exact ⟨rfl, HGx.out⟩
          | true =>
            rw [hnu] at p1
            have HHead : Hid (headB inD dp f (nd, ids) = true) := headB_iff.2 ⟨HNb.out.symm, H256.out.1, H256.out.2, HTb.out.symm, by unfold nullB; rw [if_pos HC1.out, hnu], fun _ => ⟨HC19.out, fun h => by rw [HC1.out] at h; cases h⟩, fun h => absurd h HC19.out⟩
            have HInd : Hid ((inD || decide (f.kind = 19)) = inD) := HInd0.out
            have H33 := hidM (unlike_any S D ao ca f.kids V3 (HRow.out.kept fun b hb => HFB.out.1.block b (HSS.out b hb) id))
            have rr4 := (ce5 HFB.out.2.2.2).2.2.2.2
            go_wp2_with (go_at_call 29; refine Hid.out ?_)
            unfold Hid
            refine Calls.mono H33.out ?_
            rintro e V5 ⟨z, rfl, hg5, hz⟩
            have HB5 : Hid (Gr w V5 ∧ KT K W V5 ∧ Seen w V5 K (nd + 1) (idsA f ids) ∧ V5.heap[B2]? = some (.cells #[.int .i64 f.kind, .int .i64 f.width, .int .i64 f.id, .int .i64 f.index, .slice ao f.kids.length ca] 50)) := ⟨HFB.out.1.tr hg5, HFB.out.2.1.trans (KT.gr hg5), HFB.out.2.2.1.kept hg5, (hg5.block _ (lt_of_heap HFB.out.2.2.2) id).trans HFB.out.2.2.2⟩
            have HZ := hidM hz
            clear hg5 hz H33 rr4
            cases z with
            | false =>
              have HR : Hid (RR = none) := HNoneU.out (by cases hu : unlB f.kids with | false => rfl | true => exact absurd (HZ.out.2 ((unlB_iff _).1 hu)) (by decide))
              have HGx : Hid (Gr w _) := HB5.out.1
              go_wp2_with fail
              go_ret
              show MayQ w W K RR _ _
              rw [HR.out]
              exact ⟨rfl, HGx.out⟩
            | true =>
              have HU : Hid (unlB f.kids = true) := (unlB_iff _).2 (HZ.out.1 rfl)
              have HRR : Hid (RR = mayK (g inD) f.kids (nd + 1, idsA f ids)) := by show _ = _; rw [HSome.out HHead.out HU.out, HInd.out]
              have rr4 := (ce5 HB5.out.2.2.2).2.2.2.2
              clear HNone HNoneU HSome HF
              go_wp2_with fail
              go_loopw [12] (fun p wr => ∃ k : Nat, k ≤ f.kids.length ∧ p = .int .i64 (k : Int) ∧ Hid (∃ st : Nat × List Int, mayK (g inD) (f.kids.take k) (nd + 1, idsA f ids) = some st ∧ Seen w wr K st.1 st.2 ∧ KT K W wr ∧ wr.heap[B2]? = some (.cells #[.int .i64 f.kind, .int .i64 f.width, .int .i64 f.id, .int .i64 f.index, .slice ao f.kids.length ca] 50))) (fun p _ => f.kids.length - (intOf p).toNat)
              case atStart => exact ⟨0, by omega, rfl, (nd + 1, idsA f ids), rfl, HB5.out.2.2.1, HB5.out.2.1, HB5.out.2.2.2⟩
              case round =>
                obtain ⟨k, hk, rfl, HK⟩ := hrel
                obtain ⟨st, hst⟩ : ∃ st : Nat × List Int, Hid (_ = some st ∧ Seen w wr K st.1 st.2 ∧ KT K W wr ∧ _) := HK.out
                clear HK
                have r4 := (ce5 hst.out.2.2.2).2.2.2.2
                by_cases hlt : k < f.kids.length
                · have hltI : (k : Int) < (f.kids.length : Int) := by omega
                  obtain ⟨b, o, hao, hcs⟩ := HKids.out (fun e => by rw [e] at hlt; simp at hlt)
                  obtain ⟨ao', ca', hc, hcall⟩ := hcs k hlt
                  obtain ⟨g0, g1, g2, g3, g4, g5, g6⟩ := hc.kept (hst.out.2.1.gr.block b (block_lt_of_cell hc.c0) id)
                  have hbd := mayK_bound (HGb.out inD) _ _ _ (by have := H256.out; show nd + 1 ≤ 256; omega) (HIdl.out) hst.out.1
                  have HC := hidM (hcall inD wr st.1 st.2 hst.out.2.1 hbd.1 hbd.2 (by have := H256.out; omega))
                  have HTK : Hid (mayK (g inD) (f.kids.take (k + 1)) (nd + 1, idsA f ids) = g inD f.kids[k] st) := by show _ = _; rw [List.take_add_one, List.getElem?_eq_getElem hlt]; show mayK _ (_ ++ [f.kids[k]]) _ = _; rw [mayK_snoc, hst.out.1]; rfl
                  have HKN : Hid (g inD f.kids[k] st = none → mayK (g inD) f.kids (nd + 1, idsA f ids) = none) := fun h => by
                    have := mayK_none _ (f.kids.take (k + 1)) (f.kids.drop (k + 1)) _ (HTK.out.trans h)
                    rwa [List.take_append_drop] at this
                  obtain ⟨rs, hrs⟩ : ∃ rs, rs = g inD f.kids[k] st := ⟨_, rfl⟩
                  rw [← hrs] at HC HTK HKN
                  have hkn : (0 : Int) ≤ (k : Int) := by omega
                  have hwd : IntKind.i64.wrap ((dp : Int) + 1) = (dp : Int) + 1 := by rw [IntKind.wrap_i64]; omega
                  subst hao
                  clear hcs hcall hc hbd hrs
                  go_wp2_with (go_at_call 30; refine Hid.out ?_)
                  unfold Hid
                  refine Calls.mono HC.out ?_
                  rintro e w2 hq
                  cases rs with
                  | none =>
                    obtain ⟨rfl, hgq⟩ : e = .returned (.bool false) ∧ Gr w w2 := hq
                    have HR : Hid (RR = none) := by show _ = _; rw [HRR.out]; exact HKN.out rfl
                    have HGx : Hid (Gr w _) := hgq
                    go_wp2_with fail
                    go_ret
                    show MayQ w W K RR _ _
                    rw [HR.out]
                    exact ⟨rfl, HGx.out⟩
                  | some st2 =>
                    obtain ⟨rfl, hsq, hkq⟩ : e = .returned (.bool true) ∧ Seen w w2 K st2.1 st2.2 ∧ KT K wr w2 := hq
                    have HN : Hid (∃ st : Nat × List Int, mayK (g inD) (f.kids.take (k + 1)) (nd + 1, idsA f ids) = some st ∧ Seen w w2 K st.1 st.2 ∧ KT K W w2 ∧ w2.heap[B2]? = some (.cells #[.int .i64 f.kind, .int .i64 f.width, .int .i64 f.id, .int .i64 f.index, .slice (some ⟨b, o, none⟩) f.kids.length ca] 50)) := ⟨st2, HTK.out, hsq, hst.out.2.2.1.trans hkq, hkq.2 B2 _ _ hst.out.2.2.2 (by decide) HBK.out⟩
                    clear hsq hkq hst HTK HKN HC g0 g1 g2 g3 g4 g5 g6 r4
                    go_wp2_with fail
                    go_roundw
                    case rel => exact ⟨k + 1, by omega, by simp, HN.out⟩
                    case measure => simp [intOf]; omega
                have hltI : ¬ (k : Int) < (f.kids.length : Int) := by omega
                have HE : Hid (RR = some st) := by
                  have h1 := hst.out.1
                  rw [List.take_of_length_le (by omega)] at h1
                  show _ = _; rw [HRR.out]; exact h1
                go_wp2_with fail
                go_ret
                show MayQ w W K RR _ _
                rw [HE.out]
                exact ⟨rfl, hst.out.2.1, hst.out.2.2.1⟩
        by_cases c18 : f.kind = 18
        · have e18 : (f.kind == 18) = true := by simp [c18]
          have e1 : (f.kind == 1) = false := beqF (by omega)
          have e20 : (f.kind == 20) = false := beqF (by omega)
          have e19 : (f.kind == 19) = false := beqF (by omega)
          have HC1 := hidM c18
          clear c1 c18 c19
          cases hnu : f.nul with
          | true =>
            rw [hnu] at p1
            have HR : Hid (RR = none) := HNone.out (HF.out _ (by unfold nullB; rw [if_neg (by rw [HC1.out]; decide), if_pos HC1.out, hnu]; decide) fun h => (headB_iff.1 h).2.2.2.2.1)
            have HGx : Hid (Gr w _) := HB.out.1
            go_wp2_with fail
            go_ret
            show MayQ w W K RR _ _
            rw [HR.out]
            exact ⟨rfl, HGx.out⟩
          | false =>
            rw [hnu] at p1
            have HHead : Hid (headB inD dp f (nd, ids) = true) := headB_iff.2 ⟨HNb.out.symm, H256.out.1, H256.out.2, HTb.out.symm, by unfold nullB; rw [if_neg (by rw [HC1.out]; decide), if_pos HC1.out, hnu]; rfl, fun _ => ⟨HC19.out, fun h => by rw [HC1.out] at h; cases h⟩, fun h => absurd h HC19.out⟩
            have HInd : Hid ((inD || decide (f.kind = 19)) = inD) := HInd0.out
            have H33 := hidM (unlike_any S D ao ca f.kids V3 (HRow.out.kept fun b hb => HFB.out.1.block b (HSS.out b hb) id))
            have rr4 := (ce5 HFB.out.2.2.2).2.2.2.2
            go_wp2_with (go_at_call 29; refine Hid.out ?_)
            unfold Hid
            refine Calls.mono H33.out ?_
            rintro e V5 ⟨z, rfl, hg5, hz⟩
            have HB5 : Hid (Gr w V5 ∧ KT K W V5 ∧ Seen w V5 K (nd + 1) (idsA f ids) ∧ V5.heap[B2]? = some (.cells #[.int .i64 f.kind, .int .i64 f.width, .int .i64 f.id, .int .i64 f.index, .slice ao f.kids.length ca] 50)) := ⟨HFB.out.1.tr hg5, HFB.out.2.1.trans (KT.gr hg5), HFB.out.2.2.1.kept hg5, (hg5.block _ (lt_of_heap HFB.out.2.2.2) id).trans HFB.out.2.2.2⟩
            have HZ := hidM hz
            clear hg5 hz H33 rr4
            cases z with
            | false =>
              have HR : Hid (RR = none) := HNoneU.out (by cases hu : unlB f.kids with | false => rfl | true => exact absurd (HZ.out.2 ((unlB_iff _).1 hu)) (by decide))
              have HGx : Hid (Gr w _) := HB5.out.1
              go_wp2_with fail
              go_ret
              show MayQ w W K RR _ _
              rw [HR.out]
              exact ⟨rfl, HGx.out⟩
            | true =>
              have HU : Hid (unlB f.kids = true) := (unlB_iff _).2 (HZ.out.1 rfl)
              have HRR : Hid (RR = mayK (g inD) f.kids (nd + 1, idsA f ids)) := by show _ = _; rw [HSome.out HHead.out HU.out, HInd.out]
              have rr4 := (ce5 HB5.out.2.2.2).2.2.2.2
              clear HNone HNoneU HSome HF
              go_wp2_with fail
              go_loopw [12] (fun p wr => ∃ k : Nat, k ≤ f.kids.length ∧ p = .int .i64 (k : Int) ∧ Hid (∃ st : Nat × List Int, mayK (g inD) (f.kids.take k) (nd + 1, idsA f ids) = some st ∧ Seen w wr K st.1 st.2 ∧ KT K W wr ∧ wr.heap[B2]? = some (.cells #[.int .i64 f.kind, .int .i64 f.width, .int .i64 f.id, .int .i64 f.index, .slice ao f.kids.length ca] 50))) (fun p _ => f.kids.length - (intOf p).toNat)
              case atStart => exact ⟨0, by omega, rfl, (nd + 1, idsA f ids), rfl, HB5.out.2.2.1, HB5.out.2.1, HB5.out.2.2.2⟩
              case round =>
                obtain ⟨k, hk, rfl, HK⟩ := hrel
                obtain ⟨st, hst⟩ : ∃ st : Nat × List Int, Hid (_ = some st ∧ Seen w wr K st.1 st.2 ∧ KT K W wr ∧ _) := HK.out
                clear HK
                have r4 := (ce5 hst.out.2.2.2).2.2.2.2
                by_cases hlt : k < f.kids.length
                · have hltI : (k : Int) < (f.kids.length : Int) := by omega
                  obtain ⟨b, o, hao, hcs⟩ := HKids.out (fun e => by rw [e] at hlt; simp at hlt)
                  obtain ⟨ao', ca', hc, hcall⟩ := hcs k hlt
                  obtain ⟨g0, g1, g2, g3, g4, g5, g6⟩ := hc.kept (hst.out.2.1.gr.block b (block_lt_of_cell hc.c0) id)
                  have hbd := mayK_bound (HGb.out inD) _ _ _ (by have := H256.out; show nd + 1 ≤ 256; omega) (HIdl.out) hst.out.1
                  have HC := hidM (hcall inD wr st.1 st.2 hst.out.2.1 hbd.1 hbd.2 (by have := H256.out; omega))
                  have HTK : Hid (mayK (g inD) (f.kids.take (k + 1)) (nd + 1, idsA f ids) = g inD f.kids[k] st) := by show _ = _; rw [List.take_add_one, List.getElem?_eq_getElem hlt]; show mayK _ (_ ++ [f.kids[k]]) _ = _; rw [mayK_snoc, hst.out.1]; rfl
                  have HKN : Hid (g inD f.kids[k] st = none → mayK (g inD) f.kids (nd + 1, idsA f ids) = none) := fun h => by
                    have := mayK_none _ (f.kids.take (k + 1)) (f.kids.drop (k + 1)) _ (HTK.out.trans h)
                    rwa [List.take_append_drop] at this
                  obtain ⟨rs, hrs⟩ : ∃ rs, rs = g inD f.kids[k] st := ⟨_, rfl⟩
                  rw [← hrs] at HC HTK HKN
                  have hkn : (0 : Int) ≤ (k : Int) := by omega
                  have hwd : IntKind.i64.wrap ((dp : Int) + 1) = (dp : Int) + 1 := by rw [IntKind.wrap_i64]; omega
                  subst hao
                  clear hcs hcall hc hbd hrs
                  go_wp2_with (go_at_call 30; refine Hid.out ?_)
                  unfold Hid
                  refine Calls.mono HC.out ?_
                  rintro e w2 hq
                  cases rs with
                  | none =>
                    obtain ⟨rfl, hgq⟩ : e = .returned (.bool false) ∧ Gr w w2 := hq
                    have HR : Hid (RR = none) := by show _ = _; rw [HRR.out]; exact HKN.out rfl
                    have HGx : Hid (Gr w _) := hgq
                    go_wp2_with fail
                    go_ret
                    show MayQ w W K RR _ _
                    rw [HR.out]
                    exact ⟨rfl, HGx.out⟩
                  | some st2 =>
                    obtain ⟨rfl, hsq, hkq⟩ : e = .returned (.bool true) ∧ Seen w w2 K st2.1 st2.2 ∧ KT K wr w2 := hq
                    have HN : Hid (∃ st : Nat × List Int, mayK (g inD) (f.kids.take (k + 1)) (nd + 1, idsA f ids) = some st ∧ Seen w w2 K st.1 st.2 ∧ KT K W w2 ∧ w2.heap[B2]? = some (.cells #[.int .i64 f.kind, .int .i64 f.width, .int .i64 f.id, .int .i64 f.index, .slice (some ⟨b, o, none⟩) f.kids.length ca] 50)) := ⟨st2, HTK.out, hsq, hst.out.2.2.1.trans hkq, hkq.2 B2 _ _ hst.out.2.2.2 (by decide) HBK.out⟩
                    clear hsq hkq hst HTK HKN HC g0 g1 g2 g3 g4 g5 g6 r4
                    go_wp2_with fail
                    go_roundw
                    case rel => exact ⟨k + 1, by omega, by simp, HN.out⟩
                    case measure => simp [intOf]; omega
                have hltI : ¬ (k : Int) < (f.kids.length : Int) := by omega
                have HE : Hid (RR = some st) := by
                  have h1 := hst.out.1
                  rw [List.take_of_length_le (by omega)] at h1
                  show _ = _; rw [HRR.out]; exact h1
                go_wp2_with fail
                go_ret
                show MayQ w W K RR _ _
                rw [HE.out]
                exact ⟨rfl, hst.out.2.1, hst.out.2.2.1⟩
        by_cases c20 : f.kind = 20
        · have e20 : (f.kind == 20) = true := by simp [c20]
          have e1 : (f.kind == 1) = false := beqF (by omega)
          have e18 : (f.kind == 18) = false := beqF (by omega)
          have e19 : (f.kind == 19) = false := beqF (by omega)
          have HC1 := hidM c20
          have hkne := (tab_kids HTb.out.symm).2 c20
          clear c1 c18 c19 c20
          cases inD with
          | true =>
            obtain ⟨b0, o0, hao0, hcs0⟩ := HKids.out hkne
            obtain ⟨ao0, ca0, hc0, -⟩ := hcs0 0 (List.length_pos_iff.2 hkne)
            have hk0 : kid0 f = (f.kids[0]'(List.length_pos_iff.2 hkne)).nul := by unfold kid0; rw [List.getElem?_eq_getElem (List.length_pos_iff.2 hkne)]; rfl
            have hcell := HB.out.1.cell' hc0.c1 id
            rw [← hk0] at hcell
            simp only [Nat.zero_mul, Nat.add_zero] at hcell
            have hlp2 : 0 < f.kids.length := List.length_pos_iff.2 hkne
            rw [hao0] at r4
            have HAo := hidM hao0
            clear hao0
            have HI17 : Hid (Hid (Gr V3 V3.drew) ∧ V3.drew.cell? ⟨W.heap.size, 1, none⟩ = some (.bool f.nul) ∧ V3.drew.cell? ⟨B2, 4, none⟩ = some (.slice (some ⟨b0, o0, none⟩) f.kids.length ca) ∧ V3.drew.cell? ⟨b0, o0 + 1, none⟩ = some (.bool (kid0 f))) := ⟨gr_drew, p1, r4, hcell⟩
            clear hcell hc0 hcs0 hk0
            go_wp2_with fail
            refine wp_region_held_drew (S := fun w' => Hid (Gr V3 w') ∧ w'.cell? ⟨W.heap.size, 1, none⟩ = some (.bool f.nul) ∧ w'.cell? ⟨B2, 4, none⟩ = some (.slice (some ⟨b0, o0, none⟩) f.kids.length ca) ∧ w'.cell? ⟨b0, o0 + 1, none⟩ = some (.bool (kid0 f))) (by kernel_rfl) (HI17.out) (fun hHeld => ?_)
            refine tk 0 ?_
            refine tk 1 ?_
            refine sk 2 ?_
            refine sk 3 ?_
            refine sk 4 ?_
            refine sk 5 ?_
            refine sk 6 ?_
            refine sk 7 ?_
            refine sk 8 ?_
            refine sk 9 ?_
            refine tk 10 ?_
            refine wpAnyH_done (by kernel_rfl) ?_ _
            clear hHeld
            have HR : Hid (RR = none) := HNone.out (HF.out _ (fun h => (h rfl).2 HC1.out) fun h => (headB_iff.1 h).2.2.2.2.2.1)
            have HGx : Hid (Gr w _) := HB.out.1.tr gr_drew
            go_wp2_with fail
            go_ret
            show MayQ w W K RR _ _
            rw [HR.out]
            exact ⟨rfl, HGx.out⟩
          | false =>
            obtain ⟨b0, o0, hao0, hcs0⟩ := HKids.out hkne
            obtain ⟨ao0, ca0, hc0, -⟩ := hcs0 0 (List.length_pos_iff.2 hkne)
            have hk0 : kid0 f = (f.kids[0]'(List.length_pos_iff.2 hkne)).nul := by unfold kid0; rw [List.getElem?_eq_getElem (List.length_pos_iff.2 hkne)]; rfl
            have hcell := HB.out.1.cell' hc0.c1 id
            rw [← hk0] at hcell
            simp only [Nat.zero_mul, Nat.add_zero] at hcell
            have hlp2 : 0 < f.kids.length := List.length_pos_iff.2 hkne
            rw [hao0] at r4
            have HAo := hidM hao0
            clear hao0
            have HI17 : Hid (Hid (Gr V3 V3.drew) ∧ V3.drew.cell? ⟨W.heap.size, 1, none⟩ = some (.bool f.nul) ∧ V3.drew.cell? ⟨B2, 4, none⟩ = some (.slice (some ⟨b0, o0, none⟩) f.kids.length ca) ∧ V3.drew.cell? ⟨b0, o0 + 1, none⟩ = some (.bool (kid0 f))) := ⟨gr_drew, p1, r4, hcell⟩
            clear hcell hc0 hcs0 hk0
            have HFD : Hid (Gr w V3.drew ∧ KT K W V3.drew ∧ Seen w V3.drew K (nd + 1) (idsA f ids) ∧ V3.drew.heap[B2]? = some (.cells #[.int .i64 f.kind, .int .i64 f.width, .int .i64 f.id, .int .i64 f.index, .slice ao f.kids.length ca] 50)) := ⟨HFB.out.1.tr gr_drew, HFB.out.2.1.trans (KT.gr gr_drew), HFB.out.2.2.1.kept gr_drew, HFB.out.2.2.2⟩
            cases hnq : (f.nul == kid0 f) with
            | false =>
              have hnn : (f.nul != kid0 f) = true := by simp [bne, hnq]
              go_wp2_with fail
              refine wp_region_held_drew (S := fun w' => Hid (Gr V3 w') ∧ w'.cell? ⟨W.heap.size, 1, none⟩ = some (.bool f.nul) ∧ w'.cell? ⟨B2, 4, none⟩ = some (.slice (some ⟨b0, o0, none⟩) f.kids.length ca) ∧ w'.cell? ⟨b0, o0 + 1, none⟩ = some (.bool (kid0 f))) (by kernel_rfl) (HI17.out) (fun hHeld => ?_)
              refine tk 0 ?_
              refine tk 1 ?_
              refine tk 2 ?_
              refine tk 3 ?_
              refine tk 4 ?_
              refine tk 5 ?_
              refine tk 6 ?_
              refine tk 7 ?_
              refine tk 8 ?_
              refine tk 9 ?_
              refine tk 10 ?_
              refine wpAnyH_done (by kernel_rfl) ?_ _
              clear hHeld
              have HR : Hid (RR = none) := HNone.out (HF.out _ (by unfold nullB; rw [if_neg (by rw [HC1.out]; decide), if_neg (by rw [HC1.out]; decide), if_pos HC1.out]; show ¬ (f.nul == kid0 f) = true; rw [hnq]; decide) fun h => (headB_iff.1 h).2.2.2.2.1)
              have HGx : Hid (Gr w _) := HB.out.1.tr gr_drew
              go_wp2_with fail
              go_ret
              show MayQ w W K RR _ _
              rw [HR.out]
              exact ⟨rfl, HGx.out⟩
            | true =>
              have hnn : (f.nul != kid0 f) = false := by simp [bne, hnq]
              go_wp2_with fail
              refine wp_region_held_drew (S := fun w' => Hid (Gr V3 w') ∧ w'.cell? ⟨W.heap.size, 1, none⟩ = some (.bool f.nul) ∧ w'.cell? ⟨B2, 4, none⟩ = some (.slice (some ⟨b0, o0, none⟩) f.kids.length ca) ∧ w'.cell? ⟨b0, o0 + 1, none⟩ = some (.bool (kid0 f))) (by kernel_rfl) (HI17.out) (fun hHeld => ?_)
              refine tk 0 ?_
              refine tk 1 ?_
              refine tk 2 ?_
              refine tk 3 ?_
              refine tk 4 ?_
              refine tk 5 ?_
              refine tk 6 ?_
              refine tk 7 ?_
              refine tk 8 ?_
              refine tk 9 ?_
              refine tk 10 ?_
              refine wpAnyH_done (by kernel_rfl) ?_ _
              clear hHeld
              have HHead : Hid (headB false dp f (nd, ids) = true) := headB_iff.2 ⟨HNb.out.symm, H256.out.1, H256.out.2, HTb.out.symm, by unfold nullB; rw [if_neg (by rw [HC1.out]; decide), if_neg (by rw [HC1.out]; decide), if_pos HC1.out]; exact hnq, fun h => (by cases h), fun h => absurd h HC19.out⟩
              have HInd : Hid ((false || decide (f.kind = 19)) = false) := HInd0.out
              have H33 := hidM (unlike_any S D ao ca f.kids V3.drew (HRow.out.kept fun b hb => HFD.out.1.block b (HSS.out b hb) id))
              have rr4 := (ce5 HFD.out.2.2.2).2.2.2.2
              go_wp2_with (go_at_call 29; refine Hid.out ?_)
              unfold Hid
              refine Calls.mono H33.out ?_
              rintro e V5 ⟨z, rfl, hg5, hz⟩
              have HB5 : Hid (Gr w V5 ∧ KT K W V5 ∧ Seen w V5 K (nd + 1) (idsA f ids) ∧ V5.heap[B2]? = some (.cells #[.int .i64 f.kind, .int .i64 f.width, .int .i64 f.id, .int .i64 f.index, .slice ao f.kids.length ca] 50)) := ⟨HFD.out.1.tr hg5, HFD.out.2.1.trans (KT.gr hg5), HFD.out.2.2.1.kept hg5, (hg5.block _ (lt_of_heap HFD.out.2.2.2) id).trans HFD.out.2.2.2⟩
              have HZ := hidM hz
              clear hg5 hz H33 rr4
              cases z with
              | false =>
                have HR : Hid (RR = none) := HNoneU.out (by cases hu : unlB f.kids with | false => rfl | true => exact absurd (HZ.out.2 ((unlB_iff _).1 hu)) (by decide))
                have HGx : Hid (Gr w _) := HB5.out.1
                go_wp2_with fail
                go_ret
                show MayQ w W K RR _ _
                rw [HR.out]
                exact ⟨rfl, HGx.out⟩
              | true =>
                have HU : Hid (unlB f.kids = true) := (unlB_iff _).2 (HZ.out.1 rfl)
                have HRR : Hid (RR = mayK (g false) f.kids (nd + 1, idsA f ids)) := by show _ = _; rw [HSome.out HHead.out HU.out, HInd.out]
                have rr4 := (ce5 HB5.out.2.2.2).2.2.2.2
                clear HNone HNoneU HSome HF
                go_wp2_with fail
                go_loopw [12] (fun p wr => ∃ k : Nat, k ≤ f.kids.length ∧ p = .int .i64 (k : Int) ∧ Hid (∃ st : Nat × List Int, mayK (g false) (f.kids.take k) (nd + 1, idsA f ids) = some st ∧ Seen w wr K st.1 st.2 ∧ KT K W wr ∧ wr.heap[B2]? = some (.cells #[.int .i64 f.kind, .int .i64 f.width, .int .i64 f.id, .int .i64 f.index, .slice ao f.kids.length ca] 50))) (fun p _ => f.kids.length - (intOf p).toNat)
                case atStart => exact ⟨0, by omega, rfl, (nd + 1, idsA f ids), rfl, HB5.out.2.2.1, HB5.out.2.1, HB5.out.2.2.2⟩
                case round =>
                  obtain ⟨k, hk, rfl, HK⟩ := hrel
                  obtain ⟨st, hst⟩ : ∃ st : Nat × List Int, Hid (_ = some st ∧ Seen w wr K st.1 st.2 ∧ KT K W wr ∧ _) := HK.out
                  clear HK
                  have r4 := (ce5 hst.out.2.2.2).2.2.2.2
                  by_cases hlt : k < f.kids.length
                  · have hltI : (k : Int) < (f.kids.length : Int) := by omega
                    obtain ⟨b, o, hao, hcs⟩ := HKids.out (fun e => by rw [e] at hlt; simp at hlt)
                    obtain ⟨ao', ca', hc, hcall⟩ := hcs k hlt
                    obtain ⟨g0, g1, g2, g3, g4, g5, g6⟩ := hc.kept (hst.out.2.1.gr.block b (block_lt_of_cell hc.c0) id)
                    have hbd := mayK_bound (HGb.out false) _ _ _ (by have := H256.out; show nd + 1 ≤ 256; omega) (HIdl.out) hst.out.1
                    have HC := hidM (hcall false wr st.1 st.2 hst.out.2.1 hbd.1 hbd.2 (by have := H256.out; omega))
                    have HTK : Hid (mayK (g false) (f.kids.take (k + 1)) (nd + 1, idsA f ids) = g false f.kids[k] st) := by show _ = _; rw [List.take_add_one, List.getElem?_eq_getElem hlt]; show mayK _ (_ ++ [f.kids[k]]) _ = _; rw [mayK_snoc, hst.out.1]; rfl
                    have HKN : Hid (g false f.kids[k] st = none → mayK (g false) f.kids (nd + 1, idsA f ids) = none) := fun h => by
                      have := mayK_none _ (f.kids.take (k + 1)) (f.kids.drop (k + 1)) _ (HTK.out.trans h)
                      rwa [List.take_append_drop] at this
                    obtain ⟨rs, hrs⟩ : ∃ rs, rs = g false f.kids[k] st := ⟨_, rfl⟩
                    rw [← hrs] at HC HTK HKN
                    have hkn : (0 : Int) ≤ (k : Int) := by omega
                    have hwd : IntKind.i64.wrap ((dp : Int) + 1) = (dp : Int) + 1 := by rw [IntKind.wrap_i64]; omega
                    subst hao
                    clear hcs hcall hc hbd hrs
                    go_wp2_with (go_at_call 30; refine Hid.out ?_)
                    unfold Hid
                    refine Calls.mono HC.out ?_
                    rintro e w2 hq
                    cases rs with
                    | none =>
                      obtain ⟨rfl, hgq⟩ : e = .returned (.bool false) ∧ Gr w w2 := hq
                      have HR : Hid (RR = none) := by show _ = _; rw [HRR.out]; exact HKN.out rfl
                      have HGx : Hid (Gr w _) := hgq
                      go_wp2_with fail
                      go_ret
                      show MayQ w W K RR _ _
                      rw [HR.out]
                      exact ⟨rfl, HGx.out⟩
                    | some st2 =>
                      obtain ⟨rfl, hsq, hkq⟩ : e = .returned (.bool true) ∧ Seen w w2 K st2.1 st2.2 ∧ KT K wr w2 := hq
                      have HN : Hid (∃ st : Nat × List Int, mayK (g false) (f.kids.take (k + 1)) (nd + 1, idsA f ids) = some st ∧ Seen w w2 K st.1 st.2 ∧ KT K W w2 ∧ w2.heap[B2]? = some (.cells #[.int .i64 f.kind, .int .i64 f.width, .int .i64 f.id, .int .i64 f.index, .slice (some ⟨b, o, none⟩) f.kids.length ca] 50)) := ⟨st2, HTK.out, hsq, hst.out.2.2.1.trans hkq, hkq.2 B2 _ _ hst.out.2.2.2 (by decide) HBK.out⟩
                      clear hsq hkq hst HTK HKN HC g0 g1 g2 g3 g4 g5 g6 r4
                      go_wp2_with fail
                      go_roundw
                      case rel => exact ⟨k + 1, by omega, by simp, HN.out⟩
                      case measure => simp [intOf]; omega
                  have hltI : ¬ (k : Int) < (f.kids.length : Int) := by omega
                  have HE : Hid (RR = some st) := by
                    have h1 := hst.out.1
                    rw [List.take_of_length_le (by omega)] at h1
                    show _ = _; rw [HRR.out]; exact h1
                  go_wp2_with fail
                  go_ret
                  show MayQ w W K RR _ _
                  rw [HE.out]
                  exact ⟨rfl, hst.out.2.1, hst.out.2.2.1⟩
        have e1 : (f.kind == 1) = false := beqF (by omega)
        have e18 : (f.kind == 18) = false := beqF (by omega)
        have e20 : (f.kind == 20) = false := beqF (by omega)
        have e19 : (f.kind == 19) = false := beqF (by omega)
        have HNl : Hid (nullB f = true) := by show _ = _; unfold nullB; rw [if_neg c1, if_neg c18, if_neg c20]
        have HC20 := hidM c20
        clear c1 c18 c19 c20
        have HHead : Hid (headB inD dp f (nd, ids) = true) := headB_iff.2 ⟨HNb.out.symm, H256.out.1, H256.out.2, HTb.out.symm, HNl.out, fun _ => ⟨HC19.out, HC20.out⟩, fun h => absurd h HC19.out⟩
        have HInd : Hid ((inD || decide (f.kind = 19)) = inD) := HInd0.out
        have H33 := hidM (unlike_any S D ao ca f.kids V3 (HRow.out.kept fun b hb => HFB.out.1.block b (HSS.out b hb) id))
        have rr4 := (ce5 HFB.out.2.2.2).2.2.2.2
        go_wp2_with (go_at_call 29; refine Hid.out ?_)
        unfold Hid
        refine Calls.mono H33.out ?_
        rintro e V5 ⟨z, rfl, hg5, hz⟩
        have HB5 : Hid (Gr w V5 ∧ KT K W V5 ∧ Seen w V5 K (nd + 1) (idsA f ids) ∧ V5.heap[B2]? = some (.cells #[.int .i64 f.kind, .int .i64 f.width, .int .i64 f.id, .int .i64 f.index, .slice ao f.kids.length ca] 50)) := ⟨HFB.out.1.tr hg5, HFB.out.2.1.trans (KT.gr hg5), HFB.out.2.2.1.kept hg5, (hg5.block _ (lt_of_heap HFB.out.2.2.2) id).trans HFB.out.2.2.2⟩
        have HZ := hidM hz
        clear hg5 hz H33 rr4
        cases z with
        | false =>
          have HR : Hid (RR = none) := HNoneU.out (by cases hu : unlB f.kids with | false => rfl | true => exact absurd (HZ.out.2 ((unlB_iff _).1 hu)) (by decide))
          have HGx : Hid (Gr w _) := HB5.out.1
          go_wp2_with fail
          go_ret
          show MayQ w W K RR _ _
          rw [HR.out]
          exact ⟨rfl, HGx.out⟩
        | true =>
          have HU : Hid (unlB f.kids = true) := (unlB_iff _).2 (HZ.out.1 rfl)
          have HRR : Hid (RR = mayK (g inD) f.kids (nd + 1, idsA f ids)) := by show _ = _; rw [HSome.out HHead.out HU.out, HInd.out]
          have rr4 := (ce5 HB5.out.2.2.2).2.2.2.2
          clear HNone HNoneU HSome HF
          go_wp2_with fail
          go_loopw [12] (fun p wr => ∃ k : Nat, k ≤ f.kids.length ∧ p = .int .i64 (k : Int) ∧ Hid (∃ st : Nat × List Int, mayK (g inD) (f.kids.take k) (nd + 1, idsA f ids) = some st ∧ Seen w wr K st.1 st.2 ∧ KT K W wr ∧ wr.heap[B2]? = some (.cells #[.int .i64 f.kind, .int .i64 f.width, .int .i64 f.id, .int .i64 f.index, .slice ao f.kids.length ca] 50))) (fun p _ => f.kids.length - (intOf p).toNat)
          case atStart => exact ⟨0, by omega, rfl, (nd + 1, idsA f ids), rfl, HB5.out.2.2.1, HB5.out.2.1, HB5.out.2.2.2⟩
          case round =>
            obtain ⟨k, hk, rfl, HK⟩ := hrel
            obtain ⟨st, hst⟩ : ∃ st : Nat × List Int, Hid (_ = some st ∧ Seen w wr K st.1 st.2 ∧ KT K W wr ∧ _) := HK.out
            clear HK
            have r4 := (ce5 hst.out.2.2.2).2.2.2.2
            by_cases hlt : k < f.kids.length
            · have hltI : (k : Int) < (f.kids.length : Int) := by omega
              obtain ⟨b, o, hao, hcs⟩ := HKids.out (fun e => by rw [e] at hlt; simp at hlt)
              obtain ⟨ao', ca', hc, hcall⟩ := hcs k hlt
              obtain ⟨g0, g1, g2, g3, g4, g5, g6⟩ := hc.kept (hst.out.2.1.gr.block b (block_lt_of_cell hc.c0) id)
              have hbd := mayK_bound (HGb.out inD) _ _ _ (by have := H256.out; show nd + 1 ≤ 256; omega) (HIdl.out) hst.out.1
              have HC := hidM (hcall inD wr st.1 st.2 hst.out.2.1 hbd.1 hbd.2 (by have := H256.out; omega))
              have HTK : Hid (mayK (g inD) (f.kids.take (k + 1)) (nd + 1, idsA f ids) = g inD f.kids[k] st) := by show _ = _; rw [List.take_add_one, List.getElem?_eq_getElem hlt]; show mayK _ (_ ++ [f.kids[k]]) _ = _; rw [mayK_snoc, hst.out.1]; rfl
              have HKN : Hid (g inD f.kids[k] st = none → mayK (g inD) f.kids (nd + 1, idsA f ids) = none) := fun h => by
                have := mayK_none _ (f.kids.take (k + 1)) (f.kids.drop (k + 1)) _ (HTK.out.trans h)
                rwa [List.take_append_drop] at this
              obtain ⟨rs, hrs⟩ : ∃ rs, rs = g inD f.kids[k] st := ⟨_, rfl⟩
              rw [← hrs] at HC HTK HKN
              have hkn : (0 : Int) ≤ (k : Int) := by omega
              have hwd : IntKind.i64.wrap ((dp : Int) + 1) = (dp : Int) + 1 := by rw [IntKind.wrap_i64]; omega
              subst hao
              clear hcs hcall hc hbd hrs
              go_wp2_with (go_at_call 30; refine Hid.out ?_)
              unfold Hid
              refine Calls.mono HC.out ?_
              rintro e w2 hq
              cases rs with
              | none =>
                obtain ⟨rfl, hgq⟩ : e = .returned (.bool false) ∧ Gr w w2 := hq
                have HR : Hid (RR = none) := by show _ = _; rw [HRR.out]; exact HKN.out rfl
                have HGx : Hid (Gr w _) := hgq
                go_wp2_with fail
                go_ret
                show MayQ w W K RR _ _
                rw [HR.out]
                exact ⟨rfl, HGx.out⟩
              | some st2 =>
                obtain ⟨rfl, hsq, hkq⟩ : e = .returned (.bool true) ∧ Seen w w2 K st2.1 st2.2 ∧ KT K wr w2 := hq
                have HN : Hid (∃ st : Nat × List Int, mayK (g inD) (f.kids.take (k + 1)) (nd + 1, idsA f ids) = some st ∧ Seen w w2 K st.1 st.2 ∧ KT K W w2 ∧ w2.heap[B2]? = some (.cells #[.int .i64 f.kind, .int .i64 f.width, .int .i64 f.id, .int .i64 f.index, .slice (some ⟨b, o, none⟩) f.kids.length ca] 50)) := ⟨st2, HTK.out, hsq, hst.out.2.2.1.trans hkq, hkq.2 B2 _ _ hst.out.2.2.2 (by decide) HBK.out⟩
                clear hsq hkq hst HTK HKN HC g0 g1 g2 g3 g4 g5 g6 r4
                go_wp2_with fail
                go_roundw
                case rel => exact ⟨k + 1, by omega, by simp, HN.out⟩
                case measure => simp [intOf]; omega
            have hltI : ¬ (k : Int) < (f.kids.length : Int) := by omega
            have HE : Hid (RR = some st) := by
              have h1 := hst.out.1
              rw [List.take_of_length_le (by omega)] at h1
              show _ = _; rw [HRR.out]; exact h1
            go_wp2_with fail
            go_ret
            show MayQ w W K RR _ _
            rw [HE.out]
            exact ⟨rfl, hst.out.2.1, hst.out.2.2.1⟩
      have HIds : Hid (idsA f ids = ids ++ [f.id]) := by show _ = _; unfold idsA; rw [if_pos c19]
      have HIdl : Hid ((idsA f ids).length ≤ nd + 1) := by show _ ≤ _; rw [HIds.out]; simp; omega
      have e19 : (f.kind == 19) = true := by simp [c19]
      have e1 : (f.kind == 1) = false := beqF (by omega)
      have e18 : (f.kind == 18) = false := beqF (by omega)
      have e20 : (f.kind == 20) = false := beqF (by omega)
      have HC19 := hidM c19
      have HInd0 : Hid ((inD || decide (f.kind = 19)) = true) := by show _ = _; rw [show decide (f.kind = 19) = true from decide_eq_true c19, Bool.or_true]
      have HNl : Hid (nullB f = true) := by show _ = _; unfold nullB; rw [if_neg (by omega), if_neg (by omega), if_neg (by omega)]
      have hkne := ((tab_kids HTb.out.symm).1 c19).1
      have hmle : m ≤ 256 := by omega
      have HMl := hidM hml
      clear c19 hml
      cases inD with
      | true =>
        obtain ⟨b0, o0, hao0, hcs0⟩ := HKids.out hkne
        obtain ⟨ao0, ca0, hc0, -⟩ := hcs0 0 (List.length_pos_iff.2 hkne)
        have hk0 : kid0 f = (f.kids[0]'(List.length_pos_iff.2 hkne)).nul := by unfold kid0; rw [List.getElem?_eq_getElem (List.length_pos_iff.2 hkne)]; rfl
        have hcell := HB.out.1.cell' hc0.c1 id
        rw [← hk0] at hcell
        simp only [Nat.zero_mul, Nat.add_zero] at hcell
        have hlp2 : 0 < f.kids.length := List.length_pos_iff.2 hkne
        rw [hao0] at r4
        have HAo := hidM hao0
        clear hao0
        clear hc0 hcs0 hk0
        have HR : Hid (RR = none) := HNone.out (HF.out _ (fun h => (h rfl).1 HC19.out) fun h => (headB_iff.1 h).2.2.2.2.2.1)
        have HGx : Hid (Gr w _) := HB.out.1
        go_wp2_with fail
        go_ret
        show MayQ w W K RR _ _
        rw [HR.out]
        exact ⟨rfl, HGx.out⟩
      | false =>
        obtain ⟨b0, o0, hao0, hcs0⟩ := HKids.out hkne
        obtain ⟨ao0, ca0, hc0, -⟩ := hcs0 0 (List.length_pos_iff.2 hkne)
        have hk0 : kid0 f = (f.kids[0]'(List.length_pos_iff.2 hkne)).nul := by unfold kid0; rw [List.getElem?_eq_getElem (List.length_pos_iff.2 hkne)]; rfl
        have hcell := HB.out.1.cell' hc0.c1 id
        rw [← hk0] at hcell
        simp only [Nat.zero_mul, Nat.add_zero] at hcell
        have hlp2 : 0 < f.kids.length := List.length_pos_iff.2 hkne
        rw [hao0] at r4
        have HAo := hidM hao0
        clear hao0
        clear hc0 hcs0 hk0
        cases hk0 : kid0 f with
        | true =>
          rw [hk0] at hcell
          have HR : Hid (RR = none) := HNone.out (HF.out _ (fun h => by have := (h HC19.out).1; rw [hk0] at this; cases this) fun h => (headB_iff.1 h).2.2.2.2.2.2)
          have HGx : Hid (Gr w _) := HB.out.1
          go_wp2_with fail
          go_ret
          show MayQ w W K RR _ _
          rw [HR.out]
          exact ⟨rfl, HGx.out⟩
        | false =>
          rw [hk0] at hcell
          have HK0 := hidM hk0
          clear hk0
          have HRowG : Hid (0 < m → ∃ rg, vo = some ⟨rg, 0, none⟩ ∧ ∀ i (hi : i < ids.length), V3.cell? ⟨rg, i, none⟩ = some (.int .i64 ids[i])) := fun h0 => by
            have hr := HB.out.2.2.2.1
            rcases hr.2 with ⟨e, e0⟩ | ⟨rg, cap, cur, e, _⟩
            · omega
            cases e
            refine ⟨rg, rfl, fun i hi => ?_⟩
            have := hr.cells (g := rg) rfl i (.int .i64 ids[i]) (by simp [List.getElem?_eq_getElem hi])
            have e : (⟨rg, 0, none⟩ : Addr).add i = ⟨rg, i, none⟩ := by cases i <;> simp [Addr.add]
            rwa [e] at this
          go_wp2_with fail
          go_loopw [11] (fun p wr => ∃ i : Nat, i ≤ m ∧ p = .int .i64 (i : Int) ∧ Hid (Gr V3 wr ∧ ∀ j (hj : j < ids.length), j < i → ids[j] ≠ f.id)) (fun p _ => m - (intOf p).toNat)
          case atStart => exact ⟨0, by omega, rfl, Keeps.refl _ _, fun j hj h => by omega⟩
          case round =>
            obtain ⟨i, hi, rfl, HI⟩ := hrel
            have t1 := HI.out.1.cell' d1 id
            by_cases hlt : i < m
            · have hltI : (i : Int) < (m : Int) := by omega
              have hil : i < ids.length := by rw [HMl.out]; exact hlt
              obtain ⟨rg, hvo, hcs⟩ := HRowG.out (by omega)
              have t2 := HI.out.1.cell' (hcs i hil) id
              have t3 := HI.out.1.cell' r2 id
              have HStep : Hid (ids[i] ≠ f.id → ∀ j (hj : j < ids.length), j < i + 1 → ids[j] ≠ f.id) := fun h j hj hlt => by
                by_cases e : j = i
                · subst e; exact h
                exact HI.out.2 j hj (by omega)
              have HIn : Hid (ids[i] = f.id → f.id ∈ ids) := fun h => by rw [← h]; exact List.getElem_mem hil
              obtain ⟨x, hx⟩ : ∃ x, x = ids[i] := ⟨_, rfl⟩
              rw [← hx] at t2 HStep HIn
              subst hvo
              have hi0 : (0 : Int) ≤ (i : Int) := by omega
              have HI25 : Hid (Hid (Gr V3 wr.drew) ∧ wr.drew.cell? ⟨K, 1, none⟩ = some (.slice (some ⟨rg, 0, none⟩) m vc) ∧ wr.drew.cell? ⟨rg, i, none⟩ = some (.int .i64 x) ∧ wr.drew.cell? ⟨B2, 2, none⟩ = some (.int .i64 f.id)) := ⟨HI.out.1.tr gr_drew, t1, t2, t3⟩
              clear hcs hil hx
              by_cases hxe : x = f.id
              · have hxb : (x == f.id) = true := by simp [hxe]
                have HXe := hidM hxe
                clear hxe
                go_wp2_with fail
                refine wp_region_held_drew (S := fun w' => Hid (Gr V3 w') ∧ w'.cell? ⟨K, 1, none⟩ = some (.slice (some ⟨rg, 0, none⟩) m vc) ∧ w'.cell? ⟨rg, i, none⟩ = some (.int .i64 x) ∧ w'.cell? ⟨B2, 2, none⟩ = some (.int .i64 f.id)) (by kernel_rfl) (HI25.out) (fun hHeld => ?_)
                refine tk 0 ?_
                refine tk 1 ?_
                refine tk 2 ?_
                refine tk 3 ?_
                refine tk 4 ?_
                refine tk 5 ?_
                refine tk 6 ?_
                refine tk 7 ?_
                refine tk 8 ?_
                refine tk 9 ?_
                refine wpAnyH_done (by kernel_rfl) ?_ _
                have HGf := hidM (HB.out.1.tr hHeld.1.out)
                clear hHeld HI25
                have HR : Hid (RR = none) := HNone.out (HF.out _ (fun h => (h HC19.out).2 (HIn.out HXe.out)) fun h => (headB_iff.1 h).2.2.2.2.2.2)
                have HGx : Hid (Gr w _) := HGf.out
                go_wp2_with fail
                go_ret
                show MayQ w W K RR _ _
                rw [HR.out]
                exact ⟨rfl, HGx.out⟩
              have hxb : (x == f.id) = false := beqF hxe
              have HXe := hidM hxe
              clear hxe
              go_wp2_with fail
              refine wp_region_held_drew (S := fun w' => Hid (Gr V3 w') ∧ w'.cell? ⟨K, 1, none⟩ = some (.slice (some ⟨rg, 0, none⟩) m vc) ∧ w'.cell? ⟨rg, i, none⟩ = some (.int .i64 x) ∧ w'.cell? ⟨B2, 2, none⟩ = some (.int .i64 f.id)) (by kernel_rfl) (HI25.out) (fun hHeld => ?_)
              refine tk 0 ?_
              refine tk 1 ?_
              refine tk 2 ?_
              refine tk 3 ?_
              refine tk 4 ?_
              refine tk 5 ?_
              refine tk 6 ?_
              refine tk 7 ?_
              refine tk 8 ?_
              refine tk 9 ?_
              refine wpAnyH_done (by kernel_rfl) ?_ _
              have HGf := hidM hHeld.1.out
              clear hHeld HI25
              go_wp2_with fail
              go_roundw
              case rel => exact ⟨i + 1, by omega, by simp, HGf.out, HStep.out HXe.out⟩
              case measure => simp [intOf]; omega
            have hltI : ¬ (i : Int) < (m : Int) := by omega
            have HNin : Hid (f.id ∉ ids) := fun h => by
              obtain ⟨j, hj, e⟩ := List.mem_iff_getElem.1 h
              exact HI.out.2 j hj (by have := HMl.out; omega) e
            have hg3 := HI.out.1
            have HD : Hid (Gr w wr.drew ∧ KT K W wr.drew ∧ wr.drew.heap[K]? = some (.cells #[.int .i64 ((nd : Int) + 1), .slice vo m vc] 74) ∧ wr.drew.ownsRow 0 3 1 (.slice vo m vc) m (ids.map (Value.int .i64)) ∧ wr.drew.heap[B2]? = some (.cells #[.int .i64 f.kind, .int .i64 f.width, .int .i64 f.id, .int .i64 f.index, .slice ao f.kids.length ca] 50)) := by
              obtain ⟨a1, a2, a3, a4, a5, a6, a7⟩ := HB.out
              have gd : Gr V3 wr.drew := hg3.tr gr_drew
              exact ⟨a1.tr gd, a2.trans (KT.gr gd), (gd.block K (lt_of_heap a3) id).trans a3, own_kp a4 fun b e => gd.block b (own_lt a4 b e) id, (gd.block _ (lt_of_heap a6) id).trans a6⟩
            have t3 := hg3.cell' r2 id
            clear hg3 HI
            have HI27 : Hid (Hid (Gr w wr.drew ∧ KT K W wr.drew) ∧ wr.drew.cell? ⟨B2, 2, none⟩ = some (.int .i64 f.id)) := ⟨⟨HD.out.1, HD.out.2.1⟩, t3⟩
            have HSk27 : Hid (∀ A C : World, (Hid (Gr w A ∧ KT K W A) ∧ A.cell? ⟨B2, 2, none⟩ = some (.int .i64 f.id)) → Gr A C → (Hid (Gr w C ∧ KT K W C) ∧ C.cell? ⟨B2, 2, none⟩ = some (.int .i64 f.id))) := fun A C h k => ⟨⟨h.1.out.1.tr k, h.1.out.2.trans (KT.gr k)⟩, k.cell' h.2 id⟩
            go_wp2_with fail
            refine wp_region_held_drew (S := fun w' => Hid (Gr w w' ∧ KT K W w') ∧ w'.cell? ⟨B2, 2, none⟩ = some (.int .i64 f.id)) (by kernel_rfl) (HI27.out) (fun hHeld => ?_)
            refine tk 0 ?_
            refine tk 1 ?_
            refine tk 2 ?_
            refine tk 3 ?_
            refine tk 5 ?_
            refine tk 6 ?_
            have u1 := (ce2 HD.out.2.2.1).2
            refine wpAnyH_ready (rs := [4, 7]) (by kernel_rfl) (by simp) ?_
            refine AllReadyH.cons (o := { dst := some 99, op := Op.load 65 (Operand.tmp 98), type := 65, pos := "may.go:100", after := #[{ on := 3, ground := Ground.data }], guard := none }) rfl (fun Kc hK => ?_) (AllReadyH.cons (o := { dst := some 102, op := Op.buildSlice 65 1 #[(0, Operand.tmp 101)], type := 65, pos := "may.go:100", after := #[{ on := 6, ground := Ground.data }], guard := none }) rfl (fun Kc hK => ?_) AllReadyH.nil)
            · go_simp
              refine hK.out _ _ hHeld (fun hHeld => ?_)
              clear hK
              (try simp only [Act.put]); (try simp only [List.setIfInBounds_toArray]); (try simp only [List.set_cons_succ]); (try simp only [List.set_cons_zero])
              refine rd1 7 fun Kc hK => ?_
              go_simp
              refine hK.out _ _ (HSk27.out _ _ hHeld (gr_alloc wr.drew _)) (fun hHeld => ?_)
              clear hK
              (try simp only [Act.put]); (try simp only [List.setIfInBounds_toArray]); (try simp only [List.set_cons_succ]); (try simp only [List.set_cons_zero])
              refine rd1 8 fun Kc hK => ?_
              have HRA := hidM (own_kp HD.out.2.2.2.1 fun b e => (gr_alloc wr.drew (.cells #[.int .i64 f.id] 3)).block b (own_lt HD.out.2.2.2.1 b e) id)
              refine step_append_any _ rfl (.tmp 99) (.tmp 102) 65 65 rfl 3 (.int .i64 0) 8 Tryz.underlying65 info3 rfl (.slice vo m vc) m (ids.map (Value.int .i64)) rfl HRA.out _ 1 [.int .i64 f.id] rfl (src_int wr.drew _ rfl) (by omega) (by omega) ?_
              intro v' w1 hown hgrow hblk
              obtain ⟨vo2, vc2, rfl⟩ := own_form1 hown
              have hkt : KT K wr.drew w1 := (KT.gr (gr_alloc wr.drew (.cells #[.int .i64 f.id] 3))).trans (KT.row HRA.out (Keeps.ofGrown hgrow))
              have hK1 : w1.heap[K]? = some (.cells #[.int .i64 ((nd : Int) + 1), .slice vo m vc] 74) := by
                have h1 := ((gr_alloc wr.drew (.cells #[.int .i64 f.id] 3)).block K (lt_of_heap HD.out.2.2.1) id).trans HD.out.2.2.1
                exact ((Keeps.ofGrown hgrow).block K (lt_of_heap h1) (row_ne_box HRA.out h1 (by decide))).trans h1
              have hgw1 : Gr w w1 := (HD.out.1.alloc _).trans (Keeps.ofGrown hgrow) (fun j hj e => by have := HV.out.2.2.2.2.2.1 j e; omega)
              have hB1 : w1.heap[B2]? = some (.cells #[.int .i64 f.kind, .int .i64 f.width, .int .i64 f.id, .int .i64 f.index, .slice ao f.kids.length ca] 50) := hkt.2 B2 _ _ HD.out.2.2.2.2 (by decide) HBK.out
              have HW1 := hidM (And.intro hgw1 (And.intro (HD.out.2.1.trans hkt) (And.intro hK1 (And.intro hown (And.intro hB1 hblk)))))
              have HS1 : Hid (Hid (Gr w w1 ∧ KT K W w1) ∧ w1.cell? ⟨B2, 2, none⟩ = some (.int .i64 f.id)) := ⟨⟨hgw1, HD.out.2.1.trans hkt⟩, (ce5 hB1).2.2.1⟩
              refine hK.out _ _ HS1.out (fun hHeld => ?_)
              clear hK hown hgrow hblk hkt hK1 hgw1 hB1 HS1
              (try simp only [Act.put]); (try simp only [List.setIfInBounds_toArray]); (try simp only [List.set_cons_succ]); (try simp only [List.set_cons_zero])
              refine tk 9 ?_
              refine tk 10 ?_
              refine rd1 11 fun Kc hK => ?_
              obtain ⟨z0, z1⟩ := ce2 HW1.out.2.2.1
              have z2 := frz HW1.out.2.2.1 1
              have HWF : Hid (Gr w (w1.setCell ⟨K, 1, none⟩ (.slice vo2 (m + 1) vc2)) ∧ KT K W (w1.setCell ⟨K, 1, none⟩ (.slice vo2 (m + 1) vc2)) ∧ Seen w (w1.setCell ⟨K, 1, none⟩ (.slice vo2 (m + 1) vc2)) K (nd + 1) (idsA f ids) ∧ (w1.setCell ⟨K, 1, none⟩ (.slice vo2 (m + 1) vc2)).heap[B2]? = some (.cells #[.int .i64 f.kind, .int .i64 f.width, .int .i64 f.id, .int .i64 f.index, .slice ao f.kids.length ca] 50)) := by
                obtain ⟨a1, a2, a3, a4, a5, a6⟩ := HW1.out
                have kk := keep1 (j := 1) (Keeps.refl w1 (fun b => b = K)) (.slice vo2 (m + 1) vc2)
                have h1 : (w1.setCell ⟨K, 1, none⟩ (.slice vo2 (m + 1) vc2)).heap[K]? = some (.cells #[.int .i64 ((nd : Int) + 1), .slice vo2 (m + 1) vc2] 74) := (setc (j := 1) a3 (.slice vo2 (m + 1) vc2)).trans (by simp)
                have hgf : Gr w (w1.setCell ⟨K, 1, none⟩ (.slice vo2 (m + 1) vc2)) := a1.trans kk (fun j hj h => by have := HS.out.k0; omega)
                refine ⟨hgf, a2.trans (KT.keeps kk), ⟨hgf, HS.out.k0, vo2, m + 1, vc2, ?_, ?_, fun g hg => ?_⟩, (kk.block B2 (lt_of_heap a5) HBK.out).trans a5⟩
                · rw [h1]; simp
                · rw [HIds.out, List.map_append]
                  exact own_kp a4 fun b e => kk.block b (own_lt a4 b e) (fun h => row_ne_box a4 a3 (by decide) (by rw [e, h]))
                rcases a6 with h | h
                · rw [h] at hg; exact HV.out.2.2.2.2.2.1 g hg
                exact Nat.le_trans (HD.out.1.alloc (.cells #[.int .i64 f.id] 3)).size (h g hg)
              go_simp
              refine hK.out _ _ ⟨⟨HWF.out.1, HWF.out.2.1⟩, (ce5 HWF.out.2.2.2).2.2.1⟩ (fun hHeld => ?_)
              clear hK
              (try simp only [Act.put]); (try simp only [List.setIfInBounds_toArray]); (try simp only [List.set_cons_succ]); (try simp only [List.set_cons_zero])
              refine wpAnyH_done (by kernel_rfl) ?_ _
              clear hHeld z0 z1 z2 HW1
              generalize w1.setCell ⟨K, 1, none⟩ (.slice vo2 (m + 1) vc2) = WF at *
              have HHead : Hid (headB false dp f (nd, ids) = true) := headB_iff.2 ⟨HNb.out.symm, H256.out.1, H256.out.2, HTb.out.symm, HNl.out, fun h => (by cases h), fun _ => ⟨HK0.out, HNin.out⟩⟩
              have HInd : Hid ((false || decide (f.kind = 19)) = true) := HInd0.out
              have H33 := hidM (unlike_any S D ao ca f.kids WF (HRow.out.kept fun b hb => HWF.out.1.block b (HSS.out b hb) id))
              have rr4 := (ce5 HWF.out.2.2.2).2.2.2.2
              go_wp2_with (go_at_call 29; refine Hid.out ?_)
              unfold Hid
              refine Calls.mono H33.out ?_
              rintro e V5 ⟨z, rfl, hg5, hz⟩
              have HB5 : Hid (Gr w V5 ∧ KT K W V5 ∧ Seen w V5 K (nd + 1) (idsA f ids) ∧ V5.heap[B2]? = some (.cells #[.int .i64 f.kind, .int .i64 f.width, .int .i64 f.id, .int .i64 f.index, .slice ao f.kids.length ca] 50)) := ⟨HWF.out.1.tr hg5, HWF.out.2.1.trans (KT.gr hg5), HWF.out.2.2.1.kept hg5, (hg5.block _ (lt_of_heap HWF.out.2.2.2) id).trans HWF.out.2.2.2⟩
              have HZ := hidM hz
              clear hg5 hz H33 rr4
              cases z with
              | false =>
                have HR : Hid (RR = none) := HNoneU.out (by cases hu : unlB f.kids with | false => rfl | true => exact absurd (HZ.out.2 ((unlB_iff _).1 hu)) (by decide))
                have HGx : Hid (Gr w _) := HB5.out.1
                go_wp2_with fail
                go_ret
                show MayQ w W K RR _ _
                rw [HR.out]
                exact ⟨rfl, HGx.out⟩
              | true =>
                have HU : Hid (unlB f.kids = true) := (unlB_iff _).2 (HZ.out.1 rfl)
                have HRR : Hid (RR = mayK (g true) f.kids (nd + 1, idsA f ids)) := by show _ = _; rw [HSome.out HHead.out HU.out, HInd.out]
                have rr4 := (ce5 HB5.out.2.2.2).2.2.2.2
                clear HNone HNoneU HSome HF
                go_wp2_with fail
                go_loopw [12] (fun p wr => ∃ k : Nat, k ≤ f.kids.length ∧ p = .int .i64 (k : Int) ∧ Hid (∃ st : Nat × List Int, mayK (g true) (f.kids.take k) (nd + 1, idsA f ids) = some st ∧ Seen w wr K st.1 st.2 ∧ KT K W wr ∧ wr.heap[B2]? = some (.cells #[.int .i64 f.kind, .int .i64 f.width, .int .i64 f.id, .int .i64 f.index, .slice ao f.kids.length ca] 50))) (fun p _ => f.kids.length - (intOf p).toNat)
                case atStart => exact ⟨0, by omega, rfl, (nd + 1, idsA f ids), rfl, HB5.out.2.2.1, HB5.out.2.1, HB5.out.2.2.2⟩
                case round =>
                  obtain ⟨k, hk, rfl, HK⟩ := hrel
                  obtain ⟨st, hst⟩ : ∃ st : Nat × List Int, Hid (_ = some st ∧ Seen w wr K st.1 st.2 ∧ KT K W wr ∧ _) := HK.out
                  clear HK
                  have r4 := (ce5 hst.out.2.2.2).2.2.2.2
                  by_cases hlt : k < f.kids.length
                  · have hltI : (k : Int) < (f.kids.length : Int) := by omega
                    obtain ⟨b, o, hao, hcs⟩ := HKids.out (fun e => by rw [e] at hlt; simp at hlt)
                    obtain ⟨ao', ca', hc, hcall⟩ := hcs k hlt
                    obtain ⟨g0, g1, g2, g3, g4, g5, g6⟩ := hc.kept (hst.out.2.1.gr.block b (block_lt_of_cell hc.c0) id)
                    have hbd := mayK_bound (HGb.out true) _ _ _ (by have := H256.out; show nd + 1 ≤ 256; omega) (HIdl.out) hst.out.1
                    have HC := hidM (hcall true wr st.1 st.2 hst.out.2.1 hbd.1 hbd.2 (by have := H256.out; omega))
                    have HTK : Hid (mayK (g true) (f.kids.take (k + 1)) (nd + 1, idsA f ids) = g true f.kids[k] st) := by show _ = _; rw [List.take_add_one, List.getElem?_eq_getElem hlt]; show mayK _ (_ ++ [f.kids[k]]) _ = _; rw [mayK_snoc, hst.out.1]; rfl
                    have HKN : Hid (g true f.kids[k] st = none → mayK (g true) f.kids (nd + 1, idsA f ids) = none) := fun h => by
                      have := mayK_none _ (f.kids.take (k + 1)) (f.kids.drop (k + 1)) _ (HTK.out.trans h)
                      rwa [List.take_append_drop] at this
                    obtain ⟨rs, hrs⟩ : ∃ rs, rs = g true f.kids[k] st := ⟨_, rfl⟩
                    rw [← hrs] at HC HTK HKN
                    have hkn : (0 : Int) ≤ (k : Int) := by omega
                    have hwd : IntKind.i64.wrap ((dp : Int) + 1) = (dp : Int) + 1 := by rw [IntKind.wrap_i64]; omega
                    subst hao
                    clear hcs hcall hc hbd hrs
                    go_wp2_with (go_at_call 30; refine Hid.out ?_)
                    unfold Hid
                    refine Calls.mono HC.out ?_
                    rintro e w2 hq
                    cases rs with
                    | none =>
                      obtain ⟨rfl, hgq⟩ : e = .returned (.bool false) ∧ Gr w w2 := hq
                      have HR : Hid (RR = none) := by show _ = _; rw [HRR.out]; exact HKN.out rfl
                      have HGx : Hid (Gr w _) := hgq
                      go_wp2_with fail
                      go_ret
                      show MayQ w W K RR _ _
                      rw [HR.out]
                      exact ⟨rfl, HGx.out⟩
                    | some st2 =>
                      obtain ⟨rfl, hsq, hkq⟩ : e = .returned (.bool true) ∧ Seen w w2 K st2.1 st2.2 ∧ KT K wr w2 := hq
                      have HN : Hid (∃ st : Nat × List Int, mayK (g true) (f.kids.take (k + 1)) (nd + 1, idsA f ids) = some st ∧ Seen w w2 K st.1 st.2 ∧ KT K W w2 ∧ w2.heap[B2]? = some (.cells #[.int .i64 f.kind, .int .i64 f.width, .int .i64 f.id, .int .i64 f.index, .slice (some ⟨b, o, none⟩) f.kids.length ca] 50)) := ⟨st2, HTK.out, hsq, hst.out.2.2.1.trans hkq, hkq.2 B2 _ _ hst.out.2.2.2 (by decide) HBK.out⟩
                      clear hsq hkq hst HTK HKN HC g0 g1 g2 g3 g4 g5 g6 r4
                      go_wp2_with fail
                      go_roundw
                      case rel => exact ⟨k + 1, by omega, by simp, HN.out⟩
                      case measure => simp [intOf]; omega
                  have hltI : ¬ (k : Int) < (f.kids.length : Int) := by omega
                  have HE : Hid (RR = some st) := by
                    have h1 := hst.out.1
                    rw [List.take_of_length_le (by omega)] at h1
                    show _ = _; rw [HRR.out]; exact h1
                  go_wp2_with fail
                  go_ret
                  show MayQ w W K RR _ _
                  rw [HE.out]
                  exact ⟨rfl, hst.out.2.1, hst.out.2.2.1⟩
            go_simp
            refine hK.out _ _ (HSk27.out _ _ hHeld (gr_alloc wr.drew _)) (fun hHeld => ?_)
            clear hK
            (try simp only [Act.put]); (try simp only [List.setIfInBounds_toArray]); (try simp only [List.set_cons_succ]); (try simp only [List.set_cons_zero])
            have u2 : (wr.alloc (.cells #[.int .i64 f.id] 3)).cell? ⟨K, 1, none⟩ = some (.slice vo m vc) := (gr_alloc wr _).cell' u1 id
            refine rd1 4 fun Kc hK => ?_
            go_simp
            refine hK.out _ _ hHeld (fun hHeld => ?_)
            clear hK
            (try simp only [Act.put]); (try simp only [List.setIfInBounds_toArray]); (try simp only [List.set_cons_succ]); (try simp only [List.set_cons_zero])
            refine rd1 8 fun Kc hK => ?_
            have HRA := hidM (own_kp HD.out.2.2.2.1 fun b e => (gr_alloc wr.drew (.cells #[.int .i64 f.id] 3)).block b (own_lt HD.out.2.2.2.1 b e) id)
            refine step_append_any _ rfl (.tmp 99) (.tmp 102) 65 65 rfl 3 (.int .i64 0) 8 Tryz.underlying65 info3 rfl (.slice vo m vc) m (ids.map (Value.int .i64)) rfl HRA.out _ 1 [.int .i64 f.id] rfl (src_int wr.drew _ rfl) (by omega) (by omega) ?_
            intro v' w1 hown hgrow hblk
            obtain ⟨vo2, vc2, rfl⟩ := own_form1 hown
            have hkt : KT K wr.drew w1 := (KT.gr (gr_alloc wr.drew (.cells #[.int .i64 f.id] 3))).trans (KT.row HRA.out (Keeps.ofGrown hgrow))
            have hK1 : w1.heap[K]? = some (.cells #[.int .i64 ((nd : Int) + 1), .slice vo m vc] 74) := by
              have h1 := ((gr_alloc wr.drew (.cells #[.int .i64 f.id] 3)).block K (lt_of_heap HD.out.2.2.1) id).trans HD.out.2.2.1
              exact ((Keeps.ofGrown hgrow).block K (lt_of_heap h1) (row_ne_box HRA.out h1 (by decide))).trans h1
            have hgw1 : Gr w w1 := (HD.out.1.alloc _).trans (Keeps.ofGrown hgrow) (fun j hj e => by have := HV.out.2.2.2.2.2.1 j e; omega)
            have hB1 : w1.heap[B2]? = some (.cells #[.int .i64 f.kind, .int .i64 f.width, .int .i64 f.id, .int .i64 f.index, .slice ao f.kids.length ca] 50) := hkt.2 B2 _ _ HD.out.2.2.2.2 (by decide) HBK.out
            have HW1 := hidM (And.intro hgw1 (And.intro (HD.out.2.1.trans hkt) (And.intro hK1 (And.intro hown (And.intro hB1 hblk)))))
            have HS1 : Hid (Hid (Gr w w1 ∧ KT K W w1) ∧ w1.cell? ⟨B2, 2, none⟩ = some (.int .i64 f.id)) := ⟨⟨hgw1, HD.out.2.1.trans hkt⟩, (ce5 hB1).2.2.1⟩
            refine hK.out _ _ HS1.out (fun hHeld => ?_)
            clear hK hown hgrow hblk hkt hK1 hgw1 hB1 HS1
            (try simp only [Act.put]); (try simp only [List.setIfInBounds_toArray]); (try simp only [List.set_cons_succ]); (try simp only [List.set_cons_zero])
            refine tk 9 ?_
            refine tk 10 ?_
            refine rd1 11 fun Kc hK => ?_
            obtain ⟨z0, z1⟩ := ce2 HW1.out.2.2.1
            have z2 := frz HW1.out.2.2.1 1
            have HWF : Hid (Gr w (w1.setCell ⟨K, 1, none⟩ (.slice vo2 (m + 1) vc2)) ∧ KT K W (w1.setCell ⟨K, 1, none⟩ (.slice vo2 (m + 1) vc2)) ∧ Seen w (w1.setCell ⟨K, 1, none⟩ (.slice vo2 (m + 1) vc2)) K (nd + 1) (idsA f ids) ∧ (w1.setCell ⟨K, 1, none⟩ (.slice vo2 (m + 1) vc2)).heap[B2]? = some (.cells #[.int .i64 f.kind, .int .i64 f.width, .int .i64 f.id, .int .i64 f.index, .slice ao f.kids.length ca] 50)) := by
              obtain ⟨a1, a2, a3, a4, a5, a6⟩ := HW1.out
              have kk := keep1 (j := 1) (Keeps.refl w1 (fun b => b = K)) (.slice vo2 (m + 1) vc2)
              have h1 : (w1.setCell ⟨K, 1, none⟩ (.slice vo2 (m + 1) vc2)).heap[K]? = some (.cells #[.int .i64 ((nd : Int) + 1), .slice vo2 (m + 1) vc2] 74) := (setc (j := 1) a3 (.slice vo2 (m + 1) vc2)).trans (by simp)
              have hgf : Gr w (w1.setCell ⟨K, 1, none⟩ (.slice vo2 (m + 1) vc2)) := a1.trans kk (fun j hj h => by have := HS.out.k0; omega)
              refine ⟨hgf, a2.trans (KT.keeps kk), ⟨hgf, HS.out.k0, vo2, m + 1, vc2, ?_, ?_, fun g hg => ?_⟩, (kk.block B2 (lt_of_heap a5) HBK.out).trans a5⟩
              · rw [h1]; simp
              · rw [HIds.out, List.map_append]
                exact own_kp a4 fun b e => kk.block b (own_lt a4 b e) (fun h => row_ne_box a4 a3 (by decide) (by rw [e, h]))
              rcases a6 with h | h
              · rw [h] at hg; exact HV.out.2.2.2.2.2.1 g hg
              exact Nat.le_trans (HD.out.1.alloc (.cells #[.int .i64 f.id] 3)).size (h g hg)
            go_simp
            refine hK.out _ _ ⟨⟨HWF.out.1, HWF.out.2.1⟩, (ce5 HWF.out.2.2.2).2.2.1⟩ (fun hHeld => ?_)
            clear hK
            (try simp only [Act.put]); (try simp only [List.setIfInBounds_toArray]); (try simp only [List.set_cons_succ]); (try simp only [List.set_cons_zero])
            refine wpAnyH_done (by kernel_rfl) ?_ _
            clear hHeld z0 z1 z2 HW1
            generalize w1.setCell ⟨K, 1, none⟩ (.slice vo2 (m + 1) vc2) = WF at *
            have HHead : Hid (headB false dp f (nd, ids) = true) := headB_iff.2 ⟨HNb.out.symm, H256.out.1, H256.out.2, HTb.out.symm, HNl.out, fun h => (by cases h), fun _ => ⟨HK0.out, HNin.out⟩⟩
            have HInd : Hid ((false || decide (f.kind = 19)) = true) := HInd0.out
            have H33 := hidM (unlike_any S D ao ca f.kids WF (HRow.out.kept fun b hb => HWF.out.1.block b (HSS.out b hb) id))
            have rr4 := (ce5 HWF.out.2.2.2).2.2.2.2
            go_wp2_with (go_at_call 29; refine Hid.out ?_)
            unfold Hid
            refine Calls.mono H33.out ?_
            rintro e V5 ⟨z, rfl, hg5, hz⟩
            have HB5 : Hid (Gr w V5 ∧ KT K W V5 ∧ Seen w V5 K (nd + 1) (idsA f ids) ∧ V5.heap[B2]? = some (.cells #[.int .i64 f.kind, .int .i64 f.width, .int .i64 f.id, .int .i64 f.index, .slice ao f.kids.length ca] 50)) := ⟨HWF.out.1.tr hg5, HWF.out.2.1.trans (KT.gr hg5), HWF.out.2.2.1.kept hg5, (hg5.block _ (lt_of_heap HWF.out.2.2.2) id).trans HWF.out.2.2.2⟩
            have HZ := hidM hz
            clear hg5 hz H33 rr4
            cases z with
            | false =>
              have HR : Hid (RR = none) := HNoneU.out (by cases hu : unlB f.kids with | false => rfl | true => exact absurd (HZ.out.2 ((unlB_iff _).1 hu)) (by decide))
              have HGx : Hid (Gr w _) := HB5.out.1
              go_wp2_with fail
              go_ret
              show MayQ w W K RR _ _
              rw [HR.out]
              exact ⟨rfl, HGx.out⟩
            | true =>
              have HU : Hid (unlB f.kids = true) := (unlB_iff _).2 (HZ.out.1 rfl)
              have HRR : Hid (RR = mayK (g true) f.kids (nd + 1, idsA f ids)) := by show _ = _; rw [HSome.out HHead.out HU.out, HInd.out]
              have rr4 := (ce5 HB5.out.2.2.2).2.2.2.2
              clear HNone HNoneU HSome HF
              go_wp2_with fail
              go_loopw [12] (fun p wr => ∃ k : Nat, k ≤ f.kids.length ∧ p = .int .i64 (k : Int) ∧ Hid (∃ st : Nat × List Int, mayK (g true) (f.kids.take k) (nd + 1, idsA f ids) = some st ∧ Seen w wr K st.1 st.2 ∧ KT K W wr ∧ wr.heap[B2]? = some (.cells #[.int .i64 f.kind, .int .i64 f.width, .int .i64 f.id, .int .i64 f.index, .slice ao f.kids.length ca] 50))) (fun p _ => f.kids.length - (intOf p).toNat)
              case atStart => exact ⟨0, by omega, rfl, (nd + 1, idsA f ids), rfl, HB5.out.2.2.1, HB5.out.2.1, HB5.out.2.2.2⟩
              case round =>
                obtain ⟨k, hk, rfl, HK⟩ := hrel
                obtain ⟨st, hst⟩ : ∃ st : Nat × List Int, Hid (_ = some st ∧ Seen w wr K st.1 st.2 ∧ KT K W wr ∧ _) := HK.out
                clear HK
                have r4 := (ce5 hst.out.2.2.2).2.2.2.2
                by_cases hlt : k < f.kids.length
                · have hltI : (k : Int) < (f.kids.length : Int) := by omega
                  obtain ⟨b, o, hao, hcs⟩ := HKids.out (fun e => by rw [e] at hlt; simp at hlt)
                  obtain ⟨ao', ca', hc, hcall⟩ := hcs k hlt
                  obtain ⟨g0, g1, g2, g3, g4, g5, g6⟩ := hc.kept (hst.out.2.1.gr.block b (block_lt_of_cell hc.c0) id)
                  have hbd := mayK_bound (HGb.out true) _ _ _ (by have := H256.out; show nd + 1 ≤ 256; omega) (HIdl.out) hst.out.1
                  have HC := hidM (hcall true wr st.1 st.2 hst.out.2.1 hbd.1 hbd.2 (by have := H256.out; omega))
                  have HTK : Hid (mayK (g true) (f.kids.take (k + 1)) (nd + 1, idsA f ids) = g true f.kids[k] st) := by show _ = _; rw [List.take_add_one, List.getElem?_eq_getElem hlt]; show mayK _ (_ ++ [f.kids[k]]) _ = _; rw [mayK_snoc, hst.out.1]; rfl
                  have HKN : Hid (g true f.kids[k] st = none → mayK (g true) f.kids (nd + 1, idsA f ids) = none) := fun h => by
                    have := mayK_none _ (f.kids.take (k + 1)) (f.kids.drop (k + 1)) _ (HTK.out.trans h)
                    rwa [List.take_append_drop] at this
                  obtain ⟨rs, hrs⟩ : ∃ rs, rs = g true f.kids[k] st := ⟨_, rfl⟩
                  rw [← hrs] at HC HTK HKN
                  have hkn : (0 : Int) ≤ (k : Int) := by omega
                  have hwd : IntKind.i64.wrap ((dp : Int) + 1) = (dp : Int) + 1 := by rw [IntKind.wrap_i64]; omega
                  subst hao
                  clear hcs hcall hc hbd hrs
                  go_wp2_with (go_at_call 30; refine Hid.out ?_)
                  unfold Hid
                  refine Calls.mono HC.out ?_
                  rintro e w2 hq
                  cases rs with
                  | none =>
                    obtain ⟨rfl, hgq⟩ : e = .returned (.bool false) ∧ Gr w w2 := hq
                    have HR : Hid (RR = none) := by show _ = _; rw [HRR.out]; exact HKN.out rfl
                    have HGx : Hid (Gr w _) := hgq
                    go_wp2_with fail
                    go_ret
                    show MayQ w W K RR _ _
                    rw [HR.out]
                    exact ⟨rfl, HGx.out⟩
                  | some st2 =>
                    obtain ⟨rfl, hsq, hkq⟩ : e = .returned (.bool true) ∧ Seen w w2 K st2.1 st2.2 ∧ KT K wr w2 := hq
                    have HN : Hid (∃ st : Nat × List Int, mayK (g true) (f.kids.take (k + 1)) (nd + 1, idsA f ids) = some st ∧ Seen w w2 K st.1 st.2 ∧ KT K W w2 ∧ w2.heap[B2]? = some (.cells #[.int .i64 f.kind, .int .i64 f.width, .int .i64 f.id, .int .i64 f.index, .slice (some ⟨b, o, none⟩) f.kids.length ca] 50)) := ⟨st2, HTK.out, hsq, hst.out.2.2.1.trans hkq, hkq.2 B2 _ _ hst.out.2.2.2 (by decide) HBK.out⟩
                    clear hsq hkq hst HTK HKN HC g0 g1 g2 g3 g4 g5 g6 r4
                    go_wp2_with fail
                    go_roundw
                    case rel => exact ⟨k + 1, by omega, by simp, HN.out⟩
                    case measure => simp [intOf]; omega
                have hltI : ¬ (k : Int) < (f.kids.length : Int) := by omega
                have HE : Hid (RR = some st) := by
                  have h1 := hst.out.1
                  rw [List.take_of_length_le (by omega)] at h1
                  show _ = _; rw [HRR.out]; exact h1
                go_wp2_with fail
                go_ret
                show MayQ w W K RR _ _
                rw [HE.out]
                exact ⟨rfl, hst.out.2.1, hst.out.2.2.1⟩
end Go.Proofs.YtdihbfjjddmbiaaGreatDoor.Kit
