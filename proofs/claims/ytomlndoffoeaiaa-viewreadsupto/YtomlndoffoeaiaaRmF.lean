import Derived.Test.YtomlndoffoeaiaaRmE
namespace Go.Proofs.Ytomlndoffoeaiaa.Kit
open Go.RowKit Go.Deep
set_option linter.unusedVariables false

/-! ### numbers: what is needed of the room -/
theorem fresh_u {c : Cn} {g g1 : Gh} {V W1 : World} {u : Value} {et n who : Nat} {xs : List Value} {gq : Option Nat} {rs : List (Int × Int)} (hg : g1 = setW g who gq rs) (hI : Inv c V g) (hI1 : Inv c W1 g1) (ho : W1.ownsRow 0 et 1 u n xs) (hn : ∀ b, u.ownBlock = some b → V.heap.size ≤ b) (h50 : et ≠ 50) (h109 : et ≠ 109) : ∀ b, u.ownBlock = some b → ∀ i, ¬ ft c g1 i b := by
  intro b e i hi
  obtain ⟨cu, hcu⟩ := own_ty ho b e
  have wt : ∀ q gq rs, WatchAt W1 q gq rs → (q = b ∨ gq = some b) → False := fun q gq rs hw hq => by
    obtain ⟨v, hv, hown, hb⟩ := hw
    rcases hq with hq | hq
    · subst hq
      rw [hv] at hcu
      simp at hcu
      exact h109 hcu.2.symm
    · obtain ⟨cv, hcv⟩ := own_ty hown b (hb.trans hq)
      rw [hcv] at hcu
      simp at hcu
      exact h50 hcu.2.symm
  have old : ft c g i b → False := fun h => by have := hI.lt i b h; have := hn b e; omega
  have hn' := hn b e
  cases i with
  | w1 => exact wt _ _ _ (hI1.cm .w1) hi
  | w2 => exact wt _ _ _ (hI1.cm .w2) hi
  | _ => subst hg; exact old (by unfold setW at hi; split at hi <;> exact hi)
theorem Ok.same {c : Cn} {g : Gh} {k who : Nat} {gq : Option Nat} (hw : who ≤ 2) (h : Ok c g k) : Ok c (setW g who gq (wOf g who)) k := by
  match who, hw with
  | 0, _ => exact h
  | 1, _ => exact { h with }
  | 2, _ => exact { h with }
/-- numbers are taken out of a list, and it is written full -/
structure Lp (W2 wr : World) (et : Nat) (kd : IntKind) (u : Value) (cnt : Nat) (xs : List Int) (z : Int) (j : Nat) (gv : Value) : Prop where
  kp : Keeps W2 wr (fun b => u.ownBlock = some b)
  row : ∃ ys, wr.ownsRow 0 et 1 u cnt ys ∧ (∀ i, i < j → ys[i]? = some (.int kd z)) ∧ ∀ i, j ≤ i → i < cnt → ys[i]? = some (.int kd (xs.getD i 0))
  got : wr.ownsRow 0 46 1 gv j ((xs.take j).map (Value.int .u64))
  gnew : ∀ b, gv.ownBlock = some b → W2.heap.size ≤ b
theorem Lp.start {W2 : World} {et : Nat} {kd : IntKind} {u : Value} {cnt : Nat} {xs : List Int} {z : Int} (h : W2.ownsRow 0 et 1 u cnt (xs.map (Value.int kd))) (hl : xs.length = cnt) : Lp W2 W2 et kd u cnt xs z 0 (.slice none 0 0) :=
  ⟨Keeps.refl _ _, ⟨_, h, fun i hi => by omega, fun i _ hi => by simp [List.getElem?_eq_getElem (show i < xs.length by omega)]⟩, World.ownsRow_nil _ _ _ _, fun b e => by simp [Value.ownBlock] at e⟩
theorem Lp.cell {W2 wr : World} {et : Nat} {kd : IntKind} {ub uc : Nat} {cnt : Nat} {xs : List Int} {z : Int} {j : Nat} {gv : Value} (h : Lp W2 wr et kd (.slice (some ⟨ub, 0, none⟩) cnt uc) cnt xs z j gv) (hj : j < cnt) : wr.cell? ⟨ub, j, none⟩ = some (.int kd (xs.getD j 0)) := by
  obtain ⟨ys, h1, h2, h3⟩ := h.row
  have := h1.cells (g := ub) rfl j _ (h3 j (Nat.le_refl _) hj)
  rwa [add_lit0] at this
theorem Lp.next {W2 wr Va w7 : World} {et : Nat} {kd : IntKind} {ub uc : Nat} {cnt : Nat} {xs : List Int} {z : Int} {j : Nat} {gv gv' : Value} (h : Lp W2 wr et kd (.slice (some ⟨ub, 0, none⟩) cnt uc) cnt xs z j gv) (hj : j < cnt) (hxl : xs.length = cnt) (hub : ub < W2.heap.size) (hk : Keeps wr Va (fun _ => False))
    (ho : w7.ownsRow 0 46 1 gv' (j + 1) ((xs.take j).map (Value.int .u64) ++ [.int .u64 (xs.getD j 0)])) (hg : Va.grownBy w7 gv.ownBlock) (hb : gv'.ownBlock = gv.ownBlock ∨ ∀ b, gv'.ownBlock = some b → Va.heap.size ≤ b) :
    w7.cell? ⟨ub, j, none⟩ = some (.int kd (xs.getD j 0)) ∧ w7.frozen? ⟨ub, j, none⟩ = false ∧ (∀ p v, W2.cell? p = some v → p.block ≠ ub → w7.cell? p = some v) ∧ Lp W2 (w7.setCell ⟨ub, j, none⟩ (.int kd z)) et kd (.slice (some ⟨ub, 0, none⟩) cnt uc) cnt xs z (j + 1) gv' := by
  have k7 : Keeps wr w7 (fun b => gv.ownBlock = some b) := (hk.mono fun _ _ f => f.elim).trans (Keeps.ofGrown hg) (fun _ _ h => h)
  have k27 : Keeps W2 w7 (fun b => (Value.slice (some ⟨ub, 0, none⟩) cnt uc).ownBlock = some b) := h.kp.trans k7 fun b hb' e => by have := h.gnew b e; omega
  obtain ⟨ys, h1, h2, h3⟩ := h.row
  have h17 : w7.ownsRow 0 et 1 (.slice (some ⟨ub, 0, none⟩) cnt uc) cnt ys := row_kp h1 fun b e => k7.block b (own_lt h1 b e) fun q => by
    simp [Value.ownBlock] at e
    have := h.gnew b q
    omega
  have hlen : ys.length = cnt := by have := h1.1; omega
  have hgn : ∀ b, gv'.ownBlock = some b → W2.heap.size ≤ b := fun b e => by
    rcases hb with hb | hb
    · exact h.gnew b (hb ▸ e)
    · exact Nat.le_trans (Nat.le_trans h.kp.size hk.size) (hb b e)
  have k8 : Keeps w7 (w7.setCell ⟨ub, j, none⟩ (.int kd z)) (fun b => b = ub) := (Keeps.refl w7 (fun b => b = ub)).setCell (p := ⟨ub, j, none⟩) (fun _ => rfl) _
  refine ⟨?_, own_frz h17 j, fun p v hp hne => k27.cell' hp fun e => hne (by simp [Value.ownBlock] at e; exact e.symm), ⟨k27.trans k8 fun b _ e => by subst e; rfl, ⟨_, own_putN (k := j) h17 (.int kd z), fun i hi => ?_, fun i hi hc => ?_⟩, ?_, hgn⟩⟩
  · have := h17.cells (g := ub) rfl j _ (h3 j (Nat.le_refl _) hj)
    rwa [add_lit0] at this
  · by_cases hij : i = j
    · subst hij
      rw [List.getElem?_set_self (by omega)]
    · rw [List.getElem?_set_ne (by omega)]
      exact h2 i (by omega)
  · rw [List.getElem?_set_ne (by omega)]
    exact h3 i (by omega) hc
  · have e1 : (xs.take (j + 1)).map (Value.int .u64) = (xs.take j).map (Value.int .u64) ++ [.int .u64 (xs.getD j 0)] := by
      rw [List.take_add_one, List.map_append, List.getElem?_eq_getElem (show j < xs.length by omega)]
      simp [List.getElem?_eq_getElem (show j < xs.length by omega)]
    rw [e1]
    exact row_kp ho fun b e => k8.block b (own_lt ho b e) fun q => by have := hgn b e; omega
/-- a turn's state -/
structure Tn (c : Cn) (g : Gh) (w : World) (B : Nat) (box : Array Value) (wv : Value) (cnt : Nat) (wx : List Value) (wr : World) (g' : Gh) : Prop where
  go : Go c NoF w g wr g'
  L : g'.L = g.L
  box : wr.heap[B]? = some (.cells box 93 (0, 0))
  bout : ∀ i, ¬ ft c g' i B
  want : wr.ownsRow 0 46 1 wv cnt wx
  wout : ∀ b, wv.ownBlock = some b → ∀ i, ¬ ft c g' i b
theorem Tn.next {c : Cn} {g g1 g' : Gh} {w w1 wr : World} {B : Nat} {box : Array Value} {wv : Value} {cnt : Nat} {wx : List Value} (t : Tn c g w B box wv cnt wx wr g') (h : Go c NoF wr g' w1 g1) (hL : g1.L = g.L) : Tn c g w B box wv cnt wx w1 g1 := by
  obtain ⟨b1, b2⟩ := h.box t.box t.bout
  refine ⟨t.go.trans h (fun _ f => f.elim), hL, b1, b2, row_kp t.want fun b e => ?_, fun b e => ?_⟩
  · obtain ⟨cv, hcv⟩ := own_ty t.want b e
    exact (h.box hcv (t.wout b e)).1.trans hcv.symm
  · obtain ⟨cv, hcv⟩ := own_ty t.want b e
    exact (h.box hcv (t.wout b e)).2
def nu1 (g : Gh) (v u : Value) (n : Nat) : Gh := { g with v11 := v, N1 := g.N1 + 1, R1 := fun j => if j = g.N1 then u else g.R1 j, l1 := fun j => if j = g.N1 then n else g.l1 j }
theorem Ok.nl1 {c : Cn} {g : Gh} {k n : Nat} {v u : Value} (h : Ok c g k) (hn : n ≤ 1048576) : Ok c (nu1 g v u n) (k + 1) :=
  { h.mono (Nat.le_succ k) with
    c1 := Nat.succ_le_succ h.c1
    l1 := fun i hi => by
      have hi' : i < g.N1 + 1 := hi
      show (if i = g.N1 then n else g.l1 i) ≤ 1048576
      by_cases e : i = g.N1
      · rw [if_pos e]; exact hn
      · rw [if_neg e]; exact h.l1 i (by omega) }
theorem nu1_L (g : Gh) (v u : Value) (n : Nat) : (nu1 g v u n).L = g.L := rfl
theorem nu1_t (g : Gh) (v u : Value) (n : Nat) : (nu1 g v u n).t1 = g.t1 ∧ (nu1 g v u n).t2 = g.t2 := ⟨rfl, rfl⟩
theorem nu1_setW (g : Gh) (who : Nat) (q : Option Nat) (rs : List (Int × Int)) (v u : Value) (n : Nat) : nu1 (setW g who q rs) v u n = setW (nu1 g v u n) who q rs := by
  unfold setW
  split <;> rfl
theorem wOf_nu1 (g : Gh) (v u : Value) (n who : Nat) : wOf (nu1 g v u n) who = wOf g who := by
  unfold wOf
  split <;> rfl
theorem tOf_nu1 (g : Gh) (v u : Value) (n who : Nat) : tOf (nu1 g v u n) who = tOf g who := by
  unfold tOf
  split <;> rfl
/-- the new list is full, and lies in the room -/
theorem Inv.fin1 {c : Cn} {g : Gh} {W1 W2 W3 : World} {u gv : Value} {cnt : Nat} {xs : List Int} {z : Int} {us : List Value} (h : Inv c W1 g) (hu : ∀ b, u.ownBlock = some b → ∀ i, ¬ ft c g i b) (ho : W1.ownsRow 0 5 1 u cnt us) (hz : mk1 g.N1 = z)
    (rd : RowDone W1 W2 c.m 11 22 1 (csOf c g) g.v11 (g.N1 + 1) ((List.range g.N1).map g.R1 ++ [u])) (lp : Lp W2 W3 5 .u8 u cnt xs z cnt gv) : ∃ v', Go c (fun b => u.ownBlock = some b) W1 g W3 (nu1 g v' u cnt) := by
  obtain ⟨v', h0, h1, h2, h3⟩ := rd
  obtain ⟨ys, r1, r2, -⟩ := lp.row
  refine ⟨v', h.nl1 ((h2.mono fun b _ e => ?_).trans lp.kp fun b _ e => .inr (.inr e)) hu (lp.kp.row h0 fun e => hu c.m e .room rfl) (row_kp h1 fun b e => lp.kp.block b (own_lt h1 b e) fun q => ?_) h3 r1 (fun j hj => by rw [hz]; exact r2 j hj)⟩
  · rcases e with e | e
    · exact .inr (.inl e)
    · exact .inl e
  · rcases h3 with h3 | h3
    · exact hu b q .n1 (.inl (h3.symm.trans e))
    · have := h3 b e
      have := own_lt ho b q
      omega
/-- what lies in a new list lies there, behind its being put into the room -/
theorem Inv.mid1 {c : Cn} {g : Gh} {W1 W2 : World} {u : Value} {cnt : Nat} {us : List Value} (h : Inv c W1 g) (hu : ∀ b, u.ownBlock = some b → ∀ i, ¬ ft c g i b) (ho : W1.ownsRow 0 5 1 u cnt us)
    (rd : RowDone W1 W2 c.m 11 22 1 (csOf c g) g.v11 (g.N1 + 1) ((List.range g.N1).map g.R1 ++ [u])) : W2.ownsRow 0 5 1 u cnt us ∧ (∃ oo oc, W2.cell? ⟨c.m, 11, none⟩ = some (.slice oo (g.N1 + 1) oc)) ∧ u.ownBlock ≠ some c.m ∧ ∀ b, u.ownBlock = some b → b < W2.heap.size := by
  obtain ⟨v', h0, h1, h2, h3⟩ := rd
  have r1 : W2.ownsRow 0 5 1 u cnt us := row_kp ho fun b e => h2.block b (own_lt ho b e) fun q => by
    rcases q with q | q
    · exact hu b e .room q
    · exact hu b e .n1 (.inl q)
  refine ⟨r1, ?_, fun e => hu c.m e .room rfl, fun b e => own_lt r1 b e⟩
  obtain ⟨oo, oc, e⟩ := ownN_form h1
  refine ⟨oo, oc, ?_⟩
  rw [cell_of_row W2 c.m 11 _ 87 (0, 0) h0, ← e]
  simp [csOf]
def nu2 (g : Gh) (v u : Value) (n : Nat) : Gh := { g with v12 := v, N2 := g.N2 + 1, R2 := fun j => if j = g.N2 then u else g.R2 j, l2 := fun j => if j = g.N2 then n else g.l2 j }
theorem Ok.nl2 {c : Cn} {g : Gh} {k n : Nat} {v u : Value} (h : Ok c g k) (hn : n ≤ 1048576) : Ok c (nu2 g v u n) (k + 1) :=
  { h.mono (Nat.le_succ k) with
    c2 := Nat.succ_le_succ h.c2
    l2 := fun i hi => by
      have hi' : i < g.N2 + 1 := hi
      show (if i = g.N2 then n else g.l2 i) ≤ 1048576
      by_cases e : i = g.N2
      · rw [if_pos e]; exact hn
      · rw [if_neg e]; exact h.l2 i (by omega) }
theorem nu2_L (g : Gh) (v u : Value) (n : Nat) : (nu2 g v u n).L = g.L := rfl
theorem nu2_t (g : Gh) (v u : Value) (n : Nat) : (nu2 g v u n).t1 = g.t1 ∧ (nu2 g v u n).t2 = g.t2 := ⟨rfl, rfl⟩
theorem nu2_setW (g : Gh) (who : Nat) (q : Option Nat) (rs : List (Int × Int)) (v u : Value) (n : Nat) : nu2 (setW g who q rs) v u n = setW (nu2 g v u n) who q rs := by
  unfold setW
  split <;> rfl
theorem wOf_nu2 (g : Gh) (v u : Value) (n who : Nat) : wOf (nu2 g v u n) who = wOf g who := by
  unfold wOf
  split <;> rfl
theorem tOf_nu2 (g : Gh) (v u : Value) (n who : Nat) : tOf (nu2 g v u n) who = tOf g who := by
  unfold tOf
  split <;> rfl
/-- the new list is full, and lies in the room -/
theorem Inv.fin2 {c : Cn} {g : Gh} {W1 W2 W3 : World} {u gv : Value} {cnt : Nat} {xs : List Int} {z : Int} {us : List Value} (h : Inv c W1 g) (hu : ∀ b, u.ownBlock = some b → ∀ i, ¬ ft c g i b) (ho : W1.ownsRow 0 104 1 u cnt us) (hz : mk2 g.N2 = z)
    (rd : RowDone W1 W2 c.m 12 103 1 (csOf c g) g.v12 (g.N2 + 1) ((List.range g.N2).map g.R2 ++ [u])) (lp : Lp W2 W3 104 .u16 u cnt xs z cnt gv) : ∃ v', Go c (fun b => u.ownBlock = some b) W1 g W3 (nu2 g v' u cnt) := by
  obtain ⟨v', h0, h1, h2, h3⟩ := rd
  obtain ⟨ys, r1, r2, -⟩ := lp.row
  refine ⟨v', h.nl2 ((h2.mono fun b _ e => ?_).trans lp.kp fun b _ e => .inr (.inr e)) hu (lp.kp.row h0 fun e => hu c.m e .room rfl) (row_kp h1 fun b e => lp.kp.block b (own_lt h1 b e) fun q => ?_) h3 r1 (fun j hj => by rw [hz]; exact r2 j hj)⟩
  · rcases e with e | e
    · exact .inr (.inl e)
    · exact .inl e
  · rcases h3 with h3 | h3
    · exact hu b q .n2 (.inl (h3.symm.trans e))
    · have := h3 b e
      have := own_lt ho b q
      omega
/-- what lies in a new list lies there, behind its being put into the room -/
theorem Inv.mid2 {c : Cn} {g : Gh} {W1 W2 : World} {u : Value} {cnt : Nat} {us : List Value} (h : Inv c W1 g) (hu : ∀ b, u.ownBlock = some b → ∀ i, ¬ ft c g i b) (ho : W1.ownsRow 0 104 1 u cnt us)
    (rd : RowDone W1 W2 c.m 12 103 1 (csOf c g) g.v12 (g.N2 + 1) ((List.range g.N2).map g.R2 ++ [u])) : W2.ownsRow 0 104 1 u cnt us ∧ (∃ oo oc, W2.cell? ⟨c.m, 12, none⟩ = some (.slice oo (g.N2 + 1) oc)) ∧ u.ownBlock ≠ some c.m ∧ ∀ b, u.ownBlock = some b → b < W2.heap.size := by
  obtain ⟨v', h0, h1, h2, h3⟩ := rd
  have r1 : W2.ownsRow 0 104 1 u cnt us := row_kp ho fun b e => h2.block b (own_lt ho b e) fun q => by
    rcases q with q | q
    · exact hu b e .room q
    · exact hu b e .n2 (.inl q)
  refine ⟨r1, ?_, fun e => hu c.m e .room rfl, fun b e => own_lt r1 b e⟩
  obtain ⟨oo, oc, e⟩ := ownN_form h1
  refine ⟨oo, oc, ?_⟩
  rw [cell_of_row W2 c.m 12 _ 87 (0, 0) h0, ← e]
  simp [csOf]
def nu4 (g : Gh) (v u : Value) (n : Nat) : Gh := { g with v13 := v, N4 := g.N4 + 1, R4 := fun j => if j = g.N4 then u else g.R4 j, l4 := fun j => if j = g.N4 then n else g.l4 j }
theorem Ok.nl4 {c : Cn} {g : Gh} {k n : Nat} {v u : Value} (h : Ok c g k) (hn : n ≤ 1048576) : Ok c (nu4 g v u n) (k + 1) :=
  { h.mono (Nat.le_succ k) with
    c4 := Nat.succ_le_succ h.c4
    l4 := fun i hi => by
      have hi' : i < g.N4 + 1 := hi
      show (if i = g.N4 then n else g.l4 i) ≤ 1048576
      by_cases e : i = g.N4
      · rw [if_pos e]; exact hn
      · rw [if_neg e]; exact h.l4 i (by omega) }
theorem nu4_L (g : Gh) (v u : Value) (n : Nat) : (nu4 g v u n).L = g.L := rfl
theorem nu4_t (g : Gh) (v u : Value) (n : Nat) : (nu4 g v u n).t1 = g.t1 ∧ (nu4 g v u n).t2 = g.t2 := ⟨rfl, rfl⟩
theorem nu4_setW (g : Gh) (who : Nat) (q : Option Nat) (rs : List (Int × Int)) (v u : Value) (n : Nat) : nu4 (setW g who q rs) v u n = setW (nu4 g v u n) who q rs := by
  unfold setW
  split <;> rfl
theorem wOf_nu4 (g : Gh) (v u : Value) (n who : Nat) : wOf (nu4 g v u n) who = wOf g who := by
  unfold wOf
  split <;> rfl
theorem tOf_nu4 (g : Gh) (v u : Value) (n who : Nat) : tOf (nu4 g v u n) who = tOf g who := by
  unfold tOf
  split <;> rfl
/-- the new list is full, and lies in the room -/
theorem Inv.fin4 {c : Cn} {g : Gh} {W1 W2 W3 : World} {u gv : Value} {cnt : Nat} {xs : List Int} {z : Int} {us : List Value} (h : Inv c W1 g) (hu : ∀ b, u.ownBlock = some b → ∀ i, ¬ ft c g i b) (ho : W1.ownsRow 0 106 1 u cnt us) (hz : mk4 g.N4 = z)
    (rd : RowDone W1 W2 c.m 13 105 1 (csOf c g) g.v13 (g.N4 + 1) ((List.range g.N4).map g.R4 ++ [u])) (lp : Lp W2 W3 106 .u32 u cnt xs z cnt gv) : ∃ v', Go c (fun b => u.ownBlock = some b) W1 g W3 (nu4 g v' u cnt) := by
  obtain ⟨v', h0, h1, h2, h3⟩ := rd
  obtain ⟨ys, r1, r2, -⟩ := lp.row
  refine ⟨v', h.nl4 ((h2.mono fun b _ e => ?_).trans lp.kp fun b _ e => .inr (.inr e)) hu (lp.kp.row h0 fun e => hu c.m e .room rfl) (row_kp h1 fun b e => lp.kp.block b (own_lt h1 b e) fun q => ?_) h3 r1 (fun j hj => by rw [hz]; exact r2 j hj)⟩
  · rcases e with e | e
    · exact .inr (.inl e)
    · exact .inl e
  · rcases h3 with h3 | h3
    · exact hu b q .n4 (.inl (h3.symm.trans e))
    · have := h3 b e
      have := own_lt ho b q
      omega
/-- what lies in a new list lies there, behind its being put into the room -/
theorem Inv.mid4 {c : Cn} {g : Gh} {W1 W2 : World} {u : Value} {cnt : Nat} {us : List Value} (h : Inv c W1 g) (hu : ∀ b, u.ownBlock = some b → ∀ i, ¬ ft c g i b) (ho : W1.ownsRow 0 106 1 u cnt us)
    (rd : RowDone W1 W2 c.m 13 105 1 (csOf c g) g.v13 (g.N4 + 1) ((List.range g.N4).map g.R4 ++ [u])) : W2.ownsRow 0 106 1 u cnt us ∧ (∃ oo oc, W2.cell? ⟨c.m, 13, none⟩ = some (.slice oo (g.N4 + 1) oc)) ∧ u.ownBlock ≠ some c.m ∧ ∀ b, u.ownBlock = some b → b < W2.heap.size := by
  obtain ⟨v', h0, h1, h2, h3⟩ := rd
  have r1 : W2.ownsRow 0 106 1 u cnt us := row_kp ho fun b e => h2.block b (own_lt ho b e) fun q => by
    rcases q with q | q
    · exact hu b e .room q
    · exact hu b e .n4 (.inl q)
  refine ⟨r1, ?_, fun e => hu c.m e .room rfl, fun b e => own_lt r1 b e⟩
  obtain ⟨oo, oc, e⟩ := ownN_form h1
  refine ⟨oo, oc, ?_⟩
  rw [cell_of_row W2 c.m 13 _ 87 (0, 0) h0, ← e]
  simp [csOf]
def nu8 (g : Gh) (v u : Value) (n : Nat) : Gh := { g with v14 := v, N8 := g.N8 + 1, R8 := fun j => if j = g.N8 then u else g.R8 j, l8 := fun j => if j = g.N8 then n else g.l8 j }
theorem Ok.nl8 {c : Cn} {g : Gh} {k n : Nat} {v u : Value} (h : Ok c g k) (hn : n ≤ 1048576) : Ok c (nu8 g v u n) (k + 1) :=
  { h.mono (Nat.le_succ k) with
    c8 := Nat.succ_le_succ h.c8
    l8 := fun i hi => by
      have hi' : i < g.N8 + 1 := hi
      show (if i = g.N8 then n else g.l8 i) ≤ 1048576
      by_cases e : i = g.N8
      · rw [if_pos e]; exact hn
      · rw [if_neg e]; exact h.l8 i (by omega) }
theorem nu8_L (g : Gh) (v u : Value) (n : Nat) : (nu8 g v u n).L = g.L := rfl
theorem nu8_t (g : Gh) (v u : Value) (n : Nat) : (nu8 g v u n).t1 = g.t1 ∧ (nu8 g v u n).t2 = g.t2 := ⟨rfl, rfl⟩
theorem nu8_setW (g : Gh) (who : Nat) (q : Option Nat) (rs : List (Int × Int)) (v u : Value) (n : Nat) : nu8 (setW g who q rs) v u n = setW (nu8 g v u n) who q rs := by
  unfold setW
  split <;> rfl
theorem wOf_nu8 (g : Gh) (v u : Value) (n who : Nat) : wOf (nu8 g v u n) who = wOf g who := by
  unfold wOf
  split <;> rfl
theorem tOf_nu8 (g : Gh) (v u : Value) (n who : Nat) : tOf (nu8 g v u n) who = tOf g who := by
  unfold tOf
  split <;> rfl
/-- the new list is full, and lies in the room -/
theorem Inv.fin8 {c : Cn} {g : Gh} {W1 W2 W3 : World} {u gv : Value} {cnt : Nat} {xs : List Int} {z : Int} {us : List Value} (h : Inv c W1 g) (hu : ∀ b, u.ownBlock = some b → ∀ i, ¬ ft c g i b) (ho : W1.ownsRow 0 46 1 u cnt us) (hz : mk8 g.N8 = z)
    (rd : RowDone W1 W2 c.m 14 107 1 (csOf c g) g.v14 (g.N8 + 1) ((List.range g.N8).map g.R8 ++ [u])) (lp : Lp W2 W3 46 .u64 u cnt xs z cnt gv) : ∃ v', Go c (fun b => u.ownBlock = some b) W1 g W3 (nu8 g v' u cnt) := by
  obtain ⟨v', h0, h1, h2, h3⟩ := rd
  obtain ⟨ys, r1, r2, -⟩ := lp.row
  refine ⟨v', h.nl8 ((h2.mono fun b _ e => ?_).trans lp.kp fun b _ e => .inr (.inr e)) hu (lp.kp.row h0 fun e => hu c.m e .room rfl) (row_kp h1 fun b e => lp.kp.block b (own_lt h1 b e) fun q => ?_) h3 r1 (fun j hj => by rw [hz]; exact r2 j hj)⟩
  · rcases e with e | e
    · exact .inr (.inl e)
    · exact .inl e
  · rcases h3 with h3 | h3
    · exact hu b q .n8 (.inl (h3.symm.trans e))
    · have := h3 b e
      have := own_lt ho b q
      omega
/-- what lies in a new list lies there, behind its being put into the room -/
theorem Inv.mid8 {c : Cn} {g : Gh} {W1 W2 : World} {u : Value} {cnt : Nat} {us : List Value} (h : Inv c W1 g) (hu : ∀ b, u.ownBlock = some b → ∀ i, ¬ ft c g i b) (ho : W1.ownsRow 0 46 1 u cnt us)
    (rd : RowDone W1 W2 c.m 14 107 1 (csOf c g) g.v14 (g.N8 + 1) ((List.range g.N8).map g.R8 ++ [u])) : W2.ownsRow 0 46 1 u cnt us ∧ (∃ oo oc, W2.cell? ⟨c.m, 14, none⟩ = some (.slice oo (g.N8 + 1) oc)) ∧ u.ownBlock ≠ some c.m ∧ ∀ b, u.ownBlock = some b → b < W2.heap.size := by
  obtain ⟨v', h0, h1, h2, h3⟩ := rd
  have r1 : W2.ownsRow 0 46 1 u cnt us := row_kp ho fun b e => h2.block b (own_lt ho b e) fun q => by
    rcases q with q | q
    · exact hu b e .room q
    · exact hu b e .n8 (.inl q)
  refine ⟨r1, ?_, fun e => hu c.m e .room rfl, fun b e => own_lt r1 b e⟩
  obtain ⟨oo, oc, e⟩ := ownN_form h1
  refine ⟨oo, oc, ?_⟩
  rw [cell_of_row W2 c.m 14 _ 87 (0, 0) h0, ← e]
  simp [csOf]
end Go.Proofs.Ytomlndoffoeaiaa.Kit
