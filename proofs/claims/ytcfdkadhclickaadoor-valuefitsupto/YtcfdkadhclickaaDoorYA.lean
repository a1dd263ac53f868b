import Derived.Test.YtcfdkadhclickaaDoorVD
import Derived.Test.YtcfdkadhclickaaDoorLF
namespace Go.Proofs.YtcfdkadhclickaaDoor.Kit
open Go.RowKit Go.Shelf Go.Deep
set_option linter.unusedVariables false

theorem VRow.wide {S T : Nat → Prop} {W : World} : ∀ {d : Nat} {ao : Option Addr} {l : List VT}, VRow S W d ao l → (∀ b, S b → T b) → VRow T W d ao l
  | 0, _, _, h, _ => h
  | _ + 1, _, _, h, k => ⟨h.1, fun hn => by
    obtain ⟨b, o, e, hb, hi⟩ := h.2 hn
    refine ⟨b, o, e, k b hb, fun i hl => ?_⟩
    obtain ⟨ao', ca', hc, hle, hv, hr⟩ := hi i hl
    exact ⟨ao', ca', hc, hle, hv, VRow.wide hr k⟩⟩
/-! ### append where there is room -/
section
variable {P : Program} (w : World)
theorem wpList_append_room {ops : Array Oper} {rest : List Oper} {o : Oper} {a : Act} {Q : Exit → Act → World → Prop} (hgd : o.guard = none) (s x : Operand) (t tx : TypeId)
    (ho : o.op = .call { callee := .builtin .append, args := #[s, x], argTypes := #[t, tx] })
    (e : TypeId) (z : Value) (size bytes : Nat) (ht : P.underlying t = some (.slice e)) (hinfo : (P.info? e).map (fun i => (i.zero, i.size, i.bytes)) = some (some z, size, bytes))
    (g n cap : Nat) (cur : Array Value) (hv : a.eval s = .slice (some ⟨g, 0, none⟩) n cap) (hg : w.heap[g]? = some (.cells cur e (0, 0))) (y : Value) (m : Nat) (news : List Value) (hx : a.eval x = y) (hs : Src P size tx y m news w)
    (hroom : n + m ≤ cap) (hfit : n * size + news.length ≤ cur.size)
    (h : wpList P ops Q rest (a.put o.dst (.slice (some ⟨g, 0, none⟩) (n + m) cap)) (w.setRow g (cur.toList.take (n * size) ++ news ++ cur.toList.drop (n * size + news.length)).toArray)) :
    wpList P ops Q (o :: rest) a w := by
  refine wpList_plain hgd fun K hK' => ?_
  obtain ⟨i, hi, hzz⟩ := Option.map_eq_some_iff.1 hinfo
  simp only [Prod.mk.injEq] at hzz
  obtain ⟨hz, hsz, hb⟩ := hzz
  subst hsz
  rw [List.append_assoc] at h
  have hr := run_append_room_row (P := P) w t tx o.type e i ht hi g n cap cur hg y m news hs hroom hfit
  unfold Oper.wp
  simp [execOp, ho, resolve, invoke, builtin, hv, hx, hr, Result.andThen]
  exact hK' _ _ h
theorem step_append_room {ops : Array Oper} {o : Oper} {a : Act} {K : Act → World → Prop} {Q : Exit → Act → World → Prop} {E : Prop} (hgd : o.guard = none) (s x : Operand) (t tx : TypeId)
    (ho : o.op = .call { callee := .builtin .append, args := #[s, x], argTypes := #[t, tx] })
    (e : TypeId) (z : Value) (size bytes : Nat) (ht : P.underlying t = some (.slice e)) (hinfo : (P.info? e).map (fun i => (i.zero, i.size, i.bytes)) = some (some z, size, bytes))
    (g n cap : Nat) (cur : Array Value) (hv : a.eval s = .slice (some ⟨g, 0, none⟩) n cap) (hg : w.heap[g]? = some (.cells cur e (0, 0))) (y : Value) (m : Nat) (news : List Value) (hx : a.eval x = y) (hs : Src P size tx y m news w)
    (hroom : n + m ≤ cap) (hfit : n * size + news.length ≤ cur.size)
    (h : K (a.put o.dst (.slice (some ⟨g, 0, none⟩) (n + m) cap)) (w.setRow g (cur.toList.take (n * size) ++ news ++ cur.toList.drop (n * size + news.length)).toArray)) :
    if Region.wanted o (yielded ops a.tmps) = true then Oper.wp P o a w K Q else E := by
  have hw : Region.wanted o (yielded ops a.tmps) = true := by simp [Region.wanted, hgd]
  rw [if_pos hw]
  obtain ⟨i, hi, hzz⟩ := Option.map_eq_some_iff.1 hinfo
  simp only [Prod.mk.injEq] at hzz
  obtain ⟨hz, hsz, hb⟩ := hzz
  subst hsz
  rw [List.append_assoc] at h
  have hr := run_append_room_row (P := P) w t tx o.type e i ht hi g n cap cur hg y m news hs hroom hfit
  unfold Oper.wp
  simp [execOp, ho, resolve, invoke, builtin, hv, hx, hr, Result.andThen]
  exact h
end
/-- a block that has taken four cells in -/
structure Put4 (w w' : World) (g n : Nat) (cap : Nat) (v0 v1 v2 v3 : Value) : Prop where
  row : ∃ cur, w'.heap[g]? = some (.cells cur 29 (0, 0)) ∧ cur.size = cap * 4
  old : ∀ j, j < n * 4 → w'.cell? ⟨g, j, none⟩ = w.cell? ⟨g, j, none⟩
  c0 : w'.cell? ⟨g, n * 4, none⟩ = some v0
  c1 : w'.cell? ⟨g, n * 4 + 1, none⟩ = some v1
  c2 : w'.cell? ⟨g, n * 4 + 2, none⟩ = some v2
  c3 : w'.cell? ⟨g, n * 4 + 3, none⟩ = some v3
  keeps : Keeps w w' (fun b => b = g)
theorem put4 {w : World} {g n cap : Nat} {cur : Array Value} (hg : w.heap[g]? = some (.cells cur 29 (0, 0))) (hs : cur.size = cap * 4) (hn : n < cap) (v0 v1 v2 v3 : Value) :
    Put4 w (w.setRow g (cur.toList.take (n * 4) ++ [v0, v1, v2, v3] ++ cur.toList.drop (n * 4 + [v0, v1, v2, v3].length)).toArray) g n cap v0 v1 v2 v3 := by
  have hh := setRow_heap w g cur (cur.toList.take (n * 4) ++ [v0, v1, v2, v3] ++ cur.toList.drop (n * 4 + [v0, v1, v2, v3].length)).toArray 29 (0, 0) hg
  have hlt : (cur.toList.take (n * 4)).length = n * 4 := by simp; omega
  have cell : ∀ j v, (cur.toList.take (n * 4) ++ [v0, v1, v2, v3] ++ cur.toList.drop (n * 4 + [v0, v1, v2, v3].length))[j]? = some v → (w.setRow g (cur.toList.take (n * 4) ++ [v0, v1, v2, v3] ++ cur.toList.drop (n * 4 + [v0, v1, v2, v3].length)).toArray).cell? ⟨g, j, none⟩ = some v := fun j v h => by
    rw [World.cell?, hh]
    simpa using h
  refine ⟨⟨_, hh, ?_⟩, fun j hj => ?_, ?_, ?_, ?_, ?_, ?_⟩
  · simp
    omega
  · have hjc : j < cur.size := by omega
    have e : w.cell? ⟨g, j, none⟩ = some cur[j] := by rw [World.cell?, hg]; simp [hjc]
    rw [e]
    refine cell j _ ?_
    rw [List.append_assoc, List.getElem?_append_left (by omega), List.getElem?_take_of_lt hj]
    simp [hjc]
  · refine cell _ _ ?_
    rw [List.append_assoc, List.getElem?_append_right (by omega), hlt]
    simp
  · refine cell _ _ ?_
    rw [List.append_assoc, List.getElem?_append_right (by omega), hlt]
    simp
  · refine cell _ _ ?_
    rw [List.append_assoc, List.getElem?_append_right (by omega), hlt]
    simp
  · refine cell _ _ ?_
    rw [List.append_assoc, List.getElem?_append_right (by omega), hlt]
    simp
  · exact ⟨rfl, rfl, rfl, by simp [World.setRow], fun k _ hk => setRow_other w g k _ hk⟩
/-! ### values in lists of their own: each list in a block of its own, two marks behind it -/
/-- the two marks behind a list of n values -/
structure Marks (W : World) (b n : Nat) : Prop where
  m1 : W.cell? ⟨b, n * 4 + 1, none⟩ = some (.int .i64 (-7))
  m2 : W.cell? ⟨b, (n + 1) * 4 + 1, none⟩ = some (.int .i64 (-8))
/-- a list of values, its own blocks lie in [lo, hi) -/
def TRow (W : World) : Nat → Nat → Nat → Option Addr → List VT → Prop
  | 0, _, _, _, _ => False
  | d + 1, lo, hi, ao, l => l.length ≤ big ∧ ∃ b cur, ao = some ⟨b, 0, none⟩ ∧ lo ≤ b ∧ W.heap[b]? = some (.cells cur 29 (0, 0)) ∧ cur.size = (l.length + 2) * 4 ∧ Marks W b l.length ∧ ∃ P : Nat → Nat, b < P 0 ∧ (∀ i, i < l.length → P i ≤ P (i + 1)) ∧ P l.length ≤ hi ∧
      ∀ i (h : i < l.length), ∃ ao', VCells W b (i * 4) l[i] ao' (l[i].list.length + 2) ∧ VOk l[i] ∧ TRow W d (P i) (P (i + 1)) ao' l[i].list
theorem chain_le {P : Nat → Nat} {n : Nat} (h : ∀ i, i < n → P i ≤ P (i + 1)) : ∀ {i j : Nat}, i ≤ j → j ≤ n → P i ≤ P j := by
  intro i j hij hj
  induction j with
  | zero => have : i = 0 := by omega
            subst this; exact Nat.le_refl _
  | succ j ih =>
    by_cases e : i = j + 1
    · subst e; exact Nat.le_refl _
    · exact Nat.le_trans (ih (by omega) (by omega)) (h j (by omega))
theorem Marks.kept {W W' : World} {b n : Nat} (h : Marks W b n) (e : W'.heap[b]? = W.heap[b]?) : Marks W' b n := by
  have k : ∀ j, W'.cell? ⟨b, j, none⟩ = W.cell? ⟨b, j, none⟩ := fun j => World.cell?_of_block (w := W) e
  exact ⟨(k _).trans h.m1, (k _).trans h.m2⟩
theorem TRow.lt {W : World} : ∀ {d lo hi : Nat} {ao : Option Addr} {l : List VT}, TRow W d lo hi ao l → lo < hi
  | 0, _, _, _, _, h => h.elim
  | d + 1, lo, hi, ao, l, h => by
    obtain ⟨_, b, cur, _, hlo, _, _, _, P, h0, hP, hh, _⟩ := h
    have := chain_le hP (Nat.zero_le l.length) (Nat.le_refl _)
    omega
/-- it stays where its blocks stay -/
theorem TRow.kept {W W' : World} : ∀ {d lo hi : Nat} {ao : Option Addr} {l : List VT}, TRow W d lo hi ao l → (∀ b, lo ≤ b → b < hi → W'.heap[b]? = W.heap[b]?) → TRow W' d lo hi ao l
  | 0, _, _, _, _, h, _ => h
  | d + 1, lo, hi, ao, l, h, k => by
    obtain ⟨hl, b, cur, rfl, hlo, hb, hs, hm, P, h0, hP, hh, hi'⟩ := h
    have hbh : b < hi := by have := chain_le hP (Nat.zero_le l.length) (Nat.le_refl _); omega
    have hk := k b hlo hbh
    refine ⟨hl, b, cur, rfl, hlo, hk.trans hb, hs, hm.kept hk, P, h0, hP, hh, fun i hi => ?_⟩
    obtain ⟨ao', hc, hv, hr⟩ := hi' i hi
    refine ⟨ao', hc.kept hk, hv, TRow.kept hr fun c h1 h2 => k c ?_ ?_⟩
    · have := chain_le hP (Nat.zero_le i) (Nat.le_of_lt hi); omega
    · have := chain_le hP (show i + 1 ≤ l.length from hi) (Nat.le_refl _); omega
/-- as a list of values -/
theorem TRow.row {W : World} : ∀ {d lo hi : Nat} {ao : Option Addr} {l : List VT}, TRow W d lo hi ao l → VRow (fun b => lo ≤ b ∧ b < hi) W d ao l
  | 0, _, _, _, _, h => h.elim
  | d + 1, lo, hi, ao, l, h => by
    obtain ⟨hl, b, cur, rfl, hlo, hb, hs, hm, P, h0, hP, hh, hi'⟩ := h
    have hbh : b < hi := by have := chain_le hP (Nat.zero_le l.length) (Nat.le_refl _); omega
    refine ⟨hl, fun _ => ⟨b, 0, rfl, ⟨hlo, hbh⟩, fun i hi => ?_⟩⟩
    obtain ⟨ao', hc, hv, hr⟩ := hi' i hi
    refine ⟨ao', _, by rw [Nat.zero_add]; exact hc, by omega, hv, ?_⟩
    refine VRow.wide (TRow.row hr) fun c ⟨h1, h2⟩ => ?_
    have := chain_le hP (Nat.zero_le i) (Nat.le_of_lt hi)
    have := chain_le hP (show i + 1 ≤ l.length from hi) (Nat.le_refl _)
    exact ⟨by omega, by omega⟩
end Go.Proofs.YtcfdkadhclickaaDoor.Kit
