import Derived.Test.YtjdojbbjbippoaaDoorND
namespace Go.Proofs.YtjdojbbjbippoaaDoor.Kit
open Go.RowKit Go.Shelf Go.Deep
set_option linter.unusedVariables false

/-! ### fields in memory of one's own: a block a list, intervals apart -/
def Tr (W : World) : Nat → Nat → Nat → Option Addr → Nat → List FT → Prop
  | 0, _, _, ao, ca, l => l = [] ∧ ao = none ∧ ca = 0
  | d + 1, lo, hi, ao, ca, l => l.length ≤ big ∧ ((l = [] ∧ ao = none ∧ ca = 0) ∨ ∃ (g : Nat) (cur : Array Value) (A : Nat → Nat), ao = some ⟨g, 0, none⟩ ∧ lo ≤ g ∧ g < A 0 ∧ A l.length ≤ hi ∧ W.heap[g]? = some (.cells cur 38 (0, 0)) ∧ cur.size = ca * 7 ∧ l.length ≤ ca ∧ ca ≤ maxLen ∧
      ∀ i (h : i < l.length), A i ≤ A (i + 1) ∧ ∃ ao' ca', CellsAt W g (i * 7) l[i] ao' ca' ∧ Tr W d (A i) (A (i + 1)) ao' ca' l[i].kids)
theorem chain_le {A : Nat → Nat} {n : Nat} (h : ∀ i, i < n → A i ≤ A (i + 1)) {i j : Nat} (hij : i ≤ j) (hj : j ≤ n) : A i ≤ A j := by
  induction j with
  | zero => obtain rfl : i = 0 := by omega
            exact Nat.le_refl _
  | succ j ih =>
    by_cases e : i = j + 1
    · subst e; exact Nat.le_refl _
    · exact Nat.le_trans (ih (by omega) (by omega)) (h j (by omega))
theorem Tr.le {W : World} {d lo hi : Nat} {ao : Option Addr} {ca : Nat} {l : List FT} (h : Tr W d lo hi ao ca l) : l.length ≤ ca := by
  cases d with
  | zero => rw [h.1]; simp
  | succ d =>
    rcases h.2 with h | ⟨g, cur, A, _, _, _, _, _, _, h, _⟩
    · rw [h.1]; simp
    · exact h
theorem Tr.len {W : World} {d lo hi : Nat} {ao : Option Addr} {ca : Nat} {l : List FT} (h : Tr W d lo hi ao ca l) : l.length ≤ big := by
  cases d with
  | zero => rw [h.1]; simp [big]
  | succ d => exact h.1
theorem Tr.row {W : World} : ∀ {d lo hi : Nat} {ao : Option Addr} {ca : Nat} {l : List FT}, Tr W d lo hi ao ca l → RowAt (fun b => lo ≤ b ∧ b < hi) W d ao l
  | 0, _, _, _, _, _, h => h.1
  | d + 1, lo, hi, ao, ca, l, h => ⟨h.1, fun hn => by
    rcases h.2 with h | ⟨g, cur, A, rfl, h1, h2, h3, h4, h5, h6, h7, h8⟩
    · exact absurd h.1 hn
    have hA : ∀ i, i < l.length → A i ≤ A (i + 1) := fun i hi => (h8 i hi).1
    have c0 := chain_le hA (Nat.zero_le l.length) (Nat.le_refl _)
    refine ⟨g, 0, rfl, ⟨h1, by omega⟩, fun i hi => ?_⟩
    obtain ⟨_, ao', ca', hc, ht⟩ := h8 i hi
    have c1 := chain_le hA (Nat.zero_le i) (Nat.le_of_lt hi)
    have c2 := chain_le hA (show i + 1 ≤ l.length from hi) (Nat.le_refl _)
    exact ⟨ao', ca', by rw [Nat.zero_add]; exact hc, ht.le, ht.row.mono fun b hb => ⟨by omega, by omega⟩⟩⟩
theorem Tr.kept {W W' : World} : ∀ {d lo hi : Nat} {ao : Option Addr} {ca : Nat} {l : List FT}, Tr W d lo hi ao ca l → (∀ b, lo ≤ b → b < hi → W'.heap[b]? = W.heap[b]?) → Tr W' d lo hi ao ca l
  | 0, _, _, _, _, _, h, _ => h
  | d + 1, lo, hi, ao, ca, l, h, k => ⟨h.1, by
    rcases h.2 with h | ⟨g, cur, A, rfl, h1, h2, h3, h4, h5, h6, h7, h8⟩
    · exact .inl h
    have hA : ∀ i, i < l.length → A i ≤ A (i + 1) := fun i hi => (h8 i hi).1
    have c0 := chain_le hA (Nat.zero_le l.length) (Nat.le_refl _)
    have kg := k g h1 (by omega)
    refine .inr ⟨g, cur, A, rfl, h1, h2, h3, kg.trans h4, h5, h6, h7, fun i hi => ⟨hA i hi, ?_⟩⟩
    obtain ⟨_, ao', ca', hc, ht⟩ := h8 i hi
    have c1 := chain_le hA (Nat.zero_le i) (Nat.le_of_lt hi)
    have c2 := chain_le hA (show i + 1 ≤ l.length from hi) (Nat.le_refl _)
    exact ⟨ao', ca', hc.kept kg, ht.kept fun b hb1 hb2 => k b (by omega) (by omega)⟩⟩
theorem Tr.wide {W : World} {d lo hi lo' hi' : Nat} {ao : Option Addr} {ca : Nat} {l : List FT} (h : Tr W d lo hi ao ca l) (h1 : lo' ≤ lo) (h2 : hi ≤ hi') : Tr W d lo' hi' ao ca l := by
  cases d with
  | zero => exact h
  | succ d =>
    refine ⟨h.1, h.2.imp id ?_⟩
    rintro ⟨g, cur, A, e, k1, k2, k3, k4⟩
    exact ⟨g, cur, A, e, by omega, k2, by omega, k4⟩
theorem Tr.nil (W : World) (d lo hi : Nat) : Tr W d lo hi none 0 [] := by
  cases d with
  | zero => exact ⟨rfl, rfl, rfl⟩
  | succ d => exact ⟨by simp [big], .inl ⟨rfl, rfl, rfl⟩⟩
theorem Tr.own {W : World} {d lo hi : Nat} {ao : Option Addr} {ca : Nat} {l : List FT} (h : Tr W d lo hi ao ca l) : ∃ xs, W.ownsRow 0 38 7 (.slice ao l.length ca) l.length xs ∧ (∀ g, (Value.slice ao l.length ca).ownBlock = some g → lo ≤ g ∧ g < hi) := by
  have hnil : l = [] ∧ ao = none ∧ ca = 0 → ∃ xs, W.ownsRow 0 38 7 (.slice ao l.length ca) l.length xs ∧ (∀ g, (Value.slice ao l.length ca).ownBlock = some g → lo ≤ g ∧ g < hi) := by
    rintro ⟨rfl, rfl, rfl⟩
    exact ⟨[], World.ownsRow_nil W 0 38 7, fun g e => by simp [Value.ownBlock] at e⟩
  cases d with
  | zero => exact hnil h
  | succ d =>
    rcases h.2 with h | ⟨g, cur, A, rfl, h1, h2, h3, h4, h5, h6, h7, h8⟩
    · exact hnil h
    have c0 := chain_le (fun i hi => (h8 i hi).1) (Nat.zero_le l.length) (Nat.le_refl _)
    refine ⟨cur.toList.take (l.length * 7), ⟨by simp; omega, .inr ⟨g, ca, cur, rfl, Nat.zero_le _, h4, h6, h7, h5, rfl⟩⟩, fun g' e => by simp [Value.ownBlock] at e; omega⟩

/-! ### seven cells are written -/
theorem cell_set_ne {w : World} {b j i : Nat} {v : Value} (h : i ≠ j) : (w.setCell ⟨b, j, none⟩ v).cell? ⟨b, i, none⟩ = w.cell? ⟨b, i, none⟩ := by
  simp [World.cell?, World.setCell, Array.getElem?_modify]
  cases e : w.heap[b]? with
  | none => rfl
  | some o =>
    cases o <;> simp [h.symm]
theorem cell_set_same {w : World} {b j t : Nat} {cur : Array Value} {v : Value} (h : w.heap[b]? = some (.cells cur t (0, 0))) (hj : j < cur.size) : (w.setCell ⟨b, j, none⟩ v).cell? ⟨b, j, none⟩ = some v := by
  have h1 := heap_setCell_same w b j cur t v h
  simp [World.cell?, h1, hj]
structure Set7 (w w' : World) (g p s : Nat) (v0 v1 v2 v3 v4 v5 v6 : Value) : Prop where
  row : ∃ cur, w'.heap[g]? = some (.cells cur 38 (0, 0)) ∧ cur.size = s
  old : ∀ j, j < p ∨ p + 7 ≤ j → w'.cell? ⟨g, j, none⟩ = w.cell? ⟨g, j, none⟩
  c0 : w'.cell? ⟨g, p, none⟩ = some v0
  c1 : w'.cell? ⟨g, p + 1, none⟩ = some v1
  c2 : w'.cell? ⟨g, p + 2, none⟩ = some v2
  c3 : w'.cell? ⟨g, p + 3, none⟩ = some v3
  c4 : w'.cell? ⟨g, p + 4, none⟩ = some v4
  c5 : w'.cell? ⟨g, p + 5, none⟩ = some v5
  c6 : w'.cell? ⟨g, p + 6, none⟩ = some v6
  keeps : Keeps w w' (fun z => z = g)
theorem setSeven {w : World} {g p : Nat} {cur : Array Value} (hg : w.heap[g]? = some (.cells cur 38 (0, 0))) (hp : p + 7 ≤ cur.size) (v0 v1 v2 v3 v4 v5 v6 : Value) :
    Set7 w (((((((w.setCell ⟨g, p, none⟩ v0).setCell ⟨g, p + 1, none⟩ v1).setCell ⟨g, p + 2, none⟩ v2).setCell ⟨g, p + 3, none⟩ v3).setCell ⟨g, p + 4, none⟩ v4).setCell ⟨g, p + 5, none⟩ v5).setCell ⟨g, p + 6, none⟩ v6) g p cur.size v0 v1 v2 v3 v4 v5 v6 := by
  have h1 := heap_setCell_same w g (p) cur 38 v0 hg
  have h2 := heap_setCell_same _ g (p + 1) _ 38 v1 h1
  have h3 := heap_setCell_same _ g (p + 2) _ 38 v2 h2
  have h4 := heap_setCell_same _ g (p + 3) _ 38 v3 h3
  have h5 := heap_setCell_same _ g (p + 4) _ 38 v4 h4
  have h6 := heap_setCell_same _ g (p + 5) _ 38 v5 h5
  have h7 := heap_setCell_same _ g (p + 6) _ 38 v6 h6
  refine ⟨⟨_, h7, by simp⟩, fun j hj => ?_, ?_, ?_, ?_, ?_, ?_, ?_, ?_, ?_⟩
  · rw [cell_set_ne (by omega), cell_set_ne (by omega), cell_set_ne (by omega), cell_set_ne (by omega), cell_set_ne (by omega), cell_set_ne (by omega), cell_set_ne (by omega)]
  · rw [cell_set_ne (by omega), cell_set_ne (by omega), cell_set_ne (by omega), cell_set_ne (by omega), cell_set_ne (by omega), cell_set_ne (by omega)]
    exact cell_set_same hg (by omega)
  · rw [cell_set_ne (by omega), cell_set_ne (by omega), cell_set_ne (by omega), cell_set_ne (by omega), cell_set_ne (by omega)]
    exact cell_set_same h1 (by simp; omega)
  · rw [cell_set_ne (by omega), cell_set_ne (by omega), cell_set_ne (by omega), cell_set_ne (by omega)]
    exact cell_set_same h2 (by simp; omega)
  · rw [cell_set_ne (by omega), cell_set_ne (by omega), cell_set_ne (by omega)]
    exact cell_set_same h3 (by simp; omega)
  · rw [cell_set_ne (by omega), cell_set_ne (by omega)]
    exact cell_set_same h4 (by simp; omega)
  · rw [cell_set_ne (by omega)]
    exact cell_set_same h5 (by simp; omega)
  · exact cell_set_same h6 (by simp; omega)
  · exact (((((((Keeps.refl w (fun z => z = g)).setCell (p := ⟨g, p, none⟩) (fun _ => rfl) _).setCell (p := ⟨g, p + 1, none⟩) (fun _ => rfl) _).setCell (p := ⟨g, p + 2, none⟩) (fun _ => rfl) _).setCell (p := ⟨g, p + 3, none⟩) (fun _ => rfl) _).setCell (p := ⟨g, p + 4, none⟩) (fun _ => rfl) _).setCell (p := ⟨g, p + 5, none⟩) (fun _ => rfl) _).setCell (p := ⟨g, p + 6, none⟩) (fun _ => rfl) _
section
variable {P : Program} (w : World)
theorem run_append_twoN (t tx ty e : TypeId) (i : TypeInfo) (z : Value) (bytes : Nat) (ht : P.underlying t = some (.slice e)) (hi : P.info? e = some i) (hz : i.zero = some z) (size : Nat) (hsize : i.size = size) (hby : i.bytes = bytes) (hzs : z.cells.size = size)
    (v : Value) (n : Nat) (xs : List Value) (hown : w.ownsRow 0 e size v n xs) (x : Value) (m : Nat) (hm : 0 < m) (news : List Value) (hs : Src P size tx x m news w)
    (h63 : n + m ≤ 9223372036854775807) (hbytes : (n + m) * bytes ≤ 140737488355328) :
    ∃ v' w', (Builtin.append_ #[t, tx] ty #[v, x]).run P w = .ok v' w' ∧ w'.ownsRow 0 e size v' (n + m) (xs ++ news) ∧
      ((v'.ownBlock = v.ownBlock ∧ w.grownBy w' v.ownBlock) ∨ ((∀ g, v'.ownBlock = some g → w.heap.size ≤ g) ∧ Keeps w w' (fun _ => False))) := by
  subst hby
  have hlen : (xs ++ news).length = (n + m) * size := by rw [List.length_append, hown.1, hs.newsLen, Nat.add_mul]
  have grown : ∀ (old : Nat), old < n + m →
      (w.drew.alloc (.cells ((xs ++ news).toArray ++ Builtin.zeroCells z.cells (grownCap w (n + m) old e - (n + m))) e)).ownsRow 0 e size
        (.slice (some ⟨w.heap.size, 0, none⟩) (n + m) (grownCap w (n + m) old e)) (n + m) (xs ++ news) ∧
      Keeps w (w.drew.alloc (.cells ((xs ++ news).toArray ++ Builtin.zeroCells z.cells (grownCap w (n + m) old e - (n + m))) e)) (fun _ => False) := by
    intro old ho
    have hge := grownCap_ge w (n + m) old e
    have hcm : grownCap w (n + m) old e ≤ maxLen := grownCap_le_maxLen w (n + m) old e h63
    refine ⟨⟨hlen, .inr ⟨w.heap.size, _, _, rfl, Nat.zero_le _, heap_alloc_new w.drew _, hge, hcm, ?_, ?_⟩⟩, ⟨rfl, rfl, rfl, by simp, fun k hk _ => Below.heap_alloc w.drew _ k hk⟩⟩
    · simp only [Array.size_append, List.size_toArray, size_zeroCells, hzs, hlen, ← Nat.add_mul]
      congr 1
      omega
    · simp only [Array.toList_append]
      rw [← hlen]
      exact List.take_left
  rcases hown.2 with ⟨rfl, rfl⟩ | ⟨g, cap, cur, rfl, hbg, hg, hnc, hcm, hcs, htake⟩
  · have hx : xs = [] := List.eq_nil_of_length_eq_zero (by simpa using hown.1)
    subst hx
    have hr := run_append_grow_src (P := P) w t tx ty e i z ht hi hz none 0 0 [] (by simpa using run_firstCells_none w.drew i.size 0 0 0) x m news (by rw [hsize]; exact hs) (by omega) (by omega) (growslice_fits (by omega) hbytes)
    have hgr := grown 0 (by omega)
    exact ⟨_, _, hr, hgr.1, .inr ⟨fun g hg => by simp [Value.ownBlock] at hg; omega, hgr.2⟩⟩
  · by_cases hroom : n + m ≤ cap
    · have hl := hs.newsLen
      have hfit : n * i.size + news.length ≤ cur.size := by rw [hl, hcs, hsize, ← Nat.add_mul]; exact Nat.mul_le_mul_right _ hroom
      have hr := run_append_room_row (P := P) w t tx ty e i ht hi g n cap cur hg x m news (by rw [hsize]; exact hs) hroom hfit
      rw [hsize] at hr hfit
      refine ⟨_, _, hr, ⟨hlen, .inr ⟨g, cap, _, rfl, hbg, setRow_heap w g cur _ e _ hg, hroom, hcm, ?_, ?_⟩⟩, .inl ⟨rfl, ⟨rfl, rfl, rfl, by simp, fun k _ hk => setRow_other w g k _ (fun e => hk (by simp [Value.ownBlock, e]))⟩⟩⟩
      · simp only [List.size_toArray, List.length_append, List.length_take, List.length_drop, Array.length_toList]
        omega
      · rw [htake, ← hlen]
        exact List.take_left
    · have holds : ∀ j u, xs[j]? = some u → w.cell? ((⟨g, 0, none⟩ : Addr).add j) = some u := hown.cells (g := g) rfl
      have hr := run_append_grow_src (P := P) w t tx ty e i z ht hi hz (some ⟨g, 0, none⟩) n cap xs (run_firstCells_some w.drew i.size n ⟨g, 0, none⟩ n cap xs (by rw [hsize]; exact hown.1) (by simpa using holds)) x m news (by rw [hsize]; exact hs) (by omega) (by omega) (growslice_fits (by omega) hbytes)
      have hgr := grown cap (by omega)
      exact ⟨_, _, hr, hgr.1, .inr ⟨fun g' hg' => by simp [Value.ownBlock] at hg'; omega, hgr.2⟩⟩
theorem wpList_append_twoN {ops : Array Oper} {rest : List Oper} {o : Oper} {a : Act} {Q : Exit → Act → World → Prop} (hgd : o.guard = none) (s x : Operand) (t tx : TypeId)
    (ho : o.op = .call { callee := .builtin .append, args := #[s, x], argTypes := #[t, tx] })
    (e : TypeId) (z : Value) (size bytes : Nat) (ht : P.underlying t = some (.slice e)) (hinfo : (P.info? e).map (fun i => (i.zero, i.size, i.bytes)) = some (some z, size, bytes)) (hzs : z.cells.size = size)
    (v : Value) (n : Nat) (xs : List Value) (hv : a.eval s = v) (hown : w.ownsRow 0 e size v n xs) (y : Value) (m : Nat) (hm : 0 < m) (news : List Value) (hx : a.eval x = y) (hs : Src P size tx y m news w)
    (h63 : n + m ≤ 9223372036854775807) (hbytes : (n + m) * bytes ≤ 140737488355328)
    (h : ∀ v' w', w'.ownsRow 0 e size v' (n + m) (xs ++ news) → ((v'.ownBlock = v.ownBlock ∧ w.grownBy w' v.ownBlock) ∨ ((∀ g, v'.ownBlock = some g → w.heap.size ≤ g) ∧ Keeps w w' (fun _ => False))) → wpList P ops Q rest (a.put o.dst v') w') :
    wpList P ops Q (o :: rest) a w := by
  refine wpList_plain hgd fun K hK' => ?_
  obtain ⟨i, hi, hzz⟩ := Option.map_eq_some_iff.1 hinfo
  simp only [Prod.mk.injEq] at hzz
  obtain ⟨hz, hsz, hb⟩ := hzz
  obtain ⟨v', w', hr, h2, h3⟩ := run_append_twoN (P := P) w t tx o.type e i z bytes ht hi hz size hsz hb hzs v n xs hown y m hm news hs h63 hbytes
  unfold Oper.wp
  simp [execOp, ho, resolve, invoke, builtin, hv, hx, hr, Result.andThen]
  exact hK' _ _ (h v' w' h2 h3)
end
end Go.Proofs.YtjdojbbjbippoaaDoor.Kit
