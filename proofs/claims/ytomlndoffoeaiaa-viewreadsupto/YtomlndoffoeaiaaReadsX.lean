import Derived.Test.YtomlndoffoeaiaaReadsT
namespace Go.Proofs.Ytomlndoffoeaiaa.Kit
open Go.RowKit Go.Deep
set_option linter.unusedVariables false

/-! ### lists of rows of numbers, each row full of a mark of its own -/
theorem own_lt {w : World} {t s : Nat} {v : Value} {n : Nat} {xs : List Value} (h : w.ownsRow 0 t s v n xs) (g : Nat) (e : v.ownBlock = some g) : g < w.heap.size := by
  rcases h.2 with ⟨q, _⟩ | ⟨g', cap, cur, q, _, h2, _⟩
  · subst q; simp [Value.ownBlock] at e
  · subst q; simp [Value.ownBlock] at e; subst e; exact (Array.getElem?_eq_some_iff.1 h2).1
theorem own_ty {w : World} {t s : Nat} {v : Value} {n : Nat} {xs : List Value} (h : w.ownsRow 0 t s v n xs) (g : Nat) (e : v.ownBlock = some g) : ∃ c, w.heap[g]? = some (.cells c t (0, 0)) := by
  rcases h.2 with ⟨q, _⟩ | ⟨g', cap, cur, q, _, h2, _⟩
  · subst q; simp [Value.ownBlock] at e
  · subst q; simp [Value.ownBlock] at e; subst e; exact ⟨_, h2⟩
theorem row_kp {W W' : World} {t s n : Nat} {v : Value} {xs : List Value} (h : W.ownsRow 0 t s v n xs) (e : ∀ g, v.ownBlock = some g → W'.heap[g]? = W.heap[g]?) : W'.ownsRow 0 t s v n xs := by
  refine ⟨h.1, ?_⟩
  rcases h.2 with q | ⟨g, cap, cur, q, h1, h2, h3⟩
  · exact .inl q
  · exact .inr ⟨g, cap, cur, q, h1, (e g (by subst q; rfl)).trans h2, h3⟩
/-- what is of no type of A lies as it lay -/
structure KT (A : Nat → Prop) (W W' : World) : Prop where
  size : W.heap.size ≤ W'.heap.size
  os : W'.os = W.os
  tape : W'.tape = W.tape
  output : W'.output = W.output
  block : ∀ b, b < W.heap.size → (∀ c t f, W.heap[b]? = some (.cells c t f) → ¬ A t) → W'.heap[b]? = W.heap[b]?
theorem KT.refl (A : Nat → Prop) (W : World) : KT A W W := ⟨Nat.le_refl _, rfl, rfl, rfl, fun _ _ _ => rfl⟩
theorem KT.trans {A : Nat → Prop} {a b c : World} (h : KT A a b) (k : KT A b c) : KT A a c :=
  ⟨Nat.le_trans h.size k.size, k.os.trans h.os, k.tape.trans h.tape, k.output.trans h.output, fun j hj hn => by
    have e := h.block j hj hn
    exact (k.block j (Nat.lt_of_lt_of_le hj h.size) (fun c t f q => hn c t f (e ▸ q))).trans e⟩
theorem KT.of {A : Nat → Prop} {W W' : World} {S : Nat → Prop} (k : Keeps W W' S) (h : ∀ b, S b → b < W.heap.size → ∃ c t f, W.heap[b]? = some (.cells c t f) ∧ A t) : KT A W W' :=
  ⟨k.size, k.os, k.tape, k.output, fun b hb hn => k.block b hb fun hs => by
    obtain ⟨c, t, f, h1, h2⟩ := h b hs hb
    exact hn c t f h1 h2⟩
theorem KT.row {A : Nat → Prop} {W W' : World} (k : KT A W W') {t s n : Nat} {v : Value} {xs : List Value} (h : W.ownsRow 0 t s v n xs) (ht : ¬ A t) : W'.ownsRow 0 t s v n xs :=
  row_kp h fun g e => by
    obtain ⟨c, hc⟩ := own_ty h g e
    exact k.block g (own_lt h g e) (fun c' t' f' q => by rw [hc] at q; cases q; exact ht)
/-- it: the type of the inner lists; et: of the numbers; mk i: the mark of row i -/
structure NL (B : Nat) (W : World) (it et : Nat) (kd : IntKind) (mk : Nat → Int) (v : Value) (N : Nat) (R : Nat → Value) (len : Nat → Nat) : Prop where
  outer : W.ownsRow 0 it 1 v N ((List.range N).map R)
  onew : ∀ g, v.ownBlock = some g → B ≤ g
  inner : ∀ i, i < N → ∃ xs, W.ownsRow 0 et 1 (R i) (len i) xs ∧ ∀ j, j < len i → xs[j]? = some (.int kd (mk i))
  inew : ∀ i, i < N → ∀ g, (R i).ownBlock = some g → B ≤ g
  apart : ∀ i j, i < N → j < N → i ≠ j → ∀ g, (R i).ownBlock = some g → (R j).ownBlock ≠ some g
theorem NL.kept {B : Nat} {W W' : World} {it et : Nat} {kd : IntKind} {mk : Nat → Int} {v : Value} {N : Nat} {R : Nat → Value} {len : Nat → Nat} {A : Nat → Prop} (h : NL B W it et kd mk v N R len) (k : KT A W W') (hi : ¬ A it) (he : ¬ A et) : NL B W' it et kd mk v N R len :=
  ⟨k.row h.outer hi, h.onew, fun i hi' => by
    obtain ⟨xs, h1, h2⟩ := h.inner i hi'
    exact ⟨xs, k.row h1 he, h2⟩, h.inew, h.apart⟩
theorem NL.cell {B : Nat} {W : World} {it et : Nat} {kd : IntKind} {mk : Nat → Int} {g N c : Nat} {R : Nat → Value} {len : Nat → Nat} (h : NL B W it et kd mk (.slice (some ⟨g, 0, none⟩) N c) N R len) {i : Nat} (hi : i < N) : W.cell? ⟨g, i, none⟩ = some (R i) := by
  have h1 := h.outer.cells (g := g) rfl i (R i) (by simp [hi])
  rwa [add_lit0] at h1
/-- row i has grown by its mark, and lies in the list -/
theorem NL.app {B : Nat} {W Va w7 : World} {it et : Nat} {kd : IntKind} {mk : Nat → Int} {g N c i : Nat} {R : Nat → Value} {len : Nat → Nat} {xs : List Value} {v' : Value} (h : NL B W it et kd mk (.slice (some ⟨g, 0, none⟩) N c) N R len) (hB : B ≤ W.heap.size) (hi : i < N) (hne : it ≠ et) (hk : Keeps W Va (fun _ => False))
    (hx : W.ownsRow 0 et 1 (R i) (len i) xs) (hm : ∀ j, j < len i → xs[j]? = some (.int kd (mk i))) (hown : w7.ownsRow 0 et 1 v' (len i + 1) (xs ++ [.int kd (mk i)])) (hg : Va.grownBy w7 (R i).ownBlock) (ha : v'.ownBlock = (R i).ownBlock ∨ ∀ g, v'.ownBlock = some g → Va.heap.size ≤ g) :
    NL B (w7.setCell ⟨g, i, none⟩ v') it et kd mk (.slice (some ⟨g, 0, none⟩) N c) N (fun j => if j = i then v' else R j) (fun j => if j = i then len i + 1 else len j) ∧ KT (fun t => t = it ∨ t = et) W (w7.setCell ⟨g, i, none⟩ v') ∧ Keeps W (w7.setCell ⟨g, i, none⟩ v') (fun b => B ≤ b) := by
  have k7 : Keeps W w7 (fun b => (R i).ownBlock = some b) := (hk.mono fun _ _ f => f.elim).trans (Keeps.ofGrown hg) (fun _ _ h => h)
  obtain ⟨co, hco⟩ := own_ty h.outer g rfl
  have hgl : g < W.heap.size := own_lt h.outer g rfl
  have hgi : ∀ j, j < N → (R j).ownBlock ≠ some g := fun j hj e => by
    obtain ⟨ys, h1, _⟩ := h.inner j hj
    obtain ⟨c1, h2⟩ := own_ty h1 g e
    rw [hco] at h2
    simp at h2
    exact hne h2.2
  have ho7 : w7.ownsRow 0 it 1 (.slice (some ⟨g, 0, none⟩) N c) N ((List.range N).map R) := row_kp h.outer fun b e => by
    simp [Value.ownBlock] at e
    subst e
    exact k7.block g hgl (hgi i hi)
  have hv'g : v'.ownBlock ≠ some g := fun e => by
    obtain ⟨c1, h1⟩ := own_ty hown g e
    obtain ⟨c2, h2⟩ := own_ty ho7 g rfl
    rw [h2] at h1
    simp at h1
    exact hne h1.2
  have k8 : Keeps w7 (w7.setCell ⟨g, i, none⟩ v') (fun b => b = g) := (Keeps.refl w7 (fun b => b = g)).setCell (p := ⟨g, i, none⟩) (fun _ => rfl) v'
  have k : Keeps W (w7.setCell ⟨g, i, none⟩ v') (fun b => (R i).ownBlock = some b ∨ b = g) := (k7.mono fun _ _ h => .inl h).trans k8 (fun _ _ h => .inr h)
  refine ⟨⟨?_, h.onew, fun j hj => ?_, fun j hj b e => ?_, fun a b hA hB' hab b' e => ?_⟩, KT.of k (fun b hb hl => ?_), k.mono fun b _ hb => ?_⟩
  · have h1 := own_putN (k := i) ho7 v'
    have e : ((List.range N).map R).set i v' = (List.range N).map (fun j => if j = i then v' else R j) := by
      apply List.ext_getElem?
      intro j
      by_cases hj : j = i
      · subst hj; rw [List.getElem?_set_self (by simpa using hi)]; simp [hi]
      · rw [List.getElem?_set_ne (by omega)]
        by_cases hjN : j < N
        · simp [hjN, hj]
        · simp [hjN]
    rw [e] at h1
    exact h1
  · by_cases hji : j = i
    · subst hji
      simp only [if_pos]
      refine ⟨_, row_kp hown fun b e => k8.block b (own_lt hown b e) (fun q => hv'g (q ▸ e)), fun q hq => ?_⟩
      by_cases hql : q < len j
      · rw [List.getElem?_append_left (by have := hx.1; omega)]; exact hm q hql
      · have hxl := hx.1
        rw [List.getElem?_append_right (by omega)]
        have e0 : q - xs.length = 0 := by omega
        rw [e0]
        rfl
    · simp only [if_neg hji]
      obtain ⟨ys, h1, h2⟩ := h.inner j hj
      exact ⟨ys, row_kp h1 fun b e => k.block b (own_lt h1 b e) (fun q => by
        rcases q with q | q
        · exact h.apart i j hi hj (fun e => hji e.symm) b q e
        · exact hgi j hj (q ▸ e)), h2⟩
  · by_cases hji : j = i
    · subst hji
      simp only [if_pos] at e
      rcases ha with ha | ha
      · exact h.inew j hj b (ha ▸ e)
      · exact Nat.le_trans (Nat.le_trans hB hk.size) (ha b e)
    · simp only [if_neg hji] at e
      exact h.inew j hj b e
  · have hnew : ∀ j, j < N → j ≠ i → ∀ b, v'.ownBlock = some b → (R j).ownBlock ≠ some b := fun j hj hji b e1 e2 => by
      rcases ha with ha | ha
      · exact h.apart i j hi hj (fun e => hji e.symm) b (ha ▸ e1) e2
      · obtain ⟨ys, h1, _⟩ := h.inner j hj
        have := own_lt h1 b e2
        have := ha b e1
        have := hk.size
        omega
    by_cases h1 : a = i
    · subst h1
      simp only [if_pos] at e
      have h2 : b ≠ a := fun q => hab q.symm
      simp only [if_neg h2]
      exact hnew b hB' h2 b' e
    · simp only [if_neg h1] at e
      by_cases h2 : b = i
      · subst h2
        simp only [if_pos]
        exact fun q => hnew a hA h1 b' q e
      · simp only [if_neg h2]
        exact h.apart a b hA hB' hab b' e
  · rcases hb with hb | hb
    · obtain ⟨c1, h1⟩ := own_ty hx b hb
      exact ⟨c1, et, _, h1, .inr rfl⟩
    · subst hb
      exact ⟨co, it, _, hco, .inl rfl⟩
  · rcases hb with hb | hb
    · exact h.inew i hi b hb
    · subst hb; exact h.onew _ rfl
/-- the room's four lists of lists -/
structure Ap (B : Nat) (w W : World) (m : Nat) (cs : Array Value) (k1 k2 k4 k8 : Nat → Int) (v1 v2 v4 v8 : Value) (N1 N2 N4 N8 : Nat) (R1 R2 R4 R8 : Nat → Value) (l1 l2 l4 l8 : Nat → Nat) : Prop where
  n1 : NL B W 22 5 .u8 k1 v1 N1 R1 l1
  n2 : NL B W 103 104 .u16 k2 v2 N2 R2 l2
  n4 : NL B W 105 106 .u32 k4 v4 N4 R4 l4
  n8 : NL B W 107 46 .u64 k8 v8 N8 R8 l8
  room : W.heap[m]? = some (.cells cs 87 (0, 0))
  kp : Keeps w W (fun b => B ≤ b)
  le : B ≤ W.heap.size
theorem Ap.room' {B : Nat} {w W : World} {m : Nat} {cs : Array Value} {k1 k2 k4 k8 : Nat → Int} {v1 v2 v4 v8 : Value} {N1 N2 N4 N8 : Nat} {R1 R2 R4 R8 : Nat → Value} {l1 l2 l4 l8 : Nat → Nat} (h : Ap B w W m cs k1 k2 k4 k8 v1 v2 v4 v8 N1 N2 N4 N8 R1 R2 R4 R8 l1 l2 l4 l8) {j : Nat} {u : Value} (hu : cs[j]? = some u) : W.cell? ⟨m, j, none⟩ = some u := by
  rw [cell_of_row W m j _ 87 (0, 0) h.room]; exact hu
theorem Ap.step1 {B : Nat} {w W W' : World} {m : Nat} {cs : Array Value} {k1 k2 k4 k8 : Nat → Int} {v1 v2 v4 v8 : Value} {N1 N2 N4 N8 : Nat} {R1 R2 R4 R8 R : Nat → Value} {l1 l2 l4 l8 l : Nat → Nat} (h : Ap B w W m cs k1 k2 k4 k8 v1 v2 v4 v8 N1 N2 N4 N8 R1 R2 R4 R8 l1 l2 l4 l8)
    (q : NL B W' 22 5 .u8 k1 v1 N1 R l ∧ KT (fun t => t = 22 ∨ t = 5) W W' ∧ Keeps W W' (fun b => B ≤ b)) : Ap B w W' m cs k1 k2 k4 k8 v1 v2 v4 v8 N1 N2 N4 N8 R R2 R4 R8 l l2 l4 l8 := by
  obtain ⟨q1, q2, q3⟩ := q
  refine ⟨q1, h.n2.kept q2 (by omega) (by omega), h.n4.kept q2 (by omega) (by omega), h.n8.kept q2 (by omega) (by omega), (q2.block m (Array.getElem?_eq_some_iff.1 h.room).1 (fun c t f e => by rw [h.room] at e; cases e; omega)).trans h.room, h.kp.trans q3 (fun _ _ h => h), Nat.le_trans h.le q3.size⟩
end Go.Proofs.Ytomlndoffoeaiaa.Kit
namespace Go.Proofs.Ytomlndoffoeaiaa.Kit
open Go.RowKit Go.Deep
set_option linter.unusedVariables false

/-- one more row, full of its mark, at the list's end -/
theorem NL.push {B : Nat} {W : World} {it et : Nat} {kd : IntKind} {mk : Nat → Int} {v' u : Value} {N n : Nat} {R : Nat → Value} {len : Nat → Nat} {xs : List Value} (ho : W.ownsRow 0 it 1 v' (N + 1) ((List.range N).map R ++ [u])) (hon : ∀ g, v'.ownBlock = some g → B ≤ g)
    (hin : ∀ i, i < N → ∃ xs, W.ownsRow 0 et 1 (R i) (len i) xs ∧ ∀ j, j < len i → xs[j]? = some (.int kd (mk i))) (hnew : ∀ i, i < N → ∀ g, (R i).ownBlock = some g → B ≤ g) (hap : ∀ i j, i < N → j < N → i ≠ j → ∀ g, (R i).ownBlock = some g → (R j).ownBlock ≠ some g)
    (hu : W.ownsRow 0 et 1 u n xs) (hm : ∀ j, j < n → xs[j]? = some (.int kd (mk N))) (hun : ∀ g, u.ownBlock = some g → B ≤ g) (hua : ∀ i, i < N → ∀ g, u.ownBlock = some g → (R i).ownBlock ≠ some g) :
    NL B W it et kd mk v' (N + 1) (fun j => if j = N then u else R j) (fun j => if j = N then n else len j) := by
  refine ⟨?_, hon, fun i hi => ?_, fun i hi g e => ?_, fun a b ha hb hab g e => ?_⟩
  · have e : (List.range (N + 1)).map (fun j => if j = N then u else R j) = (List.range N).map R ++ [u] := by
      rw [List.range_succ, List.map_append]
      congr 1
      · refine List.map_congr_left fun j hj => ?_
        have := List.mem_range.1 hj
        rw [if_neg (by omega)]
      · simp
    rw [e]
    exact ho
  · by_cases h : i = N
    · subst h
      simp only [if_pos]
      exact ⟨xs, hu, hm⟩
    · simp only [if_neg h]
      exact hin i (by omega)
  · by_cases h : i = N
    · subst h
      simp only [if_pos] at e
      exact hun g e
    · simp only [if_neg h] at e
      exact hnew i (by omega) g e
  · by_cases h1 : a = N
    · subst h1
      have h2 : b ≠ a := fun q => hab q.symm
      simp only [if_pos] at e
      simp only [if_neg h2]
      exact hua b (by omega) g e
    · simp only [if_neg h1] at e
      by_cases h2 : b = N
      · subst h2
        simp only [if_pos]
        exact fun q => hua a (by omega) g q e
      · simp only [if_neg h2]
        exact hap a b (by omega) (by omega) hab g e
/-- an empty list -/
theorem NL.nil (B : Nat) (W : World) (it et : Nat) (kd : IntKind) (mk : Nat → Int) (R : Nat → Value) (len : Nat → Nat) : NL B W it et kd mk (.slice none 0 0) 0 R len :=
  ⟨World.ownsRow_nil W 0 it 1, fun g e => by simp [Value.ownBlock] at e, fun i hi => by omega, fun i hi => by omega, fun i j hi => by omega⟩
end Go.Proofs.Ytomlndoffoeaiaa.Kit
