import Derived.Test.YtjdojbbjbippoaaDoorTI
import Derived.Test.YtjdojbbjbippoaaDoorTJ
import Derived.Test.YtjdojbbjbippoaaDoorTN
import Derived.Test.YtjdojbbjbippoaaDoorRI
namespace Go.Proofs.YtjdojbbjbippoaaDoor.Kit
open Go.RowKit Go.Shelf Go.Deep
set_option linter.unusedVariables false

/-! ### again 11: what holds while it collects -/
def Okg (Z : Nat) (O : Nat → Prop) (M : Nat) (v : Value) : Prop := ∀ g, v.ownBlock = some g → Z < g ∧ (g < Z + 6 ∨ Z + 8 ≤ g) ∧ g ≠ Z + 2 ∧ g ≠ Z + 4 ∧ g ≠ Z + 5 ∧ ¬ O g ∧ g < M
structure AgI (W3 : World) (Z n : Nat) (c : Int) (O : Nat → Prop) (M : Nat) (xs : List WEl) (V : World) : Prop where
  kw : Keeps W3 V (fun b => Z < b)
  r : ∃ v6 v7, Rw2 V (Z + 2) (Z + 4) v6 v7 xs ∧ Okg Z O M v6 ∧ Okg Z O M v7
  els : Els V (Z + 8) xs (fun i ws _ => ∀ h : i < xs.length, ws = ints xs[i].path)
  no : ∀ i (h : i < xs.length), (∀ b, xs[i].lo ≤ b → b < xs[i].hi → ¬ O b) ∧ xs[i].hi ≤ M ∧ xs[i].path ≠ []
  bx : V.heap[Z + 5]? = some (.cells #[.int .i64 c] 3 (0, 0))
  len : xs.length ≤ n
  ms : M ≤ V.heap.size ∧ Z + 8 ≤ M
  dp : ∀ i (h : i < xs.length), xs[i].path.length ≤ big
theorem Okg.keep {Z M : Nat} {O O' : Nat → Prop} {v : Value} {A : World} (h : Okg Z O M v) (hM : M ≤ A.heap.size) (hO' : ∀ b, O' b → O b ∨ A.heap.size ≤ b) : Okg Z O' M v := fun g e => by
  obtain ⟨h1, h2, h3, h4, h5, h6, h7⟩ := h g e
  exact ⟨h1, h2, h3, h4, h5, fun ho => (hO' g ho).elim h6 fun h => by omega, h7⟩
theorem AgI.keep {W3 : World} {Z n : Nat} {c : Int} {O O' : Nat → Prop} {M : Nat} {xs : List WEl} {A B : World} {T : Nat → Prop} (h : AgI W3 Z n c O M xs A) (k : Keeps A B T) (hT : ∀ b, T b → b = Z + 6 ∨ b = Z + 7 ∨ (O b ∧ Z + 8 ≤ b)) (hO' : ∀ b, O' b → O b ∨ A.heap.size ≤ b) : AgI W3 Z n c O' M xs B := by
  obtain ⟨v6, v7, hr, o6, o7⟩ := h.r
  have hms := h.ms
  have hT2 : ∀ b, b < Z + 6 → ¬ T b := fun b hb t => by
    rcases hT b t with e | e | e
    · omega
    · omega
    · omega
  have hrow : ∀ {v : Value}, Okg Z O M v → ∀ g, v.ownBlock = some g → B.heap[g]? = A.heap[g]? := fun ho g e => by
    obtain ⟨h1, h2, h3, h4, h5, h6, h7⟩ := ho g e
    refine k.block g (by omega) fun t => ?_
    rcases hT g t with e | e | e
    · omega
    · omega
    · exact h6 e.1
  refine ⟨h.kw.trans k (fun j hj t => ?_), ⟨v6, v7, ⟨(k.block _ (lt_of_heap hr.x6) (hT2 _ (by omega))).trans hr.x6, row_kp hr.o6 (hrow o6), (k.block _ (lt_of_heap hr.x7) (hT2 _ (by omega))).trans hr.x7, row_kp hr.o7 (hrow o7), hr.a6, hr.a7, hr.a8⟩, o6.keep hms.1 hO', o7.keep hms.1 hO'⟩, ⟨fun i hi => ?_, h.els.ap, h.els.lo⟩, fun i hi => ⟨fun b h1 h2 ho => ?_, (h.no i hi).2⟩, (k.block _ (lt_of_heap h.bx) (hT2 _ (by omega))).trans h.bx, h.len, ⟨Nat.le_trans hms.1 k.size, hms.2⟩, h.dp⟩
  · rcases hT j t with e | e | e
    · omega
    · omega
    · omega
  · obtain ⟨ws, ks, he, hp⟩ := h.els.el i hi
    refine ⟨ws, ks, he.kept (fun b h1 h2 => k.block b (by have := he.bn; omega) fun t => ?_) k.size, hp⟩
    have hlo := h.els.lo i hi
    rcases hT b t with e | e | e
    · omega
    · omega
    · exact (h.no i hi).1 b h1 h2 e.1
  · rcases hO' b ho with e | e
    · exact (h.no i hi).1 b h1 h2 e
    · have := (h.no i hi).2.1; omega
theorem AgI.more {W3 : World} {Z n : Nat} {c : Int} {O : Nat → Prop} {M M' : Nat} {xs : List WEl} {V : World} (h : AgI W3 Z n c O M xs V) (hM : M ≤ M') (hM' : M' ≤ V.heap.size) : AgI W3 Z n c O M' xs V := by
  obtain ⟨v6, v7, hr, o6, o7⟩ := h.r
  have ok : ∀ {v : Value}, Okg Z O M v → Okg Z O M' v := fun ho g e => by
    obtain ⟨h1, h2, h3, h4, h5, h6, h7⟩ := ho g e
    exact ⟨h1, h2, h3, h4, h5, h6, by omega⟩
  have := h.ms
  exact ⟨h.kw, ⟨v6, v7, hr, ok o6, ok o7⟩, h.els, fun i hi => ⟨(h.no i hi).1, by have := (h.no i hi).2.1; omega, (h.no i hi).2.2⟩, h.bx, h.len, ⟨hM', by omega⟩, h.dp⟩
theorem AgI.box {W3 : World} {Z n : Nat} {c c' : Int} {O : Nat → Prop} {M : Nat} {xs : List WEl} {V V' : World} (h : AgI W3 Z n c O M xs V) (k : Keeps V V' (fun b => b = Z + 5)) (hb : V'.heap[Z + 5]? = some (.cells #[.int .i64 c'] 3 (0, 0))) : AgI W3 Z n c' O M xs V' := by
  obtain ⟨v6, v7, hr, o6, o7⟩ := h.r
  have hms := h.ms
  have hrow : ∀ {v : Value}, Okg Z O M v → ∀ g, v.ownBlock = some g → V'.heap[g]? = V.heap[g]? := fun ho g e => by
    obtain ⟨h1, h2, h3, h4, h5, h6, h7⟩ := ho g e
    exact k.block g (by omega) h5
  refine ⟨h.kw.trans k (fun j hj t => by omega), ⟨v6, v7, ⟨(k.block _ (lt_of_heap hr.x6) (by omega)).trans hr.x6, row_kp hr.o6 (hrow o6), (k.block _ (lt_of_heap hr.x7) (by omega)).trans hr.x7, row_kp hr.o7 (hrow o7), hr.a6, hr.a7, hr.a8⟩, o6, o7⟩, ⟨fun i hi => ?_, h.els.ap, h.els.lo⟩, h.no, hb, h.len, ⟨Nat.le_trans hms.1 k.size, hms.2⟩, h.dp⟩
  obtain ⟨ws, ks, he, hp⟩ := h.els.el i hi
  exact ⟨ws, ks, he.kept (fun b h1 h2 => k.block b (by have := he.bn; omega) (by have := h.els.lo i hi; omega)) k.size, hp⟩
/-- one more -/
theorem AgI.push {W3 : World} {Z n : Nat} {c : Int} {O : Nat → Prop} {M : Nat} {xs : List WEl} {x : WEl} {V V' : World} {v6 v7 v6' v7' : Value} (h : AgI W3 Z n c O M xs V) (hOz : ∀ b, O b → Z + 8 ≤ b ∧ b < V.heap.size) (hr : Rw2 V (Z + 2) (Z + 4) v6 v7 xs) (o6 : Okg Z O M v6) (o7 : Okg Z O M v7) (hat : AtW (Z + 8) O M x V) (hl : xs.length < n)
    (k : Keeps V V' (fun b => b = Z + 2 ∨ b = Z + 4 ∨ v6.ownBlock = some b ∨ v7.ownBlock = some b))
    (h6 : V'.heap[Z + 2]? = some (.cells #[v6'] 67 (0, 0))) (r6 : V'.ownsRow 0 26 1 v6' (xs.length + 1) (xs.map wayV ++ [wayV x])) (n6 : v6'.ownBlock = v6.ownBlock ∨ ∀ g, v6'.ownBlock = some g → V.heap.size ≤ g)
    (h7 : V'.heap[Z + 4]? = some (.cells #[v7'] 22 (0, 0))) (r7 : V'.ownsRow 0 38 7 v7' (xs.length + 1) (xs.flatMap fCs ++ fCs x)) (n7 : v7'.ownBlock = v7.ownBlock ∨ ∀ g, v7'.ownBlock = some g → V.heap.size ≤ g) :
    AgI W3 Z n c O V'.heap.size (xs ++ [x]) V' := by
  have hms := h.ms
  have hbn := hat.bn
  have hap := hat.ap
  have hks := k.size
  have hsz : Z + 8 ≤ V.heap.size := by omega
  have hgx : ∀ {v : Value}, Okg Z O M v → ∀ g, v.ownBlock = some g → g < x.lo := fun ho g e => by obtain ⟨h1, h2, h3, h4, h5, h6, h7⟩ := ho g e; omega
  have hel : ∀ {y : WEl} {ws : List Value} {ks : List FT}, El V y ws ks → Z + 8 ≤ y.lo → (∀ g, v6.ownBlock = some g → g < y.lo ∨ y.hi ≤ g) → (∀ g, v7.ownBlock = some g → g < y.lo ∨ y.hi ≤ g) → El V' y ws ks := fun he hlo a6 a7 =>
    he.kept (fun b h1 h2 => k.block b (by have := he.bn; omega) fun t => by
      rcases t with t | t | t | t
      · omega
      · omega
      · have := a6 b t; omega
      · have := a7 b t; omega) k.size
  have hx : El V x (ints x.path) x.f.kids := ⟨hat.way, hat.wn, hat.row, rfl, ⟨hbn.2.1, hbn.2.2.1, hbn.2.2.2⟩⟩
  have hx' := hel hx (by omega) (fun g e => .inl (hgx o6 g e)) (fun g e => .inl (hgx o7 g e))
  have ok : ∀ {v v' : Value} {t s m : Nat} {ys : List Value}, Okg Z O M v → V'.ownsRow 0 t s v' m ys → (v'.ownBlock = v.ownBlock ∨ ∀ g, v'.ownBlock = some g → V.heap.size ≤ g) → Okg Z O V'.heap.size v' := fun ho hrw hn g e => by
    have hlt := own_lt hrw g e
    rcases hn with hn | hn
    · obtain ⟨h1, h2, h3, h4, h5, h6, h7⟩ := ho g (hn ▸ e)
      exact ⟨h1, h2, h3, h4, h5, h6, hlt⟩
    · have := hn g e
      exact ⟨by omega, by omega, by omega, by omega, by omega, fun ho => by have := (hOz g ho).2; omega, hlt⟩
  have aps : ∀ {v v' : Value}, Okg Z O M v → (∀ g, v.ownBlock = some g → ∀ i (h : i < xs.length), g < xs[i].lo ∨ xs[i].hi ≤ g) → (v'.ownBlock = v.ownBlock ∨ ∀ g, v'.ownBlock = some g → V.heap.size ≤ g) → ∀ g, v'.ownBlock = some g → ∀ i (h : i < (xs ++ [x]).length), g < (xs ++ [x])[i].lo ∨ (xs ++ [x])[i].hi ≤ g := fun ho a hn g e i hi => by
    by_cases q : i < xs.length
    · rw [List.getElem_append_left q]
      rcases hn with hn | hn
      · exact a g (hn ▸ e) i q
      · have := hn g e
        have := (h.no i q).2.1
        omega
    · have : i = xs.length := by simp at hi; omega
      subst this
      simp only [List.getElem_append_right (Nat.le_refl _), Nat.sub_self, List.getElem_cons_zero]
      rcases hn with hn | hn
      · exact .inl (hgx ho g (hn ▸ e))
      · have := hn g e; omega
  have lo' : ∀ i (h : i < (xs ++ [x]).length), Z + 8 ≤ (xs ++ [x])[i].lo := fun i hi => by
    by_cases q : i < xs.length
    · rw [List.getElem_append_left q]; exact h.els.lo i q
    · have : i = xs.length := by simp at hi; omega
      subst this
      simp only [List.getElem_append_right (Nat.le_refl _), Nat.sub_self, List.getElem_cons_zero]
      exact hbn.1
  refine ⟨h.kw.trans k (fun j hj t => ?_), ⟨v6', v7', ⟨h6, by simpa using r6, h7, by simpa using r7, aps o6 hr.a6 n6, aps o7 hr.a7 n7, fun i hi => by have := lo' i hi; omega⟩, ok o6 r6 n6, ok o7 r7 n7⟩, ⟨fun i hi => ?_, fun i j hij hj => ?_, lo'⟩, fun i hi => ?_, (k.block _ (lt_of_heap h.bx) (fun t => ?_)).trans h.bx, by simp; omega, ⟨Nat.le_refl _, by omega⟩, fun i hi => ?_⟩
  · rcases t with t | t | t | t
    · omega
    · omega
    · exact (o6 j t).1
    · exact (o7 j t).1
  · by_cases q : i < xs.length
    · obtain ⟨ws, ks, he, hp⟩ := h.els.el i q
      simp only [List.getElem_append_left q]
      exact ⟨ws, ks, hel he (h.els.lo i q) (fun g e => hr.a6 g e i q) (fun g e => hr.a7 g e i q), fun _ => hp q⟩
    · have : i = xs.length := by simp at hi; omega
      subst this
      simp only [List.getElem_append_right (Nat.le_refl _), Nat.sub_self, List.getElem_cons_zero]
      exact ⟨_, _, hx', fun _ => rfl⟩
  · by_cases q : j < xs.length
    · rw [List.getElem_append_left q, List.getElem_append_left (by omega)]
      exact h.els.ap i j hij q
    · have : j = xs.length := by simp at hj; omega
      subst this
      rw [List.getElem_append_left hij]
      simp only [List.getElem_append_right (Nat.le_refl _), Nat.sub_self, List.getElem_cons_zero]
      have := (h.no i hij).2.1
      omega
  · by_cases q : i < xs.length
    · rw [List.getElem_append_left q]
      have := h.no i q
      exact ⟨this.1, by omega, this.2.2⟩
    · have : i = xs.length := by simp at hi; omega
      subst this
      simp only [List.getElem_append_right (Nat.le_refl _), Nat.sub_self, List.getElem_cons_zero]
      exact ⟨hat.no, by omega, hat.ne⟩
  · rcases t with t | t | t | t
    · omega
    · omega
    · exact (o6 _ t).2.2.2.2.1 rfl
    · exact (o7 _ t).2.2.2.2.1 rfl
  · by_cases q : i < xs.length
    · rw [List.getElem_append_left q]; exact h.dp i q
    · have : i = xs.length := by simp at hi; omega
      subst this
      simp only [List.getElem_append_right (Nat.le_refl _), Nat.sub_self, List.getElem_cons_zero]
      exact hat.deep
theorem AgI.begin {W3 W : World} {Z n : Nat} (hz : W3.heap.size = Z + 6) (k : Keeps W3 W (fun _ => False)) (hs : W.heap.size = Z + 8) (x1 : W3.heap[Z + 1]? = some (.cells #[] 26 (0, 0))) (x2 : W3.heap[Z + 2]? = some (.cells #[.slice (some ⟨Z + 1, 0, none⟩) 0 0] 67 (0, 0))) (x3 : W3.heap[Z + 3]? = some (.cells #[] 38 (0, 0))) (x4 : W3.heap[Z + 4]? = some (.cells #[.slice (some ⟨Z + 3, 0, none⟩) 0 0] 22 (0, 0))) (x5 : W3.heap[Z + 5]? = some (.cells #[.int .i64 0] 3 (0, 0))) : AgI W3 Z n 0 (fun _ => False) W.heap.size [] W := by
  have kb : ∀ b o, W3.heap[b]? = some o → W.heap[b]? = some o := fun b o h => (k.block b (lt_of_heap h) id).trans h
  have ok : ∀ g', Z < g' → g' < Z + 6 → g' ≠ Z + 2 → g' ≠ Z + 4 → g' ≠ Z + 5 → Okg Z (fun _ => False) W.heap.size (.slice (some ⟨g', 0, none⟩) 0 0) := fun g' h1 h2 h3 h4 h5 g e => by
    simp [Value.ownBlock] at e
    subst e
    exact ⟨h1, .inl h2, h3, h4, h5, id, by omega⟩
  exact ⟨k.mono fun _ _ f => f.elim, ⟨_, _, ⟨kb _ _ x2, ⟨rfl, .inr ⟨Z + 1, 0, #[], rfl, Nat.zero_le _, kb _ _ x1, Nat.le_refl _, Nat.zero_le _, rfl, rfl⟩⟩, kb _ _ x4, ⟨rfl, .inr ⟨Z + 3, 0, #[], rfl, Nat.zero_le _, kb _ _ x3, Nat.le_refl _, Nat.zero_le _, rfl, rfl⟩⟩, fun _ _ i h => by simp at h, fun _ _ i h => by simp at h, fun i h => by simp at h⟩, ok _ (by omega) (by omega) (by omega) (by omega) (by omega), ok _ (by omega) (by omega) (by omega) (by omega) (by omega)⟩, ⟨fun i h => by simp at h, fun i j _ h => by simp at h, fun i h => by simp at h⟩, fun i h => by simp at h, kb _ _ x5, by simp, ⟨Nat.le_refl _, by omega⟩, fun i h => by simp at h⟩
theorem wpListIn_append_oldN {F : Fence} {nn : Nat} {P : Program} (w : World) {ops : Array Oper} {rest : List Oper} {o : Oper} {a : Act} {Q : Exit → Act → World → Prop} (hgd : o.guard = none) (s x : Operand) (t tx : TypeId)
    (ho : o.op = .call { callee := .builtin .append, args := #[s, x], argTypes := #[t, tx] })
    (e : TypeId) (z : Value) (size bytes : Nat) (ht : P.underlying t = some (.slice e)) (hinfo : (P.info? e).map (fun i => (i.zero, i.size, i.bytes)) = some (some z, size, bytes)) (hzs : z.cells.size = size)
    (v : Value) (n : Nat) (xs : List Value) (hv : a.eval s = v) (hown : w.ownsRow 0 e size v n xs) (y : Value) (m : Nat) (hm : 0 < m) (news : List Value) (hx : a.eval x = y) (hs : Src P size tx y m news w)
    (h63 : n + m ≤ 9223372036854775807) (hbytes : (n + m) * bytes ≤ 140737488355328)
    (h : ∀ v' w', w'.ownsRow 0 e size v' (n + m) (xs ++ news) → w'.ownsRow 0 e size v n xs → ((v'.ownBlock = v.ownBlock ∧ w.grownBy w' v.ownBlock) ∨ ((∀ g, v'.ownBlock = some g → w.heap.size ≤ g) ∧ Keeps w w' (fun _ => False))) → wpListIn F nn P ops Q rest (a.put o.dst v') w') :
    wpListIn F nn P ops Q (o :: rest) a w := by
  refine wpListIn_plain hgd fun K hK' => ?_
  obtain ⟨i, hi, hzz⟩ := Option.map_eq_some_iff.1 hinfo
  simp only [Prod.mk.injEq] at hzz
  obtain ⟨hz, hsz, hb⟩ := hzz
  obtain ⟨v', w', hr, h2, h3, h4⟩ := run_append_oldN (P := P) w t tx o.type e i z bytes ht hi hz size hsz hb hzs v n xs hown y m hm news hs h63 hbytes
  unfold Oper.wpIn
  refine ⟨?_, ?_⟩
  · simp [Oper.about, ho, resolve, Target.leads, Sem.run_pure]
  · rw [Oper.semAt_plain F _ _ (by rw [ho]; intro c hc'; cases hc')]
    simp [execOp, ho, resolve, invoke, builtin, hv, hx, hr, Result.andThen]
    exact hK' _ _ (h v' w' h2 h3 h4)
/-- as one step of a region that draws its order -/
theorem step_append_oldN {P : Program} (w : World) {ops : Array Oper} {o : Oper} {a : Act} {K : Act → World → Prop} {Q : Exit → Act → World → Prop} {E : Prop} (hgd : o.guard = none) (s x : Operand) (t tx : TypeId)
    (ho : o.op = .call { callee := .builtin .append, args := #[s, x], argTypes := #[t, tx] })
    (e : TypeId) (z : Value) (size bytes : Nat) (ht : P.underlying t = some (.slice e)) (hinfo : (P.info? e).map (fun i => (i.zero, i.size, i.bytes)) = some (some z, size, bytes)) (hzs : z.cells.size = size)
    (v : Value) (n : Nat) (xs : List Value) (hv : a.eval s = v) (hown : w.ownsRow 0 e size v n xs) (y : Value) (m : Nat) (hm : 0 < m) (news : List Value) (hx : a.eval x = y) (hs : Src P size tx y m news w)
    (h63 : n + m ≤ 9223372036854775807) (hbytes : (n + m) * bytes ≤ 140737488355328)
    (h : ∀ v' w', w'.ownsRow 0 e size v' (n + m) (xs ++ news) → w'.ownsRow 0 e size v n xs → ((v'.ownBlock = v.ownBlock ∧ w.grownBy w' v.ownBlock) ∨ ((∀ g, v'.ownBlock = some g → w.heap.size ≤ g) ∧ Keeps w w' (fun _ => False))) → K (a.put o.dst v') w') :
    if Region.wanted o (yielded ops a.tmps) = true then Oper.wp P o a w K Q else E := by
  have hw : Region.wanted o (yielded ops a.tmps) = true := by simp [Region.wanted, hgd]
  rw [if_pos hw]
  obtain ⟨i, hi, hzz⟩ := Option.map_eq_some_iff.1 hinfo
  simp only [Prod.mk.injEq] at hzz
  obtain ⟨hz, hsz, hb⟩ := hzz
  obtain ⟨v', w', hr, h2, h3, h4⟩ := run_append_oldN (P := P) w t tx o.type e i z bytes ht hi hz size hsz hb hzs v n xs hown y m hm news hs h63 hbytes
  unfold Oper.wp
  simp [execOp, ho, resolve, invoke, builtin, hv, hx, hr, Result.andThen]
  exact h v' w' h2 h3 h4
noncomputable def z26 : Value := ((Tryd.prog.info? 26).bind (·.zero)).getD default
theorem c26 : z26.cells.size = 1 := by kernel_rfl
theorem info26 : (Tryd.prog.info? 26).map (fun i => (i.zero, i.size, i.bytes)) = some (some z26, 1, 24) := by kernel_rfl
theorem src_way (w : World) (u : Value) (hu : u.oneCell' = true) : Src Tryd.prog 1 67 (.slice (some ⟨w.heap.size, 0, none⟩) 1 1) 1 [u] (w.alloc (.cells #[u] 26)) := by
  refine Src.ofSlice _ Tryd.underlying67 _ _ _ _ rfl ?_ (by simpa using hu)
  intro k v hk
  match k, hk with
  | 0, hk => simp at hk; subst hk; simp [Addr.add]
  | k + 1, hk => simp at hk
/-- append's frame -/
theorem app_keeps {V Va w4 : World} {v v' : Value} (g : Gr V Va) (h : (v'.ownBlock = v.ownBlock ∧ Va.grownBy w4 v.ownBlock) ∨ ((∀ g, v'.ownBlock = some g → Va.heap.size ≤ g) ∧ Keeps Va w4 (fun _ => False))) : Keeps V w4 (fun b => v.ownBlock = some b) ∧ (v'.ownBlock = v.ownBlock ∨ ∀ g, v'.ownBlock = some g → V.heap.size ≤ g) := by
  rcases h with ⟨e, hg⟩ | ⟨hn, hk⟩
  · exact ⟨(g.mono fun _ _ f => f.elim).trans (Keeps.ofGrown hg) (fun _ _ h => h), .inl e⟩
  · exact ⟨(g.mono fun _ _ f => f.elim).trans hk (fun _ _ h => h.elim), .inr fun b e => Nat.le_trans g.size (hn b e)⟩
theorem own_putN {W : World} {t s n c g k : Nat} {xs : List Value} (h : W.ownsRow 0 t s (.slice (some ⟨g, 0, none⟩) n c) n xs) (u : Value) : (W.setCell ⟨g, k, none⟩ u).ownsRow 0 t s (.slice (some ⟨g, 0, none⟩) n c) n (xs.set k u) := by
  rcases h.2 with ⟨q, _⟩ | ⟨g', cap, cur, q, h1, h2, h3, h4, h5, h6⟩
  · cases q
  · cases q
    refine ⟨by rw [List.length_set]; exact h.1, .inr ⟨g, c, _, rfl, h1, heap_setCell_same W g k cur t u h2, h3, h4, by simp [h5], ?_⟩⟩
    rw [Array.toList_setIfInBounds, List.take_set, h6]
theorem set_seven {α : Type} (ys : List α) (k : Nat) (h : ys.length = k) (z0 z1 z2 z3 z4 z5 z6 a0 a1 a2 a3 a4 a5 a6 : α) : (((((((ys ++ [z0, z1, z2, z3, z4, z5, z6]).set k a0).set (k + 1) a1).set (k + 2) a2).set (k + 3) a3).set (k + 4) a4).set (k + 5) a5).set (k + 6) a6 = ys ++ [a0, a1, a2, a3, a4, a5, a6] := by
  subst h
  simp
theorem wpIn_mid {F : Fence} {n : Nat} {P : Program} {c : Code} {K : Act → World → Prop} {Q : Exit → Act → World → Prop} {a : Act} {w : World} (Mid : Act → World → Prop) (h : c.wpIn F n P (Exit.then Mid (fun _ _ _ => False)) a w) (hK : ∀ a w, Mid a w → K a w) : c.wpIn F n P (Exit.then K Q) a w :=
  wpIn_mono h fun e a w h => by cases e <;> first | exact hK a w h | exact h.elim
theorem wp_calm {P : Program} {c : Code} {K : Act → World → Prop} {Q : Exit → Act → World → Prop} {a : Act} {w : World} (h : c.wp P (Exit.then K (fun _ _ _ => False)) a w) : c.wp P (Exit.then K Q) a w := Code.wp_mono (fun e a w h => by cases e <;> first | exact h | exact h.elim) h
theorem wp_calm2 {P : Program} {c : Code} {Q : Exit → Act → World → Prop} {a : Act} {w : World} (h : c.wp P (Exit.then (fun a w => Q .normal a w) (fun _ _ _ => False)) a w) : c.wp P Q a w := Code.wp_mono (fun e a w h => by cases e <;> first | exact h | exact h.elim) h
theorem wp_mid0 {P : Program} {c : Code} {K : Act → World → Prop} {Q : Exit → Act → World → Prop} {a : Act} {w : World} (Mid : Act → World → Prop) (h : c.wp P (Exit.then Mid (fun _ _ _ => False)) a w) (hK : ∀ a w, Mid a w → K a w) : c.wp P (Exit.then K Q) a w :=
  Code.wp_mono (fun e a w h => by cases e <;> first | exact hK a w h | exact h.elim) h
def Sx7 (Bx : Nat) (x : WEl) (w : World) : Prop := w.heap[Bx]? = some (.cells #[.string x.f.name, .bool x.f.nul, .int .i64 x.f.kind, .int .i64 x.f.width, .int .i64 x.f.id, .int .i64 x.f.index, .slice x.fo x.f.kids.length x.fc] 38 (0, 0))
theorem Sx7.cells {Bx : Nat} {x : WEl} {w : World} (h : Sx7 Bx x w) : w.cell? ⟨Bx, 0, none⟩ = some (.string x.f.name) ∧ w.cell? ⟨Bx, 1, none⟩ = some (.bool x.f.nul) ∧ w.cell? ⟨Bx, 2, none⟩ = some (.int .i64 x.f.kind) ∧ w.cell? ⟨Bx, 3, none⟩ = some (.int .i64 x.f.width) ∧ w.cell? ⟨Bx, 4, none⟩ = some (.int .i64 x.f.id) ∧ w.cell? ⟨Bx, 5, none⟩ = some (.int .i64 x.f.index) ∧ w.cell? ⟨Bx, 6, none⟩ = some (.slice x.fo x.f.kids.length x.fc) := by
  unfold Sx7 at h
  simp [World.cell?, h]
/-- behind the append of a field -/
structure Fin13 (V5 Vf : World) (Z L : Nat) (o7 : Option Addr) (c7 g7 d7 : Nat) (ys : List Value) : Prop where
  k : Keeps V5 Vf (fun b => b = Z + 4 ∨ (Value.slice o7 L c7).ownBlock = some b)
  b : Vf.heap[Z + 4]? = some (.cells #[.slice (some ⟨g7, 0, none⟩) (L + 1) d7] 22 (0, 0))
  r : Vf.ownsRow 0 38 7 (.slice (some ⟨g7, 0, none⟩) (L + 1) d7) (L + 1) ys
  n : (Value.slice (some ⟨g7, 0, none⟩) (L + 1) d7).ownBlock = (Value.slice o7 L c7).ownBlock ∨ ∀ g, (Value.slice (some ⟨g7, 0, none⟩) (L + 1) d7).ownBlock = some g → V5.heap.size ≤ g
def put7 (w : World) (g p : Nat) (v0 v1 v2 v3 v4 v5 v6 : Value) : World := ((((((w.setCell ⟨g, p, none⟩ v0).setCell ⟨g, p + 1, none⟩ v1).setCell ⟨g, p + 2, none⟩ v2).setCell ⟨g, p + 3, none⟩ v3).setCell ⟨g, p + 4, none⟩ v4).setCell ⟨g, p + 5, none⟩ v5).setCell ⟨g, p + 6, none⟩ v6
theorem put7_row {w : World} {g L c : Nat} {ys : List Value} {z0 z1 z2 z3 z4 z5 z6 v0 v1 v2 v3 v4 v5 v6 : Value} (hl : ys.length = L * 7) (h : w.ownsRow 0 38 7 (.slice (some ⟨g, 0, none⟩) (L + 1) c) (L + 1) (ys ++ [z0, z1, z2, z3, z4, z5, z6])) : (put7 w g (L * 7) v0 v1 v2 v3 v4 v5 v6).ownsRow 0 38 7 (.slice (some ⟨g, 0, none⟩) (L + 1) c) (L + 1) (ys ++ [v0, v1, v2, v3, v4, v5, v6]) := by
  rw [← set_seven ys (L * 7) hl z0 z1 z2 z3 z4 z5 z6]
  exact own_putN (own_putN (own_putN (own_putN (own_putN (own_putN (own_putN h v0) v1) v2) v3) v4) v5) v6
theorem put7_kp (w : World) (g p : Nat) (v0 v1 v2 v3 v4 v5 v6 : Value) : Keeps w (put7 w g p v0 v1 v2 v3 v4 v5 v6) (fun z => z = g) :=
  (((((((Keeps.refl w (fun z => z = g)).setCell (p := ⟨g, p, none⟩) (fun _ => rfl) _).setCell (p := ⟨g, p + 1, none⟩) (fun _ => rfl) _).setCell (p := ⟨g, p + 2, none⟩) (fun _ => rfl) _).setCell (p := ⟨g, p + 3, none⟩) (fun _ => rfl) _).setCell (p := ⟨g, p + 4, none⟩) (fun _ => rfl) _).setCell (p := ⟨g, p + 5, none⟩) (fun _ => rfl) _).setCell (p := ⟨g, p + 6, none⟩) (fun _ => rfl) _
/-- what is known between the append and the stores -/
structure Mid13 (V5 w7 : World) (Z L Bx : Nat) (x : WEl) (o7 : Option Addr) (c7 g7 d7 : Nat) (ys : List Value) : Prop where
  k : Keeps V5 w7 (fun b => (Value.slice o7 L c7).ownBlock = some b)
  b : w7.heap[Z + 4]? = some (.cells #[.slice o7 L c7] 22 (0, 0))
  r : w7.ownsRow 0 38 7 (.slice (some ⟨g7, 0, none⟩) (L + 1) d7) (L + 1) (ys ++ [.string ⟨#[]⟩, .bool false, .int .i64 0, .int .i64 0, .int .i64 0, .int .i64 0, .slice none 0 0])
  n : (Value.slice (some ⟨g7, 0, none⟩) (L + 1) d7).ownBlock = (Value.slice o7 L c7).ownBlock ∨ ∀ g, (Value.slice (some ⟨g7, 0, none⟩) (L + 1) d7).ownBlock = some g → V5.heap.size ≤ g
  nz : g7 ≠ Z + 4
  nb : g7 ≠ Bx
  bz : Bx ≠ Z + 4
  sx : Sx7 Bx x w7
theorem Mid13.cells {V5 w7 : World} {Z L Bx : Nat} {x : WEl} {o7 : Option Addr} {c7 g7 d7 : Nat} {ys : List Value} (h : Mid13 V5 w7 Z L Bx x o7 c7 g7 d7 ys) (hl : ys.length = L * 7) : (w7.cell? ⟨g7, L * 7, none⟩ = some (.string ⟨#[]⟩) ∧ w7.cell? ⟨g7, L * 7 + 1, none⟩ = some (.bool false) ∧ w7.cell? ⟨g7, L * 7 + 2, none⟩ = some (.int .i64 0) ∧ w7.cell? ⟨g7, L * 7 + 3, none⟩ = some (.int .i64 0) ∧ w7.cell? ⟨g7, L * 7 + 4, none⟩ = some (.int .i64 0) ∧ w7.cell? ⟨g7, L * 7 + 5, none⟩ = some (.int .i64 0) ∧ w7.cell? ⟨g7, L * 7 + 6, none⟩ = some (.slice none 0 0)) ∧ (∀ j, w7.frozen? ⟨g7, j, none⟩ = false) := by
  have hc : ∀ t u, ([Value.string ⟨#[]⟩, .bool false, .int .i64 0, .int .i64 0, .int .i64 0, .int .i64 0, .slice none 0 0] : List Value)[t]? = some u → w7.cell? ⟨g7, L * 7 + t, none⟩ = some u := fun t u ht => by
    have := h.r.cells (g := g7) rfl (L * 7 + t) u (by rw [List.getElem?_append_right (by omega), hl, Nat.add_sub_cancel_left]; exact ht)
    simpa [Addr.add_lit] using this
  exact ⟨⟨hc 0 _ rfl, hc 1 _ rfl, hc 2 _ rfl, hc 3 _ rfl, hc 4 _ rfl, hc 5 _ rfl, hc 6 _ rfl⟩, fun j => own_frz h.r j⟩
/-- the field is stored, then the list -/
theorem Mid13.fin {V5 w7 : World} {Z L Bx : Nat} {x : WEl} {o7 : Option Addr} {c7 g7 d7 : Nat} {ys : List Value} {v0 v1 v2 v3 v4 v5 v6 : Value} (h : Mid13 V5 w7 Z L Bx x o7 c7 g7 d7 ys) (hl : ys.length = L * 7) : Fin13 V5 ((put7 w7 g7 (L * 7) v0 v1 v2 v3 v4 v5 v6).setCell ⟨Z + 4, 0, none⟩ (.slice (some ⟨g7, 0, none⟩) (L + 1) d7)) Z L o7 c7 g7 d7 (ys ++ [v0, v1, v2, v3, v4, v5, v6]) := by
  have k1 := put7_kp w7 g7 (L * 7) v0 v1 v2 v3 v4 v5 v6
  have hb : (put7 w7 g7 (L * 7) v0 v1 v2 v3 v4 v5 v6).heap[Z + 4]? = _ := (k1.block _ (lt_of_heap h.b) (fun e => h.nz e.symm)).trans h.b
  have hr := put7_row (v0 := v0) (v1 := v1) (v2 := v2) (v3 := v3) (v4 := v4) (v5 := v5) (v6 := v6) hl h.r
  have k2 := keep1 (j := 0) (Keeps.refl (put7 w7 g7 (L * 7) v0 v1 v2 v3 v4 v5 v6) (fun b => b = Z + 4)) (.slice (some ⟨g7, 0, none⟩) (L + 1) d7)
  refine ⟨((h.k.mono fun b _ e => .inr e).trans k1 (fun j hj e => ?_)).trans k2 (fun j hj e => .inl e), by rw [setc (j := 0) hb]; simp, row_kp hr fun g e => k2.block g (own_lt hr g e) (fun e' => by simp [Value.ownBlock] at e; exact h.nz (e.trans e')), h.n⟩
  rcases h.n with q | q
  · right; rw [← q, e]; rfl
  · have := q g7 rfl; omega
/-- the list is stored, then the field -/
theorem Mid13.fin2 {V5 w7 : World} {Z L Bx : Nat} {x : WEl} {o7 : Option Addr} {c7 g7 d7 : Nat} {ys : List Value} {v0 v1 v2 v3 v4 v5 v6 : Value} (h : Mid13 V5 w7 Z L Bx x o7 c7 g7 d7 ys) (hl : ys.length = L * 7) : Fin13 V5 (put7 (w7.setCell ⟨Z + 4, 0, none⟩ (.slice (some ⟨g7, 0, none⟩) (L + 1) d7)) g7 (L * 7) v0 v1 v2 v3 v4 v5 v6) Z L o7 c7 g7 d7 (ys ++ [v0, v1, v2, v3, v4, v5, v6]) := by
  have k2 := keep1 (j := 0) (Keeps.refl w7 (fun b => b = Z + 4)) (.slice (some ⟨g7, 0, none⟩) (L + 1) d7)
  have hb : (w7.setCell ⟨Z + 4, 0, none⟩ (.slice (some ⟨g7, 0, none⟩) (L + 1) d7)).heap[Z + 4]? = some (.cells #[.slice (some ⟨g7, 0, none⟩) (L + 1) d7] 22 (0, 0)) := by rw [setc (j := 0) h.b]; simp
  have hr7 : (w7.setCell ⟨Z + 4, 0, none⟩ (.slice (some ⟨g7, 0, none⟩) (L + 1) d7)).ownsRow 0 38 7 _ _ _ := row_kp h.r fun g e => k2.block g (own_lt h.r g e) (fun e' => by simp [Value.ownBlock] at e; exact h.nz (e.trans e'))
  have k1 := put7_kp (w7.setCell ⟨Z + 4, 0, none⟩ (.slice (some ⟨g7, 0, none⟩) (L + 1) d7)) g7 (L * 7) v0 v1 v2 v3 v4 v5 v6
  refine ⟨((h.k.mono fun b _ e => .inr e).trans k2 (fun j hj e => .inl e)).trans k1 (fun j hj e => ?_), (k1.block _ (lt_of_heap hb) (fun e => h.nz e.symm)).trans hb, put7_row hl hr7, h.n⟩
  rcases h.n with q | q
  · right; rw [← q, e]; rfl
  · have := q g7 rfl; omega
theorem OutAt.at_ {S : Nat → Prop} {W : World} {vo : Option Addr} {vc : Nat} {out : List LS} (h : OutAt S W (.slice vo out.length vc) out) {j : Nat} (hj : j < out.length) : ∃ g0 wb wc fo fc ao ca, vo = some ⟨g0, 0, none⟩ ∧ out.length ≤ vc ∧ (∀ t u, (nodeCells out[j] wb wc fo fc ao ca)[t]? = some u → W.cell? ⟨g0, j * 10 + t, none⟩ = some u) ∧ NodeIn S W out[j] wb wc fo fc ao ca := by
  obtain ⟨cs, hown, hc⟩ := h
  obtain ⟨wb, wc, fo, fc, ao, ca, h1, h2⟩ := hc j hj
  rcases hown.2 with ⟨e, e2⟩ | ⟨g0, c, cur, e, _, _, h3, _⟩
  · omega
  · cases e
    refine ⟨g0, wb, wc, fo, fc, ao, ca, rfl, h3, fun t u ht => ?_, h2⟩
    rw [← h1] at ht
    have ht10 : t < 10 := by
      have := (List.getElem?_eq_some_iff.1 ht).1
      simp at this; omega
    rw [List.getElem?_take_of_lt ht10, List.getElem?_drop] at ht
    have := hown.cells (g := g0) rfl (j * 10 + t) u ht
    simpa [Addr.add_lit] using this
end Go.Proofs.YtjdojbbjbippoaaDoor.Kit
