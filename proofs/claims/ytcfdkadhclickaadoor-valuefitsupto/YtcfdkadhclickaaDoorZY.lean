import Derived.Test.YtcfdkadhclickaaDoorZV
namespace Go.Proofs.YtcfdkadhclickaaDoor.Kit
open Go.RowKit Go.Shelf Go.Deep
set_option linter.unusedVariables false

/-! ### append onto a row of one's own: in its block, or in a new one, and then all else stays -/
section
variable {P : Program} (w : World)
theorem run_append_twoN (t tx ty e : TypeId) (i : TypeInfo) (z : Value) (bytes : Nat) (ht : P.underlying t = some (.slice e)) (hi : P.info? e = some i) (hz : i.zero = some z) (size : Nat) (hsize : i.size = size) (hby : i.bytes = bytes) (hzs : z.cells.size = size)
    (v : Value) (n : Nat) (xs : List Value) (hown : w.ownsRow 0 e size v n xs) (x : Value) (m : Nat) (hm : 0 < m) (news : List Value) (hs : Src P size tx x m news w)
    (h63 : n + m ≤ 9223372036854775807) (hbytes : (n + m) * bytes ≤ 140737488355328) :
    ∃ v' w', (Builtin.append_ #[t, tx] ty #[v, x]).run P w = .ok v' w' ∧ w'.ownsRow 0 e size v' (n + m) (xs ++ news) ∧
      ((v'.ownBlock = v.ownBlock ∧ w.grownBy w' v.ownBlock) ∨ ((∀ g, v'.ownBlock = some g → w.heap.size ≤ g) ∧ Keeps w w' (fun _ => False))) := by
  subst hby
  have hlen : (xs ++ news).length = (n + m) * size := by rw [List.length_append, hown.1, hs.newsLen, Nat.add_mul]
  have grown : ∀ (old : Nat), old < n + m →
      (w.drew.alloc (.cells ((xs ++ news).toArray ++ Builtin.zeroCells z.cells (grownCap w (n + m) old e - (n + m))) e)).ownsRow 0 e size
        (.slice (some ⟨w.heap.size, 0, none⟩) (n + m) (grownCap w (n + m) old e)) (n + m) (xs ++ news) ∧
      Keeps w (w.drew.alloc (.cells ((xs ++ news).toArray ++ Builtin.zeroCells z.cells (grownCap w (n + m) old e - (n + m))) e)) (fun _ => False) := by
    intro old ho
    have hge := grownCap_ge w (n + m) old e
    have hcm : grownCap w (n + m) old e ≤ maxLen := grownCap_le_maxLen w (n + m) old e h63
    refine ⟨⟨hlen, .inr ⟨w.heap.size, _, _, rfl, Nat.zero_le _, heap_alloc_new w.drew _, hge, hcm, ?_, ?_⟩⟩, ⟨rfl, rfl, rfl, by simp, fun k hk _ => Below.heap_alloc w.drew _ k hk⟩⟩
    · simp only [Array.size_append, List.size_toArray, size_zeroCells, hzs, hlen, ← Nat.add_mul]
      congr 1
      omega
    · simp only [Array.toList_append]
      rw [← hlen]
      exact List.take_left
  rcases hown.2 with ⟨rfl, rfl⟩ | ⟨g, cap, cur, rfl, hbg, hg, hnc, hcm, hcs, htake⟩
  · have hx : xs = [] := List.eq_nil_of_length_eq_zero (by simpa using hown.1)
    subst hx
    have hr := run_append_grow_src (P := P) w t tx ty e i z ht hi hz none 0 0 [] (by simpa using run_firstCells_none w.drew i.size 0 0 0) x m news (by rw [hsize]; exact hs) (by omega) (by omega) (growslice_fits (by omega) hbytes)
    have hgr := grown 0 (by omega)
    exact ⟨_, _, hr, hgr.1, .inr ⟨fun g hg => by simp [Value.ownBlock] at hg; omega, hgr.2⟩⟩
  · by_cases hroom : n + m ≤ cap
    · have hl := hs.newsLen
      have hfit : n * i.size + news.length ≤ cur.size := by rw [hl, hcs, hsize, ← Nat.add_mul]; exact Nat.mul_le_mul_right _ hroom
      have hr := run_append_room_row (P := P) w t tx ty e i ht hi g n cap cur hg x m news (by rw [hsize]; exact hs) hroom hfit
      rw [hsize] at hr hfit
      refine ⟨_, _, hr, ⟨hlen, .inr ⟨g, cap, _, rfl, hbg, setRow_heap w g cur _ e _ hg, hroom, hcm, ?_, ?_⟩⟩, .inl ⟨rfl, ⟨rfl, rfl, rfl, by simp, fun k _ hk => setRow_other w g k _ (fun e => hk (by simp [Value.ownBlock, e]))⟩⟩⟩
      · simp only [List.size_toArray, List.length_append, List.length_take, List.length_drop, Array.length_toList]
        omega
      · rw [htake, ← hlen]
        exact List.take_left
    · have holds : ∀ j u, xs[j]? = some u → w.cell? ((⟨g, 0, none⟩ : Addr).add j) = some u := hown.cells (g := g) rfl
      have hr := run_append_grow_src (P := P) w t tx ty e i z ht hi hz (some ⟨g, 0, none⟩) n cap xs (run_firstCells_some w.drew i.size n ⟨g, 0, none⟩ n cap xs (by rw [hsize]; exact hown.1) (by simpa using holds)) x m news (by rw [hsize]; exact hs) (by omega) (by omega) (growslice_fits (by omega) hbytes)
      have hgr := grown cap (by omega)
      exact ⟨_, _, hr, hgr.1, .inr ⟨fun g' hg' => by simp [Value.ownBlock] at hg'; omega, hgr.2⟩⟩
theorem wpList_append_twoN {ops : Array Oper} {rest : List Oper} {o : Oper} {a : Act} {Q : Exit → Act → World → Prop} (hgd : o.guard = none) (s x : Operand) (t tx : TypeId)
    (ho : o.op = .call { callee := .builtin .append, args := #[s, x], argTypes := #[t, tx] })
    (e : TypeId) (z : Value) (size bytes : Nat) (ht : P.underlying t = some (.slice e)) (hinfo : (P.info? e).map (fun i => (i.zero, i.size, i.bytes)) = some (some z, size, bytes)) (hzs : z.cells.size = size)
    (v : Value) (n : Nat) (xs : List Value) (hv : a.eval s = v) (hown : w.ownsRow 0 e size v n xs) (y : Value) (m : Nat) (hm : 0 < m) (news : List Value) (hx : a.eval x = y) (hs : Src P size tx y m news w)
    (h63 : n + m ≤ 9223372036854775807) (hbytes : (n + m) * bytes ≤ 140737488355328)
    (h : ∀ v' w', w'.ownsRow 0 e size v' (n + m) (xs ++ news) → ((v'.ownBlock = v.ownBlock ∧ w.grownBy w' v.ownBlock) ∨ ((∀ g, v'.ownBlock = some g → w.heap.size ≤ g) ∧ Keeps w w' (fun _ => False))) → wpList P ops Q rest (a.put o.dst v') w') :
    wpList P ops Q (o :: rest) a w := by
  refine wpList_plain hgd fun K hK' => ?_
  obtain ⟨i, hi, hzz⟩ := Option.map_eq_some_iff.1 hinfo
  simp only [Prod.mk.injEq] at hzz
  obtain ⟨hz, hsz, hb⟩ := hzz
  obtain ⟨v', w', hr, h2, h3⟩ := run_append_twoN (P := P) w t tx o.type e i z bytes ht hi hz size hsz hb hzs v n xs hown y m hm news hs h63 hbytes
  unfold Oper.wp
  simp [execOp, ho, resolve, invoke, builtin, hv, hx, hr, Result.andThen]
  exact hK' _ _ (h v' w' h2 h3)
end
/-! ### Apart, the first loops: all rows are marked -/
structure ApA (W wr : World) (lo hi : Nat) (rs : List ZR) (i k : Nat) : Prop where
  kp : Keeps W wr (fun z => lo ≤ z ∧ z < hi)
  rows : RowsIn wr lo hi rs
  full : ∀ j (h : j < rs.length), j < i → MarkRow wr rs[j].1 rs[j].2.1 j
  part : ∀ (h : i < rs.length), MarkRow wr rs[i].1 k i
theorem ApA.begin {W : World} {lo hi : Nat} {rs : List ZR} (h : RowsIn W lo hi rs) : ApA W W lo hi rs 0 0 := ⟨Keeps.refl _ _, h, fun j _ h => by omega, fun _ => MarkRow.zero _ _ _⟩
theorem ApA.next {W wr : World} {lo hi : Nat} {rs : List ZR} {i : Nat} (hi' : i < rs.length) (h : ApA W wr lo hi rs i rs[i].2.1) : ApA W wr lo hi rs (i + 1) 0 :=
  ⟨h.kp, h.rows, fun j hj hji => by
    by_cases e : j = i
    · subst e; exact h.part hj
    · exact h.full j hj (by omega), fun _ => MarkRow.zero _ _ _⟩
theorem RowsIn.ne {W : World} {lo hi : Nat} {rs : List ZR} (h : RowsIn W lo hi rs) {i j : Nat} (hi : i < rs.length) (hj : j < rs.length) (hne : i ≠ j) {b : Nat} (e : rs[i].1 = some ⟨b, 0, none⟩) : rs[j].1 ≠ some ⟨b, 0, none⟩ := by
  have hp := List.pairwise_iff_getElem.1 h.apart
  by_cases q : i < j
  · exact hp i j hi hj q b e
  · intro e2
    exact hp j i hj hi (by omega) b e2 e
theorem MarkRow.stays {W W' : World} {ao : Option Addr} {len i : Nat} (h : MarkRow W ao len i) (k : ∀ b, ao = some ⟨b, 0, none⟩ → W'.heap[b]? = W.heap[b]?) : MarkRow W' ao len i := by
  intro x hx
  obtain ⟨b, rfl, c⟩ := h x hx
  exact MarkRow.kept (len := len) h (k b rfl) x hx
/-- one more value is marked -/
theorem ApA.write {W wr : World} {lo hi : Nat} {rs : List ZR} {i k b cap : Nat} {cur : Array Value} (h : ApA W wr lo hi rs i k) (hi' : i < rs.length) (hb : rs[i].1 = some ⟨b, 0, none⟩) (hlo : lo ≤ b ∧ b < hi) (hr : wr.heap[b]? = some (.cells cur 29 (0, 0))) (hs : cur.size = cap * 4) (hk : k < cap) :
    ApA W ((((wr.setCell ⟨b, k * 4, none⟩ (.bool false)).setCell ⟨b, k * 4 + 1, none⟩ (.int .i64 (1000 + (i : Int)))).setCell ⟨b, k * 4 + 2, none⟩ (.string ⟨#[]⟩)).setCell ⟨b, k * 4 + 3, none⟩ (.slice none 0 0)) lo hi rs i (k + 1) := by
  have hm := mark_next (i := i) hr hs hk (by have := h.part hi'; rwa [hb] at this)
  have h1 := heap_setCell_same wr b (k * 4) cur 29 (.bool false) hr
  have h2 := heap_setCell_same _ b (k * 4 + 1) _ 29 (.int .i64 (1000 + (i : Int))) h1
  have h3 := heap_setCell_same _ b (k * 4 + 2) _ 29 (.string ⟨#[]⟩) h2
  have h4 := heap_setCell_same _ b (k * 4 + 3) _ 29 (.slice none 0 0) h3
  have kw : Keeps wr ((((wr.setCell ⟨b, k * 4, none⟩ (.bool false)).setCell ⟨b, k * 4 + 1, none⟩ (.int .i64 (1000 + (i : Int)))).setCell ⟨b, k * 4 + 2, none⟩ (.string ⟨#[]⟩)).setCell ⟨b, k * 4 + 3, none⟩ (.slice none 0 0)) (fun z => z = b) :=
    (((((Keeps.refl wr (fun z => z = b)).setCell (p := ⟨b, k * 4, none⟩) (fun _ => rfl) _).setCell (p := ⟨b, k * 4 + 1, none⟩) (fun _ => rfl) _).setCell (p := ⟨b, k * 4 + 2, none⟩) (fun _ => rfl) _).setCell (p := ⟨b, k * 4 + 3, none⟩) (fun _ => rfl) _)
  obtain ⟨w2, hw2⟩ : ∃ w2, (((wr.setCell ⟨b, k * 4, none⟩ (.bool false)).setCell ⟨b, k * 4 + 1, none⟩ (.int .i64 (1000 + (i : Int)))).setCell ⟨b, k * 4 + 2, none⟩ (.string ⟨#[]⟩)).setCell ⟨b, k * 4 + 3, none⟩ (.slice none 0 0) = w2 := ⟨_, rfl⟩
  rw [hw2] at hm h4 kw ⊢
  clear hw2 h1 h2 h3
  refine ⟨h.kp.trans kw (fun j hj e => by omega), ⟨fun r hr' => ?_, h.rows.apart⟩, fun j hj hji => ?_, fun _ => by rw [hb]; exact hm⟩
  · rcases h.rows.own r hr' with q | ⟨b', cur', e0, e1, e2, e3, e4, e5⟩
    · exact .inl q
    · by_cases e : b' = b
      · subst e
        rw [hr] at e3
        cases e3
        exact .inr ⟨b', _, e0, e1, e2, h4, by simpa using e4, e5⟩
      · exact .inr ⟨b', cur', e0, e1, e2, (kw.block b' (lt_of_heap e3) e).trans e3, e4, e5⟩
  · refine (h.full j hj hji).stays fun b' e => ?_
    have hne : b' ≠ b := fun q => h.rows.ne hi' hj (by omega) hb (q ▸ e)
    rcases h.rows.own rs[j] (List.getElem_mem hj) with ⟨q, _⟩ | ⟨b2, cur2, e0, _, _, e3, _⟩
    · rw [q] at e; cases e
    · rw [e0] at e
      cases e
      exact kw.block _ (lt_of_heap e3) hne
/-- where the book's list i lies -/
theorem BkV.at_ {W : World} {K : Nat} {vo : Option Addr} {vc : Nat} {rs : List ZR} {mo : Option Addr} {M mc : Nat} (h : BkV W K vo vc rs mo M mc) {i : Nat} (hi : i < rs.length) : ∃ vb, vo = some ⟨vb, 0, none⟩ ∧ W.cell? ⟨vb, i, none⟩ = some (.slice rs[i].1 rs[i].2.1 rs[i].2.2) := by
  rcases h.own.2 with ⟨e, e2⟩ | ⟨g, cap, cur, e, _, hg, _⟩
  · omega
  · have hc := h.own.cells (g := g) (by rw [e]; rfl) i (ZR.val rs[i]) (by simp [hi])
    rw [add_at] at hc
    cases e
    exact ⟨g, rfl, hc⟩
end Go.Proofs.YtcfdkadhclickaaDoor.Kit
namespace Go.Proofs.YtcfdkadhclickaaDoor.Kit
open Go.RowKit Go.Shelf Go.Deep
set_option linter.unusedVariables false

/-! ### Apart, the second loop: marks stay while rows grow -/
/-- where, how many, which mark -/
abbrev MK := Option Addr × Nat × Nat
def Mks (wr : World) (Ms : List MK) : Prop := ∀ x ∈ Ms, MarkRow wr x.1 x.2.1 x.2.2 ∧ ∀ b, x.1 = some ⟨b, 0, none⟩ → ∃ cur, wr.heap[b]? = some (.cells cur 29 (0, 0))
/-- what is marked in the row's own block lies within its length -/
def Safe (Ms : List MK) (v : Value) (n : Nat) : Prop := ∀ x ∈ Ms, ∀ b, v.ownBlock = some b → x.1 = some ⟨b, 0, none⟩ → x.2.1 ≤ n
theorem Mks.stays {W W' : World} {Ms : List MK} (h : Mks W Ms) (k : ∀ (b : Nat) (cur : Array Value), W.heap[b]? = some (Obj.cells cur 29 (0, 0)) → W'.heap[b]? = W.heap[b]?) : Mks W' Ms := fun x hx => by
  obtain ⟨h1, h2⟩ := h x hx
  refine ⟨h1.stays fun b e => ?_, fun b e => ?_⟩
  · obtain ⟨cur, hc⟩ := h2 b e
    exact k b cur hc
  · obtain ⟨cur, hc⟩ := h2 b e
    exact ⟨cur, (k b cur hc).trans hc⟩
theorem Mks.gr {W W' : World} {Ms : List MK} (h : Mks W Ms) (g : Gr W W') : Mks W' Ms := h.stays fun b cur e => g.block b (lt_of_heap e) id
def mkC (i : Nat) : List Value := [.bool false, .int .i64 (1000 + (i : Int)), .string ⟨#[]⟩, .slice none 0 0]
/-- cells below a row's length stay when it grows in its block -/
theorem own_same {W W' : World} {b n c n' c' : Nat} {xs ys : List Value} (h : W.ownsRow 0 29 4 (.slice (some ⟨b, 0, none⟩) n c) n xs) (h' : W'.ownsRow 0 29 4 (.slice (some ⟨b, 0, none⟩) n' c') n' (xs ++ ys)) {j : Nat} (hj : j < n * 4) : W'.cell? ⟨b, j, none⟩ = W.cell? ⟨b, j, none⟩ := by
  have hl := h.1
  have hjx : j < xs.length := by omega
  have e1 := h.cells (g := b) rfl j xs[j] (by simp [hjx])
  have e2 := h'.cells (g := b) rfl j xs[j] (by rw [List.getElem?_append_left hjx]; simp [hjx])
  rw [add_at] at e1 e2
  rw [e1, e2]
/-- a row grows by a mark -/
theorem Mks.app {wr w' : World} {Ms : List MK} {v v' : Value} {n i : Nat} {xs : List Value} (h : Mks wr Ms) (hs : Safe Ms v n) (hown : wr.ownsRow 0 29 4 v n xs) (hown' : w'.ownsRow 0 29 4 v' (n + 1) (xs ++ mkC i))
    (alt : (v'.ownBlock = v.ownBlock ∧ wr.grownBy w' v.ownBlock) ∨ ((∀ g, v'.ownBlock = some g → wr.heap.size ≤ g) ∧ Keeps wr w' (fun _ => False))) : Mks w' Ms ∧ Safe Ms v' (n + 1) := by
  rcases alt with ⟨e, hg⟩ | ⟨e, hk⟩
  · refine ⟨fun x hx => ?_, fun x hx b e1 e2 => by have := hs x hx b (e ▸ e1) e2; omega⟩
    have kk := Keeps.ofGrown hg
    obtain ⟨h1, h2⟩ := h x hx
    by_cases q : ∃ b, x.1 = some ⟨b, 0, none⟩ ∧ v.ownBlock = some b
    · obtain ⟨b, q1, q2⟩ := q
      have hle := hs x hx b q2 q1
      obtain ⟨vo, vc, rfl⟩ := own_formN hown
      obtain ⟨vo', vc', rfl⟩ := own_formN hown'
      have f1 : vo = some ⟨b, 0, none⟩ := by
        rcases hown.2 with ⟨q, _⟩ | ⟨g, cap, cur, q, _⟩
        · rw [q] at q2; simp [Value.ownBlock] at q2
        · rw [q] at q2
          simp [Value.ownBlock] at q2
          cases q
          rw [q2]
      have f2 : vo' = some ⟨b, 0, none⟩ := by
        rw [q2] at e
        rcases hown'.2 with ⟨q, _⟩ | ⟨g, cap, cur, q, _⟩
        · rw [q] at e; simp [Value.ownBlock] at e
        · rw [q] at e
          simp [Value.ownBlock] at e
          cases q
          rw [e]
      subst f1 f2
      have hsame := fun j (hj : j < n * 4) => own_same hown hown' hj
      refine ⟨fun y hy => ?_, fun b' e' => ?_⟩
      · obtain ⟨b2, g0, c0, c1, c2, c3⟩ := h1 y hy
        rw [q1] at g0
        cases g0
        exact ⟨b, q1, (hsame _ (by omega)).trans c0, (hsame _ (by omega)).trans c1, (hsame _ (by omega)).trans c2, (hsame _ (by omega)).trans c3⟩
      · rw [q1] at e'
        cases e'
        rcases hown'.2 with ⟨q, _⟩ | ⟨g, cap, cur, q, _, hg', _⟩
        · cases q
        · cases q; exact ⟨cur, hg'⟩
    · have hk : ∀ b cur, x.1 = some ⟨b, 0, none⟩ → wr.heap[b]? = some (.cells cur 29 (0, 0)) → w'.heap[b]? = wr.heap[b]? := fun b cur q1 q2 => kk.block b (lt_of_heap q2) fun q3 => q ⟨b, q1, q3⟩
      refine ⟨h1.stays fun b e' => ?_, fun b e' => ?_⟩
      · obtain ⟨cur, hc⟩ := h2 b e'
        exact hk b cur e' hc
      · obtain ⟨cur, hc⟩ := h2 b e'
        exact ⟨cur, (hk b cur e' hc).trans hc⟩
  · refine ⟨h.stays fun b cur q => hk.block b (lt_of_heap q) id, fun x hx b e1 e2 => ?_⟩
    obtain ⟨cur, hc⟩ := (h x hx).2 b e2
    have := e b e1
    have := lt_of_heap hc
    omega
/-- the grown row bears the mark throughout -/
theorem mark_app {wr w' : World} {a a' : Option Addr} {n i c c' : Nat} {xs : List Value} (hm : MarkRow wr a n i) (hown : wr.ownsRow 0 29 4 (.slice a n c) n xs) (hown' : w'.ownsRow 0 29 4 (.slice a' (n + 1) c') (n + 1) (xs ++ mkC i)) : MarkRow w' a' (n + 1) i ∧ ∃ b cur, a' = some ⟨b, 0, none⟩ ∧ w'.heap[b]? = some (.cells cur 29 (0, 0)) := by
  have hl := hown.1
  rcases hown'.2 with ⟨q, q2⟩ | ⟨g, cap, cur, q, _, hg, _⟩
  · omega
  cases q
  have cell : ∀ j u, (xs ++ mkC i)[j]? = some u → w'.cell? ⟨g, j, none⟩ = some u := fun j u hj => by
    have := hown'.cells (g := g) rfl j u hj
    rwa [add_at] at this
  refine ⟨fun e he => ?_, g, cur, rfl, hg⟩
  by_cases q : e = n
  · subst q
    refine ⟨g, rfl, cell _ _ ?_, cell _ _ ?_, cell _ _ ?_, cell _ _ ?_⟩ <;> rw [List.getElem?_append_right (by omega), hl] <;> simp [mkC]
  · obtain ⟨b, rfl, c0, c1, c2, c3⟩ := hm e (by omega)
    have old : ∀ j u, j < n * 4 → wr.cell? ⟨b, j, none⟩ = some u → w'.cell? ⟨g, j, none⟩ = some u := fun j u hj hu => by
      have hjx : j < xs.length := by omega
      have e1 := hown.cells (g := b) rfl j xs[j] (by simp [hjx])
      rw [add_at, hu] at e1
      refine cell j u ?_
      rw [List.getElem?_append_left hjx, List.getElem?_eq_getElem hjx]
      exact e1.symm
    exact ⟨g, rfl, old _ _ (by omega) c0, old _ _ (by omega) c1, old _ _ (by omega) c2, old _ _ (by omega) c3⟩
end Go.Proofs.YtcfdkadhclickaaDoor.Kit
namespace Go.Proofs.YtcfdkadhclickaaDoor.Kit
open Go.RowKit Go.Shelf Go.Deep
set_option linter.unusedVariables false

/-! ### Apart 16: the state of its second loop -/
def mkl (rs : List ZR) : List MK := rs.mapIdx fun j r => (r.1, r.2.1, j)
theorem mem_mkl {rs : List ZR} {x : MK} : x ∈ mkl rs ↔ ∃ j, ∃ h : j < rs.length, (rs[j].1, rs[j].2.1, j) = x := by unfold mkl; exact List.mem_mapIdx
theorem mkl_push (rs : List ZR) (r : ZR) : mkl (rs ++ [r]) = mkl rs ++ [(r.1, r.2.1, rs.length)] := by unfold mkl; exact List.mapIdx_concat
structure Ap7 (W wr : World) (K lo hi : Nat) (vo : Option Addr) (vc : Nat) (rs : List ZR) (i : Nat) (mo : Option Addr) (mc : Nat) (ms : List ZR) : Prop where
  len : ms.length = i
  box : wr.heap[K]? = some (.cells #[.slice vo rs.length vc, .slice mo i mc, .slice none 0 0, .slice none 0 0] 43 (0, 0))
  kp : Keeps W wr (fun z => lo ≤ z ∧ z < hi ∨ z = K)
  more : wr.ownsRow 0 27 1 (.slice mo i mc) i (ms.map ZR.val)
  mnew : ∀ g, (Value.slice mo i mc).ownBlock = some g → W.heap.size ≤ g
  rest : ∀ j (h : j < rs.length), i ≤ j → rs[j].own wr lo hi
  mks : Mks wr (mkl rs ++ mkl ms)
  mlen : ∀ m ∈ ms, m.2.1 ≤ 1000000000001
  at_ : ∀ m ∈ ms, ∀ b, m.1 = some ⟨b, 0, none⟩ → W.heap.size ≤ b ∨ ∃ j, j < i ∧ ∃ h : j < rs.length, rs[j].1 = some ⟨b, 0, none⟩
theorem Ap7.begin {W w1 : World} {K lo hi : Nat} {vo : Option Addr} {vc : Nat} {rs : List ZR} (hb : BkV W K vo vc rs none 0 0) (hK : hi ≤ K) (h : ApA W w1 lo hi rs rs.length 0) : Ap7 W w1 K lo hi vo vc rs 0 none 0 [] := by
  refine ⟨rfl, (h.kp.block K (lt_of_heap hb.box) (by omega)).trans hb.box, h.kp.mono fun _ _ q => .inl q, ⟨rfl, .inl ⟨rfl, rfl⟩⟩, fun g e => by simp [Value.ownBlock] at e, fun j hj _ => h.rows.own _ (List.getElem_mem hj), fun x hx => ?_, fun m hm => by simp at hm, fun m hm => by simp at hm⟩
  rcases List.mem_append.1 hx with hx | hx
  · obtain ⟨j, hj, rfl⟩ := mem_mkl.1 hx
    refine ⟨h.full j hj hj, fun b e => ?_⟩
    rcases h.rows.own _ (List.getElem_mem hj) with ⟨q, _⟩ | ⟨b', cur, q, _, _, hc, _⟩
    · simp only at e
      rw [q] at e; cases e
    · simp only at e
      rw [q] at e; cases e
      exact ⟨cur, hc⟩
  · simp [mkl] at hx
/-- what lies in values[i]'s block -/
theorem Ap7.safe {W wr : World} {K lo hi : Nat} {vo : Option Addr} {vc : Nat} {rs : List ZR} {i : Nat} {mo : Option Addr} {mc : Nat} {ms : List ZR} (h : Ap7 W wr K lo hi vo vc rs i mo mc ms) (hr : RowsIn W lo hi rs) (hh : hi ≤ W.heap.size) (hi' : i < rs.length) : Safe (mkl rs ++ mkl ms) (ZR.val rs[i]) rs[i].2.1 := by
  intro x hx b e1 e2
  have e1' : rs[i].1 = some ⟨b, 0, none⟩ := by
    rcases hr.own _ (List.getElem_mem hi') with ⟨q, _⟩ | ⟨b', cur, q, _⟩
    · simp [ZR.val, q, Value.ownBlock] at e1
    · simp [ZR.val, q, Value.ownBlock] at e1
      rw [q, e1]
  rcases List.mem_append.1 hx with hx | hx
  · obtain ⟨j, hj, rfl⟩ := mem_mkl.1 hx
    by_cases q : i = j
    · subst q; exact Nat.le_refl _
    · exact (hr.ne hi' hj q e1' e2).elim
  · obtain ⟨j, hj, rfl⟩ := mem_mkl.1 hx
    rcases h.at_ _ (List.getElem_mem hj) b e2 with q | ⟨j', hj', hl, q⟩
    · rcases hr.own _ (List.getElem_mem hi') with ⟨q', _⟩ | ⟨b', cur, q', _, g, _⟩
      · rw [q'] at e1'; cases e1'
      · rw [q'] at e1'; cases e1'
        omega
    · exact (hr.ne hi' hl (by omega) e1' q).elim
/-- the last of more grows beyond its length -/
theorem Ap7.grow {W wA w' : World} {K lo hi : Nat} {vo : Option Addr} {vc : Nat} {rs : List ZR} {i : Nat} {mo : Option Addr} {mc : Nat} {ms : List ZR} {m : ZR} (h : Ap7 W wA K lo hi vo vc rs (i + 1) mo mc (ms ++ [m])) (hr : RowsIn W lo hi rs) (hh : hi ≤ W.heap.size) (hm : ∃ b, m.1 = some ⟨b, 0, none⟩)
    (k : Keeps wA w' (fun z => m.val.ownBlock = some z)) (hk : Mks w' (mkl rs ++ mkl (ms ++ [m]))) : Ap7 W w' K lo hi vo vc rs (i + 1) mo mc (ms ++ [m]) := by
  obtain ⟨b, hb⟩ := hm
  have hob : m.val.ownBlock = some b := by simp [ZR.val, hb, Value.ownBlock]
  have hmem : m ∈ ms ++ [m] := by simp
  obtain ⟨cur, hc⟩ := (h.mks (m.1, m.2.1, ms.length) (List.mem_append.2 (.inr (by rw [mkl_push]; simp)))).2 b hb
  have hat := h.at_ m hmem b hb
  have st : ∀ z, z < wA.heap.size → z ≠ b → w'.heap[z]? = wA.heap[z]? := fun z hz hne => k.block z hz (by rw [hob]; simp; exact fun q => hne q.symm)
  have hKb : K ≠ b := fun q => by subst q; rw [h.box] at hc; simp at hc
  have hwA := h.kp.size
  refine ⟨h.len, (st K (lt_of_heap h.box) hKb).trans h.box, ?_, ?_, h.mnew, fun j hj hij => ?_, hk, h.mlen, h.at_⟩
  · refine h.kp.trans k (fun j hj e => ?_)
    rw [hob] at e
    cases e
    rcases hat with q | ⟨j', _, hl, q⟩
    · omega
    · rcases hr.own _ (List.getElem_mem hl) with ⟨q', _⟩ | ⟨b', cur', q', g1, g2, _⟩
      · rw [q'] at q; cases q
      · rw [q'] at q; cases q
        exact .inl ⟨g1, g2⟩
  · refine row_kp h.more fun g e => ?_
    rcases h.more.2 with ⟨q, _⟩ | ⟨g', cap, cur', q, _, hg, _⟩
    · rw [q] at e; simp [Value.ownBlock] at e
    · rw [q] at e
      simp [Value.ownBlock] at e
      subst e
      exact st _ (lt_of_heap hg) (fun q => by subst q; rw [hg] at hc; simp at hc)
  · rcases h.rest j hj hij with q | ⟨b', cur', q0, q1, q2, q3, q4⟩
    · exact .inl q
    · refine .inr ⟨b', cur', q0, q1, q2, (st b' (lt_of_heap q3) (fun q => ?_)).trans q3, q4⟩
      subst q
      rcases hat with q | ⟨j', hj', hl, q⟩
      · omega
      · exact hr.ne hj hl (by omega) q0 q
/-- values[i]'s block lies in the stretch -/
theorem own_in {W : World} {lo hi : Nat} {rs : List ZR} (hr : RowsIn W lo hi rs) {i : Nat} (hi' : i < rs.length) {z : Nat} (e : (ZR.val rs[i]).ownBlock = some z) : lo ≤ z ∧ z < hi ∧ rs[i].1 = some ⟨z, 0, none⟩ := by
  rcases hr.own _ (List.getElem_mem hi') with ⟨q, _⟩ | ⟨b', cur, q, g1, g2, _⟩
  · simp [ZR.val, q, Value.ownBlock] at e
  · simp [ZR.val, q, Value.ownBlock] at e
    subst e
    exact ⟨g1, g2, q⟩
theorem Ap7.mid {W wr w2 : World} {K lo hi : Nat} {vo : Option Addr} {vc : Nat} {rs : List ZR} {i : Nat} {mo : Option Addr} {mc : Nat} {ms : List ZR} (h : Ap7 W wr K lo hi vo vc rs i mo mc ms) (hr : RowsIn W lo hi rs) (hK : hi ≤ K) (hh : hi ≤ W.heap.size) (hi' : i < rs.length)
    (k2 : Keeps wr w2 (fun z => (ZR.val rs[i]).ownBlock = some z)) :
    w2.heap[K]? = some (.cells #[.slice vo rs.length vc, .slice mo i mc, .slice none 0 0, .slice none 0 0] 43 (0, 0)) ∧ w2.ownsRow 0 27 1 (.slice mo i mc) i (ms.map ZR.val) ∧ Keeps W w2 (fun z => lo ≤ z ∧ z < hi ∨ z = K) ∧ ∀ j (h : j < rs.length), i + 1 ≤ j → rs[j].own w2 lo hi := by
  refine ⟨(k2.block K (lt_of_heap h.box) (fun e => by have := own_in hr hi' e; omega)).trans h.box, row_kp h.more fun g e => ?_, h.kp.trans k2 fun z _ e => .inl (by have := own_in hr hi' e; omega), fun j hj hij => ?_⟩
  · have hg := h.mnew g e
    rcases h.more.2 with ⟨q, _⟩ | ⟨g', cap, cur', q, _, hg', _⟩
    · rw [q] at e; simp [Value.ownBlock] at e
    · rw [q] at e
      simp [Value.ownBlock] at e
      subst e
      exact k2.block _ (lt_of_heap hg') (fun e => by have := own_in hr hi' e; omega)
  · rcases h.rest j hj (by omega) with q | ⟨b', cur', q0, q1, q2, q3, q4⟩
    · exact .inl q
    · exact .inr ⟨b', cur', q0, q1, q2, (k2.block b' (lt_of_heap q3) (fun e => hr.ne hj hi' (by omega) q0 (own_in hr hi' e).2.2)).trans q3, q4⟩
/-- more grows by one row -/
theorem Ap7.push {W wr w2 w3 : World} {K lo hi : Nat} {vo : Option Addr} {vc : Nat} {rs : List ZR} {i : Nat} {mo : Option Addr} {mc : Nat} {ms : List ZR} {len c8 b8 : Nat} {v' : Value} {ob : Obj} (h : Ap7 W wr K lo hi vo vc rs i mo mc ms) (hr : RowsIn W lo hi rs) (hK : hi ≤ K) (hKW : K < W.heap.size) (hh : hi ≤ W.heap.size) (hlen : len ≤ 1000000000000) (hi' : i < rs.length)
    (k2 : Keeps wr w2 (fun z => (ZR.val rs[i]).ownBlock = some z)) (h8 : rs[i].1 = some ⟨b8, 0, none⟩ ∨ wr.heap.size ≤ b8) (mk2 : Mks w2 ((mkl rs ++ mkl ms) ++ [(some ⟨b8, 0, none⟩, len + 1, i)]))
    (own3 : w3.ownsRow 0 27 1 v' (i + 1) (ms.map ZR.val ++ [.slice (some ⟨b8, 0, none⟩) (len + 1) c8])) (hgr : (w2.alloc ob).grownBy w3 (Value.slice mo i mc).ownBlock) (hor : v'.ownBlock = (Value.slice mo i mc).ownBlock ∨ ∀ g, v'.ownBlock = some g → (w2.alloc ob).heap.size ≤ g) :
    ∃ mo' mc', v' = .slice mo' (i + 1) mc' ∧ w3.heap[K]? = some (.cells #[.slice vo rs.length vc, .slice mo i mc, .slice none 0 0, .slice none 0 0] 43 (0, 0)) ∧ Ap7 W (w3.setCell ⟨K, 1, none⟩ (.slice mo' (i + 1) mc')) K lo hi vo vc rs (i + 1) mo' mc' (ms ++ [(some ⟨b8, 0, none⟩, len + 1, c8)]) ∧ ∀ (b : Nat) (cur : Array Value), w2.heap[b]? = some (Obj.cells cur 29 (0, 0)) → (w3.setCell ⟨K, 1, none⟩ (.slice mo' (i + 1) mc')).heap[b]? = w2.heap[b]? := by
  obtain ⟨m1, m2, m3, m4⟩ := h.mid hr hK hh hi' k2
  obtain ⟨mo', mc', rfl⟩ := own_formN own3
  have k3 : Keeps w2 w3 (fun z => (Value.slice mo i mc).ownBlock = some z) := ((gr_alloc w2 ob).mono fun _ _ h => h.elim).trans (Keeps.ofGrown hgr) (fun _ _ h => h)
  have hb3 := (k3.block K (lt_of_heap m1) (fun e => by have := h.mnew K e; omega)).trans m1
  have s2 := m3.size
  have hnew : ∀ g, (Value.slice mo' (i + 1) mc').ownBlock = some g → W.heap.size ≤ g := fun g e => by
    rcases hor with q | q
    · exact h.mnew g (q ▸ e)
    · have := q g e
      simp at this
      omega
  have kA : Keeps w2 (w3.setCell ⟨K, 1, none⟩ (.slice mo' (i + 1) mc')) (fun z => z = K ∨ (Value.slice mo i mc).ownBlock = some z) := (k3.mono fun _ _ h => .inr h).setCell (p := ⟨K, 1, none⟩) (fun _ => .inl rfl) _
  have st : ∀ (b : Nat) (cur : Array Value), w2.heap[b]? = some (Obj.cells cur 29 (0, 0)) → (w3.setCell ⟨K, 1, none⟩ (.slice mo' (i + 1) mc')).heap[b]? = w2.heap[b]? := fun b cur hc => kA.block b (lt_of_heap hc) (fun e => by
    rcases e with e | e
    · subst e; rw [m1] at hc; simp at hc
    · rcases m2.2 with ⟨q, _⟩ | ⟨g', cap, cur', q, _, hg', _⟩
      · rw [q] at e; simp [Value.ownBlock] at e
      · rw [q] at e
        simp [Value.ownBlock] at e
        subst e
        rw [hg'] at hc
        simp at hc)
  refine ⟨mo', mc', rfl, hb3, ⟨by simp [h.len], ?_, ?_, ?_, hnew, fun j hj hij => ?_, ?_, fun m hm => ?_, fun m hm b e => ?_⟩, st⟩
  · rw [heap_setCell_same w3 K 1 _ _ _ hb3]
    simp
  · refine m3.trans kA (fun z hz e => ?_)
    rcases e with e | e
    · exact .inr e
    · have := h.mnew z e; omega
  · have hx : w3.ownsRow 0 27 1 (.slice mo' (i + 1) mc') (i + 1) ((ms ++ [((some ⟨b8, 0, none⟩, len + 1, c8) : ZR)]).map ZR.val) := by simpa [ZR.val] using own3
    exact row_kp hx fun g e => heap_setCell_other w3 _ g _ (by have := hnew g e; show g ≠ K; omega)
  · refine (m4 j hj hij).kept fun b g1 g2 => kA.block b (by omega) (fun e => ?_)
    rcases e with e | e
    · omega
    · have := h.mnew b e; omega
  · have e : mkl rs ++ mkl (ms ++ [((some ⟨b8, 0, none⟩, len + 1, c8) : ZR)]) = (mkl rs ++ mkl ms) ++ [(some ⟨b8, 0, none⟩, len + 1, i)] := by rw [mkl_push, List.append_assoc, h.len]
    rw [e]
    exact mk2.stays st
  · rcases List.mem_append.1 hm with hm | hm
    · exact h.mlen m hm
    · obtain rfl := List.mem_singleton.1 hm
      show len + 1 ≤ _
      omega
  · rcases List.mem_append.1 hm with hm | hm
    · rcases h.at_ m hm b e with q | ⟨j, hj, r⟩
      · exact .inl q
      · exact .inr ⟨j, by omega, r⟩
    · simp at hm
      subst hm
      cases e
      rcases h8 with q | q
      · exact .inr ⟨i, by omega, hi', q⟩
      · have := h.kp.size
        exact .inl (by omega)
/-- the six appends: what grows is the new row -/
structure Ap9 (wA wr : World) (Ms : List MK) (b8 len k : Nat) (p : Value) : Prop where
  own : ∃ xs, wr.ownsRow 0 29 4 p (len + k) xs
  kp : Keeps wA wr (fun z => z = b8)
  or_ : ∀ g, p.ownBlock = some g → g = b8 ∨ wA.heap.size ≤ g
  mks : Mks wr Ms
  safe : Safe Ms p (len + k)
theorem Ap9.next {wA wr w' : World} {Ms : List MK} {b8 len k i : Nat} {p p' : Value} {ob : Obj} {xs : List Value} (h : Ap9 wA wr Ms b8 len k p) (hx : wr.ownsRow 0 29 4 p (len + k) xs) (hown' : w'.ownsRow 0 29 4 p' (len + k + 1) (xs ++ mkC i))
    (alt : (p'.ownBlock = p.ownBlock ∧ (wr.alloc ob).grownBy w' p.ownBlock) ∨ ((∀ g, p'.ownBlock = some g → (wr.alloc ob).heap.size ≤ g) ∧ Keeps (wr.alloc ob) w' (fun _ => False))) : Ap9 wA w' Ms b8 len (k + 1) p' := by
  have g0 := gr_alloc wr ob
  have hx0 : (wr.alloc ob).ownsRow 0 29 4 p (len + k) xs := row_kp hx fun g e => by
    rcases hx.2 with ⟨q, _⟩ | ⟨g', cap, cur', q, _, hg', _⟩
    · rw [q] at e; simp [Value.ownBlock] at e
    · rw [q] at e
      simp [Value.ownBlock] at e
      subst e
      exact g0.block _ (lt_of_heap hg') id
  obtain ⟨a1, a2⟩ := (h.mks.gr g0).app h.safe hx0 hown' alt
  have s0 := h.kp.size
  refine ⟨⟨_, hown'⟩, ?_, fun g e => ?_, a1, a2⟩
  · have kk : Keeps wA (wr.alloc ob) (fun z => z = b8) := h.kp.trans g0 (fun _ _ q => q.elim)
    rcases alt with ⟨_, hg⟩ | ⟨_, hk⟩
    · exact kk.trans (Keeps.ofGrown hg) fun z hz e => by have := h.or_ z e; omega
    · exact kk.trans hk fun _ _ q => q.elim
  · rcases alt with ⟨q, _⟩ | ⟨q, _⟩
    · exact h.or_ g (q ▸ e)
    · have := q g e
      simp at this
      exact .inr (by omega)
/-- values[i] grows by a mark -/
theorem Ap7.first {W wr w2 : World} {K lo hi : Nat} {vo : Option Addr} {vc : Nat} {rs : List ZR} {i : Nat} {mo : Option Addr} {mc : Nat} {ms : List ZR} {v8 : Value} {ob : Obj} {xs : List Value} (h : Ap7 W wr K lo hi vo vc rs i mo mc ms) (hr : RowsIn W lo hi rs) (hh : hi ≤ W.heap.size) (hi' : i < rs.length)
    (hx : wr.ownsRow 0 29 4 (ZR.val rs[i]) rs[i].2.1 xs) (own8 : w2.ownsRow 0 29 4 v8 (rs[i].2.1 + 1) (xs ++ mkC i))
    (alt : (v8.ownBlock = (ZR.val rs[i]).ownBlock ∧ (wr.alloc ob).grownBy w2 (ZR.val rs[i]).ownBlock) ∨ ((∀ g, v8.ownBlock = some g → (wr.alloc ob).heap.size ≤ g) ∧ Keeps (wr.alloc ob) w2 (fun _ => False))) :
    ∃ b8 c8, v8 = .slice (some ⟨b8, 0, none⟩) (rs[i].2.1 + 1) c8 ∧ Keeps wr w2 (fun z => (ZR.val rs[i]).ownBlock = some z) ∧ (rs[i].1 = some ⟨b8, 0, none⟩ ∨ wr.heap.size ≤ b8) ∧ Mks w2 ((mkl rs ++ mkl ms) ++ [(some ⟨b8, 0, none⟩, rs[i].2.1 + 1, i)]) ∧ Safe ((mkl rs ++ mkl ms) ++ [(some ⟨b8, 0, none⟩, rs[i].2.1 + 1, i)]) v8 (rs[i].2.1 + 1) := by
  have g0 := gr_alloc wr ob
  have hx0 : (wr.alloc ob).ownsRow 0 29 4 (ZR.val rs[i]) rs[i].2.1 xs := row_kp hx fun g e => Below.heap_alloc wr _ g (own_lt hx g e)
  have hsafe := h.safe hr hh hi'
  have mk0 := h.mks.gr g0
  obtain ⟨mk2, sf2⟩ := mk0.app hsafe hx0 own8 alt
  have hmr := (mk0 (rs[i].1, rs[i].2.1, i) (List.mem_append.2 (.inl (mem_mkl.2 ⟨i, hi', rfl⟩)))).1
  obtain ⟨a8, c8, rfl⟩ := own_formN own8
  obtain ⟨hm8, b8, cur8, rfl, hb8⟩ := mark_app hmr hx0 own8
  refine ⟨b8, c8, rfl, ?_, ?_, fun x hx => ?_, fun x hx b e1 e2 => ?_⟩
  · rcases alt with ⟨_, hg⟩ | ⟨_, hk⟩
    · exact (g0.mono fun _ _ q => q.elim).trans (Keeps.ofGrown hg) fun _ _ q => q
    · exact (g0.mono fun _ _ q => q.elim).trans hk fun _ _ q => q.elim
  · rcases alt with ⟨q, _⟩ | ⟨q, _⟩
    · exact .inl (own_in hr hi' (q.symm.trans rfl)).2.2
    · have := q b8 rfl
      simp at this
      exact .inr (by omega)
  · rcases List.mem_append.1 hx with hx | hx
    · exact mk2 x hx
    · obtain rfl := List.mem_singleton.1 hx
      exact ⟨hm8, fun b e => by cases e; exact ⟨cur8, hb8⟩⟩
  · rcases List.mem_append.1 hx with hx | hx
    · exact sf2 x hx b e1 e2
    · obtain rfl := List.mem_singleton.1 hx
      exact Nat.le_refl _
/-- where loop t9 begins -/
theorem Ap9.begin {wA : World} {Ms : List MK} {b8 len c8 : Nat} {xs : List Value} (hx : wA.ownsRow 0 29 4 (.slice (some ⟨b8, 0, none⟩) len c8) len xs) (hm : Mks wA Ms) (hs : Safe Ms (.slice (some ⟨b8, 0, none⟩) len c8) len) : Ap9 wA wA Ms b8 len 0 (.slice (some ⟨b8, 0, none⟩) len c8) :=
  ⟨⟨xs, hx⟩, Keeps.refl _ _, fun g e => by simp [Value.ownBlock] at e; exact .inl e.symm, hm, hs⟩
/-- where more's list j lies -/
theorem Ap7.at2 {W wr : World} {K lo hi : Nat} {vo : Option Addr} {vc : Nat} {rs : List ZR} {i : Nat} {mo : Option Addr} {mc : Nat} {ms : List ZR} (h : Ap7 W wr K lo hi vo vc rs i mo mc ms) {j : Nat} (hj : j < ms.length) : ∃ mb, mo = some ⟨mb, 0, none⟩ ∧ wr.cell? ⟨mb, j, none⟩ = some (.slice ms[j].1 ms[j].2.1 ms[j].2.2) := by
  have hl := h.len
  rcases h.more.2 with ⟨e, e2⟩ | ⟨g, cap, cur, e, _, hg, _⟩
  · omega
  · have hc := h.more.cells (g := g) (by rw [e]; rfl) j (ZR.val ms[j]) (by simp [hj])
    rw [add_at] at hc
    cases e
    exact ⟨g, rfl, hc⟩
end Go.Proofs.YtcfdkadhclickaaDoor.Kit
