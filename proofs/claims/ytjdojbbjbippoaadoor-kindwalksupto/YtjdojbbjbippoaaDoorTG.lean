import Derived.Test.YtjdojbbjbippoaaDoorTF
namespace Go.Proofs.YtjdojbbjbippoaaDoor.Kit
open Go.RowKit Go.Shelf Go.Deep
set_option linter.unusedVariables false
attribute [local go_sem] run_store_func

/-! ### append onto a row of one's own; the row as it was is still there -/
section
variable {P : Program} (w : World)
theorem run_append_oldN (t tx ty e : TypeId) (i : TypeInfo) (z : Value) (bytes : Nat) (ht : P.underlying t = some (.slice e)) (hi : P.info? e = some i) (hz : i.zero = some z) (size : Nat) (hsize : i.size = size) (hby : i.bytes = bytes) (hzs : z.cells.size = size)
    (v : Value) (n : Nat) (xs : List Value) (hown : w.ownsRow 0 e size v n xs) (x : Value) (m : Nat) (hm : 0 < m) (news : List Value) (hs : Src P size tx x m news w)
    (h63 : n + m ≤ 9223372036854775807) (hbytes : (n + m) * bytes ≤ 140737488355328) :
    ∃ v' w', (Builtin.append_ #[t, tx] ty #[v, x]).run P w = .ok v' w' ∧ w'.ownsRow 0 e size v' (n + m) (xs ++ news) ∧ w'.ownsRow 0 e size v n xs ∧
      ((v'.ownBlock = v.ownBlock ∧ w.grownBy w' v.ownBlock) ∨ ((∀ g, v'.ownBlock = some g → w.heap.size ≤ g) ∧ Keeps w w' (fun _ => False))) := by
  subst hby
  have hlen : (xs ++ news).length = (n + m) * size := by rw [List.length_append, hown.1, hs.newsLen, Nat.add_mul]
  have grown : ∀ (old : Nat), old < n + m →
      (w.drew.alloc (.cells ((xs ++ news).toArray ++ Builtin.zeroCells z.cells (grownCap w (n + m) old e - (n + m))) e)).ownsRow 0 e size
        (.slice (some ⟨w.heap.size, 0, none⟩) (n + m) (grownCap w (n + m) old e)) (n + m) (xs ++ news) ∧
      Keeps w (w.drew.alloc (.cells ((xs ++ news).toArray ++ Builtin.zeroCells z.cells (grownCap w (n + m) old e - (n + m))) e)) (fun _ => False) := by
    intro old ho
    have hge := grownCap_ge w (n + m) old e
    have hcm : grownCap w (n + m) old e ≤ maxLen := grownCap_le_maxLen w (n + m) old e h63
    refine ⟨⟨hlen, .inr ⟨w.heap.size, _, _, rfl, Nat.zero_le _, heap_alloc_new w.drew _, hge, hcm, ?_, ?_⟩⟩, ⟨rfl, rfl, rfl, by simp, fun k hk _ => Below.heap_alloc w.drew _ k hk⟩⟩
    · simp only [Array.size_append, List.size_toArray, size_zeroCells, hzs, hlen, ← Nat.add_mul]
      congr 1
      omega
    · simp only [Array.toList_append]
      rw [← hlen]
      exact List.take_left
  rcases hown.2 with ⟨rfl, rfl⟩ | ⟨g, cap, cur, rfl, hbg, hg, hnc, hcm, hcs, htake⟩
  · have hx : xs = [] := List.eq_nil_of_length_eq_zero (by simpa using hown.1)
    subst hx
    have hr := run_append_grow_src (P := P) w t tx ty e i z ht hi hz none 0 0 [] (by simpa using run_firstCells_none w.drew i.size 0 0 0) x m news (by rw [hsize]; exact hs) (by omega) (by omega) (growslice_fits (by omega) hbytes)
    have hgr := grown 0 (by omega)
    exact ⟨_, _, hr, hgr.1, World.ownsRow_nil _ 0 e size, .inr ⟨fun g hg => by simp [Value.ownBlock] at hg; omega, hgr.2⟩⟩
  · by_cases hroom : n + m ≤ cap
    · have hl := hs.newsLen
      have hfit : n * i.size + news.length ≤ cur.size := by rw [hl, hcs, hsize, ← Nat.add_mul]; exact Nat.mul_le_mul_right _ hroom
      have hr := run_append_room_row (P := P) w t tx ty e i ht hi g n cap cur hg x m news (by rw [hsize]; exact hs) hroom hfit
      rw [hsize] at hr hfit
      refine ⟨_, _, hr, ⟨hlen, .inr ⟨g, cap, _, rfl, hbg, setRow_heap w g cur _ e _ hg, hroom, hcm, ?_, ?_⟩⟩, ⟨hown.1, .inr ⟨g, cap, _, rfl, hbg, setRow_heap w g cur _ e _ hg, hnc, hcm, ?_, ?_⟩⟩, .inl ⟨rfl, ⟨rfl, rfl, rfl, by simp, fun k _ hk => setRow_other w g k _ (fun e => hk (by simp [Value.ownBlock, e]))⟩⟩⟩
      · simp only [List.size_toArray, List.length_append, List.length_take, List.length_drop, Array.length_toList]
        omega
      · rw [htake, ← hlen]
        exact List.take_left
      · simp only [List.size_toArray, List.length_append, List.length_take, List.length_drop, Array.length_toList]
        omega
      · rw [htake, ← hown.1, List.append_assoc]
        exact List.take_left
    · have holds : ∀ j u, xs[j]? = some u → w.cell? ((⟨g, 0, none⟩ : Addr).add j) = some u := hown.cells (g := g) rfl
      have hr := run_append_grow_src (P := P) w t tx ty e i z ht hi hz (some ⟨g, 0, none⟩) n cap xs (run_firstCells_some w.drew i.size n ⟨g, 0, none⟩ n cap xs (by rw [hsize]; exact hown.1) (by simpa using holds)) x m news (by rw [hsize]; exact hs) (by omega) (by omega) (growslice_fits (by omega) hbytes)
      have hgr := grown cap (by omega)
      exact ⟨_, _, hr, hgr.1, row_kp hown fun g' e' => hgr.2.block g' (own_lt hown g' e') id, .inr ⟨fun g' hg' => by simp [Value.ownBlock] at hg'; omega, hgr.2⟩⟩
theorem wpList_append_oldN {ops : Array Oper} {rest : List Oper} {o : Oper} {a : Act} {Q : Exit → Act → World → Prop} (hgd : o.guard = none) (s x : Operand) (t tx : TypeId)
    (ho : o.op = .call { callee := .builtin .append, args := #[s, x], argTypes := #[t, tx] })
    (e : TypeId) (z : Value) (size bytes : Nat) (ht : P.underlying t = some (.slice e)) (hinfo : (P.info? e).map (fun i => (i.zero, i.size, i.bytes)) = some (some z, size, bytes)) (hzs : z.cells.size = size)
    (v : Value) (n : Nat) (xs : List Value) (hv : a.eval s = v) (hown : w.ownsRow 0 e size v n xs) (y : Value) (m : Nat) (hm : 0 < m) (news : List Value) (hx : a.eval x = y) (hs : Src P size tx y m news w)
    (h63 : n + m ≤ 9223372036854775807) (hbytes : (n + m) * bytes ≤ 140737488355328)
    (h : ∀ v' w', w'.ownsRow 0 e size v' (n + m) (xs ++ news) → w'.ownsRow 0 e size v n xs → ((v'.ownBlock = v.ownBlock ∧ w.grownBy w' v.ownBlock) ∨ ((∀ g, v'.ownBlock = some g → w.heap.size ≤ g) ∧ Keeps w w' (fun _ => False))) → wpList P ops Q rest (a.put o.dst v') w') :
    wpList P ops Q (o :: rest) a w := by
  refine wpList_plain hgd fun K hK' => ?_
  obtain ⟨i, hi, hzz⟩ := Option.map_eq_some_iff.1 hinfo
  simp only [Prod.mk.injEq] at hzz
  obtain ⟨hz, hsz, hb⟩ := hzz
  obtain ⟨v', w', hr, h2, h3, h4⟩ := run_append_oldN (P := P) w t tx o.type e i z bytes ht hi hz size hsz hb hzs v n xs hown y m hm news hs h63 hbytes
  unfold Oper.wp
  simp [execOp, ho, resolve, invoke, builtin, hv, hx, hr, Result.andThen]
  exact hK' _ _ (h v' w' h2 h3 h4)
end
theorem own_old {wr W' : World} {t s n k : Nat} {v v0 : Value} {xs ys : List Value} (h : wr.ownsRow 0 t s v (n + k) (xs ++ ys)) (h0 : wr.ownsRow 0 t s v0 n xs) (hb : v.ownBlock = v0.ownBlock) (h' : W'.ownsRow 0 t s v (n + k) (xs ++ ys)) : W'.ownsRow 0 t s v0 n xs := by
  refine ⟨h0.1, ?_⟩
  rcases h0.2 with ⟨rfl, rfl⟩ | ⟨g0, c0, cur0, rfl, h1, h2, h3, h4, h5, h6⟩
  · exact .inl ⟨rfl, rfl⟩
  · rcases h.2 with ⟨rfl, e⟩ | ⟨g, c, cur, rfl, k1, k2, k3, k4, k5, k6⟩
    · simp [Value.ownBlock] at hb
    · simp [Value.ownBlock] at hb
      subst hb
      rw [h2] at k2
      cases k2
      rcases h'.2 with ⟨e, _⟩ | ⟨g', c', cur', e, j1, j2, j3, j4, j5, j6⟩
      · cases e
      · cases e
        refine .inr ⟨g, c0, cur', rfl, h1, j2, h3, h4, by omega, ?_⟩
        have e1 : (cur'.toList.take ((n + k) * s)).take (n * s) = cur'.toList.take (n * s) := by
          rw [List.take_take, Nat.min_eq_left (Nat.mul_le_mul_right _ (by omega))]
        rw [← e1, j6, ← h0.1, List.take_left]
structure GwA (W wr : World) (v0 : Value) (t s n : Nat) (xs : List Value) (v : Value) (k : Nat) : Prop where
  kp : Keeps W wr (fun z => v0.ownBlock = some z)
  own : ∃ ys, wr.ownsRow 0 t s v (n + k) (xs ++ ys)
  blk : v.ownBlock = v0.ownBlock ∨ ∀ g, v.ownBlock = some g → W.heap.size ≤ g
  old : wr.ownsRow 0 t s v0 n xs
theorem GwA.begin {W : World} {v0 : Value} {t s n : Nat} {xs : List Value} (h : W.ownsRow 0 t s v0 n xs) : GwA W W v0 t s n xs v0 0 := ⟨Keeps.refl _ _, ⟨[], by simpa using h⟩, .inl rfl, h⟩
theorem GwA.next {W wr w' : World} {v0 v v' : Value} {t s n k : Nat} {xs ys news : List Value} (h : GwA W wr v0 t s n xs v k) (hW : W.ownsRow 0 t s v0 n xs) (h1 : wr.ownsRow 0 t s v (n + k) (xs ++ ys)) (h2 : w'.ownsRow 0 t s v' (n + k + 1) (xs ++ ys ++ news)) (h3 : w'.ownsRow 0 t s v (n + k) (xs ++ ys))
    (h4 : (v'.ownBlock = v.ownBlock ∧ wr.grownBy w' v.ownBlock) ∨ ((∀ g, v'.ownBlock = some g → wr.heap.size ≤ g) ∧ Keeps wr w' (fun _ => False))) : GwA W w' v0 t s n xs v' (k + 1) := by
  have hn : ∃ ys', w'.ownsRow 0 t s v' (n + (k + 1)) (xs ++ ys') := ⟨ys ++ news, by rw [← List.append_assoc]; exact h2⟩
  have hlt : ∀ g, v0.ownBlock = some g → g < W.heap.size := fun g e => own_lt hW g e
  rcases h4 with ⟨e, hg⟩ | ⟨hnew, hk⟩
  · have kg := Keeps.ofGrown hg
    rcases h.blk with hb | hb
    · exact ⟨h.kp.trans kg (fun j hj e => by rw [← hb]; exact e), hn, .inl (e.trans hb), own_old h1 h.old hb h3⟩
    · refine ⟨h.kp.trans kg (fun j hj e' => by have := hb j e'; omega), hn, .inr fun g eg => hb g (e ▸ eg), row_kp h.old fun g eg => kg.block g (own_lt h.old g eg) fun e' => by have := hb g e'; have := hlt g eg; omega⟩
  · exact ⟨h.kp.trans hk (fun j hj e => e.elim), hn, .inr fun g eg => Nat.le_trans h.kp.size (hnew g eg), row_kp h.old fun g eg => hk.block g (own_lt h.old g eg) id⟩

/-! ### Grow 29: fields are put behind each list; the lists themselves stay -/
def GwQ (W : World) (d lo hi : Nat) (ao : Option Addr) (ca : Nat) (l : List FT) (e : Ending) (w' : World) : Prop :=
  e = .returned (.tuple #[]) ∧ Keeps W w' (fun z => lo ≤ z ∧ z < hi) ∧ Tr w' d lo hi ao ca l
/-- the list's own block has the same first cells -/
theorem Tr.regrown {W W' : World} {d lo hi : Nat} {ao : Option Addr} {ca : Nat} {l : List FT} {xs : List Value} (h : Tr W d lo hi ao ca l) (ho : W.ownsRow 0 38 7 (.slice ao l.length ca) l.length xs) (ho' : W'.ownsRow 0 38 7 (.slice ao l.length ca) l.length xs) (k : Keeps W W' (fun z => (Value.slice ao l.length ca).ownBlock = some z)) (hhi : hi ≤ W.heap.size) : Tr W' d lo hi ao ca l := by
  cases d with
  | zero => exact h
  | succ d =>
    refine ⟨h.1, h.2.imp id ?_⟩
    rintro ⟨g, cur, A, rfl, h1, h2, h3, h4, h5, h6, h7, h8⟩
    rcases ho'.2 with ⟨e, _⟩ | ⟨g', c', cur', e, j1, j2, j3, j4, j5, j6⟩
    · cases e
    cases e
    have hA : ∀ i, i < l.length → A i ≤ A (i + 1) := fun i hi => (h8 i hi).1
    have hc : ∀ (w : World), w.ownsRow 0 38 7 (.slice (some ⟨g, 0, none⟩) l.length ca) l.length xs → ∀ j, j < l.length * 7 → w.cell? ⟨g, j, none⟩ = xs[j]? := fun w hw j hj => by
      have hlx : j < xs.length := by rw [hw.1]; exact hj
      have := hw.cells (g := g) rfl j xs[j] (by rw [List.getElem?_eq_getElem])
      simp only [Addr.add_lit, Nat.zero_add] at this
      rw [this, List.getElem?_eq_getElem]
    have ec : ∀ j, j < l.length * 7 → W'.cell? ⟨g, j, none⟩ = W.cell? ⟨g, j, none⟩ := fun j hj => (hc W' ho' j hj).trans (hc W ho j hj).symm
    refine ⟨g, cur', A, rfl, h1, h2, h3, j2, j5, h6, h7, fun i hi => ⟨hA i hi, ?_⟩⟩
    obtain ⟨_, ao', ca', hcc, ht⟩ := h8 i hi
    have c1 := chain_le hA (Nat.zero_le i) (Nat.le_of_lt hi)
    have c2 := chain_le hA (show i + 1 ≤ l.length from hi) (Nat.le_refl _)
    refine ⟨ao', ca', ⟨(ec _ (by omega)).trans hcc.c0, (ec _ (by omega)).trans hcc.c1, (ec _ (by omega)).trans hcc.c2, (ec _ (by omega)).trans hcc.c3, (ec _ (by omega)).trans hcc.c4, (ec _ (by omega)).trans hcc.c5, (ec _ (by omega)).trans hcc.c6⟩, ht.kept fun b b1 b2 => k.block b (by omega) ?_⟩
    simp [Value.ownBlock]
    omega
theorem src_fld (w : World) (G : Nat) (hG : w.heap.size = G) (m : ByteArray) :
    Src Tryd.prog 7 22 (.slice (some ⟨G, 0, none⟩) 1 1) 1 [.string m, .bool false, .int .i64 0, .int .i64 0, .int .i64 0, .int .i64 0, .slice none 0 0] (w.alloc (.cells #[.string m, .bool false, .int .i64 0, .int .i64 0, .int .i64 0, .int .i64 0, .slice none 0 0] 38)) := by
  subst hG
  refine Src.ofSlice _ Tryd.underlying22 _ _ _ _ rfl ?_ (by simp [Value.oneCell'])
  intro k v hk
  match k, hk with
  | 0, hk => simp at hk; subst hk; simp [Addr.add]
  | 1, hk => simp at hk; subst hk; simp [Addr.add]
  | 2, hk => simp at hk; subst hk; simp [Addr.add]
  | 3, hk => simp at hk; subst hk; simp [Addr.add]
  | 4, hk => simp at hk; subst hk; simp [Addr.add]
  | 5, hk => simp at hk; subst hk; simp [Addr.add]
  | 6, hk => simp at hk; subst hk; simp [Addr.add]
  | k + 7, hk => simp at hk
theorem GwA.gr {W wr w2 : World} {v0 v : Value} {t s n k : Nat} {xs : List Value} (h : GwA W wr v0 t s n xs v k) (g : Gr wr w2) : GwA W w2 v0 t s n xs v k :=
  ⟨h.kp.trans g (fun _ _ e => e.elim), h.own.imp fun ys ho => row_kp ho fun b e => g.block b (own_lt ho b e) id, h.blk, row_kp h.old fun b e => g.block b (own_lt h.old b e) id⟩
theorem Tr.kid {W W' : World} {d lo hi g ca k : Nat} {cur : Array Value} {A : Nat → Nat} {l : List FT} (hlen : l.length ≤ big) (h1 : lo ≤ g) (h2 : g < A 0) (h3 : A l.length ≤ hi) (h4 : W.heap[g]? = some (.cells cur 38 (0, 0))) (h5 : cur.size = ca * 7) (h6 : l.length ≤ ca) (h7 : ca ≤ maxLen)
    (h8 : ∀ i (h : i < l.length), A i ≤ A (i + 1) ∧ ∃ ao' ca', CellsAt W g (i * 7) l[i] ao' ca' ∧ Tr W d (A i) (A (i + 1)) ao' ca' l[i].kids) (hk : k < l.length) (hhi : hi ≤ W.heap.size) {ao' : Option Addr} {ca' : Nat} (hc : CellsAt W g (k * 7) l[k] ao' ca')
    (kq : Keeps W W' (fun z => A k ≤ z ∧ z < A (k + 1))) (ht : Tr W' d (A k) (A (k + 1)) ao' ca' l[k].kids) : Tr W' (d + 1) lo hi (some ⟨g, 0, none⟩) ca l := by
  have hA : ∀ i, i < l.length → A i ≤ A (i + 1) := fun i hi => (h8 i hi).1
  have c0 := chain_le hA (Nat.zero_le k) (Nat.le_of_lt hk)
  have eg : W'.heap[g]? = W.heap[g]? := kq.block g (lt_of_heap h4) (by omega)
  refine ⟨hlen, .inr ⟨g, cur, A, rfl, h1, h2, h3, eg.trans h4, h5, h6, h7, fun i hi => ⟨hA i hi, ?_⟩⟩⟩
  by_cases e : i = k
  · subst e
    exact ⟨ao', ca', hc.kept eg, ht⟩
  · obtain ⟨_, ao2, ca2, hc2, ht2⟩ := h8 i hi
    have d0 := chain_le hA (Nat.zero_le i) (Nat.le_of_lt hi)
    have d1 := chain_le hA (show i + 1 ≤ l.length from hi) (Nat.le_refl _)
    refine ⟨ao2, ca2, hc2.kept eg, ht2.kept fun c b1 b2 => kq.block c (by omega) ?_⟩
    rintro ⟨e1, e2⟩
    by_cases e : i < k
    · have := chain_le hA (show i + 1 ≤ k from e) (Nat.le_of_lt hk); omega
    · have := chain_le hA (show k + 1 ≤ i by omega) (Nat.le_of_lt hi); omega
set_option maxRecDepth 100000 in
set_option maxHeartbeats 4000000 in
theorem grow_step (d : Nat) (m : ByteArray) (W : World) (lo hi : Nat) (ao : Option Addr) (ca : Nat) (l : List FT) (ht : Tr W d lo hi ao ca l) (hhi : hi ≤ W.heap.size)
    (h29 : ∀ d', d = d' + 1 → ∀ (W : World) (lo hi : Nat) (ao : Option Addr) (ca : Nat) (l : List FT), Tr W d' lo hi ao ca l → hi ≤ W.heap.size → Calls Tryd.prog 29 #[.slice ao l.length ca, .string m] W (GwQ W d' lo hi ao ca l)) : Calls Tryd.prog 29 #[.slice ao l.length ca, .string m] W (GwQ W d lo hi ao ca l) := by
  have H29 := hidM h29
  have HT0 := hidM ht
  have HH := hidM hhi
  have hlen : l.length ≤ 1000000000000 := ht.len
  have hnc := ht.le
  obtain ⟨n, hn⟩ : ∃ n, n = l.length := ⟨_, rfl⟩
  rw [← hn] at hlen hnc ⊢
  have HN := hidM hn
  clear h29 ht hhi hn
  go_enter Tryd.func29, Tryd.ntmps29
  go_wp2
  go_loopw [9] (fun p wr => ∃ k : Nat, k ≤ n ∧ p = .int .i64 (k : Int) ∧ Hid (Keeps W wr (fun z => lo ≤ z ∧ z < hi) ∧ Tr wr d lo hi ao ca l)) (fun p _ => n - (intOf p).toNat)
  case atStart => exact ⟨0, by omega, rfl, Keeps.refl _ _, HT0.out⟩
  case round =>
    obtain ⟨k, hk, rfl, HK⟩ := hrel
    by_cases hlt : k < n
    · have hkl : k < l.length := by have := HN.out; omega
      have HHr : Hid (hi ≤ wr.heap.size) := by have := HH.out; have := HK.out.1.size; show _ ≤ _; omega
      obtain ⟨d', rfl⟩ : ∃ d', d = d' + 1 := by
        cases d with
        | zero => have h := HK.out.2.1; subst h; simp at hkl
        | succ d => exact ⟨d, rfl⟩
      rcases HK.out.2.2 with ⟨rfl, _⟩ | ⟨g, cur, A, rfl, h1, h2, h3, h4, h5, h6, h7, h8⟩
      · simp at hkl
      obtain ⟨_, ao', ca', hc, hT⟩ := h8 k hkl
      have hPk : A (k + 1) ≤ wr.heap.size := by have := chain_le (fun i hi => (h8 i hi).1) (show k + 1 ≤ l.length from hkl) (Nat.le_refl _); have := HHr.out; omega
      have HCall := hidM (H29.out d' rfl wr (A k) (A (k + 1)) ao' ca' l[k].kids hT hPk)
      have c6 := hc.c6
      have HNx : Hid (∀ V1, Keeps wr V1 (fun z => A k ≤ z ∧ z < A (k + 1)) → Tr V1 d' (A k) (A (k + 1)) ao' ca' l[k].kids → Keeps W V1 (fun z => lo ≤ z ∧ z < hi) ∧ Tr V1 (d' + 1) lo hi (some ⟨g, 0, none⟩) ca l) := fun V1 kq ht =>
        ⟨HK.out.1.trans kq (fun j hj e => by have e1 := chain_le (fun i hi => (h8 i hi).1) (show k + 1 ≤ l.length from hkl) (Nat.le_refl _); have e2 := chain_le (fun i hi => (h8 i hi).1) (Nat.zero_le k) (Nat.le_of_lt hkl); omega), Tr.kid HK.out.2.1 h1 h2 h3 h4 h5 h6 h7 h8 hkl HHr.out hc kq ht⟩
      obtain ⟨q, hq⟩ : ∃ q, q = (l[k]'hkl).kids.length := ⟨_, rfl⟩
      rw [← hq] at c6 HCall
      have hltI : (k : Int) < (n : Int) := by omega
      clear h1 h2 h3 h4 h5 h6 h7 h8 hc hT hPk hq
      go_wp2_with (go_at_call 29; refine Hid.out ?_)
      unfold Hid
      refine Calls.mono HCall.out ?_
      rintro e V1 ⟨rfl, hkq, hT'⟩
      have HI2 := hidM (HNx.out V1 hkq hT')
      clear hkq hT' c6
      go_wp2_with fail
      exact ⟨⟨k + 1, by omega, by simp, HI2.out⟩, by simp [intOf]; omega⟩
    · have hkn : k = n := by omega
      subst hkn
      obtain ⟨W1, rfl⟩ : ∃ W1, W1 = wr := ⟨_, rfl⟩
      have HK2 := hidM HK.out
      clear HK hlt
      obtain ⟨xs, ho, hb⟩ := HK2.out.2.own
      have hne := HN.out
      rw [← hne] at ho hb
      have HO := hidM ho
      have HB := hidM hb
      have HG0 : Hid (GwA W1 W1 (.slice ao k ca) 38 7 k xs (.slice ao k ca) 0) := GwA.begin ho
      clear ho hb hne
      go_wp2
      go_loopw [5, 6] (fun p q w2 => ∃ j : Nat, j ≤ 20 ∧ q = .int .i64 (j : Int) ∧ ∃ vo vc, p = .slice vo (k + j) vc ∧ Hid (GwA W1 w2 (.slice ao k ca) 38 7 k xs (.slice vo (k + j) vc) j)) (fun _ q _ => 20 - (intOf q).toNat)
      case atStart => exact ⟨0, by omega, rfl, ao, ca, rfl, HG0.out⟩
      case round =>
        obtain ⟨j, hj, rfl, vo, vc, rfl, HGj⟩ := hrel
        by_cases hjt : j < 20
        · obtain ⟨ys, hown⟩ := HGj.out.own
          obtain ⟨W3, hW3⟩ : ∃ W3, wr.alloc (.cells #[.string m, .bool false, .int .i64 0, .int .i64 0, .int .i64 0, .int .i64 0, .slice none 0 0] 38) = W3 := ⟨_, rfl⟩
          have hg3 : Gr wr W3 := by rw [← hW3]; exact gr_alloc _ _
          have HSrc : Hid (Src Tryd.prog 7 22 (.slice (some ⟨wr.heap.size, 0, none⟩) 1 1) 1 [.string m, .bool false, .int .i64 0, .int .i64 0, .int .i64 0, .int .i64 0, .slice none 0 0] W3) := by
            have := src_fld wr _ rfl m
            rw [hW3] at this
            exact this
          have HG3 := hidM (HGj.out.gr hg3)
          have HOw := hidM (row_kp hown fun b e => hg3.block b (own_lt hown b e) id)
          have H63 : Hid (k + j + 1 ≤ 9223372036854775807) := by show _ ≤ _; omega
          have H80 : Hid ((k + j + 1) * 80 ≤ 140737488355328) := by show _ ≤ _; omega
          have hjI : (j : Int) < 20 := by omega
          clear hown hg3
          go_wp2_with (with_reducible show wpList Tryd.prog _ _ (Oper.mk (some 30) _ _ _ _ _ :: _) _ _; refine wpList_append_oldN (P := Tryd.prog) _ rfl (.tmp 26) (.tmp 29) 22 22 rfl 38 z37 7 80 Tryd.underlying22 info37 c37 (.slice vo (k + j) vc) (k + j) (xs ++ ys) rfl HOw.out (.slice (some ⟨wr.heap.size, 0, none⟩) 1 1) 1 (by decide) _ rfl HSrc.out H63.out H80.out ?_; intro v' w4 ha1 ha2 ha3; obtain ⟨uo, uc, rfl⟩ := own_formN ha1; replace ha3 := hidM (And.intro ha1 (And.intro ha2 ha3)); clear ha1 ha2)
          have HG4 : Hid (GwA W1 w4 (.slice ao k ca) 38 7 k xs (.slice uo (k + j + 1) uc) (j + 1)) := HG3.out.next HO.out HOw.out ha3.out.1 ha3.out.2.1 ha3.out.2.2
          exact ⟨⟨j + 1, by omega, by simp, uo, uc, rfl, HG4.out⟩, by simp [intOf]; omega⟩
        · have hj20 : j = 20 := by omega
          subst hj20
          have HF : Hid (Keeps W wr (fun z => lo ≤ z ∧ z < hi) ∧ Tr wr d lo hi ao ca l) := by
            have hsz : hi ≤ W1.heap.size := by have := HH.out; have := HK2.out.1.size; omega
            have h0 := HGj.out
            have h1 := HO.out
            have h2 := HN.out
            have h3 := HB.out
            refine ⟨HK2.out.1.trans h0.kp (fun b hb e => h3 b e), ?_⟩
            have h4 := h0.old
            have h5 := h0.kp
            rw [h2] at h1 h4 h5
            exact HK2.out.2.regrown h1 h4 h5 hsz
          go_wp2
          go_end0
          exact ⟨rfl, HF.out.1, HF.out.2⟩
/-- all depths -/
theorem grow29_any (m : ByteArray) : ∀ (d : Nat) (W : World) (lo hi : Nat) (ao : Option Addr) (ca : Nat) (l : List FT), Tr W d lo hi ao ca l → hi ≤ W.heap.size → Calls Tryd.prog 29 #[.slice ao l.length ca, .string m] W (GwQ W d lo hi ao ca l)
  | 0, W, lo, hi, ao, ca, l, h, hh => grow_step 0 m W lo hi ao ca l h hh (fun d' e => by omega)
  | d + 1, W, lo, hi, ao, ca, l, h, hh => grow_step (d + 1) m W lo hi ao ca l h hh (fun d' e => by cases e; exact grow29_any m d)
end Go.Proofs.YtjdojbbjbippoaaDoor.Kit
