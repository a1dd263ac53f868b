import Derived.Test.YtemleibpmaclmaaFI
namespace Go.Proofs.Ytemleibpmaclmaa.Kit
open Go.RowKit Go.Shelf Go.Deep
set_option linter.unusedVariables false

section
variable {P : Program} (w : World)
theorem run_append_two (t tx ty e : TypeId) (i : TypeInfo) (z : Value) (bytes : Nat) (ht : P.underlying t = some (.slice e)) (hi : P.info? e = some i) (hz : i.zero = some z) (hsize : i.size = 1) (hby : i.bytes = bytes) (hzs : z.cells.size = 1)
    (v : Value) (n : Nat) (xs : List Value) (hown : w.ownsRow 0 e 1 v n xs) (x : Value) (m : Nat) (news : List Value) (hs : Src P 1 tx x m news w)
    (h63 : n + m ≤ 9223372036854775807) (hbytes : (n + m) * bytes ≤ 140737488355328) :
    ∃ v' w', (Builtin.append_ #[t, tx] ty #[v, x]).run P w = .ok v' w' ∧ w'.ownsRow 0 e 1 v' (n + m) (xs ++ news) ∧ w.grownBy w' v.ownBlock ∧
      (v'.ownBlock = v.ownBlock ∨ (∀ g, v'.ownBlock = some g → w.heap.size ≤ g) ∧ w.grownBy w' none) := by
  subst hby
  have hlen : (xs ++ news).length = (n + m) * 1 := by rw [List.length_append, hown.1, hs.newsLen, Nat.add_mul]
  have grown : ∀ (old : Nat), old < n + m → ∀ (row : Option Nat),
      (w.drew.alloc (.cells ((xs ++ news).toArray ++ Builtin.zeroCells z.cells (grownCap w (n + m) old e - (n + m))) e)).ownsRow 0 e 1
        (.slice (some ⟨w.heap.size, 0, none⟩) (n + m) (grownCap w (n + m) old e)) (n + m) (xs ++ news) ∧
      w.grownBy (w.drew.alloc (.cells ((xs ++ news).toArray ++ Builtin.zeroCells z.cells (grownCap w (n + m) old e - (n + m))) e)) row := by
    intro old ho row
    have hge := grownCap_ge w (n + m) old e
    have hcm : grownCap w (n + m) old e ≤ maxLen := grownCap_le_maxLen w (n + m) old e h63
    refine ⟨⟨hlen, .inr ⟨w.heap.size, _, _, rfl, Nat.zero_le _, heap_alloc_new w.drew _, hge, hcm, ?_, ?_⟩⟩, ⟨rfl, rfl, rfl, by simp, fun k hk _ => Below.heap_alloc w.drew _ k hk⟩⟩
    · simp only [Array.size_append, List.size_toArray, size_zeroCells, hzs, hlen]
      omega
    · simp only [Array.toList_append]
      rw [← hlen]
      exact List.take_left
  rcases hown.2 with ⟨rfl, rfl⟩ | ⟨g, cap, cur, rfl, hbg, hg, hnc, hcm, hcs, htake⟩
  · have hx : xs = [] := List.eq_nil_of_length_eq_zero (by simpa using hown.1)
    subst hx
    by_cases hm : m = 0
    · subst hm
      have hn : news = [] := List.eq_nil_of_length_eq_zero (by simpa using hs.newsLen)
      subst hn
      refine ⟨.slice none 0 0, w, ?_, World.ownsRow_nil w 0 e 1, ⟨rfl, rfl, rfl, Nat.le_refl _, fun _ _ _ => rfl⟩, .inl rfl⟩
      have hc := hs.cells
      have hl := hs.len
      rcases hs.kind with ⟨e', hk⟩ | hk <;> simp [Builtin.append_, run_underlying ht, run_underlying hk, sizeOf, typeInfo, hi, hsize, hl, hc]
    · have hr := run_append_grow_src (P := P) w t tx ty e i z ht hi hz none 0 0 [] (by simpa using run_firstCells_none w.drew i.size 0 0 0) x m news (by rw [hsize]; exact hs) (by omega) (by omega) (growslice_fits (by omega) hbytes)
      have hgr := grown 0 (by omega) (Value.ownBlock (.slice none 0 0))
      exact ⟨_, _, hr, hgr.1, hgr.2, .inr ⟨fun g hg => by simp [Value.ownBlock] at hg; omega, (grown 0 (by omega) none).2⟩⟩
  · by_cases hroom : n + m ≤ cap
    · have hl := hs.newsLen
      have hfit : n * i.size + news.length ≤ cur.size := by rw [hl, hcs, hsize, ← Nat.add_mul]; exact Nat.mul_le_mul_right _ hroom
      have hr := run_append_room_row (P := P) w t tx ty e i ht hi g n cap cur hg x m news (by rw [hsize]; exact hs) hroom hfit
      rw [hsize] at hr hfit
      refine ⟨_, _, hr, ⟨hlen, .inr ⟨g, cap, _, rfl, hbg, setRow_heap w g cur _ e _ hg, hroom, hcm, ?_, ?_⟩⟩, ⟨rfl, rfl, rfl, by simp, fun k _ hk => setRow_other w g k _ (fun e => hk (by simp [Value.ownBlock, e]))⟩, .inl rfl⟩
      · simp only [List.size_toArray, List.length_append, List.length_take, List.length_drop, Array.length_toList]
        omega
      · rw [htake, ← hlen]
        exact List.take_left
    · have holds : ∀ j u, xs[j]? = some u → w.cell? ((⟨g, 0, none⟩ : Addr).add j) = some u := hown.cells (g := g) rfl
      have hr := run_append_grow_src (P := P) w t tx ty e i z ht hi hz (some ⟨g, 0, none⟩) n cap xs (run_firstCells_some w.drew i.size n ⟨g, 0, none⟩ n cap xs (by rw [hsize]; exact hown.1) (by simpa using holds)) x m news (by rw [hsize]; exact hs) (by omega) (by omega) (growslice_fits (by omega) hbytes)
      have hgr := grown cap (by omega) (Value.ownBlock (.slice (some ⟨g, 0, none⟩) n cap))
      exact ⟨_, _, hr, hgr.1, hgr.2, .inr ⟨fun g' hg' => by simp [Value.ownBlock] at hg'; omega, (grown cap (by omega) none).2⟩⟩

/-- as a law for the walk -/
theorem wpList_append_two {ops : Array Oper} {rest : List Oper} {o : Oper} {a : Act} {Q : Exit → Act → World → Prop} (hgd : o.guard = none) (s x : Operand) (t tx : TypeId)
    (ho : o.op = .call { callee := .builtin .append, args := #[s, x], argTypes := #[t, tx] })
    (e : TypeId) (z : Value) (bytes : Nat) (ht : P.underlying t = some (.slice e)) (hinfo : (P.info? e).map (fun i => (i.zero, i.size, i.bytes)) = some (some z, 1, bytes)) (hzs : z.cells.size = 1)
    (v : Value) (n : Nat) (xs : List Value) (hv : a.eval s = v) (hown : w.ownsRow 0 e 1 v n xs) (y : Value) (m : Nat) (news : List Value) (hx : a.eval x = y) (hs : Src P 1 tx y m news w)
    (h63 : n + m ≤ 9223372036854775807) (hbytes : (n + m) * bytes ≤ 140737488355328)
    (h : ∀ v' w', w'.ownsRow 0 e 1 v' (n + m) (xs ++ news) → w.grownBy w' v.ownBlock → (v'.ownBlock = v.ownBlock ∨ (∀ g, v'.ownBlock = some g → w.heap.size ≤ g) ∧ w.grownBy w' none) → wpList P ops Q rest (a.put o.dst v') w') :
    wpList P ops Q (o :: rest) a w := by
  refine wpList_plain hgd fun K hK' => ?_
  obtain ⟨i, hi, hzz⟩ := Option.map_eq_some_iff.1 hinfo
  simp only [Prod.mk.injEq] at hzz
  obtain ⟨hz, hsz, hb⟩ := hzz
  obtain ⟨v', w', hr, h2, h3, h4⟩ := run_append_two (P := P) w t tx o.type e i z bytes ht hi hz hsz hb hzs v n xs hown y m news hs h63 hbytes
  unfold Oper.wp
  simp [execOp, ho, resolve, invoke, builtin, hv, hx, hr, Result.andThen]
  exact hK' _ _ (h v' w' h2 h3 h4)

end

def bt (i : Nat) : UInt8 := UInt8.ofNat i
theorem bt_nat (i : Nat) : ((bt i).toNat : Int) = (i : Int) % 256 := by simp [bt]
/-! ### a book while its rows grow -/
abbrev Row := Option Addr × Nat × Nat
def rp (n i : Nat) : List UInt8 := List.replicate n (bt i)
theorem rp_len (n i : Nat) : (rp n i).length = n := by simp [rp]
theorem rp_succ (n i : Nat) : rp (n + 1) i = rp n i ++ [bt i] := by simp [rp, List.replicate_succ']
structure Gw (w W : World) (K N G H A ac : Nat) (x1 : Value) (go : Option Addr) (gc : Nat) (fo : Option Addr) (fc : Nat) (R U : Nat → Row) (O : Nat → Nat) (c : Nat) : Prop where
  gr : Gr w W
  knew : w.heap.size ≤ K
  box : W.heap[K]? = some (.cells #[.slice (some ⟨A, 0, none⟩) N ac, x1, .slice go G gc, .slice fo H fc] 33 (0, 0))
  all : W.ownsRow 0 22 1 (.slice (some ⟨A, 0, none⟩) N ac) N ((List.range N).map fun i => rv (R i))
  g : W.ownsRow 0 22 1 (.slice go G gc) G ((List.range G).map fun j => rv (U j))
  f : W.ownsRow 0 3 1 (.slice fo H fc) H ((List.range H).map fun j => .int .i64 (O j : Int))
  gnew : ∀ x, (Value.slice go G gc).ownBlock = some x → w.heap.size ≤ x ∧ x ≠ A
  fnew : ∀ x, (Value.slice fo H fc).ownBlock = some x → w.heap.size ≤ x
  rows : ∀ k, c ≤ k → k < N → W.ownsRow 0 5 1 (rv (R k)) (R k).2.1 (bv (rp (R k).2.1 k))
  done : ∀ k, k < c → k < N → BytesAt W (R k).1 (rp (R k).2.1 k) ∧ ∀ X, (R k).1 = some ⟨X, 0, none⟩ → Typ W X 5
  off : ∀ k, k < N → ∀ X o, (R k).1 = some ⟨X, o, none⟩ → o = 0
  loc : ∀ k, k < N → ∀ X, (R k).1 = some ⟨X, 0, none⟩ → X < W.heap.size
  u : ∀ j, j < G → ∃ X, (U j).1 = some ⟨X, 0, none⟩ ∧ (U j).2.1 ≤ 6000000 ∧ BytesAt W (some ⟨X, 0, none⟩) (rp (U j).2.1 (O j)) ∧ Typ W X 5 ∧ O j < c ∧ ∀ k, k < N → k ≠ O j → (R k).1 ≠ some ⟨X, 0, none⟩
structure Gb (w W : World) (N G i n : Nat) (bo : Option Addr) (bc : Nat) (R U : Nat → Row) (O : Nat → Nat) : Prop where
  own : W.ownsRow 0 5 1 (.slice bo n bc) n (bv (rp n i))
  new : ∀ X, (Value.slice bo n bc).ownBlock = some X → w.heap.size ≤ X ∧ (∀ k, k < N → k ≠ i → (R k).1 ≠ some ⟨X, 0, none⟩) ∧ ((R i).1 = some ⟨X, 0, none⟩ → (R i).2.1 ≤ n) ∧ ∀ j, j < G → (U j).1 = some ⟨X, 0, none⟩ → O j = i ∧ (U j).2.1 ≤ n
theorem Typ.keep {W W' : World} {S : Nat → Prop} {X t : Nat} (h : Typ W X t) (k : Keeps W W' S) (hn : ¬ S X) : Typ W' X t := by
  obtain ⟨c, f, h⟩ := h
  exact ⟨c, f, (k.block X (lt_of_heap h) hn).trans h⟩
theorem BytesAt.keep {W W' : World} {S : Nat → Prop} {ao : Option Addr} {l : List UInt8} (h : BytesAt W ao l) (k : Keeps W W' S) (hn : ∀ X o, ao = some ⟨X, o, none⟩ → ¬ S X) : BytesAt W' ao l := fun hne => by
  obtain ⟨b, o, e, hc⟩ := h hne
  exact ⟨b, o, e, fun j hj => k.cell' (hc j hj) (hn b o e)⟩
theorem bytes_rp_le {W : World} {ao : Option Addr} {n m i : Nat} (h : BytesAt W ao (rp n i)) (hm : m ≤ n) : BytesAt W ao (rp m i) := by
  have := h.take m
  unfold rp at this ⊢
  rw [List.take_replicate, Nat.min_eq_left hm] at this
  exact this
theorem own_off {W : World} {t s n vc : Nat} {vo : Option Addr} {xs : List Value} (h : W.ownsRow 0 t s (.slice vo n vc) n xs) : (vo = none ∧ n = 0) ∨ ∃ X, vo = some ⟨X, 0, none⟩ := by
  rcases h.2 with ⟨e, h0⟩ | ⟨g, cap, cur, e, _⟩
  · cases e; exact .inl ⟨rfl, rfl⟩
  · cases e; exact .inr ⟨g, rfl⟩
/-- the next row is taken up -/
theorem Gw.next {w W : World} {K N G H A ac : Nat} {x1 : Value} {go : Option Addr} {gc : Nat} {fo : Option Addr} {fc : Nat} {R U : Nat → Row} {O : Nat → Nat} {i : Nat} (h : Gw w W K N G H A ac x1 go gc fo fc R U O i) (hi : i < N)
    (hnew : ∀ X, (R i).1 = some ⟨X, 0, none⟩ → w.heap.size ≤ X ∧ ∀ k, k < N → k ≠ i → (R k).1 ≠ some ⟨X, 0, none⟩) {bo : Option Addr} {bc n : Nat} (e : R i = (bo, n, bc)) : Gw w W K N G H A ac x1 go gc fo fc R U O (i + 1) ∧ Gb w W N G i n bo bc R U O := by
  have hr := h.rows i (Nat.le_refl _) hi
  have hnw : ∀ X, (Value.slice bo n bc).ownBlock = some X → (R i).1 = some ⟨X, 0, none⟩ := fun X q => by
    rw [e] at hr ⊢
    rcases own_off hr with ⟨a, -⟩ | ⟨Y, a⟩
    · have a' : bo = none := a
      rw [a'] at q; simp [Value.ownBlock] at q
    · have a' : bo = some ⟨Y, 0, none⟩ := a
      rw [a'] at q
      simp [Value.ownBlock] at q
      subst q
      exact a'
  refine ⟨⟨h.gr, h.knew, h.box, h.all, h.g, h.f, h.gnew, h.fnew, fun k hk hkN => h.rows k (by omega) hkN, fun k hk hkN => ?_, h.off, h.loc, fun j hj => ?_⟩, ?_, fun X q => ?_⟩
  · by_cases d : k < i
    · exact h.done k d hkN
    · obtain rfl : k = i := by omega
      exact ⟨bytes_of_own hr, fun X q => own_typ hr (by unfold rv; rw [q]; rfl)⟩
  · obtain ⟨X, h1, h2, h3, h4, h5, h6⟩ := h.u j hj
    exact ⟨X, h1, h2, h3, h4, by omega, h6⟩
  · rw [e] at hr
    exact hr
  · have q' := hnw X q
    refine ⟨(hnew X q').1, (hnew X q').2, fun _ => by rw [e]; exact Nat.le_refl _, fun j hj q2 => ?_⟩
    obtain ⟨Y, h1, h2, h3, h4, h5, h6⟩ := h.u j hj
    rw [q2] at h1
    cases h1
    exact absurd q' (h6 i hi (by omega))
/-- a byte is appended -/
theorem Gw.app {w W Wa W1 : World} {K N G H A ac : Nat} {x1 : Value} {go : Option Addr} {gc : Nat} {fo : Option Addr} {fc : Nat} {R U : Nat → Row} {O : Nat → Nat} {i n bc bc' : Nat} {bo bo' : Option Addr} (h : Gw w W K N G H A ac x1 go gc fo fc R U O (i + 1)) (b : Gb w W N G i n bo bc R U O) (hi : i < N) (gA : Gr W Wa)
    (own : W1.ownsRow 0 5 1 (.slice bo' (n + 1) bc') (n + 1) (bv (rp n i) ++ [.int .u8 ((bt i).toNat : Int)])) (hg : Wa.grownBy W1 (Value.slice bo n bc).ownBlock) (hblk : (Value.slice bo' (n + 1) bc').ownBlock = (Value.slice bo n bc).ownBlock ∨ (∀ x, (Value.slice bo' (n + 1) bc').ownBlock = some x → Wa.heap.size ≤ x) ∧ Wa.grownBy W1 none) :
    Gw w W1 K N G H A ac x1 go gc fo fc R U O (i + 1) ∧ Gb w W1 N G i (n + 1) bo' bc' R U O := by
  have k : Keeps W W1 (fun x => (Value.slice bo n bc).ownBlock = some x) := (gA.mono fun _ _ f => f.elim).trans (Keeps.ofGrown hg) (fun _ _ e => e)
  have own2 : W1.ownsRow 0 5 1 (.slice bo' (n + 1) bc') (n + 1) (bv (rp (n + 1) i)) := by rw [rp_succ, bv_app]; exact own
  have n5 : ∀ x t, Typ W x t → t ≠ 5 → ¬ (Value.slice bo n bc).ownBlock = some x := fun x t ht hne e => hne (ht.ne (own_typ b.own e))
  have hne : ∀ {t : Nat} {v : Value} {m : Nat} {xs : List Value}, W.ownsRow 0 t 1 v m xs → t ≠ 5 → W1.ownsRow 0 t 1 v m xs := fun o ht => own_kp o fun x e => k.block x (own_lt o x e) (n5 x _ (own_typ o e) ht)
  -- bytes of a family stay
  have fam : ∀ X len o, BytesAt W (some ⟨X, 0, none⟩) (rp len o) → ((Value.slice bo n bc).ownBlock = some X → o = i ∧ len ≤ n) → BytesAt W1 (some ⟨X, 0, none⟩) (rp len o) := fun X len o hb hx => by
    by_cases q : (Value.slice bo n bc).ownBlock = some X
    · obtain ⟨rfl, hle⟩ := hx q
      by_cases z : len = 0
      · subst z; exact fun hn => absurd rfl hn
      rcases hblk with q1 | q1
      · rw [q] at q1
        have e1 : bo' = some ⟨X, 0, none⟩ := by
          rcases own_off own2 with ⟨a, -⟩ | ⟨Y, a⟩
          · rw [a] at q1; simp [Value.ownBlock] at q1
          · rw [a] at q1; simp [Value.ownBlock] at q1; subst q1; exact a
        have := bytes_of_own own2
        rw [e1] at this
        exact bytes_rp_le this (by omega)
      · exact (hb.gr gA).keep (Keeps.ofGrown q1.2) (fun X' o' e => by simp)
    · exact hb.keep k (fun X' o' e => by cases e; exact q)
  have typ5 : ∀ X, Typ W X 5 → Typ W1 X 5 := fun X ht => by
    by_cases q : (Value.slice bo n bc).ownBlock = some X
    · rcases hblk with q1 | q1
      · exact own_typ own2 (q1.trans q)
      · exact (ht.keep gA id).keep (Keeps.ofGrown q1.2) (by simp)
    · exact ht.keep k q
  refine ⟨⟨h.gr.trans k (fun j hj e => by have := (b.new j e).1; omega), h.knew, ?_, hne h.all (by decide), hne h.g (by decide), hne h.f (by decide), h.gnew, h.fnew, fun q hq hqN => ?_, fun q hq hqN => ?_, h.off, fun q hq X e => Nat.lt_of_lt_of_le (h.loc q hq X e) k.size, fun j hj => ?_⟩, own2, fun X e => ?_⟩
  · rw [k.block K (lt_of_heap h.box) (n5 K 33 ⟨_, _, h.box⟩ (by decide))]; exact h.box
  · have o := h.rows q hq hqN
    exact own_kp o fun x e => k.block x (own_lt o x e) (fun e2 => by
      have e' : (R q).1 = some ⟨x, 0, none⟩ := by
        rcases own_off o with ⟨a, -⟩ | ⟨Y, a⟩
        · unfold rv at e; rw [a] at e; simp [Value.ownBlock] at e
        · unfold rv at e; rw [a] at e; simp [Value.ownBlock] at e; subst e; exact a
      exact (b.new x e2).2.1 q hqN (by omega) e')
  · obtain ⟨h1, h2⟩ := h.done q hq hqN
    refine ⟨fun hn => ?_, fun X e => typ5 X (h2 X e)⟩
    obtain ⟨Y, o, e, hc⟩ := h1 hn
    have o0 : o = 0 := h.off q hqN Y o e
    subst o0
    rw [e] at h1 ⊢
    exact fam Y _ q h1 (fun e2 => by
      by_cases d : q = i
      · subst d; exact ⟨rfl, (b.new Y e2).2.2.1 e⟩
      · exact absurd e ((b.new Y e2).2.1 q hqN d)) hn
  · obtain ⟨X, h1, h2, h3, h4, h5, h6⟩ := h.u j hj
    exact ⟨X, h1, h2, fam X _ _ h3 (fun e2 => (b.new X e2).2.2.2 j hj h1), typ5 X h4, h5, h6⟩
  · rcases hblk with q1 | q1
    · rw [q1] at e
      obtain ⟨a1, a2, a3, a4⟩ := b.new X e
      exact ⟨a1, a2, fun e' => by have := a3 e'; omega, fun j hj e' => by have := a4 j hj e'; exact ⟨this.1, by omega⟩⟩
    · have hX := q1.1 X e
      have s1 := gA.size
      have s2 := h.gr.size
      refine ⟨by omega, fun q hq hqi e' => ?_, fun e' => ?_, fun j hj e' => ?_⟩
      · have := h.loc q hq X e'; omega
      · have := h.loc i hi X e'; omega
      · obtain ⟨Y, h1, h2, h3, h4, h5, h6⟩ := h.u j hj
        rw [e'] at h1
        cases h1
        obtain ⟨cc, ff, hh⟩ := h4
        have := lt_of_heap hh
        omega
theorem map_range_if {α : Type} {f : Nat → α} {N : Nat} {a : α} (g : Nat → α) (h1 : ∀ i, i < N → g i = f i) (h2 : g N = a) : (List.range (N + 1)).map g = (List.range N).map f ++ [a] := by
  rw [List.range_succ, List.map_append]
  congr 1
  · exact List.map_congr_left fun i hi => h1 i (List.mem_range.1 hi)
  · simp [h2]
theorem Gw.grown {w W W2 : World} {K N G H A ac : Nat} {x1 : Value} {go go' : Option Addr} {gc gc' : Nat} {fo : Option Addr} {fc : Nat} {R U : Nat → Row} {O : Nat → Nat} {i n bc c : Nat} {bo : Option Addr} (h : Gw w W K N G H A ac x1 go gc fo fc R U O c) (b : Gb w W N G i n bo bc R U O) (hc : i < c) (hn : 0 < n) (hn' : n ≤ 6000000) (hH : H ≤ G)
    (F : Fl W W2 K 33 #[.slice (some ⟨A, 0, none⟩) N ac, x1, .slice go' (G + 1) gc', .slice fo H fc] 22 1 (.slice go G gc) (.slice go' (G + 1) gc') (G + 1) (((List.range G).map fun j => rv (U j)) ++ [.slice bo n bc])) :
    Gw w W2 K N (G + 1) H A ac x1 go' gc' fo fc R (fun j => if j < G then U j else (bo, n, bc)) (fun j => if j < G then O j else i) c ∧ Gb w W2 N (G + 1) i n bo bc R (fun j => if j < G then U j else (bo, n, bc)) (fun j => if j < G then O j else i) := by
  have tK : Typ W K 33 := ⟨_, _, h.box⟩
  have nt : ∀ x t, Typ W x t → t ≠ 33 → t ≠ 22 → ¬ (x = K ∨ (Value.slice go G gc).ownBlock = some x) := fun x t ht h1 h2 e => by
    rcases e with e | e
    · subst e; exact h1 (ht.ne tK)
    · exact h2 (ht.ne (own_typ h.g e))
  have row : ∀ {t : Nat} {v : Value} {m : Nat} {xs : List Value}, W.ownsRow 0 t 1 v m xs → t ≠ 33 → t ≠ 22 → W2.ownsRow 0 t 1 v m xs := fun o h1 h2 => own_kp o fun x e => F.kp.block x (own_lt o x e) (nt x _ (own_typ o e) h1 h2)
  have wsz := h.gr.size
  have bytes : ∀ ao l, BytesAt W ao l → (∀ X o, ao = some ⟨X, o, none⟩ → Typ W X 5) → BytesAt W2 ao l := fun ao l hb ht => hb.keep F.kp (fun X o e => nt X 5 (ht X o e) (by decide) (by decide))
  have typ5 : ∀ X, Typ W X 5 → Typ W2 X 5 := fun X ht => ht.keep F.kp (nt X 5 ht (by decide) (by decide))
  have hbX : ∃ X, bo = some ⟨X, 0, none⟩ := by
    rcases own_off b.own with ⟨-, a⟩ | a
    · omega
    · exact a
  obtain ⟨X0, hX0⟩ := hbX
  have hob : (Value.slice bo n bc).ownBlock = some X0 := by rw [hX0]; rfl
  refine ⟨⟨h.gr.trans F.kp (fun j hj e => ?_), h.knew, F.box, ?_, ?_, ?_, fun x e => ?_, h.fnew, fun k hk hkN => row (h.rows k hk hkN) (by decide) (by decide), fun k hk hkN => ?_, h.off, fun k hk X e => Nat.lt_of_lt_of_le (h.loc k hk X e) F.kp.size, fun j hj => ?_⟩, row b.own (by decide) (by decide), fun X e => ?_⟩
  · rcases e with e | e
    · have := h.knew; omega
    · have := (h.gnew j e).1; omega
  · exact own_kp h.all fun x e => F.kp.block x (own_lt h.all x e) (fun q => by
      rcases q with q | q
      · subst q; exact absurd (tK.ne (own_typ h.all e)) (by decide)
      · have := (h.gnew x q).2; simp [Value.ownBlock] at e; omega)
  · rw [map_range_if (f := fun j => rv (U j)) (a := .slice bo n bc) _ (fun j hj => by simp only [if_pos hj]) (by simp [rv])]
    exact F.own
  · have := row h.f (by decide) (by decide)
    have e : ((List.range H).map fun j => Value.int .i64 (((if j < G then O j else i : Nat)) : Int)) = ((List.range H).map fun j => .int .i64 (O j : Int)) := List.map_congr_left fun j hj => by rw [if_pos (by have := List.mem_range.1 hj; omega)]
    rw [e]
    exact this
  · rcases F.blk with q | q
    · rw [q] at e; exact h.gnew x e
    · have := q x e
      have hA : A < W.heap.size := own_lt h.all A rfl
      exact ⟨by omega, by omega⟩
  · obtain ⟨h1, h2⟩ := h.done k hk hkN
    exact ⟨bytes _ _ h1 (fun X o e => by have := h.off k hkN X o e; subst this; exact h2 X e), fun X e => typ5 X (h2 X e)⟩
  · by_cases d : j < G
    · obtain ⟨X, h1, h2, h3, h4, h5, h6⟩ := h.u j d
      simp only [if_pos d]
      exact ⟨X, h1, h2, bytes _ _ h3 (fun X o e => by cases e; exact h4), typ5 X h4, h5, h6⟩
    · simp only [if_neg d]
      have t5 : Typ W X0 5 := own_typ b.own hob
      have hb0 := bytes_of_own b.own
      rw [hX0] at hb0
      exact ⟨X0, hX0, hn', bytes _ _ hb0 (fun X o e => by cases e; exact t5), typ5 X0 t5, hc, fun k hk hki => (b.new X0 hob).2.1 k hk hki⟩
  · obtain ⟨a1, a2, a3, a4⟩ := b.new X e
    refine ⟨a1, a2, a3, fun j hj e' => ?_⟩
    by_cases d : j < G
    · simp only [if_pos d] at e' ⊢; exact a4 j d e'
    · rw [if_neg d, if_neg d]; exact ⟨rfl, Nat.le_refl _⟩
theorem Gw.offd {w W W2 : World} {K N G H A ac : Nat} {x1 : Value} {go : Option Addr} {gc : Nat} {fo fo' : Option Addr} {fc fc' : Nat} {R U : Nat → Row} {O : Nat → Nat} {i n bc c : Nat} {bo : Option Addr} (h : Gw w W K N G H A ac x1 go gc fo fc R U O c) (b : Gb w W N G i n bo bc R U O) (hO : O H = i)
    (F : Fl W W2 K 33 #[.slice (some ⟨A, 0, none⟩) N ac, x1, .slice go G gc, .slice fo' (H + 1) fc'] 3 1 (.slice fo H fc) (.slice fo' (H + 1) fc') (H + 1) (((List.range H).map fun j => .int .i64 (O j : Int)) ++ [.int .i64 (i : Int)])) :
    Gw w W2 K N G (H + 1) A ac x1 go gc fo' fc' R U O c ∧ Gb w W2 N G i n bo bc R U O := by
  have tK : Typ W K 33 := ⟨_, _, h.box⟩
  have nt : ∀ x t, Typ W x t → t ≠ 33 → t ≠ 3 → ¬ (x = K ∨ (Value.slice fo H fc).ownBlock = some x) := fun x t ht h1 h2 e => by
    rcases e with e | e
    · subst e; exact h1 (ht.ne tK)
    · exact h2 (ht.ne (own_typ h.f e))
  have row : ∀ {t : Nat} {v : Value} {m : Nat} {xs : List Value}, W.ownsRow 0 t 1 v m xs → t ≠ 33 → t ≠ 3 → W2.ownsRow 0 t 1 v m xs := fun o h1 h2 => own_kp o fun x e => F.kp.block x (own_lt o x e) (nt x _ (own_typ o e) h1 h2)
  have wsz := h.gr.size
  have bytes : ∀ ao l, BytesAt W ao l → (∀ X o, ao = some ⟨X, o, none⟩ → Typ W X 5) → BytesAt W2 ao l := fun ao l hb ht => hb.keep F.kp (fun X o e => nt X 5 (ht X o e) (by decide) (by decide))
  have typ5 : ∀ X, Typ W X 5 → Typ W2 X 5 := fun X ht => ht.keep F.kp (nt X 5 ht (by decide) (by decide))
  refine ⟨⟨h.gr.trans F.kp (fun j hj e => ?_), h.knew, F.box, row h.all (by decide) (by decide), row h.g (by decide) (by decide), ?_, h.gnew, fun x e => ?_, fun k hk hkN => row (h.rows k hk hkN) (by decide) (by decide), fun k hk hkN => ?_, h.off, fun k hk X e => Nat.lt_of_lt_of_le (h.loc k hk X e) F.kp.size, fun j hj => ?_⟩, row b.own (by decide) (by decide), b.new⟩
  · rcases e with e | e
    · have := h.knew; omega
    · have := h.fnew j e; omega
  · rw [map_range_if (f := fun j => Value.int .i64 (O j : Int)) (a := Value.int .i64 (i : Int)) _ (fun j hj => rfl) (by rw [hO])]
    exact F.own
  · rcases F.blk with q | q
    · rw [q] at e; exact h.fnew x e
    · have := q x e; omega
  · obtain ⟨h1, h2⟩ := h.done k hk hkN
    exact ⟨bytes _ _ h1 (fun X o e => by have := h.off k hkN X o e; subst this; exact h2 X e), fun X e => typ5 X (h2 X e)⟩
  · obtain ⟨X, h1, h2, h3, h4, h5, h6⟩ := h.u j hj
    exact ⟨X, h1, h2, bytes _ _ h3 (fun X o e => by cases e; exact h4), typ5 X h4, h5, h6⟩
end Go.Proofs.Ytemleibpmaclmaa.Kit
