import Derived.Test.YtcfdkadhclickaaDoorZP
namespace Go.Proofs.YtcfdkadhclickaaDoor.Kit
open Go.RowKit Go.Shelf Go.Deep
set_option linter.unusedVariables false
attribute [local go_sem] run_store_func

/-! ### the book of lists: valued 38, Values 37, Value 15 -/
/-- len values that bear the mark i -/
def MarkRow (W : World) (ao : Option Addr) (len i : Nat) : Prop := ∀ e, e < len → ∃ b, ao = some ⟨b, 0, none⟩ ∧ W.cell? ⟨b, e * 4, none⟩ = some (.bool false) ∧ W.cell? ⟨b, e * 4 + 1, none⟩ = some (.int .i64 (1000 + (i : Int))) ∧ W.cell? ⟨b, e * 4 + 2, none⟩ = some (.string ⟨#[]⟩) ∧ W.cell? ⟨b, e * 4 + 3, none⟩ = some (.slice none 0 0)
set_option maxRecDepth 100000 in
set_option maxHeartbeats 2000000 in
theorem valued38 (ao : Option Addr) (len ca i : Nat) (w : World) (hl : len ≤ 2000000000000) (hi : i ≤ 1000000000000) (h : MarkRow w ao len i) : Ans 38 #[.slice ao len ca, .int .i64 (i : Int)] true w := by
  intro W g
  have HM := hidM h
  have HG := hidM g
  have hw : wrap64 (1000 + (i : Int)) = 1000 + (i : Int) := by unfold wrap64; omega
  clear h g
  go_enter Tryd.func38, Tryd.ntmps38
  go_wp2
  go_loopw [5] (fun p wr => ∃ k : Nat, k ≤ len ∧ p = .int .i64 (k : Int) ∧ Hid (Gr W wr)) (fun p _ => len - (intOf p).toNat)
  case atStart => exact ⟨0, by omega, rfl, Keeps.refl _ _⟩
  case round =>
    obtain ⟨k, hk, rfl, HK⟩ := hrel
    by_cases hlt : k < len
    · obtain ⟨b, rfl, c0, c1, c2, c3⟩ := HM.out k hlt
      have gw := HG.out.trans HK.out (fun _ _ h => h)
      have d0 := gr_c gw c0
      have d1 := gr_c gw c1
      have d2 := gr_c gw c2
      have d3 := gr_c gw c3
      have hltI : (k : Int) < (len : Int) := by omega
      clear c0 c1 c2 c3 gw
      go_wp2
      first
        | exact ⟨⟨k + 1, by omega, by simp, HK.out⟩, by simp [intOf]; omega⟩
        | (go_roundw
           case rel => exact ⟨k + 1, by omega, by simp, HK.out⟩
           case measure => simp [intOf]; omega)
    · have hkn : k = len := by omega
      subst hkn
      go_wp2
      go_ret
      exact ⟨rfl, HK.out⟩
/-- a row: where, how long, how much room -/
abbrev ZR := Option Addr × Nat × Nat
def ZR.val (r : ZR) : Value := .slice r.1 r.2.1 r.2.2
/-- a row of one's own in [lo, hi), or none -/
def ZR.own (W : World) (lo hi : Nat) (r : ZR) : Prop := (r.1 = none ∧ r.2.1 = 0 ∧ r.2.2 = 0) ∨ ∃ b cur, r.1 = some ⟨b, 0, none⟩ ∧ lo ≤ b ∧ b < hi ∧ W.heap[b]? = some (.cells cur 29 (0, 0)) ∧ cur.size = r.2.2 * 4 ∧ r.2.1 ≤ r.2.2 ∧ r.2.2 ≤ maxLen ∧ r.2.1 ≤ big
def ZR.ne (r s : ZR) : Prop := ∀ b, r.1 = some ⟨b, 0, none⟩ → s.1 ≠ some ⟨b, 0, none⟩
structure RowsIn (W : World) (lo hi : Nat) (rs : List ZR) : Prop where
  own : ∀ r ∈ rs, r.own W lo hi
  apart : rs.Pairwise ZR.ne
theorem ZR.own.kept {W W' : World} {lo hi : Nat} {r : ZR} (h : r.own W lo hi) (k : ∀ b, lo ≤ b → b < hi → W'.heap[b]? = W.heap[b]?) : r.own W' lo hi := by
  rcases h with h | ⟨b, cur, h0, h1, h2, h3, h4⟩
  · exact .inl h
  · exact .inr ⟨b, cur, h0, h1, h2, (k b h1 h2).trans h3, h4⟩
theorem ZR.own.wide {W : World} {lo hi lo' hi' : Nat} {r : ZR} (h : r.own W lo hi) (h1 : lo' ≤ lo) (h2 : hi ≤ hi') : r.own W lo' hi' := by
  rcases h with h | ⟨b, cur, h0, e1, e2, h3⟩
  · exact .inl h
  · exact .inr ⟨b, cur, h0, by omega, by omega, h3⟩
theorem RowsIn.kept {W W' : World} {lo hi : Nat} {rs : List ZR} (h : RowsIn W lo hi rs) (k : ∀ b, lo ≤ b → b < hi → W'.heap[b]? = W.heap[b]?) : RowsIn W' lo hi rs := ⟨fun r hr => (h.own r hr).kept k, h.apart⟩
theorem RowsIn.wide {W : World} {lo hi lo' hi' : Nat} {rs : List ZR} (h : RowsIn W lo hi rs) (h1 : lo' ≤ lo) (h2 : hi ≤ hi') : RowsIn W lo' hi' rs := ⟨fun r hr => (h.own r hr).wide h1 h2, h.apart⟩
/-- the rows of two stretches that don't meet -/
theorem RowsIn.append {W : World} {lo hi lo' hi' : Nat} {rs ss : List ZR} (h : RowsIn W lo hi rs) (k : RowsIn W lo' hi' ss) (hd : ∀ b, lo ≤ b → b < hi → ¬ (lo' ≤ b ∧ b < hi')) {l u : Nat} (h1 : l ≤ lo) (h2 : l ≤ lo') (h3 : hi ≤ u) (h4 : hi' ≤ u) : RowsIn W l u (rs ++ ss) := by
  refine ⟨fun r hr => ?_, List.pairwise_append.2 ⟨h.apart, k.apart, fun r hr s hs b e1 e2 => ?_⟩⟩
  · rcases List.mem_append.1 hr with hr | hr
    · exact (h.own r hr).wide h1 h3
    · exact (k.own r hr).wide h2 h4
  · rcases h.own r hr with ⟨e, _⟩ | ⟨b1, _, f1, g1, g2, _⟩
    · rw [e] at e1; cases e1
    · rcases k.own s hs with ⟨e, _⟩ | ⟨b2, _, f2, g3, g4, _⟩
      · rw [e] at e2; cases e2
      · rw [f1] at e1
        rw [f2] at e2
        cases e1
        cases e2
        exact hd _ g1 g2 ⟨g3, g4⟩
/-- how many lists a value has, itself included -/
def cnt : Nat → List VT → Nat
  | 0, _ => 1
  | d + 1, l => 1 + (l.map fun x => cnt d x.list).sum
theorem cnt_le : ∀ (d : Nat) (v : VT), 16 * (cnt d v.list : Int) ≤ wS d v
  | 0, v => by rw [cnt, wS]; omega
  | d + 1, v => by
    rw [cnt, wS]
    have key : ∀ l : List VT, 16 * (((l.map fun x => cnt d x.list).sum : Nat) : Int) ≤ (l.map (wS d)).sum := by
      intro l
      induction l with
      | nil => simp
      | cons x l ih =>
        have h1 := cnt_le d x
        simp only [List.map_cons, List.sum_cons]
        omega
    have := key v.list
    omega
end Go.Proofs.YtcfdkadhclickaaDoor.Kit
namespace Go.Proofs.YtcfdkadhclickaaDoor.Kit
open Go.RowKit Go.Shelf Go.Deep
set_option linter.unusedVariables false
attribute [local go_sem] run_store_func

/-- the book: its lists so far -/
structure BkV (W : World) (K : Nat) (vo : Option Addr) (vc : Nat) (rs : List ZR) (mo : Option Addr) (M mc : Nat) : Prop where
  box : W.heap[K]? = some (.cells #[.slice vo rs.length vc, .slice mo M mc, .slice none 0 0, .slice none 0 0] 43 (0, 0))
  own : W.ownsRow 0 27 1 (.slice vo rs.length vc) rs.length (rs.map ZR.val)
theorem info27 : (Tryd.prog.info? 27).map (fun i => (i.zero, i.size, i.bytes)) = some (some (.slice none 0 0), 1, 24) := by kernel_rfl
theorem src_row1 (w : World) (u : Value) (hu : u.oneCell' = true) : Src Tryd.prog 1 40 (.slice (some ⟨w.heap.size, 0, none⟩) 1 1) 1 [u] (w.alloc (.cells #[u] 27)) := by
  refine Src.ofSlice _ Tryd.underlying40 _ _ _ _ rfl ?_ (by simp [hu])
  intro k v hk
  match k, hk with
  | 0, hk => simp at hk; subst hk; simp [Addr.add]
  | k + 1, hk => simp at hk
/-- what Values leaves: more lists -/
structure VsQ (W : World) (K : Nat) (vo : Option Addr) (vc : Nat) (rs0 : List ZR) (mo : Option Addr) (M mc lo hi cn : Nat) (w' : World) (vo' : Option Addr) (vc' : Nat) (rs : List ZR) : Prop where
  len : rs.length ≤ cn
  bk : BkV w' K vo' vc' (rs0 ++ rs) mo M mc
  rows : RowsIn w' lo hi rs
  kp : Keeps W w' (fun z => z = K ∨ (Value.slice vo rs0.length vc).ownBlock = some z)
  own : (Value.slice vo' (rs0 ++ rs).length vc').ownBlock = (Value.slice vo rs0.length vc).ownBlock ∨ ∀ g, (Value.slice vo' (rs0 ++ rs).length vc').ownBlock = some g → W.heap.size ≤ g
theorem RowsIn.appendP {W : World} {lo hi lo' hi' : Nat} {rs ss : List ZR} (h : RowsIn W lo hi rs) (k : RowsIn W lo' hi' ss) (hd : ∀ r ∈ rs, ∀ x, r.1 = some ⟨x, 0, none⟩ → ¬ (lo' ≤ x ∧ x < hi')) (h1 : lo ≤ lo') (h2 : hi' ≤ hi) : RowsIn W lo hi (rs ++ ss) := by
  refine ⟨fun r hr => ?_, List.pairwise_append.2 ⟨h.apart, k.apart, fun r hr s hs b e1 e2 => ?_⟩⟩
  · rcases List.mem_append.1 hr with hr | hr
    · exact h.own r hr
    · exact (k.own r hr).wide h1 h2
  · rcases k.own s hs with ⟨e, _⟩ | ⟨b2, _, f2, g3, g4, _⟩
    · rw [e] at e2; cases e2
    · rw [f2] at e2
      cases e2
      exact hd r hr _ e1 ⟨g3, g4⟩
/-- one more list joins -/
theorem BkV.join {W w3 : World} {K : Nat} {vo : Option Addr} {vc : Nat} {rs : List ZR} {mo : Option Addr} {M mc : Nat} {r : ZR} {v' : Value} {ob : Obj} (h : BkV W K vo vc rs mo M mc)
    (hown : w3.ownsRow 0 27 1 v' (rs.length + 1) (rs.map ZR.val ++ [r.val])) (hgr : (W.alloc ob).grownBy w3 (Value.slice vo rs.length vc).ownBlock)
    (hor : v'.ownBlock = (Value.slice vo rs.length vc).ownBlock ∨ ∀ g, v'.ownBlock = some g → (W.alloc ob).heap.size ≤ g) :
    ∃ vo' vc', v' = .slice vo' (rs.length + 1) vc' ∧ w3.heap[K]? = some (.cells #[.slice vo rs.length vc, .slice mo M mc, .slice none 0 0, .slice none 0 0] 43 (0, 0)) ∧
      BkV (w3.setCell ⟨K, 0, none⟩ (.slice vo' (rs.length + 1) vc')) K vo' vc' (rs ++ [r]) mo M mc ∧ Keeps W (w3.setCell ⟨K, 0, none⟩ (.slice vo' (rs.length + 1) vc')) (fun z => z = K ∨ (Value.slice vo rs.length vc).ownBlock = some z) ∧
      ((Value.slice vo' (rs.length + 1) vc').ownBlock = (Value.slice vo rs.length vc).ownBlock ∨ ∀ g, (Value.slice vo' (rs.length + 1) vc').ownBlock = some g → W.heap.size ≤ g) := by
  obtain ⟨vo', vc', rfl⟩ := own_formN hown
  have hk0 : Keeps W w3 (fun z => (Value.slice vo rs.length vc).ownBlock = some z) := ((gr_alloc W ob).mono fun _ _ h => h.elim).trans (Keeps.ofGrown hgr) (fun _ _ h => h)
  have hnK : ¬ (Value.slice vo rs.length vc).ownBlock = some K := fun e => by
    rcases h.own.2 with ⟨e0, _⟩ | ⟨g, cap, cur, e0, _, hg, _⟩
    · rw [e0] at e; simp [Value.ownBlock] at e
    · rw [e0] at e
      simp [Value.ownBlock] at e
      subst e
      have := h.box
      rw [hg] at this
      simp at this
  have hb3 := (hk0.block K (lt_of_heap h.box) hnK).trans h.box
  have hor' : (Value.slice vo' (rs.length + 1) vc').ownBlock = (Value.slice vo rs.length vc).ownBlock ∨ ∀ g, (Value.slice vo' (rs.length + 1) vc').ownBlock = some g → W.heap.size ≤ g := hor.imp id fun q g e => by have := q g e; simp at this; omega
  have hnK' : ∀ g, (Value.slice vo' (rs.length + 1) vc').ownBlock = some g → g ≠ K := fun g e => by
    rcases hor' with q | q
    · rw [q] at e; exact fun e2 => hnK (e2 ▸ e)
    · have := q g e; have := lt_of_heap h.box; omega
  refine ⟨vo', vc', rfl, hb3, ⟨?_, ?_⟩, (hk0.mono fun _ _ h => .inr h).setCell (p := ⟨K, 0, none⟩) (fun _ => .inl rfl) _, hor'⟩
  · rw [heap_setCell_same w3 K 0 _ _ _ hb3]
    simp
  · have hx : w3.ownsRow 0 27 1 (.slice vo' (rs ++ [r]).length vc') (rs ++ [r]).length ((rs ++ [r]).map ZR.val) := by simpa using hown
    exact row_kp hx fun g e => heap_setCell_other w3 _ g _ (hnK' g (by simpa using e))
theorem ZRow.kids {W : World} {D lo hi ca : Nat} {ao : Option Addr} {l : List VT} (h : ZRow W (D + 1) lo hi ao ca l) : ZR.own W lo hi (ao, l.length, ca) ∧ ∃ A B : Nat → Nat, (∀ i, i < l.length → lo ≤ A i ∧ B i ≤ hi ∧ ∀ b, ao = some ⟨b, 0, none⟩ → ¬ (A i ≤ b ∧ b < B i)) ∧ (∀ i j, i < j → j < l.length → B i ≤ A j) ∧
    ∀ i (h : i < l.length), ∃ b ao' ca', ao = some ⟨b, 0, none⟩ ∧ (lo ≤ b ∧ b < hi) ∧ VCells W b (i * 4) l[i] ao' ca' ∧ ZRow W D (A i) (B i) ao' ca' l[i].list := by
  rcases h with ⟨rfl, rfl, rfl⟩ | ⟨b, cur, rfl, h1, h2, h3, h4, h5, h6, h7, A, B, h8, h9, h10⟩
  · exact ⟨.inl ⟨rfl, rfl, rfl⟩, fun _ => 0, fun _ => 0, fun i hi => by simp at hi, fun i j _ hj => by simp at hj, fun i hi => by simp at hi⟩
  · refine ⟨.inr ⟨b, cur, rfl, h1, h2, h3, h4, h5, h6, h7⟩, A, B, fun i hi => ?_, h9, fun i hi => ?_⟩
    · obtain ⟨e1, e2, e3, e4⟩ := h8 i hi
      exact ⟨e1, e3, fun b' e => by cases e; exact e4⟩
    · obtain ⟨ao', ca', hc, _, hr⟩ := h10 i hi
      exact ⟨b, ao', ca', rfl, ⟨h1, h2⟩, hc, hr⟩
def cntK (D : Nat) (l : List VT) (k : Nat) : Nat := 1 + ((l.take k).map fun x => cnt D x.list).sum
theorem cntK_next {D : Nat} {l : List VT} {k : Nat} (h : k < l.length) : cntK D l (k + 1) = cntK D l k + cnt D l[k].list := by
  unfold cntK
  rw [List.take_succ_eq_append_getElem h, List.map_append, List.sum_append]
  simp
  omega
theorem cntK_le {D : Nat} {l : List VT} : ∀ k, cntK D l k ≤ cnt (D + 1) l := fun k => by
  have e : (l.map fun x => cnt D x.list).sum = ((l.take k).map fun x => cnt D x.list).sum + ((l.drop k).map fun x => cnt D x.list).sum := by
    rw [← List.sum_append, ← List.map_append, List.take_append_drop]
  unfold cntK
  rw [cnt, e]
  omega
/-- while Values walks a list: its rows lie where they should -/
structure VsI (W : World) (K : Nat) (vo : Option Addr) (vc : Nat) (rs0 : List ZR) (mo : Option Addr) (M mc lo hi : Nat) (ao : Option Addr) (A B : Nat → Nat) (cn : Nat) (k : Nat) (wr : World) (vo' : Option Addr) (vc' : Nat) (rs : List ZR) : Prop where
  q : VsQ W K vo vc rs0 mo M mc lo hi cn wr vo' vc' rs
  at_ : ∀ r ∈ rs, ∀ x, r.1 = some ⟨x, 0, none⟩ → ao = some ⟨x, 0, none⟩ ∨ ∃ i, i < k ∧ A i ≤ x ∧ x < B i
/-- a child's rows join -/
theorem VsI.next {W wr w2 : World} {K : Nat} {vo : Option Addr} {vc : Nat} {rs0 : List ZR} {mo : Option Addr} {M mc lo hi : Nat} {ao : Option Addr} {A B : Nat → Nat} {cn k n cn2 : Nat} {vo' vo2 : Option Addr} {vc' vc2 : Nat} {rs rs2 : List ZR}
    (h : VsI W K vo vc rs0 mo M mc lo hi ao A B cn k wr vo' vc' rs) (hk : k < n) (hAB : ∀ i, i < n → lo ≤ A i ∧ B i ≤ hi ∧ ∀ b, ao = some ⟨b, 0, none⟩ → ¬ (A i ≤ b ∧ b < B i)) (hch : ∀ i j, i < j → j < n → B i ≤ A j) (hK : hi ≤ K) (hv : ∀ g, (Value.slice vo rs0.length vc).ownBlock = some g → hi ≤ g) (hh : hi ≤ W.heap.size)
    (q2 : VsQ wr K vo' vc' (rs0 ++ rs) mo M mc (A k) (B k) cn2 w2 vo2 vc2 rs2) : VsI W K vo vc rs0 mo M mc lo hi ao A B (cn + cn2) (k + 1) w2 vo2 vc2 (rs ++ rs2) := by
  have hs := h.q.kp.size
  have hown : ∀ g, (Value.slice vo' (rs0 ++ rs).length vc').ownBlock = some g → (Value.slice vo rs0.length vc).ownBlock = some g ∨ W.heap.size ≤ g := fun g e => by
    rcases h.q.own with q | q
    · exact .inl (q ▸ e)
    · exact .inr (q g e)
  have hkeep : ∀ b, lo ≤ b → b < hi → w2.heap[b]? = wr.heap[b]? := fun b h1 h2 => q2.kp.block b (by omega) (by
    rintro (e | e)
    · omega
    · rcases hown b e with q | q
      · have := hv b q; omega
      · omega)
  refine ⟨⟨by rw [List.length_append]; have := h.q.len; have := q2.len; omega, by rw [← List.append_assoc]; exact q2.bk, ?_, ?_, ?_⟩, fun r hr x e => ?_⟩
  · refine RowsIn.appendP (h.q.rows.kept hkeep) q2.rows (fun r hr x e => ?_) (hAB k hk).1 (hAB k hk).2.1
    rcases h.at_ r hr x e with q | ⟨i, hi', q1, q2⟩
    · exact (hAB k hk).2.2 x q
    · have := hch i k hi' hk; omega
  · refine h.q.kp.trans q2.kp (fun j hj e => ?_)
    rcases e with e | e
    · exact .inl e
    · rcases hown j e with q | q
      · exact .inr q
      · omega
  · rw [← List.append_assoc]
    rcases q2.own with q | q
    · rw [q]; exact h.q.own
    · exact .inr fun g e => by have := q g e; omega
  · rcases List.mem_append.1 hr with hr | hr
    · rcases h.at_ r hr x e with q | ⟨i, hi', q⟩
      · exact .inl q
      · exact .inr ⟨i, by omega, q⟩
    · rcases q2.rows.own r hr with ⟨e0, _⟩ | ⟨b, _, e0, g1, g2, _⟩
      · rw [e0] at e; cases e
      · rw [e0] at e
        cases e
        exact .inr ⟨k, by omega, g1, g2⟩
set_option maxRecDepth 100000 in
set_option maxHeartbeats 4000000 in
theorem values_step (D : Nat)
    (W : World) (K : Nat) (vo : Option Addr) (vc : Nat) (rs0 : List ZR) (mo : Option Addr) (M mc lo hi : Nat) (ao : Option Addr) (ca : Nat) (l : List VT) (hz : ZRow W (D + 1) lo hi ao ca l) (hb : BkV W K vo vc rs0 mo M mc) (hK : hi ≤ K) (hv : ∀ g, (Value.slice vo rs0.length vc).ownBlock = some g → hi ≤ g) (hh : hi ≤ W.heap.size) (hc : rs0.length + cnt (D + 1) l ≤ 1000000000)
    (h37 : l ≠ [] → ∀ (W : World) (K : Nat) (vo : Option Addr) (vc : Nat) (rs0 : List ZR) (mo : Option Addr) (M mc lo hi : Nat) (ao : Option Addr) (ca : Nat) (l : List VT), ZRow W D lo hi ao ca l → BkV W K vo vc rs0 mo M mc → hi ≤ K → (∀ g, (Value.slice vo rs0.length vc).ownBlock = some g → hi ≤ g) → hi ≤ W.heap.size → rs0.length + cnt D l ≤ 1000000000 →
      Calls Tryd.prog 37 #[.pointer (some ⟨K, 0, none⟩), .slice ao l.length ca] W fun e w' => e = .returned (.tuple #[]) ∧ ∃ vo' vc' rs, VsQ W K vo vc rs0 mo M mc lo hi (cnt D l) w' vo' vc' rs) :
    Calls Tryd.prog 37 #[.pointer (some ⟨K, 0, none⟩), .slice ao l.length ca] W fun e w' => e = .returned (.tuple #[]) ∧ ∃ vo' vc' rs, VsQ W K vo vc rs0 mo M mc lo hi (cnt (D + 1) l) w' vo' vc' rs := by
  have hlen : l.length ≤ 1000000000000 := hz.len.2
  have k0 : W.cell? ⟨K, 0, none⟩ = some (.slice vo rs0.length vc) := by simp [World.cell?, hb.box]
  have HB := hidM hb
  have HZ := hidM hz
  have H37 := hidM h37
  have HN := hidM (And.intro hK (And.intro hv (And.intro hh hc)))
  have h63 : rs0.length + 1 ≤ 9223372036854775807 := by rw [cnt] at hc; omega
  have h24 : (rs0.length + 1) * 24 ≤ 140737488355328 := by rw [cnt] at hc; omega
  obtain ⟨n, hn⟩ : ∃ n, n = l.length := ⟨_, rfl⟩
  have HNn := hidM hn
  rw [← hn] at hlen ⊢
  obtain ⟨N, hNN⟩ : ∃ N, N = rs0.length := ⟨_, rfl⟩
  rw [← hNN] at k0 h63 h24
  have HNN := hidM hNN
  clear hz hb hK hv hh hc h37 hn hNN
  go_enter Tryd.func37, Tryd.ntmps37
  go_wp2_with (at_builtin; refine Hid.out ?_)
  unfold Hid
  refine wpList_append_any _ rfl (.tmp 9) (.tmp 11) 40 40 rfl 27 (.slice none 0 0) 24 Tryd.underlying40 info27 rfl (.slice vo N vc) N (rs0.map ZR.val) rfl (by rw [HNN.out]; exact row_kp HB.out.own fun g e => Below.heap_alloc W _ g (own_lt HB.out.own g e)) _ 1 [.slice ao n ca] rfl (src_row1 W _ rfl) h63 h24 ?_
  intro v' w3 hown hgr hor
  have hN0 := HNN.out
  rw [hN0] at hown hgr hor
  obtain ⟨vo1, vc1, rfl, hb3, hB1, hk1, ho1⟩ := HB.out.join (r := (ao, n, ca)) hown hgr hor
  rw [← hN0] at hb3 hB1 hk1 ho1 ⊢
  have y0 : w3.cell? ⟨K, 0, none⟩ = some (.slice vo N vc) := by simp [World.cell?, hb3]
  have y1 := frz hb3 0
  obtain ⟨w4, hw4⟩ : ∃ w4, w3.setCell ⟨K, 0, none⟩ (.slice vo1 (N + 1) vc1) = w4 := ⟨_, rfl⟩
  rw [hw4] at hB1 hk1
  obtain ⟨hor0, A, B, hAB, hch, hkd⟩ := HZ.out.kids
  have hn0 := HNn.out
  have hNo := HN.out
  have HQ0 : Hid (VsI W K vo vc rs0 mo M mc lo hi ao A B (cntK D l 0) 0 w4 vo1 vc1 [(ao, n, ca)]) := by
    refine ⟨⟨by simp [cntK], hB1, ⟨fun r hr => ?_, List.pairwise_singleton _ _⟩, by rw [hN0] at hk1; exact hk1, ?_⟩, fun r hr x e => ?_⟩
    · obtain rfl := List.mem_singleton.1 hr
      rw [hn0]
      exact hor0.kept fun b h1 h2 => hk1.block b (by omega) (by
        rintro (e | e)
        · omega
        · rw [hN0] at e
          have := hNo.2.1 b e
          omega)
    · rw [hN0] at ho1
      simpa using ho1
    · obtain rfl := List.mem_singleton.1 hr
      exact .inl e
  have HK := hidM (And.intro hAB (And.intro hch hkd))
  have HW4 := hidM hw4
  clear hown hgr hor hb3 hB1 hk1 ho1 hor0 hAB hch hkd hw4 hN0 hn0 hNo
  go_wp2_with fail
  rw [HW4.out]
  clear y0 y1 HW4 k0 h63 h24
  go_loopw [4] (fun p wr => ∃ k : Nat, k ≤ n ∧ p = .int .i64 (k : Int) ∧ Hid (∃ vo' vc' rs, VsI W K vo vc rs0 mo M mc lo hi ao A B (cntK D l k) k wr vo' vc' rs)) (fun p _ => n - (intOf p).toNat)
  case atStart => exact ⟨0, by omega, rfl, _, _, _, HQ0.out⟩
  case round =>
    obtain ⟨k, hk, rfl, HI⟩ := hrel
    obtain ⟨vo', vc', rs, hI⟩ := HI.out
    by_cases hlt : k < n
    · have hkl : k < l.length := by have := HNn.out; omega
      have hNo := HN.out
      obtain ⟨hAB, hch, hkd⟩ := HK.out
      obtain ⟨b, ao', ca', rfl, hbb, hc, hr⟩ := hkd k hkl
      have hs := hI.q.kp.size
      have hown : ∀ g, (Value.slice vo' (rs0 ++ rs).length vc').ownBlock = some g → hi ≤ g := fun g e => by
        rcases hI.q.own with q | q
        · exact hNo.2.1 g (q ▸ e)
        · have := q g e; omega
      have keep : ∀ c, lo ≤ c → c < hi → wr.heap[c]? = W.heap[c]? := fun c h1 h2 => hI.q.kp.block c (by omega) (by
        rintro (e | e)
        · omega
        · have := hNo.2.1 c e; omega)
      obtain ⟨e1, e2, e3⟩ := hAB k hkl
      have hcn := cntK_next (D := D) hkl
      have hcl := cntK_le (D := D) (l := l) (k + 1)
      have hrl := hI.q.len
      have hcall := H37.out (fun e => by rw [e] at hkl; simp at hkl) wr K vo' vc' (rs0 ++ rs) mo M mc (A k) (B k) ao' ca' l[k].list (hr.kept fun c h1 h2 => keep c (by omega) (by omega)) hI.q.bk (by omega) (fun g e => by have := hown g e; omega) (by omega) (by rw [List.length_append]; omega)
      have c3 := (hc.kept (keep b hbb.1 hbb.2)).c3
      have HNx : Hid (∀ w2 vo2 vc2 rs2, VsQ wr K vo' vc' (rs0 ++ rs) mo M mc (A k) (B k) (cnt D l[k].list) w2 vo2 vc2 rs2 → VsI W K vo vc rs0 mo M mc lo hi (some ⟨b, 0, none⟩) A B (cntK D l (k + 1)) (k + 1) w2 vo2 vc2 (rs ++ rs2)) := fun w2 vo2 vc2 rs2 q2 => by
        rw [hcn]
        exact hI.next hkl hAB hch hNo.1 hNo.2.1 hNo.2.2.1 q2
      obtain ⟨f, hf⟩ : ∃ f, f = l[k]'hkl := ⟨_, rfl⟩
      rw [← hf] at hcall c3 HNx
      have H1 := hidM hcall
      have hltI : (k : Int) < (n : Int) := by omega
      clear hNo hAB hch hkd hbb hc hr hs hown keep e1 e2 e3 hcn hcl hrl hcall hf hI HI
      go_wp2_with (go_at_call 37; refine Hid.out ?_)
      unfold Hid
      refine Calls.mono H1.out ?_
      rintro e w2 ⟨rfl, vo2, vc2, rs2, q2⟩
      have HQ2 := hidM (HNx.out _ _ _ _ q2)
      clear q2 c3
      go_wp2_with fail
      exact ⟨⟨k + 1, by omega, by simp, _, _, _, HQ2.out⟩, by simp [intOf]; omega⟩
    · have hkn : k = n := by omega
      subst hkn
      have HF : Hid (∃ vo' vc' rs, VsQ W K vo vc rs0 mo M mc lo hi (cnt (D + 1) l) wr vo' vc' rs) := ⟨vo', vc', rs, ⟨Nat.le_trans hI.q.len (cntK_le k), hI.q.bk, hI.q.rows, hI.q.kp, hI.q.own⟩⟩
      clear hI HI
      go_wp2
      go_end0
      exact ⟨rfl, HF.out⟩
/-- all depths -/
theorem values_any : ∀ (D : Nat) (W : World) (K : Nat) (vo : Option Addr) (vc : Nat) (rs0 : List ZR) (mo : Option Addr) (M mc lo hi : Nat) (ao : Option Addr) (ca : Nat) (l : List VT), ZRow W D lo hi ao ca l → BkV W K vo vc rs0 mo M mc → hi ≤ K → (∀ g, (Value.slice vo rs0.length vc).ownBlock = some g → hi ≤ g) → hi ≤ W.heap.size → rs0.length + cnt D l ≤ 1000000000 →
      Calls Tryd.prog 37 #[.pointer (some ⟨K, 0, none⟩), .slice ao l.length ca] W fun e w' => e = .returned (.tuple #[]) ∧ ∃ vo' vc' rs, VsQ W K vo vc rs0 mo M mc lo hi (cnt D l) w' vo' vc' rs
  | 0, W, K, vo, vc, rs0, mo, M, mc, lo, hi, ao, ca, l, hz, hb, h1, h2, h3, h4 => by
    have e : cnt 0 l = cnt (0 + 1) l := by rw [cnt, cnt, hz.1]; rfl
    rw [e] at h4 ⊢
    exact values_step 0 W K vo vc rs0 mo M mc lo hi ao ca l (hz.more (by omega)) hb h1 h2 h3 h4 (fun hne => absurd hz.1 hne)
  | D + 1, W, K, vo, vc, rs0, mo, M, mc, lo, hi, ao, ca, l, hz, hb, h1, h2, h3, h4 => values_step D W K vo vc rs0 mo M mc lo hi ao ca l hz hb h1 h2 h3 h4 (fun _ => values_any D)
end Go.Proofs.YtcfdkadhclickaaDoor.Kit
namespace Go.Proofs.YtcfdkadhclickaaDoor.Kit
open Go.RowKit Go.Shelf Go.Deep
set_option linter.unusedVariables false
attribute [local go_sem] run_store_func

/-! ### Value 15 -/
theorem BkV.gr {W W' : World} {K : Nat} {vo : Option Addr} {vc : Nat} {rs : List ZR} {mo : Option Addr} {M mc : Nat} (h : BkV W K vo vc rs mo M mc) (g : Gr W W') : BkV W' K vo vc rs mo M mc :=
  ⟨(g.block K (lt_of_heap h.box) id).trans h.box, row_kp h.own fun b e => g.block b (own_lt h.own b e) id⟩
set_option maxRecDepth 100000 in
theorem value15 {D : Nat} {W : World} {K : Nat} {vo : Option Addr} {vc : Nat} {rs0 : List ZR} {mo : Option Addr} {M mc lo hi : Nat} {ao : Option Addr} {ca : Nat} {v : VT} (hz : ZRow W D lo hi ao ca v.list) (hb : BkV W K vo vc rs0 mo M mc) (hK : hi ≤ K) (hv : ∀ g, (Value.slice vo rs0.length vc).ownBlock = some g → hi ≤ g) (hh : hi ≤ W.heap.size) (hc : rs0.length + cnt D v.list ≤ 1000000000) :
    Calls Tryd.prog 15 #[.pointer (some ⟨K, 0, none⟩), .agg #[.bool v.nul, .int .i64 v.num, .string v.text, .slice ao v.list.length ca]] W fun e w' => e = .returned (.tuple #[]) ∧ ∃ vo' vc' rs, VsQ W K vo vc rs0 mo M mc lo hi (cnt D v.list) w' vo' vc' rs := by
  have gA : Gr W (W.alloc (.cells #[.bool v.nul, .int .i64 v.num, .string v.text, .slice ao v.list.length ca] 29)) := gr_alloc W _
  have hcall := values_any D _ K vo vc rs0 mo M mc lo hi ao ca v.list (hz.kept fun b h1 h2 => gA.block b (by omega) id) (hb.gr gA) hK hv (Nat.le_trans hh gA.size) hc
  have H := hidM hcall
  have HG := hidM gA
  clear hz hb hK hv hh hc gA hcall
  go_enter Tryd.func15, Tryd.ntmps15
  go_wp2_with (go_at_call 37; refine Hid.out ?_)
  unfold Hid
  refine Calls.mono H.out ?_
  rintro e w2 ⟨rfl, vo', vc', rs, q⟩
  have hq : VsQ W K vo vc rs0 mo M mc lo hi (cnt D v.list) w2 vo' vc' rs := ⟨q.len, q.bk, q.rows, (HG.out.mono fun _ _ h => h.elim).trans q.kp (fun _ _ h => h), q.own.imp id fun k g e => Nat.le_trans HG.out.size (k g e)⟩
  have HQ := hidM hq
  clear q hq
  go_wp2_with fail
  go_end0
  exact ⟨rfl, _, _, _, HQ.out⟩
/-! ### Apart: the marks -/
/-- a row's first k values bear the mark i; the row is one's own -/
structure Mk (W : World) (lo hi : Nat) (r : ZR) (i k : Nat) : Prop where
  own : r.own W lo hi
  mark : MarkRow W r.1 k i
theorem MarkRow.kept {W W' : World} {b len i : Nat} (h : MarkRow W (some ⟨b, 0, none⟩) len i) (e : W'.heap[b]? = W.heap[b]?) : MarkRow W' (some ⟨b, 0, none⟩) len i := by
  intro x hx
  obtain ⟨b', hb', c0, c1, c2, c3⟩ := h x hx
  cases hb'
  have k : ∀ j, W'.cell? ⟨b, j, none⟩ = W.cell? ⟨b, j, none⟩ := fun j => World.cell?_of_block (w := W) e
  exact ⟨b, rfl, (k _).trans c0, (k _).trans c1, (k _).trans c2, (k _).trans c3⟩
theorem MarkRow.zero (W : World) (ao : Option Addr) (i : Nat) : MarkRow W ao 0 i := fun _ h => by omega
/-- one more value of a row is marked -/
theorem mark_next {W : World} {b k i cap : Nat} {cur : Array Value} (hr : W.heap[b]? = some (.cells cur 29 (0, 0))) (hs : cur.size = cap * 4) (hk : k < cap) (h : MarkRow W (some ⟨b, 0, none⟩) k i) :
    MarkRow ((((W.setCell ⟨b, k * 4, none⟩ (.bool false)).setCell ⟨b, k * 4 + 1, none⟩ (.int .i64 (1000 + (i : Int)))).setCell ⟨b, k * 4 + 2, none⟩ (.string ⟨#[]⟩)).setCell ⟨b, k * 4 + 3, none⟩ (.slice none 0 0)) (some ⟨b, 0, none⟩) (k + 1) i := by
  have h1 := heap_setCell_same W b (k * 4) cur 29 (.bool false) hr
  have h2 := heap_setCell_same _ b (k * 4 + 1) _ 29 (.int .i64 (1000 + (i : Int))) h1
  have h3 := heap_setCell_same _ b (k * 4 + 2) _ 29 (.string ⟨#[]⟩) h2
  intro e he
  by_cases q : e = k
  · subst q
    refine ⟨b, rfl, ?_, ?_, ?_, ?_⟩
    · rw [cell_set_ne (by omega), cell_set_ne (by omega), cell_set_ne (by omega)]
      exact cell_set_same hr (by omega)
    · rw [cell_set_ne (by omega), cell_set_ne (by omega)]
      exact cell_set_same h1 (by simp; omega)
    · rw [cell_set_ne (by omega)]
      exact cell_set_same h2 (by simp; omega)
    · exact cell_set_same h3 (by simp; omega)
  · obtain ⟨b', hb', c0, c1, c2, c3⟩ := h e (by omega)
    cases hb'
    refine ⟨b, rfl, ?_, ?_, ?_, ?_⟩
    · rw [cell_set_ne (by omega), cell_set_ne (by omega), cell_set_ne (by omega), cell_set_ne (by omega)]; exact c0
    · rw [cell_set_ne (by omega), cell_set_ne (by omega), cell_set_ne (by omega), cell_set_ne (by omega)]; exact c1
    · rw [cell_set_ne (by omega), cell_set_ne (by omega), cell_set_ne (by omega), cell_set_ne (by omega)]; exact c2
    · rw [cell_set_ne (by omega), cell_set_ne (by omega), cell_set_ne (by omega), cell_set_ne (by omega)]; exact c3
end Go.Proofs.YtcfdkadhclickaaDoor.Kit
namespace Go.Proofs.YtcfdkadhclickaaDoor.Kit
open Go.RowKit Go.Shelf Go.Deep
set_option linter.unusedVariables false

/-! ### fitsAgain: what its calls answer -/
theorem RowAt.low {S : Nat → Prop} {W : World} : ∀ {d e : Nat} {ao : Option Addr} {l : List FT}, Kit.deep d l → RowAt S W e ao l → RowAt S W d ao l
  | 0, _, _, _, hd, _ => hd
  | d + 1, 0, _, l, hd, h => by have : l = [] := h; subst this; exact ⟨by simp [big], fun h => absurd rfl h⟩
  | d + 1, e + 1, _, l, hd, h => ⟨h.1, fun hn => by
    obtain ⟨b, o, e0, hb, hi⟩ := h.2 hn
    refine ⟨b, o, e0, hb, fun i hl => ?_⟩
    obtain ⟨ao', ca', hc, hle, hr⟩ := hi i hl
    exact ⟨ao', ca', hc, hle, RowAt.low (hd _ (List.getElem_mem hl)) hr⟩⟩
/-- a field, as the calls see it, and just when it may be -/
theorem fld_iff {D : Nat} {w : World} {f : FT} {ao : Option Addr} {ca : Nat} (hT : Tab w) (hU : Lib.Utf8Tabs 1 2 w) (hf : RowAt (fun b => b < w.heap.size) w D ao f.kids) (hca : f.kids.length ≤ ca) (hD : D + 1 ≤ big) :
    ∃ mb : Bool, FldB w D f ao ca mb ∧ (mb = true ↔ AllR (nodes (D + 1) [f] [] false)) ∧ (mb = true → okD (D + 1) f) := by
  have hS : ∀ b, (fun b => b < w.heap.size) b → b < w.heap.size := fun _ h => h
  obtain ⟨er, p, tt, hF⟩ := fault_is (0, 0) (nodes (D + 1) [f] [] false)
  have h46 : Tells w 46 (.agg #[.string f.name, .bool f.nul, .int .i64 f.kind, .int .i64 f.width, .int .i64 f.id, .int .i64 f.index, .slice ao f.kids.length ca]) er p.tail tt := fun W g => by
    refine Calls.mono (checkField_any _ D f ao ca W (hT.gr g) (hf.kept fun b hb => g.block b (hS b hb) id) hca hD (fun b hb => by have := hS b hb; have := g.size; omega)) ?_
    rintro e w' ⟨er', p', vo, vc, tt', rfl, hg, h1, h2⟩
    obtain ⟨rfl, rfl, rfl⟩ := hF.one h1
    exact ⟨vo, vc, rfl, hg, h2⟩
  have h48 : Tells w 48 (.agg #[.string f.name, .bool f.nul, .int .i64 f.kind, .int .i64 f.width, .int .i64 f.id, .int .i64 f.index, .slice ao f.kids.length ca]) er p.tail tt := fun W g => by
    refine Calls.mono (checkFieldR_any _ D f ao ca W (hf.kept fun b hb => g.block b (hS b hb) id) hca (fun b hb => by have := hS b hb; have := g.size; omega)) ?_
    rintro e w' ⟨er', p', vo, vc, tt', rfl, hg, h1, h2⟩
    obtain ⟨rfl, rfl, rfl⟩ := hF.cut.one h1
    exact ⟨vo, vc, rfl, hg, h2⟩
  have hall : (er == 0) = true → AllR (nodes (D + 1) [f] [] false) := fun h => by
    rcases hF with ⟨h0, _⟩ | ⟨_, hA, _⟩ | ⟨_, L, x, _, _, hne, he, _⟩
    · exact absurd rfl h0
    · exact hA
    · exact absurd (by rw [← he]; exact beq_iff_eq.1 h) hne
  refine ⟨er == 0, ⟨hU, hf, mayBe_any h46, right26 h48, fun h => ⟨(hall h).okF hf.deep, (hall h).okN hf.deep⟩⟩, ⟨hall, fun h => ?_⟩, fun h => (hall h).okD hf.deep⟩
  obtain ⟨rfl, _⟩ := hF.one (.inr (.inl ⟨rfl, h, rfl, rfl, rfl⟩))
  rfl
theorem FldB.fits6 {w : World} {D d : Nat} {f : FT} {ao : Option Addr} {ca : Nat} {mb : Bool} {a : VT} {uo : Option Addr} {uc : Nat} (h : FldB w D f ao ca mb) (ha : ValB w d a uo) : IAns 6 #[.agg #[.string f.name, .bool f.nul, .int .i64 f.kind, .int .i64 f.width, .int .i64 f.id, .int .i64 f.index, .slice ao f.kids.length ca], .agg #[.bool a.nul, .int .i64 a.num, .string a.text, .slice uo a.list.length uc]] (fitE mb (fitB D f a)) w :=
  val6 h.utf h.row (fun _ h => h) h.c24 (fun e => (h.ok e).1) ha.ok ha.row
/-- Nullable turned -/
def tog (f : FT) : FT := .mk f.name (!f.nul) f.kind f.width f.id f.index f.kids
def togK (f : FT) : FT := .mk f.name f.nul f.kind f.width f.id f.index (f.kids.map tog)
/-- the copy's fields are turned: it is a field as well -/
theorem tog_row {V W : World} {D lo hi gb : Nat} {l : List FT} (hC : CRow V D lo hi (some ⟨gb, 0, none⟩) l) (hh : hi ≤ V.heap.size) (ht : Tog V W gb l.length l.length) : RowAt (fun b => b < W.heap.size) W (D + 1) (some ⟨gb, 0, none⟩) (l.map tog) := by
  obtain ⟨b, cur, e, h1, h2, h3, h4, h5, h6⟩ := hC
  cases e
  have hs := ht.kp.size
  refine ⟨by simpa using h5, fun _ => ⟨gb, 0, rfl, by omega, fun i hi => ?_⟩⟩
  have hil : i < l.length := by simpa using hi
  obtain ⟨ao', hc, hr⟩ := h6 i hil
  have o : ∀ j, j < 7 → j ≠ 1 → W.cell? ⟨gb, i * 7 + j, none⟩ = V.cell? ⟨gb, i * 7 + j, none⟩ := fun j hj hj1 => ht.old _ fun i' _ => by omega
  refine ⟨ao', l[i].kids.length, ?_, by simp [tog, FT.kids], ?_⟩
  · rw [Nat.zero_add, List.getElem_map]
    exact ⟨(o 0 (by omega) (by omega)).trans hc.c0, ht.new i hil _ hc.c1, (o 2 (by omega) (by omega)).trans hc.c2, (o 3 (by omega) (by omega)).trans hc.c3, (o 4 (by omega) (by omega)).trans hc.c4, (o 5 (by omega) (by omega)).trans hc.c5, (o 6 (by omega) (by omega)).trans hc.c6⟩
  · rw [List.getElem_map]
    exact (hr.kept fun z hz => ht.kp.block z (by omega) (by omega)).mono fun z hz => by omega
theorem ag3 {w V W : World} {D d lo hi gb tb : Nat} {f : FT} {v : VT} (hT : Tab w) (hU : Lib.Utf8Tabs 1 2 w) (hg : Gr w W) (hD : D + 2 ≤ big) (hC : CRow V D lo hi (some ⟨gb, 0, none⟩) f.kids) (hh : hi ≤ V.heap.size) (ht : Tog V W gb f.kids.length f.kids.length) (hv : ValB W d v (some ⟨tb, 0, none⟩)) :
    Ag3 W (.agg #[.string f.name, .bool f.nul, .int .i64 f.kind, .int .i64 f.width, .int .i64 f.id, .int .i64 f.index, .slice (some ⟨gb, 0, none⟩) f.kids.length f.kids.length]) (.agg #[.bool v.nul, .int .i64 v.num, .string v.text, .slice (some ⟨tb, 0, none⟩) v.list.length (v.list.length + 2)]) := by
  have hr := tog_row hC hh ht
  obtain ⟨mb, hF, _, _⟩ := fld_iff (f := togK f) (ca := f.kids.length) (hT.gr hg) (Utf8Tabs_below hU (Keeps.below hg (fun _ _ h => h.elim) (Nat.le_refl _))) hr (by simp [togK, FT.kids]) hD
  have f7 := hF.fits7 (uc := v.list.length + 2) hv
  have f6 := hF.fits6 (uc := v.list.length + 2) hv
  have z12 := hF.zero12
  have z13 := hF.zero13
  obtain ⟨e, he⟩ : ∃ e, e = fitE mb (fitB (D + 1) (togK f) v) := ⟨_, rfl⟩
  obtain ⟨zv, hzv⟩ : ∃ z, z = zA mb (zW (D + 1 + 1) (togK f)) (zV (D + 1 + 1) (togK f)) := ⟨_, rfl⟩
  rw [← he] at f7 f6
  rw [← hzv] at z12 z13
  have hl : (togK f).kids.length = f.kids.length := by simp [togK, FT.kids]
  rw [hl] at f7 f6 z12 z13
  exact ⟨⟨e, f7, f6⟩, ⟨zv.1, zv.2, _, z12, z13⟩⟩
theorem ag2 {w V : World} {D d lo hi gb tb : Nat} {f : FT} {v : VT} (hT : Tab w) (hU : Lib.Utf8Tabs 1 2 w) (hg : Gr w V) (hD : D + 2 ≤ big) (hC : CRow V D lo hi (some ⟨gb, 0, none⟩) f.kids) (hlo : w.heap.size ≤ lo) (hh : hi ≤ V.heap.size) (hv : ValB V d v (some ⟨tb, 0, none⟩)) (hap : ∀ V' W, Gr V V' → Tog V' W gb f.kids.length f.kids.length → ValB W d v (some ⟨tb, 0, none⟩)) :
    Ag2 V (.agg #[.string f.name, .bool f.nul, .int .i64 f.kind, .int .i64 f.width, .int .i64 f.id, .int .i64 f.index, .slice (some ⟨gb, 0, none⟩) f.kids.length f.kids.length]) (.agg #[.bool v.nul, .int .i64 v.num, .string v.text, .slice (some ⟨tb, 0, none⟩) v.list.length (v.list.length + 2)]) gb f.kids.length := by
  have hr : RowAt (fun b => b < V.heap.size) V (D + 1) (some ⟨gb, 0, none⟩) f.kids := hC.row.mono fun z hz => by omega
  obtain ⟨mb, hF, _, _⟩ := fld_iff (ca := f.kids.length) (hT.gr hg) (Utf8Tabs_below hU (Keeps.below hg (fun _ _ h => h.elim) (Nat.le_refl _))) hr (Nat.le_refl _) hD
  have hC' := hC
  obtain ⟨b, cur, e, h1, h2, h3, h4, h5, h6⟩ := hC
  cases e
  refine ⟨⟨_, hF.fits7 hv, hF.fits6 hv⟩, ⟨cur, h3, h4⟩, fun i hi => ?_, fun V' W g ht => ?_⟩
  · obtain ⟨_, hc, _⟩ := h6 i hi
    exact ⟨_, hc.c1⟩
  · have gs := g.size
    have gw : Gr w W := (hg.trans g (fun _ _ h => h)).trans ht.kp (fun j hj e => by omega)
    exact ag3 hT hU gw hD (hC'.kept fun c _ q => g.block c (by omega) id) (by omega) ht (hap V' W g ht)
end Go.Proofs.YtcfdkadhclickaaDoor.Kit
