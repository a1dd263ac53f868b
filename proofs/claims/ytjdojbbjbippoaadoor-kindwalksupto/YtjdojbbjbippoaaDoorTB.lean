import Derived.Test.YtjdojbbjbippoaaDoorTA
namespace Go.Proofs.YtjdojbbjbippoaaDoor.Kit
open Go.RowKit Go.Shelf Go.Deep
set_option linter.unusedVariables false
attribute [local go_sem] run_store_func

/-! ### copied 22, copiedType 26: fields in memory of their own -/
structure CopT (W : World) (d n : Nat) (l : List FT) (vo : Option Addr) (vc : Nat) (w' : World) : Prop where
  g : Gr W w'
  row : Tr w' d W.heap.size w'.heap.size vo vc l
theorem CopT.kept {w W0 W1 W' : World} {S : Nat → Prop} {d n vc : Nat} {l : List FT} {vo : Option Addr} (hg : Gr w W0) (hq : CopT W0 d n l vo vc W1) (k : Keeps W1 W' S) (hS : ∀ b, S b → w.heap.size ≤ b ∧ b < W0.heap.size) : CopT w d n l vo vc W' := by
  refine ⟨(hg.trans hq.g (fun _ _ h => h)).trans k (fun j hj h => by have := hS j h; omega), ?_⟩
  exact (hq.row.kept fun b hb hb2 => k.block b hb2 (fun h => by have := (hS b h).2; omega)).wide hg.size k.size
theorem wpList_append_none {P : Program} (w : World) {ops : Array Oper} {rest : List Oper} {o : Oper} {a : Act} {Q : Exit → Act → World → Prop} (hgd : o.guard = none) (s x : Operand) (t tx : TypeId)
    (ho : o.op = .call { callee := .builtin .append, args := #[s, x], argTypes := #[t, tx] })
    (e : TypeId) (z : Value) (size bytes : Nat) (ht : P.underlying t = some (.slice e)) (hinfo : (P.info? e).map (fun i => (i.zero, i.size, i.bytes)) = some (some z, size, bytes)) (hv : a.eval s = .slice none 0 0) (y : Value) (hx : a.eval x = y) (hs : Src P size tx y 0 [] w)
    (h : wpList P ops Q rest (a.put o.dst (.slice none 0 0)) w) :
    wpList P ops Q (o :: rest) a w := by
  refine wpList_plain hgd fun K hK' => ?_
  obtain ⟨i, hi, hzz⟩ := Option.map_eq_some_iff.1 hinfo
  simp only [Prod.mk.injEq] at hzz
  obtain ⟨hz, hsz, hb⟩ := hzz
  have hr : (Builtin.append_ #[t, tx] o.type #[.slice none 0 0, y]).run P w = .ok (.slice none 0 0) w := by
    have hc := hs.cells
    have hl := hs.len
    rcases hs.kind with ⟨e', hk⟩ | hk <;> simp [Builtin.append_, run_underlying ht, run_underlying hk, sizeOf, typeInfo, hi, hsz, hl, hc]
  unfold Oper.wp
  simp [execOp, ho, resolve, invoke, builtin, hv, hx, hr, Result.andThen]
  exact hK' _ _ h
set_option maxRecDepth 100000 in
set_option maxHeartbeats 2000000 in
theorem copiedType_T (k d0 i x : Int) (ao : Option Addr) (n ca d : Nat) (l : List FT) (w : World) (h58 : ∀ W, Gr w W → Calls Tryd.prog 22 #[.slice ao n ca] W fun e w' => ∃ vo vc, e = .returned (.slice vo n vc) ∧ CopT W d n l vo vc w') :
    Calls Tryd.prog 26 #[.agg #[.int .i64 k, .int .i64 d0, .int .i64 i, .int .i64 x, .slice ao n ca]] w fun e w' => ∃ vo vc, e = .returned (.agg #[.int .i64 k, .int .i64 d0, .int .i64 i, .int .i64 x, .slice vo n vc]) ∧ CopT w d n l vo vc w' := by
  have H := hidM h58
  clear h58
  obtain ⟨W0, hW0⟩ : ∃ W0, (w.alloc (.cells #[.int .i64 k, .int .i64 d0, .int .i64 i, .int .i64 x, .slice ao n ca] 36)).alloc (.cells #[.int .i64 0, .int .i64 0, .int .i64 0, .int .i64 0, .slice none 0 0] 36) = W0 := ⟨_, rfl⟩
  have hg0 : Gr w W0 := by rw [← hW0]; exact (gr_alloc w _).alloc _
  have hs0 : W0.heap.size = w.heap.size + 2 := by rw [← hW0]; simp
  have x1 : W0.heap[w.heap.size]? = some (.cells #[.int .i64 k, .int .i64 d0, .int .i64 i, .int .i64 x, .slice ao n ca] 36) := by
    rw [← hW0]; exact (Below.heap_alloc _ _ _ (by simp)).trans (World.alloc_heap_new w _)
  have x2 : W0.heap[w.heap.size + 1]? = some (.cells #[.int .i64 0, .int .i64 0, .int .i64 0, .int .i64 0, .slice none 0 0] 36) := by
    rw [← hW0]
    have := World.alloc_heap_new (w.alloc (.cells #[.int .i64 k, .int .i64 d0, .int .i64 i, .int .i64 x, .slice ao n ca] 36)) (.cells #[.int .i64 0, .int .i64 0, .int .i64 0, .int .i64 0, .slice none 0 0] 36)
    rw [World.size_alloc] at this
    exact this
  have p4 : W0.cell? ⟨w.heap.size, 4, none⟩ = some (.slice ao n ca) := by simp [World.cell?, x1]
  have HX := hidM (And.intro hg0 (And.intro hs0 (And.intro x1 x2)))
  clear x1 x2 hg0 hs0
  go_enter Tryd.func26, Tryd.ntmps26
  go_wp2_with (go_at_call 22; refine Hid.out ?_)
  unfold Hid
  try rw [hW0]
  refine Calls.mono (H.out _ HX.out.1) ?_
  rintro e W1 ⟨vo, vc, rfl, hq⟩
  have y1 := (hq.g.block _ (lt_of_heap HX.out.2.2.1) id).trans HX.out.2.2.1
  have y2 := (hq.g.block _ (lt_of_heap HX.out.2.2.2) id).trans HX.out.2.2.2
  have f1 := frz y1 4
  have q4 : W1.cell? ⟨w.heap.size, 4, none⟩ = some (.slice ao n ca) := by simp [World.cell?, y1]
  obtain ⟨W2, hW2⟩ : ∃ W2, W1.setCell ⟨w.heap.size, 4, none⟩ (.slice vo n vc) = W2 := ⟨_, rfl⟩
  have z1 : W2.heap[w.heap.size]? = some (.cells #[.int .i64 k, .int .i64 d0, .int .i64 i, .int .i64 x, .slice vo n vc] 36) := by
    rw [← hW2, setc (j := 4) y1]; simp
  have z2 : W2.heap[w.heap.size + 1]? = some (.cells #[.int .i64 0, .int .i64 0, .int .i64 0, .int .i64 0, .slice none 0 0] 36) := by
    rw [← hW2, heap_setCell_other W1 _ _ _ (by simp)]; exact y2
  have a0 : W2.cell? ⟨w.heap.size, 0, none⟩ = some (.int .i64 k) := by simp [World.cell?, z1]
  have a1 : W2.cell? ⟨w.heap.size, 1, none⟩ = some (.int .i64 d0) := by simp [World.cell?, z1]
  have a2 : W2.cell? ⟨w.heap.size, 2, none⟩ = some (.int .i64 i) := by simp [World.cell?, z1]
  have a3 : W2.cell? ⟨w.heap.size, 3, none⟩ = some (.int .i64 x) := by simp [World.cell?, z1]
  have a4 : W2.cell? ⟨w.heap.size, 4, none⟩ = some (.slice vo n vc) := by simp [World.cell?, z1]
  have b0 : W2.cell? ⟨w.heap.size + 1, 0, none⟩ = some (.int .i64 0) := by simp [World.cell?, z2]
  have b1 : W2.cell? ⟨w.heap.size + 1, 1, none⟩ = some (.int .i64 0) := by simp [World.cell?, z2]
  have b2 : W2.cell? ⟨w.heap.size + 1, 2, none⟩ = some (.int .i64 0) := by simp [World.cell?, z2]
  have b3 : W2.cell? ⟨w.heap.size + 1, 3, none⟩ = some (.int .i64 0) := by simp [World.cell?, z2]
  have b4 : W2.cell? ⟨w.heap.size + 1, 4, none⟩ = some (.slice none 0 0) := by simp [World.cell?, z2]
  have fz := fun j => frz z2 j
  have g0 := fz 0
  have g1 := fz 1
  have g2 := fz 2
  have g3 := fz 3
  have g4 := fz 4
  have kk : Keeps W1 W2 (fun b => b = w.heap.size) := by rw [← hW2]; exact keep1 (j := 4) (Keeps.refl W1 (fun b => b = w.heap.size)) _
  have s0 := setc (j := 0) z2 (.int .i64 k)
  have s1 := setc (j := 1) s0 (.int .i64 d0)
  have s2 := setc (j := 2) s1 (.int .i64 i)
  have s3 := setc (j := 3) s2 (.int .i64 x)
  have s4 := setc (j := 4) s3 (.slice vo n vc)
  have kz : Keeps W2 _ (fun b => b = w.heap.size + 1) := keep1 (j := 4) (keep1 (j := 3) (keep1 (j := 2) (keep1 (j := 1) (keep1 (j := 0) (Keeps.refl W2 (fun b => b = w.heap.size + 1)) (.int .i64 k)) (.int .i64 d0)) (.int .i64 i)) (.int .i64 x)) (.slice vo n vc)
  have HE := hidM (And.intro s4 (And.intro kz (And.intro kk hq)))
  clear y1 y2 z1 z2 s0 s1 s2 s3 s4 kz kk hq fz
  go_wp2_with fail
  obtain ⟨s4, kz, kk, hq⟩ := HE.out
  have kall : Keeps W1 _ (fun b => b = w.heap.size ∨ b = w.heap.size + 1) := (kk.mono fun _ _ h => .inl h).trans (kz.mono fun _ _ h => Or.inr h) (fun _ _ h => h)
  have hsz := HX.out.2.1
  have hfin := CopT.kept HX.out.1 hq kall (fun b hb => by omega)
  obtain ⟨v0, v1, v2, v3, v4⟩ := cell5 (s4.trans (by simp : _ = some (Obj.cells #[.int .i64 k, .int .i64 d0, .int .i64 i, .int .i64 x, .slice vo n vc] 36 (0, 0))))
  refine bodyPost_ret (v := .agg #[.int .i64 k, .int .i64 d0, .int .i64 i, .int .i64 x, .slice vo n vc]) ?_ rfl ⟨vo, vc, rfl, hfin⟩
  simp [results, Tryd.f26, go_sem, v0, v1, v2, v3, v4]

structure CopJ (W wr : World) (d : Nat) (l : List FT) (F : Nat → Option Addr × Nat) (g ca k : Nat) (A : Nat → Nat) : Prop where
  gr : Gr W wr
  ge : W.heap.size ≤ g
  box : ∃ cur, wr.heap[g]? = some (.cells cur 38 (0, 0)) ∧ cur.size = ca * 7
  a0 : g < A 0
  ak : A k ≤ wr.heap.size
  new : ∀ i (h : i < l.length), i < k → A i ≤ A (i + 1) ∧ ∃ ao' ca', CellsAt wr g (i * 7) l[i] ao' ca' ∧ Tr wr d (A i) (A (i + 1)) ao' ca' l[i].kids
  old : ∀ i (h : i < l.length), k ≤ i → CellsAt wr g (i * 7) l[i] (F i).1 (F i).2
theorem CopJ.next {W wr w2 : World} {d : Nat} {l : List FT} {F : Nat → Option Addr × Nat} {g ca k vc : Nat} {A : Nat → Nat} {vo : Option Addr} (h : CopJ W wr d l F g ca k A) (hk : k < l.length) (hq : CopT wr d l[k].kids.length l[k].kids vo vc w2) :
    ∃ A', CopJ W (((((w2.setCell ⟨g, k * 7 + 2, none⟩ (.int .i64 l[k].kind)).setCell ⟨g, k * 7 + 3, none⟩ (.int .i64 l[k].width)).setCell ⟨g, k * 7 + 4, none⟩ (.int .i64 l[k].id)).setCell ⟨g, k * 7 + 5, none⟩ (.int .i64 l[k].index)).setCell ⟨g, k * 7 + 6, none⟩ (.slice vo l[k].kids.length vc)) d l F g ca (k + 1) A' := by
  obtain ⟨cur, hb, hbs0⟩ := h.box
  have hgl : g < wr.heap.size := lt_of_heap hb
  have hb2 := (hq.g.block g hgl id).trans hb
  have kz := keep1 (j := k * 7 + 6) (keep1 (j := k * 7 + 5) (keep1 (j := k * 7 + 4) (keep1 (j := k * 7 + 3) (keep1 (j := k * 7 + 2) (Keeps.refl w2 (fun b => b = g)) (.int .i64 l[k].kind)) (.int .i64 l[k].width)) (.int .i64 l[k].id)) (.int .i64 l[k].index)) (.slice vo l[k].kids.length vc)
  have hbs := setc (j := k * 7 + 6) (setc (j := k * 7 + 5) (setc (j := k * 7 + 4) (setc (j := k * 7 + 3) (setc (j := k * 7 + 2) hb2 (.int .i64 l[k].kind)) (.int .i64 l[k].width)) (.int .i64 l[k].id)) (.int .i64 l[k].index)) (.slice vo l[k].kids.length vc)
  have hsz := hq.g.size
  have hks := kz.size
  have hak := h.ak
  have hA : ∀ i, i < k → A i ≤ A (i + 1) := fun i hi => (h.new i (by omega) hi).1
  have hg0 : g < A k := by have := chain_le hA (Nat.zero_le k) (Nat.le_refl _); have := h.a0; omega
  refine ⟨fun i => if i ≤ k then A i else w2.heap.size, (h.gr.trans hq.g (fun _ _ h => h)).trans kz (fun j hj e => by have := h.ge; omega), h.ge, ⟨_, hbs, by simpa using hbs0⟩, by simpa using h.a0, by rw [if_neg (by omega)]; exact hks, fun i hi hlt => ?_, fun i hi hle => ?_⟩
  · by_cases e : i = k
    · subst e
      simp only [Nat.le_refl, if_true, show ¬ i + 1 ≤ i by omega, if_false]
      refine ⟨by omega, vo, vc, cellsAt_put hb2 ((h.old i hi (Nat.le_refl _)).kept (hq.g.block g hgl id)), ?_⟩
      exact (hq.row.kept fun b hb h2 => kz.block b h2 (by omega)).wide hak (Nat.le_refl _)
    · obtain ⟨h0, ao', ca', h1, h3⟩ := h.new i hi (by omega)
      simp only [show i ≤ k by omega, show i + 1 ≤ k by omega, if_true]
      have c1 := chain_le hA (Nat.zero_le i) (show i ≤ k by omega)
      have c2 := chain_le hA (show i + 1 ≤ k by omega) (Nat.le_refl _)
      have c3 := h.a0
      refine ⟨h0, ao', ca', cellsAt_set hb2 (h1.kept (hq.g.block g hgl id)) _ _ _ _ _ (fun t s ht hs => by omega), ?_⟩
      exact (h3.kept fun b hb h2 => hq.g.block b (by omega) id).kept fun b hb h2 => kz.block b (by omega) (by omega)
  · exact cellsAt_set hb2 ((h.old i hi (by omega)).kept (hq.g.block g hgl id)) _ _ _ _ _ (fun t s ht hs => by omega)
theorem CopJ.row {W wr : World} {d : Nat} {l : List FT} {F : Nat → Option Addr × Nat} {g ca : Nat} {A : Nat → Nat} (h : CopJ W wr d l F g ca l.length A) (hl : l.length ≤ big) (hca : l.length ≤ ca) (hm : ca ≤ maxLen) : Tr wr (d + 1) W.heap.size wr.heap.size (some ⟨g, 0, none⟩) ca l := by
  obtain ⟨cur, hb, hs⟩ := h.box
  exact ⟨hl, .inr ⟨g, cur, A, rfl, h.ge, h.a0, h.ak, hb, hs, hca, hm, fun i hi => h.new i hi hi⟩⟩

set_option maxRecDepth 100000 in
set_option maxHeartbeats 4000000 in
theorem copied_T0 (W : World) (ao : Option Addr) (ca d : Nat) : Calls Tryd.prog 22 #[.slice ao 0 ca] W fun e w' => e = .returned (.slice none 0 0) ∧ Gr W w' := by
  have hsn : Src Tryd.prog 7 22 (.slice ao 0 ca) 0 [] W := by
    refine ⟨.inl ⟨38, Tryd.underlying22⟩, fun _ => rfl, ?_, ?_, rfl, fun _ h => by cases h⟩
    all_goals
      cases ao with
      | none => exact run_firstCells_none _ 7 0 0 ca
      | some a => exact run_firstCells_some _ 7 0 a 0 ca [] rfl (fun j u h => by simp at h)
  have HSn := hidM hsn
  clear hsn
  go_enter Tryd.func22, Tryd.ntmps22
  go_wp2_with (with_reducible show wpList Tryd.prog _ _ (Oper.mk (some 6) _ _ _ _ _ :: _) _ _; refine wpList_append_none (P := Tryd.prog) W rfl (.const (.slice none 0 0)) (.tmp 5) 22 22 rfl 38 z37 7 80 Tryd.underlying22 info37 rfl (.slice ao 0 ca) rfl HSn.out ?_)
  go_loopw [9] (fun p wr => p = .int .i64 0 ∧ wr = W) (fun p _ => 0)
  case atStart => exact ⟨rfl, rfl⟩
  case round =>
    obtain ⟨rfl, rfl⟩ := hrel
    go_wp2_with fail
    go_ret
    exact ⟨rfl, Keeps.refl _ _⟩
set_option maxRecDepth 100000 in
set_option maxHeartbeats 4000000 in
theorem copied_T (W : World) (ao : Option Addr) (ca : Nat) (l : List FT) (F : Nat → Option Addr × Nat) (d : Nat) (hl : l.length ≤ big) (hcell : l ≠ [] → ∃ b o, ao = some ⟨b, o, none⟩ ∧ ∀ i (hi : i < l.length), CellsAt W b (o + i * 7) l[i] (F i).1 (F i).2)
    (h67 : ∀ i (hi : i < l.length) W', Gr W W' → Calls Tryd.prog 26 #[.agg #[.int .i64 l[i].kind, .int .i64 l[i].width, .int .i64 l[i].id, .int .i64 l[i].index, .slice (F i).1 l[i].kids.length (F i).2]] W' fun e w' => ∃ vo vc, e = .returned (.agg #[.int .i64 l[i].kind, .int .i64 l[i].width, .int .i64 l[i].id, .int .i64 l[i].index, .slice vo l[i].kids.length vc]) ∧ CopT W' d l[i].kids.length l[i].kids vo vc w') :
    Calls Tryd.prog 22 #[.slice ao l.length ca] W fun e w' => ∃ vo vc, e = .returned (.slice vo l.length vc) ∧ CopT W (d + 1) l.length l vo vc w' := by
  have hsrc : Src Tryd.prog 7 22 (.slice ao l.length ca) l.length (row7 l F) W := by
    refine ⟨.inl ⟨38, Tryd.underlying22⟩, fun _ => rfl, ?_, ?_, row7_len l F, row7_one⟩
    all_goals
      by_cases hne : l = []
      · subst hne
        cases ao with
        | none => exact run_firstCells_none _ 7 0 0 ca
        | some a => exact run_firstCells_some _ 7 0 a 0 ca [] rfl (fun j u h => by simp at h)
      · obtain ⟨b, o, rfl, hc⟩ := hcell hne
        refine run_firstCells_some _ 7 l.length ⟨b, o, none⟩ l.length ca (row7 l F) (row7_len l F) (fun j u hu => ?_)
        have := row7_cell hc j u hu
        rw [show (⟨b, o, none⟩ : Addr).add j = ⟨b, o + j, none⟩ by simp [Addr.add]]
        simpa using this
  have HS := hidM hsrc
  have H67 := hidM h67
  have hll : l.length ≤ 1000000000000 := hl
  have HLb := hidM hl
  obtain ⟨L, hL⟩ : ∃ L, L = l.length := ⟨_, rfl⟩
  have HL := hidM hL.symm
  rw [← hL] at hll HS ⊢
  clear hsrc h67 hcell hl hL
  have H63 : Hid (0 + L ≤ 9223372036854775807) := by show _ ≤ _; omega
  have H80 : Hid ((0 + L) * 80 ≤ 140737488355328) := by show _ ≤ _; omega
  by_cases hL0 : L = 0
  · subst hL0
    have hl0 : l = [] := List.eq_nil_of_length_eq_zero HL.out
    subst hl0
    refine Calls.mono (copied_T0 W ao ca d) ?_
    rintro e w' ⟨rfl, hq⟩
    exact ⟨none, 0, rfl, hq, Tr.nil _ _ _ _⟩
  have HLm : Hid (0 < L) := by show 0 < L; omega
  go_enter Tryd.func22, Tryd.ntmps22
  go_wp2_with (with_reducible show wpList Tryd.prog _ _ (Oper.mk (some 6) _ _ _ _ _ :: _) _ _; refine wpList_append_anyN (P := Tryd.prog) W rfl (.const (.slice none 0 0)) (.tmp 5) 22 22 rfl 38 z37 7 80 Tryd.underlying22 info37 c37 (.slice none 0 0) 0 [] rfl (World.ownsRow_nil W 0 38 7) (.slice ao L ca) L (row7 l F) rfl HS.out H63.out H80.out ?_; intro v' w1 hown hgrow hblk; rw [Nat.zero_add, List.nil_append] at hown; obtain ⟨vo, vc, rfl⟩ := own_formN hown; replace hown := hidM hown; replace hgrow := hidM hgrow; replace hblk := hidM hblk)
  replace hown := hown.out
  replace hgrow := hgrow.out
  replace hblk := hblk.out
  have hg1 : Gr W w1 := (Keeps.ofGrown hgrow).mono fun _ _ h => by simp [Value.ownBlock] at h
  have hI : L ≤ vc ∧ vc ≤ maxLen ∧ (∃ g A, vo = some ⟨g, 0, none⟩ ∧ CopJ W w1 d l F g vc 0 A) := by
    rcases hown.2 with ⟨h1, h2⟩ | ⟨g, cap, cur, h1, h2, h3, h4, h5, h6, h7⟩
    · have := HLm.out; omega
    · simp only [Value.slice.injEq] at h1
      obtain ⟨rfl, -, rfl⟩ := h1
      refine ⟨h4, h5, g, fun _ => g + 1, rfl, hg1, ?_, ⟨cur, h3, h6⟩, by simp, lt_of_heap h3, fun i _ h => by omega, fun i hi _ => row7_own hown i hi⟩
      rcases hblk with h | h
      · simp [Value.ownBlock] at h
      · exact h g rfl
  have HI := hidM hI
  have HG1 := hidM hg1
  have hvc := hI.1
  clear hown hgrow hblk hI hg1 HS
  go_loopw [9] (fun p wr => ∃ k : Nat, k ≤ L ∧ p = .int .i64 (k : Int) ∧ Hid (∃ g A, vo = some ⟨g, 0, none⟩ ∧ CopJ W wr d l F g vc k A)) (fun p _ => L - (intOf p).toNat)
  case atStart => exact ⟨0, by omega, rfl, HI.out.2.2⟩
  case round =>
    obtain ⟨k, hk, rfl, HK⟩ := hrel
    by_cases hlt : k < L
    · have hkl : k < l.length := by have := HL.out; omega
      obtain ⟨g, A, rfl, hC⟩ := HK.out
      obtain ⟨c0, c1, c2, c3, c4, c5, c6⟩ := hC.old k hkl (Nat.le_refl _)
      have hcall := H67.out k hkl wr hC.gr
      have HC := hidM hC
      obtain ⟨f, hf⟩ : ∃ f, f = l[k]'hkl := ⟨_, rfl⟩
      rw [← hf] at c0 c1 c2 c3 c4 c5 c6 hcall
      have HF := hidM hf
      obtain ⟨ko, hko⟩ : ∃ ko, ko = (F k).1 := ⟨_, rfl⟩
      obtain ⟨kc, hkc⟩ : ∃ kc, kc = (F k).2 := ⟨_, rfl⟩
      rw [← hko, ← hkc] at c6 hcall
      have HCall := hidM hcall
      have hltI : (k : Int) < (L : Int) := by omega
      clear hC hf hcall HK hko hkc c0 c1
      go_wp2_with (go_at_call 26; refine Hid.out ?_)
      unfold Hid
      refine Calls.mono HCall.out ?_
      rintro e w2 ⟨xo, xc, rfl, hq⟩
      obtain ⟨cur, hb, hbsz⟩ := HC.out.box
      have hb2 := (hq.g.block g (lt_of_heap hb) id).trans hb
      have d2 := hq.g.cell' c2 id
      have d3 := hq.g.cell' c3 id
      have d4 := hq.g.cell' c4 id
      have d5 := hq.g.cell' c5 id
      have d6 := hq.g.cell' c6 id
      have fz := fun j => frz hb2 j
      have e2 := fz (k * 7 + 2)
      have e3 := fz (k * 7 + 3)
      have e4 := fz (k * 7 + 4)
      have e5 := fz (k * 7 + 5)
      have e6 := fz (k * 7 + 6)
      have HN : Hid (∃ A, CopJ W (((((w2.setCell ⟨g, k * 7 + 2, none⟩ (.int .i64 f.kind)).setCell ⟨g, k * 7 + 3, none⟩ (.int .i64 f.width)).setCell ⟨g, k * 7 + 4, none⟩ (.int .i64 f.id)).setCell ⟨g, k * 7 + 5, none⟩ (.int .i64 f.index)).setCell ⟨g, k * 7 + 6, none⟩ (.slice xo f.kids.length xc)) d l F g vc (k + 1) A) := by
        rw [HF.out] at hq ⊢
        exact HC.out.next hkl hq
      clear hb hb2 hbsz hq fz c2 c3 c4 c5 c6 HCall
      go_wp2_with fail
      go_roundw
      case rel => exact ⟨k + 1, by omega, by simp, g, HN.out.choose, rfl, HN.out.choose_spec⟩
      case measure => simp [intOf]; omega
    · have hkL : k = L := by omega
      subst hkL
      have HE : Hid (CopT W (d + 1) k l vo vc wr) := by
        obtain ⟨g, A, rfl, hC⟩ := HK.out
        have hll := HL.out
        rw [← hll] at hC hvc
        exact ⟨hC.gr, hC.row HLb.out hvc HI.out.2.1⟩
      go_wp2_with fail
      go_ret
      exact ⟨vo, vc, rfl, HE.out⟩
/-- all depths -/
theorem copied_Tr : ∀ (d : Nat) (S : Nat → Prop) (W : World) (ao : Option Addr) (ca : Nat) (l : List FT), RowAt S W d ao l → (∀ b, S b → b < W.heap.size) →
    Calls Tryd.prog 22 #[.slice ao l.length ca] W fun e w' => ∃ vo vc, e = .returned (.slice vo l.length vc) ∧ CopT W d l.length l vo vc w'
  | 0, S, W, ao, ca, l, hr, hS => by
    have h' : l = [] := hr
    subst h'
    refine Calls.mono (copied_T0 W ao ca 0) ?_
    rintro e w' ⟨rfl, hq⟩
    exact ⟨none, 0, rfl, hq, Tr.nil _ _ _ _⟩
  | d + 1, S, W, ao, ca, l, hr, hS => by
    have hex : ∀ i, i < l.length → ∃ q : Option Addr × Nat, ∃ (hi : i < l.length), (∀ b o, ao = some ⟨b, o, none⟩ → CellsAt W b (o + i * 7) l[i] q.1 q.2) ∧ RowAt S W d q.1 l[i].kids := by
      intro i hi
      obtain ⟨b, o, rfl, _, hc⟩ := hr.2 (fun e => by subst e; simp at hi)
      obtain ⟨ao', ca', h1, h2, h3⟩ := hc i hi
      exact ⟨(ao', ca'), hi, fun b' o' e => by cases e; exact h1, h3⟩
    obtain ⟨F, hF⟩ := choose_lt hex
    refine copied_T W ao ca l F d hr.1 (fun hne => ?_) (fun i hi W' g' => ?_)
    · obtain ⟨b, o, rfl, _, hc⟩ := hr.2 hne
      exact ⟨b, o, rfl, fun i hi => (hF i hi).2.1 b o rfl⟩
    · refine copiedType_T _ _ _ _ _ _ _ d _ W' fun W'' g'' => ?_
      have g2 := g'.trans g'' (fun _ _ h => h)
      exact copied_Tr d S W'' (F i).1 (F i).2 l[i].kids ((hF i hi).2.2.kept fun b hb => g2.block b (hS b hb) id) (fun b hb => by have := hS b hb; have := g2.size; omega)
end Go.Proofs.YtjdojbbjbippoaaDoor.Kit
