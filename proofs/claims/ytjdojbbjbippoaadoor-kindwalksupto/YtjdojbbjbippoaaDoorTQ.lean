import Derived.Test.YtjdojbbjbippoaaDoorTH
import Derived.Test.YtjdojbbjbippoaaDoorTM
import Derived.Test.YtjdojbbjbippoaaDoorKC
namespace Go.Proofs.YtjdojbbjbippoaaDoor.Kit
open Go.RowKit Go.Shelf Go.Deep
set_option linter.unusedVariables false
attribute [local go_sem] Oper.semAt_some run_store_func

set_option maxRecDepth 100000 in
set_option maxHeartbeats 2000000 in
theorem eqInts_safe (ao bo : Option Addr) (ca cb : Nat) (l l' : List Nat) (hl : l.length ≤ big) (w : World) (ha : IntsAt w ao l) (hb : IntsAt w bo l') :
    Calls Tryd.prog 9 #[.slice ao l.length ca, .slice bo l'.length cb] w fun e w' => (∃ r : Bool, e = .returned (.bool r)) ∧ Gr w w' := by
  have hll : l.length ≤ 1000000000000 := hl
  have HA : Hid _ := hidM ha
  have HB : Hid _ := hidM hb
  obtain ⟨L, hL⟩ : ∃ L, L = l.length := ⟨_, rfl⟩
  obtain ⟨L', hL'⟩ : ∃ L', L' = l'.length := ⟨_, rfl⟩
  rw [← hL] at hll ⊢
  rw [← hL']
  have HL : Hid (L = l.length) := hL
  have HL' : Hid (L' = l'.length) := hL'
  clear ha hb hL hl hL'
  by_cases he : L = L'
  · subst he
    go_enter Tryd.func9, Tryd.ntmps9
    go_wp2
    go_loopw [13] (fun i wr => ∃ k : Nat, k ≤ L ∧ i = .int .i64 (k : Int) ∧ Hid (Gr w wr)) (fun i _ => L - (intOf i).toNat)
    case atStart => exact ⟨0, by omega, rfl, Keeps.refl _ _⟩
    case round =>
      obtain ⟨k, hk, rfl, HK⟩ := hrel
      by_cases hlt : k < L
      · have hl := HL.out
        have hl' := HL'.out
        have hkl : k < l.length := by omega
        have hkl' : k < l'.length := by omega
        have hne : l ≠ [] := fun e => by rw [e] at hkl; simp at hkl
        have hne' : l' ≠ [] := fun e => by rw [e] at hkl'; simp at hkl'
        obtain ⟨b, o, rfl, hc⟩ := HA.out hne
        obtain ⟨b', o', rfl, hc'⟩ := HB.out hne'
        have c1 := HK.out.cell' (hc k hkl) (fun h => h)
        have c2 := HK.out.cell' (hc' k hkl') (fun h => h)
        generalize ((l[k] : Nat) : Int) = x at *
        generalize ((l'[k] : Nat) : Int) = y at *
        have hltI : (k : Int) < (L : Int) := by omega
        clear hc hc' hne hkl hl hne' hkl' hl'
        cases hxy : (x == y) with
        | true =>
          go_wp2
          go_region
          go_wp2
          go_roundw
          case rel => exact ⟨k + 1, by omega, by simp, HK.out.drew⟩
          case measure => simp [intOf]; omega
        | false =>
          go_wp2
          go_region
          go_wp2
          go_ret
          exact ⟨⟨_, rfl⟩, HK.out.drew⟩
      · have hkL : k = L := by omega
        subst hkL
        go_wp2
        go_ret
        exact ⟨⟨_, rfl⟩, HK.out⟩
  · have hb : ((L : Int) == (L' : Int)) = false := by simp; omega
    go_enter Tryd.func9, Tryd.ntmps9
    go_wp2
    go_ret
    exact ⟨⟨_, rfl⟩, Keeps.refl _ _⟩
theorem eqInts_some (ao bo : Option Addr) (ca cb : Nat) (l l' : List Nat) (hl : l.length ≤ big) (w : World) (ha : IntsAt w ao l) (hb : IntsAt w bo l') :
    Calls Tryd.prog 9 #[.slice ao l.length ca, .slice bo l'.length cb] w fun e w' => ∃ r : Bool, e = .returned (.bool r) ∧ Gr w w' ∧ (r = false → l ≠ l') := by
  by_cases he : l = l'
  · subst he
    exact (eqInts_true ao bo ca cb l hl w ha hb).mono fun e w' ⟨h1, h2⟩ => ⟨true, h1, h2, fun h => by cases h⟩
  · exact (eqInts_safe ao bo ca cb l l' hl w ha hb).mono fun e w' ⟨⟨r, h1⟩, h2⟩ => ⟨r, h1, h2, fun _ => he⟩
/-- deeper than need be -/
theorem nodes_up {S : Nat → Prop} {W : World} : ∀ (d : Nat) (l : List FT) (ao : Option Addr) (path : List Nat) (inD : Bool), RowAt S W d ao l → nodes (d + 1) l path inD = nodes d l path inD
  | 0, l, _, _, _, h => by
    have : l = [] := h
    subst this
    rfl
  | d + 1, l, ao, path, inD, h => by
    rw [nodes_succ, nodes_succ]
    unfold upto
    rw [List.flatMap_def, List.flatMap_def]
    congr 1
    apply List.map_congr_left
    intro i hi
    have hil : i < l.length := List.mem_range.1 hi
    obtain ⟨b, o, _, _, hc⟩ := h.2 (fun e => by subst e; simp at hil)
    obtain ⟨ao', ca', _, _, hk⟩ := hc i hil
    have e : l[i]! = l[i] := by simp [hil]
    rw [e, nodes_up d l[i].kids ao' _ _ hk]
/-! ### the marks of several loops -/
def mkD (r : Nat) : Deferred := { target := .collected r, args := #[] }
structure MarksAt (w : World) (rs : List Nat) : Prop where
  at_ : ∀ r, r ∈ rs → w.heap[r]? = some (.deferred (some []))
  nd : rs.Nodup
theorem MarksAt.gr {w w' : World} {rs : List Nat} (h : MarksAt w rs) (g : Gr w w') : MarksAt w' rs := ⟨fun r hr => (g.block r (lt_of_heap (h.at_ r hr)) id).trans (h.at_ r hr), h.nd⟩
theorem leave_marks {F : Fence} {n : Nat} {P : Program} {fn : Func} {tmps : Array Value} {R : Ending → World → Prop} : ∀ (rs : List Nat) (w : World), MarksAt w rs → (∀ w', Keeps w w' (fun b => b ∈ rs) → LeavesIn F n P fn tmps R [] .returning w') → LeavesInM F n P fn tmps R (rs.map mkD) .returning w
  | [], w, _, h => h w (Keeps.refl _ _)
  | r :: rs, w, hm, h => by
    have hd := hm.at_ r (by simp)
    have hnd := List.nodup_cons.1 hm.nd
    refine ⟨by simp, .inl ⟨_, _, rfl, run_takeDeferred hd, ?_⟩⟩
    refine leave_marks rs _ ⟨fun r' hr' => ?_, hnd.2⟩ fun w' k => h w' ?_
    · have hne : r' ≠ r := fun e => hnd.1 (by rw [← e]; exact hr')
      exact (World.putObj_heap_other hne).trans (hm.at_ r' (by simp [hr']))
    · exact ((keeps_put w r (.deferred none)).mono fun b _ e => by subst e; simp).trans k (fun b _ hb => by simp [hb])
end Go.Proofs.YtjdojbbjbippoaaDoor.Kit
namespace Go.Proofs.YtjdojbbjbippoaaDoor.Kit
open Go.RowKit Go.Shelf Go.Deep
set_option linter.unusedVariables false
attribute [local go_sem] Oper.semAt_some run_store_func

theorem cutTail {P : Program} {Q : Exit → Act → World → Prop} {a : Act} {w : World} {c0 c1 c2 c3 c4 c5 c6 c7 tail : Code} (h : ∀ C, C = tail → (c0.seq (c1.seq (c2.seq (c3.seq (c4.seq (c5.seq (c6.seq (c7.seq C)))))))).wp P Q a w) : (c0.seq (c1.seq (c2.seq (c3.seq (c4.seq (c5.seq (c6.seq (c7.seq tail)))))))).wp P Q a w := h _ rfl
/-- what is known ahead of the loop over the stops -/
structure MidW (w W2 W5 : World) (X n : Nat) (schA : Array Value) (vo : Option Addr) (vc : Nat) (N0 : List LS) (b5 K : Nat) (ko : Option Addr) (kc D' : Nat) (l' : List FT) (Sk : Nat → Prop) : Prop where
  gw : Gr w W5
  g2 : Gr W2 W5
  xs : W5.heap[X]? = some (.cells schA 25 (0, 0))
  xr : W5.heap[X + 1]? = some (.cells #[.bool false] 4 (0, 0))
  xw : W5.heap[b5]? = some (.cells #[.slice vo n vc] 28 (0, 0))
  lt : X + 1 < b5
  k : W5.heap[K]? = some (.cells #[.slice ko l'.length kc] 22 (0, 0))
  row : RowAt Sk W5 D' ko l'
  sk : ∀ b, Sk b → b < W5.heap.size
  le : l'.length ≤ kc
  d : D' ≤ big
  nd : nodes D' l' [] false = N0
  sn : ∀ b, Sk b → b5 ≤ b
def MidAct (schA : Array Value) (so : Option Addr) (m sc X b5 K : Nat) (z14 z15 z16 z17 z18 z19 z20 z21 z22 z23 z24 z25 z26 z27 z28 z29 z30 z31 z32 z33 : Value) : Act := { tmps := #[.agg schA, .slice so m sc, .pointer (some ⟨X, 0, none⟩), undef, .pointer (some ⟨X + 1, 0, none⟩), .pointer (some ⟨b5, 0, none⟩), .pointer (some ⟨b5 + 1, 0, none⟩), .func (.func 23) #[] #[.pointer (some ⟨K, 0, none⟩)], undef, undef, undef, undef, undef, undef, z14, z15, z16, z17, z18, z19, z20, z21, z22, z23, z24, z25, z26, z27, z28, z29, z30, z31, z32, z33, undef, undef, undef, undef, undef, undef, undef, undef, undef, undef, undef, undef, undef, undef, undef, undef, undef, undef, undef, undef, undef, undef, undef, undef, undef, undef, undef, undef, undef, undef, undef, undef, undef, undef, undef, undef, undef, undef, undef, undef, undef, undef, undef, undef, undef, undef, undef, undef, undef, undef, undef, undef, undef, undef, undef, undef, undef, undef, undef, undef, undef, undef, undef, undef, undef, undef, undef, undef, undef, undef, undef, undef, undef, undef, undef, undef, undef, undef], defers := [] }
theorem nodes_nil (d : Nat) (path : List Nat) (inD : Bool) : nodes d [] path inD = [] := by
  cases d <;> rfl
/-- append of one number onto a list of numbers that has no room: new memory -/
theorem run_append_zs (w : World) (ty : TypeId) (so : Option Addr) (l : List Int) (hz : ZsAt w so l) (hl : l.length ≤ 1000000000) (x u : Value) (hs : Src Tryd.prog 1 26 x 1 [u] w) :
    ∃ v' w', (Builtin.append_ #[26, 26] ty #[.slice so l.length l.length, x]).run Tryd.prog w = .ok v' w' ∧ w'.ownsRow 0 3 1 v' (l.length + 1) (l.map (fun z => Value.int .i64 z) ++ [u]) ∧ Gr w w' ∧ (∀ g, v'.ownBlock = some g → w.heap.size ≤ g) := by
  obtain ⟨i, hi, hzz⟩ := Option.map_eq_some_iff.1 info3
  simp only [Prod.mk.injEq] at hzz
  obtain ⟨hz0, hsize, hb⟩ := hzz
  have hfirst : (Builtin.firstCells i.size l.length (.slice so l.length l.length)).run Tryd.prog w.drew = .ok (l.map (fun z => Value.int .i64 z)).toArray w.drew := by
    rw [hsize]
    by_cases hn : l = []
    · subst hn
      cases so with
      | none => exact run_firstCells_none w.drew 1 0 0 0
      | some p => exact run_firstCells_some w.drew 1 0 p 0 0 [] rfl (fun j v hj => by simp at hj)
    · obtain ⟨b, o, rfl, hc⟩ := hz hn
      refine run_firstCells_some w.drew 1 l.length ⟨b, o, none⟩ l.length l.length _ (by simp) (fun j v hj => ?_)
      have hjl : j < l.length := by have := (List.getElem?_eq_some_iff.1 hj).1; simpa using this
      rw [List.getElem?_map, List.getElem?_eq_getElem hjl] at hj
      simp at hj
      subst hj
      simp only [Addr.add_lit]
      exact hc j hjl
  have hr := run_append_grow_src (P := Tryd.prog) w 26 26 ty 3 i (.int .i64 0) Tryd.underlying26 hi hz0 so l.length l.length (l.map (fun z => Value.int .i64 z)) hfirst x 1 [u] (by rw [hsize]; exact hs) (by omega) (by omega) (by rw [hb]; exact growslice_fits (by omega) (by omega))
  have hlen : (l.map (fun z => Value.int .i64 z) ++ [u]).length = (l.length + 1) * 1 := by simp
  have hge := grownCap_ge w (l.length + 1) l.length 3
  refine ⟨_, _, hr, ⟨hlen, .inr ⟨w.heap.size, _, _, rfl, Nat.zero_le _, heap_alloc_new w.drew _, hge, grownCap_le_maxLen w (l.length + 1) l.length 3 (by show _ ≤ 9223372036854775807; omega), ?_, ?_⟩⟩, ?_, fun g e => by simp [Value.ownBlock] at e; omega⟩
  · simp only [Array.size_append, List.size_toArray, size_zeroCells, hlen]
    have : (Value.int IntKind.i64 0).cells.size = 1 := rfl
    rw [this]
    omega
  · simp only [Array.toList_append]
    rw [← hlen]
    exact List.take_left
  · exact (gr_drew (w := w)).alloc _
theorem wpList_append_zs (w : World) {ops : Array Oper} {rest : List Oper} {o : Oper} {a : Act} {Q : Exit → Act → World → Prop} (hgd : o.guard = none) (s x : Operand)
    (ho : o.op = .call { callee := .builtin .append, args := #[s, x], argTypes := #[26, 26] }) (so : Option Addr) (m : Nat) (l : List Int) (hm : m = l.length) (hv : a.eval s = .slice so m m) (hz : ZsAt w so l) (hl : l.length ≤ 1000000000) (y u : Value) (hx : a.eval x = y) (hs : Src Tryd.prog 1 26 y 1 [u] w)
    (h : ∀ v' w', w'.ownsRow 0 3 1 v' (l.length + 1) (l.map (fun z => Value.int .i64 z) ++ [u]) → Gr w w' → (∀ g, v'.ownBlock = some g → w.heap.size ≤ g) → wpList Tryd.prog ops Q rest (a.put o.dst v') w') :
    wpList Tryd.prog ops Q (o :: rest) a w := by
  subst hm
  refine wpList_plain hgd fun K hK' => ?_
  obtain ⟨v', w', hr, h2, h3, h4⟩ := run_append_zs w o.type so l hz hl y u hs
  unfold Oper.wp
  simp [execOp, ho, resolve, invoke, builtin, hv, hx, hr, Result.andThen]
  exact hK' _ _ (h v' w' h2 h3 h4)
set_option maxRecDepth 100000 in
theorem slice_zs (so : Option Addr) (m sc : Nat) (hc : m ≤ sc) (w : World) : (Instr.slice 26 (.slice so m sc) none (some (.int .i64 (m : Int))) (some (.int .i64 (m : Int)))).run Tryd.prog w = .ok (.slice so m m) w := by
  have hsz : ∀ w, (sizeOf (Tryd.prog.elem 26)).run Tryd.prog w = .ok 1 w := fun w => by kernel_rfl
  have hu : Tryd.prog.underlying 26 = some (.slice (Tryd.prog.elem 26)) := by kernel_rfl
  rw [run_slice_hm w 26 _ _ _ hu .i64 .i64 (m : Int) (m : Int) (by omega) (by omega) (by omega), hsz]
  simp only [Result.andThen_ok, sliced, Int.toNat_natCast, Nat.sub_zero]
  congr 2
  split
  · rfl
  · cases so with
    | none => rfl
    | some p => simp [Addr.add]
/-- the loop over the stops -/
structure LpS (W7 V : World) (rs : List Nat) : Prop where
  gr : Gr W7 V
  ma : MarksAt V rs
  new : ∀ r, r ∈ rs → W7.heap.size ≤ r
def LpI (W7 : World) (M : Nat) (F : Nat → Value → Value → Value → Value → Value → Value → Value → Value → Value → Value → Value → Value → Value → Value → Value → Value → Value → Value → Array Value) (a : Act) (V : World) : Prop :=
  ∃ (k : Nat) (rs : List Nat) (u9 u10 u44 u45 u46 u47 u100 u101 u102 u103 u104 u105 u106 u107 u108 u109 u110 u111 : Value), k ≤ M ∧ a = { tmps := F k u9 u10 u44 u45 u46 u47 u100 u101 u102 u103 u104 u105 u106 u107 u108 u109 u110 u111, defers := rs.map mkD } ∧ LpS W7 V rs
/-- one walk of the law's -/
structure WkI (V6 : World) (Y n : Nat) (st : Int) (xs : List WEl) (V2 : World) : Prop where
  k : Keeps V6 V2 (fun b => b = Y + 1)
  b : V2.heap[Y + 1]? = some (.cells #[.int .i64 (xs.length : Int)] 3 (0, 0))
  len : xs.length ≤ n
  st : 1 ≤ xs.length → (xs.length : Int) ≤ st
structure WkX (V6 : World) (Y n : Nat) (st : Int) (O : Nat → Prop) (xs : List WEl) (V2 : World) : Prop where
  o : ∀ b, O b → Y + 4 ≤ b
  k : Keeps V6 V2 (fun b => b = Y + 1)
  b : V2.heap[Y + 1]? = some (.cells #[.int .i64 (xs.length : Int)] 3 (0, 0))
  pos : 1 ≤ xs.length
  gt : st < (xs.length : Int)
  pre : 2 ≤ xs.length → (xs.length : Int) - 1 ≤ st
def WkO (V6 : World) (Y n : Nat) (st : Int) (N : List LS) (O : Nat → Prop) (c : Code) (xs : List WEl) (V2 : World) : Prop := (c = .ret ∧ NxW N xs) ∨ (c = .exit 2 ∧ WkX V6 Y n st O xs V2)
theorem WkI.keep {V6 : World} {Y n : Nat} {st : Int} {xs : List WEl} {A B : World} {T : Nat → Prop} (h : WkI V6 Y n st xs A) (k : Keeps A B T) (hz : V6.heap.size = Y + 2) (hT : ∀ b, T b → Y + 2 ≤ b) : WkI V6 Y n st xs B :=
  ⟨h.k.trans k (fun j hj t => by have := hT j t; omega), (k.block _ (lt_of_heap h.b) (fun t => by have := hT _ t; omega)).trans h.b, h.len, h.st⟩
theorem WkO.keep {V6 : World} {Y n : Nat} {st : Int} {N : List LS} {O : Nat → Prop} {c : Code} {xs : List WEl} {A B : World} (h : WkO V6 Y n st N O c xs A) (hz : V6.heap.size = Y + 2) (k : Keeps A B (fun b => O b ∨ b = V6.heap.size ∨ b = V6.heap.size + 1)) : WkO V6 Y n st N O c xs B := by
  rcases h with h | ⟨e, h⟩
  · exact .inl h
  · have ho := h.o
    refine .inr ⟨e, ⟨h.o, h.k.trans k (fun j hj t => ?_), (k.block _ (lt_of_heap h.b) (fun t => ?_)).trans h.b, h.pos, h.gt, h.pre⟩⟩
    · rcases t with t | t | t
      · have := ho j t; omega
      · omega
      · omega
    · rcases t with t | t | t
      · have := ho _ t; omega
      · omega
      · omega
theorem OutAt.gr {S : Nat → Prop} {W W' : World} {v : Value} {out : List LS} (h : OutAt S W v out) (g : Gr W W') (hS : ∀ b, S b → b < W.heap.size) : OutAt S W' v out := by
  obtain ⟨cs, hown, hc⟩ := h
  refine ⟨cs, row_kp hown fun b e => g.block b (own_lt hown b e) id, fun j hj => ?_⟩
  obtain ⟨wb, wc, fo, fc, ao, ca, h1, h2⟩ := hc j hj
  obtain ⟨D, hD⟩ := h2.row
  obtain ⟨E, hE⟩ := h2.kids
  exact ⟨wb, wc, fo, fc, ao, ca, h1, ⟨row_kp h2.way fun b e => g.block b (own_lt h2.way b e) id, ⟨D, hD.kept fun b hb => g.block b (hS b hb) id⟩, ⟨E, hE.kept fun b hb => g.block b (hS b hb) id⟩, h2.le, h2.kle, h2.ix⟩⟩
end Go.Proofs.YtjdojbbjbippoaaDoor.Kit
