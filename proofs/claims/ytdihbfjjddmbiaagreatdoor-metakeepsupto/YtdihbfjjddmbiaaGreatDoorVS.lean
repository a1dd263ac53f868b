import Derived.Test.YtdihbfjjddmbiaaGreatDoorVN
set_option maxRecDepth 100000
set_option maxHeartbeats 4000000
namespace Go.Proofs.YtdihbfjjddmbiaaGreatDoor.Kit
open Go.RowKit Go.Shelf Go.Deep
set_option linter.unusedVariables false
theorem size5' : (Tryz.prog.info? 5).map (·.size) = some 1 := by kernel_rfl
theorem splice_all {α : Type} (L cs : List α) (h : cs.length = L.length) : splice L 0 cs = cs := by
  simp [splice, ← h]
theorem inkBytes_any {w W : World} {K : Nat} {bs : List UInt8} (h : InkAt w W K bs) (hbs : bs.length ≤ 65536) : Calls Tryz.prog 22 #[.pointer (some ⟨K, 0, none⟩)] W fun e w' => e = .returned (.slice (some ⟨W.heap.size, 0, none⟩) bs.length bs.length) ∧ w'.heap[W.heap.size]? = some (.cells (bv bs).toArray 5 (0, 0)) ∧ Below W.heap.size W w' := by
  obtain ⟨ao, n, cap, h0, hown, -⟩ := h.ex
  have hl : bs.length = n := by have := hown.1; simpa [bv] using this
  subst hl
  have HW := hidM hown
  have hlt := lt_of_heap h0
  have c0 := (ce2 h0).1
  have h0a : ∀ o, (W.alloc o).cell? ⟨K, 0, none⟩ = some (.slice ao bs.length cap) := fun o => (((Keeps.refl W (fun _ => False)).alloc o).cell hlt id).trans c0
  clear h h0 hown hlt
  have hmk := run_make_row' (P := Tryz.prog) 30 5 (.int .u8 0) 1 Tryz.underlying30 info5 rfl .i64 .i64 bs.length (by omega) (by omega)
  obtain ⟨cs, hcs⟩ : ∃ cs : List Value, cs = bv bs := ⟨_, rfl⟩
  have HC : Hid (cs = bv bs) := hcs
  clear hcs
  obtain ⟨cur, hcur⟩ : ∃ cur : List Value, cur = (madeCells #[.int .u8 0] bs.length).toList := ⟨_, rfl⟩
  have HCur : Hid (cur = (madeCells #[.int .u8 0] bs.length).toList) := hcur
  clear hcur
  go_enter Tryz.func22, Tryz.ntmps22
  go_wp2_with (with_reducible show wpList Tryz.prog _ _ (Oper.mk (some 15) _ _ _ _ _ :: _) _ _; refine wpList_copy_splice rfl (.tmp 10) (.tmp 14) 30 30 rfl 5 Tryz.underlying30 size5' _ _ _ _ _ _ rfl rfl W.heap.size 0 cur 5 ?hg cs ?hn ?hpos ?hfit ?h1 W.heap.size W ?hb (Nat.le_refl _) ?_)
  case hg => rw [HCur.out]; simpa using heap_alloc_new W _
  case hn => rw [HC.out]; simp [bv]
  case hpos =>
    intro hp
    have hown := HW.out
    rw [HC.out]
    rcases hown.2 with ⟨h, h'⟩ | ⟨g, cap', cur', h, _⟩
    · rw [HC.out] at hp; simp [bv] at hp h'; simp [h'] at hp
    simp only [Value.slice.injEq] at h
    refine ⟨⟨g, 0, none⟩, h.1, fun j v hj => ?_⟩
    have hc := hown.cells (g := g) (by simp [Value.ownBlock, h.1]) j v hj
    exact ((Keeps.refl W (fun _ => False)).alloc _).cell' hc id
  case hfit => rw [HC.out, HCur.out]; simp [size_madeCells, bv]
  case h1 =>
    intro v hv
    rw [HC.out] at hv
    obtain ⟨z, _, rfl⟩ := List.mem_map.1 hv
    rfl
  case hb => exact (Below.refl _ _).alloc (Nat.le_refl _) _
  intro w1 HG1 hB1
  have HO : Hid (w1.heap[W.heap.size]? = some (.cells (bv bs).toArray 5 (0, 0))) := by
    have := HG1.out
    rw [splice_all _ _ (by rw [HC.out, HCur.out]; simp [size_madeCells, bv]), HC.out] at this
    exact this
  clear HG1
  go_wp2
  go_ret
  exact ⟨rfl, HO.out, hB1⟩
structure PT (w W V : World) (K S : Nat) (c : Array Value) (bs : List UInt8) : Prop where
  ink : InkAt w V K bs
  ku : KU K W V
  ne : S ≠ K
  ne1 : S + 1 ≠ K
  pen : V.heap[S]? = some (.cells #[.pointer (some ⟨K, 0, none⟩)] 61)
  box : V.heap[S + 1]? = some (.cells c 50)
theorem PT.next {w W V V' : World} {K S : Nat} {c : Array Value} {bs bs' : List UInt8} (h : PT w W V K S c bs) (i : InkAt w V' K bs') (u : KU K V V') : PT w W V' K S c bs' :=
  ⟨i, h.ku.trans u, h.ne, h.ne1, u.2 _ _ _ h.pen (by decide) h.ne, u.2 _ _ _ h.box (by decide) h.ne1⟩
theorem PT.cells {w W V : World} {K S : Nat} {a b c d e : Value} {bs : List UInt8} (h : PT w W V K S #[a, b, c, d, e] bs) :
    V.cell? ⟨S, 0, none⟩ = some (.pointer (some ⟨K, 0, none⟩)) ∧ V.cell? ⟨S + 1, 0, none⟩ = some a ∧ V.cell? ⟨S + 1, 1, none⟩ = some b ∧ V.cell? ⟨S + 1, 2, none⟩ = some c ∧ V.cell? ⟨S + 1, 3, none⟩ = some d ∧ V.cell? ⟨S + 1, 4, none⟩ = some e := by
  simp [World.cell?, h.pen, h.box]
def typB (f : FT) : List UInt8 := numB f.kind.toNat 1 ++ extB f
theorem penTyp_walk {w W : World} {K : Nat} {bs kb : List UInt8} (f : FT) (ao : Option Addr) (ca : Nat) (ok : okM f) (h : InkAt w W K bs) (hlen : bs.length + (typB f ++ kb).length ≤ 65536)
    (h31 : ∀ V, InkAt w V K (bs ++ typB f) → Calls Tryz.prog 57 #[.agg #[.pointer (some ⟨K, 0, none⟩)], .slice ao f.kids.length ca] V fun e w' => e = .returned (.tuple #[]) ∧ InkAt w w' K (bs ++ typB f ++ kb) ∧ KU K V w') :
    Calls Tryz.prog 73 #[.agg #[.pointer (some ⟨K, 0, none⟩)], .agg #[.int .i64 f.kind, .int .i64 f.width, .int .i64 f.id, .int .i64 f.index, .slice ao f.kids.length ca]] W fun e w' => e = .returned (.tuple #[]) ∧ InkAt w w' K (bs ++ (typB f ++ kb)) ∧ KU K W w' := by
  obtain ⟨k1, k2, k3, k4, k5⟩ := tableB_nums ok.2
  have H31 := hidM h31
  clear h31
  have HP : Hid (PT w W ((W.alloc (.cells #[.pointer (some ⟨K, 0, none⟩)] 61)).alloc (.cells #[.int .i64 f.kind, .int .i64 f.width, .int .i64 f.id, .int .i64 f.index, .slice ao f.kids.length ca] 50)) K W.heap.size #[.int .i64 f.kind, .int .i64 f.width, .int .i64 f.id, .int .i64 f.index, .slice ao f.kids.length ca] bs) := by
    obtain ⟨vo, n, vc, h1, -⟩ := h.ex
    have hlt := lt_of_heap h1
    have g1 := gr_alloc W (.cells #[.pointer (some ⟨K, 0, none⟩)] 61)
    have g2 := gr_alloc (W.alloc (.cells #[.pointer (some ⟨K, 0, none⟩)] 61)) (.cells #[.int .i64 f.kind, .int .i64 f.width, .int .i64 f.id, .int .i64 f.index, .slice ao f.kids.length ca] 50)
    refine ⟨(h.kept g1).kept g2, (KU.gr g1).trans (KU.gr g2), by omega, by omega, ?_, ?_⟩
    · exact (g2.block _ (by simp) id).trans (heap_alloc_new W _)
    have := heap_alloc_new (W.alloc (.cells #[.pointer (some ⟨K, 0, none⟩)] 61)) (.cells #[.int .i64 f.kind, .int .i64 f.width, .int .i64 f.id, .int .i64 f.index, .slice ao f.kids.length ca] 50)
    simpa using this
  clear h
  go_enter Tryz.func73, Tryz.ntmps73
  have H21 := hidM (penNumber_any HP.out.ink f.kind.toNat 1 (by omega) (.inl rfl) (by have := hlen; simp [typB, numB_len] at this ⊢; omega))
  rw [show (((f.kind.toNat : Nat)) : Int) = f.kind from Int.toNat_of_nonneg (by omega)] at H21
  obtain ⟨z0, z1, z2, z3, z4, z5⟩ := HP.out.cells
  go_wp2_with (go_at_call 36; refine Hid.out ?_)
  unfold Hid
  refine Calls.mono H21.out ?_
  rintro e W' ⟨rfl, hI1, hU1⟩
  replace HP := hidM (HP.out.next hI1 hU1)
  clear hI1 hU1 H21 z0 z1 z2 z3 z4 z5
  by_cases c14 : f.kind = 14
  · have e14 : (f.kind == 14) = true := by simp [c14]
    have e16 : (f.kind == 16) = false := beqF (by omega)
    have e19 : (f.kind == 19) = false := beqF (by omega)
    have e17 : (f.kind == 17) = false := beqF (by omega)
    have e18 : (f.kind == 18) = false := beqF (by omega)
    have q := k3 (by omega)
    have ex : extB f = numB f.width.toNat 2 := by simp [extB, c14]
    have H21 := hidM (penNumber_any HP.out.ink f.width.toNat 2 (by omega) (.inr (.inl rfl)) (by have := hlen; simp [typB, ex, numB_len] at this ⊢; omega))
    rw [show (((f.width.toNat : Nat)) : Int) = f.width from Int.toNat_of_nonneg (by omega)] at H21
    obtain ⟨z0, z1, z2, z3, z4, z5⟩ := HP.out.cells
    go_wp2_with (go_at_call 36; refine Hid.out ?_)
    unfold Hid
    refine Calls.mono H21.out ?_
    rintro e W' ⟨rfl, hI1, hU1⟩
    replace HP := hidM (HP.out.next hI1 hU1)
    clear hI1 hU1 H21 z0 z1 z2 z3 z4 z5
    have et : typB f = numB f.kind.toNat 1 ++ numB f.width.toNat 2 := by simp [typB, ex]
    rw [List.append_assoc bs, ← et] at HP
    replace H31 := hidM (H31.out _ HP.out.ink)
    obtain ⟨z0, z1, z2, z3, z4, z5⟩ := HP.out.cells
    go_wp2_with (go_at_call 57; refine Hid.out ?_)
    unfold Hid
    refine Calls.mono H31.out ?_
    rintro e W' ⟨rfl, hI1, hU1⟩
    have HF := hidM (And.intro hI1 (HP.out.ku.trans hU1))
    clear hI1 hU1 H31 HP z0 z1 z2 z3 z4 z5
    go_wp2_with fail
    go_end0
    exact ⟨rfl, by have := HF.out.1; rwa [List.append_assoc] at this, HF.out.2⟩
  by_cases c16 : f.kind = 16
  · have e16 : (f.kind == 16) = true := by simp [c16]
    have e14 : (f.kind == 14) = false := beqF (by omega)
    have e19 : (f.kind == 19) = false := beqF (by omega)
    have e17 : (f.kind == 17) = false := beqF (by omega)
    have e18 : (f.kind == 18) = false := beqF (by omega)
    have q := k3 (by omega)
    have ex : extB f = numB f.width.toNat 2 := by simp [extB, c16]
    have H21 := hidM (penNumber_any HP.out.ink f.width.toNat 2 (by omega) (.inr (.inl rfl)) (by have := hlen; simp [typB, ex, numB_len] at this ⊢; omega))
    rw [show (((f.width.toNat : Nat)) : Int) = f.width from Int.toNat_of_nonneg (by omega)] at H21
    obtain ⟨z0, z1, z2, z3, z4, z5⟩ := HP.out.cells
    go_wp2_with (go_at_call 36; refine Hid.out ?_)
    unfold Hid
    refine Calls.mono H21.out ?_
    rintro e W' ⟨rfl, hI1, hU1⟩
    replace HP := hidM (HP.out.next hI1 hU1)
    clear hI1 hU1 H21 z0 z1 z2 z3 z4 z5
    have et : typB f = numB f.kind.toNat 1 ++ numB f.width.toNat 2 := by simp [typB, ex]
    rw [List.append_assoc bs, ← et] at HP
    replace H31 := hidM (H31.out _ HP.out.ink)
    obtain ⟨z0, z1, z2, z3, z4, z5⟩ := HP.out.cells
    go_wp2_with (go_at_call 57; refine Hid.out ?_)
    unfold Hid
    refine Calls.mono H31.out ?_
    rintro e W' ⟨rfl, hI1, hU1⟩
    have HF := hidM (And.intro hI1 (HP.out.ku.trans hU1))
    clear hI1 hU1 H31 HP z0 z1 z2 z3 z4 z5
    go_wp2_with fail
    go_end0
    exact ⟨rfl, by have := HF.out.1; rwa [List.append_assoc] at this, HF.out.2⟩
  by_cases c19 : f.kind = 19
  · have e19 : (f.kind == 19) = true := by simp [c19]
    have e14 : (f.kind == 14) = false := beqF (by omega)
    have e16 : (f.kind == 16) = false := beqF (by omega)
    have e17 : (f.kind == 17) = false := beqF (by omega)
    have e18 : (f.kind == 18) = false := beqF (by omega)
    have q := k4 (by omega)
    have ex : extB f = numB f.id.toNat 2 ++ numB f.index.toNat 1 := by simp [extB, c19]
    have H21 := hidM (penNumber_any HP.out.ink f.id.toNat 2 (by omega) (.inr (.inl rfl)) (by have := hlen; simp [typB, ex, numB_len] at this ⊢; omega))
    rw [show (((f.id.toNat : Nat)) : Int) = f.id from Int.toNat_of_nonneg (by omega)] at H21
    obtain ⟨z0, z1, z2, z3, z4, z5⟩ := HP.out.cells
    go_wp2_with (go_at_call 36; refine Hid.out ?_)
    unfold Hid
    refine Calls.mono H21.out ?_
    rintro e W' ⟨rfl, hI1, hU1⟩
    replace HP := hidM (HP.out.next hI1 hU1)
    clear hI1 hU1 H21 z0 z1 z2 z3 z4 z5
    have H21 := hidM (penNumber_any HP.out.ink f.index.toNat 1 (by omega) (.inl rfl) (by have := hlen; simp [typB, ex, numB_len] at this ⊢; omega))
    rw [show (((f.index.toNat : Nat)) : Int) = f.index from Int.toNat_of_nonneg (by omega)] at H21
    obtain ⟨z0, z1, z2, z3, z4, z5⟩ := HP.out.cells
    go_wp2_with (go_at_call 36; refine Hid.out ?_)
    unfold Hid
    refine Calls.mono H21.out ?_
    rintro e W' ⟨rfl, hI1, hU1⟩
    replace HP := hidM (HP.out.next hI1 hU1)
    clear hI1 hU1 H21 z0 z1 z2 z3 z4 z5
    have et : typB f = numB f.kind.toNat 1 ++ numB f.id.toNat 2 ++ numB f.index.toNat 1 := by simp [typB, ex]
    rw [List.append_assoc bs, List.append_assoc bs, ← et] at HP
    replace H31 := hidM (H31.out _ HP.out.ink)
    obtain ⟨z0, z1, z2, z3, z4, z5⟩ := HP.out.cells
    go_wp2_with (go_at_call 57; refine Hid.out ?_)
    unfold Hid
    refine Calls.mono H31.out ?_
    rintro e W' ⟨rfl, hI1, hU1⟩
    have HF := hidM (And.intro hI1 (HP.out.ku.trans hU1))
    clear hI1 hU1 H31 HP z0 z1 z2 z3 z4 z5
    go_wp2_with fail
    go_end0
    exact ⟨rfl, by have := HF.out.1; rwa [List.append_assoc] at this, HF.out.2⟩
  by_cases c17 : f.kind = 17
  · have e17 : (f.kind == 17) = true := by simp [c17]
    have e14 : (f.kind == 14) = false := beqF (by omega)
    have e16 : (f.kind == 16) = false := beqF (by omega)
    have e19 : (f.kind == 19) = false := beqF (by omega)
    have e18 : (f.kind == 18) = false := beqF (by omega)
    have ex : extB f = numB f.kids.length 1 := by simp [extB, c17]
    have H21 := hidM (penNumber_any HP.out.ink f.kids.length 1 (by omega) (.inl rfl) (by have := hlen; simp [typB, ex, numB_len] at this ⊢; omega))
    obtain ⟨z0, z1, z2, z3, z4, z5⟩ := HP.out.cells
    go_wp2_with (go_at_call 36; refine Hid.out ?_)
    unfold Hid
    refine Calls.mono H21.out ?_
    rintro e W' ⟨rfl, hI1, hU1⟩
    replace HP := hidM (HP.out.next hI1 hU1)
    clear hI1 hU1 H21 z0 z1 z2 z3 z4 z5
    have et : typB f = numB f.kind.toNat 1 ++ numB f.kids.length 1 := by simp [typB, ex]
    rw [List.append_assoc bs, ← et] at HP
    replace H31 := hidM (H31.out _ HP.out.ink)
    obtain ⟨z0, z1, z2, z3, z4, z5⟩ := HP.out.cells
    go_wp2_with (go_at_call 57; refine Hid.out ?_)
    unfold Hid
    refine Calls.mono H31.out ?_
    rintro e W' ⟨rfl, hI1, hU1⟩
    have HF := hidM (And.intro hI1 (HP.out.ku.trans hU1))
    clear hI1 hU1 H31 HP z0 z1 z2 z3 z4 z5
    go_wp2_with fail
    go_end0
    exact ⟨rfl, by have := HF.out.1; rwa [List.append_assoc] at this, HF.out.2⟩
  by_cases c18 : f.kind = 18
  · have e18 : (f.kind == 18) = true := by simp [c18]
    have e14 : (f.kind == 14) = false := beqF (by omega)
    have e16 : (f.kind == 16) = false := beqF (by omega)
    have e19 : (f.kind == 19) = false := beqF (by omega)
    have e17 : (f.kind == 17) = false := beqF (by omega)
    have ex : extB f = numB f.kids.length 1 := by simp [extB, c18]
    have H21 := hidM (penNumber_any HP.out.ink f.kids.length 1 (by omega) (.inl rfl) (by have := hlen; simp [typB, ex, numB_len] at this ⊢; omega))
    obtain ⟨z0, z1, z2, z3, z4, z5⟩ := HP.out.cells
    go_wp2_with (go_at_call 36; refine Hid.out ?_)
    unfold Hid
    refine Calls.mono H21.out ?_
    rintro e W' ⟨rfl, hI1, hU1⟩
    replace HP := hidM (HP.out.next hI1 hU1)
    clear hI1 hU1 H21 z0 z1 z2 z3 z4 z5
    have et : typB f = numB f.kind.toNat 1 ++ numB f.kids.length 1 := by simp [typB, ex]
    rw [List.append_assoc bs, ← et] at HP
    replace H31 := hidM (H31.out _ HP.out.ink)
    obtain ⟨z0, z1, z2, z3, z4, z5⟩ := HP.out.cells
    go_wp2_with (go_at_call 57; refine Hid.out ?_)
    unfold Hid
    refine Calls.mono H31.out ?_
    rintro e W' ⟨rfl, hI1, hU1⟩
    have HF := hidM (And.intro hI1 (HP.out.ku.trans hU1))
    clear hI1 hU1 H31 HP z0 z1 z2 z3 z4 z5
    go_wp2_with fail
    go_end0
    exact ⟨rfl, by have := HF.out.1; rwa [List.append_assoc] at this, HF.out.2⟩
  have e14 : (f.kind == 14) = false := beqF c14
  have e16 : (f.kind == 16) = false := beqF c16
  have e19 : (f.kind == 19) = false := beqF c19
  have e17 : (f.kind == 17) = false := beqF c17
  have e18 : (f.kind == 18) = false := beqF c18
  have ex : extB f = [] := by simp [extB, c14, c16, c19, c17, c18]
  have et : typB f = numB f.kind.toNat 1 := by simp [typB, ex]
  rw [← et] at HP
  replace H31 := hidM (H31.out _ HP.out.ink)
  obtain ⟨z0, z1, z2, z3, z4, z5⟩ := HP.out.cells
  go_wp2_with (go_at_call 57; refine Hid.out ?_)
  unfold Hid
  refine Calls.mono H31.out ?_
  rintro e W' ⟨rfl, hI1, hU1⟩
  have HF := hidM (And.intro hI1 (HP.out.ku.trans hU1))
  clear hI1 hU1 H31 HP z0 z1 z2 z3 z4 z5
  go_wp2_with fail
  go_end0
  exact ⟨rfl, by have := HF.out.1; rwa [List.append_assoc] at this, HF.out.2⟩
end Go.Proofs.YtdihbfjjddmbiaaGreatDoor.Kit
namespace Go.Proofs.YtdihbfjjddmbiaaGreatDoor.Kit
open Go.RowKit Go.Shelf Go.Deep
set_option linter.unusedVariables false
attribute [local go_sem] run_store_func
structure QF (w W V : World) (K S F : Nat) (c : Array Value) (t : Nat) (bs : List UInt8) : Prop where
  ink : InkAt w V K bs
  ku : KU K W V
  ne : S ≠ K
  ne1 : F ≠ K
  pen : V.heap[S]? = some (.cells #[.pointer (some ⟨K, 0, none⟩)] 61)
  box : V.heap[F]? = some (.cells c t)
theorem QF.next {w W V V' : World} {K S F t : Nat} {c : Array Value} {bs bs' : List UInt8} (h : QF w W V K S F c t bs) (i : InkAt w V' K bs') (u : KU K V V') (ht : t ≠ 5) : QF w W V' K S F c t bs' :=
  ⟨i, h.ku.trans u, h.ne, h.ne1, u.2 _ _ _ h.pen (by decide) h.ne, u.2 _ _ _ h.box ht h.ne1⟩
theorem QF.first {w W V : World} {K S t : Nat} {bs : List UInt8} (i : InkAt w V K bs) (u : KU K W V) (ne : S ≠ K) (pen : V.heap[S]? = some (.cells #[.pointer (some ⟨K, 0, none⟩)] 61)) (c : Array Value) : QF w W (V.alloc (.cells c t)) K S V.heap.size c t bs := by
  obtain ⟨vo, n, vc, h1, -⟩ := i.ex
  have hlt := lt_of_heap h1
  have g := gr_alloc V (.cells c t)
  exact ⟨i.kept g, u.trans (KU.gr g), ne, by omega, (g.block _ (lt_of_heap pen) id).trans pen, heap_alloc_new V _⟩
theorem QF.penc {w W V : World} {K S F t : Nat} {c : Array Value} {bs : List UInt8} (h : QF w W V K S F c t bs) : V.cell? ⟨S, 0, none⟩ = some (.pointer (some ⟨K, 0, none⟩)) := by simp [World.cell?, h.pen]
def fB (kb : FT → List UInt8) (f : FT) : List UInt8 := txtB f.name 1 ++ flgB f.nul ++ (typB f ++ kb f)
theorem hdB_typ (f : FT) : hdB f = txtB f.name 1 ++ flgB f.nul ++ typB f := by simp [hdB, typB, List.append_assoc]
theorem penFields_walk {w W : World} {K : Nat} {bs : List UInt8} (kb : FT → List UInt8) (l : List FT) (ao : Option Addr) (ca : Nat) (h : InkAt w W K bs) (hlen : bs.length + (l.flatMap (fB kb)).length ≤ 65536) (hb : l.length ≤ 1000000000000)
    (hk : l ≠ [] → ∃ b o, ao = some ⟨b, o, none⟩ ∧ ∀ i (h : i < l.length), ∃ ao' ca', CellsAt w b (o + i * 7) l[i] ao' ca' ∧ l[i].name.size ≤ 48 ∧ ∀ V bs', InkAt w V K bs' → bs'.length + (typB l[i] ++ kb l[i]).length ≤ 65536 → Calls Tryz.prog 73 #[.agg #[.pointer (some ⟨K, 0, none⟩)], .agg #[.int .i64 l[i].kind, .int .i64 l[i].width, .int .i64 l[i].id, .int .i64 l[i].index, .slice ao' l[i].kids.length ca']] V fun e w' => e = .returned (.tuple #[]) ∧ InkAt w w' K (bs' ++ (typB l[i] ++ kb l[i])) ∧ KU K V w') :
    Calls Tryz.prog 57 #[.agg #[.pointer (some ⟨K, 0, none⟩)], .slice ao l.length ca] W fun e w' => e = .returned (.tuple #[]) ∧ InkAt w w' K (bs ++ l.flatMap (fB kb)) ∧ KU K W w' := by
  have HK := hidM hk
  have HLen := hidM hlen
  obtain ⟨S, hS⟩ : ∃ S, S = W.heap.size := ⟨_, rfl⟩
  have HS0 : Hid (InkAt w (W.alloc (.cells #[.pointer (some ⟨K, 0, none⟩)] 61)) K bs ∧ KU K W (W.alloc (.cells #[.pointer (some ⟨K, 0, none⟩)] 61)) ∧ (W.alloc (.cells #[.pointer (some ⟨K, 0, none⟩)] 61)).heap[S]? = some (.cells #[.pointer (some ⟨K, 0, none⟩)] 61)) :=
    ⟨h.kept (gr_alloc W _), KU.gr (gr_alloc W _), by rw [hS]; exact heap_alloc_new W _⟩
  have HNe : Hid (S ≠ K) := by obtain ⟨vo, n, vc, h1, -⟩ := h.ex; have := lt_of_heap h1; exact fun e => by omega
  clear hk hlen h
  go_enter Tryz.func57, Tryz.ntmps57
  go_wp2_with fail
  rw [← hS]
  go_loopw [8] (fun i wr => ∃ j : Nat, j ≤ l.length ∧ i = .int .i64 (j : Int) ∧ Hid (InkAt w wr K (bs ++ (l.take j).flatMap (fB kb)) ∧ KU K W wr ∧ wr.heap[S]? = some (.cells #[.pointer (some ⟨K, 0, none⟩)] 61))) (fun i _ => l.length - (intOf i).toNat)
  case atStart => exact ⟨0, by omega, rfl, by rw [List.take_zero, List.flatMap_nil, List.append_nil]; exact HS0.out⟩
  case round =>
    obtain ⟨j, hj, rfl, HR⟩ := hrel
    clear HS0 hS
    by_cases hlt : j < l.length
    · have hltI : (j : Int) < (l.length : Int) := by omega
      have hj0 : (0 : Int) ≤ (j : Int) := by omega
      obtain ⟨b, o, hao, hcs⟩ := HK.out (fun e => by rw [e] at hlt; simp at hlt)
      obtain ⟨ao', ca', hc, hnm, hcall⟩ := hcs j hlt
      obtain ⟨g0, g1, g2, g3, g4, g5, g6⟩ := hc.kept (HR.out.1.gr.block b (block_lt_of_cell hc.c0) id)
      have HTK : Hid (bs ++ (l.take (j + 1)).flatMap (fB kb) = bs ++ (l.take j).flatMap (fB kb) ++ fB kb l[j]) := by show _ = _; rw [flat_next (fB kb) l j hlt, ← List.append_assoc]
      have HLim : Hid ((bs ++ (l.take j).flatMap (fB kb)).length + (fB kb l[j]).length ≤ 65536) := by
        have h3 := flat_take (fB kb) l (j + 1)
        rw [flat_next (fB kb) l j hlt, List.length_append] at h3
        have := HLen.out
        rw [List.length_append]
        show _ ≤ _; omega
      have HC := hidM hcall
      have z0 : wr.cell? ⟨S, 0, none⟩ = some (.pointer (some ⟨K, 0, none⟩)) := by simp [World.cell?, HR.out.2.2]
      have za := fun o => (gr_alloc wr o).cell' z0 id
      have HQ := hidM (QF.first (t := 52) HR.out.1 HR.out.2.1 HNe.out HR.out.2.2 #[.string l[j].name, .bool l[j].nul, .int .i64 l[j].kind, .int .i64 l[j].width, .int .i64 l[j].id, .int .i64 l[j].index, .slice ao' l[j].kids.length ca'])
      have H32 := hidM (penText_any HQ.out.ink l[j].name 1 (.inl rfl) (by have := HLim.out; simp [fB, txtB, numB_len] at this ⊢; omega))
      subst hao
      clear hcs hcall hc
      go_wp2_with (go_at_call 58; refine Hid.out ?_)
      unfold Hid
      refine Calls.mono H32.out ?_
      rintro e V1 ⟨rfl, hI1, hU1⟩
      have HQ1 := hidM (HQ.out.next hI1 hU1 (by decide))
      obtain ⟨F, hF⟩ : ∃ F, F = wr.heap.size := ⟨_, rfl⟩
      rw [← hF] at HQ1 ⊢
      clear hI1 hU1 H32 HQ za z0 g0 g1 g2 g3 g4 g5 g6 HR hF
      have H23 := hidM (penFlag_any HQ1.out.ink l[j].nul (by have := HLim.out; simp [fB, txtB, numB_len, flgB_len] at this ⊢; omega))
      have z0 := HQ1.out.penc
      obtain ⟨q0, q1, q2, q3, q4, q5, q6⟩ := ce7 HQ1.out.box
      go_wp2_with (go_at_call 38; refine Hid.out ?_)
      unfold Hid
      refine Calls.mono H23.out ?_
      rintro e V2 ⟨rfl, hI1, hU1⟩
      have HQ2 := hidM (HQ1.out.next hI1 hU1 (by decide))
      clear hI1 hU1 H23 HQ1 z0 q0 q1 q2 q3 q4 q5 q6
      have H42 := hidM (HC.out _ _ HQ2.out.ink (by have := HLim.out; simp [fB, txtB, numB_len, flgB_len] at this ⊢; omega))
      have z0 := HQ2.out.penc
      obtain ⟨q0, q1, q2, q3, q4, q5, q6⟩ := ce7 HQ2.out.box
      go_wp2_with (go_at_call 73; refine Hid.out ?_)
      unfold Hid
      refine Calls.mono H42.out ?_
      rintro e V3 ⟨rfl, hI1, hU1⟩
      have HQ3 := hidM (HQ2.out.next hI1 hU1 (by decide))
      clear hI1 hU1 H42 HQ2 z0 q0 q1 q2 q3 q4 q5 q6
      have HN : Hid (InkAt w V3 K (bs ++ (l.take (j + 1)).flatMap (fB kb)) ∧ KU K W V3 ∧ V3.heap[S]? = some (.cells #[.pointer (some ⟨K, 0, none⟩)] 61)) := by
        refine ⟨?_, HQ3.out.ku, HQ3.out.pen⟩
        have := HQ3.out.ink
        rw [HTK.out]
        simpa [fB, List.append_assoc] using this
      clear HQ3 HTK HLim HC
      go_wp2_with fail
      go_roundw
      case rel => exact ⟨j + 1, by omega, by simp, HN.out⟩
      case measure => simp [intOf]; omega
    have hltI : ¬ (j : Int) < (l.length : Int) := by omega
    have HE : Hid (InkAt w wr K (bs ++ l.flatMap (fB kb)) ∧ KU K W wr) := by
      have := HR.out
      rw [List.take_of_length_le (by omega)] at this
      exact ⟨this.1, this.2.1⟩
    clear HR
    go_wp2_with fail
    go_end0
    exact ⟨rfl, HE.out⟩
theorem fB_kid (d : Nat) (f : FT) : fB (fun f => kidB d f.kids) f = fldB d f := by rw [fldB_eq, hdB_typ]; simp [fB, List.append_assoc]
theorem penFields_any (S : Nat → Prop) : ∀ (d : Nat) (l : List FT) (ao : Option Addr) (ca : Nat) (w : World) (K : Nat), RowAt S w d ao l → (∀ g ∈ pre d l, okM g) →
    ∀ W bs, InkAt w W K bs → bs.length + (kidB d l).length ≤ 65536 → Calls Tryz.prog 57 #[.agg #[.pointer (some ⟨K, 0, none⟩)], .slice ao l.length ca] W fun e w' => e = .returned (.tuple #[]) ∧ InkAt w w' K (bs ++ kidB d l) ∧ KU K W w'
  | 0, l, ao, ca, w, K, hr, ok => fun W bs h hl => by
    have hk : l = [] := hr
    subst hk
    have e : kidB 0 ([] : List FT) = ([] : List FT).flatMap (fB fun _ => []) := by simp [kidB]
    rw [e] at hl ⊢
    exact penFields_walk (fun _ => []) [] ao ca h hl (by simp) (fun hne => absurd rfl hne)
  | d + 1, l, ao, ca, w, K, hr, ok => fun W bs h hl => by
    have e : kidB (d + 1) l = l.flatMap (fB fun f => kidB d f.kids) := by
      rw [show (fB fun f => kidB d f.kids) = fldB d from funext fun f => fB_kid d f]
      rfl
    rw [e] at hl ⊢
    refine penFields_walk (fun f => kidB d f.kids) l ao ca h hl hr.1 fun hne => ?_
    obtain ⟨b, o, ea, hb, hc⟩ := hr.2 hne
    refine ⟨b, o, ea, fun i hi => ?_⟩
    obtain ⟨ao', ca', h1, h2, h3⟩ := hc i hi
    have hmem : l[i] ∈ l := List.getElem_mem hi
    have ep : pre (d + 1) l = l.flatMap fun f => f :: pre d f.kids := rfl
    have hsub : ∀ g, g = l[i] ∨ g ∈ pre d l[i].kids → g ∈ pre (d + 1) l := fun g hg => by
      rw [ep, List.mem_flatMap]
      exact ⟨_, hmem, by simpa using hg⟩
    have hok := ok _ (hsub _ (.inl rfl))
    refine ⟨ao', ca', h1, hok.1, fun V bs' hI hl' => ?_⟩
    refine penTyp_walk l[i] ao' ca' hok hI hl' fun V' hI' => ?_
    exact penFields_any S d l[i].kids ao' ca' w K h3 (fun g hg => ok g (hsub g (.inr hg))) V' _ hI' (by rw [List.length_append] at hl' ⊢; omega)
theorem penSchema_any {w W : World} {K : Nat} {bs fbs : List UInt8} (fs : List FT) (ns : List (ByteArray × ByteArray)) (fo no : Option Addr) (cf cn : Nat) (h : InkAt w W K bs) (hlen : bs.length + (numB fs.length 2 ++ fbs ++ numB ns.length 2 ++ ns.flatMap ntM).length ≤ 65536) (hb : fs.length ≤ 1000000000000)
    (h31 : ∀ V bs', InkAt w V K bs' → bs'.length + fbs.length ≤ 65536 → Calls Tryz.prog 57 #[.agg #[.pointer (some ⟨K, 0, none⟩)], .slice fo fs.length cf] V fun e w' => e = .returned (.tuple #[]) ∧ InkAt w w' K (bs' ++ fbs) ∧ KU K V w') (hn : NotesAt w no ns) :
    Calls Tryz.prog 37 #[.agg #[.pointer (some ⟨K, 0, none⟩)], .agg #[.slice fo fs.length cf, .slice no ns.length cn]] W fun e w' => e = .returned (.tuple #[]) ∧ InkAt w w' K (bs ++ (numB fs.length 2 ++ fbs ++ numB ns.length 2 ++ ns.flatMap ntM)) ∧ KU K W w' := by
  have HLen := hidM hlen
  have H31 := hidM h31
  have HNo := hidM hn.2
  have hln : ns.length ≤ 1000000000000 := hn.1
  have HQ0 : Hid (QF w W ((W.alloc (.cells #[.pointer (some ⟨K, 0, none⟩)] 61)).alloc (.cells #[.slice fo fs.length cf, .slice no ns.length cn] 25)) K W.heap.size (W.heap.size + 1) #[.slice fo fs.length cf, .slice no ns.length cn] 25 bs) := by
    have hne : W.heap.size ≠ K := by obtain ⟨vo, n, vc, h1, -⟩ := h.ex; have := lt_of_heap h1; exact fun e => by omega
    have := QF.first (t := 25) (h.kept (gr_alloc W (.cells #[.pointer (some ⟨K, 0, none⟩)] 61))) (KU.gr (K := K) (gr_alloc W (.cells #[.pointer (some ⟨K, 0, none⟩)] 61))) hne (heap_alloc_new W _) #[.slice fo fs.length cf, .slice no ns.length cn]
    have e2 : (W.alloc (.cells #[.pointer (some ⟨K, 0, none⟩)] 61)).heap.size = W.heap.size + 1 := by simp
    rw [e2] at this
    exact this
  clear h hlen h31 hn
  go_enter Tryz.func37, Tryz.ntmps37
  have HC := hidM (penNumber_any HQ0.out.ink fs.length 2 (by omega) (.inr (.inl rfl)) (by have := HLen.out; simp [numB_len] at this ⊢; omega))
  have z0 := HQ0.out.penc
  obtain ⟨q0, q1⟩ := ce2 HQ0.out.box
  go_wp2_with (go_at_call 36; refine Hid.out ?_)
  unfold Hid
  refine Calls.mono HC.out ?_
  rintro e V1 ⟨rfl, hI1, hU1⟩
  have HQ1 := hidM (HQ0.out.next hI1 hU1 (by decide))
  clear hI1 hU1 HC z0 q0 q1 HQ0
  obtain ⟨S, hS⟩ : ∃ S, S = W.heap.size := ⟨_, rfl⟩
  obtain ⟨F, hF⟩ : ∃ F, F = W.heap.size + 1 := ⟨_, rfl⟩
  rw [← hF, ← hS] at HQ1
  try rw [← hF]
  try rw [← hS]
  clear hS hF
  have HC := hidM (H31.out _ _ HQ1.out.ink (by have := HLen.out; simp [numB_len] at this ⊢; omega))
  have z0 := HQ1.out.penc
  obtain ⟨q0, q1⟩ := ce2 HQ1.out.box
  go_wp2_with (go_at_call 57; refine Hid.out ?_)
  unfold Hid
  refine Calls.mono HC.out ?_
  rintro e V2 ⟨rfl, hI1, hU1⟩
  have HQ2 := hidM (HQ1.out.next hI1 hU1 (by decide))
  clear hI1 hU1 HC z0 q0 q1 HQ1
  have HC := hidM (penNumber_any HQ2.out.ink ns.length 2 (by omega) (.inr (.inl rfl)) (by have := HLen.out; simp [numB_len] at this ⊢; omega))
  have z0 := HQ2.out.penc
  obtain ⟨q0, q1⟩ := ce2 HQ2.out.box
  go_wp2_with (go_at_call 36; refine Hid.out ?_)
  unfold Hid
  refine Calls.mono HC.out ?_
  rintro e V3 ⟨rfl, hI1, hU1⟩
  have HQ3 := hidM (HQ2.out.next hI1 hU1 (by decide))
  clear hI1 hU1 HC z0 q0 q1 HQ2
  have z0 := HQ3.out.penc
  obtain ⟨q0, q1⟩ := ce2 HQ3.out.box
  go_wp2_with fail
  go_loopw [23] (fun i wr => ∃ j : Nat, j ≤ ns.length ∧ i = .int .i64 (j : Int) ∧ Hid (QF w W wr K S F #[.slice fo fs.length cf, .slice no ns.length cn] 25 (bs ++ numB fs.length 2 ++ fbs ++ numB ns.length 2 ++ (ns.take j).flatMap ntM))) (fun i _ => ns.length - (intOf i).toNat)
  case atStart => exact ⟨0, by omega, rfl, by rw [List.take_zero, List.flatMap_nil, List.append_nil]; exact HQ3.out⟩
  case round =>
    obtain ⟨j, hj, rfl, HR⟩ := hrel
    clear HQ3 z0 q0 q1
    by_cases hlt : j < ns.length
    · have hltI : (j : Int) < (ns.length : Int) := by omega
      have hj0 : (0 : Int) ≤ (j : Int) := by omega
      obtain ⟨b, o, hao, hcs⟩ := HNo.out (fun e => by rw [e] at hlt; simp at hlt)
      obtain ⟨c0, c1⟩ := hcs j hlt
      have g0 := HR.out.ink.gr.cell' c0 id
      have g1 := HR.out.ink.gr.cell' c1 id
      have HTK : Hid (bs ++ numB fs.length 2 ++ fbs ++ numB ns.length 2 ++ (ns.take (j + 1)).flatMap ntM = bs ++ numB fs.length 2 ++ fbs ++ numB ns.length 2 ++ (ns.take j).flatMap ntM ++ ntM ns[j]) := by show _ = _; rw [flat_next ntM ns j hlt, ← List.append_assoc]
      have HLim : Hid ((bs ++ numB fs.length 2 ++ fbs ++ numB ns.length 2 ++ (ns.take j).flatMap ntM).length + (ntM ns[j]).length ≤ 65536) := by
        have h3 := flat_take ntM ns (j + 1)
        rw [flat_next ntM ns j hlt, List.length_append] at h3
        have := HLen.out
        simp only [List.length_append] at this ⊢
        show _ ≤ _; omega
      have z0 := HR.out.penc
      have za := fun o => (gr_alloc wr o).cell' z0 id
      have HX := hidM (QF.first (t := 55) HR.out.ink HR.out.ku HR.out.ne HR.out.pen #[.string ns[j].1, .string ns[j].2])
      have HY : Hid (QF w W (wr.alloc (.cells #[.string ns[j].1, .string ns[j].2] 55)) K S F #[.slice fo fs.length cf, .slice no ns.length cn] 25 (bs ++ numB fs.length 2 ++ fbs ++ numB ns.length 2 ++ (ns.take j).flatMap ntM)) := HR.out.next (HR.out.ink.kept (gr_alloc wr _)) (KU.gr (gr_alloc wr _)) (by decide)
      have HC := hidM (penText_any HX.out.ink ns[j].1 2 (.inr (.inl rfl)) (by have := HLim.out; simp [ntM, txtB, numB_len] at this ⊢; omega))
      subst hao
      clear hcs
      go_wp2_with (go_at_call 58; refine Hid.out ?_)
      unfold Hid
      refine Calls.mono HC.out ?_
      rintro e V4 ⟨rfl, hI1, hU1⟩
      have HX1 := hidM (HX.out.next hI1 hU1 (by decide))
      have HY1 := hidM (HY.out.next hI1 hU1 (by decide))
      obtain ⟨G, hG⟩ : ∃ G, G = wr.heap.size := ⟨_, rfl⟩
      rw [← hG] at HX1 ⊢
      clear hI1 hU1 HC HX HY za z0 g0 g1 c0 c1 HR hG
      have HC := hidM (penText_any HX1.out.ink ns[j].2 2 (.inr (.inl rfl)) (by have := HLim.out; simp [ntM, txtB, numB_len] at this ⊢; omega))
      have z0 := HX1.out.penc
      obtain ⟨q0, q1⟩ := ce2 HX1.out.box
      go_wp2_with (go_at_call 58; refine Hid.out ?_)
      unfold Hid
      refine Calls.mono HC.out ?_
      rintro e V5 ⟨rfl, hI1, hU1⟩
      have HY2 := hidM (HY1.out.next hI1 hU1 (by decide))
      clear hI1 hU1 HC HX1 HY1 z0 q0 q1
      have HN : Hid (QF w W V5 K S F #[.slice fo fs.length cf, .slice (some ⟨b, o, none⟩) ns.length cn] 25 (bs ++ numB fs.length 2 ++ fbs ++ numB ns.length 2 ++ (ns.take (j + 1)).flatMap ntM)) := by
        have := HY2.out
        rw [HTK.out, show ntM ns[j] = txtB ns[j].1 2 ++ txtB ns[j].2 2 from rfl, ← List.append_assoc]
        exact this
      clear HY2 HTK HLim
      go_wp2_with fail
      go_roundw
      case rel => exact ⟨j + 1, by omega, by simp, HN.out⟩
      case measure => simp [intOf]; omega
    have hltI : ¬ (j : Int) < (ns.length : Int) := by omega
    have HE : Hid (InkAt w wr K (bs ++ (numB fs.length 2 ++ fbs ++ numB ns.length 2 ++ ns.flatMap ntM)) ∧ KU K W wr) := by
      have := HR.out
      rw [List.take_of_length_le (by omega)] at this
      exact ⟨by have := this.ink; simpa [List.append_assoc] using this, this.ku⟩
    clear HR
    go_wp2_with fail
    go_end0
    exact ⟨rfl, by have := HE.out.1; simpa [List.append_assoc] using this, HE.out.2⟩
end Go.Proofs.YtdihbfjjddmbiaaGreatDoor.Kit
