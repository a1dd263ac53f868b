import Derived.Test.YtchhnchddledlaaDoorVO
namespace Go.Proofs.YtchhnchddledlaaDoor.Kit
open Go.RowKit Go.Shelf Go.Deep
set_option linter.unusedVariables false

/-! ### the pen's typ -/
/-- the pen's box and the type's box stay while the ink grows -/
structure PT (w W V : World) (K S : Nat) (c : Array Value) (bs : List UInt8) : Prop where
  ink : InkAt w V K bs
  ku : KU K W V
  ne : S ≠ K
  ne1 : S + 1 ≠ K
  pen : V.heap[S]? = some (.cells #[.pointer (some ⟨K, 0, none⟩)] 40)
  box : V.heap[S + 1]? = some (.cells c 46)
theorem PT.next {w W V V' : World} {K S : Nat} {c : Array Value} {bs bs' : List UInt8} (h : PT w W V K S c bs) (i : InkAt w V' K bs') (u : KU K V V') : PT w W V' K S c bs' :=
  ⟨i, h.ku.trans u, h.ne, h.ne1, u.2 _ _ _ h.pen (by decide) h.ne, u.2 _ _ _ h.box (by decide) h.ne1⟩
theorem PT.cells {w W V : World} {K S : Nat} {a b c d e : Value} {bs : List UInt8} (h : PT w W V K S #[a, b, c, d, e] bs) :
    V.cell? ⟨S, 0, none⟩ = some (.pointer (some ⟨K, 0, none⟩)) ∧ V.cell? ⟨S + 1, 0, none⟩ = some a ∧ V.cell? ⟨S + 1, 1, none⟩ = some b ∧ V.cell? ⟨S + 1, 2, none⟩ = some c ∧ V.cell? ⟨S + 1, 3, none⟩ = some d ∧ V.cell? ⟨S + 1, 4, none⟩ = some e := by
  simp [World.cell?, h.pen, h.box]
def typB (f : FT) : List UInt8 := numB f.kind.toNat 1 ++ extB f
set_option maxRecDepth 100000 in
set_option maxHeartbeats 4000000 in
theorem penTyp_walk {w W : World} {K : Nat} {bs kb : List UInt8} (f : FT) (ao : Option Addr) (ca : Nat) (ok : okM f) (h : InkAt w W K bs) (hlen : bs.length + (typB f ++ kb).length ≤ 65536)
    (h31 : ∀ V, InkAt w V K (bs ++ typB f) → Calls Tryd.prog 31 #[.agg #[.pointer (some ⟨K, 0, none⟩)], .slice ao f.kids.length ca] V fun e w' => e = .returned (.tuple #[]) ∧ InkAt w w' K (bs ++ typB f ++ kb) ∧ KU K V w') :
    Calls Tryd.prog 42 #[.agg #[.pointer (some ⟨K, 0, none⟩)], .agg #[.int .i64 f.kind, .int .i64 f.width, .int .i64 f.id, .int .i64 f.index, .slice ao f.kids.length ca]] W fun e w' => e = .returned (.tuple #[]) ∧ InkAt w w' K (bs ++ (typB f ++ kb)) ∧ KU K W w' := by
  obtain ⟨k1, k2, k3, k4, k5⟩ := tableB_nums ok.2
  have H31 := hidM h31
  clear h31
  have HP : Hid (PT w W ((W.alloc (.cells #[.pointer (some ⟨K, 0, none⟩)] 40)).alloc (.cells #[.int .i64 f.kind, .int .i64 f.width, .int .i64 f.id, .int .i64 f.index, .slice ao f.kids.length ca] 46)) K W.heap.size #[.int .i64 f.kind, .int .i64 f.width, .int .i64 f.id, .int .i64 f.index, .slice ao f.kids.length ca] bs) := by
    obtain ⟨vo, n, vc, h1, -⟩ := h.ex
    have hlt := lt_of_heap h1
    have g1 := gr_alloc W (.cells #[.pointer (some ⟨K, 0, none⟩)] 40)
    have g2 := gr_alloc (W.alloc (.cells #[.pointer (some ⟨K, 0, none⟩)] 40)) (.cells #[.int .i64 f.kind, .int .i64 f.width, .int .i64 f.id, .int .i64 f.index, .slice ao f.kids.length ca] 46)
    refine ⟨(h.kept g1).kept g2, (KU.gr g1).trans (KU.gr g2), by omega, by omega, ?_, ?_⟩
    · exact (g2.block _ (by simp) id).trans (heap_alloc_new W _)
    · have := heap_alloc_new (W.alloc (.cells #[.pointer (some ⟨K, 0, none⟩)] 40)) (.cells #[.int .i64 f.kind, .int .i64 f.width, .int .i64 f.id, .int .i64 f.index, .slice ao f.kids.length ca] 46)
      simpa using this
  clear h
  go_enter Tryd.func42, Tryd.ntmps42
  have H21 := hidM (penNumber_any HP.out.ink f.kind.toNat 1 (by omega) (.inl rfl) (by have := hlen; simp [typB, numB_len] at this ⊢; omega))
  rw [show (((f.kind.toNat : Nat)) : Int) = f.kind from Int.toNat_of_nonneg (by omega)] at H21
  obtain ⟨z0, z1, z2, z3, z4, z5⟩ := HP.out.cells
  go_wp2_with (go_at_call 21; refine Hid.out ?_)
  unfold Hid
  refine Calls.mono H21.out ?_
  rintro e W' ⟨rfl, hI1, hU1⟩
  replace HP := hidM (HP.out.next hI1 hU1)
  clear hI1 hU1 H21 z0 z1 z2 z3 z4 z5
  by_cases c14 : f.kind = 14
  · have e14 : (f.kind == 14) = true := by simp [c14]
    have e16 : (f.kind == 16) = false := beqF (by omega)
    have e19 : (f.kind == 19) = false := beqF (by omega)
    have e17 : (f.kind == 17) = false := beqF (by omega)
    have e18 : (f.kind == 18) = false := beqF (by omega)
    have q := k3 (by omega)
    have ex : extB f = numB f.width.toNat 2 := by simp [extB, c14]
    have H21 := hidM (penNumber_any HP.out.ink f.width.toNat 2 (by omega) (.inr (.inl rfl)) (by have := hlen; simp [typB, ex, numB_len] at this ⊢; omega))
    rw [show (((f.width.toNat : Nat)) : Int) = f.width from Int.toNat_of_nonneg (by omega)] at H21
    obtain ⟨z0, z1, z2, z3, z4, z5⟩ := HP.out.cells
    go_wp2_with (go_at_call 21; refine Hid.out ?_)
    unfold Hid
    refine Calls.mono H21.out ?_
    rintro e W' ⟨rfl, hI1, hU1⟩
    replace HP := hidM (HP.out.next hI1 hU1)
    clear hI1 hU1 H21 z0 z1 z2 z3 z4 z5
    have et : typB f = numB f.kind.toNat 1 ++ numB f.width.toNat 2 := by simp [typB, ex]
    rw [List.append_assoc bs, ← et] at HP
    replace H31 := hidM (H31.out _ HP.out.ink)
    obtain ⟨z0, z1, z2, z3, z4, z5⟩ := HP.out.cells
    go_wp2_with (go_at_call 31; refine Hid.out ?_)
    unfold Hid
    refine Calls.mono H31.out ?_
    rintro e W' ⟨rfl, hI1, hU1⟩
    have HF := hidM (And.intro hI1 (HP.out.ku.trans hU1))
    clear hI1 hU1 H31 HP z0 z1 z2 z3 z4 z5
    go_wp2_with fail
    go_end0
    exact ⟨rfl, by have := HF.out.1; rwa [List.append_assoc] at this, HF.out.2⟩
  by_cases c16 : f.kind = 16
  · have e16 : (f.kind == 16) = true := by simp [c16]
    have e14 : (f.kind == 14) = false := beqF (by omega)
    have e19 : (f.kind == 19) = false := beqF (by omega)
    have e17 : (f.kind == 17) = false := beqF (by omega)
    have e18 : (f.kind == 18) = false := beqF (by omega)
    have q := k3 (by omega)
    have ex : extB f = numB f.width.toNat 2 := by simp [extB, c16]
    have H21 := hidM (penNumber_any HP.out.ink f.width.toNat 2 (by omega) (.inr (.inl rfl)) (by have := hlen; simp [typB, ex, numB_len] at this ⊢; omega))
    rw [show (((f.width.toNat : Nat)) : Int) = f.width from Int.toNat_of_nonneg (by omega)] at H21
    obtain ⟨z0, z1, z2, z3, z4, z5⟩ := HP.out.cells
    go_wp2_with (go_at_call 21; refine Hid.out ?_)
    unfold Hid
    refine Calls.mono H21.out ?_
    rintro e W' ⟨rfl, hI1, hU1⟩
    replace HP := hidM (HP.out.next hI1 hU1)
    clear hI1 hU1 H21 z0 z1 z2 z3 z4 z5
    have et : typB f = numB f.kind.toNat 1 ++ numB f.width.toNat 2 := by simp [typB, ex]
    rw [List.append_assoc bs, ← et] at HP
    replace H31 := hidM (H31.out _ HP.out.ink)
    obtain ⟨z0, z1, z2, z3, z4, z5⟩ := HP.out.cells
    go_wp2_with (go_at_call 31; refine Hid.out ?_)
    unfold Hid
    refine Calls.mono H31.out ?_
    rintro e W' ⟨rfl, hI1, hU1⟩
    have HF := hidM (And.intro hI1 (HP.out.ku.trans hU1))
    clear hI1 hU1 H31 HP z0 z1 z2 z3 z4 z5
    go_wp2_with fail
    go_end0
    exact ⟨rfl, by have := HF.out.1; rwa [List.append_assoc] at this, HF.out.2⟩
  by_cases c19 : f.kind = 19
  · have e19 : (f.kind == 19) = true := by simp [c19]
    have e14 : (f.kind == 14) = false := beqF (by omega)
    have e16 : (f.kind == 16) = false := beqF (by omega)
    have e17 : (f.kind == 17) = false := beqF (by omega)
    have e18 : (f.kind == 18) = false := beqF (by omega)
    have q := k4 (by omega)
    have ex : extB f = numB f.id.toNat 2 ++ numB f.index.toNat 1 := by simp [extB, c19]
    have H21 := hidM (penNumber_any HP.out.ink f.id.toNat 2 (by omega) (.inr (.inl rfl)) (by have := hlen; simp [typB, ex, numB_len] at this ⊢; omega))
    rw [show (((f.id.toNat : Nat)) : Int) = f.id from Int.toNat_of_nonneg (by omega)] at H21
    obtain ⟨z0, z1, z2, z3, z4, z5⟩ := HP.out.cells
    go_wp2_with (go_at_call 21; refine Hid.out ?_)
    unfold Hid
    refine Calls.mono H21.out ?_
    rintro e W' ⟨rfl, hI1, hU1⟩
    replace HP := hidM (HP.out.next hI1 hU1)
    clear hI1 hU1 H21 z0 z1 z2 z3 z4 z5
    have H21 := hidM (penNumber_any HP.out.ink f.index.toNat 1 (by omega) (.inl rfl) (by have := hlen; simp [typB, ex, numB_len] at this ⊢; omega))
    rw [show (((f.index.toNat : Nat)) : Int) = f.index from Int.toNat_of_nonneg (by omega)] at H21
    obtain ⟨z0, z1, z2, z3, z4, z5⟩ := HP.out.cells
    go_wp2_with (go_at_call 21; refine Hid.out ?_)
    unfold Hid
    refine Calls.mono H21.out ?_
    rintro e W' ⟨rfl, hI1, hU1⟩
    replace HP := hidM (HP.out.next hI1 hU1)
    clear hI1 hU1 H21 z0 z1 z2 z3 z4 z5
    have et : typB f = numB f.kind.toNat 1 ++ numB f.id.toNat 2 ++ numB f.index.toNat 1 := by simp [typB, ex]
    rw [List.append_assoc bs, List.append_assoc bs, ← et] at HP
    replace H31 := hidM (H31.out _ HP.out.ink)
    obtain ⟨z0, z1, z2, z3, z4, z5⟩ := HP.out.cells
    go_wp2_with (go_at_call 31; refine Hid.out ?_)
    unfold Hid
    refine Calls.mono H31.out ?_
    rintro e W' ⟨rfl, hI1, hU1⟩
    have HF := hidM (And.intro hI1 (HP.out.ku.trans hU1))
    clear hI1 hU1 H31 HP z0 z1 z2 z3 z4 z5
    go_wp2_with fail
    go_end0
    exact ⟨rfl, by have := HF.out.1; rwa [List.append_assoc] at this, HF.out.2⟩
  by_cases c17 : f.kind = 17
  · have e17 : (f.kind == 17) = true := by simp [c17]
    have e14 : (f.kind == 14) = false := beqF (by omega)
    have e16 : (f.kind == 16) = false := beqF (by omega)
    have e19 : (f.kind == 19) = false := beqF (by omega)
    have e18 : (f.kind == 18) = false := beqF (by omega)
    have ex : extB f = numB f.kids.length 1 := by simp [extB, c17]
    have H21 := hidM (penNumber_any HP.out.ink f.kids.length 1 (by omega) (.inl rfl) (by have := hlen; simp [typB, ex, numB_len] at this ⊢; omega))
    obtain ⟨z0, z1, z2, z3, z4, z5⟩ := HP.out.cells
    go_wp2_with (go_at_call 21; refine Hid.out ?_)
    unfold Hid
    refine Calls.mono H21.out ?_
    rintro e W' ⟨rfl, hI1, hU1⟩
    replace HP := hidM (HP.out.next hI1 hU1)
    clear hI1 hU1 H21 z0 z1 z2 z3 z4 z5
    have et : typB f = numB f.kind.toNat 1 ++ numB f.kids.length 1 := by simp [typB, ex]
    rw [List.append_assoc bs, ← et] at HP
    replace H31 := hidM (H31.out _ HP.out.ink)
    obtain ⟨z0, z1, z2, z3, z4, z5⟩ := HP.out.cells
    go_wp2_with (go_at_call 31; refine Hid.out ?_)
    unfold Hid
    refine Calls.mono H31.out ?_
    rintro e W' ⟨rfl, hI1, hU1⟩
    have HF := hidM (And.intro hI1 (HP.out.ku.trans hU1))
    clear hI1 hU1 H31 HP z0 z1 z2 z3 z4 z5
    go_wp2_with fail
    go_end0
    exact ⟨rfl, by have := HF.out.1; rwa [List.append_assoc] at this, HF.out.2⟩
  by_cases c18 : f.kind = 18
  · have e18 : (f.kind == 18) = true := by simp [c18]
    have e14 : (f.kind == 14) = false := beqF (by omega)
    have e16 : (f.kind == 16) = false := beqF (by omega)
    have e19 : (f.kind == 19) = false := beqF (by omega)
    have e17 : (f.kind == 17) = false := beqF (by omega)
    have ex : extB f = numB f.kids.length 1 := by simp [extB, c18]
    have H21 := hidM (penNumber_any HP.out.ink f.kids.length 1 (by omega) (.inl rfl) (by have := hlen; simp [typB, ex, numB_len] at this ⊢; omega))
    obtain ⟨z0, z1, z2, z3, z4, z5⟩ := HP.out.cells
    go_wp2_with (go_at_call 21; refine Hid.out ?_)
    unfold Hid
    refine Calls.mono H21.out ?_
    rintro e W' ⟨rfl, hI1, hU1⟩
    replace HP := hidM (HP.out.next hI1 hU1)
    clear hI1 hU1 H21 z0 z1 z2 z3 z4 z5
    have et : typB f = numB f.kind.toNat 1 ++ numB f.kids.length 1 := by simp [typB, ex]
    rw [List.append_assoc bs, ← et] at HP
    replace H31 := hidM (H31.out _ HP.out.ink)
    obtain ⟨z0, z1, z2, z3, z4, z5⟩ := HP.out.cells
    go_wp2_with (go_at_call 31; refine Hid.out ?_)
    unfold Hid
    refine Calls.mono H31.out ?_
    rintro e W' ⟨rfl, hI1, hU1⟩
    have HF := hidM (And.intro hI1 (HP.out.ku.trans hU1))
    clear hI1 hU1 H31 HP z0 z1 z2 z3 z4 z5
    go_wp2_with fail
    go_end0
    exact ⟨rfl, by have := HF.out.1; rwa [List.append_assoc] at this, HF.out.2⟩
  have e14 : (f.kind == 14) = false := beqF c14
  have e16 : (f.kind == 16) = false := beqF c16
  have e19 : (f.kind == 19) = false := beqF c19
  have e17 : (f.kind == 17) = false := beqF c17
  have e18 : (f.kind == 18) = false := beqF c18
  have ex : extB f = [] := by simp [extB, c14, c16, c19, c17, c18]
  have et : typB f = numB f.kind.toNat 1 := by simp [typB, ex]
  rw [← et] at HP
  replace H31 := hidM (H31.out _ HP.out.ink)
  obtain ⟨z0, z1, z2, z3, z4, z5⟩ := HP.out.cells
  go_wp2_with (go_at_call 31; refine Hid.out ?_)
  unfold Hid
  refine Calls.mono H31.out ?_
  rintro e W' ⟨rfl, hI1, hU1⟩
  have HF := hidM (And.intro hI1 (HP.out.ku.trans hU1))
  clear hI1 hU1 H31 HP z0 z1 z2 z3 z4 z5
  go_wp2_with fail
  go_end0
  exact ⟨rfl, by have := HF.out.1; rwa [List.append_assoc] at this, HF.out.2⟩
end Go.Proofs.YtchhnchddledlaaDoor.Kit
