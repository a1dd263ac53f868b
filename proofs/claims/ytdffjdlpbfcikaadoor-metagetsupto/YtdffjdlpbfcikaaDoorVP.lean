import Derived.Test.YtdffjdlpbfcikaaDoorVM
import Derived.Laws.CopyOwn
namespace Go.Proofs.YtdffjdlpbfcikaaDoor.Kit
open Go.RowKit Go.Shelf Go.Deep
set_option linter.unusedVariables false

/-! ### the pen's small ones -/
set_option maxRecDepth 100000 in
set_option maxHeartbeats 2000000 in
theorem penNumber_any {w W : World} {K : Nat} {bs : List UInt8} (h : InkAt w W K bs) (x wd : Nat) (hx : x ≤ 1000000000000) (hw : wd = 1 ∨ wd = 2 ∨ wd = 4) (hm : bs.length + wd ≤ 65536) : Calls Tryd.prog 38 #[.agg #[.pointer (some ⟨K, 0, none⟩)], .int .i64 (x : Int), .int .i64 (wd : Int)] W fun e w' => e = .returned (.tuple #[]) ∧ InkAt w w' K (bs ++ numB x wd) ∧ KU K W w' := by
  have HI := hidM (h.kept (gr_alloc W (.cells #[.pointer (some ⟨K, 0, none⟩)] 69)))
  have H30 := hidM (inkNumber_any HI.out x wd hx hw hm)
  have HU := hidM (KU.gr (K := K) (gr_alloc W (.cells #[.pointer (some ⟨K, 0, none⟩)] 69)))
  have hwr : IntKind.u64.wrap (x : Int) = (x : Int) := by rw [IntKind.wrap_u64]; omega
  clear h
  go_enter Tryd.func38, Tryd.ntmps38
  go_wp2_with (go_at_call 56; refine Hid.out ?_)
  unfold Hid
  refine Calls.mono H30.out ?_
  rintro e W1 ⟨rfl, hI1, hU1⟩
  have HF := hidM (And.intro hI1 (HU.out.trans hU1))
  clear hI1 hU1 HU H30 HI
  go_wp2_with fail
  go_end0
  exact ⟨rfl, HF.out⟩
set_option maxRecDepth 100000 in
set_option maxHeartbeats 2000000 in
theorem penFlag_any {w W : World} {K : Nat} {bs : List UInt8} (h : InkAt w W K bs) (b : Bool) (hm : bs.length + 1 ≤ 65536) : Calls Tryd.prog 40 #[.agg #[.pointer (some ⟨K, 0, none⟩)], .bool b] W fun e w' => e = .returned (.tuple #[]) ∧ InkAt w w' K (bs ++ flgB b) ∧ KU K W w' := by
  have HI := hidM (h.kept (gr_alloc W (.cells #[.pointer (some ⟨K, 0, none⟩)] 69)))
  have HU := hidM (KU.gr (K := K) (gr_alloc W (.cells #[.pointer (some ⟨K, 0, none⟩)] 69)))
  clear h
  cases b
  · have H21 := hidM (penNumber_any HI.out 0 1 (by omega) (.inl rfl) hm)
    go_enter Tryd.func40, Tryd.ntmps40
    go_wp2_with (go_at_call 38; refine Hid.out ?_)
    unfold Hid
    refine Calls.mono H21.out ?_
    rintro e W1 ⟨rfl, hI1, hU1⟩
    have HF := hidM (And.intro hI1 (HU.out.trans hU1))
    clear hI1 hU1 HU H21 HI
    go_wp2_with fail
    go_end0
    exact ⟨rfl, HF.out⟩
  · have H21 := hidM (penNumber_any HI.out 1 1 (by omega) (.inl rfl) hm)
    go_enter Tryd.func40, Tryd.ntmps40
    go_wp2_with (go_at_call 38; refine Hid.out ?_)
    unfold Hid
    refine Calls.mono H21.out ?_
    rintro e W1 ⟨rfl, hI1, hU1⟩
    have HF := hidM (And.intro hI1 (HU.out.trans hU1))
    clear hI1 hU1 HU H21 HI
    go_wp2_with fail
    go_end0
    exact ⟨rfl, HF.out⟩
set_option maxRecDepth 100000 in
set_option maxHeartbeats 2000000 in
theorem penText_any {w W : World} {K : Nat} {bs : List UInt8} (h : InkAt w W K bs) (s : ByteArray) (wd : Nat) (hw : wd = 1 ∨ wd = 2 ∨ wd = 4) (hm : bs.length + (wd + s.size) ≤ 65536) : Calls Tryd.prog 58 #[.agg #[.pointer (some ⟨K, 0, none⟩)], .string s, .int .i64 (wd : Int)] W fun e w' => e = .returned (.tuple #[]) ∧ InkAt w w' K (bs ++ txtB s wd) ∧ KU K W w' := by
  have HI := hidM (h.kept (gr_alloc W (.cells #[.pointer (some ⟨K, 0, none⟩)] 69)))
  have HU := hidM (KU.gr (K := K) (gr_alloc W (.cells #[.pointer (some ⟨K, 0, none⟩)] 69)))
  have HL : Hid (W.heap.size ≠ K) := by obtain ⟨vo, n, vc, h1, -⟩ := h.ex; have := lt_of_heap h1; exact fun e => by omega
  have HP := hidM (heap_alloc_new W (.cells #[.pointer (some ⟨K, 0, none⟩)] 69))
  clear h
  have H21 := hidM (penNumber_any HI.out s.size wd (by omega) hw (by omega))
  go_enter Tryd.func58, Tryd.ntmps58
  go_wp2_with (go_at_call 38; refine Hid.out ?_)
  unfold Hid
  refine Calls.mono H21.out ?_
  rintro e W1 ⟨rfl, hI1, hU1⟩
  have hP1 := hU1.2 _ _ _ HP.out (by decide) HL.out
  have z0 : W1.cell? ⟨W.heap.size, 0, none⟩ = some (.pointer (some ⟨K, 0, none⟩)) := by simp [World.cell?, hP1]
  have H43 := hidM (inkText_any hI1 s (by simp [numB_len]; omega))
  have HU1 := hidM (HU.out.trans hU1)
  clear hI1 hU1 HU H21 HI hP1 HP HL
  go_wp2_with (go_at_call 73; refine Hid.out ?_)
  unfold Hid
  refine Calls.mono H43.out ?_
  rintro e W2 ⟨rfl, hI2, hU2⟩
  have HF := hidM (And.intro hI2 (HU1.out.trans hU2))
  clear hI2 hU2 HU1 H43 z0
  go_wp2_with fail
  go_end0
  exact ⟨rfl, by have := HF.out.1; simpa [txtB, List.append_assoc] using this, HF.out.2⟩
end Go.Proofs.YtdffjdlpbfcikaaDoor.Kit
namespace Go.Proofs.YtdffjdlpbfcikaaDoor.Kit
open Go.RowKit Go.Shelf Go.Deep
set_option linter.unusedVariables false

/-! ### Ink.Bytes -/
theorem size5' : (Tryd.prog.info? 5).map (·.size) = some 1 := by kernel_rfl
theorem splice_all {α : Type} (L cs : List α) (h : cs.length = L.length) : splice L 0 cs = cs := by
  simp [splice, ← h]
set_option maxRecDepth 100000 in
set_option maxHeartbeats 2000000 in
theorem inkBytes_any {w W : World} {K : Nat} {bs : List UInt8} (h : InkAt w W K bs) (hbs : bs.length ≤ 65536) : Calls Tryd.prog 25 #[.pointer (some ⟨K, 0, none⟩)] W fun e w' => e = .returned (.slice (some ⟨W.heap.size, 0, none⟩) bs.length bs.length) ∧ w'.heap[W.heap.size]? = some (.cells (bv bs).toArray 5 (0, 0)) ∧ Below W.heap.size W w' := by
  obtain ⟨ao, n, cap, h0, hown, -⟩ := h.ex
  have hl : bs.length = n := by have := hown.1; simpa [bv] using this
  subst hl
  have HW := hidM hown
  have hlt := lt_of_heap h0
  have c0 := (ce2 h0).1
  have h0a : ∀ o, (W.alloc o).cell? ⟨K, 0, none⟩ = some (.slice ao bs.length cap) := fun o => (((Keeps.refl W (fun _ => False)).alloc o).cell hlt id).trans c0
  clear h h0 hown hlt
  have hmk := run_make_row' (P := Tryd.prog) 22 5 (.int .u8 0) 1 Tryd.underlying22 info5 rfl .i64 .i64 bs.length (by omega) (by omega)
  obtain ⟨cs, hcs⟩ : ∃ cs : List Value, cs = bv bs := ⟨_, rfl⟩
  have HC : Hid (cs = bv bs) := hcs
  clear hcs
  obtain ⟨cur, hcur⟩ : ∃ cur : List Value, cur = (madeCells #[.int .u8 0] bs.length).toList := ⟨_, rfl⟩
  have HCur : Hid (cur = (madeCells #[.int .u8 0] bs.length).toList) := hcur
  clear hcur
  go_enter Tryd.func25, Tryd.ntmps25
  go_wp2_with (with_reducible show wpList Tryd.prog _ _ (Oper.mk (some 15) _ _ _ _ _ :: _) _ _; refine wpList_copy_splice rfl (.tmp 10) (.tmp 14) 22 22 rfl 5 Tryd.underlying22 size5' _ _ _ _ _ _ rfl rfl W.heap.size 0 cur 5 ?hg cs ?hn ?hpos ?hfit ?h1 W.heap.size W ?hb (Nat.le_refl _) ?_)
  case hg => rw [HCur.out]; simpa using heap_alloc_new W _
  case hn => rw [HC.out]; simp [bv]
  case hpos =>
    intro hp
    have hown := HW.out
    rw [HC.out]
    rcases hown.2 with ⟨h, h'⟩ | ⟨g, cap', cur', h, _⟩
    · rw [HC.out] at hp; simp [bv] at hp h'; simp [h'] at hp
    · simp only [Value.slice.injEq] at h
      refine ⟨⟨g, 0, none⟩, h.1, fun j v hj => ?_⟩
      have hc := hown.cells (g := g) (by simp [Value.ownBlock, h.1]) j v hj
      exact ((Keeps.refl W (fun _ => False)).alloc _).cell' hc id
  case hfit => rw [HC.out, HCur.out]; simp [size_madeCells, bv]
  case h1 =>
    intro v hv
    rw [HC.out] at hv
    obtain ⟨z, _, rfl⟩ := List.mem_map.1 hv
    rfl
  case hb => exact (Below.refl _ _).alloc (Nat.le_refl _) _
  intro w1 HG1 hB1
  have HO : Hid (w1.heap[W.heap.size]? = some (.cells (bv bs).toArray 5 (0, 0))) := by
    have := HG1.out
    rw [splice_all _ _ (by rw [HC.out, HCur.out]; simp [size_madeCells, bv]), HC.out] at this
    exact this
  clear HG1
  go_wp2
  go_ret
  exact ⟨rfl, HO.out, hB1⟩
end Go.Proofs.YtdffjdlpbfcikaaDoor.Kit
namespace Go.Proofs.YtdffjdlpbfcikaaDoor.Kit
open Go.RowKit Go.Shelf Go.Deep
set_option linter.unusedVariables false

/-! ### the pen's typ -/
/-- the pen's box and the type's box stay while the ink grows -/
structure PT (w W V : World) (K S : Nat) (c : Array Value) (bs : List UInt8) : Prop where
  ink : InkAt w V K bs
  ku : KU K W V
  ne : S ≠ K
  ne1 : S + 1 ≠ K
  pen : V.heap[S]? = some (.cells #[.pointer (some ⟨K, 0, none⟩)] 69)
  box : V.heap[S + 1]? = some (.cells c 78)
theorem PT.next {w W V V' : World} {K S : Nat} {c : Array Value} {bs bs' : List UInt8} (h : PT w W V K S c bs) (i : InkAt w V' K bs') (u : KU K V V') : PT w W V' K S c bs' :=
  ⟨i, h.ku.trans u, h.ne, h.ne1, u.2 _ _ _ h.pen (by decide) h.ne, u.2 _ _ _ h.box (by decide) h.ne1⟩
theorem PT.cells {w W V : World} {K S : Nat} {a b c d e : Value} {bs : List UInt8} (h : PT w W V K S #[a, b, c, d, e] bs) :
    V.cell? ⟨S, 0, none⟩ = some (.pointer (some ⟨K, 0, none⟩)) ∧ V.cell? ⟨S + 1, 0, none⟩ = some a ∧ V.cell? ⟨S + 1, 1, none⟩ = some b ∧ V.cell? ⟨S + 1, 2, none⟩ = some c ∧ V.cell? ⟨S + 1, 3, none⟩ = some d ∧ V.cell? ⟨S + 1, 4, none⟩ = some e := by
  simp [World.cell?, h.pen, h.box]
def typB (f : FT) : List UInt8 := numB f.kind.toNat 1 ++ extB f
set_option maxRecDepth 100000 in
set_option maxHeartbeats 4000000 in
theorem penTyp_walk {w W : World} {K : Nat} {bs kb : List UInt8} (f : FT) (ao : Option Addr) (ca : Nat) (ok : okM f) (h : InkAt w W K bs) (hlen : bs.length + (typB f ++ kb).length ≤ 65536)
    (h31 : ∀ V, InkAt w V K (bs ++ typB f) → Calls Tryd.prog 57 #[.agg #[.pointer (some ⟨K, 0, none⟩)], .slice ao f.kids.length ca] V fun e w' => e = .returned (.tuple #[]) ∧ InkAt w w' K (bs ++ typB f ++ kb) ∧ KU K V w') :
    Calls Tryd.prog 72 #[.agg #[.pointer (some ⟨K, 0, none⟩)], .agg #[.int .i64 f.kind, .int .i64 f.width, .int .i64 f.id, .int .i64 f.index, .slice ao f.kids.length ca]] W fun e w' => e = .returned (.tuple #[]) ∧ InkAt w w' K (bs ++ (typB f ++ kb)) ∧ KU K W w' := by
  obtain ⟨k1, k2, k3, k4, k5⟩ := tableB_nums ok.2
  have H31 := hidM h31
  clear h31
  have HP : Hid (PT w W ((W.alloc (.cells #[.pointer (some ⟨K, 0, none⟩)] 69)).alloc (.cells #[.int .i64 f.kind, .int .i64 f.width, .int .i64 f.id, .int .i64 f.index, .slice ao f.kids.length ca] 78)) K W.heap.size #[.int .i64 f.kind, .int .i64 f.width, .int .i64 f.id, .int .i64 f.index, .slice ao f.kids.length ca] bs) := by
    obtain ⟨vo, n, vc, h1, -⟩ := h.ex
    have hlt := lt_of_heap h1
    have g1 := gr_alloc W (.cells #[.pointer (some ⟨K, 0, none⟩)] 69)
    have g2 := gr_alloc (W.alloc (.cells #[.pointer (some ⟨K, 0, none⟩)] 69)) (.cells #[.int .i64 f.kind, .int .i64 f.width, .int .i64 f.id, .int .i64 f.index, .slice ao f.kids.length ca] 78)
    refine ⟨(h.kept g1).kept g2, (KU.gr g1).trans (KU.gr g2), by omega, by omega, ?_, ?_⟩
    · exact (g2.block _ (by simp) id).trans (heap_alloc_new W _)
    · have := heap_alloc_new (W.alloc (.cells #[.pointer (some ⟨K, 0, none⟩)] 69)) (.cells #[.int .i64 f.kind, .int .i64 f.width, .int .i64 f.id, .int .i64 f.index, .slice ao f.kids.length ca] 78)
      simpa using this
  clear h
  go_enter Tryd.func72, Tryd.ntmps72
  have H21 := hidM (penNumber_any HP.out.ink f.kind.toNat 1 (by omega) (.inl rfl) (by have := hlen; simp [typB, numB_len] at this ⊢; omega))
  rw [show (((f.kind.toNat : Nat)) : Int) = f.kind from Int.toNat_of_nonneg (by omega)] at H21
  obtain ⟨z0, z1, z2, z3, z4, z5⟩ := HP.out.cells
  go_wp2_with (go_at_call 38; refine Hid.out ?_)
  unfold Hid
  refine Calls.mono H21.out ?_
  rintro e W' ⟨rfl, hI1, hU1⟩
  replace HP := hidM (HP.out.next hI1 hU1)
  clear hI1 hU1 H21 z0 z1 z2 z3 z4 z5
  by_cases c14 : f.kind = 14
  · have e14 : (f.kind == 14) = true := by simp [c14]
    have e16 : (f.kind == 16) = false := beqF (by omega)
    have e19 : (f.kind == 19) = false := beqF (by omega)
    have e17 : (f.kind == 17) = false := beqF (by omega)
    have e18 : (f.kind == 18) = false := beqF (by omega)
    have q := k3 (by omega)
    have ex : extB f = numB f.width.toNat 2 := by simp [extB, c14]
    have H21 := hidM (penNumber_any HP.out.ink f.width.toNat 2 (by omega) (.inr (.inl rfl)) (by have := hlen; simp [typB, ex, numB_len] at this ⊢; omega))
    rw [show (((f.width.toNat : Nat)) : Int) = f.width from Int.toNat_of_nonneg (by omega)] at H21
    obtain ⟨z0, z1, z2, z3, z4, z5⟩ := HP.out.cells
    go_wp2_with (go_at_call 38; refine Hid.out ?_)
    unfold Hid
    refine Calls.mono H21.out ?_
    rintro e W' ⟨rfl, hI1, hU1⟩
    replace HP := hidM (HP.out.next hI1 hU1)
    clear hI1 hU1 H21 z0 z1 z2 z3 z4 z5
    have et : typB f = numB f.kind.toNat 1 ++ numB f.width.toNat 2 := by simp [typB, ex]
    rw [List.append_assoc bs, ← et] at HP
    replace H31 := hidM (H31.out _ HP.out.ink)
    obtain ⟨z0, z1, z2, z3, z4, z5⟩ := HP.out.cells
    go_wp2_with (go_at_call 57; refine Hid.out ?_)
    unfold Hid
    refine Calls.mono H31.out ?_
    rintro e W' ⟨rfl, hI1, hU1⟩
    have HF := hidM (And.intro hI1 (HP.out.ku.trans hU1))
    clear hI1 hU1 H31 HP z0 z1 z2 z3 z4 z5
    go_wp2_with fail
    go_end0
    exact ⟨rfl, by have := HF.out.1; rwa [List.append_assoc] at this, HF.out.2⟩
  by_cases c16 : f.kind = 16
  · have e16 : (f.kind == 16) = true := by simp [c16]
    have e14 : (f.kind == 14) = false := beqF (by omega)
    have e19 : (f.kind == 19) = false := beqF (by omega)
    have e17 : (f.kind == 17) = false := beqF (by omega)
    have e18 : (f.kind == 18) = false := beqF (by omega)
    have q := k3 (by omega)
    have ex : extB f = numB f.width.toNat 2 := by simp [extB, c16]
    have H21 := hidM (penNumber_any HP.out.ink f.width.toNat 2 (by omega) (.inr (.inl rfl)) (by have := hlen; simp [typB, ex, numB_len] at this ⊢; omega))
    rw [show (((f.width.toNat : Nat)) : Int) = f.width from Int.toNat_of_nonneg (by omega)] at H21
    obtain ⟨z0, z1, z2, z3, z4, z5⟩ := HP.out.cells
    go_wp2_with (go_at_call 38; refine Hid.out ?_)
    unfold Hid
    refine Calls.mono H21.out ?_
    rintro e W' ⟨rfl, hI1, hU1⟩
    replace HP := hidM (HP.out.next hI1 hU1)
    clear hI1 hU1 H21 z0 z1 z2 z3 z4 z5
    have et : typB f = numB f.kind.toNat 1 ++ numB f.width.toNat 2 := by simp [typB, ex]
    rw [List.append_assoc bs, ← et] at HP
    replace H31 := hidM (H31.out _ HP.out.ink)
    obtain ⟨z0, z1, z2, z3, z4, z5⟩ := HP.out.cells
    go_wp2_with (go_at_call 57; refine Hid.out ?_)
    unfold Hid
    refine Calls.mono H31.out ?_
    rintro e W' ⟨rfl, hI1, hU1⟩
    have HF := hidM (And.intro hI1 (HP.out.ku.trans hU1))
    clear hI1 hU1 H31 HP z0 z1 z2 z3 z4 z5
    go_wp2_with fail
    go_end0
    exact ⟨rfl, by have := HF.out.1; rwa [List.append_assoc] at this, HF.out.2⟩
  by_cases c19 : f.kind = 19
  · have e19 : (f.kind == 19) = true := by simp [c19]
    have e14 : (f.kind == 14) = false := beqF (by omega)
    have e16 : (f.kind == 16) = false := beqF (by omega)
    have e17 : (f.kind == 17) = false := beqF (by omega)
    have e18 : (f.kind == 18) = false := beqF (by omega)
    have q := k4 (by omega)
    have ex : extB f = numB f.id.toNat 2 ++ numB f.index.toNat 1 := by simp [extB, c19]
    have H21 := hidM (penNumber_any HP.out.ink f.id.toNat 2 (by omega) (.inr (.inl rfl)) (by have := hlen; simp [typB, ex, numB_len] at this ⊢; omega))
    rw [show (((f.id.toNat : Nat)) : Int) = f.id from Int.toNat_of_nonneg (by omega)] at H21
    obtain ⟨z0, z1, z2, z3, z4, z5⟩ := HP.out.cells
    go_wp2_with (go_at_call 38; refine Hid.out ?_)
    unfold Hid
    refine Calls.mono H21.out ?_
    rintro e W' ⟨rfl, hI1, hU1⟩
    replace HP := hidM (HP.out.next hI1 hU1)
    clear hI1 hU1 H21 z0 z1 z2 z3 z4 z5
    have H21 := hidM (penNumber_any HP.out.ink f.index.toNat 1 (by omega) (.inl rfl) (by have := hlen; simp [typB, ex, numB_len] at this ⊢; omega))
    rw [show (((f.index.toNat : Nat)) : Int) = f.index from Int.toNat_of_nonneg (by omega)] at H21
    obtain ⟨z0, z1, z2, z3, z4, z5⟩ := HP.out.cells
    go_wp2_with (go_at_call 38; refine Hid.out ?_)
    unfold Hid
    refine Calls.mono H21.out ?_
    rintro e W' ⟨rfl, hI1, hU1⟩
    replace HP := hidM (HP.out.next hI1 hU1)
    clear hI1 hU1 H21 z0 z1 z2 z3 z4 z5
    have et : typB f = numB f.kind.toNat 1 ++ numB f.id.toNat 2 ++ numB f.index.toNat 1 := by simp [typB, ex]
    rw [List.append_assoc bs, List.append_assoc bs, ← et] at HP
    replace H31 := hidM (H31.out _ HP.out.ink)
    obtain ⟨z0, z1, z2, z3, z4, z5⟩ := HP.out.cells
    go_wp2_with (go_at_call 57; refine Hid.out ?_)
    unfold Hid
    refine Calls.mono H31.out ?_
    rintro e W' ⟨rfl, hI1, hU1⟩
    have HF := hidM (And.intro hI1 (HP.out.ku.trans hU1))
    clear hI1 hU1 H31 HP z0 z1 z2 z3 z4 z5
    go_wp2_with fail
    go_end0
    exact ⟨rfl, by have := HF.out.1; rwa [List.append_assoc] at this, HF.out.2⟩
  by_cases c17 : f.kind = 17
  · have e17 : (f.kind == 17) = true := by simp [c17]
    have e14 : (f.kind == 14) = false := beqF (by omega)
    have e16 : (f.kind == 16) = false := beqF (by omega)
    have e19 : (f.kind == 19) = false := beqF (by omega)
    have e18 : (f.kind == 18) = false := beqF (by omega)
    have ex : extB f = numB f.kids.length 1 := by simp [extB, c17]
    have H21 := hidM (penNumber_any HP.out.ink f.kids.length 1 (by omega) (.inl rfl) (by have := hlen; simp [typB, ex, numB_len] at this ⊢; omega))
    obtain ⟨z0, z1, z2, z3, z4, z5⟩ := HP.out.cells
    go_wp2_with (go_at_call 38; refine Hid.out ?_)
    unfold Hid
    refine Calls.mono H21.out ?_
    rintro e W' ⟨rfl, hI1, hU1⟩
    replace HP := hidM (HP.out.next hI1 hU1)
    clear hI1 hU1 H21 z0 z1 z2 z3 z4 z5
    have et : typB f = numB f.kind.toNat 1 ++ numB f.kids.length 1 := by simp [typB, ex]
    rw [List.append_assoc bs, ← et] at HP
    replace H31 := hidM (H31.out _ HP.out.ink)
    obtain ⟨z0, z1, z2, z3, z4, z5⟩ := HP.out.cells
    go_wp2_with (go_at_call 57; refine Hid.out ?_)
    unfold Hid
    refine Calls.mono H31.out ?_
    rintro e W' ⟨rfl, hI1, hU1⟩
    have HF := hidM (And.intro hI1 (HP.out.ku.trans hU1))
    clear hI1 hU1 H31 HP z0 z1 z2 z3 z4 z5
    go_wp2_with fail
    go_end0
    exact ⟨rfl, by have := HF.out.1; rwa [List.append_assoc] at this, HF.out.2⟩
  by_cases c18 : f.kind = 18
  · have e18 : (f.kind == 18) = true := by simp [c18]
    have e14 : (f.kind == 14) = false := beqF (by omega)
    have e16 : (f.kind == 16) = false := beqF (by omega)
    have e19 : (f.kind == 19) = false := beqF (by omega)
    have e17 : (f.kind == 17) = false := beqF (by omega)
    have ex : extB f = numB f.kids.length 1 := by simp [extB, c18]
    have H21 := hidM (penNumber_any HP.out.ink f.kids.length 1 (by omega) (.inl rfl) (by have := hlen; simp [typB, ex, numB_len] at this ⊢; omega))
    obtain ⟨z0, z1, z2, z3, z4, z5⟩ := HP.out.cells
    go_wp2_with (go_at_call 38; refine Hid.out ?_)
    unfold Hid
    refine Calls.mono H21.out ?_
    rintro e W' ⟨rfl, hI1, hU1⟩
    replace HP := hidM (HP.out.next hI1 hU1)
    clear hI1 hU1 H21 z0 z1 z2 z3 z4 z5
    have et : typB f = numB f.kind.toNat 1 ++ numB f.kids.length 1 := by simp [typB, ex]
    rw [List.append_assoc bs, ← et] at HP
    replace H31 := hidM (H31.out _ HP.out.ink)
    obtain ⟨z0, z1, z2, z3, z4, z5⟩ := HP.out.cells
    go_wp2_with (go_at_call 57; refine Hid.out ?_)
    unfold Hid
    refine Calls.mono H31.out ?_
    rintro e W' ⟨rfl, hI1, hU1⟩
    have HF := hidM (And.intro hI1 (HP.out.ku.trans hU1))
    clear hI1 hU1 H31 HP z0 z1 z2 z3 z4 z5
    go_wp2_with fail
    go_end0
    exact ⟨rfl, by have := HF.out.1; rwa [List.append_assoc] at this, HF.out.2⟩
  have e14 : (f.kind == 14) = false := beqF c14
  have e16 : (f.kind == 16) = false := beqF c16
  have e19 : (f.kind == 19) = false := beqF c19
  have e17 : (f.kind == 17) = false := beqF c17
  have e18 : (f.kind == 18) = false := beqF c18
  have ex : extB f = [] := by simp [extB, c14, c16, c19, c17, c18]
  have et : typB f = numB f.kind.toNat 1 := by simp [typB, ex]
  rw [← et] at HP
  replace H31 := hidM (H31.out _ HP.out.ink)
  obtain ⟨z0, z1, z2, z3, z4, z5⟩ := HP.out.cells
  go_wp2_with (go_at_call 57; refine Hid.out ?_)
  unfold Hid
  refine Calls.mono H31.out ?_
  rintro e W' ⟨rfl, hI1, hU1⟩
  have HF := hidM (And.intro hI1 (HP.out.ku.trans hU1))
  clear hI1 hU1 H31 HP z0 z1 z2 z3 z4 z5
  go_wp2_with fail
  go_end0
  exact ⟨rfl, by have := HF.out.1; rwa [List.append_assoc] at this, HF.out.2⟩
end Go.Proofs.YtdffjdlpbfcikaaDoor.Kit
