import Derived.Test.YtknnoiomdngmfaaGreatDoorRows
import Derived.Test.YtknnoiomdngmfaaGreatDoorNT
import Derived.ProofKit
import Derived.OpenShut
import Derived.ChangeOld
import Derived.Below
import Derived.Deep.Slices
import Derived.Deep.DeepHandedRow
import Derived.Test.YtknnoiomdngmfaaGreatDoorDA
import Derived.Deep.RegionHeld3
set_option maxRecDepth 100000
set_option maxHeartbeats 4000000
namespace Go.Proofs.YtknnoiomdngmfaaGreatDoor.kindR
open Go.ChangeShapes Go.WideShapes Go.ChangeAt Go.RowKit Go.Deep
open Go.Proofs.YtknnoiomdngmfaaGreatDoor
set_option linter.unusedVariables false
theorem cells4 : Tryz.prog.cellsOf 4 = 1 := by kernel_rfl
theorem cells24 : Tryz.prog.cellsOf 22 = 1 := by kernel_rfl
theorem cells35 : Tryz.prog.cellsOf 24 = 5 := by kernel_rfl
theorem cells37 : Tryz.prog.cellsOf 26 = 7 := by kernel_rfl
theorem one_le {H : Type} (d : DataW H) : 1 ≤ Rows.uptoBulk d := by
  cases d with
  | lit l => cases l <;> simp [Rows.uptoBulk]
  | nil => simp [Rows.uptoBulk]
  | ptr d => simp [Rows.uptoBulk]
  | slice elems spare => simp [Rows.uptoBulk]
  | agg parts => simp [Rows.uptoBulk]
  | iface t d => simp [Rows.uptoBulk]
  | map entries => simp [Rows.uptoBulk]
  | held h => simp [Rows.uptoBulk]
theorem part_le {H : Type} {d : DataW H} {l : List (DataW H)} (h : d ∈ l) : Rows.uptoBulk d ≤ Rows.uptoBulkAll l := by
  induction l with
  | nil => cases h
  | cons x r ih =>
    simp only [Rows.uptoBulkAll]
    rcases List.mem_cons.1 h with e | e
    · subst e; omega
    have := ih e; omega
theorem length_le {H : Type} (l : List (DataW H)) : l.length ≤ Rows.uptoBulkAll l := by
  induction l with
  | nil => simp [Rows.uptoBulkAll]
  | cons x r ih => have := one_le x; simp only [Rows.uptoBulkAll, List.length_cons]; omega
theorem list3 {α : Type} (l : List α) (h : l.length = 3) : ∃ a b c, l = [a, b, c] := by
  match l, h with
  | [a, b, c], _ => exact ⟨a, b, c, rfl⟩
theorem list5 {α : Type} (l : List α) (h : l.length = 5) : ∃ a b c d e, l = [a, b, c, d, e] := by
  match l, h with
  | [a, b, c, d, e], _ => exact ⟨a, b, c, d, e, rfl⟩
theorem list7 {α : Type} (l : List α) (h : l.length = 7) : ∃ a b c d e f g, l = [a, b, c, d, e, f, g] := by
  match l, h with
  | [a, b, c, d, e, f, g], _ => exact ⟨a, b, c, d, e, f, g, rfl⟩
theorem field_at {H : Type} {enc : TypeId × Value → H} {W : World} {fuel : Nat} {cs : List Value} {d : DataW H} {p : List MemPlace} (hl : cs.length = 7)
    (h : DataW.trod enc Tryz.prog W 0 (fun _ => true) true fuel 26 cs = some (d, p)) :
    ∃ (nm : ByteArray) (nu : Bool) (k0 k1 k2 k3 : Int) (v : Value) (n : Nat) (dk : DataW H) (pk : List MemPlace), cs = [.string nm, .bool nu, .int .i64 k0, .int .i64 k1, .int .i64 k2, .int .i64 k3, v] ∧
      DataW.trod enc Tryz.prog W 0 (fun _ => true) true n 22 [v] = some (dk, pk) ∧ Rows.uptoBulk dk + 1 ≤ Rows.uptoBulk d := by
  obtain ⟨xs, m, _, hd, _, hxs, hf⟩ := DataW.trod_struct Tryz.underlying26 h
  obtain ⟨c0, c1, c2, c3, c4, c5, c6, rfl⟩ := list7 cs hl
  obtain ⟨y0, y1, y2, rfl⟩ := list3 xs (hxs.trans rfl)
  have f0 : DataW.trod enc Tryz.prog W 0 (fun _ => true) true m 9 ((([c0, c1, c2, c3, c4, c5, c6] : List Value).drop 0).take (Tryz.prog.cellsOf 9)) = some y0 := hf 0 _ rfl
  have f1 : DataW.trod enc Tryz.prog W 0 (fun _ => true) true m 4 ((([c0, c1, c2, c3, c4, c5, c6] : List Value).drop 1).take (Tryz.prog.cellsOf 4)) = some y1 := hf 1 _ rfl
  have f2 : DataW.trod enc Tryz.prog W 0 (fun _ => true) true m 24 ((([c0, c1, c2, c3, c4, c5, c6] : List Value).drop 2).take (Tryz.prog.cellsOf 24)) = some y2 := hf 2 _ rfl
  rw [cells9] at f0
  rw [cells4] at f1
  rw [cells35] at f2
  simp only [List.drop_zero, List.drop_succ_cons, List.take_succ_cons, List.take_zero] at f0 f1 f2
  obtain ⟨nm, e0, _⟩ := DataW.trod_string Tryz.underlying9 f0
  obtain ⟨nu, e1, _⟩ := DataW.trod_bool Tryz.underlying4 f1
  obtain ⟨zs, m2, _, hd2, _, hzs, hf2⟩ := DataW.trod_struct Tryz.underlying24 f2
  obtain ⟨z0, z1, z2, z3, z4, rfl⟩ := list5 zs (hzs.trans rfl)
  have t0 : DataW.trod enc Tryz.prog W 0 (fun _ => true) true m2 3 ((([c2, c3, c4, c5, c6] : List Value).drop 0).take (Tryz.prog.cellsOf 3)) = some z0 := hf2 0 _ rfl
  have t1 : DataW.trod enc Tryz.prog W 0 (fun _ => true) true m2 3 ((([c2, c3, c4, c5, c6] : List Value).drop 1).take (Tryz.prog.cellsOf 3)) = some z1 := hf2 1 _ rfl
  have t2 : DataW.trod enc Tryz.prog W 0 (fun _ => true) true m2 3 ((([c2, c3, c4, c5, c6] : List Value).drop 2).take (Tryz.prog.cellsOf 3)) = some z2 := hf2 2 _ rfl
  have t3 : DataW.trod enc Tryz.prog W 0 (fun _ => true) true m2 3 ((([c2, c3, c4, c5, c6] : List Value).drop 3).take (Tryz.prog.cellsOf 3)) = some z3 := hf2 3 _ rfl
  have t4 : DataW.trod enc Tryz.prog W 0 (fun _ => true) true m2 22 ((([c2, c3, c4, c5, c6] : List Value).drop 4).take (Tryz.prog.cellsOf 22)) = some z4 := hf2 4 _ rfl
  rw [cells3] at t0 t1 t2 t3
  rw [cells24] at t4
  simp only [List.drop_zero, List.drop_succ_cons, List.take_succ_cons, List.take_zero] at t0 t1 t2 t3 t4
  obtain ⟨k0, q0, _⟩ := DataW.trod_int Tryz.underlying3 t0
  obtain ⟨k1, q1, _⟩ := DataW.trod_int Tryz.underlying3 t1
  obtain ⟨k2, q2, _⟩ := DataW.trod_int Tryz.underlying3 t2
  obtain ⟨k3, q3, _⟩ := DataW.trod_int Tryz.underlying3 t3
  simp at e0 e1 q0 q1 q2 q3
  subst e0 e1 q0 q1 q2 q3
  simp only [Prod.mk.injEq] at hd
  refine ⟨nm, nu, k0, k1, k2, k3, c6, m2, z4.1, z4.2, rfl, t4, ?_⟩
  have hy2 : y2.1 = .agg ([z0, z1, z2, z3, z4].map fun x => x.1) := by rw [hd2]
  have h1 : Rows.uptoBulk z4.1 ≤ Rows.uptoBulkAll ([z0, z1, z2, z3, z4].map fun x => x.1) := part_le (List.mem_map_of_mem (by simp))
  have h2 : Rows.uptoBulk y2.1 ≤ Rows.uptoBulkAll ([y0, y1, y2].map fun x => x.1) := part_le (List.mem_map_of_mem (by simp))
  rw [hd.1]
  rw [hy2] at h2
  simp only [Rows.uptoBulk] at h2 ⊢
  omega
theorem add0 (b o i : Nat) : (⟨b, o, none⟩ : Addr).add i = ⟨b, o + i, none⟩ := by simp [Addr.add]
theorem fields_at {H : Type} {enc : TypeId × Value → H} {W : World} (B : Nat) (hB : B ≤ 1048576) : ∀ {fuel : Nat} {v : Value} {d : DataW H} {p : List MemPlace},
    DataW.trod enc Tryz.prog W 0 (fun _ => true) true fuel 22 [v] = some (d, p) → Rows.uptoBulk d ≤ B → ∃ ao l ca, v = .slice ao l.length ca ∧ l.length ≤ ca ∧ Kit.RowAt (fun b => b < W.heap.size) W B ao l := by
  induction B with
  | zero => intro fuel v d p _ hb; have := one_le d; omega
  | succ B ih =>
    intro fuel v d p h hb
    rcases open_slice Tryz.underlying22 h with ⟨hcs, _⟩ | ⟨a, len, cap, m, n, D, Pl, hcs, _, hl, hm, hmm, hx, hc⟩
    · simp at hcs
      subst hcs
      exact ⟨none, [], 0, rfl, Nat.le_refl _, by simp [Kit.big], fun h => absurd rfl h⟩
    simp at hcs
    subst hcs
    simp only [if_true] at hmm
    subst hmm
    simp only [Prod.mk.injEq] at hx
    have hb' : Rows.uptoBulkAll ((List.range len).map D) + 1 ≤ B + 1 := by
      rw [hx.1] at hb
      simp only [Rows.uptoBulk] at hb
      omega
    have hlen : len ≤ 1048576 := by
      have := length_le ((List.range len).map D)
      simp at this
      omega
    have hall : ∀ i, i < len → ∃ f : Kit.FT, ∃ ao' ca', W.cells? 0 (a.add (i * 7)) 7 = some [.string f.name, .bool f.nul, .int .i64 f.kind, .int .i64 f.width, .int .i64 f.id, .int .i64 f.index, .slice ao' f.kids.length ca'] ∧ f.kids.length ≤ ca' ∧ Kit.RowAt (fun b => b < W.heap.size) W B ao' f.kids := by
      intro i hi
      obtain ⟨cs', hc', ht⟩ := hc i (by omega)
      rw [cells37] at hc'
      obtain ⟨_, hl', _⟩ := World.cells?_some hc'
      obtain ⟨nm, nu, k0, k1, k2, k3, v, n', dk, pk, rfl, hk, hbk⟩ := field_at hl' ht
      have hbi := part_le (List.mem_map_of_mem (f := D) (List.mem_range.2 hi))
      obtain ⟨ao', l', ca', rfl, h1, h2⟩ := ih (by omega) hk (by omega)
      exact ⟨⟨nm, nu, k0, k1, k2, k3, l'⟩, ao', ca', hc', h1, h2⟩
    obtain ⟨F, hF⟩ := choose_lt hall
    refine ⟨some a, (List.range len).map F, m, by simp, by simp; omega, by simp [Kit.big]; omega, fun h0 => ?_⟩
    have h0' : 0 < len := by cases len with | zero => simp at h0 | succ n => omega
    obtain ⟨b, off, spot⟩ := a
    have hsp : spot = none := by
      obtain ⟨_, _, hc', _⟩ := hF 0 h0'
      obtain ⟨_, hl', hcell'⟩ := World.cells?_some hc'
      have g0 := hcell' 0 (by omega)
      have hsp := World.cell?_spot (g0.trans rfl)
      simp [Addr.add] at hsp
      exact hsp
    subst hsp
    have hblk : b < W.heap.size := by
      obtain ⟨_, _, hc', _⟩ := hF 0 h0'
      obtain ⟨_, hl', hcell'⟩ := World.cells?_some hc'
      have g0 := (hcell' 0 (by omega)).trans rfl
      rw [add0, add0] at g0
      exact block_lt_of_cell g0
    refine ⟨b, off, rfl, hblk, fun i hi => ?_⟩
    simp at hi
    obtain ⟨ao', ca', hc', h1, h2⟩ := hF i hi
    have he : ((List.range len).map F)[i]'(by simpa using hi) = F i := by simp
    rw [he]
    obtain ⟨_, _, hcell⟩ := World.cells?_some hc'
    rw [add0] at hcell
    have g0 := hcell 0 (by omega)
    have g1 := hcell 1 (by omega)
    have g2 := hcell 2 (by omega)
    have g3 := hcell 3 (by omega)
    have g4 := hcell 4 (by omega)
    have g5 := hcell 5 (by omega)
    have g6 := hcell 6 (by omega)
    simp only [add0, Nat.add_zero, List.getElem?_cons_zero, List.getElem?_cons_succ] at g0 g1 g2 g3 g4 g5 g6
    exact ⟨ao', ca', ⟨g0, g1, g2, g3, g4, g5, g6⟩, h1, h2⟩
end Go.Proofs.YtknnoiomdngmfaaGreatDoor.kindR
namespace Go.Proofs.YtknnoiomdngmfaaGreatDoor.Kit
open Go.RowKit Go.Deep
theorem tk {P : Program} {ops : Array Oper} {Q : Exit → Act → World → Prop} {md : Region.Mode} {S : World → Prop} {oi : Oper} {v : Value} {fuel : Nat} {listed : Array Bool} {a a' : Act} {w : World} (i : Nat) (h : wpAnyH P md ops Q S fuel (listed.setIfInBounds i true) a' w) (hi : ops[i]? = some oi := by (simp only [List.getElem?_toArray, List.getElem?_cons_succ, List.getElem?_cons_zero]; exact rfl))
    (hy : YieldsIf P ops S oi v a := by exact Or.inl ⟨by kernel_rfl, by (intro w hSw; (try dsimp only at hSw); go_split_ands; go_simp; (try with_reducible rfl))⟩) (ha : a.put oi.dst v = a' := by (simp only [Act.put, List.setIfInBounds_toArray, List.set_cons_succ, List.set_cons_zero]; exact rfl))
    (hQ : ∀ c a w, Q (.panic c) (a.put oi.dst v) w → Q (.panic c) a w := by exact fun _ _ _ h => h) (hs : Region.noSelect ops = true := by kernel_rfl) (hf : Region.free md ops listed i = true := by kernel_rfl) (hr : (Region.ready md ops listed).contains i = true := by kernel_rfl) (hS : S w := by assumption) : wpAnyH P md ops Q S (fuel + 1) listed a w := by
  subst ha
  exact wpAnyH_take hi hs hf hr hQ hy hS h
theorem sk {P : Program} {ops : Array Oper} {Q : Exit → Act → World → Prop} {md : Region.Mode} {S : World → Prop} {oi : Oper} {fuel : Nat} {listed : Array Bool} {a a' : Act} {w : World} (i : Nat) (h : wpAnyH P md ops Q S fuel (listed.setIfInBounds i true) a' w) (hi : ops[i]? = some oi := by (simp only [List.getElem?_toArray, List.getElem?_cons_succ, List.getElem?_cons_zero]; exact rfl))
    (hy : YieldsIf P ops S oi undef a := by exact Or.inr ⟨by kernel_rfl, rfl⟩) (ha : a.put oi.dst undef = a' := by (simp only [Act.put, List.setIfInBounds_toArray, List.set_cons_succ, List.set_cons_zero]; exact rfl))
    (hQ : ∀ c a w, Q (.panic c) (a.put oi.dst undef) w → Q (.panic c) a w := by exact fun _ _ _ h => h) (hs : Region.noSelect ops = true := by kernel_rfl) (hf : Region.free md ops listed i = true := by kernel_rfl) (hr : (Region.ready md ops listed).contains i = true := by kernel_rfl) (hS : S w := by assumption) : wpAnyH P md ops Q S (fuel + 1) listed a w := by
  subst ha
  exact wpAnyH_take hi hs hf hr hQ hy hS h
theorem rd1 {P : Program} {ops : Array Oper} {Q : Exit → Act → World → Prop} {md : Region.Mode} {S : World → Prop} {fuel : Nat} {listed : Array Bool} {a : Act} {w : World} {o : Oper} (i : Nat)
    (h : ∀ K' : Act → World → Prop, Shut (∀ a w, S w → (S w → wpAnyH P md ops Q S fuel (listed.setIfInBounds i true) a w) → K' a w) → if Region.wanted o (yielded ops a.tmps) = true then Oper.wp P o a w K' Q else K' (a.put o.dst undef) w) (ho : ops[i]? = some o := by (simp only [List.getElem?_toArray, List.getElem?_cons_succ, List.getElem?_cons_zero]; exact rfl)) (hr : Region.ready md ops listed = [i] := by kernel_rfl) : wpAnyH P md ops Q S (fuel + 1) listed a w := wpAnyH_ready hr (by simp) (AllReadyH.cons ho h AllReadyH.nil)
theorem lA {α : Type} (l : List α) (i : Nat) (a : α) : l.toArray.setIfInBounds i a = (l.set i a).toArray := by simp
theorem lB {α : Type} (a b : α) (l : List α) (n : Nat) : (a :: l).set (n + 1) b = a :: l.set n b := rfl
theorem lC {α : Type} (a b : α) (l : List α) : (a :: l).set 0 b = b :: l := rfl
end Go.Proofs.YtknnoiomdngmfaaGreatDoor.Kit
namespace Go.Proofs.YtknnoiomdngmfaaGreatDoor.Kit
open Go.RowKit Go.Shelf Go.Deep
set_option linter.unusedVariables false
attribute [local go_sem] run_store_func
def CutR (w : World) (Q : Int → Option Addr → Nat → Nat → Int → World → Prop) (e : Ending) (w' : World) : Prop :=
  ∃ er vo vn vc tt A vo' vn' vc', Q er vo vn vc tt A ∧ e = .returned (.agg #[.int .i64 er, .slice vo' vn' vc', .int .i64 tt]) ∧ Gr w w' ∧ (∀ q c, q < A.heap.size → A.heap[q]? = some (.cells c 3) → w'.heap[q]? = A.heap[q]?) ∧
    ((vn = 0 ∧ vo' = vo ∧ vn' = vn ∧ vc' = vc) ∨ (0 < vn ∧ ∃ g, vo = some ⟨g, 0, none⟩ ∧ vn' = vn - 1 ∧ (1 < vn → vo' = some ⟨g, 1, none⟩)))
theorem checkField_walk (f0 : ByteArray) (f1 : Bool) (f2 f3 f4 f5 : Int) (ao : Option Addr) (f6 ca : Nat) (w : World) (Q : Int → Option Addr → Nat → Nat → Int → World → Prop)
    (hck : ∀ W g, Gr w W → w.heap.size ≤ g → W.heap[g]? = some (.cells #[.string f0, .bool f1, .int .i64 f2, .int .i64 f3, .int .i64 f4, .int .i64 f5, .slice ao f6 ca] 26) → Calls Tryz.prog 44 #[.agg #[.slice (some ⟨g, 0, none⟩) 1 1, .slice none 0 0]] W fun e w' => ∃ er vo vn vc tt, e = .returned (.agg #[.int .i64 er, .slice vo vn vc, .int .i64 tt]) ∧ Gr W w' ∧ Q er vo vn vc tt w')
    (hpos : ∀ er vo vn vc tt A, Q er vo vn vc tt A → vn ≤ vc ∧ (er = 0 → vn = 0) ∧ (er ≠ 0 → 0 < vn ∧ ∃ g, vo = some ⟨g, 0, none⟩)) :
    Calls Tryz.prog 26 #[.agg #[.string f0, .bool f1, .int .i64 f2, .int .i64 f3, .int .i64 f4, .int .i64 f5, .slice ao f6 ca]] w (CutR w Q) := by
  have HC := hidM hck
  have HP := hidM hpos
  clear hck hpos
  obtain ⟨W0, hW0⟩ := ex ((w.alloc (.cells #[.string f0, .bool f1, .int .i64 f2, .int .i64 f3, .int .i64 f4, .int .i64 f5, .slice ao f6 ca] 26)).alloc (.cells #[.int .i64 0, .slice none 0 0, .int .i64 0] 60))
  have g0 : Gr w W0 := by rw [← hW0]; exact (gr_alloc w _).alloc _
  have r0 : W0.heap[w.heap.size + 1]? = some (.cells #[.int .i64 0, .slice none 0 0, .int .i64 0] 60) := by
    have := World.alloc_heap_new (w.alloc (.cells #[.string f0, .bool f1, .int .i64 f2, .int .i64 f3, .int .i64 f4, .int .i64 f5, .slice ao f6 ca] 26)) (.cells #[.int .i64 0, .slice none 0 0, .int .i64 0] 60)
    rw [World.size_alloc] at this
    rw [← hW0]
    exact this
  have x0 : W0.heap[w.heap.size]? = some (.cells #[.string f0, .bool f1, .int .i64 f2, .int .i64 f3, .int .i64 f4, .int .i64 f5, .slice ao f6 ca] 26) := by
    rw [← hW0]; exact (Below.heap_alloc _ _ _ (by simp)).trans (World.alloc_heap_new w _)
  obtain ⟨v0, v1, v2, v3, v4, v5, v6⟩ := cell7 x0
  simp only [Nat.zero_add] at v1 v2 v3 v4 v5 v6
  have H0 := hidM (And.intro g0 r0)
  clear g0 r0 x0
  go_enter Tryz.func26, Tryz.ntmps26
  go_wp2_with (go_at_call 45; refine Hid.out ?_)
  unfold Hid
  refine Calls.mono (alone_any f0 f1 f2 f3 f4 f5 ao f6 ca W0) ?_
  rintro e W1 ⟨g, rfl, g1, hg, hx⟩
  have HA := HC.out W1 g (H0.out.1.tr g1) (by have := H0.out.1.size; omega) hx
  have H1 : Hid (Gr w W1 ∧ W1.heap[w.heap.size + 1]? = some (.cells #[.int .i64 0, .slice none 0 0, .int .i64 0] 60)) := ⟨H0.out.1.tr g1, (g1.block _ (lt_of_heap H0.out.2) id).trans H0.out.2⟩
  have HCA := hidM HA
  clear HA HC H0 g1 hg hx v0 v1 v2 v3 v4 v5 v6 hW0
  go_wp2_with (go_at_call 44; refine Hid.out ?_)
  unfold Hid
  refine Calls.mono HCA.out ?_
  rintro e A ⟨er, vo, vn, vc, tt, rfl, gA, hq⟩
  obtain ⟨p1, p3, p4⟩ := HP.out _ _ _ _ _ _ hq
  obtain ⟨W2, hW2⟩ := ex (A.alloc (.cells #[.int .i64 er, .slice vo vn vc, .int .i64 tt] 60))
  have x2 : W2.heap[A.heap.size]? = some (.cells #[.int .i64 er, .slice vo vn vc, .int .i64 tt] 60) := by rw [← hW2]; exact World.alloc_heap_new A _
  have gA2 := gr_al hW2
  have rA : A.heap[w.heap.size + 1]? = some (.cells #[.int .i64 0, .slice none 0 0, .int .i64 0] 60) := (gA.block _ (lt_of_heap H1.out.2) id).trans H1.out.2
  have r2 : W2.heap[w.heap.size + 1]? = some (.cells #[.int .i64 0, .slice none 0 0, .int .i64 0] 60) := (gA2.block _ (lt_of_heap rA) id).trans rA
  have hXR : A.heap.size ≠ w.heap.size + 1 := by have := lt_of_heap rA; omega
  have gw2 : Gr w W2 := (H1.out.1.tr gA).tr gA2
  obtain ⟨c0, c1, c2⟩ := cell3 x2
  obtain ⟨y0, y1, y2⟩ := cell3 r2
  have z1 := frz x2 1
  have y3 := frz r2 0
  have y4 := frz r2 1
  have y5 := frz r2 2
  by_cases he : er = 0
  · subst he
    have HV := hidM (p3 rfl)
    have e3 := setc (j := 2) (setc (j := 1) (setc (j := 0) r2 (.int .i64 0)) (.slice vo vn vc)) (.int .i64 tt)
    have k3 : Keeps W2 _ (fun b => b = w.heap.size + 1) := keep1 (j := 2) (keep1 (j := 1) (keep1 (j := 0) (Keeps.refl W2 (fun b => b = w.heap.size + 1)) (.int .i64 0)) (.slice vo vn vc)) (.int .i64 tt)
    have HE := hidM (And.intro e3 (And.intro k3 (And.intro gw2 (And.intro gA2 (And.intro rA hq)))))
    clear e3 k3 gw2 gA2 rA hq gA x2 r2 z1 p1 p3 p4 HP HCA H1
    go_wp2_with fail
    obtain ⟨e3, k3, gw2, gA2, rA, hq⟩ := HE.out
    obtain ⟨u0, u1, u2⟩ := cell3 (e3.trans (by simp : _ = some (Obj.cells #[.int .i64 0, .slice vo vn vc, .int .i64 tt] 60 (0, 0))))
    refine bodyPost_ret (v := .agg #[.int .i64 0, .slice vo vn vc, .int .i64 tt]) ?_ rfl ⟨0, vo, vn, vc, tt, A, vo, vn, vc, hq, rfl, gw2.trans k3 (fun j hj h => by omega), ?_, .inl ⟨HV.out, rfl, rfl, rfl⟩⟩
    · simp [results, Tryz.f26, go_sem, u0, u1, u2]
    intro q c hql hqc
    refine (k3.block q (by have := gA2.size; omega) fun h => ?_).trans (gA2.block q hql id)
    rw [h, rA] at hqc
    simp at hqc
  have heb := beqF he
  obtain ⟨hvp, g', rfl⟩ := p4 he
  have hvI : (1 : Int) ≤ (vn : Int) := by omega
  have hvI2 : (vn : Int) ≤ (vc : Int) := by omega
  have fin : Hid (∀ vo' vc' W5, (1 < vn → vo' = some ⟨g', 1, none⟩) → W5 = (((W2.setCell ⟨A.heap.size, 1, none⟩ (.slice vo' (vn - 1) vc')).setCell ⟨w.heap.size + 1, 0, none⟩ (.int .i64 er)).setCell ⟨w.heap.size + 1, 1, none⟩ (.slice vo' (vn - 1) vc')).setCell ⟨w.heap.size + 1, 2, none⟩ (.int .i64 tt) →
      W5.heap[w.heap.size + 1]? = some (.cells #[.int .i64 er, .slice vo' (vn - 1) vc', .int .i64 tt] 60) ∧ CutR w Q (.returned (.agg #[.int .i64 er, .slice vo' (vn - 1) vc', .int .i64 tt])) W5) := by
    intro vo' vc' W5 hv5 e
    have r3 : (W2.setCell ⟨A.heap.size, 1, none⟩ (.slice vo' (vn - 1) vc')).heap[w.heap.size + 1]? = some (.cells #[.int .i64 0, .slice none 0 0, .int .i64 0] 60) := (heap_setCell_other W2 ⟨A.heap.size, 1, none⟩ _ _ (Ne.symm hXR)).trans r2
    have e3 := setc (j := 2) (setc (j := 1) (setc (j := 0) r3 (.int .i64 er)) (.slice vo' (vn - 1) vc')) (.int .i64 tt)
    rw [← e] at e3
    have k3 : Keeps W2 W5 (fun b => b = A.heap.size ∨ b = w.heap.size + 1) := by
      rw [e]
      exact ((((Keeps.refl W2 _).setCell (p := ⟨A.heap.size, 1, none⟩) (fun _ => .inl rfl) _).setCell (p := ⟨w.heap.size + 1, 0, none⟩) (fun _ => .inr rfl) _).setCell (p := ⟨w.heap.size + 1, 1, none⟩) (fun _ => .inr rfl) _).setCell (p := ⟨w.heap.size + 1, 2, none⟩) (fun _ => .inr rfl) _
    refine ⟨e3.trans (by simp), er, _, vn, vc, tt, A, vo', vn - 1, vc', hq, rfl, gw2.trans k3 (fun j hj h => by have := lt_of_heap rA; have := (H1.out.1.tr gA).size; omega), ?_, .inr ⟨hvp, g', rfl, rfl, hv5⟩⟩
    intro q c hql hqc
    refine (k3.block q (by have := gA2.size; omega) fun h => ?_).trans (gA2.block q hql id)
    rcases h with h | h
    · omega
    rw [h, rA] at hqc
    simp at hqc
  clear gw2 gA2 rA hq gA x2 r2 p3 p4 HP HCA H1
  go_wp2_with fail
  case inl =>
    obtain ⟨e3, hcut⟩ := fin.out (some ⟨g', 0, none⟩) 0 _ (fun h => by omega) rfl
    obtain ⟨u0, u1, u2⟩ := cell3 e3
    refine bodyPost_ret (v := .agg #[.int .i64 er, .slice (some ⟨g', 0, none⟩) (vn - 1) 0, .int .i64 tt]) ?_ rfl hcut
    simp [results, Tryz.f26, go_sem, u0, u1, u2]
  case inr =>
    obtain ⟨e3, hcut⟩ := fin.out (some ⟨g', 1, none⟩) (vc - 1) _ (fun h => rfl) rfl
    obtain ⟨u0, u1, u2⟩ := cell3 e3
    refine bodyPost_ret (v := .agg #[.int .i64 er, .slice (some ⟨g', 1, none⟩) (vn - 1) (vc - 1), .int .i64 tt]) ?_ rfl hcut
    simp [results, Tryz.f26, go_sem, u0, u1, u2]
theorem checkFieldR_walk (f0 : ByteArray) (f1 : Bool) (f2 f3 f4 f5 : Int) (ao : Option Addr) (f6 ca : Nat) (w : World) (Q : Int → Option Addr → Nat → Nat → Int → World → Prop)
    (hck : ∀ W g, Gr w W → w.heap.size ≤ g → W.heap[g]? = some (.cells #[.string f0, .bool f1, .int .i64 f2, .int .i64 f3, .int .i64 f4, .int .i64 f5, .slice ao f6 ca] 26) → Calls Tryz.prog 50 #[.agg #[.slice (some ⟨g, 0, none⟩) 1 1, .slice none 0 0]] W fun e w' => ∃ er vo vn vc tt, e = .returned (.agg #[.int .i64 er, .slice vo vn vc, .int .i64 tt]) ∧ Gr W w' ∧ Q er vo vn vc tt w')
    (hpos : ∀ er vo vn vc tt A, Q er vo vn vc tt A → vn ≤ vc ∧ (0 < vn → ∃ g, vo = some ⟨g, 0, none⟩)) :
    Calls Tryz.prog 34 #[.agg #[.string f0, .bool f1, .int .i64 f2, .int .i64 f3, .int .i64 f4, .int .i64 f5, .slice ao f6 ca]] w (CutR w Q) := by
  have HC := hidM hck
  have HP := hidM hpos
  clear hck hpos
  obtain ⟨W0, hW0⟩ := ex ((w.alloc (.cells #[.string f0, .bool f1, .int .i64 f2, .int .i64 f3, .int .i64 f4, .int .i64 f5, .slice ao f6 ca] 26)).alloc (.cells #[.int .i64 0, .slice none 0 0, .int .i64 0] 60))
  have g0 : Gr w W0 := by rw [← hW0]; exact (gr_alloc w _).alloc _
  have r0 : W0.heap[w.heap.size + 1]? = some (.cells #[.int .i64 0, .slice none 0 0, .int .i64 0] 60) := by
    have := World.alloc_heap_new (w.alloc (.cells #[.string f0, .bool f1, .int .i64 f2, .int .i64 f3, .int .i64 f4, .int .i64 f5, .slice ao f6 ca] 26)) (.cells #[.int .i64 0, .slice none 0 0, .int .i64 0] 60)
    rw [World.size_alloc] at this
    rw [← hW0]
    exact this
  have x0 : W0.heap[w.heap.size]? = some (.cells #[.string f0, .bool f1, .int .i64 f2, .int .i64 f3, .int .i64 f4, .int .i64 f5, .slice ao f6 ca] 26) := by
    rw [← hW0]; exact (Below.heap_alloc _ _ _ (by simp)).trans (World.alloc_heap_new w _)
  obtain ⟨v0, v1, v2, v3, v4, v5, v6⟩ := cell7 x0
  simp only [Nat.zero_add] at v1 v2 v3 v4 v5 v6
  have H0 := hidM (And.intro g0 r0)
  clear g0 r0 x0
  go_enter Tryz.func34, Tryz.ntmps34
  obtain ⟨W1, hW1⟩ := ex (W0.alloc (.cells #[.string f0, .bool f1, .int .i64 f2, .int .i64 f3, .int .i64 f4, .int .i64 f5, .slice ao f6 ca] 26))
  have hx : W1.heap[W0.heap.size]? = some (.cells #[.string f0, .bool f1, .int .i64 f2, .int .i64 f3, .int .i64 f4, .int .i64 f5, .slice ao f6 ca] 26) := by rw [← hW1]; exact World.alloc_heap_new W0 _
  have g1 := gr_al hW1
  have HA := HC.out W1 W0.heap.size (H0.out.1.tr g1) (by have := H0.out.1.size; omega) hx
  have H1 : Hid (Gr w W1 ∧ W1.heap[w.heap.size + 1]? = some (.cells #[.int .i64 0, .slice none 0 0, .int .i64 0] 60)) := ⟨H0.out.1.tr g1, (g1.block _ (lt_of_heap H0.out.2) id).trans H0.out.2⟩
  have HCA := hidM HA
  clear HA HC H0 g1 hx
  go_wp2_with (go_at_call 50; refine Hid.out ?_)
  unfold Hid
  refine Calls.mono HCA.out ?_
  rintro e A ⟨er, vo, vn, vc, tt, rfl, gA, hq⟩
  obtain ⟨p1, p4⟩ := HP.out _ _ _ _ _ _ hq
  obtain ⟨W2, hW2⟩ := ex (A.alloc (.cells #[.int .i64 er, .slice vo vn vc, .int .i64 tt] 60))
  have x2 : W2.heap[A.heap.size]? = some (.cells #[.int .i64 er, .slice vo vn vc, .int .i64 tt] 60) := by rw [← hW2]; exact World.alloc_heap_new A _
  have gA2 := gr_al hW2
  have rA : A.heap[w.heap.size + 1]? = some (.cells #[.int .i64 0, .slice none 0 0, .int .i64 0] 60) := (gA.block _ (lt_of_heap H1.out.2) id).trans H1.out.2
  have r2 : W2.heap[w.heap.size + 1]? = some (.cells #[.int .i64 0, .slice none 0 0, .int .i64 0] 60) := (gA2.block _ (lt_of_heap rA) id).trans rA
  have hXR : A.heap.size ≠ w.heap.size + 1 := by have := lt_of_heap rA; omega
  have gw2 : Gr w W2 := (H1.out.1.tr gA).tr gA2
  obtain ⟨c0, c1, c2⟩ := cell3 x2
  obtain ⟨y0, y1, y2⟩ := cell3 r2
  have z1 := frz x2 1
  have y3 := frz r2 0
  have y4 := frz r2 1
  have y5 := frz r2 2
  clear hW0 hW1 v0 v1 v2 v3 v4 v5 v6
  by_cases he : vn = 0
  · have HV := hidM he
    have hvI : ¬ (0 : Int) < (vn : Int) := by omega
    clear he
    have e3 := setc (j := 2) (setc (j := 1) (setc (j := 0) r2 (.int .i64 er)) (.slice vo vn vc)) (.int .i64 tt)
    have k3 : Keeps W2 _ (fun b => b = w.heap.size + 1) := keep1 (j := 2) (keep1 (j := 1) (keep1 (j := 0) (Keeps.refl W2 (fun b => b = w.heap.size + 1)) (.int .i64 er)) (.slice vo vn vc)) (.int .i64 tt)
    have HE := hidM (And.intro e3 (And.intro k3 (And.intro gw2 (And.intro gA2 (And.intro rA hq)))))
    clear e3 k3 gw2 gA2 rA hq gA x2 r2 z1 p1 p4 HP HCA H1
    go_wp2_with fail
    obtain ⟨e3, k3, gw2, gA2, rA, hq⟩ := HE.out
    obtain ⟨u0, u1, u2⟩ := cell3 (e3.trans (by simp : _ = some (Obj.cells #[.int .i64 er, .slice vo vn vc, .int .i64 tt] 60 (0, 0))))
    refine bodyPost_ret (v := .agg #[.int .i64 er, .slice vo vn vc, .int .i64 tt]) ?_ rfl ⟨er, vo, vn, vc, tt, A, vo, vn, vc, hq, rfl, gw2.trans k3 (fun j hj h => by omega), ?_, .inl ⟨HV.out, rfl, rfl, rfl⟩⟩
    · simp [results, Tryz.f34, go_sem, u0, u1, u2]
    intro q c hql hqc
    refine (k3.block q (by have := gA2.size; omega) fun h => ?_).trans (gA2.block q hql id)
    rw [h, rA] at hqc
    simp at hqc
  have hvp : 0 < vn := by omega
  obtain ⟨g', rfl⟩ := p4 hvp
  have hvI0 : (0 : Int) < (vn : Int) := by omega
  have hvI : (1 : Int) ≤ (vn : Int) := by omega
  have hvI2 : (vn : Int) ≤ (vc : Int) := by omega
  have fin : Hid (∀ vo' vc' W5, (1 < vn → vo' = some ⟨g', 1, none⟩) → W5 = (((W2.setCell ⟨A.heap.size, 1, none⟩ (.slice vo' (vn - 1) vc')).setCell ⟨w.heap.size + 1, 0, none⟩ (.int .i64 er)).setCell ⟨w.heap.size + 1, 1, none⟩ (.slice vo' (vn - 1) vc')).setCell ⟨w.heap.size + 1, 2, none⟩ (.int .i64 tt) →
      W5.heap[w.heap.size + 1]? = some (.cells #[.int .i64 er, .slice vo' (vn - 1) vc', .int .i64 tt] 60) ∧ CutR w Q (.returned (.agg #[.int .i64 er, .slice vo' (vn - 1) vc', .int .i64 tt])) W5) := by
    intro vo' vc' W5 hv5 e
    have r3 : (W2.setCell ⟨A.heap.size, 1, none⟩ (.slice vo' (vn - 1) vc')).heap[w.heap.size + 1]? = some (.cells #[.int .i64 0, .slice none 0 0, .int .i64 0] 60) := (heap_setCell_other W2 ⟨A.heap.size, 1, none⟩ _ _ (Ne.symm hXR)).trans r2
    have e3 := setc (j := 2) (setc (j := 1) (setc (j := 0) r3 (.int .i64 er)) (.slice vo' (vn - 1) vc')) (.int .i64 tt)
    rw [← e] at e3
    have k3 : Keeps W2 W5 (fun b => b = A.heap.size ∨ b = w.heap.size + 1) := by
      rw [e]
      exact ((((Keeps.refl W2 _).setCell (p := ⟨A.heap.size, 1, none⟩) (fun _ => .inl rfl) _).setCell (p := ⟨w.heap.size + 1, 0, none⟩) (fun _ => .inr rfl) _).setCell (p := ⟨w.heap.size + 1, 1, none⟩) (fun _ => .inr rfl) _).setCell (p := ⟨w.heap.size + 1, 2, none⟩) (fun _ => .inr rfl) _
    refine ⟨e3.trans (by simp), er, _, vn, vc, tt, A, vo', vn - 1, vc', hq, rfl, gw2.trans k3 (fun j hj h => by have := lt_of_heap rA; have := (H1.out.1.tr gA).size; omega), ?_, .inr ⟨hvp, g', rfl, rfl, hv5⟩⟩
    intro q c hql hqc
    refine (k3.block q (by have := gA2.size; omega) fun h => ?_).trans (gA2.block q hql id)
    rcases h with h | h
    · omega
    rw [h, rA] at hqc
    simp at hqc
  clear gw2 gA2 rA hq gA x2 r2 p4 HP HCA H1
  go_wp2_with fail
  case inl =>
    obtain ⟨e3, hcut⟩ := fin.out (some ⟨g', 0, none⟩) 0 _ (fun h => by omega) rfl
    obtain ⟨u0, u1, u2⟩ := cell3 e3
    refine bodyPost_ret (v := .agg #[.int .i64 er, .slice (some ⟨g', 0, none⟩) (vn - 1) 0, .int .i64 tt]) ?_ rfl hcut
    simp [results, Tryz.f34, go_sem, u0, u1, u2]
  case inr =>
    obtain ⟨e3, hcut⟩ := fin.out (some ⟨g', 1, none⟩) (vc - 1) _ (fun h => rfl) rfl
    obtain ⟨u0, u1, u2⟩ := cell3 e3
    refine bodyPost_ret (v := .agg #[.int .i64 er, .slice (some ⟨g', 1, none⟩) (vn - 1) (vc - 1), .int .i64 tt]) ?_ rfl hcut
    simp [results, Tryz.f34, go_sem, u0, u1, u2]
end Go.Proofs.YtknnoiomdngmfaaGreatDoor.Kit
namespace Go.Proofs.YtknnoiomdngmfaaGreatDoor.Kit
open Go.RowKit Go.Shelf Go.Deep
theorem nodes_path : ∀ (d : Nat) (l : List FT) (path : List Nat) (inD : Bool) (x : LS), x ∈ nodes d l path inD → path.length < x.path.length
  | 0, _, _, _, _, h => by simp [nodes] at h
  | d + 1, l, path, inD, x, h => by
    rw [nodes] at h
    obtain ⟨i, _, hi⟩ := List.mem_flatMap.1 h
    rcases List.mem_cons.1 hi with rfl | hi
    · simp
    have := nodes_path d _ _ _ x hi
    simp at this
    omega
theorem FaultIs.way {d : Nat} {fs : List FT} {er : Int} {p : List Nat} {k : Int} (h : FaultIs (0, 0) (nodes d fs [] false) er p k) : (er = 0 → p = []) ∧ (er ≠ 0 → p ≠ []) := by
  rcases h with ⟨a, _⟩ | ⟨_, _, rfl, rfl, _⟩ | ⟨_, L, x, h1, _, h3, rfl, rfl, _⟩
  · exact absurd rfl a
  · exact ⟨fun _ => rfl, fun h => absurd rfl h⟩
  refine ⟨fun h => absurd h h3, fun _ e => ?_⟩
  have := nodes_path d fs [] false x (h1.subset (by simp))
  rw [e] at this
  simp at this
theorem ints_tail {W W' : World} {vo vo' : Option Addr} {vn vc : Nat} {p : List Nat} (h : W.ownsRow 0 3 1 (.slice vo vn vc) vn (ints p)) (hl : p.length = vn) (hk : ∀ q c, q < W.heap.size → W.heap[q]? = some (.cells c 3) → W'.heap[q]? = W.heap[q]?)
    (hv : ∃ g, vo = some ⟨g, 0, none⟩ ∧ (1 < vn → vo' = some ⟨g, 1, none⟩)) : IntsAt W' vo' p.tail := by
  intro hne
  have hlt : 1 < vn := by
    cases p with
    | nil => simp at hne
    | cons a t => cases t with
      | nil => simp at hne
      | cons b t => simp at hl; omega
  obtain ⟨g, rfl, hv⟩ := hv
  refine ⟨g, 1, hv hlt, fun j hj => ?_⟩
  have hg : W'.heap[g]? = W.heap[g]? := by
    rcases h.2 with ⟨e, _⟩ | ⟨g', cap, cur, e, _, hgg, _⟩
    · cases e
    cases e
    exact hk g cur (Array.getElem?_eq_some_iff.1 hgg).1 hgg
  have hj' : j + 1 < p.length := by simp at hj; omega
  rw [World.cell?_of_block (w := W) hg, h.cellAt (1 + j) (by omega)]
  simp [ints, Nat.add_comm 1 j, hj']
def FieldR (W : World) (N : List LS) (e : Ending) (w' : World) : Prop := ∃ er p vo vc tt, e = .returned (.agg #[.int .i64 er, .slice vo p.tail.length vc, .int .i64 tt]) ∧ Gr W w' ∧ FaultIs (0, 0) N er p tt ∧ IntsAt w' vo p.tail
theorem CutR.field {w w' : World} {N : List LS} {e : Ending} (h : CutR w (FaultQ (0, 0) N) e w') : FieldR w N e w' := by
  obtain ⟨er, vo, vn, vc, tt, A, vo', vn', vc', ⟨p, h1, h2, h3⟩, rfl, hg, hk, h⟩ := h
  rcases h with ⟨h0, rfl, rfl, rfl⟩ | ⟨hp, g, e1, rfl, e3⟩
  · obtain rfl : p = [] := List.eq_nil_of_length_eq_zero (by omega)
    subst h0
    exact ⟨er, [], vo', vc', tt, rfl, hg, h2, fun h => absurd rfl h⟩
  refine ⟨er, p, vo', vc', tt, ?_, hg, h2, ints_tail h3 h1 hk ⟨g, e1, e3⟩⟩
  rw [List.length_tail, h1]
theorem own_pos {W : World} {vo : Option Addr} {vn vc : Nat} {xs : List Value} (h : W.ownsRow 0 3 1 (.slice vo vn vc) vn xs) : vn ≤ vc ∧ (0 < vn → ∃ g, vo = some ⟨g, 0, none⟩) := by
  rcases h.2 with ⟨e, h0⟩ | ⟨g, cap, cur, e, _, _, h1, _⟩
  · subst h0; exact ⟨Nat.zero_le _, fun h => absurd h (Nat.lt_irrefl 0)⟩
  cases e; exact ⟨h1, fun _ => ⟨g, rfl⟩⟩
theorem notes_none (W : World) : NotesAt W none [] := ⟨by simp [big], fun h => absurd rfl h⟩
theorem checkField_any (S : Nat → Prop) (d : Nat) (f : FT) (ao : Option Addr) (ca : Nat) (w : World) (hT : Tab w) (hr : RowAt S w d ao f.kids) (hca : f.kids.length ≤ ca) (hd : d + 1 ≤ big) (hS : ∀ b, S b → b < w.heap.size) :
    Calls Tryz.prog 26 #[.agg #[.string f.name, .bool f.nul, .int .i64 f.kind, .int .i64 f.width, .int .i64 f.id, .int .i64 f.index, .slice ao f.kids.length ca]] w (FieldR w (nodes (d + 1) [f] [] false)) := by
  refine Calls.mono (checkField_walk _ _ _ _ _ _ _ _ _ w (FaultQ (0, 0) (nodes (d + 1) [f] [] false)) ?_ ?_) fun e w' h => h.field
  · intro W g gW hg hx
    have hrow := row_alone hx (hr.kept fun b h => gW.block b (hS b h) id) hca
    have h := check_fault (w := W) (fo := some ⟨g, 0, none⟩) (no := none) (cf := 1) (cn := 0) (fs := [f]) (ns := []) (hT.gr gW) hrow (by simp) hd (fun c h => h.elim (fun h => Nat.lt_of_lt_of_le (hS c h) gW.size) fun h => by rw [h]; exact lt_of_heap hx) (notes_none W) W (Keeps.refl _ _)
    exact h
  rintro er vo vn vc tt A ⟨p, h1, h2, h3⟩
  have h4 := own_pos h3
  refine ⟨h4.1, fun h => by rw [← h1, h2.way.1 h]; rfl, fun h => ?_⟩
  have : 0 < vn := by rw [← h1]; exact List.length_pos_iff.2 (h2.way.2 h)
  exact ⟨this, h4.2 this⟩
theorem checkFieldR_any (S : Nat → Prop) (d : Nat) (f : FT) (ao : Option Addr) (ca : Nat) (w : World) (hr : RowAt S w d ao f.kids) (hca : f.kids.length ≤ ca) (hS : ∀ b, S b → b < w.heap.size) :
    Calls Tryz.prog 34 #[.agg #[.string f.name, .bool f.nul, .int .i64 f.kind, .int .i64 f.width, .int .i64 f.id, .int .i64 f.index, .slice ao f.kids.length ca]] w (FieldR w (grown [] (nodesC (d + 1) [f] [] false))) := by
  refine Calls.mono (checkFieldR_walk _ _ _ _ _ _ _ _ _ w (FaultQ (0, 0) (grown [] (nodesC (d + 1) [f] [] false))) ?_ ?_) fun e w' h => h.field
  · intro W g gW hg hx
    have hrow := row_alone hx (hr.kept fun b h => gW.block b (hS b h) id) hca
    have h := checkR_fault (w := W) (fo := some ⟨g, 0, none⟩) (no := none) (cf := 1) (cn := 0) (fs := [f]) (ns := []) hrow (by simp) (fun c h => h.elim (fun h => Nat.lt_of_lt_of_le (hS c h) gW.size) fun h => by rw [h]; exact lt_of_heap hx) (notes_none W) W (Keeps.refl _ _)
    exact h
  rintro er vo vn vc tt A ⟨p, h1, h2, h3⟩
  exact own_pos h3
end Go.Proofs.YtknnoiomdngmfaaGreatDoor.Kit
namespace Go.Proofs.YtknnoiomdngmfaaGreatDoor.Kit
open Go.RowKit Go.Shelf Go.Deep
set_option linter.unusedVariables false
attribute [local go_sem] run_store_func
theorem nodesC_path : ∀ (d : Nat) (l : List FT) (path : List Nat) (inD : Bool) (x : LS), path.length ≤ 64 → x ∈ nodesC d l path inD → x.path.length ≤ 65
  | 0, _, _, _, _, _, h => by simp [nodesC] at h
  | d + 1, l, path, inD, x, hp, h => by
    rw [nodesC] at h
    obtain ⟨i, _, hi⟩ := List.mem_flatMap.1 h
    rcases List.mem_cons.1 hi with rfl | hi
    · simp; omega
    split at hi
    · rename_i h64
      exact nodesC_path d _ _ _ x (by simp; omega) hi
    simp at hi
theorem first_upto (N : List LS) (k : Nat) (hk : k ≤ N.length) : AllR (N.take k) ∨ ∃ L x, (L ++ [x]) <+: N ∧ AllR L ∧ wrongE x L.length (tkL L) ≠ 0 := by
  induction k with
  | zero => exact .inl (by simpa using AllR.nil)
  | succ k ih =>
    rcases ih (by omega) with h | h
    · have hkl : k < N.length := by omega
      have hl : (N.take k).length = k := by rw [List.length_take]; omega
      by_cases hx : wrongE N[k] k (tkL (N.take k)) = 0
      · exact .inl (AllR.next hkl h hx)
      refine .inr ⟨N.take k, N[k], ?_, h, by rw [hl]; exact hx⟩
      rw [← List.take_succ_eq_append_getElem hkl]; exact List.take_prefix _ _
    exact .inr h
theorem first_or (N : List LS) : AllR N ∨ ∃ L x, (L ++ [x]) <+: N ∧ AllR L ∧ wrongE x L.length (tkL L) ≠ 0 := by
  have h := first_upto N N.length (Nat.le_refl _)
  rwa [List.take_length] at h
theorem fault_is (E : Int × Int) (N : List LS) : ∃ er p k, FaultIs E N er p k := by
  by_cases h : E.1 = 0
  · rcases first_or N with h1 | ⟨L, x, h1, h2, h3⟩
    · exact ⟨0, [], 0, .inr (.inl ⟨h, h1, rfl, rfl, rfl⟩)⟩
    exact ⟨_, _, 0, .inr (.inr ⟨h, L, x, h1, h2, h3, rfl, rfl, rfl⟩)⟩
  exact ⟨_, [], _, .inl ⟨h, rfl, rfl, rfl⟩⟩
def Tells (w : World) (F : Nat) (v : Value) (er : Int) (p : List Nat) (tt : Int) : Prop := ∀ W, Gr w W → Calls Tryz.prog F #[v] W fun e w' => ∃ vo vc, e = .returned (.agg #[.int .i64 er, .slice vo p.length vc, .int .i64 tt]) ∧ Gr W w' ∧ IntsAt w' vo p
theorem cell2 {W : World} {B t : Nat} {x y : Value} (h : W.heap[B]? = some (.cells #[x, y] t)) : W.cell? ⟨B, 0, none⟩ = some x ∧ W.cell? ⟨B, 1, none⟩ = some y := by simp [World.cell?, h]
end Go.Proofs.YtknnoiomdngmfaaGreatDoor.Kit
