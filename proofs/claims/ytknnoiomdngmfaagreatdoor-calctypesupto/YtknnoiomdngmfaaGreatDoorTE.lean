import Derived.Test.YtknnoiomdngmfaaGreatDoorND
import Derived.Test.YtknnoiomdngmfaaGreatDoorMF
set_option maxRecDepth 100000
set_option maxHeartbeats 4000000
namespace Go.Proofs.YtknnoiomdngmfaaGreatDoor.Kit
open Go.RowKit Go.Shelf Go.Deep
set_option linter.unusedVariables false
def Tr (W : World) : Nat → Nat → Nat → Option Addr → Nat → List FT → Prop
  | 0, _, _, ao, ca, l => l = [] ∧ ao = none ∧ ca = 0
  | d + 1, lo, hi, ao, ca, l => l.length ≤ big ∧ ((l = [] ∧ ao = none ∧ ca = 0) ∨ ∃ (g : Nat) (cur : Array Value) (A : Nat → Nat), ao = some ⟨g, 0, none⟩ ∧ lo ≤ g ∧ g < A 0 ∧ A l.length ≤ hi ∧ W.heap[g]? = some (.cells cur 26 (0, 0)) ∧ cur.size = ca * 7 ∧ l.length ≤ ca ∧ ca ≤ maxLen ∧
      ∀ i (h : i < l.length), A i ≤ A (i + 1) ∧ ∃ ao' ca', CellsAt W g (i * 7) l[i] ao' ca' ∧ Tr W d (A i) (A (i + 1)) ao' ca' l[i].kids)
theorem chain_le {A : Nat → Nat} {n : Nat} (h : ∀ i, i < n → A i ≤ A (i + 1)) {i j : Nat} (hij : i ≤ j) (hj : j ≤ n) : A i ≤ A j := by
  induction j with
  | zero => obtain rfl : i = 0 := by omega
            exact Nat.le_refl _
  | succ j ih =>
    by_cases e : i = j + 1
    · subst e; exact Nat.le_refl _
    exact Nat.le_trans (ih (by omega) (by omega)) (h j (by omega))
theorem Tr.le {W : World} {d lo hi : Nat} {ao : Option Addr} {ca : Nat} {l : List FT} (h : Tr W d lo hi ao ca l) : l.length ≤ ca := by
  cases d with
  | zero => rw [h.1]; simp
  | succ d =>
    rcases h.2 with h | ⟨g, cur, A, _, _, _, _, _, _, h, _⟩
    · rw [h.1]; simp
    exact h
theorem Tr.row {W : World} : ∀ {d lo hi : Nat} {ao : Option Addr} {ca : Nat} {l : List FT}, Tr W d lo hi ao ca l → RowAt (fun b => lo ≤ b ∧ b < hi) W d ao l
  | 0, _, _, _, _, _, h => h.1
  | d + 1, lo, hi, ao, ca, l, h => ⟨h.1, fun hn => by
    rcases h.2 with h | ⟨g, cur, A, rfl, h1, h2, h3, h4, h5, h6, h7, h8⟩
    · exact absurd h.1 hn
    have hA : ∀ i, i < l.length → A i ≤ A (i + 1) := fun i hi => (h8 i hi).1
    have c0 := chain_le hA (Nat.zero_le l.length) (Nat.le_refl _)
    refine ⟨g, 0, rfl, ⟨h1, by omega⟩, fun i hi => ?_⟩
    obtain ⟨_, ao', ca', hc, ht⟩ := h8 i hi
    have c1 := chain_le hA (Nat.zero_le i) (Nat.le_of_lt hi)
    have c2 := chain_le hA (show i + 1 ≤ l.length from hi) (Nat.le_refl _)
    exact ⟨ao', ca', by rw [Nat.zero_add]; exact hc, ht.le, ht.row.mono fun b hb => ⟨by omega, by omega⟩⟩⟩
theorem Tr.kept {W W' : World} : ∀ {d lo hi : Nat} {ao : Option Addr} {ca : Nat} {l : List FT}, Tr W d lo hi ao ca l → (∀ b, lo ≤ b → b < hi → W'.heap[b]? = W.heap[b]?) → Tr W' d lo hi ao ca l
  | 0, _, _, _, _, _, h, _ => h
  | d + 1, lo, hi, ao, ca, l, h, k => ⟨h.1, by
    rcases h.2 with h | ⟨g, cur, A, rfl, h1, h2, h3, h4, h5, h6, h7, h8⟩
    · exact .inl h
    have hA : ∀ i, i < l.length → A i ≤ A (i + 1) := fun i hi => (h8 i hi).1
    have c0 := chain_le hA (Nat.zero_le l.length) (Nat.le_refl _)
    have kg := k g h1 (by omega)
    refine .inr ⟨g, cur, A, rfl, h1, h2, h3, kg.trans h4, h5, h6, h7, fun i hi => ⟨hA i hi, ?_⟩⟩
    obtain ⟨_, ao', ca', hc, ht⟩ := h8 i hi
    have c1 := chain_le hA (Nat.zero_le i) (Nat.le_of_lt hi)
    have c2 := chain_le hA (show i + 1 ≤ l.length from hi) (Nat.le_refl _)
    exact ⟨ao', ca', hc.kept kg, ht.kept fun b hb1 hb2 => k b (by omega) (by omega)⟩⟩
theorem Tr.wide {W : World} {d lo hi lo' hi' : Nat} {ao : Option Addr} {ca : Nat} {l : List FT} (h : Tr W d lo hi ao ca l) (h1 : lo' ≤ lo) (h2 : hi ≤ hi') : Tr W d lo' hi' ao ca l := by
  cases d with
  | zero => exact h
  | succ d =>
    refine ⟨h.1, h.2.imp id ?_⟩
    rintro ⟨g, cur, A, e, k1, k2, k3, k4⟩
    exact ⟨g, cur, A, e, by omega, k2, by omega, k4⟩
theorem cell_set_ne {w : World} {b j i : Nat} {v : Value} (h : i ≠ j) : (w.setCell ⟨b, j, none⟩ v).cell? ⟨b, i, none⟩ = w.cell? ⟨b, i, none⟩ := by
  simp [World.cell?, World.setCell, Array.getElem?_modify]
  cases e : w.heap[b]? with
  | none => rfl
  | some o =>
    cases o <;> simp [h.symm]
theorem cell_set_same {w : World} {b j t : Nat} {cur : Array Value} {v : Value} (h : w.heap[b]? = some (.cells cur t (0, 0))) (hj : j < cur.size) : (w.setCell ⟨b, j, none⟩ v).cell? ⟨b, j, none⟩ = some v := by
  have h1 := heap_setCell_same w b j cur t v h
  simp [World.cell?, h1, hj]
structure Set7 (w w' : World) (g p s : Nat) (v0 v1 v2 v3 v4 v5 v6 : Value) : Prop where
  row : ∃ cur, w'.heap[g]? = some (.cells cur 26 (0, 0)) ∧ cur.size = s
  old : ∀ j, j < p ∨ p + 7 ≤ j → w'.cell? ⟨g, j, none⟩ = w.cell? ⟨g, j, none⟩
  c0 : w'.cell? ⟨g, p, none⟩ = some v0
  c1 : w'.cell? ⟨g, p + 1, none⟩ = some v1
  c2 : w'.cell? ⟨g, p + 2, none⟩ = some v2
  c3 : w'.cell? ⟨g, p + 3, none⟩ = some v3
  c4 : w'.cell? ⟨g, p + 4, none⟩ = some v4
  c5 : w'.cell? ⟨g, p + 5, none⟩ = some v5
  c6 : w'.cell? ⟨g, p + 6, none⟩ = some v6
  keeps : Keeps w w' (fun z => z = g)
theorem setSeven {w : World} {g p : Nat} {cur : Array Value} (hg : w.heap[g]? = some (.cells cur 26 (0, 0))) (hp : p + 7 ≤ cur.size) (v0 v1 v2 v3 v4 v5 v6 : Value) :
    Set7 w (((((((w.setCell ⟨g, p, none⟩ v0).setCell ⟨g, p + 1, none⟩ v1).setCell ⟨g, p + 2, none⟩ v2).setCell ⟨g, p + 3, none⟩ v3).setCell ⟨g, p + 4, none⟩ v4).setCell ⟨g, p + 5, none⟩ v5).setCell ⟨g, p + 6, none⟩ v6) g p cur.size v0 v1 v2 v3 v4 v5 v6 := by
  have h1 := heap_setCell_same w g (p) cur 26 v0 hg
  have h2 := heap_setCell_same _ g (p + 1) _ 26 v1 h1
  have h3 := heap_setCell_same _ g (p + 2) _ 26 v2 h2
  have h4 := heap_setCell_same _ g (p + 3) _ 26 v3 h3
  have h5 := heap_setCell_same _ g (p + 4) _ 26 v4 h4
  have h6 := heap_setCell_same _ g (p + 5) _ 26 v5 h5
  have h7 := heap_setCell_same _ g (p + 6) _ 26 v6 h6
  refine ⟨⟨_, h7, by simp⟩, fun j hj => ?_, ?_, ?_, ?_, ?_, ?_, ?_, ?_, ?_⟩
  · rw [cell_set_ne (by omega), cell_set_ne (by omega), cell_set_ne (by omega), cell_set_ne (by omega), cell_set_ne (by omega), cell_set_ne (by omega), cell_set_ne (by omega)]
  · rw [cell_set_ne (by omega), cell_set_ne (by omega), cell_set_ne (by omega), cell_set_ne (by omega), cell_set_ne (by omega), cell_set_ne (by omega)]
    exact cell_set_same hg (by omega)
  · rw [cell_set_ne (by omega), cell_set_ne (by omega), cell_set_ne (by omega), cell_set_ne (by omega), cell_set_ne (by omega)]
    exact cell_set_same h1 (by simp; omega)
  · rw [cell_set_ne (by omega), cell_set_ne (by omega), cell_set_ne (by omega), cell_set_ne (by omega)]
    exact cell_set_same h2 (by simp; omega)
  · rw [cell_set_ne (by omega), cell_set_ne (by omega), cell_set_ne (by omega)]
    exact cell_set_same h3 (by simp; omega)
  · rw [cell_set_ne (by omega), cell_set_ne (by omega)]
    exact cell_set_same h4 (by simp; omega)
  · rw [cell_set_ne (by omega)]
    exact cell_set_same h5 (by simp; omega)
  · exact cell_set_same h6 (by simp; omega)
  exact (((((((Keeps.refl w (fun z => z = g)).setCell (p := ⟨g, p, none⟩) (fun _ => rfl) _).setCell (p := ⟨g, p + 1, none⟩) (fun _ => rfl) _).setCell (p := ⟨g, p + 2, none⟩) (fun _ => rfl) _).setCell (p := ⟨g, p + 3, none⟩) (fun _ => rfl) _).setCell (p := ⟨g, p + 4, none⟩) (fun _ => rfl) _).setCell (p := ⟨g, p + 5, none⟩) (fun _ => rfl) _).setCell (p := ⟨g, p + 6, none⟩) (fun _ => rfl) _
section
variable {P : Program} (w : World)
end
end Go.Proofs.YtknnoiomdngmfaaGreatDoor.Kit
namespace Go.Proofs.YtknnoiomdngmfaaGreatDoor.Kit
open Go.RowKit Go.Shelf Go.Deep
set_option linter.unusedVariables false
attribute [local go_sem] run_store_func
theorem alloc2 (W : World) (a b : Obj) : ((W.alloc a).alloc b).heap[W.heap.size]? = some a ∧ ((W.alloc a).alloc b).heap[W.heap.size + 1]? = some b ∧ Gr W ((W.alloc a).alloc b) := by
  have s : (W.alloc a).heap.size = W.heap.size + 1 := by simp
  refine ⟨(Below.heap_alloc (W.alloc a) b _ (by omega)).trans (heap_alloc_new W a), ?_, ((Keeps.refl W _).alloc a).alloc b⟩
  have := heap_alloc_new (W.alloc a) b
  rw [s] at this
  exact this
def B7t (W : World) (B : Nat) (f0 : ByteArray) (f1 : Bool) (f2 f3 f4 f5 : Int) (ao : Option Addr) (n ca : Nat) : Prop := W.heap[B]? = some (.cells #[.string f0, .bool f1, .int .i64 f2, .int .i64 f3, .int .i64 f4, .int .i64 f5, .slice ao n ca] 26)
theorem B7t.cells {W : World} {B : Nat} {f0 : ByteArray} {f1 : Bool} {f2 f3 f4 f5 : Int} {ao : Option Addr} {n ca : Nat} (h : B7t W B f0 f1 f2 f3 f4 f5 ao n ca) :
    W.cell? ⟨B, 0, none⟩ = some (.string f0) ∧ W.cell? ⟨B, 1, none⟩ = some (.bool f1) ∧ W.cell? ⟨B, 2, none⟩ = some (.int .i64 f2) ∧ W.cell? ⟨B, 3, none⟩ = some (.int .i64 f3) ∧ W.cell? ⟨B, 4, none⟩ = some (.int .i64 f4) ∧ W.cell? ⟨B, 5, none⟩ = some (.int .i64 f5) ∧ W.cell? ⟨B, 6, none⟩ = some (.slice ao n ca) := by
  unfold B7t at h
  simp [World.cell?, h]
theorem put7_box {V : World} {Y : Nat} {x0 x1 x2 x3 x4 x5 x6 : Value} (v0 v1 v2 v3 v4 v5 v6 : Value) (h : V.heap[Y]? = some (.cells #[x0, x1, x2, x3, x4, x5, x6] 26 (0, 0))) :
    (((((((V.setCell ⟨Y, 0, none⟩ v0).setCell ⟨Y, 1, none⟩ v1).setCell ⟨Y, 2, none⟩ v2).setCell ⟨Y, 3, none⟩ v3).setCell ⟨Y, 4, none⟩ v4).setCell ⟨Y, 5, none⟩ v5).setCell ⟨Y, 6, none⟩ v6).heap[Y]? = some (.cells #[v0, v1, v2, v3, v4, v5, v6] 26 (0, 0)) := by
  have h1 := heap_setCell_same V Y 0 _ _ v0 h
  have h2 := heap_setCell_same _ Y 1 _ _ v1 h1
  have h3 := heap_setCell_same _ Y 2 _ _ v2 h2
  have h4 := heap_setCell_same _ Y 3 _ _ v3 h3
  have h5 := heap_setCell_same _ Y 4 _ _ v4 h4
  have h6 := heap_setCell_same _ Y 5 _ _ v5 h5
  rw [heap_setCell_same _ Y 6 _ _ v6 h6]
  simp only [List.setIfInBounds_toArray, List.set_cons_zero, List.set_cons_succ]
theorem put7_keeps (V : World) (Y : Nat) (v0 v1 v2 v3 v4 v5 v6 : Value) : Keeps V (((((((V.setCell ⟨Y, 0, none⟩ v0).setCell ⟨Y, 1, none⟩ v1).setCell ⟨Y, 2, none⟩ v2).setCell ⟨Y, 3, none⟩ v3).setCell ⟨Y, 4, none⟩ v4).setCell ⟨Y, 5, none⟩ v5).setCell ⟨Y, 6, none⟩ v6) (fun z => z = Y) :=
  (((((((Keeps.refl V (fun z => z = Y)).setCell (p := ⟨Y, 0, none⟩) (fun _ => rfl) _).setCell (p := ⟨Y, 1, none⟩) (fun _ => rfl) _).setCell (p := ⟨Y, 2, none⟩) (fun _ => rfl) _).setCell (p := ⟨Y, 3, none⟩) (fun _ => rfl) _).setCell (p := ⟨Y, 4, none⟩) (fun _ => rfl) _).setCell (p := ⟨Y, 5, none⟩) (fun _ => rfl) _).setCell (p := ⟨Y, 6, none⟩) (fun _ => rfl) _
def CpsC (w : World) (ao : Option Addr) (ca D : Nat) (l : List FT) : Prop := ∀ W, Gr w W → Calls Tryz.prog 21 #[.slice ao l.length ca] W fun e w' => ∃ b, e = .returned (.slice (some ⟨b, 0, none⟩) l.length l.length) ∧ Gr W w' ∧ Tr w' D W.heap.size w'.heap.size (some ⟨b, 0, none⟩) l.length l
def CpC (w : World) (f : FT) (ao : Option Addr) (ca D : Nat) : Prop := ∀ W, Gr w W → Calls Tryz.prog 38 #[.agg #[.string f.name, .bool f.nul, .int .i64 f.kind, .int .i64 f.width, .int .i64 f.id, .int .i64 f.index, .slice ao f.kids.length ca]] W fun e w' => ∃ b, e = .returned (.agg #[.string f.name, .bool f.nul, .int .i64 f.kind, .int .i64 f.width, .int .i64 f.id, .int .i64 f.index, .slice (some ⟨b, 0, none⟩) f.kids.length f.kids.length]) ∧ Gr W w' ∧ Tr w' D W.heap.size w'.heap.size (some ⟨b, 0, none⟩) f.kids.length f.kids
theorem copy38 {w : World} {f : FT} {ao : Option Addr} {ca D : Nat} (h20 : CpsC w ao ca D f.kids) : CpC w f ao ca D := by
  intro W g
  have H20 := hidM h20
  have HG := hidM g
  obtain ⟨l, hl⟩ : ∃ l, l = f.kids := ⟨_, rfl⟩
  rw [← hl] at H20 ⊢
  obtain ⟨V, hV⟩ := ex ((W.alloc (.cells #[.string f.name, .bool f.nul, .int .i64 f.kind, .int .i64 f.width, .int .i64 f.id, .int .i64 f.index, .slice ao l.length ca] 26)).alloc (.cells #[.string ⟨#[]⟩, .bool false, .int .i64 0, .int .i64 0, .int .i64 0, .int .i64 0, .slice none 0 0] 26))
  have hA := alloc2 W (.cells #[.string f.name, .bool f.nul, .int .i64 f.kind, .int .i64 f.width, .int .i64 f.id, .int .i64 f.index, .slice ao l.length ca] 26) (.cells #[.string ⟨#[]⟩, .bool false, .int .i64 0, .int .i64 0, .int .i64 0, .int .i64 0, .slice none 0 0] 26)
  rw [hV] at hA
  have Hb7 : Hid (B7t V W.heap.size f.name f.nul f.kind f.width f.id f.index ao l.length ca) := hA.1
  have HbR : Hid (B7t V (W.heap.size + 1) ⟨#[]⟩ false 0 0 0 0 none 0 0) := hA.2.1
  have HGv := hidM hA.2.2
  have Hs : Hid (V.heap.size = W.heap.size + 2) := by show _ = _; rw [← hV]; simp
  have HV := hidM hV
  clear h20 g hl hV hA
  go_enter Tryz.func38, Tryz.ntmps38
  go_wp2_with (go_at_call 21; refine Hid.out ?_)
  unfold Hid
  rw [HV.out]
  refine Calls.mono (H20.out _ (HG.out.tr HGv.out)) ?_
  rintro e V1 ⟨b, rfl, hg1, hT⟩
  have b1 : B7t V1 W.heap.size f.name f.nul f.kind f.width f.id f.index ao l.length ca := (hg1.block _ (lt_of_heap Hb7.out) id).trans Hb7.out
  have b2 : B7t V1 (W.heap.size + 1) ⟨#[]⟩ false 0 0 0 0 none 0 0 := (hg1.block _ (lt_of_heap HbR.out) id).trans HbR.out
  obtain ⟨p0, p1, p2, p3, p4, p5, p6⟩ := B7t.cells b1
  obtain ⟨q0, q1, q2, q3, q4, q5, q6⟩ := B7t.cells b2
  have f6 := frz b1 6
  obtain ⟨g0, g1, g2, g3, g4, g5, g6⟩ := frz7 b2
  have HT := hidM hT
  have HG1 := hidM hg1
  have HB2 := hidM b2
  clear hT hg1 b1 b2
  go_wp2_with fail
  obtain ⟨V2, hV2⟩ := ex (V1.setCell ⟨W.heap.size, 6, none⟩ (.slice (some ⟨b, 0, none⟩) l.length l.length))
  rw [hV2]
  have k2 : Keeps V1 V2 (fun z => z = W.heap.size) := by rw [← hV2]; exact (Keeps.refl V1 (fun z => z = W.heap.size)).setCell (p := ⟨W.heap.size, 6, none⟩) (fun _ => rfl) _
  have hb2 : V2.heap[W.heap.size + 1]? = _ := (k2.block _ (lt_of_heap HB2.out) (by omega)).trans HB2.out
  have hb3 := put7_box (.string f.name) (.bool f.nul) (.int .i64 f.kind) (.int .i64 f.width) (.int .i64 f.id) (.int .i64 f.index) (.slice (some ⟨b, 0, none⟩) l.length l.length) hb2
  have k3 := put7_keeps V2 (W.heap.size + 1) (.string f.name) (.bool f.nul) (.int .i64 f.kind) (.int .i64 f.width) (.int .i64 f.id) (.int .i64 f.index) (.slice (some ⟨b, 0, none⟩) l.length l.length)
  have hs := Hs.out
  have hsz := k3.size
  have hsz2 := k2.size
  refine bodyPost_ret (results_cell_row rfl _ _ _ _ _ _ _ rfl hb3 Tryz.underlying26 rfl (by kernel_rfl)) rfl ⟨b, rfl, ?_, ?_⟩
  · exact ((HGv.out.tr HG1.out).trans k2 (fun j hj e => by omega)).trans k3 (fun j hj e => by omega)
  exact ((HT.out.kept fun c h1 h2 => k2.block c h2 (by omega)).kept fun c h1 h2 => k3.block c (by omega) (by omega)).wide (by omega) (by omega)
theorem infoFf : (Tryz.prog.info? 26).map (fun i => (i.size, i.bytes)) = some (7, 80) := by kernel_rfl
theorem make_flds (n : Nat) (h : n ≤ 1000000000000) : ∃ z : Array Value, ∀ w, (Instr.makeSlice 22 (.int .i64 (n : Int)) (.int .i64 (n : Int))).run Tryz.prog w = .ok (.slice (some ⟨w.heap.size, 0, none⟩) n n) (w.alloc (.cells (madeCells z (n * 7)) 26)) := by
  obtain ⟨i, hi, hzz⟩ := Option.map_eq_some_iff.1 infoFf
  simp only [Prod.mk.injEq] at hzz
  obtain ⟨hs, hb⟩ := hzz
  have hzs : (Tryz.prog.info? 26).bind (·.zero) = some (.agg #[.string ⟨#[]⟩, .bool false, .int .i64 0, .int .i64 0, .int .i64 0, .int .i64 0, .slice none 0 0]) := by kernel_rfl
  rw [hi] at hzs
  have hz : i.zero = some (.agg #[.string ⟨#[]⟩, .bool false, .int .i64 0, .int .i64 0, .int .i64 0, .int .i64 0, .slice none 0 0]) := hzs
  refine ⟨(Value.agg #[.string ⟨#[]⟩, .bool false, .int .i64 0, .int .i64 0, .int .i64 0, .int .i64 0, .slice none 0 0]).cells, fun w => ?_⟩
  have hb' : (i.bytes : Int) * (n : Int) ≤ 281474976710656 := by rw [hb]; omega
  have hr := run_make (P := Tryz.prog) w 22 26 i _ Tryz.underlying22 hi hz .i64 .i64 n n (by omega) (Int.le_refl _) hb' (by omega)
  simp only [Int.toNat_natCast, hs] at hr
  exact hr
structure CI (wr : World) (X D n : Nat) (l : List FT) (k : Nat) (A : Nat → Nat) : Prop where
  row : ∃ cur, wr.heap[X]? = some (.cells cur 26 (0, 0)) ∧ cur.size = n * 7
  a0 : X < A 0
  ak : A k ≤ wr.heap.size
  done : ∀ i (h : i < l.length), i < k → A i ≤ A (i + 1) ∧ ∃ ao', CellsAt wr X (i * 7) l[i] ao' l[i].kids.length ∧ Tr wr D (A i) (A (i + 1)) ao' l[i].kids.length l[i].kids
theorem CI.next {wr V1 V2 : World} {X D n k b : Nat} {l : List FT} {A : Nat → Nat} (h : CI wr X D n l k A) (hk : k < l.length) (hX : X < wr.heap.size) (g : Gr wr V1) (hT : Tr V1 D wr.heap.size V1.heap.size (some ⟨b, 0, none⟩) l[k].kids.length l[k].kids)
    (hp : Set7 V1 V2 X (k * 7) (n * 7) (.string l[k].name) (.bool l[k].nul) (.int .i64 l[k].kind) (.int .i64 l[k].width) (.int .i64 l[k].id) (.int .i64 l[k].index) (.slice (some ⟨b, 0, none⟩) l[k].kids.length l[k].kids.length)) : ∃ A', CI V2 X D n l (k + 1) A' := by
  have kr : Keeps wr V2 (fun z => z = X) := (g.mono fun _ _ h => h.elim).tr hp.keeps
  have hsz := kr.size
  have hsz1 := hp.keeps.size
  have hgs := g.size
  have hak := h.ak
  have hA : ∀ i, i < k → A i ≤ A (i + 1) := fun i hi => (h.done i (by omega) hi).1
  refine ⟨fun i => if i ≤ k then A i else V1.heap.size, hp.row, by simpa using h.a0, by rw [if_neg (by omega)]; exact hsz1, fun i hi hik => ?_⟩
  by_cases e : i = k
  · subst e
    simp only [Nat.le_refl, if_true, show ¬ i + 1 ≤ i by omega, if_false]
    exact ⟨by omega, _, ⟨hp.c0, hp.c1, hp.c2, hp.c3, hp.c4, hp.c5, hp.c6⟩, (hT.kept fun z h1 h2 => hp.keeps.block z h2 (by omega)).wide hak (Nat.le_refl _)⟩
  obtain ⟨h0, ao', hc, hr⟩ := h.done i hi (by omega)
  simp only [show i ≤ k by omega, show i + 1 ≤ k by omega, if_true]
  have c1 := chain_le hA (Nat.zero_le i) (show i ≤ k by omega)
  have c2 := chain_le hA (show i + 1 ≤ k by omega) (Nat.le_refl _)
  have c3 := h.a0
  have e1 : ∀ j, j < 7 → V2.cell? ⟨X, i * 7 + j, none⟩ = wr.cell? ⟨X, i * 7 + j, none⟩ := fun j hj => (hp.old _ (by omega)).trans (g.cell hX id)
  refine ⟨h0, ao', ⟨(e1 0 (by omega)).trans hc.c0, (e1 1 (by omega)).trans hc.c1, (e1 2 (by omega)).trans hc.c2, (e1 3 (by omega)).trans hc.c3, (e1 4 (by omega)).trans hc.c4, (e1 5 (by omega)).trans hc.c5, (e1 6 (by omega)).trans hc.c6⟩, hr.kept fun z h1 h2 => kr.block z (by omega) (by omega)⟩
theorem copies20 (S : Nat → Prop) (d : Nat) (w : World) (hS : ∀ b, S b → b < w.heap.size) (ao : Option Addr) (ca : Nat) (l : List FT) (hl : RowAt S w (d + 1) ao l) (D : Nat)
    (h38 : ∀ (g : FT), g ∈ l → ∀ (go : Option Addr) (gc : Nat), RowAt S w d go g.kids → CpC w g go gc D) : CpsC w ao ca (D + 1) l := by
  intro W g0
  have hlen : l.length ≤ 1000000000000 := hl.len
  have HL := hidM hl
  have HS := hidM hS
  have H38 := hidM h38
  have HG := hidM g0
  obtain ⟨n, hn⟩ : ∃ n, n = l.length := ⟨_, rfl⟩
  have HN := hidM hn
  rw [← hn] at hlen ⊢
  obtain ⟨X, hX⟩ : ∃ X, X = W.heap.size := ⟨_, rfl⟩
  obtain ⟨z, hmkz⟩ := make_flds n hlen
  have hmk := hmkz W
  obtain ⟨W0, hW0⟩ : ∃ W0, W0 = W.alloc (.cells (madeCells z (n * 7)) 26) := ⟨_, rfl⟩
  rw [← hX, ← hW0] at hmk
  have hg0 : Gr W W0 := by rw [hW0]; exact gr_alloc W _
  have HI0 : Hid (∃ A, CI W0 X D n l 0 A) := ⟨fun _ => X + 1, ⟨_, by rw [hW0, hX]; exact heap_alloc_new W _, by rw [size_madeCells]⟩, by simp, by rw [hW0, hX]; simp, fun i _ h => by omega⟩
  have HX0 : Hid (X < W0.heap.size) := by show _ < _; rw [hW0, hX]; simp
  have HG0 := hidM hg0
  have HX : Hid (X = W.heap.size) := hX
  clear hl hS h38 g0 hn hX hW0 hg0 hmkz
  go_enter Tryz.func21, Tryz.ntmps21
  go_wp2
  clear hmk
  go_loopw [10] (fun p wr => ∃ k : Nat, k ≤ n ∧ p = .int .i64 (k : Int) ∧ Hid (Gr W wr ∧ X < wr.heap.size ∧ ∃ A, CI wr X D n l k A)) (fun p _ => n - (intOf p).toNat)
  case atStart => exact ⟨0, by omega, rfl, HG0.out, HX0.out, HI0.out⟩
  case round =>
    obtain ⟨k, hk, rfl, HK⟩ := hrel
    by_cases hlt : k < n
    · have hkl : k < l.length := by have := HN.out; omega
      obtain ⟨fb, fp, rfl, hfb, hfs⟩ := HL.out.2 (fun e => by subst e; simp at hkl)
      obtain ⟨go, gc, hg, hgle, hgrow⟩ := hfs k hkl
      have hcall := H38.out l[k] (List.getElem_mem hkl) go gc hgrow
      have gw : Gr w wr := HG.out.tr HK.out.1
      obtain ⟨c0, c1, c2, c3, c4, c5, c6⟩ := hg.kept (gw.block fb (HS.out fb hfb) id)
      obtain ⟨g, hge⟩ : ∃ g, g = l[k]'hkl := ⟨_, rfl⟩
      rw [← hge] at hcall c0 c1 c2 c3 c4 c5 c6
      have HGE := hidM hge
      have H1 := hidM hcall
      have HGw := hidM gw
      have HK2 := hidM HK.out
      have hltI : (k : Int) < (n : Int) := by omega
      clear hfs hg hgle hgrow hcall gw hge HK
      go_wp2_with (go_at_call 38; refine Hid.out ?_)
      unfold Hid
      refine Calls.mono (H1.out _ HGw.out) ?_
      rintro e V1 ⟨b, rfl, hg1, hT⟩
      obtain ⟨A, hCI⟩ := HK2.out.2.2
      obtain ⟨cur, hr, hsz⟩ := hCI.row
      have HCI := hidM hCI
      have hr1 := (hg1.block X (lt_of_heap hr) id).trans hr
      have hfit : k * 7 + 7 ≤ cur.size := by omega
      have cx : ∀ j, j < 7 → ∃ x, V1.cell? ⟨X, k * 7 + j, none⟩ = some x := fun j hj => ⟨cur[k * 7 + j]'(by omega), by simp only [World.cell?, hr1]; simp⟩
      obtain ⟨x0, d0⟩ := cx 0 (by omega)
      obtain ⟨x1, d1⟩ := cx 1 (by omega)
      obtain ⟨x2, d2⟩ := cx 2 (by omega)
      obtain ⟨x3, d3⟩ := cx 3 (by omega)
      obtain ⟨x4, d4⟩ := cx 4 (by omega)
      obtain ⟨x5, d5⟩ := cx 5 (by omega)
      obtain ⟨x6, d6⟩ := cx 6 (by omega)
      rw [Nat.add_zero] at d0
      have e0 := frz hr1 (k * 7)
      have e1 := frz hr1 (k * 7 + 1)
      have e2 := frz hr1 (k * 7 + 2)
      have e3 := frz hr1 (k * 7 + 3)
      have e4 := frz hr1 (k * 7 + 4)
      have e5 := frz hr1 (k * 7 + 5)
      have e6 := frz hr1 (k * 7 + 6)
      have hS7 := setSeven hr1 hfit (.string g.name) (.bool g.nul) (.int .i64 g.kind) (.int .i64 g.width) (.int .i64 g.id) (.int .i64 g.index) (.slice (some ⟨b, 0, none⟩) g.kids.length g.kids.length)
      rw [hsz] at hS7
      have HP := hidM hS7
      have HR := hidM (And.intro hg1 hT)
      clear hg1 hT c0 c1 c2 c3 c4 c5 c6 hr hr1 hfit cx hS7 hsz hCI
      go_wp2_with fail
      clear d0 d1 d2 d3 d4 d5 d6 e0 e1 e2 e3 e4 e5 e6
      obtain ⟨V2, hV2⟩ := ex (((((((V1.setCell ⟨X, k * 7, none⟩ (.string g.name)).setCell ⟨X, k * 7 + 1, none⟩ (.bool g.nul)).setCell ⟨X, k * 7 + 2, none⟩ (.int .i64 g.kind)).setCell ⟨X, k * 7 + 3, none⟩ (.int .i64 g.width)).setCell ⟨X, k * 7 + 4, none⟩ (.int .i64 g.id)).setCell ⟨X, k * 7 + 5, none⟩ (.int .i64 g.index)).setCell ⟨X, k * 7 + 6, none⟩ (.slice (some ⟨b, 0, none⟩) g.kids.length g.kids.length))
      rw [hV2] at HP ⊢
      clear hV2
      have HI2 : Hid (∃ A, CI V2 X D n l (k + 1) A) := by
        have h1 := HGE.out
        subst h1
        exact HCI.out.next hkl HK2.out.2.1 HR.out.1 HR.out.2 HP.out
      have HG2 : Hid (Gr W V2) := (HK2.out.1.tr HR.out.1).trans HP.out.keeps (fun j hj e => by have := HX.out; omega)
      have HX2 : Hid (X < V2.heap.size) := Nat.lt_of_lt_of_le (Nat.lt_of_lt_of_le HK2.out.2.1 HR.out.1.size) HP.out.keeps.size
      exact ⟨⟨k + 1, by omega, by simp, HG2.out, HX2.out, HI2.out⟩, by simp [intOf]; omega⟩
    have hkn : k = n := by omega
    subst hkn
    have HI := hidM HK.out
    clear HK
    go_wp2
    go_ret
    refine ⟨X, rfl, HI.out.1, ?_⟩
    obtain ⟨A, hCI⟩ := HI.out.2.2
    obtain ⟨cur, hr, hs⟩ := hCI.row
    have hn := HN.out
    have hx := HX.out
    rw [hn] at hs hCI ⊢
    exact ⟨by show _ ≤ 1000000000000; omega, .inr ⟨X, cur, A, rfl, by omega, hCI.a0, hCI.ak, hr, hs, Nat.le_refl _, by have : maxLen = 9223372036854775807 := rfl; omega, fun i hi => by obtain ⟨h0, ao', h1, h2⟩ := hCI.done i hi hi; exact ⟨h0, ao', _, h1, h2⟩⟩⟩
theorem copyField_any (S : Nat → Prop) (w : World) (hS : ∀ b, S b → b < w.heap.size) : ∀ (d : Nat) (f : FT) (ao : Option Addr) (ca : Nat), RowAt S w d ao f.kids → CpC w f ao ca (d + 1)
  | 0, f, ao, ca, h => copy38 (copies20 S 0 w hS ao ca f.kids h.up 0 (fun g hg => by
      have e : f.kids = [] := h
      rw [e] at hg
      cases hg))
  | d + 1, f, ao, ca, h => copy38 (copies20 S d w hS ao ca f.kids h (d + 1) (fun g _ go gc hr => copyField_any S w hS d g go gc hr))
theorem copyFields_any (S : Nat → Prop) (w : World) (hS : ∀ b, S b → b < w.heap.size) (d : Nat) (l : List FT) (ao : Option Addr) (ca : Nat) (h : RowAt S w (d + 1) ao l) : CpsC w ao ca (d + 2) l :=
  copies20 S d w hS ao ca l h (d + 1) (fun g _ go gc hr => copyField_any S w hS d g go gc hr)
end Go.Proofs.YtknnoiomdngmfaaGreatDoor.Kit
