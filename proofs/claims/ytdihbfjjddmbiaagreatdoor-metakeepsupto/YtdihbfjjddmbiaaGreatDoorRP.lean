import Derived.Test.YtdihbfjjddmbiaaGreatDoorVU
import Derived.Test.YtdihbfjjddmbiaaGreatDoorVX
import Derived.Test.YtdihbfjjddmbiaaGreatDoorHA
import Derived.Test.YtdihbfjjddmbiaaGreatDoorVK
import Derived.Test.YtdihbfjjddmbiaaGreatDoorLK
import Derived.Test.YtdihbfjjddmbiaaGreatDoorVC
set_option maxRecDepth 100000
set_option maxHeartbeats 4000000
namespace Go.Proofs.YtdihbfjjddmbiaaGreatDoor.Kit
open Go.RowKit Go.Shelf Go.Deep
set_option linter.unusedVariables false
attribute [local go_sem] run_store_func
theorem ce1 {W : World} {B t : Nat} {x : Value} (h : W.heap[B]? = some (.cells #[x] t)) : W.cell? ⟨B, 0, none⟩ = some x := by simp [World.cell?, h]
theorem put_true {k di rows pr : Int} {dl : Bool} {fo no vo uo : Option Addr} {nf cf nn cn vc uc : Nat} {nds : List (Int × Int)} {sls : List (Int × Int × Int)} {w : World} {bs : List UInt8} (hbs : bs.length ≤ 65536)
    (h8 : ∀ W, Gr w W → Calls Tryz.prog 19 #[.agg #[.int .i64 k, .slice fo nf cf, .slice no nn cn, .int .i64 di, .bool dl, .int .i64 rows, .int .i64 pr, .slice vo nds.length vc, .slice uo sls.length uc]] W fun e w' => e = .returned (.bool true) ∧ Gr W w')
    (h10 : ∀ W K, InkAt w W K [] → Calls Tryz.prog 21 #[.agg #[.pointer (some ⟨K, 0, none⟩)], .agg #[.int .i64 k, .slice fo nf cf, .slice no nn cn, .int .i64 di, .bool dl, .int .i64 rows, .int .i64 pr, .slice vo nds.length vc, .slice uo sls.length uc]] W fun e w' => e = .returned (.tuple #[]) ∧ InkAt w w' K bs ∧ KU K W w') :
    Calls Tryz.prog 7 #[.agg #[.int .i64 k, .slice fo nf cf, .slice no nn cn, .int .i64 di, .bool dl, .int .i64 rows, .int .i64 pr, .slice vo nds.length vc, .slice uo sls.length uc]] w fun e w' => ∃ B, e = .returned (.tuple #[.slice (some ⟨B, 0, none⟩) bs.length bs.length, .int .i64 0]) ∧ w.heap.size ≤ B ∧ w'.heap[B]? = some (.cells (bv bs).toArray 5 (0, 0)) ∧ Gr w w' := by
  have hbx := World.alloc_heap_new w (.cells #[.int .i64 k, .slice fo nf cf, .slice no nn cn, .int .i64 di, .bool dl, .int .i64 rows, .int .i64 pr, .slice vo nds.length vc, .slice uo sls.length uc] 29)
  obtain ⟨p0, p1, p2, p3, p4, p5, p6, p7, p8⟩ := ce9 hbx
  have H8 := hidM h8
  have H10 := hidM h10
  have HBs := hidM hbs
  clear hbx h8 h10 hbs
  go_enter Tryz.func7, Tryz.ntmps7
  go_wp2_with (go_at_call 19; refine Hid.out ?_)
  unfold Hid
  refine Calls.mono (H8.out _ (gr_alloc w _)) ?_
  rintro e V ⟨rfl, hg⟩
  have t0 := hg.cell' p0 id
  have t1 := hg.cell' p1 id
  have t2 := hg.cell' p2 id
  have t3 := hg.cell' p3 id
  have t4 := hg.cell' p4 id
  have t5 := hg.cell' p5 id
  have t6 := hg.cell' p6 id
  have t7 := hg.cell' p7 id
  have t8 := hg.cell' p8 id
  have HG := hidM ((gr_alloc w _).tr hg)
  clear hg p0 p1 p2 p3 p4 p5 p6 p7 p8
  go_wp2_with (go_at_call 20; refine Hid.out ?_)
  unfold Hid
  refine Calls.mono (newInk_any V) ?_
  rintro e V1 ⟨rfl, hV1⟩
  have hK : V1.heap[V.heap.size]? = some (.cells #[.slice none 0 0, .int .i64 65536] 80) := by rw [hV1]; exact heap_alloc_new V _
  have hs : V1.heap.size = V.heap.size + 1 := by rw [hV1]; simp
  have hg1 : Gr V V1 := by rw [hV1]; exact gr_alloc _ _
  have HI0 : Hid (InkAt w (V1.alloc (.cells #[.pointer (some ⟨V.heap.size, 0, none⟩)] 61)) V.heap.size []) := by
    have g2 : Gr V (V1.alloc (.cells #[.pointer (some ⟨V.heap.size, 0, none⟩)] 61)) := hg1.tr (gr_alloc _ _)
    refine ⟨HG.out.tr g2, HG.out.size, none, 0, 0, ?_, World.ownsRow_nil _ _ _ _, fun g e => by simp [Value.ownBlock] at e⟩
    exact ((gr_alloc V1 _).block _ (by omega) id).trans hK
  have HKU : Hid ((V1.alloc (.cells #[.pointer (some ⟨V.heap.size, 0, none⟩)] 61)).heap[V1.heap.size]? = some (.cells #[.pointer (some ⟨V.heap.size, 0, none⟩)] 61)) := heap_alloc_new V1 _
  have hne : V1.heap.size ≠ V.heap.size := by omega
  have u0 : (V1.alloc (.cells #[.pointer (some ⟨V.heap.size, 0, none⟩)] 61)).cell? ⟨V1.heap.size, 0, none⟩ = some (.pointer (some ⟨V.heap.size, 0, none⟩)) := (ce1 (heap_alloc_new V1 _))
  have q0 := (hg1.tr (gr_alloc V1 (.cells #[.pointer (some ⟨V.heap.size, 0, none⟩)] 61))).cell' t0 id
  have q1 := (hg1.tr (gr_alloc V1 (.cells #[.pointer (some ⟨V.heap.size, 0, none⟩)] 61))).cell' t1 id
  have q2 := (hg1.tr (gr_alloc V1 (.cells #[.pointer (some ⟨V.heap.size, 0, none⟩)] 61))).cell' t2 id
  have q3 := (hg1.tr (gr_alloc V1 (.cells #[.pointer (some ⟨V.heap.size, 0, none⟩)] 61))).cell' t3 id
  have q4 := (hg1.tr (gr_alloc V1 (.cells #[.pointer (some ⟨V.heap.size, 0, none⟩)] 61))).cell' t4 id
  have q5 := (hg1.tr (gr_alloc V1 (.cells #[.pointer (some ⟨V.heap.size, 0, none⟩)] 61))).cell' t5 id
  have q6 := (hg1.tr (gr_alloc V1 (.cells #[.pointer (some ⟨V.heap.size, 0, none⟩)] 61))).cell' t6 id
  have q7 := (hg1.tr (gr_alloc V1 (.cells #[.pointer (some ⟨V.heap.size, 0, none⟩)] 61))).cell' t7 id
  have q8 := (hg1.tr (gr_alloc V1 (.cells #[.pointer (some ⟨V.heap.size, 0, none⟩)] 61))).cell' t8 id
  have HNe := hidM hne
  have HS := hidM hs
  clear t0 t1 t2 t3 t4 t5 t6 t7 t8 hg1 hK hV1 hne hs
  go_wp2_with (go_at_call 21; refine Hid.out ?_)
  unfold Hid
  refine Calls.mono (H10.out _ _ HI0.out) ?_
  rintro e V3 ⟨rfl, hi, hku⟩
  have r0 : V3.cell? ⟨V1.heap.size, 0, none⟩ = some (.pointer (some ⟨V.heap.size, 0, none⟩)) := ce1 (hku.2 _ _ _ HKU.out (by decide) HNe.out)
  have HI := hidM hi
  clear hku hi q0 q1 q2 q3 q4 q5 q6 q7 q8 u0
  go_wp2_with (go_at_call 22; refine Hid.out ?_)
  unfold Hid
  refine Calls.mono (inkBytes_any HI.out HBs.out) ?_
  rintro e V4 ⟨rfl, hb, hbel⟩
  have HB := hidM hb
  have HGe : Hid (Gr w V4) := HI.out.gr.tr ((Keeps.ofBelow hbel).mono fun k h1 h2 => by omega)
  have HLe : Hid (w.heap.size ≤ V3.heap.size) := HI.out.gr.size
  clear hb hbel r0
  go_wp2_with fail
  refine bodyPost_ret (v := .tuple #[.slice (some ⟨V3.heap.size, 0, none⟩) bs.length bs.length, .int .i64 0]) ?_ rfl ⟨_, rfl, HLe.out, HB.out, HGe.out⟩
  simp [results, Tryz.f7, go_sem]
end Go.Proofs.YtdihbfjjddmbiaaGreatDoor.Kit
namespace Go.Proofs.YtdihbfjjddmbiaaGreatDoor.Kit
open Go.RowKit Go.Shelf Go.Deep
set_option linter.unusedVariables false
theorem Yes.allR {D : Nat} {fs : List FT} {ns : List (ByteArray × ByteArray)} (hd : deep D fs) (h : Yes D fs ns) : AllR (nodes D fs [] false) := by
  cases D with
  | zero =>
    have : fs = [] := hd
    subst this
    exact AllR.nil
  | succ d => exact (schema_may hd).2 ⟨h.2.2.2.1, h.2.2.2.2⟩
theorem AllR.name {P : List LS} (h : AllR P) {s : LS} (hs : s ∈ P) : nameB s.fld.name = true := by
  obtain ⟨k, hk, rfl⟩ := List.mem_iff_getElem.1 hs
  have := h k hk
  unfold wrongE wr at this
  split at this
  · omega
  split at this
  · omega
  split at this
  · omega
  rename_i a5
  simpa using a5
theorem AllR.few {P : List LS} (h : AllR P) : P.length ≤ 256 := by
  by_cases e : P.length ≤ 256
  · exact e
  have := h 256 (by omega)
  unfold wrongE wr at this
  split at this
  · omega
  split at this
  · omega
  rename_i a
  exact absurd (by omega : (256 : Int) ≤ ((256 : Nat) : Int)) a
theorem okMs_of {d : Nat} {fs : List FT} {p : List Nat} {b : Bool} (h : AllR (nodes d fs p b)) : ∀ g ∈ pre d fs, okM g := fun g hg => by
  rw [← nodes_pre d fs p b] at hg
  obtain ⟨s, hs, rfl⟩ := List.mem_map.1 hg
  refine ⟨?_, h.tab hs⟩
  have := h.name hs
  unfold nameB at this
  simp only [Bool.and_eq_true, decide_eq_true_eq] at this
  exact this.1.1.2
theorem hdB_len {f : FT} (ok : okM f) : (hdB f).length ≤ 54 := by
  have h1 := ok.1
  unfold hdB txtB extB flgB
  have : f.name.data.toList.length = f.name.size := Array.length_toList
  have h2 : (if f.nul = true then ([1] : List UInt8) else [0]).length = 1 := by split <;> rfl
  have h3 : (if f.kind = 14 ∨ f.kind = 16 then numB f.width.toNat 2 else if f.kind = 19 then numB f.id.toNat 2 ++ numB f.index.toNat 1 else if f.kind = 17 ∨ f.kind = 18 then numB f.kids.length 1 else []).length ≤ 3 := by
    split
    · simp [numB_len]
    split
    · simp [numB_len]
    split
    · simp [numB_len]
    simp
  simp only [List.length_append, numB_len, h2, this]
  omega
theorem flat_len_le {α β : Type} (g : α → List β) (m : Nat) : ∀ (l : List α), (∀ x ∈ l, (g x).length ≤ m) → (l.flatMap g).length ≤ l.length * m
  | [], _ => by simp
  | x :: l, h => by
    have h1 := h x List.mem_cons_self
    have h2 := flat_len_le g m l (fun y hy => h y (List.mem_cons_of_mem _ hy))
    rw [List.flatMap_cons, List.length_append, List.length_cons, Nat.succ_mul]
    omega
theorem kidB_flat : ∀ (d : Nat) (l : List FT), (kidB d l).length = ((pre d l).flatMap hdB).length
  | 0, l => by simp [kidB, pre]
  | d + 1, l => by
    show (l.flatMap (fldB d)).length = ((l.flatMap fun f => f :: pre d f.kids).flatMap hdB).length
    induction l with
    | nil => simp
    | cons x l ih =>
      simp only [List.flatMap_cons, List.flatMap_append, List.length_append, ih, List.flatMap_cons, fldB_eq, kidB_flat d x.kids]
theorem kidB_len {D : Nat} {fs : List FT} (h : AllR (nodes D fs [] false)) : (kidB D fs).length ≤ 13824 := by
  rw [kidB_flat]
  have h1 := flat_len_le hdB 54 (pre D fs) (fun x hx => hdB_len (okMs_of h x hx))
  have h2 : (pre D fs).length ≤ 256 := by rw [← nodes_pre D fs [] false, List.length_map]; exact h.few
  have h3 : (pre D fs).length * 54 ≤ 256 * 54 := Nat.mul_le_mul_right _ h2
  omega
theorem noteBad_len {n : ByteArray × ByteArray} (h : noteBad n = false) : n.1.size ≤ 256 ∧ n.2.size ≤ 256 := by
  unfold noteBad at h
  simp only [Bool.or_eq_false_iff, decide_eq_false_iff_not] at h
  omega
theorem ntM_len {n : ByteArray × ByteArray} (h : n.1.size ≤ 256 ∧ n.2.size ≤ 256) : (ntM n).length ≤ 516 := by
  have h1 : n.1.data.toList.length = n.1.size := Array.length_toList
  have h2 : n.2.data.toList.length = n.2.size := Array.length_toList
  unfold ntM txtB
  simp only [List.length_append, numB_len, h1, h2]
  omega
theorem ndM_flat (l : List (Int × Int)) : (l.flatMap ndM).length ≤ l.length * 8 := flat_len_le _ 8 l fun x _ => by simp [ndM, numB_len]
theorem slM_flat (l : List (Int × Int × Int)) : (l.flatMap slM).length ≤ l.length * 12 := flat_len_le _ 12 l fun x _ => by simp [slM, numB_len]
theorem notes_len {ns : List (ByteArray × ByteArray)} (h : ∀ n ∈ ns, noteBad n = false) (hl : ns.length ≤ 16) : (ns.flatMap ntM).length ≤ 8256 := by
  have h1 := flat_len_le ntM 516 ns (fun x hx => ntM_len (noteBad_len (h x hx)))
  have h3 : ns.length * 516 ≤ 16 * 516 := Nat.mul_le_mul_right _ hl
  omega
end Go.Proofs.YtdihbfjjddmbiaaGreatDoor.Kit
namespace Go.Proofs.YtdihbfjjddmbiaaGreatDoor.Kit
open Go.RowKit Go.Shelf Go.Deep
set_option linter.unusedVariables false
attribute [local go_sem] run_store_func
def wholeB (D : Nat) (k : Int) (fs : List FT) (ns : List (ByteArray × ByteArray)) (di : Int) (dl : Bool) (rows pr : Int) (nds : List (Int × Int)) (sls : List (Int × Int × Int)) : List UInt8 :=
  if k = 1 then hd4 k ++ schB (fldB (D - 1)) fs ns else if k = 2 then hd4 k ++ (numB di.toNat 2 ++ flgB dl) ++ bdyB rows pr nds sls else hd4 k ++ bdyB rows pr nds sls
structure HeadAt (S : Nat → Prop) (D : Nat) (w : World) (fo no vo uo : Option Addr) (cf : Nat) (fs : List FT) (ns : List (ByteArray × ByteArray)) (nds : List (Int × Int)) (sls : List (Int × Int × Int)) : Prop where
  tab : Tab w
  row : RowAt S w D fo fs
  cap : fs.length ≤ cf
  d : D ≤ big
  s : ∀ b, S b → b < w.heap.size
  notes : NotesAt w no ns
  nodes : NodesAt w vo nds
  slots : SlotsAt w uo sls
theorem HeadAt.gr {S : Nat → Prop} {D : Nat} {w W : World} {fo no vo uo : Option Addr} {cf : Nat} {fs : List FT} {ns : List (ByteArray × ByteArray)} {nds : List (Int × Int)} {sls : List (Int × Int × Int)} (h : HeadAt S D w fo no vo uo cf fs ns nds sls) (g : Gr w W) : HeadAt S D W fo no vo uo cf fs ns nds sls :=
  ⟨h.tab.gr g, h.row.kept fun b hb => g.block b (h.s b hb) id, h.cap, h.d, fun b hb => Nat.lt_of_lt_of_le (h.s b hb) g.size, h.notes.gr g, h.nodes.gr g, h.slots.gr g⟩
theorem kidB_top {D : Nat} {fs : List FT} (hd : deep D fs) : kidB D fs = fs.flatMap (fldB (D - 1)) := by
  cases D with
  | zero =>
    have : fs = [] := hd
    subst this
    rfl
  | succ d => rfl
theorem bdyB_len (rows pr : Int) {nds : List (Int × Int)} {sls : List (Int × Int × Int)} (h1 : nds.length ≤ 512) (h2 : sls.length ≤ 1536) : (bdyB rows pr nds sls).length ≤ 30000 := by
  have := ndM_flat nds
  have := slM_flat sls
  unfold bdyB
  simp only [List.length_append, numB_len]
  omega
theorem wholeB_len {D : Nat} {k : Int} {fs : List FT} {ns : List (ByteArray × ByteArray)} {di : Int} {dl : Bool} {rows pr : Int} {nds : List (Int × Int)} {sls : List (Int × Int × Int)} (hd : deep D fs) (h : HOk (Yes D fs ns) k fs.length ns.length di dl rows pr nds sls) : (wholeB D k fs ns di dl rows pr nds sls).length ≤ 65536 := by
  unfold wholeB
  have h4 : ∀ k, (hd4 k).length = 4 := fun _ => rfl
  have hfl : (flgB dl).length = 1 := by unfold flgB; split <;> rfl
  split
  · rename_i c
    have hy : Yes D fs ns := by
      rcases h with h | h
      · exact h.2.2.2.2.2.2.2
      omega
    have h1 := kidB_len (hy.allR hd)
    rw [kidB_top hd] at h1
    have h2 := notes_len hy.2.2.1 hy.2.1
    unfold schB
    simp only [List.length_append, numB_len, h4]
    omega
  rename_i c
  have hb : nds.length ≤ 512 ∧ sls.length ≤ 1536 := by
    rcases h with h | h
    · exact absurd h.1 c
    exact ⟨h.2.2.2.2.2.1, h.2.2.2.2.2.2.1⟩
  have h1 := bdyB_len rows pr hb.1 hb.2
  split
  · simp only [List.length_append, numB_len, h4, hfl]
    omega
  simp only [List.length_append, h4]
  omega
theorem both_may8 {S : Nat → Prop} {D : Nat} {k di rows pr : Int} {dl : Bool} {fo no vo uo : Option Addr} {cf cn vc uc : Nat} {fs : List FT} {ns : List (ByteArray × ByteArray)} {nds : List (Int × Int)} {sls : List (Int × Int × Int)} {w : World} (h : HeadAt S D w fo no vo uo cf fs ns nds sls) (z : Bool) (hz : HOk (Yes D fs ns) k fs.length ns.length di dl rows pr nds sls ↔ z = true) :
    ∀ W, Gr w W → Calls Tryz.prog 19 #[.agg #[.int .i64 k, .slice fo fs.length cf, .slice no ns.length cn, .int .i64 di, .bool dl, .int .i64 rows, .int .i64 pr, .slice vo nds.length vc, .slice uo sls.length uc]] W fun e w' => e = .returned (.bool z) ∧ Gr W w' := fun W g => by
  obtain ⟨y, hy⟩ := tell (Yes D fs ns)
  have hW := h.gr g
  refine mayBe_any y z hy hz hW.row.len hW.notes.1 hW.nodes hW.slots fun _ V gV => ?_
  refine Calls.mono (check_fault hW.tab hW.row hW.cap hW.d hW.s hW.notes V gV) ?_
  rintro e w' ⟨er, so, sn, sc, tt, rfl, hg, p, -, hF, -⟩
  refine ⟨er, so, sn, sc, tt, rfl, ?_, hg⟩
  have h2 := yes_iff hW.row.deep hF
  cases y with
  | true => have := h2.1 (hy.2 rfl); simp [this]
  | false => exact beqF fun e => by have := hy.1 (h2.2 e); cases this
theorem both_may12 {S : Nat → Prop} {D : Nat} {k di rows pr : Int} {dl : Bool} {fo no vo uo : Option Addr} {cf cn vc uc : Nat} {fs : List FT} {ns : List (ByteArray × ByteArray)} {nds : List (Int × Int)} {sls : List (Int × Int × Int)} {w : World} (h : HeadAt S D w fo no vo uo cf fs ns nds sls) (z : Bool) (hz : HOk (Yes D fs ns) k fs.length ns.length di dl rows pr nds sls ↔ z = true) :
    ∀ W, Gr w W → Calls Tryz.prog 4 #[.agg #[.int .i64 k, .slice fo fs.length cf, .slice no ns.length cn, .int .i64 di, .bool dl, .int .i64 rows, .int .i64 pr, .slice vo nds.length vc, .slice uo sls.length uc]] W fun e w' => e = .returned (.bool z) ∧ Gr W w' := by
  obtain ⟨y, hy⟩ := tell (Yes D fs ns)
  exact headMay_any y z hy hz h.row.len h.notes.1 h.nodes h.slots fun _ => schemaMay_any y hy h.row h.s h.notes
theorem put4_true {S : Nat → Prop} {D : Nat} {k di rows pr : Int} {dl : Bool} {fo no vo uo : Option Addr} {cf cn vc uc : Nat} {fs : List FT} {ns : List (ByteArray × ByteArray)} {nds : List (Int × Int)} {sls : List (Int × Int × Int)} {w : World} (h : HeadAt S D w fo no vo uo cf fs ns nds sls) (hok : HOk (Yes D fs ns) k fs.length ns.length di dl rows pr nds sls) :
    Calls Tryz.prog 7 #[.agg #[.int .i64 k, .slice fo fs.length cf, .slice no ns.length cn, .int .i64 di, .bool dl, .int .i64 rows, .int .i64 pr, .slice vo nds.length vc, .slice uo sls.length uc]] w fun e w' => ∃ B, e = .returned (.tuple #[.slice (some ⟨B, 0, none⟩) (wholeB D k fs ns di dl rows pr nds sls).length (wholeB D k fs ns di dl rows pr nds sls).length, .int .i64 0]) ∧ w.heap.size ≤ B ∧ w'.heap[B]? = some (.cells (bv (wholeB D k fs ns di dl rows pr nds sls)).toArray 5 (0, 0)) ∧ Gr w w' := by
  have hd := h.row.deep
  have hl := wholeB_len hd hok
  refine put_true hl (both_may8 h true (by simp [hok])) fun W K hI => ?_
  have hk : 1 ≤ k ∧ k ≤ 3 := by rcases hok with h | h <;> omega
  have e : wholeB D k fs ns di dl rows pr nds sls = if k = 1 then hd4 k ++ (numB fs.length 2 ++ kidB D fs ++ numB ns.length 2 ++ ns.flatMap ntM) else if k = 2 then hd4 k ++ (numB di.toNat 2 ++ flgB dl) ++ bdyB rows pr nds sls else hd4 k ++ bdyB rows pr nds sls := by
    unfold wholeB schB
    rw [kidB_top hd]
  rw [e] at hl ⊢
  refine Calls.mono (penHead_any (fbs := kidB D fs) hI (by simpa using hl) hk (fun c => ?_) (fun c V bs' hV hlV => ?_) (fun c V bs' hV hlV => ?_)) (fun e w' he => by simpa using he)
  · rcases hok with h | h
    · omega
    have := h.2.2.2.2.2.2.2.1 c; omega
  · have hy : Yes D fs ns := by
      rcases hok with h | h
      · exact h.2.2.2.2.2.2.2
      omega
    exact penSchema_any fs ns fo no cf cn hV hlV h.row.len (fun V' bs'' hV' hl' => penFields_any S D fs fo cf w K h.row (okMs_of (hy.allR hd)) V' bs'' hV' hl') h.notes
  rcases hok with hh | hh
  · exact absurd hh.1 c
  exact penBody_any hV hlV (by omega) (by omega) h.nodes h.slots hh.2.2.2.2.2.2.2.2.2.1 hh.2.2.2.2.2.2.2.2.2.2
theorem put5_true {S : Nat → Prop} {D : Nat} {k di rows pr : Int} {dl : Bool} {fo no vo uo : Option Addr} {cf cn vc uc : Nat} {fs : List FT} {ns : List (ByteArray × ByteArray)} {nds : List (Int × Int)} {sls : List (Int × Int × Int)} {w : World} (h : HeadAt S D w fo no vo uo cf fs ns nds sls) (hok : HOk (Yes D fs ns) k fs.length ns.length di dl rows pr nds sls) :
    Calls Tryz.prog 5 #[.agg #[.int .i64 k, .slice fo fs.length cf, .slice no ns.length cn, .int .i64 di, .bool dl, .int .i64 rows, .int .i64 pr, .slice vo nds.length vc, .slice uo sls.length uc]] w fun e w' => ∃ so sc n, e = .returned (.tuple #[.slice so n sc, .int .i64 0]) ∧ Byts w w' so sc n (wholeB D k fs ns di dl rows pr nds sls) := by
  have hd := h.row.deep
  have hy : k = 1 → Yes D fs ns := fun c => by
    rcases hok with h | h
    · exact h.2.2.2.2.2.2.2
    omega
  have hlens : nds.length ≤ 512 ∧ sls.length ≤ 1536 := by
    rcases hok with h | h
    · omega
    exact ⟨h.2.2.2.2.2.1, h.2.2.2.2.2.2.1⟩
  refine putR_true (fldB (D - 1)) hok (both_may12 h true (by simp [hok])) (fun c hne => ?_) (fun c => ?_) h.notes h.nodes h.slots ?_ ?_
  · have hA := (hy c).allR hd
    have ok := okMs_of hA
    cases D with
    | zero => exact absurd h.row hne
    | succ d =>
      obtain ⟨b, o, ea, hb, hc⟩ := h.row.2 hne
      refine ⟨b, o, ea, fun i hi => ?_⟩
      obtain ⟨ao', ca', h1, h2, h3⟩ := hc i hi
      have ep : pre (d + 1) fs = fs.flatMap fun f => f :: pre d f.kids := rfl
      have hsub : ∀ g, g = fs[i] ∨ g ∈ pre d fs[i].kids → g ∈ pre (d + 1) fs := fun g hg => by
        rw [ep, List.mem_flatMap]
        exact ⟨_, List.getElem_mem hi, by simpa using hg⟩
      exact ⟨ao', ca', h1, fun W' so sc n bs hB hn => fieldR_any S d fs[i] ao' ca' w h3 (ok _ (hsub _ (.inl rfl))) (fun g hg => ok g (hsub g (.inr hg))) W' so sc n bs hB hn⟩
  · have h1 := kidB_len ((hy c).allR hd)
    rw [kidB_top hd] at h1
    have h2 := notes_len (hy c).2.2.1 (hy c).2.1
    exact ⟨(hy c).1, (hy c).2.1, by omega, by omega, fun n hn => noteBad_len ((hy c).2.2.1 n hn)⟩
  · have := ndM_flat nds; omega
  have := slM_flat sls; omega
def BytesAt (W : World) (ao : Option Addr) (bs : List UInt8) : Prop :=
  bs ≠ [] → ∃ b o, ao = some ⟨b, o, none⟩ ∧ ∀ i (h : i < bs.length), W.cell? ⟨b, o + i, none⟩ = some (.int .u8 (bs[i].toNat : Int))
theorem BytesAt.gr {W W' : World} {ao : Option Addr} {bs : List UInt8} (h : BytesAt W ao bs) (g : Gr W W') : BytesAt W' ao bs := fun hn => by
  obtain ⟨b, o, e, hc⟩ := h hn
  exact ⟨b, o, e, fun j hj => g.cell' (hc j hj) id⟩
theorem bytes_of_own {W : World} {vo : Option Addr} {n vc : Nat} {l : List UInt8} (h : W.ownsRow 0 5 1 (.slice vo n vc) n (bv l)) : BytesAt W vo l := fun hn => by
  have hl : l.length = n := by have := h.1; simpa [bv] using this
  rcases h.2 with ⟨e, h0⟩ | ⟨g, cap, cur, e, _⟩
  · exact absurd (List.eq_nil_of_length_eq_zero (by omega)) hn
  cases e
  refine ⟨g, 0, rfl, fun j hj => ?_⟩
  rw [Nat.zero_add, h.cellAt j (by omega)]
  simp [bv, hj]
theorem bytes_of_block {W : World} {B : Nat} {l : List UInt8} (h : W.heap[B]? = some (.cells (bv l).toArray 5 (0, 0))) : BytesAt W (some ⟨B, 0, none⟩) l := fun hn => by
  refine ⟨B, 0, rfl, fun j hj => ?_⟩
  simp [World.cell?, h, bv, hj]
theorem same_bytes {ao bo : Option Addr} {ca cb : Nat} {l : List UInt8} {w : World} (hl : l.length ≤ 1000000000) (ha : BytesAt w ao l) (hb : BytesAt w bo l) :
    Calls Tryz.prog 8 #[.slice ao l.length ca, .slice bo l.length cb] w fun e w' => e = .returned (.bool true) ∧ Gr w w' := by
  have HA := hidM ha
  have HB := hidM hb
  clear ha hb
  obtain ⟨n, hn⟩ : ∃ n, n = l.length := ⟨_, rfl⟩
  rw [← hn] at hl ⊢
  have HN := hidM hn
  clear hn
  go_enter Tryz.func8, Tryz.ntmps8
  go_wp2_with fail
  go_loopw [5] (fun i wr => ∃ k : Nat, k ≤ n ∧ i = .int .i64 k ∧ Hid (Gr w wr)) (fun i _ => n - (intOf i).toNat)
  case atStart => exact ⟨0, Nat.zero_le _, rfl, Keeps.refl _ _⟩
  case round =>
    obtain ⟨k, hk, rfl, HG⟩ := hrel
    by_cases hlt : k < n
    · have hlt' : k < l.length := by rw [← HN.out]; exact hlt
      have hne : l ≠ [] := fun e => by rw [e] at hlt'; simp at hlt'
      obtain ⟨b, o, e1, h1⟩ := HA.out hne
      obtain ⟨b', o', e2, h2⟩ := HB.out hne
      have c1 := HG.out.cell' (h1 k hlt') id
      have c2 := HG.out.cell' (h2 k hlt') id
      obtain ⟨z, hz⟩ : ∃ z : Int, z = (l[k].toNat : Int) := ⟨_, rfl⟩
      rw [← hz] at c1 c2
      subst e1 e2
      clear hz h1 h2 hne hlt' HA HB
      have hi0 : (0 : Int) ≤ (k : Int) := by omega
      have hltI : (k : Int) < (n : Int) := by omega
      go_wp2_with fail
      go_quiet (fail)
      go_wp2_with fail
      go_roundw
      case rel => exact ⟨k + 1, by omega, by simp, HG.out.drewN _⟩
      case measure => simp [intOf]; omega
    have hltI : ¬ (k : Int) < (n : Int) := by omega
    go_wp2_with fail
    go_ret
    exact ⟨rfl, HG.out⟩
theorem head0 (w : World) (hT : Tab w) : HeadAt (fun _ => False) 0 w none none none none 0 [] [] [] [] :=
  ⟨hT, rfl, Nat.le_refl _, by unfold big; omega, fun b h => h.elim, ⟨by simp [big], fun h => absurd rfl h⟩, ⟨by simp [big], fun h => absurd rfl h⟩, ⟨by simp [big], fun h => absurd rfl h⟩⟩
theorem ok0 : HOk (Yes 0 [] []) 1 0 0 0 false 0 0 [] [] := .inl ⟨rfl, rfl, rfl, rfl, rfl, rfl, rfl, by simp, by simp, by simp, fun i hi => by simp at hi, _, rfl⟩
theorem put0 (w : World) (hT : Tab w) : Calls Tryz.prog 7 #[.agg #[.int .i64 1, .slice none 0 0, .slice none 0 0, .int .i64 0, .bool false, .int .i64 0, .int .i64 0, .slice none 0 0, .slice none 0 0]] w fun e w' => ∃ B, e = .returned (.tuple #[.slice (some ⟨B, 0, none⟩) 8 8, .int .i64 0]) ∧ BytesAt w' (some ⟨B, 0, none⟩) [1, 1, 0, 0, 0, 0, 0, 0] ∧ Gr w w' := by
  have e0 := put4_true (k := 1) (di := 0) (rows := 0) (pr := 0) (dl := false) (cn := 0) (vc := 0) (uc := 0) (head0 w hT) ok0
  simp only [List.length_nil] at e0
  refine Calls.mono e0 ?_
  rintro e w' ⟨B, rfl, -, h2, h3⟩
  exact ⟨B, rfl, bytes_of_block h2, h3⟩
theorem fixed_true (w : World) (hT : Tab w) : Calls Tryz.prog 12 #[] w fun e w' => e = .returned (.bool true) ∧ Gr w w' := by
  have HP := hidM (put0 w hT)
  clear hT
  go_enter Tryz.func12, Tryz.ntmps12
  go_wp2_with (go_at_call 7; refine Hid.out ?_)
  unfold Hid
  refine Calls.mono HP.out ?_
  rintro e V ⟨B, rfl, h1, h2⟩
  have HB := hidM h1
  have HG := hidM h2
  clear h1 h2 HP
  have h6 : Hid (Calls Tryz.prog 8 #[.slice (some ⟨B, 0, none⟩) 8 8, .slice (some ⟨V.heap.size, 0, none⟩) 8 8] (V.alloc (.cells #[.int .u8 1, .int .u8 1, .int .u8 0, .int .u8 0, .int .u8 0, .int .u8 0, .int .u8 0, .int .u8 0] 5)) fun e w' => e = .returned (.bool true) ∧ Gr (V.alloc (.cells #[.int .u8 1, .int .u8 1, .int .u8 0, .int .u8 0, .int .u8 0, .int .u8 0, .int .u8 0, .int .u8 0] 5)) w') :=
    same_bytes (l := [1, 1, 0, 0, 0, 0, 0, 0]) (by decide) (HB.out.gr (gr_alloc _ _)) (bytes_of_block (heap_alloc_new V _))
  go_wp2_with (go_at_call 8; refine Hid.out ?_)
  unfold Hid
  refine Calls.mono h6.out ?_
  rintro e V2 ⟨rfl, hg⟩
  have HG2 := hidM (HG.out.tr ((gr_alloc V _).tr hg))
  clear hg
  go_wp2_with fail
  go_ret
  exact ⟨rfl, HG2.out⟩
end Go.Proofs.YtdihbfjjddmbiaaGreatDoor.Kit
namespace Go.Proofs.YtdihbfjjddmbiaaGreatDoor.Kit
open Go.RowKit Go.Shelf Go.Deep
set_option linter.unusedVariables false
def leN : List UInt8 → Nat
  | [] => 0
  | b :: l => b.toNat + 256 * leN l
theorem leN_lt : ∀ l : List UInt8, leN l < 256 ^ l.length
  | [] => by simp [leN]
  | b :: l => by
    have h1 := leN_lt l
    have h2 := b.toNat_lt
    rw [leN, List.length_cons, Nat.pow_succ]
    omega
abbrev St := Nat × Nat
abbrev Rd (α : Type) := St → Except (Int × Nat) (α × St)
def Rd.bind {α β : Type} (r : Rd α) (f : α → Rd β) : Rd β := fun s =>
  match r s with
  | .ok (a, s') => f a s'
  | .error e => .error e
def Rd.pure {α : Type} (a : α) : Rd α := fun s => .ok (a, s)
theorem Rd.bind_ok {α β : Type} {r : Rd α} {f : α → Rd β} {s s' : St} {a : α} (h : r s = .ok (a, s')) : r.bind f s = f a s' := by
  unfold Rd.bind; rw [h]
theorem Rd.bind_err {α β : Type} {r : Rd α} {f : α → Rd β} {s : St} {e : Int × Nat} (h : r s = .error e) : r.bind f s = .error e := by
  unfold Rd.bind; rw [h]
def numR (B : List UInt8) (k : Nat) : Rd Nat := fun s => if s.1 + k ≤ B.length then .ok (leN ((B.drop s.1).take k), (s.1 + k, s.2)) else .error (51, s.1)
def amongR (B : List UInt8) (lo hi : Nat) : Rd Nat := fun s => (numR B 1).bind (fun n s' => if n < lo ∨ hi < n then .error (8, s.1) else .ok (n, s')) s
def flagR (B : List UInt8) : Rd Bool := (amongR B 0 1).bind fun n => Rd.pure (n == 1)
def bytesR (B : List UInt8) (n : Nat) : Rd ByteArray := fun s => if s.1 + n ≤ B.length then .ok (⟨((B.drop s.1).take n).toArray⟩, (s.1 + n, s.2)) else .error (51, s.1)
def textR (B : List UInt8) (k : Nat) : Rd ByteArray := (numR B k).bind (bytesR B)
def nodeR (B : List UInt8) : Rd (Int × Int) := (numR B 4).bind fun x => (numR B 4).bind fun y => Rd.pure ((x : Int), (y : Int))
def slotR (B : List UInt8) : Rd (Int × Int × Int) := (numR B 4).bind fun x => (numR B 4).bind fun y => (numR B 4).bind fun z => Rd.pure ((x : Int), (y : Int), (z : Int))
def noteR (B : List UInt8) : Rd (ByteArray × ByteArray) := (textR B 2).bind fun x => (textR B 2).bind fun y => Rd.pure (x, y)
def sevK {α : Type} (r : Rd α) : Nat → List α → Rd (List α)
  | 0, acc => Rd.pure acc
  | n + 1, acc => r.bind fun x => sevK r n (acc ++ [x])
def sevR {α : Type} (n : Nat) (r : Rd α) : Rd (List α) := sevK r n []
def extR (B : List UInt8) (k : Nat) : Rd (Nat × Nat × Nat × Nat) :=
  if k = 14 then (numR B 2).bind fun x => Rd.pure (x, 0, 0, 0)
  else if k = 16 then (numR B 2).bind fun x => Rd.pure (x, 0, 0, 1)
  else if k = 19 then (numR B 2).bind fun x => (numR B 1).bind fun y => Rd.pure (0, x, y, 1)
  else if k = 15 ∨ k = 20 then Rd.pure (0, 0, 0, 1)
  else if k = 17 ∨ k = 18 then (numR B 1).bind fun x => Rd.pure (0, 0, 0, x)
  else Rd.pure (0, 0, 0, 0)
structure TD where
  kind : Nat
  width : Nat
  id : Nat
  index : Nat
  kids : List FT
def typR (B : List UInt8) (rec : Rd FT) : Rd TD :=
  (amongR B 1 20).bind fun k => (extR B k).bind fun e => (sevR e.2.2.2 rec).bind fun l => Rd.pure ⟨k, e.1, e.2.1, e.2.2.1, l⟩
def fieldR (B : List UInt8) : Nat → Rd FT
  | 0 => fun s => .error (50, s.1)
  | d + 1 => fun s => if s.2 = 256 then .error (50, s.1) else
      ((textR B 1).bind fun nm => (flagR B).bind fun nu => (typR B (fieldR B d)).bind fun t => Rd.pure (.mk nm nu t.kind t.width t.id t.index t.kids)) (s.1, s.2 + 1)
structure HD where
  kind : Nat
  fs : List FT
  ns : List (ByteArray × ByteArray)
  id : Nat
  delta : Bool
  rows : Nat
  press : Nat
  nds : List (Int × Int)
  sls : List (Int × Int × Int)
def schR (B : List UInt8) : Rd (List FT × List (ByteArray × ByteArray)) :=
  (numR B 2).bind fun n => (sevR n (fieldR B 64)).bind fun fs => (numR B 2).bind fun m => (sevR m (noteR B)).bind fun ns => Rd.pure (fs, ns)
def bodyR (B : List UInt8) (k id : Nat) (dl : Bool) : Rd HD :=
  (numR B 4).bind fun rows => (numR B 1).bind fun pr => (numR B 2).bind fun n => (sevR n (nodeR B)).bind fun nds => (numR B 2).bind fun m => (sevR m (slotR B)).bind fun sls => Rd.pure ⟨k, [], [], id, dl, rows, pr, nds, sls⟩
def headR (B : List UInt8) : Rd HD :=
  (amongR B 1 3).bind fun k => (amongR B 1 1).bind fun _ => (amongR B 0 0).bind fun _ => (amongR B 0 0).bind fun _ =>
    if k = 1 then (schR B).bind fun p => Rd.pure ⟨k, p.1, p.2, 0, false, 0, 0, [], []⟩
    else if k = 2 then (numR B 2).bind fun i => (flagR B).bind fun d => bodyR B k i d
    else bodyR B k 0 false
end Go.Proofs.YtdihbfjjddmbiaaGreatDoor.Kit
