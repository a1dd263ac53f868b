import Derived.Test.YtdffjdlpbfcikaaDoorVK
import Derived.Test.YtdffjdlpbfcikaaDoorPA
import Derived.Test.YtdffjdlpbfcikaaDoorVY
import Derived.Test.YtdffjdlpbfcikaaDoorLK
namespace Go.Proofs.YtdffjdlpbfcikaaDoor.Kit
open Go.RowKit Go.Shelf Go.Deep
set_option linter.unusedVariables false

/-! ### how long a head's bytes are -/
theorem Yes.allR {D : Nat} {fs : List FT} {ns : List (ByteArray × ByteArray)} (hd : deep D fs) (h : Yes D fs ns) : AllR (nodes D fs [] false) := by
  cases D with
  | zero =>
    have : fs = [] := hd
    subst this
    exact AllR.nil
  | succ d => exact (schema_may hd).2 ⟨h.2.2.2.1, h.2.2.2.2⟩
theorem AllR.name {P : List LS} (h : AllR P) {s : LS} (hs : s ∈ P) : nameB s.fld.name = true := by
  obtain ⟨k, hk, rfl⟩ := List.mem_iff_getElem.1 hs
  have := h k hk
  unfold wrongE wr at this
  split at this
  · omega
  split at this
  · omega
  split at this
  · omega
  rename_i a5
  simpa using a5
theorem AllR.few {P : List LS} (h : AllR P) : P.length ≤ 256 := by
  by_cases e : P.length ≤ 256
  · exact e
  have := h 256 (by omega)
  unfold wrongE wr at this
  split at this
  · omega
  split at this
  · omega
  rename_i a
  exact absurd (by omega : (256 : Int) ≤ ((256 : Nat) : Int)) a
theorem okMs_of {d : Nat} {fs : List FT} {p : List Nat} {b : Bool} (h : AllR (nodes d fs p b)) : ∀ g ∈ pre d fs, okM g := fun g hg => by
  rw [← nodes_pre d fs p b] at hg
  obtain ⟨s, hs, rfl⟩ := List.mem_map.1 hg
  refine ⟨?_, h.tab hs⟩
  have := h.name hs
  unfold nameB at this
  simp only [Bool.and_eq_true, decide_eq_true_eq] at this
  exact this.1.1.2
theorem hdB_len {f : FT} (ok : okM f) : (hdB f).length ≤ 54 := by
  have h1 := ok.1
  unfold hdB txtB extB flgB
  have : f.name.data.toList.length = f.name.size := Array.length_toList
  have h2 : (if f.nul = true then ([1] : List UInt8) else [0]).length = 1 := by split <;> rfl
  have h3 : (if f.kind = 14 ∨ f.kind = 16 then numB f.width.toNat 2 else if f.kind = 19 then numB f.id.toNat 2 ++ numB f.index.toNat 1 else if f.kind = 17 ∨ f.kind = 18 then numB f.kids.length 1 else []).length ≤ 3 := by
    split
    · simp [numB_len]
    split
    · simp [numB_len]
    split
    · simp [numB_len]
    · simp
  simp only [List.length_append, numB_len, h2, this]
  omega
theorem flat_len_le {α β : Type} (g : α → List β) (m : Nat) : ∀ (l : List α), (∀ x ∈ l, (g x).length ≤ m) → (l.flatMap g).length ≤ l.length * m
  | [], _ => by simp
  | x :: l, h => by
    have h1 := h x List.mem_cons_self
    have h2 := flat_len_le g m l (fun y hy => h y (List.mem_cons_of_mem _ hy))
    rw [List.flatMap_cons, List.length_append, List.length_cons, Nat.succ_mul]
    omega
theorem kidB_flat : ∀ (d : Nat) (l : List FT), (kidB d l).length = ((pre d l).flatMap hdB).length
  | 0, l => by simp [kidB, pre]
  | d + 1, l => by
    show (l.flatMap (fldB d)).length = ((l.flatMap fun f => f :: pre d f.kids).flatMap hdB).length
    induction l with
    | nil => simp
    | cons x l ih =>
      simp only [List.flatMap_cons, List.flatMap_append, List.length_append, ih, List.flatMap_cons, fldB_eq, kidB_flat d x.kids]
theorem kidB_len {D : Nat} {fs : List FT} (h : AllR (nodes D fs [] false)) : (kidB D fs).length ≤ 13824 := by
  rw [kidB_flat]
  have h1 := flat_len_le hdB 54 (pre D fs) (fun x hx => hdB_len (okMs_of h x hx))
  have h2 : (pre D fs).length ≤ 256 := by rw [← nodes_pre D fs [] false, List.length_map]; exact h.few
  have h3 : (pre D fs).length * 54 ≤ 256 * 54 := Nat.mul_le_mul_right _ h2
  omega
theorem noteBad_len {n : ByteArray × ByteArray} (h : noteBad n = false) : n.1.size ≤ 256 ∧ n.2.size ≤ 256 := by
  unfold noteBad at h
  simp only [Bool.or_eq_false_iff, decide_eq_false_iff_not] at h
  omega
theorem ntM_len {n : ByteArray × ByteArray} (h : n.1.size ≤ 256 ∧ n.2.size ≤ 256) : (ntM n).length ≤ 516 := by
  have h1 : n.1.data.toList.length = n.1.size := Array.length_toList
  have h2 : n.2.data.toList.length = n.2.size := Array.length_toList
  unfold ntM txtB
  simp only [List.length_append, numB_len, h1, h2]
  omega
theorem ndM_flat (l : List (Int × Int)) : (l.flatMap ndM).length ≤ l.length * 8 := flat_len_le _ 8 l fun x _ => by simp [ndM, numB_len]
theorem slM_flat (l : List (Int × Int × Int)) : (l.flatMap slM).length ≤ l.length * 12 := flat_len_le _ 12 l fun x _ => by simp [slM, numB_len]
theorem notes_len {ns : List (ByteArray × ByteArray)} (h : ∀ n ∈ ns, noteBad n = false) (hl : ns.length ≤ 16) : (ns.flatMap ntM).length ≤ 8256 := by
  have h1 := flat_len_le ntM 516 ns (fun x hx => ntM_len (noteBad_len (h x hx)))
  have h3 : ns.length * 516 ≤ 16 * 516 := Nat.mul_le_mul_right _ hl
  omega
end Go.Proofs.YtdffjdlpbfcikaaDoor.Kit
namespace Go.Proofs.YtdffjdlpbfcikaaDoor.Kit
open Go.RowKit Go.Shelf Go.Deep
set_option linter.unusedVariables false
attribute [local go_sem] run_store_func

/-! ### both Puts -/
def wholeB (D : Nat) (k : Int) (fs : List FT) (ns : List (ByteArray × ByteArray)) (di : Int) (dl : Bool) (rows pr : Int) (nds : List (Int × Int)) (sls : List (Int × Int × Int)) : List UInt8 :=
  if k = 1 then hd4 k ++ schB (fldB (D - 1)) fs ns else if k = 2 then hd4 k ++ (numB di.toNat 2 ++ flgB dl) ++ bdyB rows pr nds sls else hd4 k ++ bdyB rows pr nds sls
structure HeadAt (S : Nat → Prop) (D : Nat) (w : World) (fo no vo uo : Option Addr) (cf : Nat) (fs : List FT) (ns : List (ByteArray × ByteArray)) (nds : List (Int × Int)) (sls : List (Int × Int × Int)) : Prop where
  tab : Tab w
  row : RowAt S w D fo fs
  cap : fs.length ≤ cf
  d : D ≤ big
  s : ∀ b, S b → b < w.heap.size
  notes : NotesAt w no ns
  nodes : NodesAt w vo nds
  slots : SlotsAt w uo sls
theorem HeadAt.gr {S : Nat → Prop} {D : Nat} {w W : World} {fo no vo uo : Option Addr} {cf : Nat} {fs : List FT} {ns : List (ByteArray × ByteArray)} {nds : List (Int × Int)} {sls : List (Int × Int × Int)} (h : HeadAt S D w fo no vo uo cf fs ns nds sls) (g : Gr w W) : HeadAt S D W fo no vo uo cf fs ns nds sls :=
  ⟨h.tab.gr g, h.row.kept fun b hb => g.block b (h.s b hb) id, h.cap, h.d, fun b hb => Nat.lt_of_lt_of_le (h.s b hb) g.size, h.notes.gr g, h.nodes.gr g, h.slots.gr g⟩
theorem kidB_top {D : Nat} {fs : List FT} (hd : deep D fs) : kidB D fs = fs.flatMap (fldB (D - 1)) := by
  cases D with
  | zero =>
    have : fs = [] := hd
    subst this
    rfl
  | succ d => rfl
theorem bdyB_len (rows pr : Int) {nds : List (Int × Int)} {sls : List (Int × Int × Int)} (h1 : nds.length ≤ 512) (h2 : sls.length ≤ 1536) : (bdyB rows pr nds sls).length ≤ 30000 := by
  have := ndM_flat nds
  have := slM_flat sls
  unfold bdyB
  simp only [List.length_append, numB_len]
  omega
theorem wholeB_len {D : Nat} {k : Int} {fs : List FT} {ns : List (ByteArray × ByteArray)} {di : Int} {dl : Bool} {rows pr : Int} {nds : List (Int × Int)} {sls : List (Int × Int × Int)} (hd : deep D fs) (h : HOk (Yes D fs ns) k fs.length ns.length di dl rows pr nds sls) : (wholeB D k fs ns di dl rows pr nds sls).length ≤ 65536 := by
  unfold wholeB
  have h4 : ∀ k, (hd4 k).length = 4 := fun _ => rfl
  have hfl : (flgB dl).length = 1 := by unfold flgB; split <;> rfl
  split
  · rename_i c
    have hy : Yes D fs ns := by
      rcases h with h | h
      · exact h.2.2.2.2.2.2.2
      · omega
    have h1 := kidB_len (hy.allR hd)
    rw [kidB_top hd] at h1
    have h2 := notes_len hy.2.2.1 hy.2.1
    unfold schB
    simp only [List.length_append, numB_len, h4]
    omega
  · rename_i c
    have hb : nds.length ≤ 512 ∧ sls.length ≤ 1536 := by
      rcases h with h | h
      · exact absurd h.1 c
      · exact ⟨h.2.2.2.2.2.1, h.2.2.2.2.2.2.1⟩
    have h1 := bdyB_len rows pr hb.1 hb.2
    split
    · simp only [List.length_append, numB_len, h4, hfl]
      omega
    · simp only [List.length_append, h4]
      omega

theorem both_may8 {S : Nat → Prop} {D : Nat} {k di rows pr : Int} {dl : Bool} {fo no vo uo : Option Addr} {cf cn vc uc : Nat} {fs : List FT} {ns : List (ByteArray × ByteArray)} {nds : List (Int × Int)} {sls : List (Int × Int × Int)} {w : World} (h : HeadAt S D w fo no vo uo cf fs ns nds sls) (z : Bool) (hz : HOk (Yes D fs ns) k fs.length ns.length di dl rows pr nds sls ↔ z = true) :
    ∀ W, Gr w W → Calls Tryd.prog 22 #[.agg #[.int .i64 k, .slice fo fs.length cf, .slice no ns.length cn, .int .i64 di, .bool dl, .int .i64 rows, .int .i64 pr, .slice vo nds.length vc, .slice uo sls.length uc]] W fun e w' => e = .returned (.bool z) ∧ Gr W w' := fun W g => by
  obtain ⟨y, hy⟩ := tell (Yes D fs ns)
  have hW := h.gr g
  refine mayBe_any y z hy hz hW.row.len hW.notes.1 hW.nodes hW.slots fun _ V gV => ?_
  refine Calls.mono (check_fault hW.tab hW.row hW.cap hW.d hW.s hW.notes V gV) ?_
  rintro e w' ⟨er, so, sn, sc, tt, rfl, hg, p, -, hF, -⟩
  refine ⟨er, so, sn, sc, tt, rfl, ?_, hg⟩
  have h2 := yes_iff hW.row.deep hF
  cases y with
  | true => have := h2.1 (hy.2 rfl); simp [this]
  | false => exact beqF fun e => by have := hy.1 (h2.2 e); cases this
theorem both_may12 {S : Nat → Prop} {D : Nat} {k di rows pr : Int} {dl : Bool} {fo no vo uo : Option Addr} {cf cn vc uc : Nat} {fs : List FT} {ns : List (ByteArray × ByteArray)} {nds : List (Int × Int)} {sls : List (Int × Int × Int)} {w : World} (h : HeadAt S D w fo no vo uo cf fs ns nds sls) (z : Bool) (hz : HOk (Yes D fs ns) k fs.length ns.length di dl rows pr nds sls ↔ z = true) :
    ∀ W, Gr w W → Calls Tryd.prog 20 #[.agg #[.int .i64 k, .slice fo fs.length cf, .slice no ns.length cn, .int .i64 di, .bool dl, .int .i64 rows, .int .i64 pr, .slice vo nds.length vc, .slice uo sls.length uc]] W fun e w' => e = .returned (.bool z) ∧ Gr W w' := by
  obtain ⟨y, hy⟩ := tell (Yes D fs ns)
  exact headMay_any y z hy hz h.row.len h.notes.1 h.nodes h.slots fun _ => schemaMay_any y hy h.row h.s h.notes
theorem put4_true {S : Nat → Prop} {D : Nat} {k di rows pr : Int} {dl : Bool} {fo no vo uo : Option Addr} {cf cn vc uc : Nat} {fs : List FT} {ns : List (ByteArray × ByteArray)} {nds : List (Int × Int)} {sls : List (Int × Int × Int)} {w : World} (h : HeadAt S D w fo no vo uo cf fs ns nds sls) (hok : HOk (Yes D fs ns) k fs.length ns.length di dl rows pr nds sls) :
    Calls Tryd.prog 11 #[.agg #[.int .i64 k, .slice fo fs.length cf, .slice no ns.length cn, .int .i64 di, .bool dl, .int .i64 rows, .int .i64 pr, .slice vo nds.length vc, .slice uo sls.length uc]] w fun e w' => ∃ B, e = .returned (.tuple #[.slice (some ⟨B, 0, none⟩) (wholeB D k fs ns di dl rows pr nds sls).length (wholeB D k fs ns di dl rows pr nds sls).length, .int .i64 0]) ∧ w.heap.size ≤ B ∧ w'.heap[B]? = some (.cells (bv (wholeB D k fs ns di dl rows pr nds sls)).toArray 5 (0, 0)) ∧ Gr w w' := by
  have hd := h.row.deep
  have hl := wholeB_len hd hok
  refine put_true hl (both_may8 h true (by simp [hok])) fun W K hI => ?_
  have hk : 1 ≤ k ∧ k ≤ 3 := by rcases hok with h | h <;> omega
  have e : wholeB D k fs ns di dl rows pr nds sls = if k = 1 then hd4 k ++ (numB fs.length 2 ++ kidB D fs ++ numB ns.length 2 ++ ns.flatMap ntM) else if k = 2 then hd4 k ++ (numB di.toNat 2 ++ flgB dl) ++ bdyB rows pr nds sls else hd4 k ++ bdyB rows pr nds sls := by
    unfold wholeB schB
    rw [kidB_top hd]
  rw [e] at hl ⊢
  refine Calls.mono (penHead_any (fbs := kidB D fs) hI (by simpa using hl) hk (fun c => ?_) (fun c V bs' hV hlV => ?_) (fun c V bs' hV hlV => ?_)) (fun e w' he => by simpa using he)
  · rcases hok with h | h
    · omega
    · have := h.2.2.2.2.2.2.2.1 c; omega
  · have hy : Yes D fs ns := by
      rcases hok with h | h
      · exact h.2.2.2.2.2.2.2
      · omega
    exact penSchema_any fs ns fo no cf cn hV hlV h.row.len (fun V' bs'' hV' hl' => penFields_any S D fs fo cf w K h.row (okMs_of (hy.allR hd)) V' bs'' hV' hl') h.notes
  · rcases hok with hh | hh
    · exact absurd hh.1 c
    · exact penBody_any hV hlV (by omega) (by omega) h.nodes h.slots hh.2.2.2.2.2.2.2.2.2.1 hh.2.2.2.2.2.2.2.2.2.2
theorem put4_false {S : Nat → Prop} {D : Nat} {k di rows pr : Int} {dl : Bool} {fo no vo uo : Option Addr} {cf cn vc uc : Nat} {fs : List FT} {ns : List (ByteArray × ByteArray)} {nds : List (Int × Int)} {sls : List (Int × Int × Int)} {w : World} (h : HeadAt S D w fo no vo uo cf fs ns nds sls) (hok : ¬ HOk (Yes D fs ns) k fs.length ns.length di dl rows pr nds sls) :
    Calls Tryd.prog 11 #[.agg #[.int .i64 k, .slice fo fs.length cf, .slice no ns.length cn, .int .i64 di, .bool dl, .int .i64 rows, .int .i64 pr, .slice vo nds.length vc, .slice uo sls.length uc]] w fun e w' => e = .returned (.tuple #[.slice none 0 0, .int .i64 50]) ∧ Gr w w' :=
  put_false (both_may8 h false (by simp [hok]))
end Go.Proofs.YtdffjdlpbfcikaaDoor.Kit
