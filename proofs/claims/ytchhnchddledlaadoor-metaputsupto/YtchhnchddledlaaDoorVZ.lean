import Derived.Test.YtchhnchddledlaaDoorVY
import Derived.Test.YtchhnchddledlaaDoorVV
import Derived.Test.YtchhnchddledlaaDoorLK
namespace Go.Proofs.YtchhnchddledlaaDoor.Kit
open Go.RowKit Go.Shelf Go.Deep
set_option linter.unusedVariables false
attribute [local go_sem] run_store_func

/-! ### both Puts -/
def wholeB (D : Nat) (k : Int) (fs : List FT) (ns : List (ByteArray × ByteArray)) (di : Int) (dl : Bool) (rows pr : Int) (nds : List (Int × Int)) (sls : List (Int × Int × Int)) : List UInt8 :=
  if k = 1 then hd4 k ++ schB (fldB (D - 1)) fs ns else if k = 2 then hd4 k ++ (numB di.toNat 2 ++ flgB dl) ++ bdyB rows pr nds sls else hd4 k ++ bdyB rows pr nds sls
structure HeadAt (S : Nat → Prop) (D : Nat) (w : World) (fo no vo uo : Option Addr) (cf : Nat) (fs : List FT) (ns : List (ByteArray × ByteArray)) (nds : List (Int × Int)) (sls : List (Int × Int × Int)) : Prop where
  tab : Tab w
  row : RowAt S w D fo fs
  cap : fs.length ≤ cf
  d : D ≤ big
  s : ∀ b, S b → b < w.heap.size
  notes : NotesAt w no ns
  nodes : NodesAt w vo nds
  slots : SlotsAt w uo sls
theorem HeadAt.gr {S : Nat → Prop} {D : Nat} {w W : World} {fo no vo uo : Option Addr} {cf : Nat} {fs : List FT} {ns : List (ByteArray × ByteArray)} {nds : List (Int × Int)} {sls : List (Int × Int × Int)} (h : HeadAt S D w fo no vo uo cf fs ns nds sls) (g : Gr w W) : HeadAt S D W fo no vo uo cf fs ns nds sls :=
  ⟨h.tab.gr g, h.row.kept fun b hb => g.block b (h.s b hb) id, h.cap, h.d, fun b hb => Nat.lt_of_lt_of_le (h.s b hb) g.size, h.notes.gr g, h.nodes.gr g, h.slots.gr g⟩
theorem kidB_top {D : Nat} {fs : List FT} (hd : deep D fs) : kidB D fs = fs.flatMap (fldB (D - 1)) := by
  cases D with
  | zero =>
    have : fs = [] := hd
    subst this
    rfl
  | succ d => rfl
theorem bdyB_len (rows pr : Int) {nds : List (Int × Int)} {sls : List (Int × Int × Int)} (h1 : nds.length ≤ 512) (h2 : sls.length ≤ 1536) : (bdyB rows pr nds sls).length ≤ 30000 := by
  have := ndM_flat nds
  have := slM_flat sls
  unfold bdyB
  simp only [List.length_append, numB_len]
  omega
theorem wholeB_len {D : Nat} {k : Int} {fs : List FT} {ns : List (ByteArray × ByteArray)} {di : Int} {dl : Bool} {rows pr : Int} {nds : List (Int × Int)} {sls : List (Int × Int × Int)} (hd : deep D fs) (h : HOk (Yes D fs ns) k fs.length ns.length di dl rows pr nds sls) : (wholeB D k fs ns di dl rows pr nds sls).length ≤ 65536 := by
  unfold wholeB
  have h4 : ∀ k, (hd4 k).length = 4 := fun _ => rfl
  have hfl : (flgB dl).length = 1 := by unfold flgB; split <;> rfl
  split
  · rename_i c
    have hy : Yes D fs ns := by
      rcases h with h | h
      · exact h.2.2.2.2.2.2.2
      · omega
    have h1 := kidB_len (hy.allR hd)
    rw [kidB_top hd] at h1
    have h2 := notes_len hy.2.2.1 hy.2.1
    unfold schB
    simp only [List.length_append, numB_len, h4]
    omega
  · rename_i c
    have hb : nds.length ≤ 512 ∧ sls.length ≤ 1536 := by
      rcases h with h | h
      · exact absurd h.1 c
      · exact ⟨h.2.2.2.2.2.1, h.2.2.2.2.2.2.1⟩
    have h1 := bdyB_len rows pr hb.1 hb.2
    split
    · simp only [List.length_append, numB_len, h4, hfl]
      omega
    · simp only [List.length_append, h4]
      omega

theorem both_may8 {S : Nat → Prop} {D : Nat} {k di rows pr : Int} {dl : Bool} {fo no vo uo : Option Addr} {cf cn vc uc : Nat} {fs : List FT} {ns : List (ByteArray × ByteArray)} {nds : List (Int × Int)} {sls : List (Int × Int × Int)} {w : World} (h : HeadAt S D w fo no vo uo cf fs ns nds sls) (z : Bool) (hz : HOk (Yes D fs ns) k fs.length ns.length di dl rows pr nds sls ↔ z = true) :
    ∀ W, Gr w W → Calls Tryd.prog 8 #[.agg #[.int .i64 k, .slice fo fs.length cf, .slice no ns.length cn, .int .i64 di, .bool dl, .int .i64 rows, .int .i64 pr, .slice vo nds.length vc, .slice uo sls.length uc]] W fun e w' => e = .returned (.bool z) ∧ Gr W w' := fun W g => by
  obtain ⟨y, hy⟩ := tell (Yes D fs ns)
  have hW := h.gr g
  refine mayBe_any y z hy hz hW.row.len hW.notes.1 hW.nodes hW.slots fun _ V gV => ?_
  refine Calls.mono (check_fault hW.tab hW.row hW.cap hW.d hW.s hW.notes V gV) ?_
  rintro e w' ⟨er, so, sn, sc, tt, rfl, hg, p, -, hF, -⟩
  refine ⟨er, so, sn, sc, tt, rfl, ?_, hg⟩
  have h2 := yes_iff hW.row.deep hF
  cases y with
  | true => have := h2.1 (hy.2 rfl); simp [this]
  | false => exact beqF fun e => by have := hy.1 (h2.2 e); cases this
theorem both_may12 {S : Nat → Prop} {D : Nat} {k di rows pr : Int} {dl : Bool} {fo no vo uo : Option Addr} {cf cn vc uc : Nat} {fs : List FT} {ns : List (ByteArray × ByteArray)} {nds : List (Int × Int)} {sls : List (Int × Int × Int)} {w : World} (h : HeadAt S D w fo no vo uo cf fs ns nds sls) (z : Bool) (hz : HOk (Yes D fs ns) k fs.length ns.length di dl rows pr nds sls ↔ z = true) :
    ∀ W, Gr w W → Calls Tryd.prog 12 #[.agg #[.int .i64 k, .slice fo fs.length cf, .slice no ns.length cn, .int .i64 di, .bool dl, .int .i64 rows, .int .i64 pr, .slice vo nds.length vc, .slice uo sls.length uc]] W fun e w' => e = .returned (.bool z) ∧ Gr W w' := by
  obtain ⟨y, hy⟩ := tell (Yes D fs ns)
  exact headMay_any y z hy hz h.row.len h.notes.1 h.nodes h.slots fun _ => schemaMay_any y hy h.row h.s h.notes
theorem put4_true {S : Nat → Prop} {D : Nat} {k di rows pr : Int} {dl : Bool} {fo no vo uo : Option Addr} {cf cn vc uc : Nat} {fs : List FT} {ns : List (ByteArray × ByteArray)} {nds : List (Int × Int)} {sls : List (Int × Int × Int)} {w : World} (h : HeadAt S D w fo no vo uo cf fs ns nds sls) (hok : HOk (Yes D fs ns) k fs.length ns.length di dl rows pr nds sls) :
    Calls Tryd.prog 4 #[.agg #[.int .i64 k, .slice fo fs.length cf, .slice no ns.length cn, .int .i64 di, .bool dl, .int .i64 rows, .int .i64 pr, .slice vo nds.length vc, .slice uo sls.length uc]] w fun e w' => ∃ B, e = .returned (.tuple #[.slice (some ⟨B, 0, none⟩) (wholeB D k fs ns di dl rows pr nds sls).length (wholeB D k fs ns di dl rows pr nds sls).length, .int .i64 0]) ∧ w.heap.size ≤ B ∧ w'.heap[B]? = some (.cells (bv (wholeB D k fs ns di dl rows pr nds sls)).toArray 5 (0, 0)) ∧ Gr w w' := by
  have hd := h.row.deep
  have hl := wholeB_len hd hok
  refine put_true hl (both_may8 h true (by simp [hok])) fun W K hI => ?_
  have hk : 1 ≤ k ∧ k ≤ 3 := by rcases hok with h | h <;> omega
  have e : wholeB D k fs ns di dl rows pr nds sls = if k = 1 then hd4 k ++ (numB fs.length 2 ++ kidB D fs ++ numB ns.length 2 ++ ns.flatMap ntM) else if k = 2 then hd4 k ++ (numB di.toNat 2 ++ flgB dl) ++ bdyB rows pr nds sls else hd4 k ++ bdyB rows pr nds sls := by
    unfold wholeB schB
    rw [kidB_top hd]
  rw [e] at hl ⊢
  refine Calls.mono (penHead_any (fbs := kidB D fs) hI (by simpa using hl) hk (fun c => ?_) (fun c V bs' hV hlV => ?_) (fun c V bs' hV hlV => ?_)) (fun e w' he => by simpa using he)
  · rcases hok with h | h
    · omega
    · have := h.2.2.2.2.2.2.2.1 c; omega
  · have hy : Yes D fs ns := by
      rcases hok with h | h
      · exact h.2.2.2.2.2.2.2
      · omega
    exact penSchema_any fs ns fo no cf cn hV hlV h.row.len (fun V' bs'' hV' hl' => penFields_any S D fs fo cf w K h.row (okMs_of (hy.allR hd)) V' bs'' hV' hl') h.notes
  · rcases hok with hh | hh
    · exact absurd hh.1 c
    · exact penBody_any hV hlV (by omega) (by omega) h.nodes h.slots hh.2.2.2.2.2.2.2.2.2.1 hh.2.2.2.2.2.2.2.2.2.2
theorem put5_true {S : Nat → Prop} {D : Nat} {k di rows pr : Int} {dl : Bool} {fo no vo uo : Option Addr} {cf cn vc uc : Nat} {fs : List FT} {ns : List (ByteArray × ByteArray)} {nds : List (Int × Int)} {sls : List (Int × Int × Int)} {w : World} (h : HeadAt S D w fo no vo uo cf fs ns nds sls) (hok : HOk (Yes D fs ns) k fs.length ns.length di dl rows pr nds sls) :
    Calls Tryd.prog 5 #[.agg #[.int .i64 k, .slice fo fs.length cf, .slice no ns.length cn, .int .i64 di, .bool dl, .int .i64 rows, .int .i64 pr, .slice vo nds.length vc, .slice uo sls.length uc]] w fun e w' => ∃ so sc n, e = .returned (.tuple #[.slice so n sc, .int .i64 0]) ∧ Byts w w' so sc n (wholeB D k fs ns di dl rows pr nds sls) := by
  have hd := h.row.deep
  have hy : k = 1 → Yes D fs ns := fun c => by
    rcases hok with h | h
    · exact h.2.2.2.2.2.2.2
    · omega
  have hlens : nds.length ≤ 512 ∧ sls.length ≤ 1536 := by
    rcases hok with h | h
    · omega
    · exact ⟨h.2.2.2.2.2.1, h.2.2.2.2.2.2.1⟩
  refine putR_true (fldB (D - 1)) hok (both_may12 h true (by simp [hok])) (fun c hne => ?_) (fun c => ?_) h.notes h.nodes h.slots ?_ ?_
  · have hA := (hy c).allR hd
    have ok := okMs_of hA
    cases D with
    | zero => exact absurd h.row hne
    | succ d =>
      obtain ⟨b, o, ea, hb, hc⟩ := h.row.2 hne
      refine ⟨b, o, ea, fun i hi => ?_⟩
      obtain ⟨ao', ca', h1, h2, h3⟩ := hc i hi
      have ep : pre (d + 1) fs = fs.flatMap fun f => f :: pre d f.kids := rfl
      have hsub : ∀ g, g = fs[i] ∨ g ∈ pre d fs[i].kids → g ∈ pre (d + 1) fs := fun g hg => by
        rw [ep, List.mem_flatMap]
        exact ⟨_, List.getElem_mem hi, by simpa using hg⟩
      exact ⟨ao', ca', h1, fun W' so sc n bs hB hn => fieldR_any S d fs[i] ao' ca' w h3 (ok _ (hsub _ (.inl rfl))) (fun g hg => ok g (hsub g (.inr hg))) W' so sc n bs hB hn⟩
  · have h1 := kidB_len ((hy c).allR hd)
    rw [kidB_top hd] at h1
    have h2 := notes_len (hy c).2.2.1 (hy c).2.1
    exact ⟨(hy c).1, (hy c).2.1, by omega, by omega, fun n hn => noteBad_len ((hy c).2.2.1 n hn)⟩
  · have := ndM_flat nds; omega
  · have := slM_flat sls; omega
theorem put4_false {S : Nat → Prop} {D : Nat} {k di rows pr : Int} {dl : Bool} {fo no vo uo : Option Addr} {cf cn vc uc : Nat} {fs : List FT} {ns : List (ByteArray × ByteArray)} {nds : List (Int × Int)} {sls : List (Int × Int × Int)} {w : World} (h : HeadAt S D w fo no vo uo cf fs ns nds sls) (hok : ¬ HOk (Yes D fs ns) k fs.length ns.length di dl rows pr nds sls) :
    Calls Tryd.prog 4 #[.agg #[.int .i64 k, .slice fo fs.length cf, .slice no ns.length cn, .int .i64 di, .bool dl, .int .i64 rows, .int .i64 pr, .slice vo nds.length vc, .slice uo sls.length uc]] w fun e w' => e = .returned (.tuple #[.slice none 0 0, .int .i64 50]) ∧ Gr w w' :=
  put_false (both_may8 h false (by simp [hok]))
theorem put5_false {S : Nat → Prop} {D : Nat} {k di rows pr : Int} {dl : Bool} {fo no vo uo : Option Addr} {cf cn vc uc : Nat} {fs : List FT} {ns : List (ByteArray × ByteArray)} {nds : List (Int × Int)} {sls : List (Int × Int × Int)} {w : World} (h : HeadAt S D w fo no vo uo cf fs ns nds sls) (hok : ¬ HOk (Yes D fs ns) k fs.length ns.length di dl rows pr nds sls) :
    Calls Tryd.prog 5 #[.agg #[.int .i64 k, .slice fo fs.length cf, .slice no ns.length cn, .int .i64 di, .bool dl, .int .i64 rows, .int .i64 pr, .slice vo nds.length vc, .slice uo sls.length uc]] w fun e w' => e = .returned (.tuple #[.slice none 0 0, .int .i64 50]) ∧ Gr w w' :=
  putR_false (both_may12 h false (by simp [hok]))

end Go.Proofs.YtchhnchddledlaaDoor.Kit
