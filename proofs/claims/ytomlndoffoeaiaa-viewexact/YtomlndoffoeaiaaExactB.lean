import Derived.Test.YtomlndoffoeaiaaExactA
import Derived.Deep.OwnRows
import Derived.Deep.QuietTactic
import Derived.BigQuiet
import Derived.Laws.CopyOwn
import Derived.WalkSmall
namespace Go.Proofs.Ytomlndoffoeaiaa.Ex
open Go.RowKit

theorem info3 : (Try.prog.info? 3).map (fun i => (i.zero, i.size, i.bytes)) = some (some (.int .i64 0), 1, 8) := by kernel_rfl
theorem size3 : (Try.prog.info? 3).map (·.size) = some 1 := by kernel_rfl

/-- a row of cells that is the call's own -/
def OwnRow (w : World) (g : Nat) (t : TypeId) (L : List Value) : Prop := w.heap[g]? = some (.cells L.toArray t (0, 0))
theorem OwnRow.cell {w : World} {g t j : Nat} {L : List Value} {v : Value} (h : OwnRow w g t L) (hj : L[j]? = some v) : w.cell? ⟨g, j, none⟩ = some v := by
  rw [cell_of_row w g j _ t (0, 0) h]; simpa using hj
theorem OwnRow.frozen {w : World} {g t : Nat} {L : List Value} (h : OwnRow w g t L) (j : Nat) : w.frozen? ⟨g, j, none⟩ = false := frozen_of_row w g j _ t h
theorem OwnRow.set {w : World} {g t : Nat} {L : List Value} (h : OwnRow w g t L) (j : Nat) (v : Value) : OwnRow (w.setCell ⟨g, j, none⟩ v) g t (L.set j v) := by
  have := heap_setCell_same w g j _ t v h
  unfold OwnRow; rw [this]; simp
theorem OwnRow.lt {w : World} {g t : Nat} {L : List Value} (h : OwnRow w g t L) : g < w.heap.size := by
  unfold OwnRow at h; exact (Array.getElem?_eq_some_iff.1 h).1
theorem OwnRow.below {w w' : World} {g t B : Nat} {L : List Value} (h : OwnRow w g t L) (hb : Below B w w') (hB : g < B) : OwnRow w' g t L := by
  unfold OwnRow; rw [hb.block g hB]; exact h

theorem sum_23 (b off cap : Nat) (w : World) (h0 : w.cell? ⟨b, off, none⟩ = some (.int .i64 2)) (h1 : w.cell? ⟨b, off + 1, none⟩ = some (.int .i64 3)) :
    Calls Try.prog 35 #[.slice (some ⟨b, off, none⟩) 2 cap] w fun e w' => e = .returned (.tuple #[.int .i64 5, .bool true]) ∧ w' = w := by
  refine (sum_some b off 2 cap [2, 3] w rfl (by omega) ?_).mono ?_
  · intro k hk
    match k, hk with
    | 0, _ => simpa using h0
    | 1, _ => simpa using h1
  · rintro e w' ⟨rfl, rfl⟩
    exact ⟨by have : sumB [2, 3] = true := by decide
              exact ret2 (by rw [sumV_yes this]; decide) this, rfl⟩

/-- what the row 'own' holds when k of its places are done -/
structure Filled (l : List Int) (len k : Nat) (L : List Value) : Prop where
  size : L.length = len + 3
  old : ∀ j, j < len → L[j]? = some (.int .i64 (l.getD j 0))
  mark : ∀ j, len ≤ j → j < k → L[j]? = some (.int .i64 (-44))
theorem Filled.step {l : List Int} {len k : Nat} {L : List Value} (h : Filled l len k L) (h1 : len ≤ k) (h2 : k < len + 3) : Filled l len (k + 1) (L.set k (.int .i64 (-44))) := by
  refine ⟨by simpa using h.size, fun j hj => ?_, fun j hj hk => ?_⟩
  · rw [List.getElem?_set]; rw [if_neg (by omega)]; exact h.old j hj
  · rw [List.getElem?_set]
    by_cases e : k = j
    · subst e; rw [if_pos rfl, if_pos (by rw [h.size]; omega)]
    · rw [if_neg e]; exact h.mark j hj (by omega)
theorem Filled.start {l : List Int} {len : Nat} (hl : l.length = len) : Filled l len len (splice (madeCells #[.int .i64 0] (len + 3)).toList 0 (l.map (Value.int .i64))) := by
  refine ⟨?_, fun j hj => ?_, fun j h1 h2 => absurd h1 (by omega)⟩
  · rw [length_splice _ _ _ (by simp [size_madeCells, hl])]; simp [size_madeCells]
  · simp only [splice, List.take_zero, List.nil_append]
    rw [List.getElem?_append_left (by simpa [hl] using hj)]
    simp [List.getElem?_eq_getElem (show j < l.length by omega)]

set_option maxRecDepth 100000 in
set_option maxHeartbeats 1000000 in
theorem walk_some (b off len cap : Nat) (l : List Int) (x y : Int) (w : World) (hpos : 0 < len) (hl : l.length = len) (hlen : len * 8 ≤ 140737488351232) (hbw : b < w.heap.size)
    (hb : ∀ k, l.getD k 0 ≤ 9223372036854775807)
    (hc : ∀ k, k < len → w.cell? ⟨b, off + k, none⟩ = some (.int .i64 (l.getD k 0)))
    (hx : x ≤ 9223372036854775807) (hy : y ≤ 9223372036854775807) :
    Calls Try.prog 7 #[.slice (some ⟨b, off, none⟩) len cap, .int .i64 x, .int .i64 y] w fun e w' => e = .returned (.bool true) ∧ Below w.heap.size w w' := by
  have HL : Hid (l.length = len) := hl
  clear hl
  have hmk := run_make_row' (P := Try.prog) 72 3 (.int .i64 0) 8 Try.underlying72 info3 rfl .i64 .i64 (len + 3) (by omega) (by omega)
  have ec : ((len + 3 : Nat) : Int) = (len : Int) + 3 := by omega
  rw [ec] at hmk
  clear ec
  obtain ⟨cs, hcs⟩ : ∃ cs : List Value, cs = l.map (Value.int .i64) := ⟨_, rfl⟩
  have HC : Hid (cs = l.map (Value.int .i64)) := hcs
  clear hcs
  have hcl : cs.length = len := by rw [HC.out, List.length_map, HL.out]
  have HCL : Hid (cs.length = len) := hcl
  clear hcl
  obtain ⟨cur, hcur⟩ : ∃ cur : List Value, cur = (madeCells #[.int .i64 0] (len + 3)).toList := ⟨_, rfl⟩
  have HCur : Hid (cur = (madeCells #[.int .i64 0] (len + 3)).toList) := hcur
  clear hcur
  go_enter Try.func7, Try.ntmps7
  go_wp2_with (with_reducible show wpList Try.prog _ _ (Oper.mk (some 26) _ _ _ _ _ :: _) _ _; refine wpList_copy_splice rfl (.tmp 24) (.tmp 25) 72 72 rfl 3 Try.underlying72 size3 _ _ _ _ _ _ rfl rfl w.heap.size 0 cur 3 ?hg cs ?hn ?hpos ?hfit ?h1 w.heap.size w ?hb (Nat.le_refl _) ?_)
  case hg => rw [HCur.out]; simpa using heap_alloc_new w _
  case hn => rw [HCL.out]; exact (Nat.min_eq_left (by omega)).symm
  case hpos =>
    intro _ j v hv
    rw [HC.out, List.getElem?_map] at hv
    obtain ⟨z, hz, rfl⟩ := Option.map_eq_some_iff.1 hv
    have hj := (List.getElem?_eq_some_iff.1 hz).1
    rw [hc j (by rw [← HL.out]; exact hj)]
    simp [List.getD, hz]
  case hfit => rw [HCL.out, HCur.out]; simp [size_madeCells]
  case h1 =>
    intro v hv
    rw [HC.out] at hv
    obtain ⟨z, _, rfl⟩ := List.mem_map.1 hv
    rfl
  case hb => exact (Below.refl _ _).alloc (Nat.le_refl _) _
  intro w1 HG1 hB1
  have HO1 : Hid (∃ L, OwnRow w1 w.heap.size 3 L ∧ Filled l len len L) := ⟨_, HG1.out, by rw [HCur.out, HC.out]; exact Filled.start HL.out⟩
  clear HG1 HCur HC HCL hmk
  go_wp2
  go_loopw [8] (fun i wr => ∃ k : Nat, len ≤ k ∧ k ≤ len + 3 ∧ i = .int .i64 k ∧ Hid (∃ L, OwnRow wr w.heap.size 3 L ∧ Filled l len k L) ∧ Below w.heap.size w wr) (fun i _ => len + 3 - (intOf i).toNat)
  case atStart => exact ⟨len, Nat.le_refl _, by omega, rfl, HO1, hB1⟩
  case round =>
    obtain ⟨k, hk1, hk2, rfl, HO, hB⟩ := hrel
    by_cases hlt : k < len + 3
    · obtain ⟨L, hO, hF⟩ := HO.out
      obtain ⟨v, hv⟩ : ∃ v, L[k]? = some v := ⟨_, List.getElem?_eq_getElem (by rw [hF.size]; omega)⟩
      have hcell := hO.cell hv
      have hfr := hO.frozen k
      have HO2 : Hid (∃ L, OwnRow (wr.setCell ⟨w.heap.size, k, none⟩ (.int .i64 (-44))) w.heap.size 3 L ∧ Filled l len (k + 1) L) := ⟨_, hO.set k _, hF.step hk1 hlt⟩
      clear hO hF hv HO
      go_wp2
      go_roundw
      case rel => exact ⟨k + 1, by omega, by omega, by go_num, HO2, hB.setCell (Nat.le_refl _) _⟩
      case measure => simp [intOf]; omega
    · obtain rfl : k = len + 3 := by omega
      have hcr : ∀ j, j < len → wr.cell? ⟨b, off + j, none⟩ = some (.int .i64 (l.getD j 0)) := fun j hj => (hB.cell (p := ⟨b, off + j, none⟩) hbw).trans (hc j hj)
      have hor : ∀ j, j < len → wr.cell? ⟨w.heap.size, 0 + j, none⟩ = some (.int .i64 (l.getD j 0)) := by
        obtain ⟨L, hO, hF⟩ := HO.out
        intro j hj
        rw [Nat.zero_add]
        exact hO.cell (hF.old j hj)
      have HCR : Hid (∀ j, j < len → wr.cell? ⟨b, off + j, none⟩ = some (.int .i64 (l.getD j 0))) := hcr
      have HOR : Hid (∀ j, j < len → wr.cell? ⟨w.heap.size, 0 + j, none⟩ = some (.int .i64 (l.getD j 0))) := hor
      have HB : Hid (∀ k, l.getD k 0 ≤ 9223372036854775807) := hb
      have HC : Hid (∀ k, k < len → w.cell? ⟨b, off + k, none⟩ = some (.int .i64 (l.getD k 0))) := hc
      clear hcr hor hb hc HO1 hB1
      go_wp2_with fail
      go_at_call 35
      refine (sum_some w.heap.size 0 len (len + 3) l _ HL.out (by omega) HOR.out).mono ?_
      rintro e w' ⟨rfl, rfl⟩
      go_wp2_with (first | (go_at_call 36; refine (rsum_some b off len cap l _ HL.out (by omega) HB.out HCR.out).mono ?_; rintro e w' ⟨rfl, rfl⟩) | (go_at_call 37; refine (times_any x y _ hx hy).mono ?_; rintro e w' ⟨rfl, rfl⟩) | (go_at_call 38; refine (rtimes_any x y _ hx hy).mono ?_; rintro e w' ⟨rfl, rfl⟩) | (go_at_call 35; refine (sum_23 _ _ _ _ (by go_simp) (by go_simp)).mono ?_; rintro e w' ⟨rfl, rfl⟩))
      go_loopw [19] (fun i wr => ∃ k : Nat, k ≤ len + 3 ∧ i = .int .i64 k ∧ Hid (∃ L, OwnRow wr w.heap.size 3 L ∧ Filled l len (len + 3) L) ∧ Below w.heap.size w wr) (fun i _ => len + 3 - (intOf i).toNat)
      case atStart =>
        obtain ⟨L, hO, hF⟩ := HO.out
        exact ⟨0, by omega, rfl, ⟨L, hO.below (B := w'.heap.size) ((Below.refl _ _).alloc (Nat.le_refl _) _) hO.lt, hF⟩, hB.alloc hB.size _⟩
      case round =>
        clear HO HCR HOR HB hB
        obtain ⟨k, hk2, rfl, HO, hB⟩ := hrel
        by_cases hlt : k < len + 3
        · obtain ⟨L, hO, hF⟩ := HO.out
          by_cases hkl : k < len
          · have h1 := hO.cell (hF.old k hkl)
            have h2 := (hB.cell (p := ⟨b, off + k, none⟩) hbw).trans (HC.out k hkl)
            obtain ⟨z, hz⟩ : ∃ z, z = l.getD k 0 := ⟨_, rfl⟩
            rw [← hz] at h1 h2
            have HF : Hid (Filled l len (len + 3) L) := hF
            have HOO : Hid (OwnRow wr w.heap.size 3 L) := hO
            clear hz HO HC hF hO
            have hlt' : (k : Int) < (len : Int) := by omega
            have hd2 : decide (len ≤ k) = false := by simp; omega
            go_wp2
            go_quiet (fail)
            go_wp2
            go_roundw
            case rel => exact ⟨k + 1, by omega, by go_num, ⟨L, HOO.out.below (B := wr.heap.size) (below_drewN (Below.refl _ _) _) HOO.out.lt, HF.out⟩, below_drewN hB _⟩
            case measure => simp [intOf]; omega
          · have h1 := hO.cell (hF.mark k (by omega) hlt)
            have hd : decide ((k : Int) < (len : Int)) = false := by simp; omega
            have hge : (len : Int) ≤ (k : Int) := by omega
            have HF : Hid (Filled l len (len + 3) L) := hF
            have HOO : Hid (OwnRow wr w.heap.size 3 L) := hO
            clear HO HC hF hO
            go_wp2
            go_quiet (fail)
            go_wp2
            go_roundw
            case rel => exact ⟨k + 1, by omega, by go_num, ⟨L, HOO.out.below (B := wr.heap.size) (below_drewN (Below.refl _ _) _) HOO.out.lt, HF.out⟩, below_drewN hB _⟩
            case measure => simp [intOf]; omega
        · obtain rfl : k = len + 3 := by omega
          go_wp2
          go_ret
          exact ⟨rfl, hB⟩
end Go.Proofs.Ytomlndoffoeaiaa.Ex
