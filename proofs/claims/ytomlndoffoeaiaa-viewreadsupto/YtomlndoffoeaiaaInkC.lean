import Derived.Test.YtomlndoffoeaiaaInkB
namespace Go.Proofs.Ytomlndoffoeaiaa.Kit
open Go.RowKit Go.Deep

/-- a row of cells that is the call's own -/
def OwnRow (w : World) (g : Nat) (t : TypeId) (L : List Value) : Prop := w.heap[g]? = some (.cells L.toArray t (0, 0))
theorem OwnRow.cell {w : World} {g t j : Nat} {L : List Value} {v : Value} (h : OwnRow w g t L) (hj : L[j]? = some v) : w.cell? ⟨g, j, none⟩ = some v := by
  rw [cell_of_row w g j _ t (0, 0) h]; simpa using hj
theorem OwnRow.frozen {w : World} {g t : Nat} {L : List Value} (h : OwnRow w g t L) (j : Nat) : w.frozen? ⟨g, j, none⟩ = false := frozen_of_row w g j _ t h
theorem OwnRow.set {w : World} {g t : Nat} {L : List Value} (h : OwnRow w g t L) (j : Nat) (v : Value) : OwnRow (w.setCell ⟨g, j, none⟩ v) g t (L.set j v) := by
  have := heap_setCell_same w g j _ t v h
  unfold OwnRow; rw [this]; simp
theorem OwnRow.lt {w : World} {g t : Nat} {L : List Value} (h : OwnRow w g t L) : g < w.heap.size := by
  unfold OwnRow at h; exact (Array.getElem?_eq_some_iff.1 h).1
theorem OwnRow.kept {w w' : World} {g t : Nat} {S : Nat → Prop} {L : List Value} (h : OwnRow w g t L) (hk : Keeps w w' S) (hS : ¬ S g) : OwnRow w' g t L := by
  unfold OwnRow; rw [hk.block g h.lt hS]; exact h

theorem splice_all {α : Type} (L cs : List α) (h : cs.length = L.length) : splice L 0 cs = cs := by
  simp [splice, ← h]

theorem ret_ptr {a b : Option Addr} (h : a = b) : Ending.returned (.pointer a) = .returned (.pointer b) := by rw [h]

def clamp (most : Int) : Int := if most < 0 then 0 else if 16777216 < most then 16777216 else most
theorem clamp_bd (most : Int) : 0 ≤ clamp most ∧ clamp most ≤ 16777216 := by unfold clamp; split <;> (try split) <;> omega

theorem newInk_any (most : Int) (w : World) :
    Calls Try.prog 21 #[.int .i64 most] w fun e w' => e = .returned (.pointer (some ⟨w.heap.size, 0, none⟩)) ∧ w' = w.alloc (.cells #[.slice none 0 0, .int .i64 (clamp most)] 115) := by
  by_cases h1 : most < 0
  · have e : Hid (clamp most = 0) := by show _ = _; simp [clamp, h1]
    go_enter Try.func21, Try.ntmps21
    go_wp2
    all_goals (go_ret; first | omega | exact ⟨rfl, by rw [e.out]⟩)
  · by_cases h2 : 16777216 < most
    · have e : Hid (clamp most = 16777216) := by show _ = _; simp [clamp, h1, h2]
      go_enter Try.func21, Try.ntmps21
      go_wp2
      all_goals (go_ret; first | omega | exact ⟨rfl, by rw [e.out]⟩)
    · have e : Hid (clamp most = most) := by show _ = _; simp [clamp, h1, h2]
      go_enter Try.func21, Try.ntmps21
      go_wp2
      all_goals (go_ret; first | omega | exact ⟨rfl, by rw [e.out]⟩)

theorem rnewInk_any (most : Int) (w : World) :
    Calls Try.prog 24 #[.int .i64 most] w fun e w' => e = .returned (.pointer (some ⟨w.heap.size, 0, none⟩)) ∧ w' = w.alloc (.cells #[.slice none 0 0, .int .i64 (clamp most)] 117) := by
  by_cases h1 : most < 0
  · have e : Hid (clamp most = 0) := by show _ = _; simp [clamp, h1]
    go_enter Try.func24, Try.ntmps24
    go_wp2
    all_goals (go_ret; first | omega | exact ⟨rfl, by rw [e.out]⟩)
  · by_cases h2 : 16777216 < most
    · have e : Hid (clamp most = 16777216) := by show _ = _; simp [clamp, h1, h2]
      go_enter Try.func24, Try.ntmps24
      go_wp2
      all_goals (go_ret; first | omega | exact ⟨rfl, by rw [e.out]⟩)
    · have e : Hid (clamp most = most) := by show _ = _; simp [clamp, h1, h2]
      go_enter Try.func24, Try.ntmps24
      go_wp2
      all_goals (go_ret; first | omega | exact ⟨rfl, by rw [e.out]⟩)

/-- a new ink -/
theorem InkAt.new (w : World) (ty : Nat) (most : Int) : InkAt (w.alloc (.cells #[.slice none 0 0, .int .i64 most] ty)) ty w.heap.size none most [] :=
  ⟨.slice none 0 0, heap_alloc_new w _, World.ownsRow_nil _ _ _ _, rfl⟩

set_option maxRecDepth 100000 in
set_option maxHeartbeats 400000 in
theorem bytes_any (p : Nat) (go : Option Nat) (most : Int) (bs : List Int) (w : World) (hI : InkAt w 115 p go most bs) (hbs : bs.length ≤ 16777216) :
    Calls Try.prog 23 #[.pointer (some ⟨p, 0, none⟩)] w fun e w' => e = .returned (.slice (some ⟨w.heap.size, 0, none⟩) bs.length bs.length) ∧ OwnRow w' w.heap.size 5 (bs.map (Value.int .u8)) ∧ Below w.heap.size w w' := by
  obtain ⟨ao, cap, HF, h0, h1, hf⟩ := hI.open
  have HL : Hid (p < w.heap.size) := hI.lt.1
  have h0a : ∀ o, (w.alloc o).cell? ⟨p, 0, none⟩ = some (.slice ao bs.length cap) := fun o => (((Keeps.refl w (fun _ => False)).alloc o).cell hI.lt.1 id).trans h0
  clear hI
  have hmk := run_make_row' (P := Try.prog) 22 5 (.int .u8 0) 1 Try.underlying22 info5 rfl .i64 .i64 bs.length (by omega) (by omega)
  obtain ⟨cs, hcs⟩ : ∃ cs : List Value, cs = bs.map (Value.int .u8) := ⟨_, rfl⟩
  have HC : Hid (cs = bs.map (Value.int .u8)) := hcs
  clear hcs
  obtain ⟨cur, hcur⟩ : ∃ cur : List Value, cur = (madeCells #[.int .u8 0] bs.length).toList := ⟨_, rfl⟩
  have HCur : Hid (cur = (madeCells #[.int .u8 0] bs.length).toList) := hcur
  clear hcur
  go_enter Try.func23, Try.ntmps23
  go_wp2_with (with_reducible show wpList Try.prog _ _ (Oper.mk (some 15) _ _ _ _ _ :: _) _ _; refine wpList_copy_splice rfl (.tmp 10) (.tmp 14) 22 22 rfl 5 Try.underlying22 size5 _ _ _ _ _ _ rfl rfl w.heap.size 0 cur 5 ?hg cs ?hn ?hpos ?hfit ?h1 w.heap.size w ?hb (Nat.le_refl _) ?_)
  case hg => rw [HCur.out]; simpa using heap_alloc_new w _
  case hn => rw [HC.out]; simp
  case hpos =>
    intro hp
    have hown := HF.out.2.1
    rw [HC.out]
    rcases hown.2 with ⟨h, h'⟩ | ⟨g, cap', cur', h, _⟩
    · rw [HC.out] at hp; simp [h'] at hp
    · simp only [Value.slice.injEq] at h
      refine ⟨⟨g, 0, none⟩, h.1, fun j v hj => ?_⟩
      have hc := hown.cells (g := g) (by simp [Value.ownBlock, h.1]) j v hj
      exact ((Keeps.refl w (fun _ => False)).alloc _).cell' hc id
  case hfit => rw [HC.out, HCur.out]; simp [size_madeCells]
  case h1 =>
    intro v hv
    rw [HC.out] at hv
    obtain ⟨z, _, rfl⟩ := List.mem_map.1 hv
    rfl
  case hb => exact (Below.refl _ _).alloc (Nat.le_refl _) _
  intro w1 HG1 hB1
  have HO : Hid (OwnRow w1 w.heap.size 5 (bs.map (Value.int .u8))) := by
    have := HG1.out
    rw [splice_all _ _ (by rw [HC.out, HCur.out]; simp [size_madeCells]), HC.out] at this
    exact this
  clear HG1
  go_wp2
  go_ret
  exact ⟨rfl, HO.out, hB1⟩

theorem pad_arg (p : Nat) (to : Int) (w : World) (h : to < 1 ∨ 64 < to) :
    Calls Try.prog 30 #[.pointer (some ⟨p, 0, none⟩), .int .i64 to] w fun e w' => e = .returned (.int .i64 1) ∧ w = w' := by
  rcases h with h | h
  · go_enter Try.func30, Try.ntmps30
    go_wp2
    go_ret
    exact ⟨rfl, rfl⟩
  · have h' : ¬ to < 1 := by omega
    go_enter Try.func30, Try.ntmps30
    go_wp2
    go_ret
    exact ⟨rfl, rfl⟩

/-! ### what each call answers, as a function -/
def numR (most : Int) (bs : List Int) (x width : Int) : Int × List Int := if wideB width = false then (1, bs) else if most < (bs.length : Int) + width then (4, bs) else (0, bs ++ leB x width.toNat)
def textR (most : Int) (bs : List Int) (s : ByteArray) : Int × List Int := if most < (bs.length : Int) + s.size then (4, bs) else (0, bs ++ bytesOf s)
def fillR (most : Int) (bs : List Int) (n b : Int) : Int × List Int := if n < 0 then (1, bs) else if most < (bs.length : Int) + n then (4, bs) else (0, bs ++ List.replicate n.toNat b)
def padR (most : Int) (bs : List Int) (to : Int) : Int × List Int := if to < 1 ∨ 64 < to then (1, bs) else fillR most bs (-((bs.length : Int) % to) % to) 0

theorem InkDone.refl {w : World} {ty p : Nat} {go : Option Nat} {most : Int} {bs : List Int} (h : InkAt w ty p go most bs) : InkDone w w ty p go most bs := ⟨go, h, Keeps.refl _ _, .inl rfl⟩

/-- the bound holds -/
def InkOk (most : Int) (bs : List Int) : Prop := 0 ≤ most ∧ most ≤ 16777216 ∧ (bs.length : Int) ≤ most

theorem text_all (p : Nat) (go : Option Nat) (most : Int) (bs : List Int) (s : ByteArray) (w : World) (hI : InkAt w 115 p go most bs) (hok : InkOk most bs) :
    Calls Try.prog 26 #[.pointer (some ⟨p, 0, none⟩), .string s] w fun e w' => e = .returned (.int .i64 (textR most bs s).1) ∧ InkDone w w' 115 p go most (textR most bs s).2 := by
  obtain ⟨h1, h2, h3⟩ := hok
  unfold textR
  split
  · exact text_no p go most bs s w hI h1 h2 (by omega) (by omega)
  · exact text_yes p go most bs s w hI h1 h2 (by omega)

theorem number_all (p : Nat) (go : Option Nat) (most : Int) (bs : List Int) (x width : Int) (w : World) (hI : InkAt w 115 p go most bs) (hok : InkOk most bs) :
    Calls Try.prog 22 #[.pointer (some ⟨p, 0, none⟩), .int .u64 x, .int .i64 width] w fun e w' => e = .returned (.int .i64 (numR most bs x width).1) ∧ InkDone w w' 115 p go most (numR most bs x width).2 := by
  obtain ⟨h1, h2, h3⟩ := hok
  unfold numR
  split
  · rename_i h
    refine (number_arg p x width w h).mono ?_
    rintro e w' ⟨rfl, rfl⟩
    exact ⟨rfl, InkDone.refl hI⟩
  · rename_i h
    have h : wideB width = true := by simpa using h
    have hw := (wideB_iff width).1 h
    split
    · exact number_no p go most bs x width w hI h1 h2 (by omega) (by omega) h
    · obtain ⟨k, rfl⟩ : ∃ k : Nat, width = k := ⟨width.toNat, by omega⟩
      exact number_yes p go most bs x k w hI h1 h2 (by omega) (by omega) h

theorem fill_all (p : Nat) (go : Option Nat) (most : Int) (bs : List Int) (n b : Int) (w : World) (hI : InkAt w 115 p go most bs) (hok : InkOk most bs) :
    Calls Try.prog 28 #[.pointer (some ⟨p, 0, none⟩), .int .i64 n, .int .u8 b] w fun e w' => e = .returned (.int .i64 (fillR most bs n b).1) ∧ InkDone w w' 115 p go most (fillR most bs n b).2 := by
  obtain ⟨h1, h2, h3⟩ := hok
  unfold fillR
  split
  · rename_i h
    refine (fill_arg p n b w h).mono ?_
    rintro e w' ⟨rfl, rfl⟩
    exact ⟨rfl, InkDone.refl hI⟩
  · split
    · exact fill_no p go most bs n b w hI h1 h2 (by omega) (by omega) (by omega)
    · obtain ⟨k, rfl⟩ : ∃ k : Nat, n = k := ⟨n.toNat, by omega⟩
      exact fill_yes p go most bs k b w hI h1 h2 (by omega)

theorem pad_all (p : Nat) (go : Option Nat) (most : Int) (bs : List Int) (to : Int) (w : World) (hI : InkAt w 115 p go most bs) (hok : InkOk most bs) :
    Calls Try.prog 30 #[.pointer (some ⟨p, 0, none⟩), .int .i64 to] w fun e w' => e = .returned (.int .i64 (padR most bs to).1) ∧ InkDone w w' 115 p go most (padR most bs to).2 := by
  unfold padR
  split
  · rename_i h
    refine (pad_arg p to w h).mono ?_
    rintro e w' ⟨rfl, rfl⟩
    exact ⟨rfl, InkDone.refl hI⟩
  · have b1 : 1 ≤ to := by omega
    have b2 : to ≤ 64 := by omega
    obtain ⟨ao, cap, HF, h0, _, hf⟩ := hI.open
    have HI : Hid (InkAt w 115 p go most bs) := hI
    have HOK : Hid (InkOk most bs) := hok
    have hlen : (bs.length : Int) ≤ 16777216 := by have := hok.2.1; have := hok.2.2; omega
    have a1 := Int.emod_nonneg (bs.length : Int) (show to ≠ 0 by omega)
    have a2 := Int.emod_lt_of_pos (bs.length : Int) (show 0 < to by omega)
    have a3 := Int.emod_nonneg (to - (bs.length : Int) % to) (show to ≠ 0 by omega)
    have a4 := Int.emod_lt_of_pos (to - (bs.length : Int) % to) (show 0 < to by omega)
    clear hI hok
    go_enter Try.func30, Try.ntmps30
    go_wp2_with (first | (go_at_call 28; refine (fill_all p go most bs _ 0 _ HI.out HOK.out).mono ?_; rintro e w' ⟨rfl, D⟩))
    go_ret
    exact ⟨rfl, D⟩
end Go.Proofs.Ytomlndoffoeaiaa.Kit
