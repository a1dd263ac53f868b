import Derived.Test.YtegjpmodleigeaaGreatDoorIkInkA
import Derived.Test.YtegjpmodleigeaaGreatDoorKit
import Derived.WalkKit
import Derived.Laws.BitsLemmas
set_option maxRecDepth 100000
set_option maxHeartbeats 4000000
namespace Go.Proofs.YtegjpmodleigeaaGreatDoor.Ink
open Go.Proofs.YtegjpmodleigeaaGreatDoor.Kit
open Go.RowKit Go.Deep
def wideB (n : Int) : Bool := n == 1 || n == 2 || n == 4 || n == 8
theorem wideB_iff (n : Int) : wideB n = true ↔ n = 1 ∨ n = 2 ∨ n = 4 ∨ n = 8 := by simp [wideB, or_assoc]
theorem ret_bool {a b : Bool} (h : a = b) : Ending.returned (.bool a) = .returned (.bool b) := by rw [h]

theorem isWidth_any (n : Int) (w : World) : Calls Tryz.prog 197 #[.int .i64 n] w fun e w' => e = .returned (.bool (wideB n)) ∧ w = w' := by
  by_cases h1 : n = 1
  · subst h1; go_enter Tryz.func197, Tryz.ntmps197; go_wp2; go_ret; exact ⟨rfl, rfl⟩
  by_cases h2 : n = 2
  · subst h2; go_enter Tryz.func197, Tryz.ntmps197; go_wp2; go_ret; exact ⟨rfl, rfl⟩
  by_cases h4 : n = 4
  · subst h4; go_enter Tryz.func197, Tryz.ntmps197; go_wp2; go_ret; exact ⟨rfl, rfl⟩
  by_cases h8 : n = 8
  · subst h8; go_enter Tryz.func197, Tryz.ntmps197; go_wp2; go_ret; exact ⟨rfl, rfl⟩
  have g1 : (n == 1) = false := by simpa using h1
  have g2 : (n == 2) = false := by simpa using h2
  have g4 : (n == 4) = false := by simpa using h4
  have g8 : (n == 8) = false := by simpa using h8
  have e : Hid (false = wideB n) := by show _ = _; simp [wideB, g1, g2, g4, g8]
  go_enter Tryz.func197, Tryz.ntmps197; go_wp2; go_ret; exact ⟨ret_bool e.out, rfl⟩

theorem InkDone.trans {a b c : World} {ty p : Nat} {go go1 : Option Nat} {most : Int} {bs2 : List Int} (hk : Keeps a b (fun k => k = p ∨ go = some k)) (hg : go1 = go ∨ ∀ g, go1 = some g → a.heap.size ≤ g)
    (h : InkDone b c ty p go1 most bs2) : InkDone a c ty p go most bs2 := by
  obtain ⟨go2, i2, k2, g2⟩ := h
  refine ⟨go2, i2, hk.trans k2 ?_, ?_⟩
  · intro j hj h
    rcases h with h | h
    · exact .inl h
    · rcases hg with e | e
      · exact .inr (e ▸ h)
      · have := e j h; omega
  · rcases g2 with e | e
    · subst e; exact hg
    · exact .inr fun g h => Nat.le_trans hk.size (e g h)

/-- the lowest k bytes of x, the lowest first -/
def leB (x : Int) (k : Nat) : List Int := (List.range k).map fun i => x / 256 ^ i % 256
theorem leB_succ (x : Int) (k : Nat) : leB x (k + 1) = leB x k ++ [x / 256 ^ k % 256] := by simp [leB, List.range_succ]
theorem leB_length (x : Int) (k : Nat) : (leB x k).length = k := by simp [leB]

theorem u8_wrap (y : Int) : IntKind.u8.wrap y = y % 256 := by simp [IntKind.wrap, IntKind.bits, IntKind.signed]
theorem shr8 (x : Int) (k : Nat) (hk : k < 8) : Op.shift BinOp.shr IntKind.u64 x IntKind.i64 (IntKind.i64.wrap (8 * (k : Int))) = pure (.int .u64 (x / 256 ^ k)) := by
  have e : IntKind.i64.wrap (8 * (k : Int)) = 8 * (k : Int) := by rw [IntKind.wrap_i64]; omega
  rw [e, shift_shr_any _ _ _ _ (by omega)]
  have e2 : (2 : Int) ^ min ((8 * (k : Int)).toNat) IntKind.u64.bits = 256 ^ k := by
    have : min ((8 * (k : Int)).toNat) IntKind.u64.bits = 8 * k := by
      have hb : IntKind.u64.bits = 64 := rfl
      rw [hb]; omega
    rw [this, Int.pow_mul]; rfl
  rw [e2]

/-- an ink whose list is written out, hidden from the walk -/
def InkForm (w : World) (ty p : Nat) (go : Option Nat) (most : Int) (bs : List Int) (ao : Option Addr) (cap : Nat) : Prop :=
  w.heap[p]? = some (.cells #[.slice ao bs.length cap, .int .i64 most] ty (0, 0)) ∧ w.ownsRow 0 5 1 (.slice ao bs.length cap) bs.length (bs.map (Value.int .u8)) ∧ (Value.slice ao bs.length cap).ownBlock = go

theorem InkAt.open {w : World} {ty p : Nat} {go : Option Nat} {most : Int} {bs : List Int} (h : InkAt w ty p go most bs) :
    ∃ ao cap, Hid (InkForm w ty p go most bs ao cap) ∧ w.cell? ⟨p, 0, none⟩ = some (.slice ao bs.length cap) ∧ w.cell? ⟨p, 1, none⟩ = some (.int .i64 most) ∧ w.frozen? ⟨p, 0, none⟩ = false := by
  obtain ⟨ao, cap, a, b, c, d, e, f⟩ := h.form
  exact ⟨ao, cap, ⟨a, b, c⟩, d, e, f⟩

/-- behind the block of what is appended, the append and its store -/
theorem InkForm.grown {w W w1 : World} {ty p : Nat} {go : Option Nat} {most : Int} {bs : List Int} {ao : Option Addr} {cap : Nat} (hf : InkForm w ty p go most bs ao cap) (hty : ty ≠ 5) (hW : Keeps w W (fun _ => False))
    (news : List Int) {v' : Value} {n' : Nat} {xs' : List Value} (hown' : w1.ownsRow 0 5 1 v' n' xs') (hn : n' = (bs ++ news).length) (hx : xs' = (bs ++ news).map (Value.int .u8))
    (hgrow : W.grownBy w1 (Value.slice ao bs.length cap).ownBlock) (hblk : v'.ownBlock = (Value.slice ao bs.length cap).ownBlock ∨ ∀ g, v'.ownBlock = some g → W.heap.size ≤ g) :
    w1.cell? ⟨p, 0, none⟩ = some (.slice ao bs.length cap) ∧ w1.frozen? ⟨p, 0, none⟩ = false ∧ InkDone w (w1.setCell ⟨p, 0, none⟩ v') ty p go most (bs ++ news) := by
  obtain ⟨hh, ho, hg⟩ := hf
  subst hn hx
  have hI : InkAt W ty p go most bs := InkAt.kept ⟨_, hh, ho, hg⟩ hW id (fun _ _ => id)
  have hh' : W.heap[p]? = some (.cells #[.slice ao bs.length cap, .int .i64 most] ty (0, 0)) := by
    rw [hW.block p (Array.getElem?_eq_some_iff.1 hh).1 id]; exact hh
  have ho' : W.ownsRow 0 5 1 (.slice ao bs.length cap) bs.length (bs.map (Value.int .u8)) := by
    obtain ⟨v, hv, hown, _⟩ := hI
    rw [hh'] at hv
    simp at hv
    rw [← hv] at hown
    exact hown
  obtain ⟨c, f, i, k⟩ := InkAt.stored (w := W) (bs := bs) (bs' := bs ++ news) hty hh' ho' hown' hgrow
  subst hg
  refine ⟨c, f, InkDone.trans (b := W) (go1 := (Value.slice ao bs.length cap).ownBlock) (hW.mono fun _ _ h => h.elim) (.inl rfl) ⟨_, i, k, hblk⟩⟩

theorem Keeps.none_alloc_drew (w : World) (o : Obj) : Keeps w (w.alloc o).drew (fun _ => False) := ((Keeps.refl w _).alloc o).drew
theorem own_alloc_drew {w : World} {v : Value} {n : Nat} {xs : List Value} (h : w.ownsRow 0 5 1 v n xs) (o : Obj) : (w.alloc o).drew.ownsRow 0 5 1 v n xs := h.alloc o
theorem src_one_drew (w : World) (u : Value) (hu : u.oneCell' = true) : Src Tryz.prog 1 28 (.slice (some ⟨w.heap.size, 0, none⟩) 1 1) 1 [u] (w.alloc (.cells #[u] 5)).drew := by
  refine Src.ofSlice _ Tryz.underlying28 _ _ _ _ (by simp) ?_ (by simpa using hu)
  intro j v hj
  match j, hj with
  | 0, hj => simp at hj; subst hj; simp [Addr.add]
theorem src_one (w : World) (u : Value) (hu : u.oneCell' = true) : Src Tryz.prog 1 28 (.slice (some ⟨w.heap.size, 0, none⟩) 1 1) 1 [u] (w.alloc (.cells #[u] 5)) := by
  refine Src.ofSlice _ Tryz.underlying28 _ _ _ _ (by simp) ?_ (by simpa using hu)
  intro j v hj
  match j, hj with
  | 0, hj => simp at hj; subst hj; simp [Addr.add]

theorem number_yes (p : Nat) (go : Option Nat) (most : Int) (bs : List Int) (x : Int) (width : Nat) (w : World) (hI : InkAt w 345 p go most bs) (hm : 0 ≤ most) (hm' : most ≤ 16777216) (hfit : (bs.length : Int) + width ≤ most)
    (hw8 : width ≤ 8) (hwide : wideB width = true) :
    Calls Tryz.prog 194 #[.pointer (some ⟨p, 0, none⟩), .int .u64 x, .int .i64 width] w fun e w' => e = .returned (.int .i64 0) ∧ InkDone w w' 345 p go most (bs ++ leB x width) := by
  obtain ⟨ao, cap, HF, h0, h1, hf⟩ := hI.open
  have hd : decide ((width : Int) ≤ most - (bs.length : Int)) = true := by simp; omega
  have HI : Hid (InkAt w 345 p go most bs) := hI
  clear hI
  go_enter Tryz.func194, Tryz.ntmps194
  go_wp2_with (first | (go_at_call 197; refine (isWidth_any _ _).mono ?_; rintro e w' ⟨rfl, rfl⟩) | (go_at_call 198; refine (takes_any p ao bs.length cap most _ _ h0 h1 hm hm' (by omega)).mono ?_; rintro e w' ⟨rfl, q, rfl⟩))
  go_loopw [16] (fun i wr => ∃ k : Nat, k ≤ width ∧ i = .int .i64 k ∧ Hid (InkDone w wr 345 p go most (bs ++ leB x k))) (fun i _ => width - (intOf i).toNat)
  case atStart => exact ⟨0, Nat.zero_le _, rfl, by have := InkDone.same HI.out q; show InkDone _ _ _ _ _ _ _; simpa [leB] using this⟩
  case round =>
    clear h0 h1 hf hd HF HI
    obtain ⟨k, hk, rfl, HD⟩ := hrel
    by_cases hlt : k < width
    · obtain ⟨go1, i1, k1, g1⟩ := HD.out
      have HK : Hid (Keeps w wr (fun k => k = p ∨ go = some k) ∧ (go1 = go ∨ ∀ g, go1 = some g → w.heap.size ≤ g)) := ⟨k1, g1⟩
      obtain ⟨L, hL⟩ : ∃ L, L = bs ++ leB x k := ⟨_, rfl⟩
      rw [← hL] at i1
      have hNb : (L.length : Int) + (width - k) ≤ most := by rw [hL]; simp [leB_length]; omega
      have HL : Hid (L = bs ++ leB x k) := hL
      obtain ⟨ao, cap, HF, h0, h1, hf⟩ := i1.open
      obtain ⟨y, hy⟩ : ∃ y, y = x / 256 ^ k := ⟨_, rfl⟩
      have hsh : Op.shift BinOp.shr IntKind.u64 x IntKind.i64 (IntKind.i64.wrap (8 * (k : Int))) = pure (.int .u64 y) := by rw [hy]; exact shr8 x k (by omega)
      have HY : Hid (y = x / 256 ^ k) := hy
      have h0a : ∀ o, (wr.alloc o).cell? ⟨p, 0, none⟩ = some (.slice ao L.length cap) := fun o => (((Keeps.refl wr (fun _ => False)).alloc o).cell i1.lt.1 id).trans h0
      clear hy i1 k1 g1 HD hL
      go_wp2
      go_region_law (refine step_append_any _ rfl (.tmp 23) (.tmp 29) 28 28 rfl 5 (.int .u8 0) 1 Tryz.underlying28 info5 rfl _ _ _ rfl (own_alloc_drew HF.out.2.1 _) _ _ _ rfl (src_one_drew wr _ rfl) (by omega) (by omega) ?_; intro v' w1 hown' hgrow hblk; obtain ⟨ao', cap', rfl⟩ := own_form hown'; obtain ⟨c1, f1, D⟩ := InkForm.grown HF.out (by decide) (Keeps.none_alloc_drew wr _) [IntKind.u8.wrap y] hown' (by simp) (by simp) hgrow hblk; have DD : Hid (InkDone wr _ 345 p go1 most (L ++ [IntKind.u8.wrap y])) := D; clear D hown' hgrow hblk)
      all_goals
        go_wp2
        go_roundw
        case rel =>
          refine ⟨k + 1, by omega, by go_num, ?_⟩
          show InkDone _ _ _ _ _ _ _
          have e : bs ++ leB x (k + 1) = L ++ [IntKind.u8.wrap y] := by rw [leB_succ, HL.out, HY.out, u8_wrap]; simp
          rw [e]
          exact InkDone.trans HK.out.1 HK.out.2 DD.out
        case measure => simp [intOf]; omega
    · obtain rfl : k = width := by omega
      go_wp2
      go_ret
      exact ⟨rfl, HD.out⟩

theorem number_arg (p : Nat) (x width : Int) (w : World) (hwide : wideB width = false) :
    Calls Tryz.prog 194 #[.pointer (some ⟨p, 0, none⟩), .int .u64 x, .int .i64 width] w fun e w' => e = .returned (.int .i64 1) ∧ w = w' := by
  go_enter Tryz.func194, Tryz.ntmps194
  go_wp2_with (first | (go_at_call 197; refine (isWidth_any _ _).mono ?_; rintro e w' ⟨rfl, rfl⟩))
  go_ret
  exact ⟨rfl, rfl⟩

theorem number_no (p : Nat) (go : Option Nat) (most : Int) (bs : List Int) (x width : Int) (w : World) (hI : InkAt w 345 p go most bs) (hm : 0 ≤ most) (hm' : most ≤ 16777216) (hbs : bs.length ≤ 16777216) (hfit : most < (bs.length : Int) + width) (hwide : wideB width = true) :
    Calls Tryz.prog 194 #[.pointer (some ⟨p, 0, none⟩), .int .u64 x, .int .i64 width] w fun e w' => e = .returned (.int .i64 4) ∧ InkDone w w' 345 p go most bs := by
  obtain ⟨ao, cap, HF, h0, h1, hf⟩ := hI.open
  have HI : Hid (InkAt w 345 p go most bs) := hI
  have hd : decide (width ≤ most - (bs.length : Int)) = false := by simp; omega
  clear hI
  go_enter Tryz.func194, Tryz.ntmps194
  go_wp2_with (first | (go_at_call 197; refine (isWidth_any _ _).mono ?_; rintro e w' ⟨rfl, rfl⟩) | (go_at_call 198; refine (takes_any p ao bs.length cap most _ _ h0 h1 hm hm' hbs).mono ?_; rintro e w' ⟨rfl, q, rfl⟩))
  go_ret
  exact ⟨rfl, InkDone.same HI.out q⟩

theorem Keeps.none_alloc (w : World) (o : Obj) : Keeps w (w.alloc o) (fun _ => False) := (Keeps.refl w _).alloc o

/-- a row of cells that is the call's own -/
def OwnRow (w : World) (g : Nat) (t : TypeId) (L : List Value) : Prop := w.heap[g]? = some (.cells L.toArray t (0, 0))
theorem OwnRow.cell {w : World} {g t j : Nat} {L : List Value} {v : Value} (h : OwnRow w g t L) (hj : L[j]? = some v) : w.cell? ⟨g, j, none⟩ = some v := by
  rw [cell_of_row w g j _ t (0, 0) h]; simpa using hj
theorem OwnRow.frozen {w : World} {g t : Nat} {L : List Value} (h : OwnRow w g t L) (j : Nat) : w.frozen? ⟨g, j, none⟩ = false := frozen_of_row w g j _ t h
theorem OwnRow.set {w : World} {g t : Nat} {L : List Value} (h : OwnRow w g t L) (j : Nat) (v : Value) : OwnRow (w.setCell ⟨g, j, none⟩ v) g t (L.set j v) := by
  have := heap_setCell_same w g j _ t v h
  unfold OwnRow; rw [this]; simp
theorem OwnRow.lt {w : World} {g t : Nat} {L : List Value} (h : OwnRow w g t L) : g < w.heap.size := by
  unfold OwnRow at h; exact (Array.getElem?_eq_some_iff.1 h).1
theorem OwnRow.kept {w w' : World} {g t : Nat} {S : Nat → Prop} {L : List Value} (h : OwnRow w g t L) (hk : Keeps w w' S) (hS : ¬ S g) : OwnRow w' g t L := by
  unfold OwnRow; rw [hk.block g h.lt hS]; exact h

theorem splice_all {α : Type} (L cs : List α) (h : cs.length = L.length) : splice L 0 cs = cs := by
  simp [splice, ← h]

theorem ret_ptr {a b : Option Addr} (h : a = b) : Ending.returned (.pointer a) = .returned (.pointer b) := by rw [h]

def clamp (most : Int) : Int := if most < 0 then 0 else if 16777216 < most then 16777216 else most
theorem clamp_bd (most : Int) : 0 ≤ clamp most ∧ clamp most ≤ 16777216 := by unfold clamp; split <;> (try split) <;> omega

theorem newInk_any (most : Int) (w : World) :
    Calls Tryz.prog 193 #[.int .i64 most] w fun e w' => e = .returned (.pointer (some ⟨w.heap.size, 0, none⟩)) ∧ w' = w.alloc (.cells #[.slice none 0 0, .int .i64 (clamp most)] 345) := by
  by_cases h1 : most < 0
  · have e : Hid (clamp most = 0) := by show _ = _; simp [clamp, h1]
    go_enter Tryz.func193, Tryz.ntmps193
    go_wp2
    all_goals (go_ret; first | omega | exact ⟨rfl, by rw [e.out]⟩)
  · by_cases h2 : 16777216 < most
    · have e : Hid (clamp most = 16777216) := by show _ = _; simp [clamp, h1, h2]
      go_enter Tryz.func193, Tryz.ntmps193
      go_wp2
      all_goals (go_ret; first | omega | exact ⟨rfl, by rw [e.out]⟩)
    · have e : Hid (clamp most = most) := by show _ = _; simp [clamp, h1, h2]
      go_enter Tryz.func193, Tryz.ntmps193
      go_wp2
      all_goals (go_ret; first | omega | exact ⟨rfl, by rw [e.out]⟩)

/-- a new ink -/
theorem InkAt.new (w : World) (ty : Nat) (most : Int) : InkAt (w.alloc (.cells #[.slice none 0 0, .int .i64 most] ty)) ty w.heap.size none most [] :=
  ⟨.slice none 0 0, heap_alloc_new w _, World.ownsRow_nil _ _ _ _, rfl⟩

theorem bytes_any (p : Nat) (go : Option Nat) (most : Int) (bs : List Int) (w : World) (hI : InkAt w 345 p go most bs) (hbs : bs.length ≤ 16777216) :
    Calls Tryz.prog 195 #[.pointer (some ⟨p, 0, none⟩)] w fun e w' => e = .returned (.slice (some ⟨w.heap.size, 0, none⟩) bs.length bs.length) ∧ OwnRow w' w.heap.size 5 (bs.map (Value.int .u8)) ∧ Below w.heap.size w w' := by
  obtain ⟨ao, cap, HF, h0, h1, hf⟩ := hI.open
  have HL : Hid (p < w.heap.size) := hI.lt.1
  have h0a : ∀ o, (w.alloc o).cell? ⟨p, 0, none⟩ = some (.slice ao bs.length cap) := fun o => (((Keeps.refl w (fun _ => False)).alloc o).cell hI.lt.1 id).trans h0
  clear hI
  have hmk := run_make_row' (P := Tryz.prog) 28 5 (.int .u8 0) 1 Tryz.underlying28 info5 rfl .i64 .i64 bs.length (by omega) (by omega)
  obtain ⟨cs, hcs⟩ : ∃ cs : List Value, cs = bs.map (Value.int .u8) := ⟨_, rfl⟩
  have HC : Hid (cs = bs.map (Value.int .u8)) := hcs
  clear hcs
  obtain ⟨cur, hcur⟩ : ∃ cur : List Value, cur = (madeCells #[.int .u8 0] bs.length).toList := ⟨_, rfl⟩
  have HCur : Hid (cur = (madeCells #[.int .u8 0] bs.length).toList) := hcur
  clear hcur
  go_enter Tryz.func195, Tryz.ntmps195
  go_wp2_with (with_reducible show wpList Tryz.prog _ _ (Oper.mk (some 15) _ _ _ _ _ :: _) _ _; refine wpList_copy_splice rfl (.tmp 10) (.tmp 14) 28 28 rfl 5 Tryz.underlying28 size5 _ _ _ _ _ _ rfl rfl w.heap.size 0 cur 5 ?hg cs ?hn ?hpos ?hfit ?h1 w.heap.size w ?hb (Nat.le_refl _) ?_)
  case hg => rw [HCur.out]; simpa using heap_alloc_new w _
  case hn => rw [HC.out]; simp
  case hpos =>
    intro hp
    have hown := HF.out.2.1
    rw [HC.out]
    rcases hown.2 with ⟨h, h'⟩ | ⟨g, cap', cur', h, _⟩
    · rw [HC.out] at hp; simp [h'] at hp
    · simp only [Value.slice.injEq] at h
      refine ⟨⟨g, 0, none⟩, h.1, fun j v hj => ?_⟩
      have hc := hown.cells (g := g) (by simp [Value.ownBlock, h.1]) j v hj
      exact ((Keeps.refl w (fun _ => False)).alloc _).cell' hc id
  case hfit => rw [HC.out, HCur.out]; simp [size_madeCells]
  case h1 =>
    intro v hv
    rw [HC.out] at hv
    obtain ⟨z, _, rfl⟩ := List.mem_map.1 hv
    rfl
  case hb => exact (Below.refl _ _).alloc (Nat.le_refl _) _
  intro w1 HG1 hB1
  have HO : Hid (OwnRow w1 w.heap.size 5 (bs.map (Value.int .u8))) := by
    have := HG1.out
    rw [splice_all _ _ (by rw [HC.out, HCur.out]; simp [size_madeCells]), HC.out] at this
    exact this
  clear HG1
  go_wp2
  go_ret
  exact ⟨rfl, HO.out, hB1⟩

/-! ### what each call answers, as a function -/
def numR (most : Int) (bs : List Int) (x width : Int) : Int × List Int := if wideB width = false then (1, bs) else if most < (bs.length : Int) + width then (4, bs) else (0, bs ++ leB x width.toNat)
def textR (most : Int) (bs : List Int) (s : ByteArray) : Int × List Int := if most < (bs.length : Int) + s.size then (4, bs) else (0, bs ++ bytesOf s)
def fillR (most : Int) (bs : List Int) (n b : Int) : Int × List Int := if n < 0 then (1, bs) else if most < (bs.length : Int) + n then (4, bs) else (0, bs ++ List.replicate n.toNat b)
def padR (most : Int) (bs : List Int) (to : Int) : Int × List Int := if to < 1 ∨ 64 < to then (1, bs) else fillR most bs (-((bs.length : Int) % to) % to) 0

theorem InkDone.refl {w : World} {ty p : Nat} {go : Option Nat} {most : Int} {bs : List Int} (h : InkAt w ty p go most bs) : InkDone w w ty p go most bs := ⟨go, h, Keeps.refl _ _, .inl rfl⟩

/-- the bound holds -/
def InkOk (most : Int) (bs : List Int) : Prop := 0 ≤ most ∧ most ≤ 16777216 ∧ (bs.length : Int) ≤ most

theorem number_all (p : Nat) (go : Option Nat) (most : Int) (bs : List Int) (x width : Int) (w : World) (hI : InkAt w 345 p go most bs) (hok : InkOk most bs) :
    Calls Tryz.prog 194 #[.pointer (some ⟨p, 0, none⟩), .int .u64 x, .int .i64 width] w fun e w' => e = .returned (.int .i64 (numR most bs x width).1) ∧ InkDone w w' 345 p go most (numR most bs x width).2 := by
  obtain ⟨h1, h2, h3⟩ := hok
  unfold numR
  split
  · rename_i h
    refine (number_arg p x width w h).mono ?_
    rintro e w' ⟨rfl, rfl⟩
    exact ⟨rfl, InkDone.refl hI⟩
  · rename_i h
    have h : wideB width = true := by simpa using h
    have hw := (wideB_iff width).1 h
    split
    · exact number_no p go most bs x width w hI h1 h2 (by omega) (by omega) h
    · obtain ⟨k, rfl⟩ : ∃ k : Nat, width = k := ⟨width.toNat, by omega⟩
      exact number_yes p go most bs x k w hI h1 h2 (by omega) (by omega) h

end Go.Proofs.YtegjpmodleigeaaGreatDoor.Ink
namespace Go.Proofs.YtegjpmodleigeaaGreatDoor.Bits
open Go.Proofs.YtegjpmodleigeaaGreatDoor.Kit
open Go.RowKit
/-! ### bits of bytes -/
def bitAt (l : List Nat) (i : Nat) : Bool := (l.getD (i / 8) 0).testBit (i % 8)
def Bytes (l : List Nat) : Prop := ∀ x ∈ l, x < 256
theorem Bytes.get {l : List Nat} (h : Bytes l) (k : Nat) : l.getD k 0 < 256 := by
  rw [List.getD_eq_getElem?_getD]
  cases e : l[k]? with
  | none => simp
  | some x => simpa using h x (List.mem_of_getElem? e)

theorem bits_and8 (a b : Nat) (ha : a < 256) (hb : b < 256) : bits .and .u8 (a : Int) (b : Int) = ((a &&& b : Nat) : Int) := (bits_nat .u8 8 (by decide) wraps_u8 a b (by simpa using ha) (by simpa using hb)).1
theorem bits_or8 (a b : Nat) (ha : a < 256) (hb : b < 256) : bits .or .u8 (a : Int) (b : Int) = ((a ||| b : Nat) : Int) := (bits_nat .u8 8 (by decide) wraps_u8 a b (by simpa using ha) (by simpa using hb)).2
theorem bits_xor8 (a b : Nat) (ha : a < 256) (hb : b < 256) : bits .xor .u8 (a : Int) (b : Int) = ((a ^^^ b : Nat) : Int) := by
  have ha' : a % 2 ^ IntKind.u8.bits = a := Nat.mod_eq_of_lt ha
  have hb' : b % 2 ^ IntKind.u8.bits = b := Nat.mod_eq_of_lt hb
  simp only [bits, BitVec.ofInt_natCast, BitVec.toNat_xor, BitVec.toNat_ofNat, ha', hb']
  have := Nat.xor_lt_two_pow (n := 8) ha hb
  exact wraps_u8 _ (Int.natCast_nonneg _) (by exact_mod_cast this)

/-- 'b >> k & 1 == 1' -/
theorem on_bit (x k : Nat) (hx : x < 256) : (bits .and .u8 ((x : Int) / 2 ^ k) 1 == 1) = x.testBit k := by
  have e : ((x : Int) / 2 ^ k) = ((x / 2 ^ k : Nat) : Int) := by simp
  have h2 : x / 2 ^ k < 256 := Nat.lt_of_le_of_lt (Nat.div_le_self _ _) hx
  rw [e, show (1 : Int) = ((1 : Nat) : Int) from rfl, bits_and8 _ 1 h2 (by decide), Nat.and_one_is_mod, Nat.testBit_eq_decide_div_mod_eq]
  have : ((x / 2 ^ k % 2 : Nat) : Int) = ((1 : Nat) : Int) ↔ x / 2 ^ k % 2 = 1 := by omega
  by_cases h : x / 2 ^ k % 2 = 1
  · simp [h]
  · have h0 : x / 2 ^ k % 2 = 0 := by omega
    simp [h0]

/-- the table of the halves -/
def cnt (k : Nat) : Nat := [0, 1, 1, 2, 1, 2, 2, 3, 1, 2, 2, 3, 2, 3, 3, 4].getD k 0
def onesOf (c : Nat) : Nat := cnt (c % 16) + cnt (c / 16)
def hold (c : Nat) (on : Bool) : Bool := if on then decide (0 < onesOf c) else decide (onesOf c < 8)
theorem hold_none : ∀ c, c < 256 → ∀ on : Bool, hold c on = false → ∀ k, k < 8 → c.testBit k = !on := by decide +kernel
theorem cnt_le (k : Nat) : cnt k ≤ 4 := by
  by_cases h : k < 16
  · revert k; decide
  · simp [cnt, List.getElem?_eq_none (show [0, 1, 1, 2, 1, 2, 2, 3, 1, 2, 2, 3, 2, 3, 3, 4].length ≤ k from by simp; omega)]

/-! ### the first bit that is so -/
def fnd (f : Nat → Bool) (on : Bool) (e at_ : Nat) : Nat := if at_ < e then (if f at_ = on then at_ else fnd f on e (at_ + 1)) else e
termination_by e - at_
theorem fnd_here {f : Nat → Bool} {on : Bool} {e a : Nat} (h : a < e) (hf : f a = on) : fnd f on e a = a := by rw [fnd, if_pos h, if_pos hf]
theorem fnd_end {f : Nat → Bool} {on : Bool} {e a : Nat} (h : e ≤ a) : fnd f on e a = e := by rw [fnd, if_neg (by omega)]
theorem fnd_step {f : Nat → Bool} {on : Bool} {e a : Nat} (hf : f a ≠ on) : fnd f on e (a + 1) = fnd f on e a := by
  by_cases h : a < e
  · conv => rhs; rw [fnd, if_pos h, if_neg hf]
  · rw [fnd_end (by omega), fnd_end (by omega)]
theorem fnd_skip {f : Nat → Bool} {on : Bool} {e a : Nat} (hf : ∀ k, k < 8 → f (a + k) = !on) : fnd f on e (a + 8) = fnd f on e a := by
  have g : ∀ k, k < 8 → f (a + k) ≠ on := fun k hk => by rw [hf k hk]; cases on <;> decide
  rw [fnd_step (a := a + 7) (g 7 (by decide)), fnd_step (a := a + 6) (g 6 (by decide)), fnd_step (a := a + 5) (g 5 (by decide)), fnd_step (a := a + 4) (g 4 (by decide)), fnd_step (a := a + 3) (g 3 (by decide)), fnd_step (a := a + 2) (g 2 (by decide)), fnd_step (a := a + 1) (g 1 (by decide)), fnd_step (a := a) (g 0 (by decide))]
theorem fnd_le {f : Nat → Bool} {on : Bool} {e a : Nat} : fnd f on e a ≤ e := by
  induction h : e - a generalizing a with
  | zero => rw [fnd_end (by omega)]; exact Nat.le_refl _
  | succ n ih =>
    by_cases hf : f a = on
    · rw [fnd_here (by omega) hf]; omega
    · rw [← fnd_step hf]; exact ih (by omega)
theorem fnd_ge {f : Nat → Bool} {on : Bool} {e a : Nat} (h : a ≤ e) : a ≤ fnd f on e a := by
  induction h' : e - a generalizing a with
  | zero => rw [fnd_end (by omega)]; exact h
  | succ n ih =>
    by_cases hf : f a = on
    · rw [fnd_here (by omega) hf]; exact Nat.le_refl _
    · rw [← fnd_step hf]; have := @ih (a + 1) (by omega) (by omega); omega
theorem fnd_at {f : Nat → Bool} {on : Bool} {e a : Nat} (h : fnd f on e a < e) : f (fnd f on e a) = on := by
  induction h' : e - a generalizing a with
  | zero => rw [fnd_end (by omega)] at h; omega
  | succ n ih =>
    by_cases hf : f a = on
    · rw [fnd_here (by omega) hf]; exact hf
    · rw [← fnd_step hf] at h ⊢; exact ih h (by omega)
theorem fnd_ahead {f : Nat → Bool} {on : Bool} {e a j : Nat} (h1 : a ≤ j) (h2 : j < fnd f on e a) : f j = !on := by
  induction h' : e - a generalizing a with
  | zero => rw [fnd_end (by omega)] at h2; omega
  | succ n ih =>
    by_cases hf : f a = on
    · rw [fnd_here (by omega) hf] at h2; omega
    · by_cases hj : j = a
      · subst hj; cases on <;> simpa using hf
      · rw [← fnd_step hf] at h2; exact ih (by omega) h2 (by omega)

/-! ### bytes out of bits -/
def byteOf (g : Nat → Bool) : Nat := (g 0).toNat + 2 * (g 1).toNat + 4 * (g 2).toNat + 8 * (g 3).toNat + 16 * (g 4).toNat + 32 * (g 5).toNat + 64 * (g 6).toNat + 128 * (g 7).toNat
theorem byteOf_bits : ∀ b0 b1 b2 b3 b4 b5 b6 b7 : Bool, ∀ k, k < 8 → (b0.toNat + 2 * b1.toNat + 4 * b2.toNat + 8 * b3.toNat + 16 * b4.toNat + 32 * b5.toNat + 64 * b6.toNat + 128 * b7.toNat).testBit k = [b0, b1, b2, b3, b4, b5, b6, b7].getD k false := by decide +kernel
theorem byteOf_lt (g : Nat → Bool) : byteOf g < 256 := by
  unfold byteOf
  have h : ∀ b : Bool, b.toNat ≤ 1 := by decide
  have := h (g 0); have := h (g 1); have := h (g 2); have := h (g 3); have := h (g 4); have := h (g 5); have := h (g 6); have := h (g 7)
  omega
theorem testBit_byteOf (g : Nat → Bool) (k : Nat) (hk : k < 8) : (byteOf g).testBit k = g k := by
  unfold byteOf
  rw [byteOf_bits _ _ _ _ _ _ _ _ k hk]
  match k, hk with
  | 0, _ => rfl
  | 1, _ => rfl
  | 2, _ => rfl
  | 3, _ => rfl
  | 4, _ => rfl
  | 5, _ => rfl
  | 6, _ => rfl
  | 7, _ => rfl
theorem byte_ext {x y : Nat} (hx : x < 256) (hy : y < 256) (h : ∀ k, k < 8 → x.testBit k = y.testBit k) : x = y := by
  apply Nat.eq_of_testBit_eq
  intro k
  by_cases hk : k < 8
  · exact h k hk
  · have e : (256 : Nat) ≤ 2 ^ k := Nat.pow_le_pow_right (n := 2) (by decide) (show 8 ≤ k by omega)
    rw [Nat.testBit_lt_two_pow (Nat.lt_of_lt_of_le hx e), Nat.testBit_lt_two_pow (Nat.lt_of_lt_of_le hy e)]
theorem byteOf_ext {x : Nat} {g : Nat → Bool} (hx : x < 256) (h : ∀ k, k < 8 → x.testBit k = g k) : x = byteOf g :=
  byte_ext hx (byteOf_lt g) fun k hk => by rw [h k hk, testBit_byteOf g k hk]
theorem byteOf_congr {g g' : Nat → Bool} (h : ∀ k, k < 8 → g k = g' k) : byteOf g = byteOf g' := by
  unfold byteOf
  rw [h 0 (by decide), h 1 (by decide), h 2 (by decide), h 3 (by decide), h 4 (by decide), h 5 (by decide), h 6 (by decide), h 7 (by decide)]

/-- byte j of a map of the bits f, the first i of which are laid -/
def pb (f : Nat → Bool) (i j : Nat) : Nat := byteOf fun k => decide (8 * j + k < i) && f (8 * j + k)
theorem pb_lt (f : Nat → Bool) (i j : Nat) : pb f i j < 256 := byteOf_lt _
theorem pb_zero (f : Nat → Bool) (j : Nat) : pb f 0 j = 0 := by simp [pb, byteOf]
theorem pb_bit (f : Nat → Bool) (i j k : Nat) (hk : k < 8) : (pb f i j).testBit k = (decide (8 * j + k < i) && f (8 * j + k)) := testBit_byteOf _ k hk
theorem pb_skip {f : Nat → Bool} {i : Nat} (h : f i = false) (j : Nat) : pb f (i + 1) j = pb f i j := byteOf_congr fun k _ => by
  by_cases e : 8 * j + k = i
  · rw [e, h]; simp
  · congr 1; simp; omega
theorem pb_other {f : Nat → Bool} {i j : Nat} (h : j ≠ i / 8) : pb f (i + 1) j = pb f i j := byteOf_congr fun k hk => by
  congr 1; simp; omega
theorem pb_or {f : Nat → Bool} {i : Nat} (h : f i = true) : pb f i (i / 8) ||| 2 ^ (i % 8) = pb f (i + 1) (i / 8) := by
  have hp : 2 ^ (i % 8) < 2 ^ 8 := Nat.pow_lt_pow_right (by decide) (by omega)
  refine byteOf_ext (Nat.or_lt_two_pow (n := 8) (pb_lt f i _) hp) fun k hk => ?_
  rw [Nat.testBit_or, pb_bit _ _ _ _ hk, Nat.testBit_two_pow]
  by_cases e : i % 8 = k
  · have : 8 * (i / 8) + k = i := by omega
    rw [this, h]; simp [e]
  · have : 8 * (i / 8) + k ≠ i := by omega
    simp only [e, decide_false, Bool.or_false]
    congr 1; simp; omega
theorem add_or : ∀ x, x < 256 → ∀ k, k < 8 → x.testBit k = false → x + 2 ^ k = x ||| 2 ^ k := by decide +kernel
theorem pb_add {f : Nat → Bool} {i : Nat} (h : f i = true) : pb f i (i / 8) + 2 ^ (i % 8) = pb f (i + 1) (i / 8) := by
  rw [add_or _ (pb_lt f i _) _ (by omega), pb_or h]
  rw [pb_bit _ _ _ _ (by omega)]
  simp; omega
def need (n : Nat) : Nat := (n + 7) / 8
/-- Make -/
def mk (f : Nat → Bool) (n : Nat) : List Nat := (List.range (need n)).map (pb f n)
theorem mk_length (f : Nat → Bool) (n : Nat) : (mk f n).length = need n := by simp [mk]
theorem mk_congr {f g : Nat → Bool} {n : Nat} (h : ∀ i, i < n → f i = g i) : mk f n = mk g n := by
  unfold mk
  apply List.map_congr_left
  intro j _
  exact byteOf_congr fun k _ => by
    by_cases e : 8 * j + k < n
    · rw [h _ e]
    · simp [e]
theorem mk_bytes (f : Nat → Bool) (n : Nat) : Bytes (mk f n) := by
  intro x hx
  obtain ⟨j, _, rfl⟩ := List.mem_map.1 hx
  exact pb_lt _ _ _
theorem mk_bit (f : Nat → Bool) (n i : Nat) (hi : i < n) : bitAt (mk f n) i = f i := by
  have h8 : i / 8 < need n := by unfold need; omega
  have hb := pb_bit f n (i / 8) (i % 8) (by omega)
  rw [show 8 * (i / 8) + i % 8 = i by omega] at hb
  simp only [bitAt, mk, List.getD_eq_getElem?_getD, List.getElem?_map, List.getElem?_range h8, Option.map_some, Option.getD_some, hb]
  simp [hi]

/-! ### how many, and which -/
def cn (f : Nat → Bool) : Nat → Nat
  | 0 => 0
  | n + 1 => cn f n + (f n).toNat
theorem cn_le (f : Nat → Bool) (n : Nat) : cn f n ≤ n := by
  induction n with
  | zero => exact Nat.le_refl _
  | succ n ih => have : (f n).toNat ≤ 1 := by cases f n <;> decide
                 simp only [cn]; omega
theorem cn_mono (f : Nat → Bool) {a b : Nat} (h : a ≤ b) : cn f a ≤ cn f b := by
  induction b with
  | zero => rw [show a = 0 by omega]; exact Nat.le_refl _
  | succ n ih =>
    by_cases e : a = n + 1
    · rw [e]; exact Nat.le_refl _
    · have := ih (by omega); simp only [cn]; omega
theorem cn_lt (f : Nat → Bool) {a b : Nat} (h : a < b) (hf : f a = true) : cn f a < cn f b := by
  have := cn_mono f (show a + 1 ≤ b from h)
  simp only [cn, hf, Bool.toNat_true] at this
  omega
/-- the place of the k-th 1 (m: none) -/
def pl (f : Nat → Bool) (k m : Nat) : Nat := fnd (fun r => f r && (cn f r == k)) true m 0
theorem fnd_eq {g : Nat → Bool} {m a r : Nat} (ha : a ≤ r) (hr : r < m) (hg : g r = true) (h : ∀ j, a ≤ j → j < r → g j = false) : fnd g true m a = r := by
  have h1 := @fnd_le g true m a
  by_cases hlt : fnd g true m a < r
  · have := fnd_at (f := g) (on := true) (e := m) (a := a) (by omega)
    rw [h _ (fnd_ge (by omega)) hlt] at this
    exact absurd this (by decide)
  · by_cases hgt : r < fnd g true m a
    · have := fnd_ahead (f := g) (on := true) (e := m) ha hgt
      rw [hg] at this
      exact absurd this (by decide)
    · omega
theorem fnd_none {g : Nat → Bool} {m a : Nat} (ha : a ≤ m) (h : ∀ j, a ≤ j → j < m → g j = false) : fnd g true m a = m := by
  have h1 := @fnd_le g true m a
  by_cases hlt : fnd g true m a < m
  · have := fnd_at (f := g) (on := true) (e := m) (a := a) hlt
    rw [h _ (fnd_ge ha) hlt] at this
    exact absurd this (by decide)
  · omega
theorem pl_eq {f : Nat → Bool} {k m r : Nat} (hr : r < m) (hf : f r = true) (hc : cn f r = k) : pl f k m = r :=
  fnd_eq (Nat.zero_le _) hr (by simp [hf, hc]) fun j _ hj => by
    by_cases e : f j = true
    · have := cn_lt f hj e
      simp [e]; omega
    · simp at e; simp [e]
theorem pl_none {f : Nat → Bool} {k m : Nat} (h : cn f m ≤ k) : pl f k m = m :=
  fnd_none (Nat.zero_le _) fun j _ hj => by
    by_cases e : f j = true
    · have := cn_lt f hj e
      simp [e]; omega
    · simp at e; simp [e]
theorem fnd_shift (f : Nat → Bool) (on : Bool) (fr m a : Nat) : fnd f on (fr + m) (fr + a) = fr + fnd (fun k => f (fr + k)) on m a := by
  induction h : m - a generalizing a with
  | zero => rw [fnd_end (by omega), fnd_end (by omega)]
  | succ n ih =>
    by_cases hf : f (fr + a) = on
    · rw [fnd_here (by omega) hf, fnd_here (f := fun k => f (fr + k)) (by omega) hf]
    · rw [← fnd_step hf, ← fnd_step (f := fun k => f (fr + k)) hf, Nat.add_assoc, ih (a + 1) (by omega)]
end Go.Proofs.YtegjpmodleigeaaGreatDoor.Bits
