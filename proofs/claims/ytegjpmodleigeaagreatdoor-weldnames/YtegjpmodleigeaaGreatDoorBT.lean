import Derived.Test.YtegjpmodleigeaaGreatDoorProg
import Derived.Test.YtegjpmodleigeaaGreatDoorKit
import Derived.Test.YtegjpmodleigeaaGreatDoorBtData
import Derived.Test.YtegjpmodleigeaaGreatDoorIkInkA
set_option maxRecDepth 100000
set_option maxHeartbeats 4000000
namespace Go.Proofs.YtegjpmodleigeaaGreatDoor.Bits
open Go.Proofs.YtegjpmodleigeaaGreatDoor.Kit
open Go.RowKit Go.Deep
/-- the package's table in memory -/
def Tab (w : World) : Prop := ∀ k, k < 16 → w.cell? ⟨3, k, none⟩ = some (.int .u8 (cnt k : Nat))
theorem Tab.drewN {w : World} (h : Tab w) (q : Nat) : Tab (w.drewN q) := h
theorem Tab.kept {w w' : World} {S : Nat → Prop} (h : Tab w) (k : Keeps w w' S) (h0 : ¬ S 3) : Tab w' := fun j hj => k.cell' (h j hj) h0

theorem ones_any (c : Nat) (hc : c < 256) (w : World) (hT : Tab w) :
    Calls Tryz.prog 153 #[.int .u8 c] w fun e w' => e = .returned (.int .i64 (onesOf c : Nat)) ∧ ∃ q, w' = w.drewN q := by
  have h1 := hT (c % 16) (by omega)
  have h2 := hT (c / 16) (by omega)
  have e1 : bits .and .u8 (c : Int) 15 = ((c % 16 : Nat) : Int) := by
    have := bits_and8 c 15 hc (by decide)
    rw [show (15 : Nat) = 2 ^ 4 - 1 from rfl, Nat.and_two_pow_sub_one_eq_mod] at this
    exact this
  have l1 := cnt_le (c % 16)
  have l2 := cnt_le (c / 16)
  obtain ⟨x, hx⟩ : ∃ x, x = cnt (c % 16) := ⟨_, rfl⟩
  obtain ⟨y, hy⟩ : ∃ y, y = cnt (c / 16) := ⟨_, rfl⟩
  have e2 : onesOf c = x + y := by rw [hx, hy]; rfl
  rw [← hx] at h1 l1
  rw [← hy] at h2 l2
  rw [e2]
  have b1 : c % 16 < 16 := by omega
  have b2 : c / 16 < 16 := by omega
  clear hT hx hy e2
  go_enter Tryz.func153, Tryz.ntmps153
  go_wp2
  go_quiet (fail)
  go_wp2
  go_ret
  exact ⟨by simp, _, rfl⟩

theorem holds_any (c : Nat) (hc : c < 256) (on : Bool) (w : World) (hT : Tab w) :
    Calls Tryz.prog 149 #[.int .u8 c, .bool on] w fun e w' => e = .returned (.bool (hold c on)) ∧ ∃ q, w' = w.drewN q := by
  cases on
  · go_enter Tryz.func149, Tryz.ntmps149
    go_wp2_with (go_at_call 153; refine (ones_any c hc _ hT).mono ?_; rintro e w' ⟨rfl, q, rfl⟩)
    go_ret
    exact ⟨by simp [hold]; omega, _, rfl⟩
  · go_enter Tryz.func149, Tryz.ntmps149
    go_wp2_with (go_at_call 153; refine (ones_any c hc _ hT).mono ?_; rintro e w' ⟨rfl, q, rfl⟩)
    go_ret
    exact ⟨by simp [hold], _, rfl⟩

/-- a list of bytes somewhere in memory -/
def BytesAt (w : World) (ao : Option Addr) (l : List Nat) : Prop :=
  0 < l.length → ∃ b off, ao = some ⟨b, off, none⟩ ∧ ∀ k, k < l.length → w.cell? ⟨b, off + k, none⟩ = some (.int .u8 (l.getD k 0 : Nat))
theorem BytesAt.drewN {w : World} {ao : Option Addr} {l : List Nat} (h : BytesAt w ao l) (q : Nat) : BytesAt (w.drewN q) ao l := h
theorem BytesAt.kept {w w' : World} {ao : Option Addr} {l : List Nat} {S : Nat → Prop} (h : BytesAt w ao l) (k : Keeps w w' S) (hS : ∀ b, ao.map (·.block) = some b → ¬ S b) : BytesAt w' ao l := by
  intro hn
  obtain ⟨b, off, rfl, hc⟩ := h hn
  exact ⟨b, off, rfl, fun j hj => k.cell' (hc j hj) (hS b rfl)⟩
theorem BytesAt.kept0 {w w' : World} {ao : Option Addr} {l : List Nat} (h : BytesAt w ao l) (k : Keeps w w' (fun _ => False)) : BytesAt w' ao l := h.kept k fun _ _ => id

theorem isOn_any (ao : Option Addr) (ca : Nat) (l : List Nat) (hl : Bytes l) (hn : l.length ≤ 1152921504606846976) (i : Nat) (hi : i < 8 * l.length) (w : World) (hb : BytesAt w ao l) :
    Calls Tryz.prog 150 #[.slice ao l.length ca, .int .i64 i] w fun e w' => e = .returned (.bool (bitAt l i)) ∧ w = w' := by
  obtain ⟨b, off, rfl, hcs⟩ := hb (by omega)
  have hc := hcs (i / 8) (by omega)
  have hx := hl.get (i / 8)
  have e := on_bit (l.getD (i / 8) 0) (i % 8) hx
  have e' : bitAt l i = (l.getD (i / 8) 0).testBit (i % 8) := rfl
  obtain ⟨x, hx'⟩ : ∃ x, x = l.getD (i / 8) 0 := ⟨_, rfl⟩
  rw [← hx'] at hc hx e e'
  rw [e']
  have h8 : i / 8 < l.length := by omega
  clear hcs hx' e' hb hl
  go_enter Tryz.func150, Tryz.ntmps150
  go_wp2
  go_ret
  exact ⟨by simp, rfl⟩

theorem refused_neg (ao : Option Addr) (n ca : Nat) (fr m : Int) (w : World) (h : fr < 0 ∨ m < 0) :
    Calls Tryz.prog 136 #[.slice ao n ca, .int .i64 fr, .int .i64 m] w fun e w' => e = .returned (.int .i64 1) ∧ w = w' := by
  go_enter Tryz.func136, Tryz.ntmps136
  go_wp2
  all_goals first | (go_ret; exact ⟨rfl, rfl⟩) | (exfalso; simp at *; omega)
theorem refused_ok (ao : Option Addr) (n ca : Nat) (hn : n ≤ 1152921504606846975) (fr m : Nat) (h : fr + m ≤ 8 * n) (w : World) :
    Calls Tryz.prog 136 #[.slice ao n ca, .int .i64 fr, .int .i64 m] w fun e w' => e = .returned (.int .i64 0) ∧ w = w' := by
  go_enter Tryz.func136, Tryz.ntmps136
  go_wp2
  all_goals first | (go_ret; exact ⟨rfl, rfl⟩) | (exfalso; simp at *; omega)
theorem refused_range (ao : Option Addr) (n ca : Nat) (hn : n ≤ 1152921504606846975) (fr m : Nat) (hfr : fr ≤ 9223372036854775807) (hm : m ≤ 9223372036854775807) (h : 8 * n < fr + m) (w : World) :
    Calls Tryz.prog 136 #[.slice ao n ca, .int .i64 fr, .int .i64 m] w fun e w' => e = .returned (.int .i64 2) ∧ w = w' := by
  go_enter Tryz.func136, Tryz.ntmps136
  go_wp2
  all_goals first | (go_ret; exact ⟨rfl, rfl⟩) | (exfalso; simp at *; omega)
theorem need_neg (m : Int) (h : m ≤ 0) (w : World) : Calls Tryz.prog 107 #[.int .i64 m] w fun e w' => e = .returned (.int .i64 0) ∧ w = w' := by
  go_enter Tryz.func107, Tryz.ntmps107
  go_wp2
  all_goals first | (go_ret; exact ⟨rfl, rfl⟩) | (exfalso; simp at *; omega)
theorem need_pos (m : Nat) (h : m ≤ 9223372036854775807) (w : World) : Calls Tryz.prog 107 #[.int .i64 m] w fun e w' => e = .returned (.int .i64 (need m : Nat)) ∧ w = w' := by
  by_cases h0 : m = 0
  · subst h0; exact need_neg 0 (by omega) w
  · go_enter Tryz.func107, Tryz.ntmps107
    go_wp2
    all_goals first | (go_ret; exact ⟨by simp [need]; omega, rfl⟩) | (exfalso; simp at *; omega) | trace_state

theorem find_any (ao : Option Addr) (ca : Nat) (l : List Nat) (hl : Bytes l) (hn : l.length ≤ 1152921504606846) (at_ e : Nat) (on : Bool) (ha : at_ ≤ e) (he : e ≤ 8 * l.length) (w : World) (hT : Tab w) (hb : BytesAt w ao l) :
    Calls Tryz.prog 146 #[.slice ao l.length ca, .int .i64 at_, .int .i64 e, .bool on] w fun x w' => x = .returned (.int .i64 (fnd (bitAt l) on e at_ : Nat)) ∧ ∃ q, w' = w.drewN q := by
  go_enter Tryz.func146, Tryz.ntmps146
  go_wp2
  go_loopw [1] (fun i wr => ∃ k : Nat, k ≤ e + 7 ∧ i = .int .i64 k ∧ fnd (bitAt l) on e k = fnd (bitAt l) on e at_ ∧ ∃ q, wr = w.drewN q) (fun i _ => e + 7 - (intOf i).toNat)
  case atStart => exact ⟨at_, by omega, rfl, rfl, 0, rfl⟩
  case round =>
    obtain ⟨k, hk, rfl, hf, q, rfl⟩ := hrel
    by_cases hlt : k < e
    · obtain ⟨b, off, rfl, hcs⟩ := hb (by omega)
      have hc := hcs (k / 8) (by omega)
      have hx := hl.get (k / 8)
      have h8 : k / 8 < l.length := by omega
      have hsk : k % 8 = 0 → hold (l.getD (k / 8) 0) on = false → fnd (bitAt l) on e (k + 8) = fnd (bitAt l) on e k := fun h0 hh => fnd_skip fun j hj => by
        have := hold_none _ hx on hh j hj
        unfold bitAt
        rw [show (k + j) / 8 = k / 8 by omega, show (k + j) % 8 = j by omega]
        exact this
      have hb' : BytesAt w (some ⟨b, off, none⟩) l := hb
      obtain ⟨x, hx'⟩ : ∃ x, x = l.getD (k / 8) 0 := ⟨_, rfl⟩
      rw [← hx'] at hc hx hsk
      clear hcs hx' hb
      by_cases h0 : k % 8 = 0
      · cases hh : hold x on
        · have hs := (hsk h0 hh).trans hf
          clear hsk
          go_wp2_with (first | (go_at_call 149; refine (holds_any x hx on _ (hT.drewN q)).mono ?_; rintro e w' ⟨rfl, q1, rfl⟩) | (go_at_call 150; refine (isOn_any _ ca l hl (by omega) k (by omega) _ (hb'.drewN _)).mono ?_; rintro e w' ⟨rfl, rfl⟩))
          go_roundw
          case rel => exact ⟨k + 8, by omega, by go_num, hs, _, rfl⟩
          case measure => simp [intOf]; omega
        · clear hsk
          by_cases hbo : bitAt l k = on
          · have hr := fnd_here hlt hbo
            go_wp2_with (first | (go_at_call 149; refine (holds_any x hx on _ (hT.drewN q)).mono ?_; rintro e w' ⟨rfl, q1, rfl⟩) | (go_at_call 150; refine (isOn_any _ ca l hl (by omega) k (by omega) _ (hb'.drewN _)).mono ?_; rintro e w' ⟨rfl, rfl⟩))
            go_ret
            exact ⟨by rw [← hf, hr]; rfl, _, rfl⟩
          · have hr := (fnd_step (e := e) hbo).trans hf
            have hbo' : (bitAt l k == on) = false := by simpa using hbo
            go_wp2_with (first | (go_at_call 149; refine (holds_any x hx on _ (hT.drewN q)).mono ?_; rintro e w' ⟨rfl, q1, rfl⟩) | (go_at_call 150; refine (isOn_any _ ca l hl (by omega) k (by omega) _ (hb'.drewN _)).mono ?_; rintro e w' ⟨rfl, rfl⟩))
            go_roundw
            case rel => exact ⟨k + 1, by omega, by go_num, hr, _, rfl⟩
            case measure => simp [intOf]; omega
      · clear hsk
        by_cases hbo : bitAt l k = on
        · have hr := fnd_here hlt hbo
          go_wp2_with (first | (go_at_call 149; refine (holds_any x hx on _ (hT.drewN q)).mono ?_; rintro e w' ⟨rfl, q1, rfl⟩) | (go_at_call 150; refine (isOn_any _ ca l hl (by omega) k (by omega) _ (hb'.drewN _)).mono ?_; rintro e w' ⟨rfl, rfl⟩))
          go_ret
          exact ⟨by rw [← hf, hr]; rfl, _, rfl⟩
        · have hr := (fnd_step (e := e) hbo).trans hf
          have hbo' : (bitAt l k == on) = false := by simpa using hbo
          go_wp2_with (first | (go_at_call 149; refine (holds_any x hx on _ (hT.drewN q)).mono ?_; rintro e w' ⟨rfl, q1, rfl⟩) | (go_at_call 150; refine (isOn_any _ ca l hl (by omega) k (by omega) _ (hb'.drewN _)).mono ?_; rintro e w' ⟨rfl, rfl⟩))
          go_roundw
          case rel => exact ⟨k + 1, by omega, by go_num, hr, _, rfl⟩
          case measure => simp [intOf]; omega
    · clear hb hT
      have HF : Hid (e = fnd (bitAt l) on e at_) := by rw [fnd_end (a := k) (by omega)] at hf; exact hf
      clear hf
      go_wp2
      go_ret
      exact ⟨by rw [← HF.out]; rfl, _, rfl⟩

/-! ### Get, Next -/
/-- a row of one's own, in memory that was not there in w -/
def New (w w' : World) (t : Nat) (v : Value) (xs : List Value) : Prop :=
  w'.ownsRow 0 t 1 v xs.length xs ∧ (∀ g, v.ownBlock = some g → w.heap.size ≤ g) ∧ Keeps w w' (fun _ => False)
theorem New.ofRow {w w' : World} {G t n : Nat} {F : Nat → Value} {xs : List Value} (h : w'.rowIs G t n F) (hG : w.heap.size ≤ G) (k : Keeps w w' (fun _ => False)) (hn : n ≤ maxLen) (hx : xs.length = n) (hF : ∀ j, j < n → xs[j]? = some (F j)) :
    New w w' t (.slice (some ⟨G, 0, none⟩) n n) xs := by
  obtain ⟨c, hc, hs, hv⟩ := h
  refine ⟨⟨by simp, .inr ⟨G, n, c, by rw [hx], Nat.zero_le _, hc, by rw [hx]; exact Nat.le_refl _, hn, by rw [hs]; simp, ?_⟩⟩, fun g hg => by simp [Value.ownBlock] at hg; omega, k⟩
  apply List.ext_getElem?
  intro j
  by_cases hj : j < n
  · have := hF j hj
    simp only [Array.getElem?_toList, List.getElem?_take, hx, Nat.mul_one, hj, if_pos, hv j hj, this]
  · rw [List.getElem?_eq_none (by simp; omega), List.getElem?_eq_none (by omega)]

/-- a list of bools somewhere in memory -/
def BoolsAt (w : World) (ao : Option Addr) (n : Nat) (f : Nat → Bool) : Prop :=
  0 < n → ∃ b off, ao = some ⟨b, off, none⟩ ∧ ∀ k, k < n → w.cell? ⟨b, off + k, none⟩ = some (.bool (f k))
theorem BoolsAt.drewN {w : World} {ao : Option Addr} {n : Nat} {f : Nat → Bool} (h : BoolsAt w ao n f) (q : Nat) : BoolsAt (w.drewN q) ao n f := h
theorem BoolsAt.kept0 {w w' : World} {ao : Option Addr} {n : Nat} {f : Nat → Bool} (h : BoolsAt w ao n f) (k : Keeps w w' (fun _ => False)) : BoolsAt w' ao n f := by
  intro hn
  obtain ⟨b, off, rfl, hc⟩ := h hn
  exact ⟨b, off, rfl, fun j hj => k.cell' (hc j hj) id⟩

theorem info5 : (Tryz.prog.info? 5).map (fun i => (i.zero, i.size, i.bytes)) = some (some (.int .u8 0), 1, 1) := by kernel_rfl
theorem info4 : (Tryz.prog.info? 4).map (fun i => (i.zero, i.size, i.bytes)) = some (some (.bool false), 1, 1) := by kernel_rfl

theorem or8 (x k : Nat) (hx : x < 256) (hk : k < 8) : bits .or .u8 (x : Int) (2 ^ k % 256) = ((x ||| 2 ^ k : Nat) : Int) := by
  have hp : 2 ^ k < 2 ^ 8 := Nat.pow_lt_pow_right (by decide) hk
  have e : ((2 : Int) ^ k % 256) = ((2 ^ k : Nat) : Int) := by
    have : (2 ^ k : Nat) % 256 = 2 ^ k := Nat.mod_eq_of_lt hp
    rw [← this]; simp
  rw [e, bits_or8 x (2 ^ k) hx hp]

def Building (w wr : World) (G t n : Nat) (F : Nat → Value) : Prop := wr.rowIs G t n F ∧ w.heap.size ≤ G ∧ Keeps w wr (fun _ => False)
theorem Building.start (w : World) (z : Value) (t n : Nat) (F : Nat → Value) (hF : ∀ j, j < n → F j = z) : Building w (w.alloc (.cells (madeCells #[z] n) t)) w.heap.size t n F :=
  ⟨(World.rowIs_made w z n t).congr fun j hj => (hF j hj).symm, Nat.le_refl _, (Keeps.refl _ _).alloc _⟩
theorem Building.set {w wr : World} {G t n : Nat} {F F' : Nat → Value} (h : Building w wr G t n F) (i : Nat) (v : Value) (e : ∀ j, j < n → F' j = if j = i then v else F j) : Building w (wr.setCell ⟨G, i, none⟩ v) G t n F' :=
  ⟨(h.1.set i v).congr fun j hj => (e j hj).symm, h.2.1, h.2.2.setCell (p := ⟨G, i, none⟩) (fun hh => by have := h.2.1; simp at hh; omega) _⟩
theorem Building.congr {w wr : World} {G t n : Nat} {F F' : Nat → Value} (h : Building w wr G t n F) (e : ∀ j, j < n → F' j = F j) : Building w wr G t n F' := ⟨h.1.congr fun j hj => (e j hj).symm, h.2⟩
theorem Building.drew {w wr : World} {G t n : Nat} {F : Nat → Value} (h : Building w wr G t n F) : Building w wr.drew G t n F := ⟨h.1, h.2.1, h.2.2.drew⟩
theorem Building.drewN {w wr : World} {G t n : Nat} {F : Nat → Value} (h : Building w wr G t n F) (q : Nat) : Building w (wr.drewN q) G t n F := ⟨h.1, h.2.1, h.2.2.drewN q⟩

theorem make_any (ao : Option Addr) (n ca : Nat) (f : Nat → Bool) (hn : n ≤ 100000000) (w : World) (hb : BoolsAt w ao n f) :
    Calls Tryz.prog 184 #[.slice ao n ca] w fun e w' => ∃ v, e = .returned v ∧ New w w' 5 v ((mk f n).map fun x : Nat => .int .u8 x) := by
  have hnd : need n ≤ 100000000 := by unfold need; omega
  have hmk := run_make_row' (P := Tryz.prog) 28 5 (.int .u8 0) 1 Tryz.underlying28 info5 rfl .i64 .i64 (need n) (by omega) (by omega)
  go_enter Tryz.func184, Tryz.ntmps184
  go_wp2_with (go_at_call 107; refine (need_pos n (by omega) _).mono ?_; rintro e w' ⟨rfl, rfl⟩)
  have HB : Hid (Building w (w.alloc (.cells (madeCells #[.int .u8 0] (need n)) 5)) w.heap.size 5 (need n) fun j => .int .u8 (pb f 0 j : Nat)) := Building.start w _ 5 _ _ fun j _ => by simp [pb_zero]
  obtain ⟨G, hG⟩ : ∃ G, G = w.heap.size := ⟨_, rfl⟩
  rw [← hG] at HB ⊢
  clear hmk hG
  go_loopw [12] (fun i wr => ∃ k : Nat, k ≤ n ∧ i = .int .i64 k ∧ Hid (Building w wr G 5 (need n) fun j => .int .u8 (pb f k j : Nat))) (fun i _ => n - (intOf i).toNat)
  case atStart => exact ⟨0, by omega, rfl, HB⟩
  case round =>
    clear HB
    obtain ⟨k, hk, rfl, HB⟩ := hrel
    by_cases hlt : k < n
    · obtain ⟨b, off, rfl, hcs⟩ := hb (by omega)
      have hc : wr.cell? ⟨b, off + k, none⟩ = some (.bool (f k)) := HB.out.2.2.cell' (hcs k hlt) id
      have h8 : k / 8 < need n := by unfold need; omega
      have hx := HB.out.1.cell h8
      have hfz := HB.out.1.frozen (k / 8)
      cases hf : f k
      · rw [hf] at hc
        have HB' : Hid (Building w wr G 5 (need n) fun j => .int .u8 (pb f (k + 1) j : Nat)) := HB.out.congr fun j _ => by rw [pb_skip hf]
        clear HB hx hfz hcs hb
        go_wp2
        go_roundw
        case rel => exact ⟨k + 1, by omega, by go_num, HB'⟩
        case measure => simp [intOf]; omega
      · rw [hf] at hc
        have hxl := pb_lt f k (k / 8)
        have HX := pb_or hf
        obtain ⟨x, hx'⟩ : ∃ x, x = pb f k (k / 8) := ⟨_, rfl⟩
        rw [← hx'] at hx hxl HX
        have e := or8 x (k % 8) hxl (by omega)
        rw [HX] at e
        have HB' : Hid (Building w (wr.setCell ⟨G, k / 8, none⟩ (.int .u8 (bits .or .u8 (x : Int) (2 ^ (k % 8) % 256)))).drew G 5 (need n) fun j => .int .u8 (pb f (k + 1) j : Nat)) := by
          refine (HB.out.set (k / 8) _ fun j _ => ?_).drew
          by_cases hj : j = k / 8
          · rw [if_pos hj, e, hj]
          · rw [if_neg hj, pb_other hj]
        clear hcs hb hx' HB HX e
        go_wp2
        go_region
        go_wp2
        go_roundw
        case rel => exact ⟨k + 1, by omega, by go_num, HB'⟩
        case measure => simp [intOf]; omega
    · obtain rfl : k = n := by omega
      have HN : Hid (New w wr 5 (.slice (some ⟨G, 0, none⟩) (need k) (need k)) ((mk f k).map fun x : Nat => .int .u8 x)) :=
        New.ofRow HB.out.1 HB.out.2.1 HB.out.2.2 (by simp [maxLen]; omega) (by simp [mk]) (fun j hj => by simp [mk, hj])
      clear HB hb
      go_wp2
      go_ret
      exact ⟨_, rfl, HN.out⟩

def bools (f : Nat → Bool) (fr n : Nat) : List Value := (List.range n).map fun k => .bool (f (fr + k))
end Go.Proofs.YtegjpmodleigeaaGreatDoor.Bits
namespace Go.Proofs.YtegjpmodleigeaaGreatDoor.Kit
open Go.RowKit Go.Shelf Go.Deep
open Go.Proofs.YtegjpmodleigeaaGreatDoor.Kd (Ans AnsV cell5 cell2)
open Go.Proofs.YtegjpmodleigeaaGreatDoor.Ink (InkAt InkDone newInk_any number_yes bytes_any leB leB_length OwnRow)
set_option linter.unusedVariables false
set_option linter.unusedSimpArgs false
attribute [local go_sem] run_store_func
/-! ### numbers as bytes -/
def leAll (xs : List Int) : List Int := xs.flatMap fun x => leB (IntKind.u64.wrap x) 1
theorem leAll_len (xs : List Int) : (leAll xs).length = xs.length := by
  induction xs with
  | nil => rfl
  | cons x xs ih => show (leB _ 1 ++ leAll xs).length = _; rw [List.length_append, leB_length, ih, List.length_cons]; omega
theorem leAll_snoc (xs : List Int) (x : Int) : leAll (xs ++ [x]) = leAll xs ++ leB (IntKind.u64.wrap x) 1 := by simp [leAll]
def iv (x : Int) : Value := .int .i64 x
theorem row_cell {W : World} {e n : Nat} {lo : Option Addr} {lc : Nat} {ys : List Value} (h : W.ownsRow 0 e 1 (.slice lo n lc) n ys) {k : Nat} (hk : k < n) : ∃ g, lo = some ⟨g, 0, none⟩ ∧ W.cell? ⟨g, k, none⟩ = ys[k]? := by
  rcases h.2 with ⟨h1, h2⟩ | ⟨g, cap, cur, h1, _, hg, hn, _, hs, ht⟩
  · omega
  · cases h1
    refine ⟨g, rfl, ?_⟩
    rw [← ht]
    simp [World.cell?, hg, hk]
theorem row_len {W : World} {e n : Nat} {v : Value} {ys : List Value} (h : W.ownsRow 0 e 1 v n ys) : ys.length = n := by
  rcases h.2 with ⟨h1, h2⟩ | ⟨g, cap, cur, h1, _, hg, hn, _, hs, ht⟩
  · have := h.1; omega
  · have := congrArg List.length ht; simp at this; omega
/-- the ink behind k numbers -/
def NkI (W wr : World) (xs : List Int) (k : Nat) : Prop := ∃ go, InkAt wr 345 W.heap.size go 65536 (leAll (xs.take k)) ∧ Gr W wr ∧ ∀ g, go = some g → W.heap.size ≤ g
theorem numbered263 (lo : Option Addr) (lc : Nat) (xs : List Int) (W : World) (ho : W.ownsRow 0 2 1 (.slice lo xs.length lc) xs.length (xs.map iv)) (hL : xs.length ≤ 4096) :
    Calls Tryz.prog 275 #[.slice lo xs.length lc, .int .i64 1] W fun e w' => ∃ g, e = .returned (.slice (some ⟨g, 0, none⟩) (xs.length) (xs.length)) ∧ Gr W w' ∧ W.heap.size ≤ g ∧ OwnRow w' g 5 ((leAll xs).map (Value.int .u8)) := by
  obtain ⟨n, hn⟩ : ∃ n, n = xs.length := ⟨_, rfl⟩
  rw [← hn] at ho hL ⊢
  have HO := hidM ho
  have Hn := hidM hn
  have hcl : Ink.clamp 65536 = 65536 := by decide
  have HI : Hid (NkI W (W.alloc (.cells #[.slice none 0 0, .int .i64 65536] 345)) xs 0) := ⟨none, Ink.InkAt.new W 345 65536, gr_alloc W _, fun g e => by cases e⟩
  clear ho hn
  go_enter Tryz.func275, Tryz.ntmps275
  go_wp2_with (go_at_call 193; refine (newInk_any 65536 _).mono ?_; rintro e w1 ⟨rfl, rfl⟩; rw [hcl])
  go_loopw [11] (fun i wr => ∃ k : Nat, k ≤ n ∧ i = .int .i64 k ∧ Hid (NkI W wr xs k)) (fun i _ => n - (intOf i).toNat)
  case atStart => exact ⟨0, by omega, rfl, HI⟩
  case round =>
    clear HI
    obtain ⟨k, hk, rfl, HI⟩ := hrel
    by_cases hlt : k < n
    · obtain ⟨g, rfl, hc⟩ := row_cell HO.out hlt
      have hxk : k < xs.length := by have := Hn.out; omega
      obtain ⟨y, hy⟩ : ∃ y, xs[k]? = some y := ⟨_, List.getElem?_eq_getElem hxk⟩
      have hc' : wr.cell? ⟨g, k, none⟩ = some (.int .i64 y) := by
        obtain ⟨go, _, hgr, _⟩ := HI.out
        rw [List.getElem?_map, hy] at hc
        exact hgr.cell' hc id
      have HN : Hid (Calls Tryz.prog 194 #[.pointer (some ⟨W.heap.size, 0, none⟩), .int .u64 (IntKind.u64.wrap y), .int .i64 1] wr fun e w' => e = .returned (.int .i64 0) ∧ NkI W w' xs (k + 1)) := by
        obtain ⟨go, hI, hgr, hgo⟩ := HI.out
        have hlen := leAll_len (xs.take k)
        rw [List.length_take] at hlen
        refine (number_yes W.heap.size go 65536 (leAll (xs.take k)) (IntKind.u64.wrap y) 1 wr hI (by decide) (by decide) (by have := Hn.out; omega) (by decide) (by decide)).mono ?_
        rintro e w' ⟨rfl, go', hI', hk', hb⟩
        refine ⟨rfl, go', ?_, hgr.trans hk' (fun j hj e => ?_), fun q e => ?_⟩
        · rw [List.take_add_one, hy]
          show InkAt w' 345 W.heap.size go' 65536 (leAll (xs.take k ++ [y]))
          rw [leAll_snoc]
          exact hI'
        · rcases e with e | e
          · have e' : j = W.heap.size := e; omega
          · have := hgo j e; omega
        · rcases hb with e2 | e2
          · exact hgo q (e2 ▸ e)
          · exact Nat.le_trans hgr.size (e2 q e)
      clear hc hy hxk HI
      go_wp2_with (go_at_call 194; refine HN.out.mono ?_; rintro e w2 ⟨rfl, hq⟩; have HQ := hidM hq; clear hq)
      go_roundw
      case rel => exact ⟨k + 1, by omega, by go_num, HQ⟩
      case measure => simp [intOf]; omega
    · obtain rfl : k = n := by omega
      have HB : Hid (Calls Tryz.prog 195 #[.pointer (some ⟨W.heap.size, 0, none⟩)] wr fun e w' => ∃ g, e = .returned (.slice (some ⟨g, 0, none⟩) (k) (k)) ∧ Gr W w' ∧ W.heap.size ≤ g ∧ OwnRow w' g 5 ((leAll xs).map (Value.int .u8))) := by
        obtain ⟨go, hI, hgr, hgo⟩ := HI.out
        have hkn := Hn.out
        rw [hkn, List.take_length] at hI
        have hlen := leAll_len xs
        refine (bytes_any W.heap.size go 65536 (leAll xs) wr hI (by omega)).mono ?_
        rintro e w' ⟨rfl, hr, hb⟩
        refine ⟨wr.heap.size, by rw [hlen, hkn], hgr.trans (Keeps.ofBelow hb) (fun j hj e => ?_), hgr.size, hr⟩
        have := hgr.size
        omega
      clear HI HO
      go_wp2_with (go_at_call 195; refine HB.out.mono ?_; rintro e w2 ⟨g, rfl, hq⟩; have HQ := hidM hq; clear hq)
      go_ret
      exact ⟨g, rfl, HQ.out⟩
end Go.Proofs.YtegjpmodleigeaaGreatDoor.Kit
