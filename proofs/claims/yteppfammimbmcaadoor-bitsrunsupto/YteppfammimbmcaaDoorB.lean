import Derived.Test.YteppfammimbmcaaDoorA
namespace Go.Proofs.YteppfammimbmcaaDoor.Kit
open Go.RowKit Go.Deep

/-- a row of one's own, in memory that was not there in w -/
def New (w w' : World) (t : Nat) (v : Value) (xs : List Value) : Prop :=
  w'.ownsRow 0 t 1 v xs.length xs ∧ (∀ g, v.ownBlock = some g → w.heap.size ≤ g) ∧ Keeps w w' (fun _ => False)
theorem New.ofRow {w w' : World} {G t n : Nat} {F : Nat → Value} {xs : List Value} (h : w'.rowIs G t n F) (hG : w.heap.size ≤ G) (k : Keeps w w' (fun _ => False)) (hn : n ≤ maxLen) (hx : xs.length = n) (hF : ∀ j, j < n → xs[j]? = some (F j)) :
    New w w' t (.slice (some ⟨G, 0, none⟩) n n) xs := by
  obtain ⟨c, hc, hs, hv⟩ := h
  refine ⟨⟨by simp, .inr ⟨G, n, c, by rw [hx], Nat.zero_le _, hc, by rw [hx]; exact Nat.le_refl _, hn, by rw [hs]; simp, ?_⟩⟩, fun g hg => by simp [Value.ownBlock] at hg; omega, k⟩
  apply List.ext_getElem?
  intro j
  by_cases hj : j < n
  · have := hF j hj
    simp only [Array.getElem?_toList, List.getElem?_take, hx, Nat.mul_one, hj, if_pos, hv j hj, this]
  · rw [List.getElem?_eq_none (by simp; omega), List.getElem?_eq_none (by omega)]

/-- a list of bools somewhere in memory -/
def BoolsAt (w : World) (ao : Option Addr) (n : Nat) (f : Nat → Bool) : Prop :=
  0 < n → ∃ b off, ao = some ⟨b, off, none⟩ ∧ ∀ k, k < n → w.cell? ⟨b, off + k, none⟩ = some (.bool (f k))
theorem BoolsAt.drewN {w : World} {ao : Option Addr} {n : Nat} {f : Nat → Bool} (h : BoolsAt w ao n f) (q : Nat) : BoolsAt (w.drewN q) ao n f := h
theorem BoolsAt.kept0 {w w' : World} {ao : Option Addr} {n : Nat} {f : Nat → Bool} (h : BoolsAt w ao n f) (k : Keeps w w' (fun _ => False)) : BoolsAt w' ao n f := by
  intro hn
  obtain ⟨b, off, rfl, hc⟩ := h hn
  exact ⟨b, off, rfl, fun j hj => k.cell' (hc j hj) id⟩

theorem info5 : (Tryd.prog.info? 5).map (fun i => (i.zero, i.size, i.bytes)) = some (some (.int .u8 0), 1, 1) := by kernel_rfl
theorem info4 : (Tryd.prog.info? 4).map (fun i => (i.zero, i.size, i.bytes)) = some (some (.bool false), 1, 1) := by kernel_rfl

theorem or8 (x k : Nat) (hx : x < 256) (hk : k < 8) : bits .or .u8 (x : Int) (2 ^ k % 256) = ((x ||| 2 ^ k : Nat) : Int) := by
  have hp : 2 ^ k < 2 ^ 8 := Nat.pow_lt_pow_right (by decide) hk
  have e : ((2 : Int) ^ k % 256) = ((2 ^ k : Nat) : Int) := by
    have : (2 ^ k : Nat) % 256 = 2 ^ k := Nat.mod_eq_of_lt hp
    rw [← this]; simp
  rw [e, bits_or8 x (2 ^ k) hx hp]

def Building (w wr : World) (G t n : Nat) (F : Nat → Value) : Prop := wr.rowIs G t n F ∧ w.heap.size ≤ G ∧ Keeps w wr (fun _ => False)
theorem Building.start (w : World) (z : Value) (t n : Nat) (F : Nat → Value) (hF : ∀ j, j < n → F j = z) : Building w (w.alloc (.cells (madeCells #[z] n) t)) w.heap.size t n F :=
  ⟨(World.rowIs_made w z n t).congr fun j hj => (hF j hj).symm, Nat.le_refl _, (Keeps.refl _ _).alloc _⟩
theorem Building.set {w wr : World} {G t n : Nat} {F F' : Nat → Value} (h : Building w wr G t n F) (i : Nat) (v : Value) (e : ∀ j, j < n → F' j = if j = i then v else F j) : Building w (wr.setCell ⟨G, i, none⟩ v) G t n F' :=
  ⟨(h.1.set i v).congr fun j hj => (e j hj).symm, h.2.1, h.2.2.setCell (p := ⟨G, i, none⟩) (fun hh => by have := h.2.1; simp at hh; omega) _⟩
theorem Building.congr {w wr : World} {G t n : Nat} {F F' : Nat → Value} (h : Building w wr G t n F) (e : ∀ j, j < n → F' j = F j) : Building w wr G t n F' := ⟨h.1.congr fun j hj => (e j hj).symm, h.2⟩
theorem Building.drew {w wr : World} {G t n : Nat} {F : Nat → Value} (h : Building w wr G t n F) : Building w wr.drew G t n F := ⟨h.1, h.2.1, h.2.2.drew⟩
theorem Building.drewN {w wr : World} {G t n : Nat} {F : Nat → Value} (h : Building w wr G t n F) (q : Nat) : Building w (wr.drewN q) G t n F := ⟨h.1, h.2.1, h.2.2.drewN q⟩

set_option maxRecDepth 100000 in
set_option maxHeartbeats 1000000 in
theorem make_any (ao : Option Addr) (n ca : Nat) (f : Nat → Bool) (hn : n ≤ 100000000) (w : World) (hb : BoolsAt w ao n f) :
    Calls Tryd.prog 24 #[.slice ao n ca] w fun e w' => ∃ v, e = .returned v ∧ New w w' 5 v ((mk f n).map fun x : Nat => .int .u8 x) := by
  have hnd : need n ≤ 100000000 := by unfold need; omega
  have hmk := run_make_row' (P := Tryd.prog) 24 5 (.int .u8 0) 1 Tryd.underlying24 info5 rfl .i64 .i64 (need n) (by omega) (by omega)
  go_enter Tryd.func24, Tryd.ntmps24
  go_wp2_with (go_at_call 22; refine (need_pos n (by omega) _).mono ?_; rintro e w' ⟨rfl, rfl⟩)
  have HB : Hid (Building w (w.alloc (.cells (madeCells #[.int .u8 0] (need n)) 5)) w.heap.size 5 (need n) fun j => .int .u8 (pb f 0 j : Nat)) := Building.start w _ 5 _ _ fun j _ => by simp [pb_zero]
  obtain ⟨G, hG⟩ : ∃ G, G = w.heap.size := ⟨_, rfl⟩
  rw [← hG] at HB ⊢
  clear hmk hG
  go_loopw [12] (fun i wr => ∃ k : Nat, k ≤ n ∧ i = .int .i64 k ∧ Hid (Building w wr G 5 (need n) fun j => .int .u8 (pb f k j : Nat))) (fun i _ => n - (intOf i).toNat)
  case atStart => exact ⟨0, by omega, rfl, HB⟩
  case round =>
    clear HB
    obtain ⟨k, hk, rfl, HB⟩ := hrel
    by_cases hlt : k < n
    · obtain ⟨b, off, rfl, hcs⟩ := hb (by omega)
      have hc : wr.cell? ⟨b, off + k, none⟩ = some (.bool (f k)) := HB.out.2.2.cell' (hcs k hlt) id
      have h8 : k / 8 < need n := by unfold need; omega
      have hx := HB.out.1.cell h8
      have hfz := HB.out.1.frozen (k / 8)
      cases hf : f k
      · rw [hf] at hc
        have HB' : Hid (Building w wr G 5 (need n) fun j => .int .u8 (pb f (k + 1) j : Nat)) := HB.out.congr fun j _ => by rw [pb_skip hf]
        clear HB hx hfz hcs hb
        go_wp2
        go_roundw
        case rel => exact ⟨k + 1, by omega, by go_num, HB'⟩
        case measure => simp [intOf]; omega
      · rw [hf] at hc
        have hxl := pb_lt f k (k / 8)
        have HX := pb_or hf
        obtain ⟨x, hx'⟩ : ∃ x, x = pb f k (k / 8) := ⟨_, rfl⟩
        rw [← hx'] at hx hxl HX
        have e := or8 x (k % 8) hxl (by omega)
        rw [HX] at e
        have HB' : Hid (Building w (wr.setCell ⟨G, k / 8, none⟩ (.int .u8 (bits .or .u8 (x : Int) (2 ^ (k % 8) % 256)))).drew G 5 (need n) fun j => .int .u8 (pb f (k + 1) j : Nat)) := by
          refine (HB.out.set (k / 8) _ fun j _ => ?_).drew
          by_cases hj : j = k / 8
          · rw [if_pos hj, e, hj]
          · rw [if_neg hj, pb_other hj]
        clear hcs hb hx' HB HX e
        go_wp2
        go_region
        go_wp2
        go_roundw
        case rel => exact ⟨k + 1, by omega, by go_num, HB'⟩
        case measure => simp [intOf]; omega
    · obtain rfl : k = n := by omega
      have HN : Hid (New w wr 5 (.slice (some ⟨G, 0, none⟩) (need k) (need k)) ((mk f k).map fun x : Nat => .int .u8 x)) :=
        New.ofRow HB.out.1 HB.out.2.1 HB.out.2.2 (by simp [maxLen]; omega) (by simp [mk]) (fun j hj => by simp [mk, hj])
      clear HB hb
      go_wp2
      go_ret
      exact ⟨_, rfl, HN.out⟩

theorem list_neg (ao : Option Addr) (n ca : Nat) (fr m : Int) (h : fr < 0 ∨ m < 0) (w : World) :
    Calls Tryd.prog 18 #[.slice ao n ca, .int .i64 fr, .int .i64 m] w fun e w' => e = .returned (.tuple #[.slice none 0 0, .int .i64 1]) ∧ w = w' := by
  go_enter Tryd.func18, Tryd.ntmps18
  go_wp2_with (go_at_call 44; refine (refused_neg ao n ca fr m _ h).mono ?_; rintro e w' ⟨rfl, rfl⟩)
  go_ret2
  exact ⟨rfl, rfl⟩
theorem list_range (ao : Option Addr) (n ca : Nat) (hn : n ≤ 1152921504606846975) (fr m : Nat) (hfr : fr ≤ 9223372036854775807) (hm : m ≤ 9223372036854775807) (h : 8 * n < fr + m) (w : World) :
    Calls Tryd.prog 18 #[.slice ao n ca, .int .i64 fr, .int .i64 m] w fun e w' => e = .returned (.tuple #[.slice none 0 0, .int .i64 2]) ∧ w = w' := by
  go_enter Tryd.func18, Tryd.ntmps18
  go_wp2_with (go_at_call 44; refine (refused_range ao n ca hn fr m hfr hm h _).mono ?_; rintro e w' ⟨rfl, rfl⟩)
  go_ret2
  exact ⟨rfl, rfl⟩
def bools (f : Nat → Bool) (fr n : Nat) : List Value := (List.range n).map fun k => .bool (f (fr + k))
set_option maxRecDepth 100000 in
set_option maxHeartbeats 1000000 in
theorem list_ok (ao : Option Addr) (ca : Nat) (l : List Nat) (hl : Bytes l) (hn : l.length ≤ 10000000) (fr m : Nat) (h : fr + m ≤ 8 * l.length) (w : World) (hb : BytesAt w ao l) :
    Calls Tryd.prog 18 #[.slice ao l.length ca, .int .i64 fr, .int .i64 m] w fun e w' => ∃ v, e = .returned (.tuple #[v, .int .i64 0]) ∧ New w w' 4 v (bools (bitAt l) fr m) := by
  have hmk := run_make_row' (P := Tryd.prog) 25 4 (.bool false) 1 Tryd.underlying25 info4 rfl .i64 .i64 m (by omega) (by omega)
  go_enter Tryd.func18, Tryd.ntmps18
  go_wp2_with (go_at_call 44; refine (refused_ok ao l.length ca (by omega) fr m h _).mono ?_; rintro e w' ⟨rfl, rfl⟩)
  have HB : Hid (Building w (w.alloc (.cells (madeCells #[.bool false] m) 4)) w.heap.size 4 m fun j => .bool (if j < 0 then bitAt l (fr + j) else false)) := Building.start w _ 4 _ _ fun j _ => by simp
  obtain ⟨G, hG⟩ : ∃ G, G = w.heap.size := ⟨_, rfl⟩
  rw [← hG] at HB ⊢
  clear hmk hG
  go_loopw [22] (fun i wr => ∃ k : Nat, k ≤ m ∧ i = .int .i64 k ∧ Hid (Building w wr G 4 m fun j => .bool (if j < k then bitAt l (fr + j) else false))) (fun i _ => m - (intOf i).toNat)
  case atStart => exact ⟨0, by omega, rfl, HB⟩
  case round =>
    clear HB
    obtain ⟨k, hk, rfl, HB⟩ := hrel
    by_cases hlt : k < m
    · have hx := HB.out.1.cell hlt
      have hfz := HB.out.1.frozen k
      obtain ⟨v0, hv0⟩ : ∃ v0 : Value, v0 = .bool (if k < k then bitAt l (fr + k) else false) := ⟨_, rfl⟩
      rw [← hv0] at hx
      have HB' : Hid (Building w (wr.setCell ⟨G, k, none⟩ (.bool (bitAt l (fr + k)))) G 4 m fun j => .bool (if j < k + 1 then bitAt l (fr + j) else false)) :=
        HB.out.set k _ fun j _ => by
          by_cases hj : j = k
          · rw [if_pos hj, hj, if_pos (by omega)]
          · rw [if_neg hj]
            by_cases hj2 : j < k
            · rw [if_pos hj2, if_pos (by omega)]
            · rw [if_neg hj2, if_neg (by omega)]
      have hb' : BytesAt wr ao l := hb.kept0 HB.out.2.2
      clear HB hv0 hb
      go_wp2_with (go_at_call 49; refine (isOn_any _ ca l hl (by omega) (fr + k) (by omega) _ hb').mono ?_; rintro e w' ⟨rfl, rfl⟩)
      go_roundw
      case rel => exact ⟨k + 1, by omega, by go_num, HB'⟩
      case measure => simp [intOf]; omega
    · obtain rfl : k = m := by omega
      have HN : Hid (New w wr 4 (.slice (some ⟨G, 0, none⟩) k k) (bools (bitAt l) fr k)) :=
        New.ofRow HB.out.1 HB.out.2.1 HB.out.2.2 (by simp [maxLen]; omega) (by simp [bools]) (fun j hj => by simp [bools, hj])
      clear HB hb
      go_wp2
      go_ret2
      exact ⟨_, rfl, HN.out⟩
end Go.Proofs.YteppfammimbmcaaDoor.Kit
