import Derived.Test.YteppfammimbmcaaDoorI
namespace Go.Proofs.YteppfammimbmcaaDoor.Kit
open Go.RowKit Go.Deep

theorem add8 (x y : Nat) (h : x + y < 256) : ((x : Int) + y) % 256 = ((x + y : Nat) : Int) := by omega
set_option maxRecDepth 100000 in
set_option maxHeartbeats 1000000 in
theorem rmake_any (ao : Option Addr) (n ca : Nat) (f : Nat → Bool) (hn : n ≤ 100000000) (w : World) (hb : BoolsAt w ao n f) :
    Calls Tryd.prog 34 #[.slice ao n ca] w fun e w' => ∃ v, e = .returned v ∧ New w w' 5 v ((mk f n).map fun x : Nat => .int .u8 x) := by
  have hnd : need n ≤ 100000000 := by unfold need; omega
  have hmk := run_make_row' (P := Tryd.prog) 24 5 (.int .u8 0) 1 Tryd.underlying24 info5 rfl .i64 .i64 (need n) (by omega) (by omega)
  go_enter Tryd.func34, Tryd.ntmps34
  go_wp2_with (go_at_call 41; refine (rneed_pos n (by omega) _).mono ?_; rintro e w' ⟨rfl, rfl⟩)
  have HB : Hid (Building w (w.alloc (.cells (madeCells #[.int .u8 0] (need n)) 5)) w.heap.size 5 (need n) fun j => .int .u8 (pb f 0 j : Nat)) := Building.start w _ 5 _ _ fun j _ => by simp [pb_zero]
  obtain ⟨G, hG⟩ : ∃ G, G = w.heap.size := ⟨_, rfl⟩
  rw [← hG] at HB ⊢
  clear hmk hG
  go_loopw [4] (fun i wr => ∃ k : Nat, k ≤ n ∧ i = .int .i64 k ∧ Hid (Building w wr G 5 (need n) fun j => .int .u8 (pb f k j : Nat))) (fun i _ => n - (intOf i).toNat)
  case atStart => exact ⟨0, by omega, rfl, HB⟩
  case round =>
    clear HB
    obtain ⟨k, hk, rfl, HB⟩ := hrel
    by_cases hlt : k < n
    · obtain ⟨b, off, rfl, hcs⟩ := hb (by omega)
      have hc : wr.cell? ⟨b, off + k, none⟩ = some (.bool (f k)) := HB.out.2.2.cell' (hcs k hlt) id
      have h8 : k / 8 < need n := by unfold need; omega
      have hx := HB.out.1.cell h8
      have hfz := HB.out.1.frozen (k / 8)
      cases hf : f k
      · rw [hf] at hc
        have HB' : Hid (Building w wr G 5 (need n) fun j => .int .u8 (pb f (k + 1) j : Nat)) := HB.out.congr fun j _ => by rw [pb_skip hf]
        clear HB hx hfz hcs hb
        go_wp2
        go_roundw
        case rel => exact ⟨k + 1, by omega, by go_num, HB'⟩
        case measure => simp [intOf]; omega
      · rw [hf] at hc
        have hxl := pb_lt f k (k / 8)
        have HX := pb_add hf
        have hyl := pb_lt f (k + 1) (k / 8)
        obtain ⟨x, hx'⟩ : ∃ x, x = pb f k (k / 8) := ⟨_, rfl⟩
        rw [← hx'] at hx hxl HX
        have HB' : Hid (Building w (wr.setCell ⟨G, k / 8, none⟩ (.int .u8 ((x + 2 ^ (k % 8) : Nat) : Int))) G 5 (need n) fun j => .int .u8 (pb f (k + 1) j : Nat)) := by
          refine HB.out.set (k / 8) _ fun j _ => ?_
          by_cases hj : j = k / 8
          · rw [if_pos hj, HX, hj]
          · rw [if_neg hj, pb_other hj]
        have hsum : x + 2 ^ (k % 8) < 256 := by rw [HX]; exact hyl
        clear hcs hb hx' HB HX hyl
        go_wp2
        go_loop [5, 6] (fun v i => ∃ j : Nat, j ≤ k % 8 ∧ v = .int .i64 (2 ^ j : Nat) ∧ i = .int .i64 j) (fun _ i => k % 8 - (intOf i).toNat)
        case atStart => exact ⟨0, by omega, rfl, rfl⟩
        case round =>
          obtain ⟨j, hj, rfl, rfl⟩ := hrel
          have hp : 2 ^ j < 2 ^ 8 := Nat.pow_lt_pow_right (by decide) (by omega)
          have hnext : 2 ^ (j + 1) = 2 ^ j * 2 := Nat.pow_succ ..
          by_cases hltj : j < k % 8
          · have hltj' : (j : Int) < (k : Int) % 8 := by omega
            obtain ⟨y, hy⟩ : ∃ y, y = 2 ^ j := ⟨_, rfl⟩
            rw [← hy] at hp hnext ⊢
            have HNX : Hid (2 ^ (j + 1) = y * 2) := hnext
            clear hy hnext HB'
            go_wp2
            go_round
            case rel => exact ⟨j + 1, by omega, by rw [HNX.out]; simp, by go_num⟩
            case measure => simp [intOf]; omega
          · obtain rfl : j = k % 8 := by omega
            have hnl : ¬ (((k % 8 : Nat) : Int) < (k : Int) % 8) := by omega
            obtain ⟨y, hy⟩ : ∃ y, y = 2 ^ (k % 8) := ⟨_, rfl⟩
            rw [← hy] at hp hsum HB' ⊢
            have e1 := add8 x y hsum
            clear hy hnext
            have HB2 : Hid (Building w (wr.setCell ⟨G, k / 8, none⟩ (.int .u8 ((x : Int) + y))) G 5 (need n) fun j => .int .u8 (pb f (k + 1) j : Nat)) := HB'
            clear HB'
            go_wp2
            go_roundw
            case rel => exact ⟨k + 1, by omega, by go_num, HB2⟩
            case measure => simp [intOf]; omega
    · obtain rfl : k = n := by omega
      have HN : Hid (New w wr 5 (.slice (some ⟨G, 0, none⟩) (need k) (need k)) ((mk f k).map fun x : Nat => .int .u8 x)) :=
        New.ofRow HB.out.1 HB.out.2.1 HB.out.2.2 (by simp [maxLen]; omega) (by simp [mk]) (fun j hj => by simp [mk, hj])
      clear HB hb
      go_wp2
      go_ret
      exact ⟨_, rfl, HN.out⟩

theorem rcut_neg (ao : Option Addr) (n ca : Nat) (fr m : Int) (h : fr < 0 ∨ m < 0) (w : World) :
    Calls Tryd.prog 36 #[.slice ao n ca, .int .i64 fr, .int .i64 m] w fun e w' => e = .returned (.tuple #[.slice none 0 0, .int .i64 1]) ∧ w = w' := by
  go_enter Tryd.func36, Tryd.ntmps36
  go_wp2_with (go_at_call 35; refine (rlist_neg ao n ca fr m h _).mono ?_; rintro e w' ⟨rfl, rfl⟩)
  go_ret2
  exact ⟨rfl, rfl⟩
theorem rcut_range (ao : Option Addr) (n ca : Nat) (hn : n ≤ 1152921504606846975) (fr m : Nat) (hfr : fr ≤ 9223372036854775807) (hm : m ≤ 9223372036854775807) (h : 8 * n < fr + m) (w : World) :
    Calls Tryd.prog 36 #[.slice ao n ca, .int .i64 fr, .int .i64 m] w fun e w' => e = .returned (.tuple #[.slice none 0 0, .int .i64 2]) ∧ w = w' := by
  go_enter Tryd.func36, Tryd.ntmps36
  go_wp2_with (go_at_call 35; refine (rlist_range ao n ca hn fr m hfr hm h _).mono ?_; rintro e w' ⟨rfl, rfl⟩)
  go_ret2
  exact ⟨rfl, rfl⟩
theorem rcut_ok (ao : Option Addr) (ca : Nat) (l : List Nat) (hl : Bytes l) (hn : l.length ≤ 10000000) (fr m : Nat) (h : fr + m ≤ 8 * l.length) (w : World) (hb : BytesAt w ao l) :
    Calls Tryd.prog 36 #[.slice ao l.length ca, .int .i64 fr, .int .i64 m] w fun e w' => ∃ v, e = .returned (.tuple #[v, .int .i64 0]) ∧ New w w' 5 v ((mk (fun k => bitAt l (fr + k)) m).map fun x : Nat => .int .u8 x) := by
  go_enter Tryd.func36, Tryd.ntmps36
  go_wp2_with fail
  go_at_call 35
  refine (rlist_ok ao ca l hl hn fr m h _ hb).mono ?_
  rintro e w1 ⟨v, rfl, hN⟩
  have HK : Hid (Keeps w w1 (fun _ => False)) := hN.2.2
  obtain ⟨ao1, cap1, rfl, hb1⟩ := hN.bools
  clear hN hb
  go_wp2_with fail
  go_at_call 34
  refine (rmake_any ao1 m cap1 _ (by omega) _ hb1).mono ?_
  rintro e w2 ⟨v, rfl, hN⟩
  have HN : Hid (New w w2 5 v ((mk (fun k => bitAt l (fr + k)) m).map fun x : Nat => .int .u8 x)) := New.from HK.out hN
  clear hN HK hb1
  go_wp2
  go_ret2
  exact ⟨_, rfl, HN.out⟩

theorem rcount_neg (ao : Option Addr) (n ca : Nat) (fr m : Int) (h : fr < 0 ∨ m < 0) (w : World) :
    Calls Tryd.prog 33 #[.slice ao n ca, .int .i64 fr, .int .i64 m] w fun e w' => e = .returned (.tuple #[.int .i64 0, .int .i64 1]) ∧ w = w' := by
  go_enter Tryd.func33, Tryd.ntmps33
  go_wp2_with (go_at_call 35; refine (rlist_neg ao n ca fr m h _).mono ?_; rintro e w' ⟨rfl, rfl⟩)
  go_ret2
  exact ⟨rfl, rfl⟩
theorem rcount_range (ao : Option Addr) (n ca : Nat) (hn : n ≤ 1152921504606846975) (fr m : Nat) (hfr : fr ≤ 9223372036854775807) (hm : m ≤ 9223372036854775807) (h : 8 * n < fr + m) (w : World) :
    Calls Tryd.prog 33 #[.slice ao n ca, .int .i64 fr, .int .i64 m] w fun e w' => e = .returned (.tuple #[.int .i64 0, .int .i64 2]) ∧ w = w' := by
  go_enter Tryd.func33, Tryd.ntmps33
  go_wp2_with (go_at_call 35; refine (rlist_range ao n ca hn fr m hfr hm h _).mono ?_; rintro e w' ⟨rfl, rfl⟩)
  go_ret2
  exact ⟨rfl, rfl⟩
theorem rcount_ok (ao : Option Addr) (ca : Nat) (l : List Nat) (hl : Bytes l) (hn : l.length ≤ 10000000) (fr m : Nat) (h : fr + m ≤ 8 * l.length) (w : World) (hb : BytesAt w ao l) :
    Calls Tryd.prog 33 #[.slice ao l.length ca, .int .i64 fr, .int .i64 m] w fun e w' => e = .returned (.tuple #[.int .i64 (cn (fun k => bitAt l (fr + k)) m : Nat), .int .i64 0]) ∧ Keeps w w' (fun _ => False) := by
  obtain ⟨f, HF⟩ : ∃ f : Nat → Bool, f = fun k => bitAt l (fr + k) := ⟨_, rfl⟩
  rw [← HF]
  go_enter Tryd.func33, Tryd.ntmps33
  go_wp2_with fail
  go_at_call 35
  refine (rlist_ok ao ca l hl hn fr m h _ hb).mono ?_
  rintro e w1 ⟨v, rfl, hN⟩
  have HK : Hid (Keeps w w1 (fun _ => False)) := hN.2.2
  obtain ⟨ao1, cap1, rfl, hb1⟩ := hN.bools
  rw [← HF] at hb1
  clear hN hb HF
  go_wp2
  go_loop [10, 11] (fun v i => ∃ j : Nat, j ≤ m ∧ v = .int .i64 (cn f j : Nat) ∧ i = .int .i64 j) (fun _ i => m - (intOf i).toNat)
  case atStart => exact ⟨0, by omega, rfl, rfl⟩
  case round =>
    obtain ⟨j, hj, rfl, rfl⟩ := hrel
    by_cases hlt : j < m
    · obtain ⟨b, off, rfl, hcs⟩ := hb1 (by omega)
      have hc := hcs j hlt
      have hle := cn_le f j
      have hnx : cn f (j + 1) = cn f j + (f j).toNat := rfl
      clear hcs hb1
      obtain ⟨y, hy⟩ : ∃ y, y = cn f j := ⟨_, rfl⟩
      rw [← hy] at hle hnx ⊢
      clear hy
      cases hfj : f j
      · rw [hfj] at hc
        have HNX : Hid (cn f (j + 1) = y) := by show _ = _; rw [hnx, hfj]; rfl
        clear hnx
        go_wp2
        go_round
        case rel => exact ⟨j + 1, by omega, by rw [HNX.out], by go_num⟩
        case measure => simp [intOf]; omega
      · rw [hfj] at hc
        have HNX : Hid (cn f (j + 1) = y + 1) := by show _ = _; rw [hnx, hfj]; rfl
        clear hnx
        go_wp2
        go_round
        case rel => exact ⟨j + 1, by omega, by rw [HNX.out]; go_num, by go_num⟩
        case measure => simp [intOf]; omega
    · obtain rfl : j = m := by omega
      clear hb1
      go_wp2
      go_ret2
      exact ⟨rfl, HK.out⟩

theorem rnext_neg (ao : Option Addr) (n ca : Nat) (fr m : Int) (on : Bool) (h : fr < 0 ∨ m < 0) (w : World) :
    Calls Tryd.prog 39 #[.slice ao n ca, .int .i64 fr, .int .i64 m, .bool on] w fun e w' => e = .returned (.int .i64 (-1)) ∧ w = w' := by
  go_enter Tryd.func39, Tryd.ntmps39
  go_wp2_with (go_at_call 35; refine (rlist_neg ao n ca fr m h _).mono ?_; rintro e w' ⟨rfl, rfl⟩)
  go_ret
  exact ⟨rfl, rfl⟩
theorem rnext_range (ao : Option Addr) (n ca : Nat) (hn : n ≤ 1152921504606846975) (fr m : Nat) (on : Bool) (hfr : fr ≤ 9223372036854775807) (hm : m ≤ 9223372036854775807) (h : 8 * n < fr + m) (w : World) :
    Calls Tryd.prog 39 #[.slice ao n ca, .int .i64 fr, .int .i64 m, .bool on] w fun e w' => e = .returned (.int .i64 (-1)) ∧ w = w' := by
  go_enter Tryd.func39, Tryd.ntmps39
  go_wp2_with (go_at_call 35; refine (rlist_range ao n ca hn fr m hfr hm h _).mono ?_; rintro e w' ⟨rfl, rfl⟩)
  go_ret
  exact ⟨rfl, rfl⟩
def nextOf (f : Nat → Bool) (on : Bool) (m : Nat) : Int := if fnd f on m 0 = m then -1 else (fnd f on m 0 : Int)
theorem rnext_ok (ao : Option Addr) (ca : Nat) (l : List Nat) (hl : Bytes l) (hn : l.length ≤ 10000000) (fr m : Nat) (on : Bool) (h : fr + m ≤ 8 * l.length) (w : World) (hb : BytesAt w ao l) :
    Calls Tryd.prog 39 #[.slice ao l.length ca, .int .i64 fr, .int .i64 m, .bool on] w fun e w' => e = .returned (.int .i64 (nextOf (fun k => bitAt l (fr + k)) on m)) ∧ Keeps w w' (fun _ => False) := by
  obtain ⟨f, HF⟩ : ∃ f : Nat → Bool, f = fun k => bitAt l (fr + k) := ⟨_, rfl⟩
  rw [← HF]
  obtain ⟨R, HR⟩ : ∃ R, R = nextOf f on m := ⟨_, rfl⟩
  rw [← HR]
  go_enter Tryd.func39, Tryd.ntmps39
  go_wp2_with fail
  go_at_call 35
  refine (rlist_ok ao ca l hl hn fr m h _ hb).mono ?_
  rintro e w1 ⟨v, rfl, hN⟩
  have HK : Hid (Keeps w w1 (fun _ => False)) := hN.2.2
  obtain ⟨ao1, cap1, rfl, hb1⟩ := hN.bools
  rw [← HF] at hb1
  clear hN hb HF
  have HR' : Hid (R = nextOf f on m) := HR
  clear HR
  go_wp2
  go_loop [11] (fun i => ∃ j : Nat, j ≤ m ∧ Hid (fnd f on m j = fnd f on m 0) ∧ i = .int .i64 j) (fun i => m - (intOf i).toNat)
  case atStart => exact ⟨0, by omega, rfl, rfl⟩
  case round =>
    obtain ⟨j, hj, HD, rfl⟩ := hrel
    by_cases hlt : j < m
    · obtain ⟨b, off, rfl, hcs⟩ := hb1 (by omega)
      have hc := hcs j hlt
      clear hcs hb1
      obtain ⟨x, hx⟩ : ∃ x, x = f j := ⟨_, rfl⟩
      rw [← hx] at hc
      have HX : Hid (x = f j) := hx
      clear hx
      by_cases hfj : x = on
      · subst hfj
        go_wp2
        go_ret
        refine ⟨?_, HK.out⟩
        have e1 := HD.out
        have := fnd_here hlt HX.out.symm
        rw [HR'.out]
        unfold nextOf
        rw [← e1, this, if_neg (by omega)]
        rfl
      · have hfj' : (x == on) = false := by simpa using hfj
        have HD' : Hid (fnd f on m (j + 1) = fnd f on m 0) := (fnd_step (by rw [← HX.out]; exact hfj)).trans HD.out
        clear HD HX hfj
        go_wp2
        go_round
        case rel => exact ⟨j + 1, by omega, HD', by go_num⟩
        case measure => simp [intOf]; omega
    · obtain rfl : j = m := by omega
      clear hb1
      go_wp2
      go_ret
      refine ⟨?_, HK.out⟩
      have e1 := HD.out
      rw [fnd_end (Nat.le_refl _)] at e1
      rw [HR'.out]
      unfold nextOf
      rw [if_pos e1.symm]
      rfl

theorem rplace_neg (ao : Option Addr) (n ca : Nat) (fr m k : Int) (h : fr < 0 ∨ m < 0 ∨ k < 0) (w : World) :
    Calls Tryd.prog 40 #[.slice ao n ca, .int .i64 fr, .int .i64 m, .int .i64 k] w fun e w' => e = .returned (.tuple #[.int .i64 0, .int .i64 1]) ∧ w = w' := by
  go_enter Tryd.func40, Tryd.ntmps40
  go_wp2
  all_goals first | (go_ret2; exact ⟨rfl, rfl⟩) | (exfalso; simp at *; omega)
theorem rplace_range (ao : Option Addr) (n ca : Nat) (hn : n ≤ 1152921504606846975) (fr m k : Nat) (hfr : fr ≤ 9223372036854775807) (hm : m ≤ 9223372036854775807) (h : 8 * n < fr + m) (w : World) :
    Calls Tryd.prog 40 #[.slice ao n ca, .int .i64 fr, .int .i64 m, .int .i64 k] w fun e w' => e = .returned (.tuple #[.int .i64 0, .int .i64 2]) ∧ w = w' := by
  go_enter Tryd.func40, Tryd.ntmps40
  go_wp2_with (go_at_call 35; refine (rlist_range ao n ca hn fr m hfr hm h _).mono ?_; rintro e w' ⟨rfl, rfl⟩)
  all_goals first | (go_ret2; exact ⟨rfl, rfl⟩) | (exfalso; simp at *; omega)
def placeOf (f : Nat → Bool) (k m : Nat) : Value := if pl f k m = m then .tuple #[.int .i64 0, .int .i64 2] else .tuple #[.int .i64 (pl f k m : Nat), .int .i64 0]
set_option maxHeartbeats 1000000 in
theorem rplace_ok (ao : Option Addr) (ca : Nat) (l : List Nat) (hl : Bytes l) (hn : l.length ≤ 10000000) (fr m k : Nat) (hk : k ≤ 9223372036854775807) (h : fr + m ≤ 8 * l.length) (w : World) (hb : BytesAt w ao l) :
    Calls Tryd.prog 40 #[.slice ao l.length ca, .int .i64 fr, .int .i64 m, .int .i64 k] w fun e w' => e = .returned (placeOf (fun k => bitAt l (fr + k)) k m) ∧ Keeps w w' (fun _ => False) := by
  obtain ⟨f, HF⟩ : ∃ f : Nat → Bool, f = fun k => bitAt l (fr + k) := ⟨_, rfl⟩
  rw [← HF]
  obtain ⟨R, HR⟩ : ∃ R, R = placeOf f k m := ⟨_, rfl⟩
  rw [← HR]
  go_enter Tryd.func40, Tryd.ntmps40
  go_wp2_with fail
  go_at_call 35
  refine (rlist_ok ao ca l hl hn fr m h _ hb).mono ?_
  rintro e w1 ⟨v, rfl, hN⟩
  have HK : Hid (Keeps w w1 (fun _ => False)) := hN.2.2
  obtain ⟨ao1, cap1, rfl, hb1⟩ := hN.bools
  rw [← HF] at hb1
  clear hN hb HF
  have HR' : Hid (R = placeOf f k m) := HR
  clear HR
  go_wp2
  go_loop [3, 12] (fun v i => ∃ j c : Nat, j ≤ m ∧ c ≤ k ∧ Hid (c = cn f j ∧ fnd (fun r => f r && (cn f r == k)) true m j = pl f k m) ∧ v = .int .i64 (k - c : Nat) ∧ i = .int .i64 j) (fun _ i => m - (intOf i).toNat)
  case atStart => exact ⟨0, 0, by omega, by omega, ⟨rfl, rfl⟩, rfl, rfl⟩
  case round =>
    obtain ⟨j, c, hj, hck, HD, rfl, rfl⟩ := hrel
    by_cases hlt : j < m
    · obtain ⟨b, off, rfl, hcs⟩ := hb1 (by omega)
      have hc := hcs j hlt
      clear hcs hb1
      cases hfj : f j
      · rw [hfj] at hc
        have HD' : Hid (c = cn f (j + 1) ∧ fnd (fun r => f r && (cn f r == k)) true m (j + 1) = pl f k m) := ⟨by rw [HD.out.1]; simp [cn, hfj], (fnd_step (by simp [hfj])).trans HD.out.2⟩
        clear HD
        go_wp2
        go_round
        case rel => exact ⟨j + 1, c, by omega, hck, HD', rfl, by go_num⟩
        case measure => simp [intOf]; omega
      · rw [hfj] at hc
        by_cases he : c = k
        · have h0 : k - c = 0 := by omega
          rw [h0]
          go_wp2
          go_ret2
          refine ⟨?_, HK.out⟩
          have e1 := HD.out.2
          rw [fnd_here hlt (by simp [hfj, ← HD.out.1, he])] at e1
          rw [HR'.out]
          unfold placeOf
          rw [← e1, if_neg (by omega)]
          rfl
        · have HD' : Hid (c + 1 = cn f (j + 1) ∧ fnd (fun r => f r && (cn f r == k)) true m (j + 1) = pl f k m) := ⟨by rw [HD.out.1]; simp [cn, hfj], (fnd_step (by simp [hfj, ← HD.out.1, he])).trans HD.out.2⟩
          obtain ⟨y, hy⟩ : ∃ y, y = k - c := ⟨_, rfl⟩
          have hy1 : ((k - (c + 1) : Nat) : Int) = (y : Int) - 1 := by omega
          have hy0 : ¬ (y : Int) = 0 := by omega
          have hy2 : y ≤ 9223372036854775807 := by omega
          have HY : Hid (((k - (c + 1) : Nat) : Int) = (y : Int) - 1 ∧ c + 1 ≤ k) := ⟨hy1, by omega⟩
          rw [← hy]
          clear HD hy hy1 hck he
          go_wp2
          go_round
          case rel => exact ⟨j + 1, c + 1, by omega, HY.out.2, HD', by rw [HY.out.1], by go_num⟩
          case measure => simp [intOf]; omega
    · obtain rfl : j = m := by omega
      clear hb1
      go_wp2
      go_ret2
      refine ⟨?_, HK.out⟩
      have e1 := HD.out.2
      rw [fnd_end (Nat.le_refl _)] at e1
      rw [HR'.out]
      unfold placeOf
      rw [if_pos e1.symm]
      rfl

theorem rnot_neg (ao : Option Addr) (n ca : Nat) (m : Int) (h : m < 0) (w : World) :
    Calls Tryd.prog 38 #[.slice ao n ca, .int .i64 m] w fun e w' => e = .returned (.tuple #[.slice none 0 0, .int .i64 1]) ∧ w = w' := by
  go_enter Tryd.func38, Tryd.ntmps38
  go_wp2_with (go_at_call 35; refine (rlist_neg ao n ca 0 m (.inr h) _).mono ?_; rintro e w' ⟨rfl, rfl⟩)
  go_ret2
  exact ⟨rfl, rfl⟩
theorem rnot_range (ao : Option Addr) (n ca : Nat) (hn : n ≤ 1152921504606846975) (m : Nat) (hm : m ≤ 9223372036854775807) (h : 8 * n < m) (w : World) :
    Calls Tryd.prog 38 #[.slice ao n ca, .int .i64 m] w fun e w' => e = .returned (.tuple #[.slice none 0 0, .int .i64 2]) ∧ w = w' := by
  go_enter Tryd.func38, Tryd.ntmps38
  go_wp2_with (go_at_call 35; refine (rlist_range ao n ca hn 0 m (by omega) hm (by omega) _).mono ?_; rintro e w' ⟨rfl, rfl⟩)
  go_ret2
  exact ⟨rfl, rfl⟩
theorem New.boolsAt {w w' : World} {v : Value} {f : Nat → Bool} {n : Nat} (h : New w w' 4 v (Kit.bools f 0 n)) : ∃ ao cap, v = .slice ao n cap ∧ BoolsAt w' ao n f := by
  obtain ⟨ao, cap, e, hb⟩ := h.bools
  exact ⟨ao, cap, e, fun hn => by obtain ⟨b, off, e, hc⟩ := hb hn; exact ⟨b, off, e, fun k hk => by have := hc k hk; simpa using this⟩⟩
set_option maxRecDepth 100000 in
set_option maxHeartbeats 1000000 in
theorem rnot_ok (ao : Option Addr) (ca : Nat) (l : List Nat) (hl : Bytes l) (hn : l.length ≤ 10000000) (m : Nat) (h : m ≤ 8 * l.length) (w : World) (hb : BytesAt w ao l) :
    Calls Tryd.prog 38 #[.slice ao l.length ca, .int .i64 m] w fun e w' => ∃ v, e = .returned (.tuple #[v, .int .i64 0]) ∧ New w w' 5 v ((mk (fun k => !bitAt l k) m).map fun x : Nat => .int .u8 x) := by
  go_enter Tryd.func38, Tryd.ntmps38
  go_wp2_with fail
  go_at_call 35
  refine (rlist_ok ao ca l hl hn 0 m (by omega) _ hb).mono ?_
  rintro e w1 ⟨v, rfl, hN⟩
  have HK : Hid (Keeps w w1 (fun _ => False)) := hN.2.2
  obtain ⟨ao1, cap1, rfl, hb1⟩ := hN.boolsAt
  clear hN hb
  go_wp2
  have HN : Hid (New w1 (w1.alloc (.cells #[] 4)) 4 (.slice (some ⟨w1.heap.size, 0, none⟩) 0 0) (bools (fun k => !bitAt l k) 0 0)) := New.empty w1 4
  go_loopw [8, 9] (fun v i wr => ∃ (k : Nat) (ao1 : Option Addr) (cap : Nat), k ≤ m ∧ i = .int .i64 k ∧ v = .slice ao1 k cap ∧ Hid (New w1 wr 4 (.slice ao1 k cap) (bools (fun k => !bitAt l k) 0 k))) (fun _ i _ => m - (intOf i).toNat)
  case atStart => exact ⟨0, _, _, by omega, rfl, rfl, HN⟩
  case round =>
    clear HN
    obtain ⟨k, ao2, cap, hk, rfl, rfl, HN⟩ := hrel
    by_cases hlt : k < m
    · have hb' : BoolsAt wr ao1 m (bitAt l) := hb1.kept0 HN.out.2.2
      obtain ⟨b, off, rfl, hcs⟩ := hb' (by omega)
      have hc := hcs k hlt
      clear hb1 hcs hb'
      go_wp2_with (first | (at_builtin; refine wpList_append_any _ rfl (.tmp 25) (.tmp 31) 25 25 rfl 4 (.bool false) 1 Tryd.underlying25 info4 rfl _ _ _ rfl ((HN.out.own (bools_length _ _ _)).alloc _) _ _ _ rfl (src_bool wr _ rfl) ?h63 ?hby ?_))
      case h63 => omega
      case hby => omega
      intro v' w2 hown' hgrow hblk
      obtain ⟨ao', cap', rfl⟩ := own_form hown'
      have HN' : Hid (New w1 w2 4 (.slice ao' (k + 1) cap') (bools (fun k => !bitAt l k) 0 (k + 1))) := by
        rw [show [Value.bool !bitAt l k] = [Value.bool ((fun k => !bitAt l k) (0 + k))] by simp, ← bools_succ] at hown'
        exact HN.out.step (Keeps.none_alloc wr _) hown' (bools_length _ _ _) hgrow (by simpa using hblk)
      clear hown' hgrow hblk HN
      go_wp2
      go_roundw
      case rel => exact ⟨k + 1, ao', cap', by omega, by go_num, rfl, HN'⟩
      case measure => simp [intOf]; omega
    · obtain rfl : k = m := by omega
      obtain ⟨ao3, cap3, he, hb3⟩ := HN.out.boolsAt
      simp only [Value.slice.injEq, true_and] at he
      obtain ⟨rfl, rfl⟩ := he
      have HK3 : Hid (Keeps w wr (fun _ => False)) := HK.out.trans HN.out.2.2 fun _ _ h => h
      clear hb1 HN HK
      go_wp2_with fail
      go_at_call 34
      refine (rmake_any ao2 k cap _ (by omega) _ hb3).mono ?_
      rintro e w4 ⟨v, rfl, hN⟩
      have HN : Hid (New w w4 5 v ((mk (fun k => !bitAt l k) k).map fun x : Nat => .int .u8 x)) := New.from HK3.out hN
      clear hN HK3 hb3
      go_wp2
      go_ret2
      exact ⟨_, rfl, HN.out⟩
end Go.Proofs.YteppfammimbmcaaDoor.Kit
