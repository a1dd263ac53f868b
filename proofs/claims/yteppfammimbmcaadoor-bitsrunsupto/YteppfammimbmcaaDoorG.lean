import Derived.Test.YteppfammimbmcaaDoorC
namespace Go.Proofs.YteppfammimbmcaaDoor.Kit
open Go.RowKit Go.Deep
set_option linter.unusedVariables false

theorem JB54 : ∀ x y : Nat, x < 256 → y < 256 → 255 - x < 256 ∧ ∀ k, k < 8 → (255 - x).testBit k = (!x.testBit k) := fun x _ hx _ => ⟨by omega, not_bit x hx⟩
set_option maxRecDepth 100000 in
set_option maxHeartbeats 1000000 in
theorem joined_not (ao bo : Option Addr) (ca cb : Nat) (l r : List Nat) (hl : Bytes l) (hr : Bytes r) (hn : l.length ≤ 10000000) (hn' : r.length ≤ 10000000) (m : Nat) (h : m ≤ 8 * l.length) (h' : m ≤ 8 * r.length) (w : World) (ha : BytesAt w ao l) (hb : BytesAt w bo r) :
    Calls Tryd.prog 50 #[.slice ao l.length ca, .slice bo r.length cb, .int .i64 m, .func (.func 54) #[] #[]] w fun e w' => ∃ v, e = .returned (.tuple #[v, .int .i64 0]) ∧ New w w' 5 v ((mk (fun k => !bitAt l k) m).map fun x : Nat => .int .u8 x) := by
  have hmk := run_make_row' (P := Tryd.prog) 24 5 (.int .u8 0) 1 Tryd.underlying24 info5 rfl .i64 .i64 (need m) (by unfold need; omega) (by unfold need; omega)
  have hnd : need m ≤ 100000000 := by unfold need; omega
  have hi0 := idx0 ao bo l.length ca r.length cb
  have hi1 := idx1 ao bo l.length ca r.length cb
  obtain ⟨J, HJ⟩ : ∃ J : Nat → Nat → Nat, J = fun x y => 255 - x := ⟨_, rfl⟩
  obtain ⟨F, HF⟩ : ∃ F : Nat → Bool, F = fun k => !bitAt l k := ⟨_, rfl⟩
  have HJB : Hid (∀ x y, x < 256 → y < 256 → J x y < 256) := by rw [HJ]; exact fun x y hx hy => (JB54 x y hx hy).1
  have HFULL : Hid (∀ j, 8 * j + 8 ≤ m → J (l.getD j 0) (r.getD j 0) = pb F m j) := by rw [HJ, HF]; exact fun j hj => jn_full (op := fun a b => !a) JB54 hl hr hj
  have HLAST : Hid (J (l.getD (m / 8) 0) (r.getD (m / 8) 0) &&& (2 ^ (m % 8) - 1) = pb F m (m / 8)) := by rw [HJ, HF]; exact jn_last (op := fun a b => !a) JB54 hl hr
  rw [← HF]
  have HC : Hid (∀ x y : Nat, x < 256 → y < 256 → ∀ w : World, Calls Tryd.prog 54 #[.int .u8 x, .int .u8 y] w fun e w' => e = .returned (.int .u8 (J x y : Nat)) ∧ w = w') := by rw [HJ]; exact fun x y hx hy w => not_any x y hx w
  clear HJ HF
  go_enter Tryd.func50, Tryd.ntmps50
  go_wp2
  refine wp_loop_rounds 3 ?_
  rw [rounds_succ]
  go_wp2_with (go_at_call 44; refine (refused_ok ao l.length ca (by omega) 0 m (by omega) _).mono ?_; rintro e w' ⟨rfl, rfl⟩)
  rw [rounds_succ]
  go_wp2_with (go_at_call 44; refine (refused_ok bo r.length cb (by omega) 0 m (by omega) _).mono ?_; rintro e w' ⟨rfl, rfl⟩)
  rw [rounds_succ]
  go_wp2_with (go_at_call 22; refine (need_pos m (by omega) _).mono ?_; rintro e w' ⟨rfl, rfl⟩)
  have HB : Hid (Building w (w.alloc (.cells (madeCells #[.int .u8 0] (need m)) 5)) w.heap.size 5 (need m) fun j => .int .u8 (if j < 0 then J (l.getD j 0) (r.getD j 0) else 0 : Nat)) := Building.start w _ 5 _ _ fun j _ => by simp
  obtain ⟨G, hG⟩ : ∃ G, G = w.heap.size := ⟨_, rfl⟩
  rw [← hG] at HB ⊢
  clear hmk hG hi0 hi1
  go_loopw [34] (fun i wr => ∃ k : Nat, k ≤ need m ∧ i = .int .i64 k ∧ Hid (Building w wr G 5 (need m) fun j => .int .u8 (if j < k then J (l.getD j 0) (r.getD j 0) else 0 : Nat))) (fun i _ => need m - (intOf i).toNat)
  case atStart => exact ⟨0, by omega, rfl, HB⟩
  case round =>
    clear HB
    obtain ⟨k, hk, rfl, HB⟩ := hrel
    by_cases hlt : k < need m
    · have hx := HB.out.1.cell hlt
      have hfz := HB.out.1.frozen k
      have hkl : k < l.length := by unfold need at hlt; omega
      have hkr : k < r.length := by unfold need at hlt; omega
      obtain ⟨v0, hv0⟩ : ∃ v0 : Value, v0 = .int .u8 (if k < k then J (l.getD k 0) (r.getD k 0) else 0 : Nat) := ⟨_, rfl⟩
      rw [← hv0] at hx
      obtain ⟨b, off, rfl, hcs⟩ := ha (by omega)
      obtain ⟨b', off', rfl, hcs'⟩ := hb (by omega)
      have hc : wr.cell? ⟨b, off + k, none⟩ = some (.int .u8 (l.getD k 0 : Nat)) := HB.out.2.2.cell' (hcs k hkl) id
      have hc' : wr.cell? ⟨b', off' + k, none⟩ = some (.int .u8 (r.getD k 0 : Nat)) := HB.out.2.2.cell' (hcs' k hkr) id
      have hxl := hl.get k
      have hyl := hr.get k
      have HB' : Hid (Building w (wr.setCell ⟨G, k, none⟩ (.int .u8 (J (l.getD k 0) (r.getD k 0) : Nat))).drew G 5 (need m) fun j => .int .u8 (if j < k + 1 then J (l.getD j 0) (r.getD j 0) else 0 : Nat)) :=
        Building.drew <| HB.out.set k _ fun j _ => by
          by_cases hj : j = k
          · rw [if_pos hj, hj, if_pos (by omega)]
          · rw [if_neg hj]
            by_cases hj2 : j < k
            · rw [if_pos hj2, if_pos (by omega)]
            · rw [if_neg hj2, if_neg (by omega)]
      have hC := HC.out _ _ hxl hyl
      generalize l.getD k 0 = x at *
      generalize r.getD k 0 = y at *
      clear HB hv0 ha hb hcs hcs'
      go_wp2
      go_region_with (go_at_call 54; refine (hC _).mono ?_; rintro e w' ⟨rfl, rfl⟩)
      all_goals (go_wp2; go_roundw)
      case rel => exact ⟨k + 1, by omega, by go_num, HB'⟩
      case measure => simp [intOf]; omega
      case rel => exact ⟨k + 1, by omega, by go_num, HB'⟩
      case measure => simp [intOf]; omega
    · obtain rfl : k = need m := by omega
      by_cases h8 : m % 8 = 0
      · have HN : Hid (New w wr 5 (.slice (some ⟨G, 0, none⟩) (need m) (need m)) ((mk F m).map fun x : Nat => .int .u8 x)) :=
          New.ofRow HB.out.1 HB.out.2.1 HB.out.2.2 (by simp [maxLen]; omega) (by simp [mk]) (fun j hj => by
            rw [if_pos hj, HFULL.out j (by unfold need at hj; omega)]
            simp [mk, hj])
        clear HB ha hb HFULL HLAST HC HJB
        go_wp2
        go_ret2
        exact ⟨_, rfl, HN.out⟩
      · have hnm : need m = m / 8 + 1 := by unfold need; omega
        have hlt : m / 8 < need m := by omega
        have hx := HB.out.1.cell hlt
        have hfz := HB.out.1.frozen (m / 8)
        have hlen : (need m : Int) - 1 = ((m / 8 : Nat) : Int) := by omega
        rw [if_pos hlt] at hx
        have hJl := HJB.out _ _ (hl.get (m / 8)) (hr.get (m / 8))
        have e := and8 _ (m % 8) hJl (by omega)
        rw [HLAST.out] at e
        have HN : Hid (New w (wr.setCell ⟨G, m / 8, none⟩ (.int .u8 (bits .and .u8 (J (l.getD (m / 8) 0) (r.getD (m / 8) 0) : Int) ((2 ^ (m % 8) - 1) % 256)))).drew 5 (.slice (some ⟨G, 0, none⟩) (need m) (need m)) ((mk F m).map fun x : Nat => .int .u8 x)) := by
          have B := (HB.out.set (F' := fun j => .int .u8 (pb F m j : Nat)) (m / 8) (.int .u8 (bits .and .u8 (J (l.getD (m / 8) 0) (r.getD (m / 8) 0) : Int) ((2 ^ (m % 8) - 1) % 256))) fun j hj => by
            by_cases hj' : j = m / 8
            · rw [if_pos hj', e, hj']
            · rw [if_neg hj', if_pos hj, HFULL.out j (by omega)]).drew
          exact New.ofRow B.1 B.2.1 B.2.2 (by simp [maxLen]; omega) (by simp [mk]) (fun j hj => by simp [mk, hj])
        generalize J (l.getD (m / 8) 0) (r.getD (m / 8) 0) = x at *
        clear HB ha hb HFULL HLAST HC HJB e hl hr
        go_wp2
        go_region
        go_wp2
        go_ret2
        exact ⟨_, rfl, HN.out⟩
end Go.Proofs.YteppfammimbmcaaDoor.Kit
