import Derived.Test.YteppfammimbmcaaDoorS
namespace Go.Proofs.YteppfammimbmcaaDoor.Kit
open Go.RowKit Go.Deep

structure Rep where
  err : Int
  num : Int
  yes : Bool
  bytes : List Nat
  bools : List Bool
  nums : List Int
abbrev cellsI (l : List Int) : List Value := l.map (Value.int .i64)
/-- a reply, its lists in memory of their own -/
def RepAt (base : Nat) (w : World) (rv : Value) (r : Rep) : Prop :=
  ∃ v1 v2 v3, rv = .agg #[.int .i64 r.err, .int .i64 r.num, .bool r.yes, v1, v2, v3] ∧ w.ownsRow 0 5 1 v1 r.bytes.length (cellsB r.bytes) ∧ w.ownsRow 0 4 1 v2 r.bools.length (cellsO r.bools) ∧ w.ownsRow 0 3 1 v3 r.nums.length (cellsI r.nums) ∧
    (∀ g, v1.ownBlock = some g ∨ v2.ownBlock = some g ∨ v3.ownBlock = some g → base ≤ g)
theorem RepAt.kept {base : Nat} {w w' : World} {rv : Value} {r : Rep} (h : RepAt base w rv r) (k : Keeps w w' (fun _ => False)) : RepAt base w' rv r := by
  obtain ⟨v1, v2, v3, e, h1, h2, h3, h4⟩ := h
  exact ⟨v1, v2, v3, e, own_kept h1 k fun _ _ => id, own_kept h2 k fun _ _ => id, own_kept h3 k fun _ _ => id, h4⟩
def Rep.small (r : Rep) : Prop := r.bytes.length ≤ 1000000000 ∧ r.bools.length ≤ 1000000000 ∧ r.nums.length ≤ 1000000000

theorem row_cell {w : World} {t : Nat} {ao : Option Addr} {cap n : Nat} {xs : List Value} (h : w.ownsRow 0 t 1 (.slice ao n cap) n xs) (k : Nat) (hk : k < n) : ∃ g v, ao = some ⟨g, 0, none⟩ ∧ w.cell? ⟨g, k, none⟩ = some v ∧ xs[k]? = some v := by
  rcases h.2 with ⟨e, h0⟩ | ⟨g, cap', cur, e, _⟩
  · omega
  · simp only [Value.slice.injEq, true_and] at e
    obtain ⟨rfl, rfl⟩ := e
    have hl := h.1
    refine ⟨g, xs[k]'(by omega), rfl, ?_, List.getElem?_eq_getElem _⟩
    rw [h.cellAt k (by omega), List.getElem?_eq_getElem (by omega)]

set_option maxRecDepth 100000 in
set_option maxHeartbeats 4000000 in
theorem alike_form (err num : Int) (yes : Bool) (a1 a2 a3 b1 b2 b3 : Option Addr) (c1 c2 c3 d1 d2 d3 n1 n2 n3 : Nat) (x1 : List Nat) (x2 : List Bool) (x3 : List Int) (w : World) (hn1 : n1 ≤ 1000000000) (hn2 : n2 ≤ 1000000000) (hn3 : n3 ≤ 1000000000)
    (hA1 : w.ownsRow 0 5 1 (.slice a1 n1 c1) n1 (cellsB x1)) (hB1 : w.ownsRow 0 5 1 (.slice b1 n1 d1) n1 (cellsB x1)) (hA2 : w.ownsRow 0 4 1 (.slice a2 n2 c2) n2 (cellsO x2)) (hB2 : w.ownsRow 0 4 1 (.slice b2 n2 d2) n2 (cellsO x2)) (hA3 : w.ownsRow 0 3 1 (.slice a3 n3 c3) n3 (cellsI x3)) (hB3 : w.ownsRow 0 3 1 (.slice b3 n3 d3) n3 (cellsI x3)) :
    Calls Tryd.prog 9 #[.agg #[.int .i64 err, .int .i64 num, .bool yes, .slice a1 n1 c1, .slice a2 n2 c2, .slice a3 n3 c3], .agg #[.int .i64 err, .int .i64 num, .bool yes, .slice b1 n1 d1, .slice b2 n2 d2, .slice b3 n3 d3]] w fun e w' => e = .returned (.bool true) ∧ Keeps w w' (fun _ => False) := by
  obtain ⟨W, hW⟩ : ∃ W, W = (w.alloc (.cells #[.int .i64 err, .int .i64 num, .bool yes, .slice a1 n1 c1, .slice a2 n2 c2, .slice a3 n3 c3] 28)).alloc (.cells #[.int .i64 err, .int .i64 num, .bool yes, .slice b1 n1 d1, .slice b2 n2 d2, .slice b3 n3 d3] 28) := ⟨_, rfl⟩
  have HK : Hid (Keeps w W (fun _ => False)) := by rw [hW]; exact ((Keeps.refl _ _).alloc _).alloc _
  have HA1 : Hid (W.ownsRow 0 5 1 (.slice a1 n1 c1) n1 (cellsB x1)) := own_kept hA1 HK.out fun _ _ => id
  have HB1 : Hid (W.ownsRow 0 5 1 (.slice b1 n1 d1) n1 (cellsB x1)) := own_kept hB1 HK.out fun _ _ => id
  have HA2 : Hid (W.ownsRow 0 4 1 (.slice a2 n2 c2) n2 (cellsO x2)) := own_kept hA2 HK.out fun _ _ => id
  have HB2 : Hid (W.ownsRow 0 4 1 (.slice b2 n2 d2) n2 (cellsO x2)) := own_kept hB2 HK.out fun _ _ => id
  have HA3 : Hid (W.ownsRow 0 3 1 (.slice a3 n3 c3) n3 (cellsI x3)) := own_kept hA3 HK.out fun _ _ => id
  have HB3 : Hid (W.ownsRow 0 3 1 (.slice b3 n3 d3) n3 (cellsI x3)) := own_kept hB3 HK.out fun _ _ => id
  have p3 : W.cell? ⟨w.heap.size, 3, none⟩ = some (.slice a1 n1 c1) := by rw [hW]; simp
  have p4 : W.cell? ⟨w.heap.size, 4, none⟩ = some (.slice a2 n2 c2) := by rw [hW]; simp
  have p5 : W.cell? ⟨w.heap.size, 5, none⟩ = some (.slice a3 n3 c3) := by rw [hW]; simp
  have q3 : W.cell? ⟨w.heap.size + 1, 3, none⟩ = some (.slice b1 n1 d1) := by rw [hW]; simp
  have q4 : W.cell? ⟨w.heap.size + 1, 4, none⟩ = some (.slice b2 n2 d2) := by rw [hW]; simp
  have q5 : W.cell? ⟨w.heap.size + 1, 5, none⟩ = some (.slice b3 n3 d3) := by rw [hW]; simp
  clear hA1 hA2 hA3 hB1 hB2 hB3
  go_enter Tryd.func9, Tryd.ntmps9
  go_wp2
  rw [← hW]
  clear hW
  generalize w.heap.size = B at *

  go_loopw [5] (fun i wr => ∃ k : Nat, k ≤ n1 ∧ i = .int .i64 k ∧ ∃ q, wr = W.drewN q) (fun i _ => n1 - (intOf i).toNat)
  case atStart => first | exact ⟨0, Nat.zero_le _, rfl, 0, rfl⟩ | exact ⟨0, Nat.zero_le _, rfl, _, rfl⟩
  case round =>
    obtain ⟨k, hk, rfl, q, rfl⟩ := hrel
    by_cases hlt : k < n1
    · obtain ⟨g, u, rfl, hc, hx⟩ := row_cell HA1.out k hlt
      obtain ⟨g', u', rfl, hc', hx'⟩ := row_cell HB1.out k hlt
      obtain rfl : u = u' := Option.some.inj (hx.symm.trans hx')
      obtain ⟨z, rfl⟩ : ∃ z, u = Value.int .u8 z := by
        simp only [List.getElem?_map, Option.map_eq_some_iff] at hx
        obtain ⟨z, _, e⟩ := hx
        exact ⟨_, e.symm⟩
      clear hx hx'
      go_wp2
      go_quiet (fail)
      go_wp2
      go_roundw
      case rel => exact ⟨k + 1, by omega, by go_num, _, rfl⟩
      case measure => simp [intOf]; omega
    · obtain rfl : k = n1 := by omega
      go_wp2
      go_loopw [6] (fun i wr => ∃ k : Nat, k ≤ n2 ∧ i = .int .i64 k ∧ ∃ q, wr = W.drewN q) (fun i _ => n2 - (intOf i).toNat)
      case atStart => first | exact ⟨0, Nat.zero_le _, rfl, 0, rfl⟩ | exact ⟨0, Nat.zero_le _, rfl, _, rfl⟩
      case round =>
        obtain ⟨k, hk, rfl, q, rfl⟩ := hrel
        by_cases hlt : k < n2
        · obtain ⟨g, u, rfl, hc, hx⟩ := row_cell HA2.out k hlt
          obtain ⟨g', u', rfl, hc', hx'⟩ := row_cell HB2.out k hlt
          obtain rfl : u = u' := Option.some.inj (hx.symm.trans hx')
          obtain ⟨z, rfl⟩ : ∃ z, u = Value.bool z := by
            simp only [List.getElem?_map, Option.map_eq_some_iff] at hx
            obtain ⟨z, _, e⟩ := hx
            exact ⟨_, e.symm⟩
          clear hx hx'
          go_wp2
          go_quiet (fail)
          go_wp2
          go_roundw
          case rel => exact ⟨k + 1, by omega, by go_num, _, rfl⟩
          case measure => simp [intOf]; omega
        · obtain rfl : k = n2 := by omega
          go_wp2
          go_loopw [7] (fun i wr => ∃ k : Nat, k ≤ n3 ∧ i = .int .i64 k ∧ ∃ q, wr = W.drewN q) (fun i _ => n3 - (intOf i).toNat)
          case atStart => first | exact ⟨0, Nat.zero_le _, rfl, 0, rfl⟩ | exact ⟨0, Nat.zero_le _, rfl, _, rfl⟩
          case round =>
            obtain ⟨k, hk, rfl, q, rfl⟩ := hrel
            by_cases hlt : k < n3
            · obtain ⟨g, u, rfl, hc, hx⟩ := row_cell HA3.out k hlt
              obtain ⟨g', u', rfl, hc', hx'⟩ := row_cell HB3.out k hlt
              obtain rfl : u = u' := Option.some.inj (hx.symm.trans hx')
              obtain ⟨z, rfl⟩ : ∃ z, u = Value.int .i64 z := by
                simp only [List.getElem?_map, Option.map_eq_some_iff] at hx
                obtain ⟨z, _, e⟩ := hx
                exact ⟨_, e.symm⟩
              clear hx hx'
              go_wp2
              go_quiet (fail)
              go_wp2
              go_roundw
              case rel => exact ⟨k + 1, by omega, by go_num, _, rfl⟩
              case measure => simp [intOf]; omega
            · obtain rfl : k = n3 := by omega
              go_wp2
              go_ret
              exact ⟨rfl, HK.out.drewN _⟩

theorem alike_all (a b : Value) (r : Rep) (base base' : Nat) (w : World) (hs : r.small) (hA : RepAt base w a r) (hB : RepAt base' w b r) :
    Calls Tryd.prog 9 #[a, b] w fun e w' => e = .returned (.bool true) ∧ Keeps w w' (fun _ => False) := by
  obtain ⟨v1, v2, v3, rfl, h1, h2, h3, _⟩ := hA
  obtain ⟨u1, u2, u3, rfl, g1, g2, g3, _⟩ := hB
  obtain ⟨a1, c1, rfl⟩ := own_form h1
  obtain ⟨a2, c2, rfl⟩ := own_form h2
  obtain ⟨a3, c3, rfl⟩ := own_form h3
  obtain ⟨b1, d1, rfl⟩ := own_form g1
  obtain ⟨b2, d2, rfl⟩ := own_form g2
  obtain ⟨b3, d3, rfl⟩ := own_form g3
  exact alike_form _ _ _ a1 a2 a3 b1 b2 b3 c1 c2 c3 d1 d2 d3 _ _ _ _ _ _ w hs.1 hs.2.1 hs.2.2 h1 g1 h2 g2 h3 g3

theorem fixed_any (w : World) (hT : Tab w) : Calls Tryd.prog 10 #[] w fun e w' => e = .returned (.bool true) ∧ Keeps w w' (fun _ => False) := by
  have hM : MapAt (w.alloc (.cells #[.int .u8 246, .int .u8 1] 5)) (.slice (some ⟨w.heap.size, 0, none⟩) 2 2) [246, 1] := by
    refine ⟨⟨_, 2, rfl, fun _ => ⟨_, _, rfl, fun k hk => ?_⟩, by simp, by omega⟩, fun x hx => by simp at hx; omega, by simp⟩
    match k, hk with
    | 0, _ => simp
    | 1, _ => simp
  have hc := count_all _ [246, 1] 4 5 ⟨by decide, by decide⟩ ⟨by decide, by decide⟩ _ (hT.kept (Keeps.none_alloc w _) id) hM
  have e1 : countV [246, 1] 4 5 = 5 := by decide
  have e2 : errOf [246, 1].length 4 5 = 0 := by decide
  rw [e1, e2] at hc
  clear e1 e2
  go_enter Tryd.func10, Tryd.ntmps10
  go_wp2_with (go_at_call 19; refine hc.mono ?_; rintro e w' ⟨rfl, hk⟩)
  go_ret
  exact ⟨rfl, (Keeps.none_alloc w _).trans hk fun _ _ h => h⟩
end Go.Proofs.YteppfammimbmcaaDoor.Kit
