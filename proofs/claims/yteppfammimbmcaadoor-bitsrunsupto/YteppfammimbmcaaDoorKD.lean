import Derived.Test.YteppfammimbmcaaDoorKC
namespace Go.Proofs.YteppfammimbmcaaDoor.Kit
open Go.RowKit Go.Deep
set_option linter.unusedVariables false

theorem src_seventy (w : World) (G : Nat) (F : Nat → Value) (h : w.rowIs G 5 70 F) (h1 : ∀ j, (F j).oneCell' = true) : Src Tryd.prog 1 24 (.slice (some ⟨G, 0, none⟩) 70 70) 70 ((List.range 70).map F) w := by
  refine Src.ofSlice _ Tryd.underlying24 _ _ _ _ (by simp) ?_ (by intro u hu; obtain ⟨x, _, rfl⟩ := List.mem_map.1 hu; exact h1 x)
  intro j v hj
  have hjl : j < 70 := by have := (List.getElem?_eq_some_iff.1 hj).1; simpa using this
  rw [Addr.add_lit, Nat.zero_add, h.cell hjl]
  simp [hjl] at hj
  rw [hj]

theorem own_snoc {w : World} {v : Value} {n : Nat} {ys : List Bool} {b : Bool} (h : w.ownsRow 0 4 1 v n (cellsO ys ++ [.bool b])) : w.ownsRow 0 4 1 v n (cellsO (ys ++ [b])) := by
  have e : cellsO (ys ++ [b]) = cellsO ys ++ [.bool b] := by simp
  rw [e]; exact h
theorem src_bool_at (w : World) (G : Nat) (hG : w.heap.size = G) (u : Value) (hu : u.oneCell' = true) : Src Tryd.prog 1 25 (.slice (some ⟨G, 0, none⟩) 1 1) 1 [u] (w.alloc (.cells #[u] 4)) := by subst hG; exact src_bool w u hu
set_option maxRecDepth 100000 in
set_option maxHeartbeats 4000000 in
theorem spoil_form (err num : Int) (yes : Bool) (a1 a2 a3 : Option Addr) (n1 c1 n2 c2 n3 c3 : Nat) (xs : List Value) (ys : List Bool) (w : World) (hn1 : n1 ≤ 1000000000) (hn2 : n2 ≤ 1000000000) (h1 : w.ownsRow 0 5 1 (.slice a1 n1 c1) n1 xs) (h2 : w.ownsRow 0 4 1 (.slice a2 n2 c2) n2 (cellsO ys)) :
    Calls Tryd.prog 13 #[.agg #[.int .i64 err, .int .i64 num, .bool yes, .slice a1 n1 c1, .slice a2 n2 c2, .slice a3 n3 c3], .int .u8 81] w fun e w' => (∃ v, e = .returned v) ∧ Keeps w w' (fun k => (Value.slice a1 n1 c1).ownBlock = some k ∨ (Value.slice a2 n2 c2).ownBlock = some k) := by
  obtain ⟨o1, ho1⟩ : ∃ o1, o1 = (Value.slice a1 n1 c1).ownBlock := ⟨_, rfl⟩
  obtain ⟨o2, ho2⟩ : ∃ o2, o2 = (Value.slice a2 n2 c2).ownBlock := ⟨_, rfl⟩
  rw [← ho1, ← ho2]
  have HS : Hid (∃ xs ys, Spoil w w (w.alloc (.cells #[.int .i64 err, .int .i64 num, .bool yes, .slice a1 n1 c1, .slice a2 n2 c2, .slice a3 n3 c3] 28)) o1 o2 (.int .i64 err) (.int .i64 num) (.bool yes) (.slice a3 n3 c3) a1 a2 n1 c1 n2 c2 xs ys) :=
    ⟨xs, ys, heap_alloc_new w _, own_kept h1 (Keeps.none_alloc w _) fun _ _ => id, own_kept h2 (Keeps.none_alloc w _) fun _ _ => id, fun g hg => .inl (ho1.trans hg), fun g hg => .inl (ho2.trans hg), (Keeps.refl _ _).alloc _⟩
  have hmk : ∀ w, (Instr.makeSlice 24 (.int .i64 70) (.int .i64 70)).run Tryd.prog w = .ok (.slice (some ⟨w.heap.size, 0, none⟩) 70 70) (w.alloc (.cells (madeCells #[.int .u8 0] 70) 5)) := run_make_row' (P := Tryd.prog) 24 5 (.int .u8 0) 1 Tryd.underlying24 info5 rfl .i64 .i64 70 (by omega) (by omega)
  clear h1 h2 ho1 ho2
  go_enter Tryd.func13, Tryd.ntmps13
  go_wp2
  go_loopw [4] (fun i wr => ∃ k : Nat, k ≤ n1 ∧ i = .int .i64 k ∧ Hid (∃ xs ys, Spoil w w wr o1 o2 (.int .i64 err) (.int .i64 num) (.bool yes) (.slice a3 n3 c3) a1 a2 n1 c1 n2 c2 xs ys)) (fun i _ => n1 - (intOf i).toNat)
  case atStart => exact ⟨0, Nat.zero_le _, rfl, HS⟩
  case round =>
    clear HS
    obtain ⟨k, hk, rfl, HS⟩ := hrel
    obtain ⟨xs, ys, hS⟩ := HS.out
    have p3 := hS.p3
    have p4 := hS.p4
    have HSS : Hid (Spoil w w wr o1 o2 (.int .i64 err) (.int .i64 num) (.bool yes) (.slice a3 n3 c3) a1 a2 n1 c1 n2 c2 xs ys) := hS
    clear hS HS
    by_cases hlt : k < n1
    · obtain ⟨g, u, rfl, hc, _⟩ := row_cell HSS.out.r1 k hlt
      have hfz := own_frozen HSS.out.r1 k
      have HX : Hid (∀ u, ∃ xs ys, Spoil w w (wr.setCell ⟨g, k, none⟩ u) o1 o2 (.int .i64 err) (.int .i64 num) (.bool yes) (.slice a3 n3 c3) (some ⟨g, 0, none⟩) a2 n1 c1 n2 c2 xs ys) := fun u => ⟨_, _, HSS.out.set1 k hlt u⟩
      clear HSS
      go_wp2
      go_roundw
      case rel => exact ⟨k + 1, by omega, by go_num, HX.out _⟩
      case measure => simp [intOf]; omega
    · have HS2 : Hid (∃ xs ys, Spoil w w wr o1 o2 (.int .i64 err) (.int .i64 num) (.bool yes) (.slice a3 n3 c3) a1 a2 n1 c1 n2 c2 xs ys) := ⟨_, _, HSS.out⟩
      go_wp2
      go_loopw [5] (fun i wr => ∃ k : Nat, k ≤ n2 ∧ i = .int .i64 k ∧ Hid (∃ xs ys, Spoil w w wr o1 o2 (.int .i64 err) (.int .i64 num) (.bool yes) (.slice a3 n3 c3) a1 a2 n1 c1 n2 c2 xs ys)) (fun i _ => n2 - (intOf i).toNat)
      case atStart => exact ⟨0, Nat.zero_le _, rfl, HS2⟩
      case round =>
        clear HS2 HSS p3 p4
        obtain ⟨k, hk, rfl, HS⟩ := hrel
        obtain ⟨xs, ys, hS⟩ := HS.out
        have p3 := hS.p3
        have p4 := hS.p4
        rename World => wq
        have HSS : Hid (Spoil w w wq o1 o2 (.int .i64 err) (.int .i64 num) (.bool yes) (.slice a3 n3 c3) a1 a2 n1 c1 n2 c2 xs ys) := hS
        clear hS HS
        by_cases hlt : k < n2
        · obtain ⟨g, u, rfl, hc, hu⟩ := row_cell HSS.out.r2 k hlt
          obtain ⟨b, rfl⟩ : ∃ b, u = Value.bool b := by
            simp only [List.getElem?_map, Option.map_eq_some_iff] at hu
            obtain ⟨b, _, e⟩ := hu
            exact ⟨b, e.symm⟩
          have hfz := own_frozen HSS.out.r2 k
          have HX : Hid (∀ b, ∃ xs ys, Spoil w w (wq.setCell ⟨g, k, none⟩ (.bool b)).drew o1 o2 (.int .i64 err) (.int .i64 num) (.bool yes) (.slice a3 n3 c3) a1 (some ⟨g, 0, none⟩) n1 c1 n2 c2 xs ys) := fun b => ⟨_, _, (HSS.out.set2 k hlt b).drew⟩
          clear HSS hu
          go_wp2
          go_region
          go_wp2
          go_roundw
          case rel => exact ⟨k + 1, by omega, by go_num, HX.out _⟩
          case measure => simp [intOf]; omega
        · have HS3 : Hid (∃ (a1 a2 : Option Addr) (c1 c2 : Nat) (xs : List Value) (ys : List Bool), Spoil w w wq o1 o2 (.int .i64 err) (.int .i64 num) (.bool yes) (.slice a3 n3 c3) a1 a2 (n1 + 0) c1 (n2 + 0) c2 xs ys) := ⟨_, _, _, _, _, _, HSS.out⟩
          go_wp2
          go_loopw [6] (fun i wr => ∃ k : Nat, k ≤ 20 ∧ i = .int .i64 k ∧ Hid (∃ (a1 a2 : Option Addr) (c1 c2 : Nat) (xs : List Value) (ys : List Bool), Spoil w w wr o1 o2 (.int .i64 err) (.int .i64 num) (.bool yes) (.slice a3 n3 c3) a1 a2 (n1 + k) c1 (n2 + k) c2 xs ys)) (fun i _ => 20 - (intOf i).toNat)
          case atStart => exact ⟨0, Nat.zero_le _, rfl, HS3⟩
          case round =>
            clear HS3 HSS p3 p4
            obtain ⟨k, hk, rfl, HS⟩ := hrel
            obtain ⟨b1, b2, d1, d2, xs, ys, hS⟩ := HS.out
            rename World => wt
            have p3 := hS.p3
            have HSS : Hid (Spoil w w wt o1 o2 (.int .i64 err) (.int .i64 num) (.bool yes) (.slice a3 n3 c3) b1 b2 (n1 + k) d1 (n2 + k) d2 xs ys) := hS
            clear hS HS
            by_cases hlt : k < 20
            · go_wp2_with (first | (at_builtin; refine wpList_append_any _ rfl (.tmp 45) (.tmp 50) 24 24 rfl 5 (.int .u8 0) 1 Tryd.underlying24 info5 rfl _ _ _ rfl (HSS.out.r1.alloc _) _ _ _ rfl (src_byte wt _ rfl) ?h63 ?hby ?_))
              case h63 => omega
              case hby => omega
              intro v' w1 hown' hgrow hblk
              obtain ⟨b1', d1', rfl⟩ := own_form hown'
              obtain ⟨r3, s3, r4, hS1⟩ := HSS.out.app1 (Keeps.none_alloc wt _) hown' hgrow (by simpa using hblk)
              have HS1 : Hid (Spoil w w (w1.setCell ⟨w.heap.size, 3, none⟩ (.slice b1' (n1 + k + 1) d1')) o1 o2 (.int .i64 err) (.int .i64 num) (.bool yes) (.slice a3 n3 c3) b1' b2 (n1 + k + 1) d1' (n2 + k) d2 _ ys) := hS1
              clear hown' hgrow hblk hS1 HSS p3
              go_wp2_with (first | (at_builtin; refine wpList_append_any _ rfl (.tmp 54) (.tmp 61) 25 25 rfl 4 (.bool false) 1 Tryd.underlying25 info4 rfl _ _ _ rfl (HS1.out.r2.alloc _) _ _ _ rfl (src_bool_at _ _ (by simp) _ rfl) ?h63 ?hby ?_))
              case h63 => omega
              case hby => omega
              intro v2 w2 hown2 hgrow2 hblk2
              obtain ⟨b2', d2', rfl⟩ := own_form hown2
              have hown3 := own_snoc hown2
              obtain ⟨t4, u4, hS2⟩ := HS1.out.app2 (Keeps.none_alloc _ _) hown3 hgrow2 (by simpa using hblk2)
              have HS2 : Hid (∃ (a1 a2 : Option Addr) (c1 c2 : Nat) (xs : List Value) (ys : List Bool), Spoil w w (w2.setCell ⟨w.heap.size, 4, none⟩ (.slice b2' (n2 + k + 1) d2')) o1 o2 (.int .i64 err) (.int .i64 num) (.bool yes) (.slice a3 n3 c3) a1 a2 (n1 + (k + 1)) c1 (n2 + (k + 1)) c2 xs ys) := ⟨_, _, _, _, _, _, hS2⟩
              clear hown2 hown3 hgrow2 hblk2 hS2 HS1 r3 s3 r4
              go_wp2
              go_roundw
              case rel => exact ⟨k + 1, by omega, by go_num, HS2⟩
              case measure => simp [intOf]; omega
            · obtain rfl : k = 20 := by omega
              have p3a := fun o => cellAlloc o p3
              have HSA : Hid (∀ o, Keeps wt (wt.alloc o) (fun _ => False)) := fun o => Keeps.none_alloc wt o
              have HSR : Hid (Src Tryd.prog 1 24 (.slice (some ⟨wt.heap.size, 0, none⟩) 70 70) 70 ((List.range 70).map fun _ => .int .u8 0) (wt.alloc (.cells (madeCells #[.int .u8 0] 70) 5))) := src_seventy _ _ _ (World.rowIs_made wt (.int .u8 0) 70 5) (fun _ => rfl)
              go_wp2_with (first | (at_builtin; refine wpList_append_any _ rfl (.tmp 66) (.tmp 67) 24 24 rfl 5 (.int .u8 0) 1 Tryd.underlying24 info5 rfl _ _ _ rfl (HSS.out.r1.alloc _) _ _ _ rfl HSR.out ?h63 ?hby ?_))
              case h63 => omega
              case hby => omega
              intro v' w1 hown' hgrow hblk
              obtain ⟨b1', d1', rfl⟩ := own_form hown'
              obtain ⟨r3, s3, r4, hS1⟩ := HSS.out.app1 (Keeps.none_alloc wt _) hown' hgrow (by simpa using hblk)
              have HKF : Hid (Keeps w (w1.setCell ⟨w.heap.size, 3, none⟩ (.slice b1' (n1 + 20 + 70) d1')) (fun k => o1 = some k ∨ o2 = some k)) := hS1.keeps
              clear hown' hgrow hblk hS1 HSS HSA HSR
              go_wp2
              go_end0
              exact ⟨⟨_, rfl⟩, HKF.out⟩
end Go.Proofs.YteppfammimbmcaaDoor.Kit
