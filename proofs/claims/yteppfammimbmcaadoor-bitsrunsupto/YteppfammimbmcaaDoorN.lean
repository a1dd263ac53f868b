import Derived.Test.YteppfammimbmcaaDoorJ
import Derived.Test.YteppfammimbmcaaDoorKitTwo
import Derived.Test.YteppfammimbmcaaDoorData2
namespace Go.Proofs.YteppfammimbmcaaDoor.Kit
open Go.RowKit Go.Deep
set_option linter.unusedVariables false

/-- a row of one's own, its elements of several cells -/
def NewS (s : Nat) (w w' : World) (t : Nat) (v : Value) (n : Nat) (xs : List Value) : Prop :=
  w'.ownsRow 0 t s v n xs ∧ (∀ g, v.ownBlock = some g → w.heap.size ≤ g) ∧ Keeps w w' (fun _ => False)
theorem NewS.kept {s : Nat} {w wr w' : World} {t : Nat} {v : Value} {n : Nat} {xs : List Value} (h : NewS s w wr t v n xs) (k : Keeps wr w' (fun _ => False)) : NewS s w w' t v n xs :=
  ⟨own_kept h.1 k fun _ _ => id, h.2.1, h.2.2.trans k fun _ _ h => h⟩
theorem NewS.from {s : Nat} {w w1 w' : World} {t : Nat} {v : Value} {n : Nat} {xs : List Value} (k : Keeps w w1 (fun _ => False)) (h : NewS s w1 w' t v n xs) : NewS s w w' t v n xs :=
  ⟨h.1, fun g hg => Nat.le_trans k.size (h.2.1 g hg), k.trans h.2.2 fun _ _ h => h⟩
theorem NewS.nil (s : Nat) (w : World) (t : Nat) : NewS s w w t (.slice none 0 0) 0 [] := ⟨World.ownsRow_nil w 0 t s, fun g h => by simp [Value.ownBlock] at h, Keeps.refl _ _⟩
theorem NewS.empty (s : Nat) (w : World) (t : Nat) : NewS s w (w.alloc (.cells #[] t)) t (.slice (some ⟨w.heap.size, 0, none⟩) 0 0) 0 [] :=
  ⟨⟨by simp, .inr ⟨w.heap.size, 0, #[], rfl, Nat.zero_le _, heap_alloc_new w _, Nat.le_refl _, Nat.zero_le _, by simp, by simp⟩⟩, fun g h => by simp [Value.ownBlock] at h; omega, (Keeps.refl _ _).alloc _⟩
theorem NewS.step {s : Nat} {w wr W w1 : World} {t : Nat} {v v' : Value} {n n' : Nat} {xs ys : List Value} (h : NewS s w wr t v n xs) (hW : Keeps wr W (fun _ => False)) (hown' : w1.ownsRow 0 t s v' n' ys) (hgrow : W.grownBy w1 v.ownBlock)
    (hblk : v'.ownBlock = v.ownBlock ∨ ∀ g, v'.ownBlock = some g → W.heap.size ≤ g) : NewS s w w1 t v' n' ys := by
  refine ⟨hown', fun g hg => ?_, ?_⟩
  · rcases hblk with e | e
    · exact h.2.1 g (e.symm.trans hg)
    · have := e g hg; have := h.2.2.size; have := hW.size; omega
  · exact (h.2.2.trans hW fun _ _ h => h).trans (Keeps.ofGrown hgrow) fun j hj e => by have := h.2.1 j e; omega
/-- a store into the row -/
theorem NewS.set {s : Nat} {w wr : World} {t g n c : Nat} {xs : List Value} (h : NewS s w wr t (.slice (some ⟨g, 0, none⟩) n c) n xs) (j : Nat) (hj : j < n * s) (u : Value) :
    NewS s w (wr.setCell ⟨g, j, none⟩ u) t (.slice (some ⟨g, 0, none⟩) n c) n (xs.set j u) := by
  refine ⟨⟨by simpa using h.1.1, ?_⟩, h.2.1, h.2.2.setCell (p := ⟨g, j, none⟩) (fun hh => by have := h.2.1 g rfl; simp at hh; omega) u⟩
  rcases h.1.2 with ⟨e, _⟩ | ⟨g', cap, cur, e, hb', hgg, h1, h2, h3, h4⟩
  · simp at e
  · simp only [Value.slice.injEq, Option.some.injEq, Addr.mk.injEq, and_true, true_and] at e
    obtain ⟨rfl, rfl⟩ := e
    refine .inr ⟨g, c, cur.setIfInBounds j u, rfl, hb', heap_setCell_same wr g j cur t u hgg, h1, h2, by simpa using h3, ?_⟩
    rw [Array.toList_setIfInBounds, List.take_set, h4]
theorem info50 : (Tryd.prog.info? 50).map (fun i => (i.zero, i.size, i.bytes)) = some (some (.agg #[.int .i64 0, .int .i64 0]), 2, 16) := by kernel_rfl
theorem src_run (w : World) (a b : Int) : Src Tryd.prog 2 44 (.slice (some ⟨w.heap.size, 0, none⟩) 1 1) 1 [.int .i64 a, .int .i64 b] (w.alloc (.cells #[.int .i64 a, .int .i64 b] 50)) := by
  refine Src.ofSlice _ Tryd.underlying44 _ _ _ _ rfl ?_ (by simp [Value.oneCell'])
  intro j v hj
  match j, hj with
  | 0, hj => simp at hj; subst hj; simp [Addr.add]
  | 1, hj => simp at hj; subst hj; simp [Addr.add]

theorem rruns_neg (ao : Option Addr) (n ca : Nat) (fr m : Int) (h : fr < 0 ∨ m < 0) (w : World) :
    Calls Tryd.prog 16 #[.slice ao n ca, .int .i64 fr, .int .i64 m] w fun e w' => e = .returned (.slice none 0 0) ∧ w = w' := by
  go_enter Tryd.func16, Tryd.ntmps16
  go_wp2_with (go_at_call 35; refine (rlist_neg ao n ca fr m h _).mono ?_; rintro e w' ⟨rfl, rfl⟩)
  go_ret
  exact ⟨rfl, rfl⟩
theorem rruns_range (ao : Option Addr) (n ca : Nat) (hn : n ≤ 1152921504606846975) (fr m : Nat) (hfr : fr ≤ 9223372036854775807) (hm : m ≤ 9223372036854775807) (h : 8 * n < fr + m) (w : World) :
    Calls Tryd.prog 16 #[.slice ao n ca, .int .i64 fr, .int .i64 m] w fun e w' => e = .returned (.slice none 0 0) ∧ w = w' := by
  go_enter Tryd.func16, Tryd.ntmps16
  go_wp2_with (go_at_call 35; refine (rlist_range ao n ca hn fr m hfr hm h _).mono ?_; rintro e w' ⟨rfl, rfl⟩)
  go_ret
  exact ⟨rfl, rfl⟩
set_option maxRecDepth 100000 in
set_option maxHeartbeats 2000000 in
theorem rruns_ok (ao : Option Addr) (ca : Nat) (l : List Nat) (hl : Bytes l) (hn : l.length ≤ 10000000) (fr m : Nat) (h : fr + m ≤ 8 * l.length) (w : World) (hb : BytesAt w ao l) :
    Calls Tryd.prog 16 #[.slice ao l.length ca, .int .i64 fr, .int .i64 m] w fun e w' => ∃ v, e = .returned v ∧ NewS 2 w w' 50 v (rf (fun k => bitAt l (fr + k)) m).length (runCells (rf (fun k => bitAt l (fr + k)) m)) := by
  obtain ⟨f, HF⟩ : ∃ f : Nat → Bool, f = fun k => bitAt l (fr + k) := ⟨_, rfl⟩
  rw [← HF]
  go_enter Tryd.func16, Tryd.ntmps16
  go_wp2_with fail
  go_at_call 35
  refine (rlist_ok ao ca l hl hn fr m h _ hb).mono ?_
  rintro e w1 ⟨v, rfl, hN⟩
  have HK : Hid (Keeps w w1 (fun _ => False)) := hN.2.2
  obtain ⟨ao1, cap1, rfl, hb1⟩ := hN.bools
  rw [← HF] at hb1
  clear hN hb HF
  go_wp2
  have HN : Hid (NewS 2 w1 (w1.alloc (.cells #[] 50)) 50 (.slice (some ⟨w1.heap.size, 0, none⟩) 0 0) (rf f 0).length (runCells (rf f 0))) := NewS.empty 2 w1 50
  go_loopw [9, 10] (fun v i wr => ∃ (k c : Nat) (ao1 : Option Addr) (cap : Nat), k ≤ m ∧ c ≤ k ∧ i = .int .i64 k ∧ v = .slice ao1 c cap ∧ Hid ((rf f k).length = c ∧ NewS 2 w1 wr 50 (.slice ao1 c cap) c (runCells (rf f k)))) (fun _ i _ => m - (intOf i).toNat)
  case atStart => exact ⟨0, 0, _, _, by omega, by omega, rfl, rfl, rfl, HN⟩
  case round =>
    clear HN
    obtain ⟨k, c, ao2, cap, hk, hck, rfl, rfl, HN⟩ := hrel
    by_cases hlt : k < m
    · obtain ⟨b, off, rfl, hcs⟩ := (hb1.kept0 HN.out.2.2.2) (by omega)
      have hc := hcs k hlt
      clear hb1
      cases hfk : f k
      · rw [hfk] at hc
        have HN' : Hid ((rf f (k + 1)).length = c ∧ NewS 2 w1 wr 50 (.slice ao2 c cap) c (runCells (rf f (k + 1)))) := by rw [rf_no hfk]; exact HN
        clear HN hcs
        go_wp2
        go_roundw
        case rel => exact ⟨k + 1, c, ao2, cap, by omega, by omega, by go_num, rfl, HN'⟩
        case measure => simp [intOf]; omega
      · rw [hfk] at hc
        by_cases hpr : 0 < k ∧ f (k - 1) = true
        · have hc1 := hcs (k - 1) (by omega)
          rw [hpr.2] at hc1
          obtain ⟨k', rfl⟩ : ∃ k', k = k' + 1 := ⟨k - 1, by omega⟩
          simp only [Nat.add_sub_cancel] at hc1 hpr
          obtain ⟨L, x, y, HL, hxy⟩ := rf_last hpr.2
          have hne : rf f (k' + 1) ≠ [] := by rw [HL]; simp
          have hlen : c = L.length + 1 := by rw [← HN.out.1, HL]; simp
          obtain ⟨g, rfl⟩ : ∃ g, ao2 = some ⟨g, 0, none⟩ := by
            rcases HN.out.2.1.2 with ⟨e, h0⟩ | ⟨g, cap', cur, e, _⟩
            · omega
            · simp only [Value.slice.injEq, true_and] at e; exact ⟨g, e.1⟩
          have hcell : wr.cell? ⟨g, L.length * 2 + 1, none⟩ = some (.int .i64 y) := by
            have h1 := HN.out.2.1.cells (g := g) rfl (L.length * 2 + 1) (.int .i64 y)
            have h2 := (runCells_get (rf f (k' + 1)) L.length (by rw [HL]; simp)).2
            rw [HL] at h2
            rw [HL] at h1
            have := h1 (by rw [Nat.mul_comm, h2]; simp)
            simpa [Addr.add] using this
          have hfz : wr.frozen? ⟨g, L.length * 2 + 1, none⟩ = false := by
            rcases HN.out.2.1.2 with ⟨e, h0⟩ | ⟨g', cap', cur, e, _, hgg, _⟩
            · omega
            · simp only [Value.slice.injEq, Option.some.injEq, Addr.mk.injEq, and_true, true_and] at e
              obtain ⟨rfl, _⟩ := e
              exact frozen_of_row wr g _ _ _ hgg
          have HN' : Hid ((rf f (k' + 1 + 1)).length = c ∧ NewS 2 w1 (wr.setCell ⟨g, L.length * 2 + 1, none⟩ (.int .i64 ((y : Int) + 1))) 50 (.slice (some ⟨g, 0, none⟩) c cap) c (runCells (rf f (k' + 1 + 1)))) := by
            rw [rf_bump hfk (by omega) (by simpa using hpr.2)]
            refine ⟨by rw [← HN.out.1]; simp [bump], ?_⟩
            rw [runCells_bump _ hne]
            have h3 := HN.out.2.set (L.length * 2 + 1) (by omega) (.int .i64 ((y : Int) + 1))
            have e1 : (rf f (k' + 1)).length - 1 = L.length := by rw [HL]; simp
            rw [e1]
            have e2 : ((rf f (k' + 1)).getD L.length (0, 0)).2 = y := by rw [HL]; simp
            rw [e2, Nat.mul_comm 2]
            exact h3
          have hyb : y ≤ 100000000 := by omega
          have hcL : (c : Int) - 1 = (L.length : Int) := by omega
          have hcap : c ≤ cap := by
            rcases HN.out.2.1.2 with ⟨e, h0⟩ | ⟨g', cap', cur, e, _, _, h1, _⟩
            · omega
            · simp only [Value.slice.injEq, true_and] at e; omega
          generalize L.length = p at *
          clear HN hcs HL hne hxy
          go_wp2
          go_roundw
          case rel => exact ⟨k' + 1 + 1, c, _, _, by omega, by omega, by go_num, rfl, HN'⟩
          case measure => simp [intOf]; omega
        · have hpr' : k = 0 ∨ f (k - 1) = false := by
            by_cases h0 : k = 0
            · exact .inl h0
            · right; cases e : f (k - 1)
              · rfl
              · exact absurd ⟨by omega, e⟩ hpr
          have HE : Hid (rf f (k + 1) = rf f k ++ [(k, 1)]) := rf_new hfk hpr'
          by_cases h0 : k = 0
          · subst h0
            rw [Nat.add_zero] at hc
            clear hcs hpr hpr'
            go_wp2_with (first | (at_builtin; refine wpList_append_anyN _ rfl (.tmp 51) (.tmp 54) 44 44 rfl 50 (.agg #[.int .i64 0, .int .i64 0]) 2 16 Tryd.underlying44 info50 rfl _ _ _ rfl (HN.out.2.1.alloc _) _ _ _ rfl (src_run wr _ _) ?h63 ?hby ?_))
            case h63 => omega
            case hby => omega
            intro v' w3 hown' hgrow hblk
            obtain ⟨ao', cap', rfl⟩ := own_form hown'
            have HN' : Hid ((rf f (0 + 1)).length = c + 1 ∧ NewS 2 w1 w3 50 (.slice ao' (c + 1) cap') (c + 1) (runCells (rf f (0 + 1)))) := by
              rw [HE.out]
              refine ⟨by simp [HN.out.1], ?_⟩
              rw [runCells_snoc]
              exact HN.out.2.step (Keeps.none_alloc wr _) hown' hgrow (by simpa using hblk)
            clear hown' hgrow hblk HN HE
            go_wp2
            go_roundw
            case rel => exact ⟨0 + 1, c + 1, ao', cap', by omega, by omega, by go_num, rfl, HN'⟩
            case measure => simp [intOf]; omega
          · obtain ⟨k', rfl⟩ : ∃ k', k = k' + 1 := ⟨k - 1, by omega⟩
            have hc1 := hcs k' (by omega)
            have e0 : f k' = false := by
              rcases hpr' with e | e
              · omega
              · simpa using e
            rw [e0] at hc1
            clear hcs hpr hpr' e0
            go_wp2_with (first | (at_builtin; refine wpList_append_anyN _ rfl (.tmp 51) (.tmp 54) 44 44 rfl 50 (.agg #[.int .i64 0, .int .i64 0]) 2 16 Tryd.underlying44 info50 rfl _ _ _ rfl (HN.out.2.1.alloc _) _ _ _ rfl (src_run wr _ _) ?h63 ?hby ?_))
            case h63 => omega
            case hby => omega
            intro v' w3 hown' hgrow hblk
            obtain ⟨ao', cap', rfl⟩ := own_form hown'
            have HN' : Hid ((rf f (k' + 1 + 1)).length = c + 1 ∧ NewS 2 w1 w3 50 (.slice ao' (c + 1) cap') (c + 1) (runCells (rf f (k' + 1 + 1)))) := by
              rw [HE.out]
              refine ⟨by simp [HN.out.1], ?_⟩
              rw [runCells_snoc]
              exact HN.out.2.step (Keeps.none_alloc wr _) hown' hgrow (by simpa using hblk)
            clear hown' hgrow hblk HN HE
            go_wp2
            go_roundw
            case rel => exact ⟨k' + 1 + 1, c + 1, ao', cap', by omega, by omega, by go_num, rfl, HN'⟩
            case measure => simp [intOf]; omega
    · obtain rfl : k = m := by omega
      have HN' : Hid (NewS 2 w wr 50 (.slice ao2 c cap) (rf f k).length (runCells (rf f k))) := by
        show NewS _ _ _ _ _ _ _
        rw [HN.out.1]
        exact NewS.from HK.out HN.out.2
      clear HN hb1 HK
      go_wp2
      go_ret
      exact ⟨_, rfl, HN'.out⟩
end Go.Proofs.YteppfammimbmcaaDoor.Kit
