import Derived.Test.YteppfammimbmcaaDoorJ
namespace Go.Proofs.YteppfammimbmcaaDoor.Kit
open Go.RowKit Go.Deep

theorem rjoined_neg (how : Int) (ao bo : Option Addr) (n ca n' cb : Nat) (m : Int) (h : m < 0) (w : World) :
    Calls Tryd.prog 37 #[.int .i64 how, .slice ao n ca, .slice bo n' cb, .int .i64 m] w fun e w' => e = .returned (.tuple #[.slice none 0 0, .int .i64 1]) ∧ w = w' := by
  go_enter Tryd.func37, Tryd.ntmps37
  go_wp2_with (go_at_call 35; refine (rlist_neg ao n ca 0 m (.inr h) _).mono ?_; rintro e w' ⟨rfl, rfl⟩)
  go_ret2
  exact ⟨rfl, rfl⟩
theorem rjoined_range (how : Int) (ao bo : Option Addr) (ca n' cb : Nat) (l : List Nat) (hl : Bytes l) (hn : l.length ≤ 10000000) (hn' : n' ≤ 1152921504606846975) (m : Nat) (hm : m ≤ 9223372036854775807) (h : 8 * l.length < m ∨ 8 * n' < m) (w : World) (ha : BytesAt w ao l) :
    Calls Tryd.prog 37 #[.int .i64 how, .slice ao l.length ca, .slice bo n' cb, .int .i64 m] w fun e w' => e = .returned (.tuple #[.slice none 0 0, .int .i64 2]) ∧ Keeps w w' (fun _ => False) := by
  by_cases h1 : 8 * l.length < m
  · go_enter Tryd.func37, Tryd.ntmps37
    go_wp2_with (go_at_call 35; refine (rlist_range ao l.length ca (by omega) 0 m (by omega) hm (by omega) _).mono ?_; rintro e w' ⟨rfl, rfl⟩)
    go_ret2
    exact ⟨rfl, Keeps.refl _ _⟩
  · go_enter Tryd.func37, Tryd.ntmps37
    go_wp2_with fail
    go_at_call 35
    refine (rlist_ok ao ca l hl hn 0 m (by omega) _ ha).mono ?_
    rintro e w1 ⟨v, rfl, hN⟩
    have HK : Hid (Keeps w w1 (fun _ => False)) := hN.2.2
    obtain ⟨ao1, cap1, rfl, hb1⟩ := hN.boolsAt
    clear hN ha hb1
    go_wp2_with (go_at_call 35; refine (rlist_range bo n' cb (by omega) 0 m (by omega) hm (by omega) _).mono ?_; rintro e w' ⟨rfl, rfl⟩)
    go_ret2
    exact ⟨rfl, HK.out⟩

set_option maxRecDepth 100000 in
set_option maxHeartbeats 2000000 in
theorem rjoined_and (ao bo : Option Addr) (ca cb : Nat) (l r : List Nat) (hl : Bytes l) (hr : Bytes r) (hn : l.length ≤ 10000000) (hn' : r.length ≤ 10000000) (m : Nat) (h : m ≤ 8 * l.length) (h' : m ≤ 8 * r.length) (w : World) (ha : BytesAt w ao l) (hb : BytesAt w bo r) :
    Calls Tryd.prog 37 #[.int .i64 0, .slice ao l.length ca, .slice bo r.length cb, .int .i64 m] w fun e w' => ∃ v, e = .returned (.tuple #[v, .int .i64 0]) ∧ New w w' 5 v ((mk (fun k => bitAt l k && bitAt r k) m).map fun x : Nat => .int .u8 x) := by
  obtain ⟨F, HF⟩ : ∃ F : Nat → Bool, F = fun k => bitAt l k && bitAt r k := ⟨_, rfl⟩
  have HFF : Hid (∀ k, F k = (bitAt l k && bitAt r k)) := by rw [HF]; exact fun _ => rfl
  rw [← HF]
  clear HF
  go_enter Tryd.func37, Tryd.ntmps37
  go_wp2_with fail
  go_at_call 35
  refine (rlist_ok ao ca l hl hn 0 m (by omega) _ ha).mono ?_
  rintro e w1 ⟨v, rfl, hN⟩
  have HK : Hid (Keeps w w1 (fun _ => False)) := hN.2.2
  obtain ⟨ao1, cap1, rfl, hb1⟩ := hN.boolsAt
  have hb' : BytesAt w1 bo r := hb.kept0 hN.2.2
  clear hN ha hb
  go_wp2_with fail
  go_at_call 35
  refine (rlist_ok bo cb r hr hn' 0 m (by omega) _ hb').mono ?_
  rintro e w2 ⟨v, rfl, hN⟩
  have HK2 : Hid (Keeps w w2 (fun _ => False)) := HK.out.trans hN.2.2 fun _ _ h => h
  obtain ⟨ao2, cap2, rfl, hb2⟩ := hN.boolsAt
  have hb1' : BoolsAt w2 ao1 m (bitAt l) := hb1.kept0 hN.2.2
  clear hN hb' hb1 HK
  go_wp2
  have HN : Hid (New w2 (w2.alloc (.cells #[] 4)) 4 (.slice (some ⟨w2.heap.size, 0, none⟩) 0 0) (bools F 0 0)) := New.empty w2 4
  go_loopw [14, 15] (fun v i wr => ∃ (k : Nat) (ao1 : Option Addr) (cap : Nat), k ≤ m ∧ i = .int .i64 k ∧ v = .slice ao1 k cap ∧ Hid (New w2 wr 4 (.slice ao1 k cap) (bools F 0 k))) (fun _ i _ => m - (intOf i).toNat)
  case atStart => exact ⟨0, _, _, by omega, rfl, rfl, HN⟩
  case round =>
    clear HN
    obtain ⟨k, ao3, cap, hk, rfl, rfl, HN⟩ := hrel
    by_cases hlt : k < m
    · obtain ⟨b, off, rfl, hcs⟩ := (hb1'.kept0 HN.out.2.2) (by omega)
      obtain ⟨b', off', rfl, hcs'⟩ := (hb2.kept0 HN.out.2.2) (by omega)
      have hc := hcs k hlt
      have hc' := hcs' k hlt
      have HV0 : Hid ([Value.bool (bitAt l k && bitAt r k)] = [Value.bool (F (0 + k))]) := by show _ = _; rw [Nat.zero_add, HFF.out]
      clear hb1' hb2 hcs hcs'
      generalize bitAt l k = x at hc HV0
      generalize bitAt r k = y at hc' HV0
      cases x
      · cases y
        · have HV : Hid ([Value.bool (false)] = [Value.bool (F (0 + k))]) := HV0
          go_wp2_with (first | (at_builtin; refine wpList_append_any _ rfl (.tmp 55) (.tmp 66) 25 25 rfl 4 (.bool false) 1 Tryd.underlying25 info4 rfl _ _ _ rfl ((HN.out.own (bools_length _ _ _)).alloc _) _ _ _ rfl (src_bool wr _ rfl) ?h63 ?hby ?_))
          case h63 => omega
          case hby => omega
          intro v' w3 hown' hgrow hblk
          obtain ⟨ao', cap', rfl⟩ := own_form hown'
          have HN' : Hid (New w2 w3 4 (.slice ao' (k + 1) cap') (bools F 0 (k + 1))) := by
            rw [HV.out, ← bools_succ] at hown'
            exact HN.out.step (Keeps.none_alloc wr _) hown' (bools_length _ _ _) hgrow (by simpa using hblk)
          clear hown' hgrow hblk HN
          go_wp2
          go_roundw
          case rel => exact ⟨k + 1, ao', cap', by omega, by go_num, rfl, HN'⟩
          case measure => simp [intOf]; omega

        · have HV : Hid ([Value.bool (false)] = [Value.bool (F (0 + k))]) := HV0
          go_wp2_with (first | (at_builtin; refine wpList_append_any _ rfl (.tmp 55) (.tmp 66) 25 25 rfl 4 (.bool false) 1 Tryd.underlying25 info4 rfl _ _ _ rfl ((HN.out.own (bools_length _ _ _)).alloc _) _ _ _ rfl (src_bool wr _ rfl) ?h63 ?hby ?_))
          case h63 => omega
          case hby => omega
          intro v' w3 hown' hgrow hblk
          obtain ⟨ao', cap', rfl⟩ := own_form hown'
          have HN' : Hid (New w2 w3 4 (.slice ao' (k + 1) cap') (bools F 0 (k + 1))) := by
            rw [HV.out, ← bools_succ] at hown'
            exact HN.out.step (Keeps.none_alloc wr _) hown' (bools_length _ _ _) hgrow (by simpa using hblk)
          clear hown' hgrow hblk HN
          go_wp2
          go_roundw
          case rel => exact ⟨k + 1, ao', cap', by omega, by go_num, rfl, HN'⟩
          case measure => simp [intOf]; omega

      · cases y
        · have HV : Hid ([Value.bool (false)] = [Value.bool (F (0 + k))]) := HV0
          go_wp2_with (first | (at_builtin; refine wpList_append_any _ rfl (.tmp 55) (.tmp 66) 25 25 rfl 4 (.bool false) 1 Tryd.underlying25 info4 rfl _ _ _ rfl ((HN.out.own (bools_length _ _ _)).alloc _) _ _ _ rfl (src_bool wr _ rfl) ?h63 ?hby ?_))
          case h63 => omega
          case hby => omega
          intro v' w3 hown' hgrow hblk
          obtain ⟨ao', cap', rfl⟩ := own_form hown'
          have HN' : Hid (New w2 w3 4 (.slice ao' (k + 1) cap') (bools F 0 (k + 1))) := by
            rw [HV.out, ← bools_succ] at hown'
            exact HN.out.step (Keeps.none_alloc wr _) hown' (bools_length _ _ _) hgrow (by simpa using hblk)
          clear hown' hgrow hblk HN
          go_wp2
          go_roundw
          case rel => exact ⟨k + 1, ao', cap', by omega, by go_num, rfl, HN'⟩
          case measure => simp [intOf]; omega

        · have HV : Hid ([Value.bool (true)] = [Value.bool (F (0 + k))]) := HV0
          go_wp2_with (first | (at_builtin; refine wpList_append_any _ rfl (.tmp 55) (.tmp 66) 25 25 rfl 4 (.bool false) 1 Tryd.underlying25 info4 rfl _ _ _ rfl ((HN.out.own (bools_length _ _ _)).alloc _) _ _ _ rfl (src_bool wr _ rfl) ?h63 ?hby ?_))
          case h63 => omega
          case hby => omega
          intro v' w3 hown' hgrow hblk
          obtain ⟨ao', cap', rfl⟩ := own_form hown'
          have HN' : Hid (New w2 w3 4 (.slice ao' (k + 1) cap') (bools F 0 (k + 1))) := by
            rw [HV.out, ← bools_succ] at hown'
            exact HN.out.step (Keeps.none_alloc wr _) hown' (bools_length _ _ _) hgrow (by simpa using hblk)
          clear hown' hgrow hblk HN
          go_wp2
          go_roundw
          case rel => exact ⟨k + 1, ao', cap', by omega, by go_num, rfl, HN'⟩
          case measure => simp [intOf]; omega


    · obtain rfl : k = m := by omega
      obtain ⟨ao4, cap4, he, hb3⟩ := HN.out.boolsAt
      simp only [Value.slice.injEq, true_and] at he
      obtain ⟨rfl, rfl⟩ := he
      have HK3 : Hid (Keeps w wr (fun _ => False)) := HK2.out.trans HN.out.2.2 fun _ _ h => h
      clear hb1' hb2 HN HK2
      go_wp2_with fail
      go_at_call 34
      refine (rmake_any ao3 k cap _ (by omega) _ hb3).mono ?_
      rintro e w4 ⟨v, rfl, hN⟩
      have HN : Hid (New w w4 5 v ((mk F k).map fun x : Nat => .int .u8 x)) := New.from HK3.out hN
      clear hN HK3 hb3
      go_wp2
      go_ret2
      exact ⟨_, rfl, HN.out⟩
end Go.Proofs.YteppfammimbmcaaDoor.Kit
