import Derived.Test.YtomlndoffoeaiaaInkF
namespace Go.Proofs.Ytomlndoffoeaiaa.Kit
open Go.RowKit Go.Deep

theorem BytesAt.ofOwn {w : World} {ao : Option Addr} {n cap : Nat} {l : List Int} (hl : l.length = n) (h : w.ownsRow 0 5 1 (.slice ao n cap) n (l.map (Value.int .u8))) : BytesAt w ao n l := by
  intro hn
  rcases h.2 with ⟨_, h0⟩ | ⟨g, cap', cur, e, _⟩
  · omega
  · simp only [Value.slice.injEq, true_and] at e
    obtain ⟨rfl, rfl⟩ := e
    refine ⟨g, 0, rfl, fun k hk => ?_⟩
    rw [Nat.zero_add, h.cellAt k (by omega)]
    simp [List.getElem?_eq_getElem (show k < l.length by omega)]
theorem BytesAt.ofRow {w : World} {g n : Nat} {l : List Int} (hl : l.length = n) (h : OwnRow w g 5 (l.map (Value.int .u8))) : BytesAt w (some ⟨g, 0, none⟩) n l := by
  intro hn
  refine ⟨g, 0, rfl, fun k hk => ?_⟩
  rw [Nat.zero_add]
  exact h.cell (by simp [List.getElem?_eq_getElem (show k < l.length by omega)])
theorem BytesAt.drewN {w : World} {ao : Option Addr} {n : Nat} {l : List Int} (h : BytesAt w ao n l) (q : Nat) : BytesAt (w.drewN q) ao n l := h

theorem Marking.drewN {w wr : World} {g n k : Nat} {m : Int} (h : Marking w wr g n k m) (q : Nat) : Marking w (wr.drewN q) g n k m := by
  obtain ⟨L, hO, hl, hm, hK, hg⟩ := h
  exact ⟨L, hO, hl, hm, hK.drewN q, hg⟩

/-- both inks, in a world where nothing that was there has turned -/
def Both (w wr : World) (p r : Nat) (go gr : Option Nat) (most most' : Int) (bs : List Int) : Prop := InkAt wr 115 p go most bs ∧ InkAt wr 117 r gr most' bs ∧ Keeps w wr (fun _ => False)
theorem Both.kept {w wr w' : World} {p r : Nat} {go gr : Option Nat} {most most' : Int} {bs : List Int} (h : Both w wr p r go gr most most' bs) (hk : Keeps wr w' (fun _ => False)) : Both w w' p r go gr most most' bs :=
  ⟨h.1.kept hk id (fun _ _ => id), h.2.1.kept hk id (fun _ _ => id), h.2.2.trans hk fun _ _ h => h⟩
theorem Both.marked {w wr w' : World} {p r : Nat} {go gr : Option Nat} {most most' : Int} {bs : List Int} {v : Value} {n : Nat} {m : Int} (h : Both w wr p r go gr most most' bs) (hm : Marked wr w' v n m) : Both w w' p r go gr most most' bs := h.kept hm.2.2

theorem Keeps.below_none {w w' : World} (h : Below w.heap.size w w') : Keeps w w' (fun _ => False) := ⟨h.os, h.tape, h.output, h.size, fun k hk _ => h.block k hk⟩

theorem len_quiet (p : Nat) (ao : Option Addr) (n cap : Nat) (w : World) (k : Nat) (h0 : w.cell? ⟨p, 0, none⟩ = some (.slice ao n cap)) :
    Calls Try.prog 57 #[.pointer (some ⟨p, 0, none⟩)] (w.drewN k) fun e w' => e = .returned (.int .i64 n) ∧ ∃ m, w' = w.drewN m :=
  (len_any p ao n cap (w.drewN k) (by simpa using h0)).mono fun _ _ ⟨he, hw⟩ => ⟨he, k, hw.symm⟩

set_option maxRecDepth 100000 in
set_option maxHeartbeats 4000000 in
theorem inked_all (p r : Nat) (go gr : Option Nat) (most most' : Int) (bs : List Int) (w : World) (hI : InkAt w 115 p go most bs) (hR : InkAt w 117 r gr most' bs) (hlen : bs.length ≤ 16777216) :
    Calls Try.prog 32 #[.pointer (some ⟨p, 0, none⟩), .pointer (some ⟨r, 0, none⟩)] w fun e w' => e = .returned (.bool true) ∧ Keeps w w' (fun _ => False) := by
  have HB : Hid (Both w w p r go gr most most' bs) := ⟨hI, hR, Keeps.refl _ _⟩
  clear hI hR
  go_enter Try.func32, Try.ntmps32
  go_wp2_with fail
  go_at_call 23
  refine (bytes_any p go most bs _ HB.out.1 hlen).mono ?_
  rintro e w1 ⟨rfl, hO1, hB1⟩
  have HB1 : Hid (Both w w1 p r go gr most most' bs) := HB.out.kept (Keeps.below_none hB1)
  have HM1 : Hid (Marking w w1 w.heap.size bs.length 0 200) := Marking.start hO1 (Keeps.refl _ _) hB1 200
  have HY1 : Hid (BytesAt w1 (some ⟨w.heap.size, 0, none⟩) bs.length bs) := BytesAt.ofRow rfl hO1
  clear hO1 hB1
  obtain ⟨ai, ci, HFi, hi0, _, _⟩ := HB1.out.1.open
  obtain ⟨ar, cr, HFr, hr0, _, _⟩ := HB1.out.2.1.open
  go_wp2_with fail
  go_at_call 47
  refine (same_all _ _ _ _ _ bs _ (by omega) HY1.out (BytesAt.ofOwn rfl HFr.out.2.1)).mono ?_
  rintro e w2 ⟨rfl, q, hw2⟩
  have HB2 : Hid (Both w w2 p r go gr most most' bs) := by rw [hw2]; exact HB1.out.kept ((Keeps.refl _ _).drewN _)
  have HM2 : Hid (Marking w w2 w.heap.size bs.length 0 200) := by rw [hw2]; exact HM1.out.drewN q
  clear HB1 HM1 HY1 HFi HFr hi0 hr0 hw2
  obtain ⟨ai, ci, HFi, hi0, _, _⟩ := HB2.out.1.open
  obtain ⟨ar, cr, HFr, hr0, _, _⟩ := HB2.out.2.1.open
  go_wp2
  go_quiet ((go_at_call 57; exact len_quiet p ai bs.length ci _ _ hi0))
  go_wp2
  have HM3 : Hid (Marking w (w2.drewN nq) w.heap.size bs.length 0 200) := HM2.out.drewN nq
  clear HM2 HB2 HFi HFr hi0 hr0
  go_loopw [7] (fun i wr => ∃ k : Nat, k ≤ bs.length ∧ i = .int .i64 k ∧ Hid (Marking w wr w.heap.size bs.length k 200)) (fun i _ => bs.length - (intOf i).toNat)
  case atStart => exact ⟨0, Nat.zero_le _, rfl, HM3⟩
  case round =>
    obtain ⟨k, hk, rfl, HM⟩ := hrel
    by_cases hlt : k < bs.length
    · obtain ⟨v, hc, hf, HM'⟩ := HM.out.open hlt
      clear HM
      go_wp2
      go_roundw
      case rel => exact ⟨k + 1, by omega, by go_num, HM'⟩
      case measure => simp [intOf]; omega
    · obtain rfl : k = bs.length := by omega
      have HK : Hid (Marked w wr (.slice (some ⟨w.heap.size, 0, none⟩) bs.length bs.length) bs.length 200) := HM.out.done (by simp [maxLen]; omega)
      clear HM HM3
      go_wp2
      go_loopw [5, 8] (fun v i wr => ∃ (k : Nat) (ao : Option Addr) (cap : Nat), k ≤ 9 ∧ i = .int .i64 k ∧ v = .slice ao (bs.length + k) cap ∧ Hid (Marked w wr (.slice ao (bs.length + k) cap) (bs.length + k) 200)) (fun _ i _ => 9 - (intOf i).toNat)
      case atStart => exact ⟨0, _, _, by omega, rfl, rfl, HK⟩
      case round =>
        clear HK
        obtain ⟨k, ao, cap, hk9, rfl, rfl, HK⟩ := hrel
        by_cases hlt : k < 9
        · go_wp2_with (first | (at_builtin; refine wpList_append_any _ rfl (.tmp 48) (.tmp 49) 22 22 rfl 5 (.int .u8 0) 1 Try.underlying22 info5 rfl _ _ _ rfl (HK.out.1.alloc _) _ _ _ rfl (src_one wr _ rfl) ?h63 ?hby ?_))
          case h63 => omega
          case hby => omega
          intro v' w1 hown' hgrow hblk
          obtain ⟨ao', cap', rfl⟩ := own_form hown'
          have HK' : Hid (Marked w w1 (.slice ao' (bs.length + k + 1) cap') (bs.length + k + 1) 200) := HK.out.step (Keeps.none_alloc wr _) (by simpa using hown') hgrow (by simpa using hblk)
          clear hown' hgrow hblk
          go_wp2
          go_roundw
          case rel => exact ⟨k + 1, ao', cap', by omega, by go_num, rfl, HK'⟩
          case measure => simp [intOf]; omega
        · obtain rfl : k = 9 := by omega
          rename World => wa
          have HBa : Hid (Both w wa p r go gr most most' bs) := HB.out.marked HK.out
          go_wp2_with fail
          go_at_call 23
          refine (bytes_any p go most bs _ HBa.out.1 hlen).mono ?_
          rintro e w3 ⟨rfl, hO3, hB3⟩
          have HB3 : Hid (Both w w3 p r go gr most most' bs) := HBa.out.kept (Keeps.below_none hB3)
          have HM3 : Hid (Marking wa w3 wa.heap.size bs.length 0 201) := Marking.start hO3 (Keeps.refl _ _) hB3 201
          have HK3 : Hid (Marked w w3 (.slice ao (bs.length + 9) cap) (bs.length + 9) 200) := HK.out.kept (Keeps.below_none hB3)
          have HY3 : Hid (BytesAt w3 (some ⟨wa.heap.size, 0, none⟩) bs.length bs) := BytesAt.ofRow rfl hO3
          clear hO3 hB3
          obtain ⟨ar, cr, HFr, hr0, _, _⟩ := HB3.out.2.1.open
          go_wp2_with fail
          go_at_call 47
          refine (same_all _ _ _ _ _ bs _ (by omega) HY3.out (BytesAt.ofOwn rfl HFr.out.2.1)).mono ?_
          rintro e w4 ⟨rfl, q4, hw4⟩
          have HM4 : Hid (Marking wa w4 wa.heap.size bs.length 0 201) := by rw [hw4]; exact HM3.out.drewN q4
          have HK4 : Hid (Marked w w4 (.slice ao (bs.length + 9) cap) (bs.length + 9) 200) := by rw [hw4]; exact HK3.out.kept ((Keeps.refl _ _).drewN _)
          clear HB3 HM3 HK3 HY3 HFr hr0 hw4
          go_wp2_with (first | (go_at_call 58; refine (full_all w _ _ (bs.length + 9) 200 (by omega) HK4.out).mono ?_; rintro e w' ⟨rfl, rfl⟩))
          go_loopw [11] (fun i wq => ∃ k : Nat, k ≤ bs.length ∧ i = .int .i64 k ∧ Hid (Marking wa wq wa.heap.size bs.length k 201)) (fun i _ => bs.length - (intOf i).toNat)
          case atStart => exact ⟨0, Nat.zero_le _, rfl, HM4⟩
          case round =>
            clear HM4 HK4
            obtain ⟨k, hk, rfl, HM⟩ := hrel
            by_cases hlt : k < bs.length
            · obtain ⟨v, hc, hf, HM'⟩ := HM.out.open hlt
              clear HM
              go_wp2
              go_roundw
              case rel => exact ⟨k + 1, by omega, by go_num, HM'⟩
              case measure => simp [intOf]; omega
            · obtain rfl : k = bs.length := by omega
              have HC := HM.out.done (by simp [maxLen]; omega)
              have HC : Hid (Marked wa _ (.slice (some ⟨wa.heap.size, 0, none⟩) bs.length bs.length) bs.length 201) := HC
              clear HM
              go_wp2
              go_loopw [9, 12] (fun v i wq => ∃ (k : Nat) (ao : Option Addr) (cap : Nat), k ≤ 9 ∧ i = .int .i64 k ∧ v = .slice ao (bs.length + k) cap ∧ Hid (Marked wa wq (.slice ao (bs.length + k) cap) (bs.length + k) 201)) (fun _ i _ => 9 - (intOf i).toNat)
              case atStart => exact ⟨0, _, _, by omega, rfl, rfl, HC⟩
              case round =>
                clear HC
                obtain ⟨k, ao2, cap2, hk9, rfl, rfl, HC⟩ := hrel
                by_cases hlt : k < 9
                · go_wp2_with (first | (at_builtin; refine wpList_append_any _ rfl (.tmp 80) (.tmp 81) 22 22 rfl 5 (.int .u8 0) 1 Try.underlying22 info5 rfl _ _ _ rfl (HC.out.1.alloc _) _ _ _ rfl (src_one wr _ rfl) ?h63c ?hbyc ?_))
                  case h63c => omega
                  case hbyc => omega
                  intro v' w1 hown' hgrow hblk
                  obtain ⟨ao', cap', rfl⟩ := own_form hown'
                  have HC' : Hid (Marked wa w1 (.slice ao' (bs.length + k + 1) cap') (bs.length + k + 1) 201) := HC.out.step (Keeps.none_alloc wr _) (by simpa using hown') hgrow (by simpa using hblk)
                  clear hown' hgrow hblk
                  go_wp2
                  go_roundw
                  case rel => exact ⟨k + 1, ao', cap', by omega, by go_num, rfl, HC'⟩
                  case measure => simp [intOf]; omega
                · obtain rfl : k = 9 := by omega
                  rename World => wb
                  have HBb : Hid (Both w wb p r go gr most most' bs) := HBa.out.kept HC.out.2.2
                  have HKb : Hid (Marked w wb (.slice ao (bs.length + 9) cap) (bs.length + 9) 200) := HK.out.kept HC.out.2.2
                  go_wp2_with fail
                  go_at_call 23
                  refine (bytes_any p go most bs _ HBb.out.1 hlen).mono ?_
                  rintro e w5 ⟨rfl, hO5, hB5⟩
                  have HB5 : Hid (Both w w5 p r go gr most most' bs) := HBb.out.kept (Keeps.below_none hB5)
                  have HK5 : Hid (Marked w w5 (.slice ao (bs.length + 9) cap) (bs.length + 9) 200) := HKb.out.kept (Keeps.below_none hB5)
                  have HC5 : Hid (Marked wa w5 (.slice ao2 (bs.length + 9) cap2) (bs.length + 9) 201) := HC.out.kept (Keeps.below_none hB5)
                  have HY5 : Hid (BytesAt w5 (some ⟨wb.heap.size, 0, none⟩) bs.length bs) := BytesAt.ofRow rfl hO5
                  clear hO5 hB5
                  obtain ⟨ar, cr, HFr, hr0, _, _⟩ := HB5.out.2.1.open
                  go_wp2_with fail
                  go_at_call 47
                  refine (same_all _ _ _ _ _ bs _ (by omega) HY5.out (BytesAt.ofOwn rfl HFr.out.2.1)).mono ?_
                  rintro e w6 ⟨rfl, q6, hw6⟩
                  have HK6 : Hid (Marked w w6 (.slice ao (bs.length + 9) cap) (bs.length + 9) 200) := by rw [hw6]; exact HK5.out.kept ((Keeps.refl _ _).drewN _)
                  have HC6 : Hid (Marked wa w6 (.slice ao2 (bs.length + 9) cap2) (bs.length + 9) 201) := by rw [hw6]; exact HC5.out.kept ((Keeps.refl _ _).drewN _)
                  clear HB5 HK5 HC5 HY5 HFr hr0 hw6
                  go_wp2_with fail
                  go_at_call 58
                  refine (full_all w _ _ (bs.length + 9) 200 (by omega) HK6.out).mono ?_
                  rintro e w' ⟨rfl, rfl⟩
                  go_wp2_with fail
                  go_at_call 58
                  refine (full_all wa _ _ (bs.length + 9) 201 (by omega) HC6.out).mono ?_
                  rintro e w' ⟨rfl, rfl⟩
                  go_wp2
                  go_ret
                  exact ⟨rfl, HK6.out.2.2⟩
end Go.Proofs.Ytomlndoffoeaiaa.Kit
