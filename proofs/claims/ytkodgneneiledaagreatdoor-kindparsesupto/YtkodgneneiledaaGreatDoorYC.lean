import Derived.Test.YtkodgneneiledaaGreatDoorYB
set_option maxRecDepth 100000
set_option maxHeartbeats 4000000
namespace Go.Proofs.YtkodgneneiledaaGreatDoor.Kit
open Go.RowKit Go.Shelf Go.Deep
set_option linter.unusedVariables false
attribute [local go_sem] run_store_func
def tokOf (T : List UInt8) (b : Nat) : Int × ByteArray × Nat × Int :=
  match T.drop b with
  | [] => (0, ⟨#[]⟩, b, -1)
  | c :: _ => if wordB c.toNat = true then (1, ⟨(wordsB (T.drop b)).toArray⟩, b + wN (T.drop b), -1)
    else if c = 40 ∨ c = 41 ∨ c = 44 ∨ c = 63 ∨ c = 124 then (2, ⟨#[c]⟩, b + 1, -1)
    else if c = 34 then (match quoP T D0 [] (b + 1, []) with | .ok (x, q) => (3, x, q.1, -1) | .error o => (3, ⟨#[]⟩, 0, (o : Int)))
    else (4, ⟨#[]⟩, b + 1, -1)
def tokV (T : List UInt8) (b : Nat) : Value := .agg #[.int .i64 (tokOf T b).1, .string (tokOf T b).2.1, .int .i64 (b : Int), .int .i64 ((tokOf T b).2.2.1 : Int), .int .i64 (tokOf T b).2.2.2]
theorem tok_end {W V : World} {b : Nat} (y0 y1 y2 y3 y4 : Value) (hg : Gr W V) (hb : b = W.heap.size) (hc : V.heap[b]? = some (.cells #[.int .i64 0, .string ⟨#[]⟩, .int .i64 0, .int .i64 0, .int .i64 0] 64 (0, 0))) : (((((V.setCell ⟨b, 0, none⟩ y0).setCell ⟨b, 1, none⟩ y1).setCell ⟨b, 2, none⟩ y2).setCell ⟨b, 3, none⟩ y3).setCell ⟨b, 4, none⟩ y4).heap[b]? = some (.cells #[y0, y1, y2, y3, y4] 64 (0, 0)) ∧ Gr W (((((V.setCell ⟨b, 0, none⟩ y0).setCell ⟨b, 1, none⟩ y1).setCell ⟨b, 2, none⟩ y2).setCell ⟨b, 3, none⟩ y3).setCell ⟨b, 4, none⟩ y4) :=
  ⟨put5_box y0 y1 y2 y3 y4 hc, hg.trans (put5_keeps _ b y0 y1 y2 y3 y4) fun z hz h => by omega⟩
theorem ext_one {s : ByteArray} {k : Nat} (h : k < s.size) : s.extract k (k + 1) = ⟨#[s[k]'h]⟩ := by
  apply ByteArray.ext
  rw [ByteArray.data_extract]
  apply Array.toList_inj.1
  rw [Array.toList_extract, List.extract_eq_take_drop, drop_at h]
  simp
theorem read54 (s : ByteArray) (a : Nat) (ha : a ≤ s.size) (hs : s.size ≤ 65536) (W : World) : Calls Tryz.prog 54 #[.string s, .int .i64 (a : Int)] W (fun e w' => Gr W w' ∧ e = .returned (tokV s.data.toList (a + skN (s.data.toList.drop a)))) := by
  obtain ⟨q, hq⟩ : ∃ q, q = a + skN (s.data.toList.drop a) := ⟨_, rfl⟩
  rw [← hq]
  have Hq := hidP hq
  obtain ⟨V, hV⟩ : ∃ V, W.alloc (.cells #[.int .i64 0, .string ⟨#[]⟩, .int .i64 0, .int .i64 0, .int .i64 0] 64) = V := ⟨_, rfl⟩
  have HG := hidP (gr_alloc W (.cells #[.int .i64 0, .string ⟨#[]⟩, .int .i64 0, .int .i64 0, .int .i64 0] 64))
  have HB := hidP (heap_alloc_new W (.cells #[.int .i64 0, .string ⟨#[]⟩, .int .i64 0, .int .i64 0, .int .i64 0] 64))
  rw [hV] at HG HB
  obtain ⟨b, hb⟩ : ∃ b, b = W.heap.size := ⟨_, rfl⟩
  rw [← hb] at HB
  have HV := hidP hV
  have Hb := hidP hb
  have HBl := hidP blank80
  have HLe := hidP letter_any
  clear hq hV hb
  go_enter Tryz.func54, Tryz.ntmps54
  go_wp2_with fail
  rw [HV.out, ← Hb.out]
  clear HV
  go_loopw [1] (fun i wr => ∃ k : Nat, k ≤ s.size ∧ i = .int .i64 (k : Int) ∧ Hid (wr = V ∧ k + skN (s.data.toList.drop k) = q)) (fun i _ => s.size - (intOf i).toNat)
  case atStart => exact ⟨a, ha, by simp, rfl, Hq.out.symm⟩
  case round =>
    clear Hq
    obtain ⟨k, hk, rfl, HK⟩ := hrel
    obtain rfl : V = wr := HK.out.1.symm
    have hadd : IntKind.i64.wrap ((k : Int) + 1) = ((k + 1 : Nat) : Int) := by rw [IntKind.wrap_i64]; omega
    by_cases hlt : k < s.size
    · have HD := hidP (drop_at hlt)
      have hltI : (k : Int) < (s.size : Int) := by omega
      have HQ := hidP (fun U => HBl.out (s[k]'hlt) U)
      cases hbl : blankB (s[k]'hlt) with
      | true =>
        rw [hbl] at HQ
        have HN : Hid (k + 1 + skN (s.data.toList.drop (k + 1)) = q) := by show _ = q; have := HK.out.2; rw [HD.out, (skN_yes (l := s.data.toList.drop (k + 1)) hbl).1] at this; omega
        clear hbl
        go_wp2_with (go_at_call 80; refine Calls.mono (HQ.out _) ?_; rintro e u ⟨rfl, hu⟩; replace hu := hu.symm; subst hu)
        go_roundw
        case rel => exact ⟨k + 1, by omega, by simp, (by first | exact ⟨rfl, HN.out⟩ | exact ⟨trivial, HN.out⟩)⟩
        case measure => simp [intOf]; omega
      | false =>
        rw [hbl] at HQ
        obtain rfl : k = q := by have := HK.out.2; rw [HD.out, skN_no (l := s.data.toList.drop (k + 1)) hbl] at this; omega
        have hne : ((k : Int) == (s.size : Int)) = false := beq_eq_false_iff_ne.2 (by omega)
        have HL := hidP (fun U => HLe.out (s[k]'hlt).toNat U)
        clear hbl HK
        cases hw : wordB (s[k]'hlt).toNat with
        | true =>
          rw [hw] at HL
          have HE : Hid (Value.agg #[.int .i64 1, .string ⟨(wordsB (s.data.toList.drop k)).toArray⟩, .int .i64 (k : Int), .int .i64 ((k + wN (s.data.toList.drop k) : Nat) : Int), .int .i64 (-1)] = tokV s.data.toList k) := by show _ = _; unfold tokV tokOf; rw [HD.out]; dsimp only; rw [if_pos hw]
          clear hw
          go_wp2_with (first | (go_at_call 80; refine Calls.mono (HQ.out _) ?_; rintro e u ⟨rfl, hu⟩; replace hu := hu.symm; subst hu) | (go_at_call 81; refine Calls.mono (HL.out _) ?_; rintro e u ⟨rfl, hu⟩; replace hu := hu.symm; subst hu))
          go_loopw [6] (fun j w2 => ∃ m : Nat, k ≤ m ∧ m ≤ s.size ∧ j = .int .i64 (m : Int) ∧ Hid (w2 = V ∧ m + wN (s.data.toList.drop m) = k + wN (s.data.toList.drop k))) (fun j _ => s.size - (intOf j).toNat)
          case atStart => exact ⟨k, Nat.le_refl _, by omega, by simp, rfl, rfl⟩
          case round =>
            obtain ⟨m, hkm, hm, rfl, HM⟩ := hrel
            obtain rfl : V = wr := HM.out.1.symm
            have haddm : IntKind.i64.wrap ((m : Int) + 1) = ((m + 1 : Nat) : Int) := by rw [IntKind.wrap_i64]; omega
            have hkmI : (k : Int) ≤ (m : Int) := by omega
            have hmI : (m : Int) ≤ (s.size : Int) := by omega
            by_cases hltm : m < s.size
            · have HDm := hidP (drop_at hltm)
              have hltmI : (m : Int) < (s.size : Int) := by omega
              have HLm := hidP (fun U => HLe.out (s[m]'hltm).toNat U)
              cases hwm : wordB (s[m]'hltm).toNat with
              | true =>
                rw [hwm] at HLm
                have HN : Hid (m + 1 + wN (s.data.toList.drop (m + 1)) = k + wN (s.data.toList.drop k)) := by show _ = _; have := HM.out.2; rw [HDm.out, wN_yes (l := s.data.toList.drop (m + 1)) hwm] at this; omega
                clear hwm
                go_wp2_with (go_at_call 81; refine Calls.mono (HLm.out _) ?_; rintro e u ⟨rfl, hu⟩; replace hu := hu.symm; subst hu)
                go_roundw
                case rel => exact ⟨m + 1, by omega, by omega, by simp, (by first | exact ⟨rfl, HN.out⟩ | exact ⟨trivial, HN.out⟩)⟩
                case measure => simp [intOf]; omega
              | false =>
                rw [hwm] at HLm
                have hpos : Hid (m = k + wN (s.data.toList.drop k)) := by show m = _; have := HM.out.2; rw [HDm.out, wN_no (l := s.data.toList.drop (m + 1)) hwm] at this; omega
                clear hwm HM HDm
                have HE2 : Hid (Value.agg #[.int .i64 1, .string ⟨(wordsB (s.data.toList.drop k)).toArray⟩, .int .i64 (k : Int), .int .i64 (m : Int), .int .i64 (-1)] = tokV s.data.toList k) := by show _ = _; rw [hpos.out]; exact HE.out
                have HX := hidP (word_ext hpos.out)
                have u0 := frz HB.out 0
                have v0 : V.cell? ⟨b, 0, none⟩ = some (.int .i64 0) := by simp [World.cell?, HB.out]
                have u1 := frz HB.out 1
                have v1 : V.cell? ⟨b, 1, none⟩ = some (.string ⟨#[]⟩) := by simp [World.cell?, HB.out]
                have u2 := frz HB.out 2
                have v2 : V.cell? ⟨b, 2, none⟩ = some (.int .i64 0) := by simp [World.cell?, HB.out]
                have u3 := frz HB.out 3
                have v3 : V.cell? ⟨b, 3, none⟩ = some (.int .i64 0) := by simp [World.cell?, HB.out]
                have u4 := frz HB.out 4
                have v4 : V.cell? ⟨b, 4, none⟩ = some (.int .i64 0) := by simp [World.cell?, HB.out]
                go_wp2_with (go_at_call 81; refine Calls.mono (HLm.out _) ?_; rintro e u ⟨rfl, hu⟩; replace hu := hu.symm; subst hu)
                rw [HX.out]
                (try simp only [Exit.inBlock, Exit.then])
                have hz := tok_end (.int .i64 1) (.string ⟨(wordsB (s.data.toList.drop k)).toArray⟩) (.int .i64 (k : Int)) (.int .i64 (m : Int)) (.int .i64 (-1)) HG.out Hb.out HB.out
                exact bodyPost_ret (results_cell64 rfl rfl hz.1 (by kernel_rfl)) rfl ⟨hz.2, congrArg Ending.returned HE2.out⟩
            have hltmI : ¬ (m : Int) < (s.size : Int) := by omega
            have hpos : Hid (m = k + wN (s.data.toList.drop k)) := by show m = _; have := HM.out.2; rw [show m = s.size by omega, drop_end] at this; rw [← this]; show m = s.size + 0; omega
            clear HM
            have HE2 : Hid (Value.agg #[.int .i64 1, .string ⟨(wordsB (s.data.toList.drop k)).toArray⟩, .int .i64 (k : Int), .int .i64 (m : Int), .int .i64 (-1)] = tokV s.data.toList k) := by show _ = _; rw [hpos.out]; exact HE.out
            have HX := hidP (word_ext hpos.out)
            have u0 := frz HB.out 0
            have v0 : V.cell? ⟨b, 0, none⟩ = some (.int .i64 0) := by simp [World.cell?, HB.out]
            have u1 := frz HB.out 1
            have v1 : V.cell? ⟨b, 1, none⟩ = some (.string ⟨#[]⟩) := by simp [World.cell?, HB.out]
            have u2 := frz HB.out 2
            have v2 : V.cell? ⟨b, 2, none⟩ = some (.int .i64 0) := by simp [World.cell?, HB.out]
            have u3 := frz HB.out 3
            have v3 : V.cell? ⟨b, 3, none⟩ = some (.int .i64 0) := by simp [World.cell?, HB.out]
            have u4 := frz HB.out 4
            have v4 : V.cell? ⟨b, 4, none⟩ = some (.int .i64 0) := by simp [World.cell?, HB.out]
            go_wp2_with fail
            rw [HX.out]
            (try simp only [Exit.inBlock, Exit.then])
            have hz := tok_end (.int .i64 1) (.string ⟨(wordsB (s.data.toList.drop k)).toArray⟩) (.int .i64 (k : Int)) (.int .i64 (m : Int)) (.int .i64 (-1)) HG.out Hb.out HB.out
            exact bodyPost_ret (results_cell64 rfl rfl hz.1 (by kernel_rfl)) rfl ⟨hz.2, congrArg Ending.returned HE2.out⟩
        | false =>
          rw [hw] at HL
          have HX := hidP (ext_one hlt)
          obtain ⟨k1, hk1⟩ : ∃ k1, k1 = k + 1 := ⟨_, rfl⟩
          rw [← hk1] at hadd HX
          have Hk1 := hidP hk1
          have hle : (k : Int) ≤ (k1 : Int) := by omega
          have hle2 : (k1 : Int) ≤ (s.size : Int) := by omega
          clear hk1
          have e40 : (((s[k]'hlt).toNat : Int) == 40) = decide ((s[k]'hlt) = 40) := by rw [Bool.eq_iff_iff]; simp only [beq_iff_eq, decide_eq_true_eq]; exact ⟨fun h => UInt8.toNat_inj.1 (by show (s[k]'hlt).toNat = 40; omega), fun h => by rw [h]; rfl⟩
          have e41 : (((s[k]'hlt).toNat : Int) == 41) = decide ((s[k]'hlt) = 41) := by rw [Bool.eq_iff_iff]; simp only [beq_iff_eq, decide_eq_true_eq]; exact ⟨fun h => UInt8.toNat_inj.1 (by show (s[k]'hlt).toNat = 41; omega), fun h => by rw [h]; rfl⟩
          have e44 : (((s[k]'hlt).toNat : Int) == 44) = decide ((s[k]'hlt) = 44) := by rw [Bool.eq_iff_iff]; simp only [beq_iff_eq, decide_eq_true_eq]; exact ⟨fun h => UInt8.toNat_inj.1 (by show (s[k]'hlt).toNat = 44; omega), fun h => by rw [h]; rfl⟩
          have e63 : (((s[k]'hlt).toNat : Int) == 63) = decide ((s[k]'hlt) = 63) := by rw [Bool.eq_iff_iff]; simp only [beq_iff_eq, decide_eq_true_eq]; exact ⟨fun h => UInt8.toNat_inj.1 (by show (s[k]'hlt).toNat = 63; omega), fun h => by rw [h]; rfl⟩
          have e124 : (((s[k]'hlt).toNat : Int) == 124) = decide ((s[k]'hlt) = 124) := by rw [Bool.eq_iff_iff]; simp only [beq_iff_eq, decide_eq_true_eq]; exact ⟨fun h => UInt8.toNat_inj.1 (by show (s[k]'hlt).toNat = 124; omega), fun h => by rw [h]; rfl⟩
          have e34 : (((s[k]'hlt).toNat : Int) == 34) = decide ((s[k]'hlt) = 34) := by rw [Bool.eq_iff_iff]; simp only [beq_iff_eq, decide_eq_true_eq]; exact ⟨fun h => UInt8.toNat_inj.1 (by show (s[k]'hlt).toNat = 34; omega), fun h => by rw [h]; rfl⟩
          by_cases h40 : (s[k]'hlt) = 40
          · rw [decide_eq_true h40] at e40
            have HE : Hid (Value.agg #[.int .i64 2, .string ⟨#[(s[k]'hlt)]⟩, .int .i64 (k : Int), .int .i64 (k1 : Int), .int .i64 (-1)] = tokV s.data.toList k) := by show _ = _; unfold tokV tokOf; rw [HD.out]; dsimp only; rw [if_neg (by rw [hw]; decide), if_pos (by exact .inl h40), Hk1.out]
            clear hw h40
            have u0 := frz HB.out 0
            have v0 : V.cell? ⟨b, 0, none⟩ = some (.int .i64 0) := by simp [World.cell?, HB.out]
            have u1 := frz HB.out 1
            have v1 : V.cell? ⟨b, 1, none⟩ = some (.string ⟨#[]⟩) := by simp [World.cell?, HB.out]
            have u2 := frz HB.out 2
            have v2 : V.cell? ⟨b, 2, none⟩ = some (.int .i64 0) := by simp [World.cell?, HB.out]
            have u3 := frz HB.out 3
            have v3 : V.cell? ⟨b, 3, none⟩ = some (.int .i64 0) := by simp [World.cell?, HB.out]
            have u4 := frz HB.out 4
            have v4 : V.cell? ⟨b, 4, none⟩ = some (.int .i64 0) := by simp [World.cell?, HB.out]
            go_wp2_with (first | (go_at_call 80; refine Calls.mono (HQ.out _) ?_; rintro e u ⟨rfl, hu⟩; replace hu := hu.symm; subst hu) | (go_at_call 81; refine Calls.mono (HL.out _) ?_; rintro e u ⟨rfl, hu⟩; replace hu := hu.symm; subst hu))
            rw [HX.out]
            (try simp only [Exit.inBlock, Exit.then])
            have hz := tok_end (.int .i64 2) (.string ⟨#[(s[k]'hlt)]⟩) (.int .i64 (k : Int)) (.int .i64 (k1 : Int)) (.int .i64 (-1)) HG.out Hb.out HB.out
            exact bodyPost_ret (results_cell64 rfl rfl hz.1 (by kernel_rfl)) rfl ⟨hz.2, congrArg Ending.returned HE.out⟩
          rw [decide_eq_false h40] at e40
          by_cases h41 : (s[k]'hlt) = 41
          · rw [decide_eq_true h41] at e41
            have HE : Hid (Value.agg #[.int .i64 2, .string ⟨#[(s[k]'hlt)]⟩, .int .i64 (k : Int), .int .i64 (k1 : Int), .int .i64 (-1)] = tokV s.data.toList k) := by show _ = _; unfold tokV tokOf; rw [HD.out]; dsimp only; rw [if_neg (by rw [hw]; decide), if_pos (by exact .inr (.inl h41)), Hk1.out]
            clear hw h40 h41
            have u0 := frz HB.out 0
            have v0 : V.cell? ⟨b, 0, none⟩ = some (.int .i64 0) := by simp [World.cell?, HB.out]
            have u1 := frz HB.out 1
            have v1 : V.cell? ⟨b, 1, none⟩ = some (.string ⟨#[]⟩) := by simp [World.cell?, HB.out]
            have u2 := frz HB.out 2
            have v2 : V.cell? ⟨b, 2, none⟩ = some (.int .i64 0) := by simp [World.cell?, HB.out]
            have u3 := frz HB.out 3
            have v3 : V.cell? ⟨b, 3, none⟩ = some (.int .i64 0) := by simp [World.cell?, HB.out]
            have u4 := frz HB.out 4
            have v4 : V.cell? ⟨b, 4, none⟩ = some (.int .i64 0) := by simp [World.cell?, HB.out]
            go_wp2_with (first | (go_at_call 80; refine Calls.mono (HQ.out _) ?_; rintro e u ⟨rfl, hu⟩; replace hu := hu.symm; subst hu) | (go_at_call 81; refine Calls.mono (HL.out _) ?_; rintro e u ⟨rfl, hu⟩; replace hu := hu.symm; subst hu))
            rw [HX.out]
            (try simp only [Exit.inBlock, Exit.then])
            have hz := tok_end (.int .i64 2) (.string ⟨#[(s[k]'hlt)]⟩) (.int .i64 (k : Int)) (.int .i64 (k1 : Int)) (.int .i64 (-1)) HG.out Hb.out HB.out
            exact bodyPost_ret (results_cell64 rfl rfl hz.1 (by kernel_rfl)) rfl ⟨hz.2, congrArg Ending.returned HE.out⟩
          rw [decide_eq_false h41] at e41
          by_cases h44 : (s[k]'hlt) = 44
          · rw [decide_eq_true h44] at e44
            have HE : Hid (Value.agg #[.int .i64 2, .string ⟨#[(s[k]'hlt)]⟩, .int .i64 (k : Int), .int .i64 (k1 : Int), .int .i64 (-1)] = tokV s.data.toList k) := by show _ = _; unfold tokV tokOf; rw [HD.out]; dsimp only; rw [if_neg (by rw [hw]; decide), if_pos (by exact .inr (.inr (.inl h44))), Hk1.out]
            clear hw h40 h41 h44
            have u0 := frz HB.out 0
            have v0 : V.cell? ⟨b, 0, none⟩ = some (.int .i64 0) := by simp [World.cell?, HB.out]
            have u1 := frz HB.out 1
            have v1 : V.cell? ⟨b, 1, none⟩ = some (.string ⟨#[]⟩) := by simp [World.cell?, HB.out]
            have u2 := frz HB.out 2
            have v2 : V.cell? ⟨b, 2, none⟩ = some (.int .i64 0) := by simp [World.cell?, HB.out]
            have u3 := frz HB.out 3
            have v3 : V.cell? ⟨b, 3, none⟩ = some (.int .i64 0) := by simp [World.cell?, HB.out]
            have u4 := frz HB.out 4
            have v4 : V.cell? ⟨b, 4, none⟩ = some (.int .i64 0) := by simp [World.cell?, HB.out]
            go_wp2_with (first | (go_at_call 80; refine Calls.mono (HQ.out _) ?_; rintro e u ⟨rfl, hu⟩; replace hu := hu.symm; subst hu) | (go_at_call 81; refine Calls.mono (HL.out _) ?_; rintro e u ⟨rfl, hu⟩; replace hu := hu.symm; subst hu))
            rw [HX.out]
            (try simp only [Exit.inBlock, Exit.then])
            have hz := tok_end (.int .i64 2) (.string ⟨#[(s[k]'hlt)]⟩) (.int .i64 (k : Int)) (.int .i64 (k1 : Int)) (.int .i64 (-1)) HG.out Hb.out HB.out
            exact bodyPost_ret (results_cell64 rfl rfl hz.1 (by kernel_rfl)) rfl ⟨hz.2, congrArg Ending.returned HE.out⟩
          rw [decide_eq_false h44] at e44
          by_cases h63 : (s[k]'hlt) = 63
          · rw [decide_eq_true h63] at e63
            have HE : Hid (Value.agg #[.int .i64 2, .string ⟨#[(s[k]'hlt)]⟩, .int .i64 (k : Int), .int .i64 (k1 : Int), .int .i64 (-1)] = tokV s.data.toList k) := by show _ = _; unfold tokV tokOf; rw [HD.out]; dsimp only; rw [if_neg (by rw [hw]; decide), if_pos (by exact .inr (.inr (.inr (.inl h63)))), Hk1.out]
            clear hw h40 h41 h44 h63
            have u0 := frz HB.out 0
            have v0 : V.cell? ⟨b, 0, none⟩ = some (.int .i64 0) := by simp [World.cell?, HB.out]
            have u1 := frz HB.out 1
            have v1 : V.cell? ⟨b, 1, none⟩ = some (.string ⟨#[]⟩) := by simp [World.cell?, HB.out]
            have u2 := frz HB.out 2
            have v2 : V.cell? ⟨b, 2, none⟩ = some (.int .i64 0) := by simp [World.cell?, HB.out]
            have u3 := frz HB.out 3
            have v3 : V.cell? ⟨b, 3, none⟩ = some (.int .i64 0) := by simp [World.cell?, HB.out]
            have u4 := frz HB.out 4
            have v4 : V.cell? ⟨b, 4, none⟩ = some (.int .i64 0) := by simp [World.cell?, HB.out]
            go_wp2_with (first | (go_at_call 80; refine Calls.mono (HQ.out _) ?_; rintro e u ⟨rfl, hu⟩; replace hu := hu.symm; subst hu) | (go_at_call 81; refine Calls.mono (HL.out _) ?_; rintro e u ⟨rfl, hu⟩; replace hu := hu.symm; subst hu))
            rw [HX.out]
            (try simp only [Exit.inBlock, Exit.then])
            have hz := tok_end (.int .i64 2) (.string ⟨#[(s[k]'hlt)]⟩) (.int .i64 (k : Int)) (.int .i64 (k1 : Int)) (.int .i64 (-1)) HG.out Hb.out HB.out
            exact bodyPost_ret (results_cell64 rfl rfl hz.1 (by kernel_rfl)) rfl ⟨hz.2, congrArg Ending.returned HE.out⟩
          rw [decide_eq_false h63] at e63
          by_cases h124 : (s[k]'hlt) = 124
          · rw [decide_eq_true h124] at e124
            have HE : Hid (Value.agg #[.int .i64 2, .string ⟨#[(s[k]'hlt)]⟩, .int .i64 (k : Int), .int .i64 (k1 : Int), .int .i64 (-1)] = tokV s.data.toList k) := by show _ = _; unfold tokV tokOf; rw [HD.out]; dsimp only; rw [if_neg (by rw [hw]; decide), if_pos (by exact .inr (.inr (.inr (.inr (h124))))), Hk1.out]
            clear hw h40 h41 h44 h63 h124
            have u0 := frz HB.out 0
            have v0 : V.cell? ⟨b, 0, none⟩ = some (.int .i64 0) := by simp [World.cell?, HB.out]
            have u1 := frz HB.out 1
            have v1 : V.cell? ⟨b, 1, none⟩ = some (.string ⟨#[]⟩) := by simp [World.cell?, HB.out]
            have u2 := frz HB.out 2
            have v2 : V.cell? ⟨b, 2, none⟩ = some (.int .i64 0) := by simp [World.cell?, HB.out]
            have u3 := frz HB.out 3
            have v3 : V.cell? ⟨b, 3, none⟩ = some (.int .i64 0) := by simp [World.cell?, HB.out]
            have u4 := frz HB.out 4
            have v4 : V.cell? ⟨b, 4, none⟩ = some (.int .i64 0) := by simp [World.cell?, HB.out]
            go_wp2_with (first | (go_at_call 80; refine Calls.mono (HQ.out _) ?_; rintro e u ⟨rfl, hu⟩; replace hu := hu.symm; subst hu) | (go_at_call 81; refine Calls.mono (HL.out _) ?_; rintro e u ⟨rfl, hu⟩; replace hu := hu.symm; subst hu))
            rw [HX.out]
            (try simp only [Exit.inBlock, Exit.then])
            have hz := tok_end (.int .i64 2) (.string ⟨#[(s[k]'hlt)]⟩) (.int .i64 (k : Int)) (.int .i64 (k1 : Int)) (.int .i64 (-1)) HG.out Hb.out HB.out
            exact bodyPost_ret (results_cell64 rfl rfl hz.1 (by kernel_rfl)) rfl ⟨hz.2, congrArg Ending.returned HE.out⟩
          rw [decide_eq_false h124] at e124
          have hns : ¬ ((s[k]'hlt) = 40 ∨ (s[k]'hlt) = 41 ∨ (s[k]'hlt) = 44 ∨ (s[k]'hlt) = 63 ∨ (s[k]'hlt) = 124) := by rintro (h | h | h | h | h) <;> contradiction
          by_cases h34 : (s[k]'hlt) = 34
          · rw [decide_eq_true h34] at e34
            have HT : Hid (tokOf s.data.toList k = match quoP s.data.toList D0 [] (k + 1, []) with | .ok (x, q) => (3, x, q.1, -1) | .error o => (3, ⟨#[]⟩, 0, (o : Int))) := by show _ = _; unfold tokOf; rw [HD.out]; dsimp only; rw [if_neg (by rw [hw]; decide), if_neg hns, if_pos h34]
            have HU := hidP (fun U => quote82 s k hlt hs U)
            clear hw hns h40 h41 h44 h63 h124 h34
            have Hkb : Hid (∀ U : World, Gr V U → U.heap[b]? = some (.cells #[.int .i64 0, .string ⟨#[]⟩, .int .i64 0, .int .i64 0, .int .i64 0] 64 (0, 0))) := fun _ h => (h.block b (lt_of_heap HB.out) id).trans HB.out
            generalize quoP s.data.toList D0 [] (k + 1, []) = R at HT HU
            cases R with
            | ok y =>
              obtain ⟨x, q⟩ := y
              have HE : Hid (Value.agg #[.int .i64 3, .string x, .int .i64 (k : Int), .int .i64 (q.1 : Int), .int .i64 (-1)] = tokV s.data.toList k) := by show _ = _; unfold tokV; rw [HT.out]
              go_wp2_with (first | (go_at_call 80; refine Calls.mono (HQ.out _) ?_; rintro e u ⟨rfl, hu⟩; replace hu := hu.symm; subst hu) | (go_at_call 81; refine Calls.mono (HL.out _) ?_; rintro e u ⟨rfl, hu⟩; replace hu := hu.symm; subst hu) | (go_at_call 82; go_loud (refine Calls.mono (HU.out _) ?_; rintro e u ⟨hgu, he⟩; (try dsimp only at he); subst he; have HBu := hidP (Hkb.out _ hgu); have HGu := hidP (HG.out.trans hgu fun _ _ h => h); clear hgu; have u0 := frz HBu.out 0; have u1 := frz HBu.out 1; have u2 := frz HBu.out 2; have u3 := frz HBu.out 3; have u4 := frz HBu.out 4; have v0 : u.cell? ⟨b, 0, none⟩ = some (.int .i64 0) := (by simp [World.cell?, HBu.out]); have v1 : u.cell? ⟨b, 1, none⟩ = some (.string ⟨#[]⟩) := (by simp [World.cell?, HBu.out]); have v2 : u.cell? ⟨b, 2, none⟩ = some (.int .i64 0) := (by simp [World.cell?, HBu.out]); have v3 : u.cell? ⟨b, 3, none⟩ = some (.int .i64 0) := (by simp [World.cell?, HBu.out]); have v4 : u.cell? ⟨b, 4, none⟩ = some (.int .i64 0) := (by simp [World.cell?, HBu.out]))))
              (try simp only [Exit.inBlock, Exit.then])
              have hz := tok_end (.int .i64 3) (.string x) (.int .i64 (k : Int)) (.int .i64 (q.1 : Int)) (.int .i64 (-1)) HGu.out Hb.out HBu.out
              exact bodyPost_ret (results_cell64 rfl rfl hz.1 (by kernel_rfl)) rfl ⟨hz.2, congrArg Ending.returned HE.out⟩
            | error o =>
              have HE : Hid (Value.agg #[.int .i64 3, .string ⟨#[]⟩, .int .i64 (k : Int), .int .i64 ((0 : Nat) : Int), .int .i64 (o : Int)] = tokV s.data.toList k) := by show _ = _; unfold tokV; rw [HT.out]
              go_wp2_with (first | (go_at_call 80; refine Calls.mono (HQ.out _) ?_; rintro e u ⟨rfl, hu⟩; replace hu := hu.symm; subst hu) | (go_at_call 81; refine Calls.mono (HL.out _) ?_; rintro e u ⟨rfl, hu⟩; replace hu := hu.symm; subst hu) | (go_at_call 82; go_loud (refine Calls.mono (HU.out _) ?_; rintro e u ⟨hgu, he⟩; (try dsimp only at he); subst he; have HBu := hidP (Hkb.out _ hgu); have HGu := hidP (HG.out.trans hgu fun _ _ h => h); clear hgu; have u0 := frz HBu.out 0; have u1 := frz HBu.out 1; have u2 := frz HBu.out 2; have u3 := frz HBu.out 3; have u4 := frz HBu.out 4; have v0 : u.cell? ⟨b, 0, none⟩ = some (.int .i64 0) := (by simp [World.cell?, HBu.out]); have v1 : u.cell? ⟨b, 1, none⟩ = some (.string ⟨#[]⟩) := (by simp [World.cell?, HBu.out]); have v2 : u.cell? ⟨b, 2, none⟩ = some (.int .i64 0) := (by simp [World.cell?, HBu.out]); have v3 : u.cell? ⟨b, 3, none⟩ = some (.int .i64 0) := (by simp [World.cell?, HBu.out]); have v4 : u.cell? ⟨b, 4, none⟩ = some (.int .i64 0) := (by simp [World.cell?, HBu.out]))))
              (try simp only [Exit.inBlock, Exit.then])
              have hz := tok_end (.int .i64 3) (.string ⟨#[]⟩) (.int .i64 (k : Int)) (.int .i64 ((0 : Nat) : Int)) (.int .i64 (o : Int)) HGu.out Hb.out HBu.out
              exact bodyPost_ret (results_cell64 rfl rfl hz.1 (by kernel_rfl)) rfl ⟨hz.2, congrArg Ending.returned HE.out⟩
          rw [decide_eq_false h34] at e34
          have HE : Hid (Value.agg #[.int .i64 4, .string ⟨#[]⟩, .int .i64 (k : Int), .int .i64 (k1 : Int), .int .i64 (-1)] = tokV s.data.toList k) := by show _ = _; unfold tokV tokOf; rw [HD.out]; dsimp only; rw [if_neg (by rw [hw]; decide), if_neg hns, if_neg h34, Hk1.out]
          clear hw hns h40 h41 h44 h63 h124 h34
          have u0 := frz HB.out 0
          have v0 : V.cell? ⟨b, 0, none⟩ = some (.int .i64 0) := by simp [World.cell?, HB.out]
          have u1 := frz HB.out 1
          have v1 : V.cell? ⟨b, 1, none⟩ = some (.string ⟨#[]⟩) := by simp [World.cell?, HB.out]
          have u2 := frz HB.out 2
          have v2 : V.cell? ⟨b, 2, none⟩ = some (.int .i64 0) := by simp [World.cell?, HB.out]
          have u3 := frz HB.out 3
          have v3 : V.cell? ⟨b, 3, none⟩ = some (.int .i64 0) := by simp [World.cell?, HB.out]
          have u4 := frz HB.out 4
          have v4 : V.cell? ⟨b, 4, none⟩ = some (.int .i64 0) := by simp [World.cell?, HB.out]
          go_wp2_with (first | (go_at_call 80; refine Calls.mono (HQ.out _) ?_; rintro e u ⟨rfl, hu⟩; replace hu := hu.symm; subst hu) | (go_at_call 81; refine Calls.mono (HL.out _) ?_; rintro e u ⟨rfl, hu⟩; replace hu := hu.symm; subst hu))
          (try simp only [Exit.inBlock, Exit.then])
          have hz := tok_end (.int .i64 4) (.string ⟨#[]⟩) (.int .i64 (k : Int)) (.int .i64 (k1 : Int)) (.int .i64 (-1)) HG.out Hb.out HB.out
          exact bodyPost_ret (results_cell64 rfl rfl hz.1 (by kernel_rfl)) rfl ⟨hz.2, congrArg Ending.returned HE.out⟩
    obtain rfl : k = s.size := by omega
    obtain rfl : s.size = q := by have := HK.out.2; rw [drop_end] at this; exact this
    have hltI : ¬ (s.size : Int) < (s.size : Int) := by omega
    have HE : Hid (Value.agg #[.int .i64 0, .string ⟨#[]⟩, .int .i64 (s.size : Int), .int .i64 (s.size : Int), .int .i64 (-1)] = tokV s.data.toList s.size) := by show _ = _; unfold tokV tokOf; rw [drop_end]
    clear HK
    have u0 := frz HB.out 0
    have v0 : V.cell? ⟨b, 0, none⟩ = some (.int .i64 0) := by simp [World.cell?, HB.out]
    have u1 := frz HB.out 1
    have v1 : V.cell? ⟨b, 1, none⟩ = some (.string ⟨#[]⟩) := by simp [World.cell?, HB.out]
    have u2 := frz HB.out 2
    have v2 : V.cell? ⟨b, 2, none⟩ = some (.int .i64 0) := by simp [World.cell?, HB.out]
    have u3 := frz HB.out 3
    have v3 : V.cell? ⟨b, 3, none⟩ = some (.int .i64 0) := by simp [World.cell?, HB.out]
    have u4 := frz HB.out 4
    have v4 : V.cell? ⟨b, 4, none⟩ = some (.int .i64 0) := by simp [World.cell?, HB.out]
    go_wp2_with fail
    (try simp only [Exit.inBlock, Exit.then])
    have hz := tok_end (.int .i64 0) (.string ⟨#[]⟩) (.int .i64 (s.size : Int)) (.int .i64 (s.size : Int)) (.int .i64 (-1)) HG.out Hb.out HB.out
    exact bodyPost_ret (results_cell64 rfl rfl hz.1 (by kernel_rfl)) rfl ⟨hz.2, congrArg Ending.returned HE.out⟩
end Go.Proofs.YtkodgneneiledaaGreatDoor.Kit
