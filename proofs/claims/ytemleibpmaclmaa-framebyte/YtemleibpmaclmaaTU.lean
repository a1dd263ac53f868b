import Derived.Test.YtemleibpmaclmaaTS
import Derived.Test.YtemleibpmaclmaaTM
namespace Go.Proofs.Ytemleibpmaclmaa.Kit
open Go.RowKit Go.Shelf Go.Deep
set_option linter.unusedVariables false
theorem alloc_sz (w : World) (o : Obj) : (w.alloc o).heap.size = w.heap.size + 1 := by unfold World.alloc; exact Array.size_push _
theorem fed_mem {b : List UInt8} {A : Nat} {x : Msg} (h : x ∈ (fedF (b.take A)).ms) : x ∈ (fedF b).ms := by
  obtain ⟨_, d, _⟩ := fed_drop (b.take A) (b.drop A) (fedF (b.take A)).ms.length (Nat.le_refl _)
  rw [List.take_append_drop, List.take_length] at d
  rw [← d] at h
  exact List.mem_of_mem_take h
theorem fed_le {b : List UInt8} {N j : Nat} (hN : b.length = N) (hNl : N ≤ 5000000000) {A : Nat} (h : j < (fedF (b.take A)).ms.length) : j + 1 ≤ 300000000 := by
  have := fed_many (b.take A)
  rw [List.length_take] at this
  omega
set_option maxRecDepth 100000 in
set_option maxHeartbeats 16000000 in
theorem gone_some {X off bc cc N C : Nat} {co : Option Addr} {b : List UInt8} {cuts : List Int} {sh : Bool} {w : World} (hN : b.length = N) (hC : cuts.length = C) (hb : BytesAt w (some ⟨X, off, none⟩) b) (hX : X < w.heap.size) (hbc : N ≤ bc) (hbm : bc ≤ 9223372036854775807) (hNl : N ≤ 5000000000) (hCl : C ≤ 140737488355328) (hc : IntsAt w co cuts) (hms : ∀ x ∈ (fedF b).ms, x.1.length ≤ 100000000 ∧ x.2.length ≤ 100000000) :
    Calls Try.prog 30 #[.slice (some ⟨X, off, none⟩) N bc, .slice co C cc, .bool sh] w fun e w' => ∃ lo lc, e = .returned (.tuple #[.slice lo (fedF b).ms.length lc, .int .i64 (standsF (outF (fedF b)) sh).1, .int .i64 (standsF (outF (fedF b)) sh).2]) ∧ MsgsAt w' lo (fedF b).ms ∧ Gr w w' := by
  have HNR : Hid (∀ V, Calls Try.prog 16 #[.agg #[.int .i64 65536, .int .i64 4194304]] V fun e w' => ∃ p R wo wc, e = .returned (.tuple #[.pointer (some ⟨p, 0, none⟩), .int .i64 0]) ∧ Rd V w' p 76 [.bool false, .int .i64 ((0 : Nat) : Int)] (newF 65536 4194304) R wo wc) := fun V => newReader_ok 65536 4194304 V (by omega) (by omega)
  have HB := hidM hb
  have HCu := hidM hc
  have HMs := hidM hms
  have HLN := hidM hN
  have HLC := hidM hC
  clear hb hc hms hN hC
  go_enter Try.func30, Try.ntmps30
  go_wp2_with (first | (go_at_call 16; (with_reducible refine (HNR.out _).mono ?_); rintro e W1 ⟨p, R, wo, wc, rfl, hr⟩; have HR := hidM hr; clear hr))
  go_loopw [11, 12, 13] (fun l q i wr => ∃ (A I j : Nat) (lo : Option Addr) (lc : Nat), A ≤ N ∧ I ≤ A ∧ q = .int .i64 (A : Int) ∧ i = .int .i64 (I : Int) ∧ l = .slice lo j lc ∧ j ≤ 5000000000 ∧ Hid (∃ R wo wc M, Gn w wr p false (b.take A) j R wo wc lo lc M)) (fun _ q _ _ => N - (intOf q).toNat)
  case atStart => exact ⟨0, 0, 0, none, 0, Nat.zero_le _, Nat.zero_le _, rfl, rfl, rfl, by omega, R, wo, wc, fun _ => ((none, 0, 0), (none, 0, 0)), Gn.begin HR.out _⟩
  case round =>
    obtain ⟨A, I, j, lo, lc, hA, hI, rfl, rfl, rfl, hj, HG⟩ := hrel
    clear HR
    by_cases c : A < N
    · have cI : (A : Int) < (N : Int) := by omega
      have hA0 : (0 : Int) ≤ (A : Int) := by omega
      by_cases c1 : I < C
      · have c1I : (I : Int) < (C : Int) := by omega
        have hI0 : (0 : Int) ≤ (I : Int) := by omega
        obtain ⟨cb, cf, rfl, hcc⟩ := (HCu.out.gr HG.out.choose_spec.choose_spec.choose_spec.choose_spec.rd.gr).2 (List.length_pos_iff.1 (by rw [HLC.out]; omega))
        have hcI := hcc I (by rw [HLC.out]; exact c1)
        obtain ⟨v, hv⟩ : ∃ v, v = cuts[I]'(by rw [HLC.out]; exact c1) := ⟨_, rfl⟩
        rw [← hv] at hcI
        have hvb := HCu.out.1 v (by rw [hv]; exact List.getElem_mem _)
        clear hcc hv
        by_cases c2 : 0 < v
        · by_cases c3 : v < (N : Int) - (A : Int)
          · obtain ⟨k, rfl⟩ : ∃ k : Nat, v = (k : Int) := ⟨v.toNat, by omega⟩
            have HFd : Hid (Calls Try.prog 20 #[.pointer (some ⟨p, 0, none⟩), .slice (some ⟨X, off + A, none⟩) k (bc - A)] wr fun e w' => e = .returned (.int .i64 0) ∧ ∃ R wo wc M, Gn w w' p false (b.take (A + k)) j R wo wc lo lc M) := gfeed_at HG.out HLN.out HB.out hX hbc hbm hNl (by omega)
            go_wp2_with (first | (go_at_call 20; (with_reducible refine HFd.out.mono ?_); rintro e W2 ⟨rfl, hg2⟩; have HG2 := hidM hg2; clear hg2 HG HFd))
            obtain ⟨R2, wo2, wc2, M2, hG⟩ := HG2.out
            clear HG2
            by_cases cj : j < (fedF (b.take (A + k))).ms.length
            · have hj1 := fed_le HLN.out hNl cj
              obtain ⟨m1, m2, m3, hR3⟩ : ∃ a b c, R2 3 = (a, b, c) := ⟨_, _, _, rfl⟩
              obtain ⟨b1, b2, b3, hR4⟩ : ∃ a b c, R2 4 = (a, b, c) := ⟨_, _, _, rfl⟩
              have z := gnext_one hG cj (by rw [List.length_take, HLN.out]; omega) (HMs.out _ (fed_mem (List.getElem_mem cj)))
              have e3 : rv (R2 3) = .slice m1 m2 m3 := by rw [hR3]; rfl
              have e4 : rv (R2 4) = .slice b1 b2 b3 := by rw [hR4]; rfl
              have HE3 := hidM e3
              have HE4 := hidM e4
              have HG := hidM hG
              refine z.mono ?_
              clear z hR3 hR4
              rintro e W3 ⟨rfl, wo3, wc3, hf, hrr⟩
              have HF := hidM hf
              have HRR := hidM hrr
              clear hf hrr hG
              rw [e3, e4]
              clear e3 e4
              have HCJ := hidM cj
              clear cj
              go_wp2_with (at_builtin; refine Hid.out ?_)
              unfold Hid
              have g1 : Gr W3 ((W3.alloc (.cells #[.slice m1 m2 m3, .slice b1 b2 b3] 24)).alloc (.cells #[.slice m1 m2 m3, .slice b1 b2 b3] 24)) := (gr_alloc W3 _).trans (gr_alloc _ _) (fun _ _ h => h)
              obtain ⟨u1, u2⟩ := HG.out.out.from HG.out.ap HF.out
              have htl : ((fedF (b.take (A + k))).ms.take j).length = j := by rw [List.length_take]; have := HCJ.out; omega
              have hrow := (u1.grow g1).row
              rw [htl] at hrow
              have hsz : (W3.alloc (.cells #[.slice m1 m2 m3, .slice b1 b2 b3] 24)).heap.size = W3.heap.size + 1 := alloc_sz _ _
              have hsrc := src_msg0 (W3.alloc (.cells #[.slice m1 m2 m3, .slice b1 b2 b3] 24)) (.slice m1 m2 m3) (.slice b1 b2 b3) rfl rfl
              rw [hsz] at hsrc
              refine wpList_append_msgs rfl (.tmp 86) (.tmp 88) rfl lo j lc _ rfl hrow (.slice (some ⟨W3.heap.size + 1, 0, none⟩) 1 1) 1 [.slice m1 m2 m3, .slice b1 b2 b3] rfl hsrc (by omega) (by omega) ?_
              intro lo' lc' W5 hrow' hgrow hblk
              have hGn := HG.out.next HCJ.out HF.out HRR.out g1 (by rw [HE3.out, HE4.out]; exact hrow') (Keeps.ofGrown hgrow) (hblk.imp id fun z => z.1)
              have HGn := hidM hGn
              clear hsrc hsz hGn hrow' hgrow hblk hrow htl u1 u2 g1 HF HRR HG HE3 HE4 HCJ
              go_wp2_with fail
              go_roundw
              case rel => exact ⟨A + k, I + 1, j + 1, lo', lc', by omega, by omega, by first | rfl | (congr 1; omega), by first | rfl | (congr 1; omega), rfl, by omega, _, _, _, _, HGn.out⟩
              case measure => simp [intOf]; omega
            · obtain ⟨z1, z2⟩ := gnext_no hG (by have := hG.hj; omega)
              obtain ⟨S1, hS1⟩ : ∃ x, (standsF (outF (fedF (b.take (A + k)))) false).1 = x := ⟨_, rfl⟩
              obtain ⟨S2, hS2⟩ : ∃ x, (standsF (outF (fedF (b.take (A + k)))) false).2 = x := ⟨_, rfl⟩
              rw [hS1] at z1 z2
              rw [hS2] at z2
              refine z2.mono ?_
              clear z2 hS1 hS2
              rintro e W3 ⟨rfl, hg3⟩
              have HG3 := hidM hg3
              clear hg3 hG
              go_wp2_with fail
              go_roundw
              case rel => exact ⟨A + k, I + 1, j, lo, lc, by omega, by omega, by first | rfl | (congr 1; omega), by first | rfl | (congr 1; omega), rfl, hj, _, _, _, _, HG3.out.grow (gr_alloc W3 _)⟩
              case measure => simp [intOf]; omega
          · skip
            have HFd : Hid (Calls Try.prog 20 #[.pointer (some ⟨p, 0, none⟩), .slice (some ⟨X, off + A, none⟩) (N - A) (bc - A)] wr fun e w' => e = .returned (.int .i64 0) ∧ ∃ R wo wc M, Gn w w' p false (b.take (A + (N - A))) j R wo wc lo lc M) := gfeed_at HG.out HLN.out HB.out hX hbc hbm hNl (by omega)
            go_wp2_with (first | (go_at_call 20; (with_reducible refine HFd.out.mono ?_); rintro e W2 ⟨rfl, hg2⟩; have HG2 := hidM hg2; clear hg2 HG HFd))
            obtain ⟨R2, wo2, wc2, M2, hG⟩ := HG2.out
            clear HG2
            by_cases cj : j < (fedF (b.take (A + (N - A)))).ms.length
            · have hj1 := fed_le HLN.out hNl cj
              obtain ⟨m1, m2, m3, hR3⟩ : ∃ a b c, R2 3 = (a, b, c) := ⟨_, _, _, rfl⟩
              obtain ⟨b1, b2, b3, hR4⟩ : ∃ a b c, R2 4 = (a, b, c) := ⟨_, _, _, rfl⟩
              have z := gnext_one hG cj (by rw [List.length_take, HLN.out]; omega) (HMs.out _ (fed_mem (List.getElem_mem cj)))
              have e3 : rv (R2 3) = .slice m1 m2 m3 := by rw [hR3]; rfl
              have e4 : rv (R2 4) = .slice b1 b2 b3 := by rw [hR4]; rfl
              have HE3 := hidM e3
              have HE4 := hidM e4
              have HG := hidM hG
              refine z.mono ?_
              clear z hR3 hR4
              rintro e W3 ⟨rfl, wo3, wc3, hf, hrr⟩
              have HF := hidM hf
              have HRR := hidM hrr
              clear hf hrr hG
              rw [e3, e4]
              clear e3 e4
              have HCJ := hidM cj
              clear cj
              go_wp2_with (at_builtin; refine Hid.out ?_)
              unfold Hid
              have g1 : Gr W3 ((W3.alloc (.cells #[.slice m1 m2 m3, .slice b1 b2 b3] 24)).alloc (.cells #[.slice m1 m2 m3, .slice b1 b2 b3] 24)) := (gr_alloc W3 _).trans (gr_alloc _ _) (fun _ _ h => h)
              obtain ⟨u1, u2⟩ := HG.out.out.from HG.out.ap HF.out
              have htl : ((fedF (b.take (A + (N - A)))).ms.take j).length = j := by rw [List.length_take]; have := HCJ.out; omega
              have hrow := (u1.grow g1).row
              rw [htl] at hrow
              have hsz : (W3.alloc (.cells #[.slice m1 m2 m3, .slice b1 b2 b3] 24)).heap.size = W3.heap.size + 1 := alloc_sz _ _
              have hsrc := src_msg0 (W3.alloc (.cells #[.slice m1 m2 m3, .slice b1 b2 b3] 24)) (.slice m1 m2 m3) (.slice b1 b2 b3) rfl rfl
              rw [hsz] at hsrc
              refine wpList_append_msgs rfl (.tmp 86) (.tmp 88) rfl lo j lc _ rfl hrow (.slice (some ⟨W3.heap.size + 1, 0, none⟩) 1 1) 1 [.slice m1 m2 m3, .slice b1 b2 b3] rfl hsrc (by omega) (by omega) ?_
              intro lo' lc' W5 hrow' hgrow hblk
              have hGn := HG.out.next HCJ.out HF.out HRR.out g1 (by rw [HE3.out, HE4.out]; exact hrow') (Keeps.ofGrown hgrow) (hblk.imp id fun z => z.1)
              have HGn := hidM hGn
              clear hsrc hsz hGn hrow' hgrow hblk hrow htl u1 u2 g1 HF HRR HG HE3 HE4 HCJ
              go_wp2_with fail
              go_roundw
              case rel => exact ⟨A + (N - A), I + 1, j + 1, lo', lc', by omega, by omega, by first | rfl | (congr 1; omega), by first | rfl | (congr 1; omega), rfl, by omega, _, _, _, _, HGn.out⟩
              case measure => simp [intOf]; omega
            · obtain ⟨z1, z2⟩ := gnext_no hG (by have := hG.hj; omega)
              obtain ⟨S1, hS1⟩ : ∃ x, (standsF (outF (fedF (b.take (A + (N - A))))) false).1 = x := ⟨_, rfl⟩
              obtain ⟨S2, hS2⟩ : ∃ x, (standsF (outF (fedF (b.take (A + (N - A))))) false).2 = x := ⟨_, rfl⟩
              rw [hS1] at z1 z2
              rw [hS2] at z2
              refine z2.mono ?_
              clear z2 hS1 hS2
              rintro e W3 ⟨rfl, hg3⟩
              have HG3 := hidM hg3
              clear hg3 hG
              go_wp2_with fail
              go_roundw
              case rel => exact ⟨A + (N - A), I + 1, j, lo, lc, by omega, by omega, by first | rfl | (congr 1; omega), by first | rfl | (congr 1; omega), rfl, hj, _, _, _, _, HG3.out.grow (gr_alloc W3 _)⟩
              case measure => simp [intOf]; omega
        · skip
          have HFd : Hid (Calls Try.prog 20 #[.pointer (some ⟨p, 0, none⟩), .slice (some ⟨X, off + A, none⟩) (N - A) (bc - A)] wr fun e w' => e = .returned (.int .i64 0) ∧ ∃ R wo wc M, Gn w w' p false (b.take (A + (N - A))) j R wo wc lo lc M) := gfeed_at HG.out HLN.out HB.out hX hbc hbm hNl (by omega)
          go_wp2_with (first | (go_at_call 20; (with_reducible refine HFd.out.mono ?_); rintro e W2 ⟨rfl, hg2⟩; have HG2 := hidM hg2; clear hg2 HG HFd))
          obtain ⟨R2, wo2, wc2, M2, hG⟩ := HG2.out
          clear HG2
          by_cases cj : j < (fedF (b.take (A + (N - A)))).ms.length
          · have hj1 := fed_le HLN.out hNl cj
            obtain ⟨m1, m2, m3, hR3⟩ : ∃ a b c, R2 3 = (a, b, c) := ⟨_, _, _, rfl⟩
            obtain ⟨b1, b2, b3, hR4⟩ : ∃ a b c, R2 4 = (a, b, c) := ⟨_, _, _, rfl⟩
            have z := gnext_one hG cj (by rw [List.length_take, HLN.out]; omega) (HMs.out _ (fed_mem (List.getElem_mem cj)))
            have e3 : rv (R2 3) = .slice m1 m2 m3 := by rw [hR3]; rfl
            have e4 : rv (R2 4) = .slice b1 b2 b3 := by rw [hR4]; rfl
            have HE3 := hidM e3
            have HE4 := hidM e4
            have HG := hidM hG
            refine z.mono ?_
            clear z hR3 hR4
            rintro e W3 ⟨rfl, wo3, wc3, hf, hrr⟩
            have HF := hidM hf
            have HRR := hidM hrr
            clear hf hrr hG
            rw [e3, e4]
            clear e3 e4
            have HCJ := hidM cj
            clear cj
            go_wp2_with (at_builtin; refine Hid.out ?_)
            unfold Hid
            have g1 : Gr W3 ((W3.alloc (.cells #[.slice m1 m2 m3, .slice b1 b2 b3] 24)).alloc (.cells #[.slice m1 m2 m3, .slice b1 b2 b3] 24)) := (gr_alloc W3 _).trans (gr_alloc _ _) (fun _ _ h => h)
            obtain ⟨u1, u2⟩ := HG.out.out.from HG.out.ap HF.out
            have htl : ((fedF (b.take (A + (N - A)))).ms.take j).length = j := by rw [List.length_take]; have := HCJ.out; omega
            have hrow := (u1.grow g1).row
            rw [htl] at hrow
            have hsz : (W3.alloc (.cells #[.slice m1 m2 m3, .slice b1 b2 b3] 24)).heap.size = W3.heap.size + 1 := alloc_sz _ _
            have hsrc := src_msg0 (W3.alloc (.cells #[.slice m1 m2 m3, .slice b1 b2 b3] 24)) (.slice m1 m2 m3) (.slice b1 b2 b3) rfl rfl
            rw [hsz] at hsrc
            refine wpList_append_msgs rfl (.tmp 86) (.tmp 88) rfl lo j lc _ rfl hrow (.slice (some ⟨W3.heap.size + 1, 0, none⟩) 1 1) 1 [.slice m1 m2 m3, .slice b1 b2 b3] rfl hsrc (by omega) (by omega) ?_
            intro lo' lc' W5 hrow' hgrow hblk
            have hGn := HG.out.next HCJ.out HF.out HRR.out g1 (by rw [HE3.out, HE4.out]; exact hrow') (Keeps.ofGrown hgrow) (hblk.imp id fun z => z.1)
            have HGn := hidM hGn
            clear hsrc hsz hGn hrow' hgrow hblk hrow htl u1 u2 g1 HF HRR HG HE3 HE4 HCJ
            go_wp2_with fail
            go_roundw
            case rel => exact ⟨A + (N - A), I + 1, j + 1, lo', lc', by omega, by omega, by first | rfl | (congr 1; omega), by first | rfl | (congr 1; omega), rfl, by omega, _, _, _, _, HGn.out⟩
            case measure => simp [intOf]; omega
          · obtain ⟨z1, z2⟩ := gnext_no hG (by have := hG.hj; omega)
            obtain ⟨S1, hS1⟩ : ∃ x, (standsF (outF (fedF (b.take (A + (N - A))))) false).1 = x := ⟨_, rfl⟩
            obtain ⟨S2, hS2⟩ : ∃ x, (standsF (outF (fedF (b.take (A + (N - A))))) false).2 = x := ⟨_, rfl⟩
            rw [hS1] at z1 z2
            rw [hS2] at z2
            refine z2.mono ?_
            clear z2 hS1 hS2
            rintro e W3 ⟨rfl, hg3⟩
            have HG3 := hidM hg3
            clear hg3 hG
            go_wp2_with fail
            go_roundw
            case rel => exact ⟨A + (N - A), I + 1, j, lo, lc, by omega, by omega, by first | rfl | (congr 1; omega), by first | rfl | (congr 1; omega), rfl, hj, _, _, _, _, HG3.out.grow (gr_alloc W3 _)⟩
            case measure => simp [intOf]; omega
      · have c1I : ¬ (I : Int) < (C : Int) := by omega
        have HFd : Hid (Calls Try.prog 20 #[.pointer (some ⟨p, 0, none⟩), .slice (some ⟨X, off + A, none⟩) (N - A) (bc - A)] wr fun e w' => e = .returned (.int .i64 0) ∧ ∃ R wo wc M, Gn w w' p false (b.take (A + (N - A))) j R wo wc lo lc M) := gfeed_at HG.out HLN.out HB.out hX hbc hbm hNl (by omega)
        go_wp2_with (first | (go_at_call 20; (with_reducible refine HFd.out.mono ?_); rintro e W2 ⟨rfl, hg2⟩; have HG2 := hidM hg2; clear hg2 HG HFd))
        obtain ⟨R2, wo2, wc2, M2, hG⟩ := HG2.out
        clear HG2
        by_cases cj : j < (fedF (b.take (A + (N - A)))).ms.length
        · have hj1 := fed_le HLN.out hNl cj
          obtain ⟨m1, m2, m3, hR3⟩ : ∃ a b c, R2 3 = (a, b, c) := ⟨_, _, _, rfl⟩
          obtain ⟨b1, b2, b3, hR4⟩ : ∃ a b c, R2 4 = (a, b, c) := ⟨_, _, _, rfl⟩
          have z := gnext_one hG cj (by rw [List.length_take, HLN.out]; omega) (HMs.out _ (fed_mem (List.getElem_mem cj)))
          have e3 : rv (R2 3) = .slice m1 m2 m3 := by rw [hR3]; rfl
          have e4 : rv (R2 4) = .slice b1 b2 b3 := by rw [hR4]; rfl
          have HE3 := hidM e3
          have HE4 := hidM e4
          have HG := hidM hG
          refine z.mono ?_
          clear z hR3 hR4
          rintro e W3 ⟨rfl, wo3, wc3, hf, hrr⟩
          have HF := hidM hf
          have HRR := hidM hrr
          clear hf hrr hG
          rw [e3, e4]
          clear e3 e4
          have HCJ := hidM cj
          clear cj
          go_wp2_with (at_builtin; refine Hid.out ?_)
          unfold Hid
          have g1 : Gr W3 ((W3.alloc (.cells #[.slice m1 m2 m3, .slice b1 b2 b3] 24)).alloc (.cells #[.slice m1 m2 m3, .slice b1 b2 b3] 24)) := (gr_alloc W3 _).trans (gr_alloc _ _) (fun _ _ h => h)
          obtain ⟨u1, u2⟩ := HG.out.out.from HG.out.ap HF.out
          have htl : ((fedF (b.take (A + (N - A)))).ms.take j).length = j := by rw [List.length_take]; have := HCJ.out; omega
          have hrow := (u1.grow g1).row
          rw [htl] at hrow
          have hsz : (W3.alloc (.cells #[.slice m1 m2 m3, .slice b1 b2 b3] 24)).heap.size = W3.heap.size + 1 := alloc_sz _ _
          have hsrc := src_msg0 (W3.alloc (.cells #[.slice m1 m2 m3, .slice b1 b2 b3] 24)) (.slice m1 m2 m3) (.slice b1 b2 b3) rfl rfl
          rw [hsz] at hsrc
          refine wpList_append_msgs rfl (.tmp 86) (.tmp 88) rfl lo j lc _ rfl hrow (.slice (some ⟨W3.heap.size + 1, 0, none⟩) 1 1) 1 [.slice m1 m2 m3, .slice b1 b2 b3] rfl hsrc (by omega) (by omega) ?_
          intro lo' lc' W5 hrow' hgrow hblk
          have hGn := HG.out.next HCJ.out HF.out HRR.out g1 (by rw [HE3.out, HE4.out]; exact hrow') (Keeps.ofGrown hgrow) (hblk.imp id fun z => z.1)
          have HGn := hidM hGn
          clear hsrc hsz hGn hrow' hgrow hblk hrow htl u1 u2 g1 HF HRR HG HE3 HE4 HCJ
          go_wp2_with fail
          go_roundw
          case rel => exact ⟨A + (N - A), I + 1, j + 1, lo', lc', by omega, by omega, by first | rfl | (congr 1; omega), by first | rfl | (congr 1; omega), rfl, by omega, _, _, _, _, HGn.out⟩
          case measure => simp [intOf]; omega
        · obtain ⟨z1, z2⟩ := gnext_no hG (by have := hG.hj; omega)
          obtain ⟨S1, hS1⟩ : ∃ x, (standsF (outF (fedF (b.take (A + (N - A))))) false).1 = x := ⟨_, rfl⟩
          obtain ⟨S2, hS2⟩ : ∃ x, (standsF (outF (fedF (b.take (A + (N - A))))) false).2 = x := ⟨_, rfl⟩
          rw [hS1] at z1 z2
          rw [hS2] at z2
          refine z2.mono ?_
          clear z2 hS1 hS2
          rintro e W3 ⟨rfl, hg3⟩
          have HG3 := hidM hg3
          clear hg3 hG
          go_wp2_with fail
          go_roundw
          case rel => exact ⟨A + (N - A), I + 1, j, lo, lc, by omega, by omega, by first | rfl | (congr 1; omega), by first | rfl | (congr 1; omega), rfl, hj, _, _, _, _, HG3.out.grow (gr_alloc W3 _)⟩
          case measure => simp [intOf]; omega
    · have cI : ¬ (A : Int) < (N : Int) := by omega
      have hAN : A = N := by omega
      subst hAN
      have hbt : b.take A = b := List.take_of_length_le (by rw [HLN.out]; omega)
      rw [hbt] at HG
      clear hbt
      cases sh with
      | false =>
        go_wp2_with fail
        obtain ⟨R0, wo0, wc0, M0, hG0⟩ := HG.out
        have hj0 : j ≤ A / 24 := by
          have h1 := hG0.hj
          have h2 := fed_many b
          rw [HLN.out] at h2
          omega
        have HG0 := hidM hG0
        clear hG0
        go_loopw [11, 18] (fun l i wr => ∃ (I j : Nat) (lo : Option Addr) (lc : Nat), I ≤ j ∧ j ≤ A / 24 ∧ i = .int .i64 (I : Int) ∧ l = .slice lo j lc ∧ Hid (∃ R wo wc M, Gn w wr p false b j R wo wc lo lc M)) (fun _ i _ => A + 1 - (intOf i).toNat)
        case atStart => exact ⟨0, j, lo, lc, Nat.zero_le _, hj0, rfl, rfl, _, _, _, _, HG0.out⟩
        case round =>
          obtain ⟨I, j, lo, lc, hIj, hj24, rfl, rfl, HG⟩ := hrel
          have cq : (I : Int) ≤ (A : Int) / 24 := by omega
          have hA0 : (0 : Int) ≤ (A : Int) := by omega
          obtain ⟨R2, wo2, wc2, M2, hG⟩ := HG.out
          clear HG HG0
          go_wp2_with fail
          by_cases cj : j < (fedF b).ms.length
          · obtain ⟨m1, m2, m3, hR3⟩ : ∃ a b c, R2 3 = (a, b, c) := ⟨_, _, _, rfl⟩
            obtain ⟨b1, b2, b3, hR4⟩ : ∃ a b c, R2 4 = (a, b, c) := ⟨_, _, _, rfl⟩
            have z := gnext_one hG cj (by rw [HLN.out]; omega) (HMs.out _ (List.getElem_mem cj))
            have e3 : rv (R2 3) = .slice m1 m2 m3 := by rw [hR3]; rfl
            have e4 : rv (R2 4) = .slice b1 b2 b3 := by rw [hR4]; rfl
            have HE3 := hidM e3
            have HE4 := hidM e4
            have HG := hidM hG
            have hj25 : j + 1 ≤ A / 24 := by
              have h2 := fed_many b
              rw [HLN.out] at h2
              omega
            refine z.mono ?_
            clear z hR3 hR4
            rintro e W3 ⟨rfl, wo3, wc3, hf, hrr⟩
            have HF := hidM hf
            have HRR := hidM hrr
            clear hf hrr hG
            rw [e3, e4]
            clear e3 e4
            have HCJ := hidM cj
            clear cj
            go_wp2_with (at_builtin; refine Hid.out ?_)
            unfold Hid
            have g1 : Gr W3 ((W3.alloc (.cells #[.slice m1 m2 m3, .slice b1 b2 b3] 24)).alloc (.cells #[.slice m1 m2 m3, .slice b1 b2 b3] 24)) := (gr_alloc W3 _).trans (gr_alloc _ _) (fun _ _ h => h)
            obtain ⟨u1, u2⟩ := HG.out.out.from HG.out.ap HF.out
            have htl : ((fedF b).ms.take j).length = j := by rw [List.length_take]; have := HCJ.out; omega
            have hrow := (u1.grow g1).row
            rw [htl] at hrow
            have hsz : (W3.alloc (.cells #[.slice m1 m2 m3, .slice b1 b2 b3] 24)).heap.size = W3.heap.size + 1 := alloc_sz _ _
            have hsrc := src_msg0 (W3.alloc (.cells #[.slice m1 m2 m3, .slice b1 b2 b3] 24)) (.slice m1 m2 m3) (.slice b1 b2 b3) rfl rfl
            rw [hsz] at hsrc
            refine wpList_append_msgs rfl (.tmp 111) (.tmp 113) rfl lo j lc _ rfl hrow (.slice (some ⟨W3.heap.size + 1, 0, none⟩) 1 1) 1 [.slice m1 m2 m3, .slice b1 b2 b3] rfl hsrc (by omega) (by omega) ?_
            intro lo' lc' W5 hrow' hgrow hblk
            have hGn := HG.out.next HCJ.out HF.out HRR.out g1 (by rw [HE3.out, HE4.out]; exact hrow') (Keeps.ofGrown hgrow) (hblk.imp id fun z => z.1)
            have HGn := hidM hGn
            clear hsrc hsz hGn hrow' hgrow hblk hrow htl u1 u2 g1 HF HRR HG HE3 HE4 HCJ
            go_wp2_with fail
            go_roundw
            case rel => exact ⟨I + 1, j + 1, lo', lc', by omega, hj25, by first | rfl | (congr 1; omega), rfl, _, _, _, _, HGn.out⟩
            case measure => simp [intOf]; omega
          · have hjj : j = (fedF b).ms.length := by have := hG.hj; omega
            obtain ⟨z1, z2⟩ := gnext_no hG hjj
            obtain ⟨S1, hS1⟩ : ∃ x, (standsF (outF (fedF b)) false).1 = x := ⟨_, rfl⟩
            obtain ⟨S2, hS2⟩ : ∃ x, (standsF (outF (fedF b)) false).2 = x := ⟨_, rfl⟩
            rw [hS1] at z1 z2
            rw [hS2] at z2
            have HS1 := hidM hS1
            have HS2 := hidM hS2
            have HJ := hidM hjj
            refine z2.mono ?_
            clear z2 hS1 hS2 hjj cj
            rintro e W3 ⟨rfl, hg3⟩
            have HG3 := hidM (hg3.grow (gr_alloc W3 (.cells #[.slice none 0 0, .slice none 0 0] 24)))
            clear hg3 hG
            go_wp2_with fail
            have HMm : Hid (MsgsAt (W3.alloc (.cells #[.slice none 0 0, .slice none 0 0] 24)) lo (fedF b).ms) := by
              have h1 := HG3.out.out
              rw [List.take_of_length_le (by rw [HJ.out]; exact Nat.le_refl _)] at h1
              exact h1.msgs fun x hx => by have := HMs.out x hx; omega
            have HGr := hidM HG3.out.rd.gr
            have HEq : Hid (Ending.returned (.tuple #[.slice lo j lc, .int .i64 S1, .int .i64 S2]) = Ending.returned (.tuple #[.slice lo (fedF b).ms.length lc, .int .i64 (standsF (outF (fedF b)) false).1, .int .i64 (standsF (outF (fedF b)) false).2])) := by
              show _ = _
              rw [HS1.out, HS2.out, ← HJ.out]
            clear HG3 HS1 HS2 HJ
            refine bodyPost_ret (v := .tuple #[.slice lo j lc, .int .i64 S1, .int .i64 S2]) ?_ rfl ⟨lo, lc, HEq.out, HMm.out, HGr.out⟩
            simp [results, Try.f30, go_sem]
      | true =>
        obtain ⟨R1, wo1, wc1, M1, hG1⟩ := HG.out
        have HSh : Hid (Calls Try.prog 22 #[.pointer (some ⟨p, 0, none⟩)] wr fun e w' => e = .returned (.int .i64 0) ∧ ∃ R wo wc M, Gn w w' p true b j R wo wc lo lc M) := by
          refine (shut_any hG1.rd).mono ?_
          intro e w' k
          rw [if_neg (by simp)] at k
          exact ⟨k.1, R1, wo1, wc1, M1, hG1.shut k.2⟩
        clear hG1
        go_wp2_with (first | (go_at_call 22; (with_reducible refine HSh.out.mono ?_); rintro e W2 ⟨rfl, hg2⟩; have HG9 := hidM hg2; clear hg2 HG HSh))
        obtain ⟨R0, wo0, wc0, M0, hG0⟩ := HG9.out
        have hj0 : j ≤ A / 24 := by
          have h1 := hG0.hj
          have h2 := fed_many b
          rw [HLN.out] at h2
          omega
        have HG0 := hidM hG0
        clear hG0
        go_loopw [11, 18] (fun l i wr => ∃ (I j : Nat) (lo : Option Addr) (lc : Nat), I ≤ j ∧ j ≤ A / 24 ∧ i = .int .i64 (I : Int) ∧ l = .slice lo j lc ∧ Hid (∃ R wo wc M, Gn w wr p true b j R wo wc lo lc M)) (fun _ i _ => A + 1 - (intOf i).toNat)
        case atStart => exact ⟨0, j, lo, lc, Nat.zero_le _, hj0, rfl, rfl, _, _, _, _, HG0.out⟩
        case round =>
          obtain ⟨I, j, lo, lc, hIj, hj24, rfl, rfl, HG⟩ := hrel
          have cq : (I : Int) ≤ (A : Int) / 24 := by omega
          have hA0 : (0 : Int) ≤ (A : Int) := by omega
          obtain ⟨R2, wo2, wc2, M2, hG⟩ := HG.out
          clear HG HG0
          go_wp2_with fail
          by_cases cj : j < (fedF b).ms.length
          · obtain ⟨m1, m2, m3, hR3⟩ : ∃ a b c, R2 3 = (a, b, c) := ⟨_, _, _, rfl⟩
            obtain ⟨b1, b2, b3, hR4⟩ : ∃ a b c, R2 4 = (a, b, c) := ⟨_, _, _, rfl⟩
            have z := gnext_one hG cj (by rw [HLN.out]; omega) (HMs.out _ (List.getElem_mem cj))
            have e3 : rv (R2 3) = .slice m1 m2 m3 := by rw [hR3]; rfl
            have e4 : rv (R2 4) = .slice b1 b2 b3 := by rw [hR4]; rfl
            have HE3 := hidM e3
            have HE4 := hidM e4
            have HG := hidM hG
            have hj25 : j + 1 ≤ A / 24 := by
              have h2 := fed_many b
              rw [HLN.out] at h2
              omega
            refine z.mono ?_
            clear z hR3 hR4
            rintro e W3 ⟨rfl, wo3, wc3, hf, hrr⟩
            have HF := hidM hf
            have HRR := hidM hrr
            clear hf hrr hG
            rw [e3, e4]
            clear e3 e4
            have HCJ := hidM cj
            clear cj
            go_wp2_with (at_builtin; refine Hid.out ?_)
            unfold Hid
            have g1 : Gr W3 ((W3.alloc (.cells #[.slice m1 m2 m3, .slice b1 b2 b3] 24)).alloc (.cells #[.slice m1 m2 m3, .slice b1 b2 b3] 24)) := (gr_alloc W3 _).trans (gr_alloc _ _) (fun _ _ h => h)
            obtain ⟨u1, u2⟩ := HG.out.out.from HG.out.ap HF.out
            have htl : ((fedF b).ms.take j).length = j := by rw [List.length_take]; have := HCJ.out; omega
            have hrow := (u1.grow g1).row
            rw [htl] at hrow
            have hsz : (W3.alloc (.cells #[.slice m1 m2 m3, .slice b1 b2 b3] 24)).heap.size = W3.heap.size + 1 := alloc_sz _ _
            have hsrc := src_msg0 (W3.alloc (.cells #[.slice m1 m2 m3, .slice b1 b2 b3] 24)) (.slice m1 m2 m3) (.slice b1 b2 b3) rfl rfl
            rw [hsz] at hsrc
            refine wpList_append_msgs rfl (.tmp 111) (.tmp 113) rfl lo j lc _ rfl hrow (.slice (some ⟨W3.heap.size + 1, 0, none⟩) 1 1) 1 [.slice m1 m2 m3, .slice b1 b2 b3] rfl hsrc (by omega) (by omega) ?_
            intro lo' lc' W5 hrow' hgrow hblk
            have hGn := HG.out.next HCJ.out HF.out HRR.out g1 (by rw [HE3.out, HE4.out]; exact hrow') (Keeps.ofGrown hgrow) (hblk.imp id fun z => z.1)
            have HGn := hidM hGn
            clear hsrc hsz hGn hrow' hgrow hblk hrow htl u1 u2 g1 HF HRR HG HE3 HE4 HCJ
            go_wp2_with fail
            go_roundw
            case rel => exact ⟨I + 1, j + 1, lo', lc', by omega, hj25, by first | rfl | (congr 1; omega), rfl, _, _, _, _, HGn.out⟩
            case measure => simp [intOf]; omega
          · have hjj : j = (fedF b).ms.length := by have := hG.hj; omega
            obtain ⟨z1, z2⟩ := gnext_no hG hjj
            obtain ⟨S1, hS1⟩ : ∃ x, (standsF (outF (fedF b)) true).1 = x := ⟨_, rfl⟩
            obtain ⟨S2, hS2⟩ : ∃ x, (standsF (outF (fedF b)) true).2 = x := ⟨_, rfl⟩
            rw [hS1] at z1 z2
            rw [hS2] at z2
            have HS1 := hidM hS1
            have HS2 := hidM hS2
            have HJ := hidM hjj
            refine z2.mono ?_
            clear z2 hS1 hS2 hjj cj
            rintro e W3 ⟨rfl, hg3⟩
            have HG3 := hidM (hg3.grow (gr_alloc W3 (.cells #[.slice none 0 0, .slice none 0 0] 24)))
            clear hg3 hG
            go_wp2_with fail
            have HMm : Hid (MsgsAt (W3.alloc (.cells #[.slice none 0 0, .slice none 0 0] 24)) lo (fedF b).ms) := by
              have h1 := HG3.out.out
              rw [List.take_of_length_le (by rw [HJ.out]; exact Nat.le_refl _)] at h1
              exact h1.msgs fun x hx => by have := HMs.out x hx; omega
            have HGr := hidM HG3.out.rd.gr
            have HEq : Hid (Ending.returned (.tuple #[.slice lo j lc, .int .i64 S1, .int .i64 S2]) = Ending.returned (.tuple #[.slice lo (fedF b).ms.length lc, .int .i64 (standsF (outF (fedF b)) true).1, .int .i64 (standsF (outF (fedF b)) true).2])) := by
              show _ = _
              rw [HS1.out, HS2.out, ← HJ.out]
            clear HG3 HS1 HS2 HJ
            refine bodyPost_ret (v := .tuple #[.slice lo j lc, .int .i64 S1, .int .i64 S2]) ?_ rfl ⟨lo, lc, HEq.out, HMm.out, HGr.out⟩
            simp [results, Try.f30, go_sem]

end Go.Proofs.Ytemleibpmaclmaa.Kit
