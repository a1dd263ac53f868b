import Derived.Test.YtegjpmodleigeaaGreatDoorCF
set_option maxRecDepth 100000
set_option maxHeartbeats 4000000
namespace Go.Proofs.YtegjpmodleigeaaGreatDoor.Kit
open Go.RowKit Go.Shelf Go.Deep
open Go.Proofs.YtegjpmodleigeaaGreatDoor.Kd (Ans AnsV cell5 cell2)
open Go.Proofs.YtegjpmodleigeaaGreatDoor.Ink (OwnRow)
set_option linter.unusedVariables false
set_option linter.unusedSimpArgs false
attribute [local go_sem] run_store_func
theorem kind118 (q : Nat) (nu : Bool) (ao : Option Addr) (ca : Nat) (L N : Int) (bv : Value) (W : World) (h : W.heap[q]? = some (.cells (ndC nu ao ca L N bv) 108)) : Calls Tryz.prog 121 #[.pointer (some ⟨q, 0, none⟩)] W fun e w' => e = .returned (.int .i64 3) ∧ w' = W := by
  have c2 : W.cell? ⟨q, 2, none⟩ = some (.int .i64 3) := by simp [World.cell?, h, ndC]
  clear h
  go_enter Tryz.func121, Tryz.ntmps121
  go_wp2_with fail
  go_ret
  exact ⟨rfl, rfl⟩
theorem masked97 (q : Nat) (nu : Bool) (ao : Option Addr) (ca : Nat) (L N : Int) (bv : Value) (W : World) (h : W.heap[q]? = some (.cells (ndC nu ao ca L N bv) 108)) : Calls Tryz.prog 105 #[.pointer (some ⟨q, 0, none⟩)] W fun e w' => e = .returned (.bool true) ∧ w' = W := by
  have HC := hidM (kind118 q nu ao ca L N bv W h)
  clear h
  go_enter Tryz.func105, Tryz.ntmps105
  go_wp2_with (go_at_call 121; refine HC.out.mono ?_; rintro e w2 ⟨rfl, rfl⟩)
  go_ret
  exact ⟨rfl, rfl⟩
theorem end96 (q : Nat) (nu : Bool) (ao : Option Addr) (ca L N : Nat) (bv : Value) (W : World) (h : W.heap[q]? = some (.cells (ndC nu ao ca L N bv) 108)) (hL : L ≤ 2000) (hN : N ≤ 2000) : Calls Tryz.prog 104 #[.pointer (some ⟨q, 0, none⟩)] W fun e w' => e = .returned (.int .i64 ((N : Int) + (L : Int))) ∧ w' = W.drew := by
  obtain ⟨a1, a2, a3⟩ := cellN h
  have HS0 : Hid (W.drew.cell? ⟨q, 8, none⟩ = some (.int .i64 L) ∧ W.drew.cell? ⟨q, 9, none⟩ = some (.int .i64 N)) := ⟨a1, a2⟩
  have hw : IntKind.i64.wrap ((N : Int) + (L : Int)) = (N : Int) + (L : Int) := by rw [IntKind.wrap_i64]; omega
  clear h a1 a2 a3
  go_enter Tryz.func104, Tryz.ntmps104
  go_wp2_with fail
  go_region_held3 (fun u => u.cell? ⟨q, 8, none⟩ = some (.int .i64 L) ∧ u.cell? ⟨q, 9, none⟩ = some (.int .i64 N)) (with_reducible exact HS0.out) (fail)
  go_wp2_with fail
  go_ret
  exact ⟨rfl, rfl⟩
theorem results_cell236 {fn : Func} {t : Tmp} {tmps : Array Value} {g : Nat} {cs : Array Value} {w : World} (h : fn.results = #[.cell t 245]) (ht : tmps.getD t undef = .pointer (some ⟨g, 0, none⟩)) (hg : w.heap[g]? = some (.cells cs 245 (0, 0))) (hi : (Tryz.prog.info? 245).map (·.size) = some cs.size) :
    (results fn tmps).run Tryz.prog w = .ok (.agg cs) w := by
  have hl := run_loadVar_row (P := Tryz.prog) w g 245 245 cs (0, 0) _ hg Tryz.underlying245 rfl hi
  unfold results
  rw [h]
  simp only [Array.mapM_eq_mapM_toList, List.mapM_cons, List.mapM_nil, ht]
  simp [asAddr, hl]
theorem viewOf93 (vo : Option Addr) (n vc : Nat) (W : World) : Calls Tryz.prog 101 #[.slice vo n vc] W fun e w' => e = .returned (.agg #[.slice vo n vc, .int .i64 0, .pointer none]) ∧ Gr W w' := by
  have HB := hidM (heap_alloc_new W (.cells #[.slice vo n vc, .int .i64 0, .pointer none] 245))
  go_enter Tryz.func101, Tryz.ntmps101
  go_wp2_with fail
  (try simp only [Exit.inBlock, Exit.then])
  refine bodyPost_ret (results_cell236 rfl rfl (by with_reducible exact HB.out) (by kernel_rfl)) rfl ?_
  exact ⟨rfl, gr_alloc _ _⟩
theorem len100 (vo : Option Addr) (n vc : Nat) (W : World) : Calls Tryz.prog 108 #[.agg #[.slice vo n vc, .int .i64 0, .pointer none]] W fun e w' => e = .returned (.int .i64 n) ∧ Gr W w' := by
  go_enter Tryz.func108, Tryz.ntmps108
  go_wp2_with fail
  go_ret
  exact ⟨rfl, gr_alloc _ _⟩
theorem grow124 (W : World) : Calls Tryz.prog 134 #[.slice none 0 0, .int .i64 0] W fun e w' => e = .returned (.slice none 0 0) ∧ w' = W := by
  go_enter Tryz.func134, Tryz.ntmps134
  go_wp2_with fail
  go_ret
  exact ⟨rfl, rfl⟩
theorem parts116 (ao : Option Addr) (ca : Nat) (W : World) (hT : Tab W) (h37 : ∀ u, Gr W u → Calls Tryz.prog 86 #[.slice ao 0 ca] u fun e w' => ∃ vo vc, e = .returned (.slice vo 0 vc) ∧ Gr u w') : Calls Tryz.prog 119 #[.agg #[.int .i64 3, .int .i64 0, .int .i64 0, .int .i64 0, .slice ao 0 ca]] W fun e w' => ∃ vo vc, e = .returned (.slice vo 0 vc) ∧ Gr W w' := by
  obtain ⟨A, hA⟩ : ∃ A, W.alloc (.cells #[.int .i64 3, .int .i64 0, .int .i64 0, .int .i64 0, .slice ao 0 ca] 25) = A := ⟨_, rfl⟩
  have gA : Gr W A := by rw [← hA]; exact gr_alloc W _
  have hb : A.heap[W.heap.size]? = some (.cells #[.int .i64 3, .int .i64 0, .int .i64 0, .int .i64 0, .slice ao 0 ca] 25) := by rw [← hA]; exact heap_alloc_new W _
  obtain ⟨e0, e1, e2, e3, e4⟩ := cell5 hb
  have HB := hidM hb
  have HG := hidM gA
  have HT := hidM (hT.gr gA)
  have H37 := hidM h37
  clear gA hb hT h37
  go_enter Tryz.func119, Tryz.ntmps119
  go_wp2_with (first
    | (go_at_call 118; refine (typeMayBe83 ao ca _ HT.out).mono ?_; rintro e w1 ⟨rfl, g1⟩; have HG1 := hidM (HG.out.trans g1 (fun _ _ h => h)); clear hA e0 e1 e2 e3 e4; obtain ⟨e0, e1, e2, e3, e4⟩ := cell5 ((g1.block _ (lt_of_heap HB.out) id).trans HB.out); have HB1 := hidM ((g1.block _ (lt_of_heap HB.out) id).trans HB.out); clear g1)
    | (go_at_call 86; refine (H37.out _ HG1.out).mono ?_; rintro e w2 ⟨vo, vc, rfl, g2⟩; have HG2 := hidM (HG1.out.trans g2 (fun _ _ h => h)); clear e0 e1 e2 e3 e4; obtain ⟨e0, e1, e2, e3, e4⟩ := cell5 ((g2.block _ (lt_of_heap HB1.out) id).trans HB1.out); clear g2))
  go_ret
  exact ⟨vo, vc, rfl, HG2.out⟩
theorem partFields94 (ao : Option Addr) (ca : Nat) (W : World) (hT : Tab W) (h37 : ∀ u, Gr W u → Calls Tryz.prog 86 #[.slice ao 0 ca] u fun e w' => ∃ vo vc, e = .returned (.slice vo 0 vc) ∧ Gr u w') : Calls Tryz.prog 102 #[.agg #[.int .i64 3, .int .i64 0, .int .i64 0, .int .i64 0, .slice ao 0 ca]] W fun e w' => ∃ vo vc, e = .returned (.slice vo 0 vc) ∧ Gr W w' := by
  obtain ⟨A, hA⟩ : ∃ A, W.alloc (.cells #[.int .i64 3, .int .i64 0, .int .i64 0, .int .i64 0, .slice ao 0 ca] 25) = A := ⟨_, rfl⟩
  have gA : Gr W A := by rw [← hA]; exact gr_alloc W _
  have hb : A.heap[W.heap.size]? = some (.cells #[.int .i64 3, .int .i64 0, .int .i64 0, .int .i64 0, .slice ao 0 ca] 25) := by rw [← hA]; exact heap_alloc_new W _
  obtain ⟨e0, e1, e2, e3, e4⟩ := cell5 hb
  have HG := hidM gA
  have HC := hidM (parts116 ao ca A (hT.gr gA) (fun u g => h37 u (gA.trans g (fun _ _ h => h))))
  clear gA hb hT h37
  go_enter Tryz.func102, Tryz.ntmps102
  go_wp2_with (go_at_call 119; refine HC.out.mono ?_; rintro e w2 ⟨vo, vc, rfl, g2⟩; have HG2 := hidM (HG.out.trans g2 (fun _ _ h => h)); clear g2)
  go_ret
  exact ⟨vo, vc, rfl, HG2.out⟩
theorem copied37 (ao : Option Addr) (ca : Nat) (W : World) : Calls Tryz.prog 86 #[.slice ao 0 ca] W fun e w' => ∃ vo vc, e = .returned (.slice vo 0 vc) ∧ Gr W w' := by
  refine (Kd.copied_any 0 (fun _ => False) W ao ca [] rfl (fun _ h => h.elim)).mono ?_
  rintro e w' ⟨vo, vc, he, hq⟩
  exact ⟨vo, vc, he, hq.1⟩
theorem info29 : (Tryz.prog.info? 32).map (fun i => (i.zero, i.size, i.bytes)) = some (some (.agg (dCo 0 0 (.slice none 0 0))), 6, 96) := by kernel_rfl
theorem cz31 : (Value.agg (dCo 0 0 (.slice none 0 0))).cells.size = 6 := by kernel_rfl
theorem concat117 (z c : Nat) (W : World) (h0 : W.cell? ⟨z, 0, none⟩ = some (.slice none 0 0)) (h1 : W.cell? ⟨z, 1, none⟩ = some (.slice none 0 0)) :
    Calls Tryz.prog 120 #[.slice (some ⟨z, 0, none⟩) 2 c] W fun e w' => ∃ uo uc, e = .returned (.slice uo 0 uc) ∧ Gr W w' := by
  have H : Hid (∀ k, k < 2 → W.cell? ⟨z, k, none⟩ = some (.slice none 0 0)) := fun k hk => by
    have : k = 0 ∨ k = 1 := by omega
    rcases this with rfl | rfl
    · exact h0
    · exact h1
  clear h0 h1
  go_enter Tryz.func120, Tryz.ntmps120
  go_wp2_with fail
  go_loopw [11, 3] (fun i s wr => ∃ k : Nat, k ≤ 2 ∧ i = .int .i64 k ∧ s = .int .i64 0 ∧ wr = W) (fun i _ _ => 2 - (intOf i).toNat)
  case atStart => exact ⟨0, by omega, rfl, rfl, rfl⟩
  case round =>
    obtain ⟨k, hk, rfl, rfl, rfl⟩ := hrel
    by_cases hlt : k < 2
    · have c1 := H.out k hlt
      go_wp2_with fail
      go_roundw
      case rel => exact ⟨k + 1, by omega, by go_num, by simp, trivial⟩
      case measure => simp [intOf]; omega
    · obtain rfl : k = 2 := by omega
      go_wp2_with (go_at_call 134; refine (grow124 _).mono ?_; rintro e w2 ⟨rfl, rfl⟩)
      go_loopw [27, 6] (fun i s wr => ∃ (k : Nat) (uo : Option Addr) (uc : Nat), k ≤ 2 ∧ i = .int .i64 k ∧ s = .slice uo 0 uc ∧ Hid (wr.ownsRow 0 32 6 (.slice uo 0 uc) 0 [] ∧ Gr w2 wr ∧ ∀ g, (Value.slice uo 0 uc).ownBlock = some g → w2.heap.size ≤ g)) (fun i _ _ => 2 - (intOf i).toNat)
      case atStart => exact ⟨0, none, 0, by omega, rfl, rfl, ⟨rfl, .inl ⟨rfl, rfl⟩⟩, Keeps.refl _ _, fun g e => by simp [Value.ownBlock] at e⟩
      case round =>
        obtain ⟨k, uo, uc, hk, rfl, rfl, HI⟩ := hrel
        obtain ⟨ho, hg, hl⟩ := HI.out
        have HO := hidM ho
        have HG := hidM hg
        have HL := hidM hl
        clear ho hg hl HI
        by_cases hlt : k < 2
        · have c1 := HG.out.cell' (H.out k hlt) id
          go_wp2_with (at_builtin; refine Hid.out ?_)
          unfold Hid
          refine wpList_append_anyN (P := Tryz.prog) wr rfl (.tmp 31) (.tmp 32) 30 30 rfl 32 (.agg (dCo 0 0 (.slice none 0 0))) 6 96 Tryz.underlying30 info29 cz31 (.slice uo 0 uc) 0 [] rfl HO.out (.slice none 0 0) 0 [] rfl (Src.ofNil (w := wr) Tryz.underlying30 0) (by omega) (by omega) ?_
          intro v' w3 ha1 ha2 ha3
          obtain ⟨ko, kc, rfl⟩ := own_formN ha1
          have HN : Hid (w3.ownsRow 0 32 6 (.slice ko 0 kc) 0 [] ∧ Gr w2 w3 ∧ ∀ g, (Value.slice ko 0 kc).ownBlock = some g → w2.heap.size ≤ g) := by
            refine ⟨ha1, HG.out.trans (Keeps.ofGrown ha2) (fun j hj e => ?_), fun g e => ?_⟩
            · have := HL.out j e
              omega
            · rcases ha3 with e2 | e2
              · exact HL.out g (e2 ▸ e)
              · exact Nat.le_trans HG.out.size (e2 g e)
          clear ha1 ha2 ha3 c1
          go_wp2_with fail
          go_roundw
          case rel => exact ⟨k + 1, ko, kc, by omega, by go_num, rfl, HN⟩
          case measure => simp [intOf]; omega
        · obtain rfl : k = 2 := by omega
          go_wp2_with fail
          go_ret
          exact ⟨uo, uc, rfl, HG.out⟩
end Go.Proofs.YtegjpmodleigeaaGreatDoor.Kit
