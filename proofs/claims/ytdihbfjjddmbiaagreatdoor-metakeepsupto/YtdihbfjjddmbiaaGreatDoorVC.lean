import Derived.Test.YtdihbfjjddmbiaaGreatDoorLD
import Derived.Test.YtdihbfjjddmbiaaGreatDoorMB
import Derived.Test.YtdihbfjjddmbiaaGreatDoorHA
set_option maxRecDepth 100000
set_option maxHeartbeats 4000000
namespace Go.Proofs.YtdihbfjjddmbiaaGreatDoor.Kit
open Go.RowKit Go.Shelf Go.Deep
set_option linter.unusedVariables false
attribute [local go_sem] run_store_func
def okM (f : FT) : Prop := f.name.size ≤ 48 ∧ tableB f = true
theorem tableB_nums {f : FT} (h : tableB f = true) : 0 < f.kind ∧ f.kind < 21 ∧ (f.kind = 14 ∨ f.kind = 16 → 0 ≤ f.width ∧ f.width < 100) ∧ (f.kind = 19 → 0 ≤ f.id ∧ f.id < 32 ∧ 3 ≤ f.index ∧ f.index ≤ 10) ∧ f.kids.length ≤ 32 := by
  unfold tableB kindB widthB dictB indexB at h
  simp only [Bool.and_eq_true, decide_eq_true_eq] at h
  obtain ⟨⟨h1, h2⟩, ⟨⟨h3, h4⟩, h5⟩, h6⟩ := h
  refine ⟨h1, h2, ?_, ?_, ?_⟩
  · rintro (e | e) <;> simp [e] at h5 <;> omega
  · intro e
    simp [e] at h6
    omega
  have : ∀ k : Nat, mostK k ≤ 32 := fun k => by unfold mostK; split <;> omega
  have := this f.kind.toNat
  omega
theorem fieldR_walk (f : FT) (ao : Option Addr) (ca : Nat) (kb : FT → List UInt8) (w : World) (ok : okM f) (hk : f.kids ≠ [] → ∃ b o, ao = some ⟨b, o, none⟩ ∧ ∀ i (h : i < f.kids.length), ∃ ao' ca', CellsAt w b (o + i * 7) f.kids[i] ao' ca' ∧ ∀ W vo vc n bs, Byts w W vo vc n bs → n + (kb f.kids[i]).length ≤ 500000 → Calls Tryz.prog 15 #[.slice vo n vc, .agg #[.string f.kids[i].name, .bool f.kids[i].nul, .int .i64 f.kids[i].kind, .int .i64 f.kids[i].width, .int .i64 f.kids[i].id, .int .i64 f.kids[i].index, .slice ao' f.kids[i].kids.length ca']] W fun e w' => ∃ vo' vc' n', e = .returned (.slice vo' n' vc') ∧ Ap w W w' vo vc n vo' vc' n' (bs ++ kb f.kids[i])) :
    ∀ W vo vc n bs, Byts w W vo vc n bs → n + (hdB f ++ f.kids.flatMap kb).length ≤ 500000 → Calls Tryz.prog 15 #[.slice vo n vc, .agg #[.string f.name, .bool f.nul, .int .i64 f.kind, .int .i64 f.width, .int .i64 f.id, .int .i64 f.index, .slice ao f.kids.length ca]] W fun e w' => ∃ vo' vc' n', e = .returned (.slice vo' n' vc') ∧ Ap w W w' vo vc n vo' vc' n' (bs ++ (hdB f ++ f.kids.flatMap kb)) := by
  intro W vo vc n bs hb hbd
  obtain ⟨k1, k2, k3, k4, k5⟩ := tableB_nums ok.2
  have hnm := ok.1
  have HKids := hidM hk
  have HBd : Hid (bs.length + (hdB f).length + (f.kids.flatMap kb).length ≤ 500000) := by show _ ≤ _; have := hb.len; rw [List.length_append] at hbd; omega
  have hn0 : n ≤ 500000 := by omega
  have x1 := World.alloc_heap_new W (.cells #[.string f.name, .bool f.nul, .int .i64 f.kind, .int .i64 f.width, .int .i64 f.id, .int .i64 f.index, .slice ao f.kids.length ca] 52)
  have hne : ¬ (Value.slice vo n vc).ownBlock = some W.heap.size := fun e => by have := own_lt hb.own _ e; omega
  have HB1 := hidM (hb.gr' (gr_alloc W (.cells #[.string f.name, .bool f.nul, .int .i64 f.kind, .int .i64 f.width, .int .i64 f.id, .int .i64 f.index, .slice ao f.kids.length ca] 52)))
  have HX := hidM (And.intro x1 hne)
  obtain ⟨V1, hV1⟩ : ∃ V1, V1 = W.alloc (.cells #[.string f.name, .bool f.nul, .int .i64 f.kind, .int .i64 f.width, .int .i64 f.id, .int .i64 f.index, .slice ao f.kids.length ca] 52) := ⟨_, rfl⟩
  have HPre : Hid (Gr W V1) := by rw [hV1]; exact gr_alloc W _
  rw [← hV1] at HB1 HX
  have H15 := hidM (textR_at HB1.out (by omega) f.name 1 1 (by omega) rfl (by omega))
  clear hb hk x1 hne hbd
  go_enter Tryz.func15, Tryz.ntmps15
  go_wp2_with (go_at_call 16; refine Hid.out ?_)
  unfold Hid
  try rw [← hV1]
  clear hV1
  refine Calls.mono H15.out ?_
  rintro e W2 ⟨vo2, vc2, rfl, hp2⟩
  obtain ⟨n2, hn2⟩ : ∃ n2, n2 = n + 1 + f.name.size := ⟨_, rfl⟩
  rw [← hn2] at hp2 ⊢
  obtain ⟨b2, hne2⟩ := hp2.box HX.out.1 HX.out.2
  obtain ⟨q0, q1, q2, q3, q4, q5, q6⟩ := ce7 b2
  have HP2 := hidM hp2
  have HX2 := hidM (And.intro b2 hne2)
  have hn2b : n2 ≤ 500100 := by omega
  have H16 := hidM (flagR_any hp2.b (by omega) f.nul)
  clear hp2 b2 hne2 H15 hn2
  go_wp2_with (go_at_call 17; refine Hid.out ?_)
  unfold Hid
  refine Calls.mono H16.out ?_
  rintro e W3 ⟨vo3, vc3, rfl, hp3⟩
  clear q0 q1 q2 q3 q4 q5 q6
  obtain ⟨b3, hne3⟩ := hp3.box HX2.out.1 HX2.out.2
  obtain ⟨q0, q1, q2, q3, q4, q5, q6⟩ := ce7 b3
  obtain ⟨n3, hn3⟩ : ∃ n3, n3 = n2 + 1 := ⟨_, rfl⟩
  rw [← hn3] at hp3 ⊢
  have HP3 := hidM (HP2.out.trans hp3)
  clear b3 hne3 H16 hp3 HX2 HP2
  have x3 := World.alloc_heap_new W3 (.cells #[.int .i64 f.kind, .int .i64 f.width, .int .i64 f.id, .int .i64 f.index, .slice ao f.kids.length ca] 50)
  have hn3b : n3 ≤ 500200 := by omega
  have hne4 : ¬ (Value.slice vo3 n3 vc3).ownBlock = some W3.heap.size := fun e => by have := own_lt HP3.out.b.own _ e; omega
  have HAp4 : Hid (Ap w V1 (W3.alloc (.cells #[.int .i64 f.kind, .int .i64 f.width, .int .i64 f.id, .int .i64 f.index, .slice ao f.kids.length ca] 50)) vo vc n vo3 vc3 n3 (bs ++ txtB f.name 1 ++ flgB f.nul)) := HP3.out.gr (gr_alloc W3 _)
  obtain ⟨V4, hV4⟩ : ∃ V4, V4 = W3.alloc (.cells #[.int .i64 f.kind, .int .i64 f.width, .int .i64 f.id, .int .i64 f.index, .slice ao f.kids.length ca] 50) := ⟨_, rfl⟩
  obtain ⟨B, hB⟩ : ∃ B, B = W3.heap.size := ⟨_, rfl⟩
  rw [← hV4] at HAp4 x3
  rw [← hB] at x3 hne4
  have HX4 := hidM (And.intro x3 hne4)
  have H13 := hidM (numberR_at HAp4.out.b (by omega) f.kind 1 1 (by omega) (by omega) rfl (by omega))
  clear x3 hne4 hn3 HP3
  go_wp2_with (go_at_call 14; refine Hid.out ?_)
  unfold Hid
  try rw [← hV4]
  try rw [← hB]
  clear hV4 hB
  refine Calls.mono H13.out ?_
  rintro e W5 ⟨vo5, vc5, rfl, hp5⟩
  obtain ⟨n5, hn5⟩ : ∃ n5, n5 = n3 + 1 := ⟨_, rfl⟩
  rw [← hn5] at hp5 ⊢
  clear q0 q1 q2 q3 q4 q5 q6
  have hn5b : n5 ≤ 500300 := by omega
  clear hn5
  have HA5 := hidM (HAp4.out.trans hp5)
  obtain ⟨b5, hne5⟩ := hp5.box HX4.out.1 HX4.out.2
  have HX5 := hidM (And.intro b5 hne5)
  obtain ⟨q0, q1, q2, q3, q4⟩ := ce5 b5
  clear hp5 b5 hne5 H13 HAp4 HX4
  by_cases c14 : f.kind = 14
  · have e14 : (f.kind == 14) = true := by simp [c14]
    have e16 : (f.kind == 16) = false := beqF (by omega)
    have e19 : (f.kind == 19) = false := beqF (by omega)
    have e17 : (f.kind == 17) = false := beqF (by omega)
    have e18 : (f.kind == 18) = false := beqF (by omega)
    have hwz := k3 (by omega)
    have HKd := hidM c14
    clear c14
    have HC7 := hidM (numberR_at HA5.out.b (by omega) f.width 2 2 (by omega) (by omega) rfl (by omega))
    go_wp2_with (go_at_call 14; refine Hid.out ?_)
    unfold Hid
    refine Calls.mono HC7.out ?_
    rintro e W7 ⟨vo7, vc7, rfl, hp7⟩
    obtain ⟨n7, hn7⟩ : ∃ n7, n7 = n5 + 2 := ⟨_, rfl⟩
    rw [← hn7] at hp7 ⊢
    have hn7b : n7 ≤ 500400 := by omega
    clear hn7 q0 q1 q2 q3 q4
    have HA7 := hidM (HA5.out.trans hp7)
    obtain ⟨b7, hne7⟩ := hp7.box HX5.out.1 HX5.out.2
    have HX7 := hidM (And.intro b7 hne7)
    obtain ⟨q0, q1, q2, q3, q4⟩ := ce5 b7
    clear hp7 b7 hne7 HC7
    have HEq : Hid (bs ++ txtB f.name 1 ++ flgB f.nul ++ numB f.kind.toNat 1 ++ numB f.width.toNat 2 = bs ++ hdB f) := by show _ = _; unfold hdB; rw [show extB f = numB f.width.toNat 2 by unfold extB; rw [if_pos (by rw [HKd.out]; decide)]]; simp [List.append_assoc]
    have HS0 : Hid (Ap w V1 W7 vo vc n vo7 vc7 n7 (bs ++ hdB f) ∧ W7.heap[B]? = some (.cells #[.int .i64 f.kind, .int .i64 f.width, .int .i64 f.id, .int .i64 f.index, .slice ao f.kids.length ca] 50) ∧ ¬ (Value.slice vo7 n7 vc7).ownBlock = some B) := by have := HA7.out; rw [HEq.out] at this; exact ⟨this, HX7.out⟩
    clear HA7 HX7 HEq
    go_wp2_with fail
    go_loopw [0, 6] (fun v i wr => ∃ (k n' : Nat) (vo' : Option Addr) (vc' : Nat), k ≤ f.kids.length ∧ i = .int .i64 (k : Int) ∧ v = .slice vo' n' vc' ∧ Hid (Ap w V1 wr vo vc n vo' vc' n' (bs ++ hdB f ++ (f.kids.take k).flatMap kb) ∧ wr.heap[B]? = some (.cells #[.int .i64 f.kind, .int .i64 f.width, .int .i64 f.id, .int .i64 f.index, .slice ao f.kids.length ca] 50) ∧ ¬ (Value.slice vo' n' vc').ownBlock = some B)) (fun _ i _ => f.kids.length - (intOf i).toNat)
    case atStart => exact ⟨0, _, _, _, by omega, rfl, rfl, by simpa using HS0.out.1, HS0.out.2⟩
    case round =>
      obtain ⟨k, n', vo', vc', hk, rfl, rfl, HR⟩ := hrel
      clear HS0
      obtain ⟨q0, q1, q2, q3, q4⟩ := ce5 HR.out.2.1
      by_cases hlt : k < f.kids.length
      · have hltI : (k : Int) < (f.kids.length : Int) := by omega
        obtain ⟨b, o, hao, hcs⟩ := HKids.out (fun e => by rw [e] at hlt; simp at hlt)
        obtain ⟨ao', ca', hc, hcall⟩ := hcs k hlt
        obtain ⟨g0, g1, g2, g3, g4, g5, g6⟩ := hc.kept (HR.out.1.b.gr.block b (block_lt_of_cell hc.c0) id)
        have HTK : Hid ((f.kids.take (k + 1)).flatMap kb = (f.kids.take k).flatMap kb ++ kb f.kids[k]) := by show _ = _; rw [List.take_add_one, List.getElem?_eq_getElem hlt, List.flatMap_append]; simp
        have hbd2 : n' + (kb f.kids[k]).length ≤ 500000 := by
          have h1 := HR.out.1.b.len
          have h2 := HBd.out
          have h3 : ((f.kids.take (k + 1)).flatMap kb).length ≤ (f.kids.flatMap kb).length := by
            have e : f.kids.flatMap kb = (f.kids.take (k + 1)).flatMap kb ++ (f.kids.drop (k + 1)).flatMap kb := by rw [← List.flatMap_append, List.take_append_drop]
            rw [e, List.length_append]; omega
          rw [HTK.out, List.length_append] at h3
          rw [List.length_append, List.length_append] at h1
          omega
        have HC := hidM (hcall wr vo' vc' n' _ HR.out.1.b hbd2)
        obtain ⟨L, hL⟩ : ∃ L, L = f.kids.length := ⟨_, rfl⟩
        have hkn : (0 : Int) ≤ (k : Int) := by omega
        subst hao
        clear hcs hcall hc hbd2 hL
        go_wp2_with (go_at_call 15; refine Hid.out ?_)
        unfold Hid
        refine Calls.mono HC.out ?_
        rintro e w2 ⟨vo6, vc6, n6, rfl, hp6⟩
        have HN : Hid (Ap w V1 w2 vo vc n vo6 vc6 n6 (bs ++ hdB f ++ (f.kids.take (k + 1)).flatMap kb) ∧ w2.heap[B]? = some (.cells #[.int .i64 f.kind, .int .i64 f.width, .int .i64 f.id, .int .i64 f.index, .slice (some ⟨b, o, none⟩) f.kids.length ca] 50) ∧ ¬ (Value.slice vo6 n6 vc6).ownBlock = some B) := by
          refine ⟨?_, hp6.box HR.out.2.1 HR.out.2.2⟩
          rw [HTK.out, ← List.append_assoc]
          exact HR.out.1.trans hp6
        clear hp6 HR HC g0 g1 g2 g3 g4 g5 g6 q0 q1 q2 q3 q4 HTK
        go_wp2_with fail
        go_roundw
        case rel => exact ⟨k + 1, n6, vo6, vc6, by omega, by simp, rfl, HN.out⟩
        case measure => simp [intOf]; omega
      have hltI : ¬ (k : Int) < (f.kids.length : Int) := by omega
      have hke : k = f.kids.length := by omega
      have HE : Hid (Ap w W wr vo vc n vo' vc' n' (bs ++ (hdB f ++ f.kids.flatMap kb))) := by
        have := HR.out.1
        rw [hke, List.take_length, List.append_assoc] at this
        exact this.pre HPre.out
      clear HR hke
      go_wp2_with fail
      go_ret
      exact ⟨vo', vc', n', rfl, HE.out⟩
  by_cases c16 : f.kind = 16
  · have e16 : (f.kind == 16) = true := by simp [c16]
    have e14 : (f.kind == 14) = false := beqF (by omega)
    have e19 : (f.kind == 19) = false := beqF (by omega)
    have e17 : (f.kind == 17) = false := beqF (by omega)
    have e18 : (f.kind == 18) = false := beqF (by omega)
    have hwz := k3 (by omega)
    have HKd := hidM c16
    clear c16
    have HC7 := hidM (numberR_at HA5.out.b (by omega) f.width 2 2 (by omega) (by omega) rfl (by omega))
    go_wp2_with (go_at_call 14; refine Hid.out ?_)
    unfold Hid
    refine Calls.mono HC7.out ?_
    rintro e W7 ⟨vo7, vc7, rfl, hp7⟩
    obtain ⟨n7, hn7⟩ : ∃ n7, n7 = n5 + 2 := ⟨_, rfl⟩
    rw [← hn7] at hp7 ⊢
    have hn7b : n7 ≤ 500400 := by omega
    clear hn7 q0 q1 q2 q3 q4
    have HA7 := hidM (HA5.out.trans hp7)
    obtain ⟨b7, hne7⟩ := hp7.box HX5.out.1 HX5.out.2
    have HX7 := hidM (And.intro b7 hne7)
    obtain ⟨q0, q1, q2, q3, q4⟩ := ce5 b7
    clear hp7 b7 hne7 HC7
    have HEq : Hid (bs ++ txtB f.name 1 ++ flgB f.nul ++ numB f.kind.toNat 1 ++ numB f.width.toNat 2 = bs ++ hdB f) := by show _ = _; unfold hdB; rw [show extB f = numB f.width.toNat 2 by unfold extB; rw [if_pos (by rw [HKd.out]; decide)]]; simp [List.append_assoc]
    have HS0 : Hid (Ap w V1 W7 vo vc n vo7 vc7 n7 (bs ++ hdB f) ∧ W7.heap[B]? = some (.cells #[.int .i64 f.kind, .int .i64 f.width, .int .i64 f.id, .int .i64 f.index, .slice ao f.kids.length ca] 50) ∧ ¬ (Value.slice vo7 n7 vc7).ownBlock = some B) := by have := HA7.out; rw [HEq.out] at this; exact ⟨this, HX7.out⟩
    clear HA7 HX7 HEq
    go_wp2_with fail
    go_loopw [0, 6] (fun v i wr => ∃ (k n' : Nat) (vo' : Option Addr) (vc' : Nat), k ≤ f.kids.length ∧ i = .int .i64 (k : Int) ∧ v = .slice vo' n' vc' ∧ Hid (Ap w V1 wr vo vc n vo' vc' n' (bs ++ hdB f ++ (f.kids.take k).flatMap kb) ∧ wr.heap[B]? = some (.cells #[.int .i64 f.kind, .int .i64 f.width, .int .i64 f.id, .int .i64 f.index, .slice ao f.kids.length ca] 50) ∧ ¬ (Value.slice vo' n' vc').ownBlock = some B)) (fun _ i _ => f.kids.length - (intOf i).toNat)
    case atStart => exact ⟨0, _, _, _, by omega, rfl, rfl, by simpa using HS0.out.1, HS0.out.2⟩
    case round =>
      obtain ⟨k, n', vo', vc', hk, rfl, rfl, HR⟩ := hrel
      clear HS0
      obtain ⟨q0, q1, q2, q3, q4⟩ := ce5 HR.out.2.1
      by_cases hlt : k < f.kids.length
      · have hltI : (k : Int) < (f.kids.length : Int) := by omega
        obtain ⟨b, o, hao, hcs⟩ := HKids.out (fun e => by rw [e] at hlt; simp at hlt)
        obtain ⟨ao', ca', hc, hcall⟩ := hcs k hlt
        obtain ⟨g0, g1, g2, g3, g4, g5, g6⟩ := hc.kept (HR.out.1.b.gr.block b (block_lt_of_cell hc.c0) id)
        have HTK : Hid ((f.kids.take (k + 1)).flatMap kb = (f.kids.take k).flatMap kb ++ kb f.kids[k]) := by show _ = _; rw [List.take_add_one, List.getElem?_eq_getElem hlt, List.flatMap_append]; simp
        have hbd2 : n' + (kb f.kids[k]).length ≤ 500000 := by
          have h1 := HR.out.1.b.len
          have h2 := HBd.out
          have h3 : ((f.kids.take (k + 1)).flatMap kb).length ≤ (f.kids.flatMap kb).length := by
            have e : f.kids.flatMap kb = (f.kids.take (k + 1)).flatMap kb ++ (f.kids.drop (k + 1)).flatMap kb := by rw [← List.flatMap_append, List.take_append_drop]
            rw [e, List.length_append]; omega
          rw [HTK.out, List.length_append] at h3
          rw [List.length_append, List.length_append] at h1
          omega
        have HC := hidM (hcall wr vo' vc' n' _ HR.out.1.b hbd2)
        obtain ⟨L, hL⟩ : ∃ L, L = f.kids.length := ⟨_, rfl⟩
        have hkn : (0 : Int) ≤ (k : Int) := by omega
        subst hao
        clear hcs hcall hc hbd2 hL
        go_wp2_with (go_at_call 15; refine Hid.out ?_)
        unfold Hid
        refine Calls.mono HC.out ?_
        rintro e w2 ⟨vo6, vc6, n6, rfl, hp6⟩
        have HN : Hid (Ap w V1 w2 vo vc n vo6 vc6 n6 (bs ++ hdB f ++ (f.kids.take (k + 1)).flatMap kb) ∧ w2.heap[B]? = some (.cells #[.int .i64 f.kind, .int .i64 f.width, .int .i64 f.id, .int .i64 f.index, .slice (some ⟨b, o, none⟩) f.kids.length ca] 50) ∧ ¬ (Value.slice vo6 n6 vc6).ownBlock = some B) := by
          refine ⟨?_, hp6.box HR.out.2.1 HR.out.2.2⟩
          rw [HTK.out, ← List.append_assoc]
          exact HR.out.1.trans hp6
        clear hp6 HR HC g0 g1 g2 g3 g4 g5 g6 q0 q1 q2 q3 q4 HTK
        go_wp2_with fail
        go_roundw
        case rel => exact ⟨k + 1, n6, vo6, vc6, by omega, by simp, rfl, HN.out⟩
        case measure => simp [intOf]; omega
      have hltI : ¬ (k : Int) < (f.kids.length : Int) := by omega
      have hke : k = f.kids.length := by omega
      have HE : Hid (Ap w W wr vo vc n vo' vc' n' (bs ++ (hdB f ++ f.kids.flatMap kb))) := by
        have := HR.out.1
        rw [hke, List.take_length, List.append_assoc] at this
        exact this.pre HPre.out
      clear HR hke
      go_wp2_with fail
      go_ret
      exact ⟨vo', vc', n', rfl, HE.out⟩
  by_cases c19 : f.kind = 19
  · have e19 : (f.kind == 19) = true := by simp [c19]
    have e14 : (f.kind == 14) = false := beqF (by omega)
    have e16 : (f.kind == 16) = false := beqF (by omega)
    have e17 : (f.kind == 17) = false := beqF (by omega)
    have e18 : (f.kind == 18) = false := beqF (by omega)
    obtain ⟨hi1, hi2, hi3, hi4⟩ := k4 (by omega)
    have HKd := hidM c19
    clear c19
    have HC7 := hidM (numberR_at HA5.out.b (by omega) f.id 2 2 (by omega) (by omega) rfl (by omega))
    go_wp2_with (go_at_call 14; refine Hid.out ?_)
    unfold Hid
    refine Calls.mono HC7.out ?_
    rintro e W7 ⟨vo7, vc7, rfl, hp7⟩
    obtain ⟨n7, hn7⟩ : ∃ n7, n7 = n5 + 2 := ⟨_, rfl⟩
    rw [← hn7] at hp7 ⊢
    have hn7b : n7 ≤ 500400 := by omega
    clear hn7 q0 q1 q2 q3 q4
    have HA7 := hidM (HA5.out.trans hp7)
    obtain ⟨b7, hne7⟩ := hp7.box HX5.out.1 HX5.out.2
    have HX7 := hidM (And.intro b7 hne7)
    obtain ⟨q0, q1, q2, q3, q4⟩ := ce5 b7
    clear hp7 b7 hne7 HC7
    have HC8 := hidM (numberR_at HA7.out.b (by omega) f.index 1 1 (by omega) (by omega) rfl (by omega))
    go_wp2_with (go_at_call 14; refine Hid.out ?_)
    unfold Hid
    refine Calls.mono HC8.out ?_
    rintro e W8 ⟨vo8, vc8, rfl, hp8⟩
    obtain ⟨n8, hn8⟩ : ∃ n8, n8 = n7 + 1 := ⟨_, rfl⟩
    rw [← hn8] at hp8 ⊢
    have hn8b : n8 ≤ 500500 := by omega
    clear hn8 q0 q1 q2 q3 q4
    have HA8 := hidM (HA7.out.trans hp8)
    obtain ⟨b8, hne8⟩ := hp8.box HX7.out.1 HX7.out.2
    have HX8 := hidM (And.intro b8 hne8)
    obtain ⟨q0, q1, q2, q3, q4⟩ := ce5 b8
    clear hp8 b8 hne8 HC8
    have HEq : Hid (bs ++ txtB f.name 1 ++ flgB f.nul ++ numB f.kind.toNat 1 ++ numB f.id.toNat 2 ++ numB f.index.toNat 1 = bs ++ hdB f) := by show _ = _; unfold hdB; rw [show extB f = numB f.id.toNat 2 ++ numB f.index.toNat 1 by unfold extB; rw [if_neg (by rw [HKd.out]; decide), if_pos HKd.out]]; simp [List.append_assoc]
    have HS0 : Hid (Ap w V1 W8 vo vc n vo8 vc8 n8 (bs ++ hdB f) ∧ W8.heap[B]? = some (.cells #[.int .i64 f.kind, .int .i64 f.width, .int .i64 f.id, .int .i64 f.index, .slice ao f.kids.length ca] 50) ∧ ¬ (Value.slice vo8 n8 vc8).ownBlock = some B) := by have := HA8.out; rw [HEq.out] at this; exact ⟨this, HX8.out⟩
    clear HA8 HX8 HEq
    go_wp2_with fail
    go_loopw [0, 6] (fun v i wr => ∃ (k n' : Nat) (vo' : Option Addr) (vc' : Nat), k ≤ f.kids.length ∧ i = .int .i64 (k : Int) ∧ v = .slice vo' n' vc' ∧ Hid (Ap w V1 wr vo vc n vo' vc' n' (bs ++ hdB f ++ (f.kids.take k).flatMap kb) ∧ wr.heap[B]? = some (.cells #[.int .i64 f.kind, .int .i64 f.width, .int .i64 f.id, .int .i64 f.index, .slice ao f.kids.length ca] 50) ∧ ¬ (Value.slice vo' n' vc').ownBlock = some B)) (fun _ i _ => f.kids.length - (intOf i).toNat)
    case atStart => exact ⟨0, _, _, _, by omega, rfl, rfl, by simpa using HS0.out.1, HS0.out.2⟩
    case round =>
      obtain ⟨k, n', vo', vc', hk, rfl, rfl, HR⟩ := hrel
      clear HS0
      obtain ⟨q0, q1, q2, q3, q4⟩ := ce5 HR.out.2.1
      by_cases hlt : k < f.kids.length
      · have hltI : (k : Int) < (f.kids.length : Int) := by omega
        obtain ⟨b, o, hao, hcs⟩ := HKids.out (fun e => by rw [e] at hlt; simp at hlt)
        obtain ⟨ao', ca', hc, hcall⟩ := hcs k hlt
        obtain ⟨g0, g1, g2, g3, g4, g5, g6⟩ := hc.kept (HR.out.1.b.gr.block b (block_lt_of_cell hc.c0) id)
        have HTK : Hid ((f.kids.take (k + 1)).flatMap kb = (f.kids.take k).flatMap kb ++ kb f.kids[k]) := by show _ = _; rw [List.take_add_one, List.getElem?_eq_getElem hlt, List.flatMap_append]; simp
        have hbd2 : n' + (kb f.kids[k]).length ≤ 500000 := by
          have h1 := HR.out.1.b.len
          have h2 := HBd.out
          have h3 : ((f.kids.take (k + 1)).flatMap kb).length ≤ (f.kids.flatMap kb).length := by
            have e : f.kids.flatMap kb = (f.kids.take (k + 1)).flatMap kb ++ (f.kids.drop (k + 1)).flatMap kb := by rw [← List.flatMap_append, List.take_append_drop]
            rw [e, List.length_append]; omega
          rw [HTK.out, List.length_append] at h3
          rw [List.length_append, List.length_append] at h1
          omega
        have HC := hidM (hcall wr vo' vc' n' _ HR.out.1.b hbd2)
        obtain ⟨L, hL⟩ : ∃ L, L = f.kids.length := ⟨_, rfl⟩
        have hkn : (0 : Int) ≤ (k : Int) := by omega
        subst hao
        clear hcs hcall hc hbd2 hL
        go_wp2_with (go_at_call 15; refine Hid.out ?_)
        unfold Hid
        refine Calls.mono HC.out ?_
        rintro e w2 ⟨vo6, vc6, n6, rfl, hp6⟩
        have HN : Hid (Ap w V1 w2 vo vc n vo6 vc6 n6 (bs ++ hdB f ++ (f.kids.take (k + 1)).flatMap kb) ∧ w2.heap[B]? = some (.cells #[.int .i64 f.kind, .int .i64 f.width, .int .i64 f.id, .int .i64 f.index, .slice (some ⟨b, o, none⟩) f.kids.length ca] 50) ∧ ¬ (Value.slice vo6 n6 vc6).ownBlock = some B) := by
          refine ⟨?_, hp6.box HR.out.2.1 HR.out.2.2⟩
          rw [HTK.out, ← List.append_assoc]
          exact HR.out.1.trans hp6
        clear hp6 HR HC g0 g1 g2 g3 g4 g5 g6 q0 q1 q2 q3 q4 HTK
        go_wp2_with fail
        go_roundw
        case rel => exact ⟨k + 1, n6, vo6, vc6, by omega, by simp, rfl, HN.out⟩
        case measure => simp [intOf]; omega
      have hltI : ¬ (k : Int) < (f.kids.length : Int) := by omega
      have hke : k = f.kids.length := by omega
      have HE : Hid (Ap w W wr vo vc n vo' vc' n' (bs ++ (hdB f ++ f.kids.flatMap kb))) := by
        have := HR.out.1
        rw [hke, List.take_length, List.append_assoc] at this
        exact this.pre HPre.out
      clear HR hke
      go_wp2_with fail
      go_ret
      exact ⟨vo', vc', n', rfl, HE.out⟩
  by_cases c17 : f.kind = 17
  · have e17 : (f.kind == 17) = true := by simp [c17]
    have e14 : (f.kind == 14) = false := beqF (by omega)
    have e16 : (f.kind == 16) = false := beqF (by omega)
    have e19 : (f.kind == 19) = false := beqF (by omega)
    have e18 : (f.kind == 18) = false := beqF (by omega)
    have HKd := hidM c17
    clear c17
    have hlz : (0 : Int) ≤ (f.kids.length : Int) ∧ (f.kids.length : Int) ≤ 32 := by omega
    have HC7 := hidM (numberR_at HA5.out.b (by omega) (f.kids.length : Int) 1 1 (by omega) (by omega) rfl (by omega))
    go_wp2_with (go_at_call 14; refine Hid.out ?_)
    unfold Hid
    refine Calls.mono HC7.out ?_
    rintro e W7 ⟨vo7, vc7, rfl, hp7⟩
    obtain ⟨n7, hn7⟩ : ∃ n7, n7 = n5 + 1 := ⟨_, rfl⟩
    rw [← hn7] at hp7 ⊢
    have hn7b : n7 ≤ 500400 := by omega
    clear hn7 q0 q1 q2 q3 q4
    have HA7 := hidM (HA5.out.trans hp7)
    obtain ⟨b7, hne7⟩ := hp7.box HX5.out.1 HX5.out.2
    have HX7 := hidM (And.intro b7 hne7)
    obtain ⟨q0, q1, q2, q3, q4⟩ := ce5 b7
    clear hp7 b7 hne7 HC7
    have HEq : Hid (bs ++ txtB f.name 1 ++ flgB f.nul ++ numB f.kind.toNat 1 ++ numB (f.kids.length : Int).toNat 1 = bs ++ hdB f) := by show _ = _; unfold hdB; rw [show extB f = numB (f.kids.length : Int).toNat 1 by unfold extB; rw [if_neg (by rw [HKd.out]; decide), if_neg (by rw [HKd.out]; decide), if_pos (by rw [HKd.out]; decide)]; rfl]; simp [List.append_assoc]
    have HS0 : Hid (Ap w V1 W7 vo vc n vo7 vc7 n7 (bs ++ hdB f) ∧ W7.heap[B]? = some (.cells #[.int .i64 f.kind, .int .i64 f.width, .int .i64 f.id, .int .i64 f.index, .slice ao f.kids.length ca] 50) ∧ ¬ (Value.slice vo7 n7 vc7).ownBlock = some B) := by have := HA7.out; rw [HEq.out] at this; exact ⟨this, HX7.out⟩
    clear HA7 HX7 HEq
    go_wp2_with fail
    go_loopw [0, 6] (fun v i wr => ∃ (k n' : Nat) (vo' : Option Addr) (vc' : Nat), k ≤ f.kids.length ∧ i = .int .i64 (k : Int) ∧ v = .slice vo' n' vc' ∧ Hid (Ap w V1 wr vo vc n vo' vc' n' (bs ++ hdB f ++ (f.kids.take k).flatMap kb) ∧ wr.heap[B]? = some (.cells #[.int .i64 f.kind, .int .i64 f.width, .int .i64 f.id, .int .i64 f.index, .slice ao f.kids.length ca] 50) ∧ ¬ (Value.slice vo' n' vc').ownBlock = some B)) (fun _ i _ => f.kids.length - (intOf i).toNat)
    case atStart => exact ⟨0, _, _, _, by omega, rfl, rfl, by simpa using HS0.out.1, HS0.out.2⟩
    case round =>
      obtain ⟨k, n', vo', vc', hk, rfl, rfl, HR⟩ := hrel
      clear HS0
      obtain ⟨q0, q1, q2, q3, q4⟩ := ce5 HR.out.2.1
      by_cases hlt : k < f.kids.length
      · have hltI : (k : Int) < (f.kids.length : Int) := by omega
        obtain ⟨b, o, hao, hcs⟩ := HKids.out (fun e => by rw [e] at hlt; simp at hlt)
        obtain ⟨ao', ca', hc, hcall⟩ := hcs k hlt
        obtain ⟨g0, g1, g2, g3, g4, g5, g6⟩ := hc.kept (HR.out.1.b.gr.block b (block_lt_of_cell hc.c0) id)
        have HTK : Hid ((f.kids.take (k + 1)).flatMap kb = (f.kids.take k).flatMap kb ++ kb f.kids[k]) := by show _ = _; rw [List.take_add_one, List.getElem?_eq_getElem hlt, List.flatMap_append]; simp
        have hbd2 : n' + (kb f.kids[k]).length ≤ 500000 := by
          have h1 := HR.out.1.b.len
          have h2 := HBd.out
          have h3 : ((f.kids.take (k + 1)).flatMap kb).length ≤ (f.kids.flatMap kb).length := by
            have e : f.kids.flatMap kb = (f.kids.take (k + 1)).flatMap kb ++ (f.kids.drop (k + 1)).flatMap kb := by rw [← List.flatMap_append, List.take_append_drop]
            rw [e, List.length_append]; omega
          rw [HTK.out, List.length_append] at h3
          rw [List.length_append, List.length_append] at h1
          omega
        have HC := hidM (hcall wr vo' vc' n' _ HR.out.1.b hbd2)
        obtain ⟨L, hL⟩ : ∃ L, L = f.kids.length := ⟨_, rfl⟩
        have hkn : (0 : Int) ≤ (k : Int) := by omega
        subst hao
        clear hcs hcall hc hbd2 hL
        go_wp2_with (go_at_call 15; refine Hid.out ?_)
        unfold Hid
        refine Calls.mono HC.out ?_
        rintro e w2 ⟨vo6, vc6, n6, rfl, hp6⟩
        have HN : Hid (Ap w V1 w2 vo vc n vo6 vc6 n6 (bs ++ hdB f ++ (f.kids.take (k + 1)).flatMap kb) ∧ w2.heap[B]? = some (.cells #[.int .i64 f.kind, .int .i64 f.width, .int .i64 f.id, .int .i64 f.index, .slice (some ⟨b, o, none⟩) f.kids.length ca] 50) ∧ ¬ (Value.slice vo6 n6 vc6).ownBlock = some B) := by
          refine ⟨?_, hp6.box HR.out.2.1 HR.out.2.2⟩
          rw [HTK.out, ← List.append_assoc]
          exact HR.out.1.trans hp6
        clear hp6 HR HC g0 g1 g2 g3 g4 g5 g6 q0 q1 q2 q3 q4 HTK
        go_wp2_with fail
        go_roundw
        case rel => exact ⟨k + 1, n6, vo6, vc6, by omega, by simp, rfl, HN.out⟩
        case measure => simp [intOf]; omega
      have hltI : ¬ (k : Int) < (f.kids.length : Int) := by omega
      have hke : k = f.kids.length := by omega
      have HE : Hid (Ap w W wr vo vc n vo' vc' n' (bs ++ (hdB f ++ f.kids.flatMap kb))) := by
        have := HR.out.1
        rw [hke, List.take_length, List.append_assoc] at this
        exact this.pre HPre.out
      clear HR hke
      go_wp2_with fail
      go_ret
      exact ⟨vo', vc', n', rfl, HE.out⟩
  by_cases c18 : f.kind = 18
  · have e18 : (f.kind == 18) = true := by simp [c18]
    have e14 : (f.kind == 14) = false := beqF (by omega)
    have e16 : (f.kind == 16) = false := beqF (by omega)
    have e19 : (f.kind == 19) = false := beqF (by omega)
    have e17 : (f.kind == 17) = false := beqF (by omega)
    have HKd := hidM c18
    clear c18
    have hlz : (0 : Int) ≤ (f.kids.length : Int) ∧ (f.kids.length : Int) ≤ 32 := by omega
    have HC7 := hidM (numberR_at HA5.out.b (by omega) (f.kids.length : Int) 1 1 (by omega) (by omega) rfl (by omega))
    go_wp2_with (go_at_call 14; refine Hid.out ?_)
    unfold Hid
    refine Calls.mono HC7.out ?_
    rintro e W7 ⟨vo7, vc7, rfl, hp7⟩
    obtain ⟨n7, hn7⟩ : ∃ n7, n7 = n5 + 1 := ⟨_, rfl⟩
    rw [← hn7] at hp7 ⊢
    have hn7b : n7 ≤ 500400 := by omega
    clear hn7 q0 q1 q2 q3 q4
    have HA7 := hidM (HA5.out.trans hp7)
    obtain ⟨b7, hne7⟩ := hp7.box HX5.out.1 HX5.out.2
    have HX7 := hidM (And.intro b7 hne7)
    obtain ⟨q0, q1, q2, q3, q4⟩ := ce5 b7
    clear hp7 b7 hne7 HC7
    have HEq : Hid (bs ++ txtB f.name 1 ++ flgB f.nul ++ numB f.kind.toNat 1 ++ numB (f.kids.length : Int).toNat 1 = bs ++ hdB f) := by show _ = _; unfold hdB; rw [show extB f = numB (f.kids.length : Int).toNat 1 by unfold extB; rw [if_neg (by rw [HKd.out]; decide), if_neg (by rw [HKd.out]; decide), if_pos (by rw [HKd.out]; decide)]; rfl]; simp [List.append_assoc]
    have HS0 : Hid (Ap w V1 W7 vo vc n vo7 vc7 n7 (bs ++ hdB f) ∧ W7.heap[B]? = some (.cells #[.int .i64 f.kind, .int .i64 f.width, .int .i64 f.id, .int .i64 f.index, .slice ao f.kids.length ca] 50) ∧ ¬ (Value.slice vo7 n7 vc7).ownBlock = some B) := by have := HA7.out; rw [HEq.out] at this; exact ⟨this, HX7.out⟩
    clear HA7 HX7 HEq
    go_wp2_with fail
    go_loopw [0, 6] (fun v i wr => ∃ (k n' : Nat) (vo' : Option Addr) (vc' : Nat), k ≤ f.kids.length ∧ i = .int .i64 (k : Int) ∧ v = .slice vo' n' vc' ∧ Hid (Ap w V1 wr vo vc n vo' vc' n' (bs ++ hdB f ++ (f.kids.take k).flatMap kb) ∧ wr.heap[B]? = some (.cells #[.int .i64 f.kind, .int .i64 f.width, .int .i64 f.id, .int .i64 f.index, .slice ao f.kids.length ca] 50) ∧ ¬ (Value.slice vo' n' vc').ownBlock = some B)) (fun _ i _ => f.kids.length - (intOf i).toNat)
    case atStart => exact ⟨0, _, _, _, by omega, rfl, rfl, by simpa using HS0.out.1, HS0.out.2⟩
    case round =>
      obtain ⟨k, n', vo', vc', hk, rfl, rfl, HR⟩ := hrel
      clear HS0
      obtain ⟨q0, q1, q2, q3, q4⟩ := ce5 HR.out.2.1
      by_cases hlt : k < f.kids.length
      · have hltI : (k : Int) < (f.kids.length : Int) := by omega
        obtain ⟨b, o, hao, hcs⟩ := HKids.out (fun e => by rw [e] at hlt; simp at hlt)
        obtain ⟨ao', ca', hc, hcall⟩ := hcs k hlt
        obtain ⟨g0, g1, g2, g3, g4, g5, g6⟩ := hc.kept (HR.out.1.b.gr.block b (block_lt_of_cell hc.c0) id)
        have HTK : Hid ((f.kids.take (k + 1)).flatMap kb = (f.kids.take k).flatMap kb ++ kb f.kids[k]) := by show _ = _; rw [List.take_add_one, List.getElem?_eq_getElem hlt, List.flatMap_append]; simp
        have hbd2 : n' + (kb f.kids[k]).length ≤ 500000 := by
          have h1 := HR.out.1.b.len
          have h2 := HBd.out
          have h3 : ((f.kids.take (k + 1)).flatMap kb).length ≤ (f.kids.flatMap kb).length := by
            have e : f.kids.flatMap kb = (f.kids.take (k + 1)).flatMap kb ++ (f.kids.drop (k + 1)).flatMap kb := by rw [← List.flatMap_append, List.take_append_drop]
            rw [e, List.length_append]; omega
          rw [HTK.out, List.length_append] at h3
          rw [List.length_append, List.length_append] at h1
          omega
        have HC := hidM (hcall wr vo' vc' n' _ HR.out.1.b hbd2)
        obtain ⟨L, hL⟩ : ∃ L, L = f.kids.length := ⟨_, rfl⟩
        have hkn : (0 : Int) ≤ (k : Int) := by omega
        subst hao
        clear hcs hcall hc hbd2 hL
        go_wp2_with (go_at_call 15; refine Hid.out ?_)
        unfold Hid
        refine Calls.mono HC.out ?_
        rintro e w2 ⟨vo6, vc6, n6, rfl, hp6⟩
        have HN : Hid (Ap w V1 w2 vo vc n vo6 vc6 n6 (bs ++ hdB f ++ (f.kids.take (k + 1)).flatMap kb) ∧ w2.heap[B]? = some (.cells #[.int .i64 f.kind, .int .i64 f.width, .int .i64 f.id, .int .i64 f.index, .slice (some ⟨b, o, none⟩) f.kids.length ca] 50) ∧ ¬ (Value.slice vo6 n6 vc6).ownBlock = some B) := by
          refine ⟨?_, hp6.box HR.out.2.1 HR.out.2.2⟩
          rw [HTK.out, ← List.append_assoc]
          exact HR.out.1.trans hp6
        clear hp6 HR HC g0 g1 g2 g3 g4 g5 g6 q0 q1 q2 q3 q4 HTK
        go_wp2_with fail
        go_roundw
        case rel => exact ⟨k + 1, n6, vo6, vc6, by omega, by simp, rfl, HN.out⟩
        case measure => simp [intOf]; omega
      have hltI : ¬ (k : Int) < (f.kids.length : Int) := by omega
      have hke : k = f.kids.length := by omega
      have HE : Hid (Ap w W wr vo vc n vo' vc' n' (bs ++ (hdB f ++ f.kids.flatMap kb))) := by
        have := HR.out.1
        rw [hke, List.take_length, List.append_assoc] at this
        exact this.pre HPre.out
      clear HR hke
      go_wp2_with fail
      go_ret
      exact ⟨vo', vc', n', rfl, HE.out⟩
  have e14 : (f.kind == 14) = false := beqF c14
  have e16 : (f.kind == 16) = false := beqF c16
  have e19 : (f.kind == 19) = false := beqF c19
  have e17 : (f.kind == 17) = false := beqF c17
  have e18 : (f.kind == 18) = false := beqF c18
  have HKd : Hid (extB f = []) := by show _ = _; unfold extB; rw [if_neg (by omega), if_neg c19, if_neg (by omega)]
  clear c14 c16 c19 c17 c18
  have HEq : Hid (bs ++ txtB f.name 1 ++ flgB f.nul ++ numB f.kind.toNat 1 = bs ++ hdB f) := by show _ = _; unfold hdB; rw [HKd.out]; simp [List.append_assoc]
  have HS0 : Hid (Ap w V1 W5 vo vc n vo5 vc5 n5 (bs ++ hdB f) ∧ W5.heap[B]? = some (.cells #[.int .i64 f.kind, .int .i64 f.width, .int .i64 f.id, .int .i64 f.index, .slice ao f.kids.length ca] 50) ∧ ¬ (Value.slice vo5 n5 vc5).ownBlock = some B) := by have := HA5.out; rw [HEq.out] at this; exact ⟨this, HX5.out⟩
  clear HA5 HX5 HEq
  go_wp2_with fail
  go_loopw [0, 6] (fun v i wr => ∃ (k n' : Nat) (vo' : Option Addr) (vc' : Nat), k ≤ f.kids.length ∧ i = .int .i64 (k : Int) ∧ v = .slice vo' n' vc' ∧ Hid (Ap w V1 wr vo vc n vo' vc' n' (bs ++ hdB f ++ (f.kids.take k).flatMap kb) ∧ wr.heap[B]? = some (.cells #[.int .i64 f.kind, .int .i64 f.width, .int .i64 f.id, .int .i64 f.index, .slice ao f.kids.length ca] 50) ∧ ¬ (Value.slice vo' n' vc').ownBlock = some B)) (fun _ i _ => f.kids.length - (intOf i).toNat)
  case atStart => exact ⟨0, _, _, _, by omega, rfl, rfl, by simpa using HS0.out.1, HS0.out.2⟩
  case round =>
    obtain ⟨k, n', vo', vc', hk, rfl, rfl, HR⟩ := hrel
    clear HS0
    obtain ⟨q0, q1, q2, q3, q4⟩ := ce5 HR.out.2.1
    by_cases hlt : k < f.kids.length
    · have hltI : (k : Int) < (f.kids.length : Int) := by omega
      obtain ⟨b, o, hao, hcs⟩ := HKids.out (fun e => by rw [e] at hlt; simp at hlt)
      obtain ⟨ao', ca', hc, hcall⟩ := hcs k hlt
      obtain ⟨g0, g1, g2, g3, g4, g5, g6⟩ := hc.kept (HR.out.1.b.gr.block b (block_lt_of_cell hc.c0) id)
      have HTK : Hid ((f.kids.take (k + 1)).flatMap kb = (f.kids.take k).flatMap kb ++ kb f.kids[k]) := by show _ = _; rw [List.take_add_one, List.getElem?_eq_getElem hlt, List.flatMap_append]; simp
      have hbd2 : n' + (kb f.kids[k]).length ≤ 500000 := by
        have h1 := HR.out.1.b.len
        have h2 := HBd.out
        have h3 : ((f.kids.take (k + 1)).flatMap kb).length ≤ (f.kids.flatMap kb).length := by
          have e : f.kids.flatMap kb = (f.kids.take (k + 1)).flatMap kb ++ (f.kids.drop (k + 1)).flatMap kb := by rw [← List.flatMap_append, List.take_append_drop]
          rw [e, List.length_append]; omega
        rw [HTK.out, List.length_append] at h3
        rw [List.length_append, List.length_append] at h1
        omega
      have HC := hidM (hcall wr vo' vc' n' _ HR.out.1.b hbd2)
      obtain ⟨L, hL⟩ : ∃ L, L = f.kids.length := ⟨_, rfl⟩
      have hkn : (0 : Int) ≤ (k : Int) := by omega
      subst hao
      clear hcs hcall hc hbd2 hL
      go_wp2_with (go_at_call 15; refine Hid.out ?_)
      unfold Hid
      refine Calls.mono HC.out ?_
      rintro e w2 ⟨vo6, vc6, n6, rfl, hp6⟩
      have HN : Hid (Ap w V1 w2 vo vc n vo6 vc6 n6 (bs ++ hdB f ++ (f.kids.take (k + 1)).flatMap kb) ∧ w2.heap[B]? = some (.cells #[.int .i64 f.kind, .int .i64 f.width, .int .i64 f.id, .int .i64 f.index, .slice (some ⟨b, o, none⟩) f.kids.length ca] 50) ∧ ¬ (Value.slice vo6 n6 vc6).ownBlock = some B) := by
        refine ⟨?_, hp6.box HR.out.2.1 HR.out.2.2⟩
        rw [HTK.out, ← List.append_assoc]
        exact HR.out.1.trans hp6
      clear hp6 HR HC g0 g1 g2 g3 g4 g5 g6 q0 q1 q2 q3 q4 HTK
      go_wp2_with fail
      go_roundw
      case rel => exact ⟨k + 1, n6, vo6, vc6, by omega, by simp, rfl, HN.out⟩
      case measure => simp [intOf]; omega
    have hltI : ¬ (k : Int) < (f.kids.length : Int) := by omega
    have hke : k = f.kids.length := by omega
    have HE : Hid (Ap w W wr vo vc n vo' vc' n' (bs ++ (hdB f ++ f.kids.flatMap kb))) := by
      have := HR.out.1
      rw [hke, List.take_length, List.append_assoc] at this
      exact this.pre HPre.out
    clear HR hke
    go_wp2_with fail
    go_ret
    exact ⟨vo', vc', n', rfl, HE.out⟩
end Go.Proofs.YtdihbfjjddmbiaaGreatDoor.Kit
