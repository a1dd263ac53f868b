import Derived.Test.YtemleibpmaclmaaFK
namespace Go.Proofs.Ytemleibpmaclmaa.Kit
open Go.RowKit Go.Shelf Go.Deep
set_option linter.unusedVariables false
attribute [local go_sem] run_store_func

theorem own_cells {W : World} {t N lc : Nat} {lo : Option Addr} {f : Nat → Value} (h : W.ownsRow 0 t 1 (.slice lo N lc) N ((List.range N).map f)) (h0 : 0 < N) : ∃ A, lo = some ⟨A, 0, none⟩ ∧ ∀ i, i < N → W.cell? ⟨A, i, none⟩ = some (f i) := by
  rcases h.2 with ⟨e, h0'⟩ | ⟨g, cap, cur, e, h1, h2, h3, h4, h5, h6⟩
  · omega
  · cases e
    refine ⟨g, rfl, fun i hi => ?_⟩
    have h7 : (cur.toList.take (N * 1))[i]? = ((List.range N).map f)[i]? := by rw [h6]
    rw [List.getElem?_take, if_pos (by omega), Array.getElem?_toList, List.getElem?_map, List.getElem?_range hi] at h7
    simp only [World.cell?, h2]
    exact h7
theorem info3 : (Try.prog.info? 3).map (fun i => (i.zero, i.size, i.bytes)) = some (some (.int .i64 0), 1, 8) := by kernel_rfl
theorem src_int (w : World) (x : Int) : Src Try.prog 1 31 (.slice (some ⟨w.heap.size, 0, none⟩) 1 1) 1 [.int .i64 x] (w.alloc (.cells #[.int .i64 x] 3)) := by
  refine Src.ofSlice (w := w.alloc (.cells #[.int .i64 x] 3)) Try.underlying31 ⟨w.heap.size, 0, none⟩ 1 1 [.int .i64 x] (by simp) (fun j v hj => ?_) (fun v hv => by simp at hv; subst hv; rfl)
  have hb := heap_alloc_new w (.cells #[.int .i64 x] 3)
  have e : (⟨w.heap.size, 0, none⟩ : Addr).add j = ⟨w.heap.size, j, none⟩ := by cases j <;> simp [Addr.add]
  rw [e]
  simp only [World.cell?, hb]
  simpa using hj
theorem Bk.setRow {w W : World} {K N : Nat} {ao : Option Addr} {ac : Nat} {wo : Option Addr} {wc : Nat} {x2 x3 : Value} {R Q : Nat → Option Addr × Nat × Nat} {D : Nat → List UInt8} (h : Bk w W K N ao ac wo wc x2 x3 R Q D) {i k : Nat} (hi : i < N) (hk : k < (R i).2.1) :
    ∃ X, (R i).1 = some ⟨X, 0, none⟩ ∧ W.cell? ⟨X, k, none⟩ = some (.int .u8 (((D i).getD k 0).toNat : Int)) ∧ W.frozen? ⟨X, k, none⟩ = false ∧ ∀ v : UInt8, Bk w (W.setCell ⟨X, k, none⟩ (.int .u8 (v.toNat : Int))) K N ao ac wo wc x2 x3 R Q (fun j => if j = i then (D i).set k v else D j) := by
  obtain ⟨X, e, h1, h2, h3⟩ := own_set (h.rows i hi) hk
  have hX : (rv (R i)).ownBlock = some X := by unfold rv; rw [e]; rfl
  have t5 : Typ W X 5 := own_typ (h.rows i hi) hX
  refine ⟨X, e, h1, h2, fun v => ?_⟩
  have oth : ∀ g, g ≠ X → (W.setCell ⟨X, k, none⟩ (.int .u8 (v.toNat : Int))).heap[g]? = W.heap[g]? := fun g hg => heap_setCell_other W ⟨X, k, none⟩ g _ hg
  refine ⟨keeps_set h.gr (h.rnew i hi X hX), h.knew, ?_, ?_, ?_, h.anew, h.wnew, fun j hj => ?_, h.rnew, h.apart, fun j hj => ?_, fun j hj => ?_⟩
  · rw [oth K (fun q => absurd (Typ.ne ⟨_, _, h.box⟩ (q ▸ t5)) (by decide))]; exact h.box
  · exact own_kp h.all fun g e => oth g (fun q => absurd ((own_typ h.all e).ne (q ▸ t5)) (by decide))
  · exact own_kp h.want fun g e => oth g (fun q => absurd ((own_typ h.want e).ne (q ▸ t5)) (by decide))
  · by_cases c : j = i
    · subst c; simp only [if_true]; exact h3 v
    · simp only [if_neg c]
      exact own_kp (h.rows j hj) fun g e => oth g (fun q => h.apart i j X hi hj (fun q => c q.symm) hX (q ▸ e))
  · by_cases c : j = i
    · subst c; simp only [if_true, List.length_set]; exact h.qlen j hj
    · simp only [if_neg c]; exact h.qlen j hj
  · by_cases c : j = i
    · subst c; simp only [if_true, List.length_set]; exact h.len j hj
    · simp only [if_neg c]; exact h.len j hj
theorem Bk.rlen {w W : World} {K N : Nat} {ao : Option Addr} {ac : Nat} {wo : Option Addr} {wc : Nat} {x2 x3 : Value} {R Q : Nat → Option Addr × Nat × Nat} {D : Nat → List UInt8} (h : Bk w W K N ao ac wo wc x2 x3 R Q D) {i : Nat} (hi : i < N) : (R i).2.1 = (D i).length := by
  have := (h.rows i hi).1
  rw [bv_len] at this
  omega
set_option maxRecDepth 100000 in
set_option maxHeartbeats 8000000 in
theorem apart_any {w W : World} {K N : Nat} {ao : Option Addr} {ac : Nat} {wo : Option Addr} {wc : Nat} {R Q : Nat → Option Addr × Nat × Nat} {D : Nat → List UInt8} (h : Bk w W K N ao ac wo wc (.slice none 0 0) (.slice none 0 0) R Q D) (hN : N ≤ 10000000000) (h0 : 0 < N) (hq : ∀ i, i < N → BytesAt W (Q i).1 (D i)) :
    Calls Try.prog 15 #[.pointer (some ⟨K, 0, none⟩)] W fun e w' => e = .returned (.bool true) ∧ Gr w w' := by
  obtain ⟨A, hA, -⟩ := own_cells h.all h0
  obtain ⟨B, hB, -⟩ := own_cells h.want h0
  subst hA hB
  have HC : Hid (∀ V x2 x3 D', Bk w V K N (some ⟨A, 0, none⟩) ac (some ⟨B, 0, none⟩) wc x2 x3 R Q D' → V.cell? ⟨K, 0, none⟩ = some (.slice (some ⟨A, 0, none⟩) N ac) ∧ V.cell? ⟨K, 1, none⟩ = some (.slice (some ⟨B, 0, none⟩) N wc) ∧ V.cell? ⟨K, 2, none⟩ = some x2 ∧ V.cell? ⟨K, 3, none⟩ = some x3 ∧ ∀ i, i < N → V.cell? ⟨A, i, none⟩ = some (rv (R i)) ∧ V.cell? ⟨B, i, none⟩ = some (rv (Q i))) := fun V x2 x3 D' b => by
    obtain ⟨A', e1, h1⟩ := own_cells b.all h0
    obtain ⟨B', e2, h2⟩ := own_cells b.want h0
    cases e1
    cases e2
    obtain ⟨c0, c1, c2, c3⟩ := ce4 b.box
    exact ⟨c0, c1, c2, c3, fun i hi => ⟨h1 i hi, h2 i hi⟩⟩
  have HB := hidM h
  have HQ := hidM hq
  clear h hq
  go_enter Try.func15, Try.ntmps15
  go_wp2_with fail
  go_loopw [3] (fun q wr => ∃ i : Nat, i ≤ N ∧ q = .int .i64 (i : Int) ∧ Hid (Gr W wr)) (fun q _ => N - (intOf q).toNat)
  case atStart => exact ⟨0, by omega, rfl, Keeps.refl _ _⟩
  case round =>
    obtain ⟨i, hi, rfl, HG⟩ := hrel
    obtain ⟨c0, c1, -, -, hrows⟩ := HC.out _ _ _ _ (HB.out.grow HG.out)
    by_cases c : i < N
    · have cI : (i : Int) < (N : Int) := by omega
      have hi0 : (0 : Int) ≤ (i : Int) := by omega
      obtain ⟨r0, r1⟩ := hrows i c
      obtain ⟨ro, rn, rc, hRi⟩ : ∃ ro rn rc, R i = (ro, rn, rc) := ⟨_, _, _, rfl⟩
      obtain ⟨qo, qn, qc, hQi⟩ : ∃ ro rn rc, Q i = (ro, rn, rc) := ⟨_, _, _, rfl⟩
      have hrn := HB.out.rlen c
      have hqn := HB.out.qlen i c
      have hrows0 := HB.out.rows i c
      have hq0 := HQ.out i c
      have hlen := HB.out.len i c
      rw [hRi] at hrn r0 hrows0
      rw [hQi] at hqn r1 hq0
      have hqn' : qn = rn := by have : qn = (D i).length := hqn; have : rn = (D i).length := hrn; omega
      subst hqn'
      have r0' : wr.cell? ⟨A, i, none⟩ = some (.slice ro qn rc) := r0
      have r1' : wr.cell? ⟨B, i, none⟩ = some (.slice qo qn qc) := r1
      have HSm : Hid (∀ V, Gr W V → Calls Try.prog 10 #[.slice ro qn rc, .slice qo qn qc] V fun e w' => e = .returned (.bool true) ∧ Gr V w') := fun V g => by
        have e : qn = (D i).length := hrn
        have := same_true (ac := rc) (bc := qc) ((bytes_of_own hrows0).gr g) (hq0.gr g) (by omega)
        rw [← e] at this
        exact this
      clear hrows r0 r1 hRi hQi hrn hqn hrows0 hq0 hlen
      go_wp2_with fail
      have HIN : Hid (Hid (Gr W wr.drew) ∧ wr.drew.cell? ⟨K, 0, none⟩ = some (.slice (some ⟨A, 0, none⟩) N ac) ∧ wr.drew.cell? ⟨K, 1, none⟩ = some (.slice (some ⟨B, 0, none⟩) N wc) ∧ wr.drew.cell? ⟨A, i, none⟩ = some (.slice ro qn rc) ∧ wr.drew.cell? ⟨B, i, none⟩ = some (.slice qo qn qc)) := ⟨HG.out.trans ((Keeps.refl _ _).drew) (fun _ _ h => h), c0, c1, r0', r1'⟩
      clear c0 c1 r0' r1'
      go_region_held3 (fun V => Hid (Gr W V) ∧ V.cell? ⟨K, 0, none⟩ = some (.slice (some ⟨A, 0, none⟩) N ac) ∧ V.cell? ⟨K, 1, none⟩ = some (.slice (some ⟨B, 0, none⟩) N wc) ∧ V.cell? ⟨A, i, none⟩ = some (.slice ro qn rc) ∧ V.cell? ⟨B, i, none⟩ = some (.slice qo qn qc)) (first | with_reducible exact HIN.out | with_reducible assumption | with_reducible exact HK.out) (first | (go_at_call 10; have hS0 := HIN.out; (with_reducible refine (HSm.out _ hS0.1.out).mono ?_); rintro e W1 ⟨rfl, g1⟩; have HK : Hid (Hid (Gr W W1) ∧ W1.cell? ⟨K, 0, none⟩ = some (.slice (some ⟨A, 0, none⟩) N ac) ∧ W1.cell? ⟨K, 1, none⟩ = some (.slice (some ⟨B, 0, none⟩) N wc) ∧ W1.cell? ⟨A, i, none⟩ = some (.slice ro qn rc) ∧ W1.cell? ⟨B, i, none⟩ = some (.slice qo qn qc)) := ⟨hS0.1.out.trans g1 (fun _ _ h => h), g1.cell' hS0.2.1 id, g1.cell' hS0.2.2.1 id, g1.cell' hS0.2.2.2.1 id, g1.cell' hS0.2.2.2.2 id⟩; clear g1 hS0))
      have HGn := hidM HK.out.1.out
      clear HIN HK HSm
      go_wp2_with fail
      go_roundw
      case rel => exact ⟨i + 1, by omega, by simp, HGn.out⟩
      case measure => simp [intOf]; omega
    have cI : ¬ (i : Int) < (N : Int) := by omega
    clear hrows
    go_wp2_with fail
    clear cI c hi c0 c1
    have HB0 := hidM (HB.out.grow HG.out)
    clear HB HQ HG
    go_loopw [5] (fun q wr => ∃ i : Nat, i ≤ N ∧ q = .int .i64 (i : Int) ∧ Hid (∃ D', Bk w wr K N (some ⟨A, 0, none⟩) ac (some ⟨B, 0, none⟩) wc (.slice none 0 0) (.slice none 0 0) R Q D' ∧ ∀ j, j < i → D' j = List.replicate (R j).2.1 (bt j))) (fun q _ => N - (intOf q).toNat)
    case atStart => exact ⟨0, by omega, rfl, D, HB0.out, fun j hj => by omega⟩
    case round =>
      obtain ⟨i, hi, rfl, HR⟩ := hrel
      clear HB0
      by_cases c : i < N
      · have cI : (i : Int) < (N : Int) := by omega
        have hi0 : (0 : Int) ≤ (i : Int) := by omega
        obtain ⟨c0, -⟩ := HC.out _ _ _ _ HR.out.choose_spec.1
        go_wp2_with fail
        clear c0
        obtain ⟨ro, rn, rc, hRi⟩ : ∃ ro rn rc, R i = (ro, rn, rc) := ⟨_, _, _, rfl⟩
        have HRi := hidM hRi
        have hrnb : rn ≤ 5000000 := by
          have h1 := HR.out.choose_spec.1.rlen c
          have h2 := HR.out.choose_spec.1.len i c
          rw [hRi] at h1
          have : rn = _ := h1
          omega
        clear hRi
        go_loopw [6] (fun q wi => ∃ k : Nat, k ≤ rn ∧ q = .int .i64 (k : Int) ∧ Hid (∃ D', Bk w wi K N (some ⟨A, 0, none⟩) ac (some ⟨B, 0, none⟩) wc (.slice none 0 0) (.slice none 0 0) R Q D' ∧ (∀ j, j < i → D' j = List.replicate (R j).2.1 (bt j)) ∧ ∀ k', k' < k → (D' i).getD k' 0 = bt i)) (fun q _ => rn - (intOf q).toNat)
        case atStart =>
          obtain ⟨D', h1, h2⟩ := HR.out
          exact ⟨0, by omega, rfl, D', h1, h2, fun k hk => by omega⟩
        case round =>
          obtain ⟨k, hk, rfl, HK⟩ := hrel
          obtain ⟨D', hBk, hD1, hD2⟩ := HK.out
          obtain ⟨c0, -, -, -, hrows⟩ := HC.out _ _ _ _ hBk
          have r0 := (hrows i c).1
          rw [HRi.out] at r0
          have r0' : wr.cell? ⟨A, i, none⟩ = some (.slice ro rn rc) := r0
          by_cases d : k < rn
          · have dI : (k : Int) < (rn : Int) := by omega
            have hk0 : (0 : Int) ≤ (k : Int) := by omega
            obtain ⟨X, e, z0, z1, z2⟩ := hBk.setRow (i := i) (k := k) c (by rw [HRi.out]; exact d)
            have hro : ro = some ⟨X, 0, none⟩ := by rw [HRi.out] at e; exact e
            subst hro
            have hw : IntKind.u8.wrap (i : Int) = ((bt i).toNat : Int) := by rw [bt_nat, IntKind.wrap_u8]
            obtain ⟨y, hy⟩ : ∃ y : Int, y = ((bt i).toNat : Int) := ⟨_, rfl⟩
            have z3 := z2 (bt i)
            have hkl : k < (D' i).length := by have := hBk.rlen c; rw [HRi.out] at this; have : rn = (D' i).length := this; omega
            have HNx : Hid (∃ D', Bk w (wr.setCell ⟨X, k, none⟩ (.int .u8 y)) K N (some ⟨A, 0, none⟩) ac (some ⟨B, 0, none⟩) wc (.slice none 0 0) (.slice none 0 0) R Q D' ∧ (∀ j, j < i → D' j = List.replicate (R j).2.1 (bt j)) ∧ ∀ k', k' < k + 1 → (D' i).getD k' 0 = bt i) := by
              rw [hy]
              refine ⟨_, z3, fun j hj => by simp only [if_neg (show ¬ j = i by omega)]; exact hD1 j hj, fun k' hk' => ?_⟩
              simp only [if_true]
              rw [List.getD_eq_getElem?_getD, List.getElem?_set]
              by_cases q : k = k'
              · rw [if_pos q, if_pos (by omega)]; rfl
              · rw [if_neg q, ← List.getD_eq_getElem?_getD]; exact hD2 k' (by omega)
            rw [← hy] at hw
            obtain ⟨zz, hzz⟩ : ∃ z : Int, z = (((D' i).getD k 0).toNat : Int) := ⟨_, rfl⟩
            rw [← hzz] at z0
            clear hBk hD1 hD2 hrows r0 e z2 z3 hkl hy hzz HK
            go_wp2_with fail
            go_roundw
            case rel => exact ⟨k + 1, by omega, by simp, HNx.out⟩
            case measure => simp [intOf]; omega
          · have dI : ¬ (k : Int) < (rn : Int) := by omega
            have HNx : Hid (∃ D', Bk w wr K N (some ⟨A, 0, none⟩) ac (some ⟨B, 0, none⟩) wc (.slice none 0 0) (.slice none 0 0) R Q D' ∧ ∀ j, j < i + 1 → D' j = List.replicate (R j).2.1 (bt j)) := by
              refine ⟨D', hBk, fun j hj => ?_⟩
              by_cases q : j = i
              · subst q
                have hl := hBk.rlen c
                apply List.ext_getElem
                · simp [hl]
                · intro k' h1 h2
                  have := hD2 k' (by rw [HRi.out] at hl; have : rn = (D' j).length := hl; omega)
                  rw [List.getD_eq_getElem?_getD, List.getElem?_eq_getElem h1] at this
                  simpa using this
              · exact hD1 j (by omega)
            clear hBk hD1 hD2 hrows r0 HK
            go_wp2_with fail
            go_roundw
            case rel => exact ⟨i + 1, by omega, by simp, HNx.out⟩
            case measure => simp [intOf]; omega
      have cI : ¬ (i : Int) < (N : Int) := by omega
      obtain ⟨D1, hBk, hD1⟩ := HR.out
      obtain ⟨c0, -⟩ := HC.out _ _ _ _ hBk
      have HB1 := hidM hBk
      have HD1 : Hid (∀ j, j < N → D1 j = List.replicate (R j).2.1 (bt j)) := fun j hj => hD1 j (by omega)
      clear HR hBk hD1
      go_wp2_with fail
      clear cI c hi c0
      have HLen : Hid (∀ j, j < N → (R j).2.1 ≤ 5000000) := fun j hj => by have := HB1.out.rlen hj; have := HB1.out.len j hj; omega
      have HNew : Hid (∀ i, i < N → ∀ X, (R i).1 = some ⟨X, 0, none⟩ → w.heap.size ≤ X ∧ ∀ k, k < N → k ≠ i → (R k).1 ≠ some ⟨X, 0, none⟩) := fun i hi X e => by
        have e1 : (rv (R i)).ownBlock = some X := by unfold rv; rw [e]; rfl
        exact ⟨HB1.out.rnew i hi X e1, fun k hk hki e2 => HB1.out.apart i k X hi hk (fun q => hki q.symm) e1 (by unfold rv; rw [e2]; rfl)⟩
      have HG0 : Hid (Gw w wr K N 0 0 A ac (.slice (some ⟨B, 0, none⟩) N wc) none 0 none 0 R (fun _ => (none, 0, 0)) (fun _ => 0) 0) := by
        have b := HB1.out
        refine ⟨b.gr, b.knew, b.box, b.all, World.ownsRow_nil _ _ _ _, World.ownsRow_nil _ _ _ _, fun x e => by simp [Value.ownBlock] at e, fun x e => by simp [Value.ownBlock] at e, fun k hk hkN => ?_, fun k hk => by omega, fun k hk X o e => ?_, fun k hk X e => own_lt (b.rows k hk) X (by unfold rv; rw [e]; rfl), fun j hj => by omega⟩
        · have := b.rows k hkN
          rw [HD1.out k hkN] at this
          exact this
        · rcases own_off (b.rows k hk) with ⟨q, -⟩ | ⟨Y, q⟩
          · rw [e] at q; cases q
          · rw [e] at q; cases q; rfl
      have HCg : Hid (∀ V G H x1 go gc fo fc U O c, Gw w V K N G H A ac x1 go gc fo fc R U O c → V.cell? ⟨K, 0, none⟩ = some (.slice (some ⟨A, 0, none⟩) N ac) ∧ V.cell? ⟨K, 2, none⟩ = some (.slice go G gc) ∧ V.cell? ⟨K, 3, none⟩ = some (.slice fo H fc) ∧ ∀ i, i < N → V.cell? ⟨A, i, none⟩ = some (rv (R i))) := fun V G H x1 go gc fo fc U O c b => by
        obtain ⟨A', e1, h1⟩ := own_cells b.all h0
        cases e1
        obtain ⟨c0, -, c2, c3⟩ := ce4 b.box
        exact ⟨c0, c2, c3, h1⟩
      clear HB1 HD1 HC
      go_loopw [7] (fun q wr => ∃ i : Nat, i ≤ N ∧ q = .int .i64 (i : Int) ∧ Hid (∃ go gc fo fc U O, Gw w wr K N (9 * i) (9 * i) A ac (.slice (some ⟨B, 0, none⟩) N wc) go gc fo fc R U O i)) (fun q _ => N - (intOf q).toNat)
      case atStart => exact ⟨0, by omega, rfl, _, _, _, _, _, _, HG0.out⟩
      case round =>
        obtain ⟨i, hi, rfl, HR⟩ := hrel
        clear HG0
        by_cases c : i < N
        · have cI : (i : Int) < (N : Int) := by omega
          have hi0 : (0 : Int) ≤ (i : Int) := by omega
          obtain ⟨ro, rn, rc, hRi⟩ : ∃ ro rn rc, R i = (ro, rn, rc) := ⟨_, _, _, rfl⟩
          have hrn : rn ≤ 5000000 := by have := HLen.out i c; rw [hRi] at this; exact this
          have HS : Hid (∃ go gc fo fc U O, Gw w wr K N (9 * i + 0) (9 * i + 0) A ac (.slice (some ⟨B, 0, none⟩) N wc) go gc fo fc R U O (i + 1) ∧ Gb w wr N (9 * i + 0) i rn ro rc R U O) := by
            obtain ⟨go, gc, fo, fc, U, O, hg⟩ := HR.out
            exact ⟨go, gc, fo, fc, U, O, hg.next c (HNew.out i c) hRi⟩
          obtain ⟨c0, r0⟩ : wr.cell? ⟨K, 0, none⟩ = some (.slice (some ⟨A, 0, none⟩) N ac) ∧ wr.cell? ⟨A, i, none⟩ = some (.slice ro rn rc) := by
            obtain ⟨go, gc, fo, fc, U, O, hg⟩ := HR.out
            obtain ⟨c0, -, -, h1⟩ := HCg.out _ _ _ _ _ _ _ _ _ _ _ hg
            have := h1 i c
            rw [hRi] at this
            exact ⟨c0, this⟩
          have hw : IntKind.u8.wrap (i : Int) = ((bt i).toNat : Int) := by rw [bt_nat, IntKind.wrap_u8]
          obtain ⟨y, hy⟩ : ∃ y : Int, y = ((bt i).toNat : Int) := ⟨_, rfl⟩
          have HY := hidM hy
          rw [← hy] at hw
          clear HR hRi hy
          go_wp2_with fail
          clear c0 r0
          go_loopw [8, 9] (fun v q wr => ∃ (t n : Nat) (bo : Option Addr) (bc : Nat), t ≤ 9 ∧ n ≤ 5000009 ∧ q = .int .i64 (t : Int) ∧ v = .slice bo n bc ∧ Hid (n = rn + t ∧ ∃ go gc fo fc U O, Gw w wr K N (9 * i + t) (9 * i + t) A ac (.slice (some ⟨B, 0, none⟩) N wc) go gc fo fc R U O (i + 1) ∧ Gb w wr N (9 * i + t) i n bo bc R U O)) (fun _ q _ => 9 - (intOf q).toNat)
          case atStart => exact ⟨0, rn, ro, rc, by omega, by omega, rfl, rfl, rfl, HS.out⟩
          case round =>
            obtain ⟨t, n, bo, bc, ht, hn, rfl, rfl, HT⟩ := hrel
            clear HS
            by_cases d : t < 9
            · have dI : (t : Int) < 9 := by omega
              obtain ⟨hnt, go, gc, fo, fc, U, O, hg, hb⟩ := HT.out
              have HG := hidM hg
              have HBb := hidM hb
              have HNt := hidM hnt
              have hn8 : n + 1 ≤ 5000009 := by omega
              obtain ⟨G, hG⟩ : ∃ G, G = 9 * i + t := ⟨_, rfl⟩
              rw [← hG] at HG HBb
              have HGe := hidM hG
              have hGb : G ≤ 100000000000 := by omega
              clear hg hb HT hnt hG
              go_wp2_with (at_builtin; refine Hid.out ?_)
              unfold Hid
              have gA := hidM (gr_alloc wr (.cells #[.int .u8 y] 5))
              refine wpList_append_two _ rfl (.tmp 92) (.tmp 95) 22 22 rfl 5 (.int .u8 0) 1 Try.underlying22 info5 rfl (.slice bo n bc) n _ rfl (own_gr HBb.out.own gA.out) _ 1 [.int .u8 y] rfl (src_u8 wr [.int .u8 y] 1 rfl (by simp)) (by omega) (by omega) ?_
              intro v' W1 hown hgrow hblk
              obtain ⟨bo1, bc1, rfl⟩ := own_form1 hown
              rw [HY.out] at hown
              obtain ⟨hg1, hb1⟩ := HG.out.app HBb.out c gA.out hown hgrow hblk
              have HG1 := hidM hg1
              have HB1 := hidM hb1
              obtain ⟨-, c2, -⟩ := HCg.out _ _ _ _ _ _ _ _ _ _ _ hg1
              clear hown hgrow hblk gA HG HBb hg1 hb1
              go_wp2_with (at_builtin; refine Hid.out ?_)
              unfold Hid
              have gA := hidM (gr_alloc W1 (.cells #[.slice bo1 (n + 1) bc1] 22))
              refine wpList_append_any _ rfl (.tmp 101) (.tmp 103) 30 30 rfl 22 (.slice none 0 0) 24 Try.underlying30 info22 rfl (.slice go G gc) G _ rfl (own_gr22 HG1.out.g gA.out) _ 1 [.slice bo1 (n + 1) bc1] rfl (src_row _ rfl) (by omega) (by omega) ?_
              intro v' W2 hown hgrow hblk
              obtain ⟨go1, gc1, rfl⟩ := own_form1 hown
              obtain ⟨hb2, hF⟩ := fl_mk (j := 2) HG1.out.box (by decide) HG1.out.g gA.out hown hgrow hblk
              obtain ⟨-, -, t2, -⟩ := ce4 hb2
              have t2f := frz hb2 2
              obtain ⟨hg3, hb3⟩ := HG1.out.grown HB1.out (by omega) (by omega) (by omega) (Nat.le_refl _) hF
              have HG3 := hidM hg3
              have HB3 := hidM hb3
              obtain ⟨-, -, t3, -⟩ := HCg.out _ _ _ _ _ _ _ _ _ _ _ hg3
              clear hown hgrow hblk gA HG1 HB1 hg3 hb3 hF hb2 c2
              go_wp2_with (at_builtin; refine Hid.out ?_)
              unfold Hid
              clear t2 t2f t3
              obtain ⟨W3, hW3⟩ : ∃ W3, W3 = W2.setCell ⟨K, 2, none⟩ (.slice go1 (G + 1) gc1) := ⟨_, rfl⟩
              have hs3 : W3.heap.size = W2.heap.size := by rw [hW3]; simp
              rw [← hW3] at HG3 HB3 ⊢
              rw [← hs3]
              clear hW3 hs3
              have gA := hidM (gr_alloc W3 (.cells #[.int .i64 (i : Int)] 3))
              refine wpList_append_any _ rfl (.tmp 111) (.tmp 113) 31 31 rfl 3 (.int .i64 0) 8 Try.underlying31 info3 rfl (.slice fo G fc) G _ rfl (own_gr22 HG3.out.f gA.out) _ 1 [.int .i64 (i : Int)] rfl (src_int W3 _) (by omega) (by omega) ?_
              intro v' W4 hown hgrow hblk
              obtain ⟨fo1, fc1, rfl⟩ := own_form1 hown
              obtain ⟨hb4, hF⟩ := fl_mk (j := 3) HG3.out.box (by decide) HG3.out.f gA.out hown hgrow hblk
              obtain ⟨-, -, -, t3⟩ := ce4 hb4
              have t3f := frz hb4 3
              obtain ⟨hg5, hb5⟩ := HG3.out.offd HB3.out (by simp) hF
              have HG5 := hidM hg5
              have HB5 := hidM hb5
              clear hown hgrow hblk gA HG3 HB3 hg5 hb5 hF hb4
              go_wp2_with fail
              go_roundw
              case rel => exact ⟨t + 1, n + 1, bo1, bc1, by omega, by omega, by simp, rfl, by have := HNt.out; omega, go1, gc1, fo1, fc1, _, _, by have e := HGe.out; rw [show 9 * i + (t + 1) = G + 1 by omega]; exact ⟨HG5.out, HB5.out⟩⟩
              case measure => simp [intOf]; omega
            · have dI : ¬ (t : Int) < 9 := by omega
              have HNx : Hid (∃ go gc fo fc U O, Gw w wr K N (9 * (i + 1)) (9 * (i + 1)) A ac (.slice (some ⟨B, 0, none⟩) N wc) go gc fo fc R U O (i + 1)) := by
                obtain ⟨hnt, go, gc, fo, fc, U, O, hg, hb⟩ := HT.out
                rw [show 9 * (i + 1) = 9 * i + t by omega]
                exact ⟨go, gc, fo, fc, U, O, hg⟩
              clear HT
              go_wp2_with fail
              go_roundw
              case rel => exact ⟨i + 1, by omega, by simp, HNx.out⟩
              case measure => simp [intOf]; omega
        have cI : ¬ (i : Int) < (N : Int) := by omega
        obtain ⟨go, gc, fo, fc, U, O, hg⟩ := HR.out
        have hiN : i = N := by omega
        rw [hiN] at hg
        obtain ⟨c0, c2, c3, hrows⟩ := HCg.out _ _ _ _ _ _ _ _ _ _ _ hg
        have HG := hidM hg
        have HRw : Hid (∀ V, Gr wr V → V.cell? ⟨K, 0, none⟩ = some (.slice (some ⟨A, 0, none⟩) N ac) ∧ V.cell? ⟨K, 2, none⟩ = some (.slice go (9 * N) gc) ∧ V.cell? ⟨K, 3, none⟩ = some (.slice fo (9 * N) fc) ∧ ∀ i, i < N → V.cell? ⟨A, i, none⟩ = some (rv (R i))) := fun V k => ⟨k.cell' c0 id, k.cell' c2 id, k.cell' c3 id, fun i hi => k.cell' (hrows i hi) id⟩
        have HDn : Hid (∀ k, k < N → BytesAt wr (R k).1 (rp (R k).2.1 k)) := fun k hk => (hg.done k hk hk).1
        clear hg HR hrows c2 c3 HCg HNew
        obtain ⟨M9, hM9⟩ : ∃ M9, M9 = 9 * N := ⟨_, rfl⟩
        rw [← hM9] at HG HRw
        have hM9b : M9 ≤ 100000000000 := by omega
        have HM9 : Hid (0 < M9) := by show 0 < M9; omega
        obtain ⟨Wd, hWd⟩ : ∃ Wd, Wd = wr := ⟨_, rfl⟩
        subst hWd
        clear hM9 hiN
        go_wp2_with fail
        clear c0 cI c hi
        go_loopw [10] (fun q wr => ∃ i : Nat, i ≤ N ∧ q = .int .i64 (i : Int) ∧ wr = Wd) (fun q _ => N - (intOf q).toNat)
        case atStart => exact ⟨0, by omega, rfl, rfl⟩
        case round =>
          obtain ⟨i, hi, rfl, rfl⟩ := hrel
          obtain ⟨c0, -, -, hrows⟩ := HRw.out _ (Keeps.refl _ _)
          by_cases c : i < N
          · have cI : (i : Int) < (N : Int) := by omega
            have hi0 : (0 : Int) ≤ (i : Int) := by omega
            obtain ⟨ro, rn, rc, hRi⟩ : ∃ ro rn rc, R i = (ro, rn, rc) := ⟨_, _, _, rfl⟩
            have hrn : rn ≤ 5000000 := by have := HLen.out i c; rw [hRi] at this; exact this
            have r0 := hrows i c
            have hd := HDn.out i c
            rw [hRi] at r0 hd
            have r0' : wr.cell? ⟨A, i, none⟩ = some (.slice ro rn rc) := r0
            have HD := hidM (show BytesAt wr ro (rp rn i) from hd)
            have hw : IntKind.u8.wrap (i : Int) = ((bt i).toNat : Int) := by rw [bt_nat, IntKind.wrap_u8]
            obtain ⟨y, hy⟩ : ∃ y : Int, y = ((bt i).toNat : Int) := ⟨_, rfl⟩
            have HY := hidM hy
            rw [← hy] at hw
            clear hrows r0 hd hRi hy
            obtain ⟨We, hWe⟩ : ∃ We, We = wr := ⟨_, rfl⟩
            subst hWe
            go_wp2_with fail
            go_loopw [11] (fun q wr => ∃ k : Nat, k ≤ rn ∧ q = .int .i64 (k : Int) ∧ wr = We) (fun q _ => rn - (intOf q).toNat)
            case atStart => exact ⟨0, by omega, rfl, rfl⟩
            case round =>
              obtain ⟨k, hk, rfl, rfl⟩ := hrel
              by_cases d : k < rn
              · have dI : (k : Int) < (rn : Int) := by omega
                have hk0 : (0 : Int) ≤ (k : Int) := by omega
                obtain ⟨X, o, e, hc⟩ := HD.out (ne_nil (i := k) (by rw [rp_len]; exact d))
                have t0 := hc k (by rw [rp_len]; exact d)
                have e2 : (((rp rn i)[k]'(by rw [rp_len]; exact d)).toNat : Int) = y := by rw [HY.out]; simp [rp]
                rw [e2] at t0
                subst e
                clear hc e2
                go_wp2_with fail
                go_roundw
                case rel => exact ⟨k + 1, by omega, by simp, by first | rfl | trivial⟩
                case measure => simp [intOf]; omega
              · have dI : ¬ (k : Int) < (rn : Int) := by omega
                go_wp2_with fail
                go_roundw
                case rel => exact ⟨i + 1, by omega, by simp, by first | rfl | trivial⟩
                case measure => simp [intOf]; omega
          have cI : ¬ (i : Int) < (N : Int) := by omega
          obtain ⟨We, hWe⟩ : ∃ We, We = wr := ⟨_, rfl⟩
          subst hWe
          have HU := hidM HG.out.u
          obtain ⟨Gb, hGb, hgc⟩ := own_cells HG.out.g HM9.out
          obtain ⟨Fb, hFb, hfc⟩ := own_cells HG.out.f HM9.out
          subst hGb hFb
          have HRc : Hid (∀ V, Gr We V → V.cell? ⟨K, 2, none⟩ = some (.slice (some ⟨Gb, 0, none⟩) M9 gc) ∧ V.cell? ⟨K, 3, none⟩ = some (.slice (some ⟨Fb, 0, none⟩) M9 fc) ∧ ∀ j, j < M9 → V.cell? ⟨Gb, j, none⟩ = some (rv (U j)) ∧ V.cell? ⟨Fb, j, none⟩ = some (.int .i64 (O j : Int))) := fun V k => by
            obtain ⟨-, c2, c3, -⟩ := HRw.out V k
            exact ⟨c2, c3, fun j hj => ⟨k.cell' (hgc j hj) id, k.cell' (hfc j hj) id⟩⟩
          have HGr := hidM HG.out.gr
          clear hgc hfc HG hrows HRw HDn HLen
          go_wp2_with fail
          clear c0 cI c hi
          go_loopw [12] (fun q wr => ∃ j : Nat, j ≤ M9 ∧ q = .int .i64 (j : Int) ∧ Hid (Gr We wr)) (fun q _ => M9 - (intOf q).toNat)
          case atStart => exact ⟨0, by omega, rfl, Keeps.refl _ _⟩
          case round =>
            obtain ⟨j, hj, rfl, HGj⟩ := hrel
            obtain ⟨c2, c3, hcs⟩ := HRc.out _ HGj.out
            by_cases c : j < M9
            · have cI : (j : Int) < (M9 : Int) := by omega
              have hj0 : (0 : Int) ≤ (j : Int) := by omega
              obtain ⟨X, u1, u2, u3, -⟩ := HU.out j c
              obtain ⟨uo, un, uc, hUj⟩ : ∃ ro rn rc, U j = (ro, rn, rc) := ⟨_, _, _, rfl⟩
              rw [hUj] at u1 u2 u3
              have hun : un ≤ 6000000 := u2
              have huo : uo = some ⟨X, 0, none⟩ := u1
              subst huo
              have HUj := hidM hUj
              have HD := hidM (show BytesAt We (some ⟨X, 0, none⟩) (rp un (O j)) from u3)
              obtain ⟨r0, r1⟩ := hcs j c
              rw [hUj] at r0
              have r0' : wr.cell? ⟨Gb, j, none⟩ = some (.slice (some ⟨X, 0, none⟩) un uc) := r0
              obtain ⟨oj, hoj⟩ : ∃ oj : Int, oj = (O j : Int) := ⟨_, rfl⟩
              have hw : IntKind.u8.wrap oj = ((bt (O j)).toNat : Int) := by rw [bt_nat, IntKind.wrap_u8, hoj]
              obtain ⟨y, hy⟩ : ∃ y : Int, y = ((bt (O j)).toNat : Int) := ⟨_, rfl⟩
              have HY := hidM hy
              rw [← hy] at hw
              have HOj := hidM hoj
              clear u1 u2 u3 hUj r0 r1 hy hoj hcs
              go_wp2_with fail
              clear c2 c3 r0'
              go_loopw [13] (fun q wr => ∃ k : Nat, k ≤ un ∧ q = .int .i64 (k : Int) ∧ Hid (Gr We wr)) (fun q _ => un - (intOf q).toNat)
              case atStart => exact ⟨0, by omega, rfl, HGj.out⟩
              case round =>
                obtain ⟨k, hk, rfl, HGk⟩ := hrel
                clear HGj
                obtain ⟨c2, c3, hcs⟩ := HRc.out _ HGk.out
                obtain ⟨r0, r1⟩ := hcs j c
                rw [HUj.out] at r0
                rw [← HOj.out] at r1
                have r0' : wr.cell? ⟨Gb, j, none⟩ = some (.slice (some ⟨X, 0, none⟩) un uc) := r0
                clear r0 hcs
                by_cases d : k < un
                · have dI : (k : Int) < (un : Int) := by omega
                  have hk0 : (0 : Int) ≤ (k : Int) := by omega
                  obtain ⟨X', o, e, hc⟩ := (HD.out.gr HGk.out) (ne_nil (i := k) (by rw [rp_len]; exact d))
                  cases e
                  have t0 := hc k (by rw [rp_len]; exact d)
                  have e2 : (((rp un (O j))[k]'(by rw [rp_len]; exact d)).toNat : Int) = y := by rw [HY.out]; simp [rp]
                  rw [e2, Nat.zero_add] at t0
                  clear hc e2
                  go_wp2_with fail
                  go_region
                  go_wp2_with fail
                  go_roundw
                  case rel => exact ⟨k + 1, by omega, by simp, HGk.out.trans ((Keeps.refl _ _).drew) (fun _ _ h => h)⟩
                  case measure => simp [intOf]; omega
                · have dI : ¬ (k : Int) < (un : Int) := by omega
                  go_wp2_with fail
                  go_roundw
                  case rel => exact ⟨j + 1, by omega, by simp, HGk.out⟩
                  case measure => simp [intOf]; omega
            · have cI : ¬ (j : Int) < (M9 : Int) := by omega
              clear hcs
              go_wp2_with fail
              go_ret
              exact ⟨rfl, HGr.out.trans HGj.out (fun _ _ h => h)⟩
end Go.Proofs.Ytemleibpmaclmaa.Kit
