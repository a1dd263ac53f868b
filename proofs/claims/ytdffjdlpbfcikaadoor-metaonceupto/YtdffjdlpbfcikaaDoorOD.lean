import Derived.Test.YtdffjdlpbfcikaaDoorOC
namespace Go.Proofs.YtdffjdlpbfcikaaDoor.Kit
open Go.RowKit Go.Shelf Go.Deep
set_option linter.unusedVariables false
attribute [local go_sem] run_store_func

/-! ### the law 5 -/
theorem bytes_block {W : World} {B : Nat} {bs : List UInt8} (h : W.heap[B]? = some (.cells (bv bs).toArray 5 (0, 0))) : BytesAt W (some ⟨B, 0, none⟩) bs := fun _ => ⟨B, 0, rfl, fun i hi => by simp [World.cell?, h, bv, hi]⟩
set_option maxRecDepth 100000 in
set_option maxHeartbeats 4000000 in
theorem once_any {w : World} (hT : Tab w) {bo : Option Addr} {B : List UInt8} {bc : Nat} (hb : BytesAt w bo B) (hf : SForm bo B.length bc) (hlen : B.length ≤ 1000000000) (hlow : ∀ b o, bo = some ⟨b, o, none⟩ → b < w.heap.size) :
    Calls Tryd.prog 5 #[.slice bo B.length bc] w fun e w' => e = .returned (.bool true) ∧ Gr w w' := by
  have H6 : Hid (Calls Tryd.prog 6 #[.slice bo B.length bc] w (GetQ w (getR Yh B))) := get_any hT hb hf (by omega) hlow
  have HT : Hid (∀ V, Gr w V → Calls Tryd.prog 10 #[] V fun e w' => e = .returned (.bool true) ∧ Gr V w') := fun V g => fixed_true V (hT.gr g)
  have H0 : Hid (∀ V, Gr w V → Calls Tryd.prog 9 #[.agg #[.int .i64 0, .slice none 0 0, .slice none 0 0, .int .i64 0, .bool false, .int .i64 0, .int .i64 0, .slice none 0 0, .slice none 0 0], .agg #[.int .i64 0, .slice none 0 0, .slice none 0 0, .int .i64 0, .bool false, .int .i64 0, .int .i64 0, .slice none 0 0, .slice none 0 0]] V fun e w' => e = .returned (.bool true) ∧ Gr V w') := fun V gV => same_head (S := fun _ => False) (D := 0) (k := 0) (di := 0) (rows := 0) (pr := 0) (dl := false) (cn := 0) (vc := 0) (uc := 0) (cn' := 0) (vc' := 0) (uc' := 0) (head_none (hT.gr gV) (Nat.zero_le _) (fun _ h => h.elim)) (head_none (hT.gr gV) (Nat.zero_le _) (fun _ h => h.elim)) V (Keeps.refl _ _)
  have HTb := hidM hT
  have HBy := hidM hb
  have HBl := hidM hlen
  obtain ⟨R, hR⟩ : ∃ R, R = getR Yh B := ⟨_, rfl⟩
  rw [← hR] at H6
  have HR := hidM hR
  obtain ⟨n, hn⟩ : ∃ n, n = B.length := ⟨_, rfl⟩
  rw [← hn] at H6 ⊢
  have Hn := hidM hn
  clear hT hb hf hlen hlow hR hn
  go_enter Tryd.func5, Tryd.ntmps5
  go_wp2_with (go_at_call 6; refine Hid.out ?_)
  unfold Hid
  refine Calls.mono H6.out ?_
  rintro e X ⟨gX, hq⟩
  have HG := hidM gX
  have HA : Hid (∀ o1 o2, Gr w ((X.alloc o1).alloc o2)) := fun o1 o2 => HG.out.trans ((gr_alloc X o1).alloc o2) (fun _ _ h => h)
  clear H6 gX
  cases R with
  | error er =>
    obtain ⟨h1, h2⟩ := get_wrong HR.out.symm
    subst hq
    obtain ⟨e1, e2⟩ := er
    dsimp only at h1 h2
    rw [← Hn.out] at h1
    have h3 : ((e1 : Int) == 0) = false := by rw [beq_eq_false_iff_ne]; omega
    have h4 : (0 : Int) ≤ (e2 : Int) := by omega
    have h5 : (e2 : Int) ≤ (n : Int) := by omega
    have h6 : ¬ e1 = 0 := by omega
    clear h1 h2
    go_wp2_with (go_at_call 9; refine Hid.out ?_)
    unfold Hid
    refine Calls.mono (H0.out _ (HA.out _ _)) ?_
    rintro e Y ⟨rfl, gY⟩
    have hx := heap_alloc_new (X.alloc (.cells #[.int .i64 0, .slice none 0 0, .slice none 0 0, .int .i64 0, .bool false, .int .i64 0, .int .i64 0, .slice none 0 0, .slice none 0 0] 30)) (.cells #[.int .i64 e1, .slice none 0 0, .int .i64 (e2 : Int)] 34)
    have hsz : (X.alloc (.cells #[.int .i64 0, .slice none 0 0, .slice none 0 0, .int .i64 0, .bool false, .int .i64 0, .int .i64 0, .slice none 0 0, .slice none 0 0] 30)).heap.size = X.heap.size + 1 := by simp
    rw [hsz] at hx
    have hy := (gY.block _ (lt_of_heap hx) id).trans hx
    have y1 : Y.cell? ⟨X.heap.size + 1, 1, none⟩ = some (.slice none 0 0) := by simp [World.cell?, hy]
    have y2 : Y.cell? ⟨X.heap.size + 1, 2, none⟩ = some (.int .i64 (e2 : Int)) := by simp [World.cell?, hy]
    have HY := hidM ((HA.out _ _).trans gY (fun _ _ h => h))
    clear gY HA hx hy hsz
    go_wp2_with (go_at_call 10; refine Hid.out ?_)
    unfold Hid
    refine Calls.mono (HT.out _ HY.out) ?_
    rintro e Z ⟨rfl, gZ⟩
    have HZ := hidM (HY.out.trans gZ (fun _ _ h => h))
    clear gZ HY
    go_wp2_with fail
    go_ret
    exact ⟨rfl, HZ.out⟩
  | ok x =>
    obtain ⟨hrd, hY, hB⟩ := get_right HR.out.symm
    obtain ⟨v, rfl, hv⟩ := hq
    obtain ⟨fo, no, vo, uo, cf, cn, vc, uc, rfl, hH⟩ := hv.headx (HTb.out.gr HG.out) hrd
    have HP : Hid (∀ V, Gr X V → Calls Tryd.prog 11 #[.agg #[.int .i64 (x.kind : Int), .slice fo x.fs.length cf, .slice no x.ns.length cn, .int .i64 (x.id : Int), .bool x.delta, .int .i64 (x.rows : Int), .int .i64 (x.press : Int), .slice vo x.nds.length vc, .slice uo x.sls.length uc]] V fun e w' => ∃ C, e = .returned (.tuple #[.slice (some ⟨C, 0, none⟩) n n, .int .i64 0]) ∧ w'.heap[C]? = some (.cells (bv B).toArray 5 (0, 0)) ∧ Gr V w') := fun V gV => by
      refine Calls.mono (put4_true (hH.gr gV) ((Yh_iff x).2 hY)) ?_
      rintro e w' ⟨C, rfl, -, hC, g⟩
      refine ⟨C, ?_, ?_, g⟩
      · rw [Hn.out, ← hB]
      · rw [hC, ← hB]
    obtain ⟨nf, hnf⟩ : ∃ n, n = x.fs.length := ⟨_, rfl⟩
    obtain ⟨nn, hnn⟩ : ∃ n, n = x.ns.length := ⟨_, rfl⟩
    obtain ⟨nd, hnd⟩ : ∃ n, n = x.nds.length := ⟨_, rfl⟩
    obtain ⟨nu, hnu⟩ : ∃ n, n = x.sls.length := ⟨_, rfl⟩
    rw [← hnf, ← hnn, ← hnd, ← hnu] at HP ⊢
    clear hv hH hrd hY hB hnf hnn hnd hnu
    have HA2 : Hid (∀ o1 o2, Gr X ((X.alloc o1).alloc o2)) := fun o1 o2 => (gr_alloc X o1).alloc o2
    go_wp2_with (go_at_call 11; refine Hid.out ?_)
    unfold Hid
    refine Calls.mono (HP.out _ (HA2.out _ _)) ?_
    rintro e Y ⟨C, rfl, hC, gY⟩
    have HY : Hid (Gr w Y) := (HA.out _ _).trans gY (fun _ _ h => h)
    have H12 : Hid (Calls Tryd.prog 12 #[.slice (some ⟨C, 0, none⟩) n n, .slice bo n bc] Y fun e w' => e = .returned (.bool true) ∧ Gr Y w') := by
      show Calls _ _ _ _ _
      rw [Hn.out]
      exact same_bytes HBl.out (bytes_block hC) (HBy.out.gr HY.out)
    clear gY hC HA HA2 HP
    go_wp2_with (go_at_call 12; refine Hid.out ?_)
    unfold Hid
    refine Calls.mono H12.out ?_
    rintro e Z ⟨rfl, gZ⟩
    have HZ := hidM (HY.out.trans gZ (fun _ _ h => h))
    clear gZ HY H12
    go_wp2_with (go_at_call 10; refine Hid.out ?_)
    unfold Hid
    refine Calls.mono (HT.out _ HZ.out) ?_
    rintro e Z2 ⟨rfl, gZ⟩
    have HZ2 := hidM (HZ.out.trans gZ (fun _ _ h => h))
    clear gZ HZ
    go_wp2_with fail
    go_ret
    exact ⟨rfl, HZ2.out⟩
end Go.Proofs.YtdffjdlpbfcikaaDoor.Kit
