import Derived.Test.YtcfdkadhclickaaDoorXQ
namespace Go.Proofs.YtcfdkadhclickaaDoor.Kit
open Go.RowKit Go.Shelf Go.Deep
set_option linter.unusedVariables false
attribute [local go_sem] run_store_func

/-! ### the document's listed 76 -/
set_option maxRecDepth 100000 in
set_option maxHeartbeats 2000000 in
theorem list76_15 (f3 f4 f5 : Int) (n ca kb ko : Nat) (v0 : Bool) (v2 : ByteArray) (b o L vc : Nat) (w : World) (p : Nat → Bool) (R : Bool) (hL : L ≤ 4096) (hn : 0 < n) (hkb : kb < w.heap.size) (hb : b < w.heap.size)
    (hk : ∀ k, k < L → ∃ (g : FT) (go : Option Addr) (gc : Nat) (u : VT) (uo : Option Addr) (uc : Nat), CellsAt w kb (ko) g go gc ∧ VCells w b (o + k * 4) u uo uc ∧ Ans 49 #[.agg #[.string g.name, .bool g.nul, .int .i64 g.kind, .int .i64 g.width, .int .i64 g.id, .int .i64 g.index, .slice go g.kids.length gc], .agg #[.bool u.nul, .int .i64 u.num, .string u.text, .slice uo u.list.length uc]] (p k) w)
    (ht : (∀ k, k < L → p k = true) → R = true) (hf : ∀ k, k < L → p k = false → R = false) :
    Ans 76 #[.agg #[.int .i64 15, .int .i64 f3, .int .i64 f4, .int .i64 f5, .slice (some ⟨kb, ko, none⟩) n ca], .agg #[.bool v0, .int .i64 0, .string v2, .slice (some ⟨b, o, none⟩) L vc]] R w := by
  intro W g0
  have hLI : ¬ (4096 : Int) < (L : Int) := by omega
  have hn' : (0 : Int) < (n : Int) := by omega
  have HK := hidM hk
  have HT := hidM ht
  have HF := hidM hf
  have HB := hidM (And.intro hkb hb)
  have HG0 := hidM g0
  obtain ⟨V, hV⟩ : ∃ V, (W.alloc (.cells #[.int .i64 15, .int .i64 f3, .int .i64 f4, .int .i64 f5, .slice (some ⟨kb, ko, none⟩) n ca] 24)).alloc (.cells #[.bool v0, .int .i64 0, .string v2, .slice (some ⟨b, o, none⟩) L vc] 29) = V := ⟨_, rfl⟩
  have gv : Gr W V := by rw [← hV]; exact (gr_alloc W _).alloc _
  have b5 : B5 V W.heap.size 15 f3 f4 f5 (some ⟨kb, ko, none⟩) n ca := by
    unfold B5
    rw [← hV]
    exact (Below.heap_alloc (W.alloc _) _ W.heap.size (by simp)).trans (heap_alloc_new W _)
  have b4 : B4 V (W.heap.size + 1) v0 0 v2 (some ⟨b, o, none⟩) L vc := by
    unfold B4
    rw [← hV]
    have e := heap_alloc_new (W.alloc (.cells #[.int .i64 15, .int .i64 f3, .int .i64 f4, .int .i64 f5, .slice (some ⟨kb, ko, none⟩) n ca] 24)) (.cells #[.bool v0, .int .i64 0, .string v2, .slice (some ⟨b, o, none⟩) L vc] 29)
    rw [show (W.alloc (.cells #[.int .i64 15, .int .i64 f3, .int .i64 f4, .int .i64 f5, .slice (some ⟨kb, ko, none⟩) n ca] 24)).heap.size = W.heap.size + 1 by simp] at e
    exact e
  have H5 := hidM b5
  have H4 := hidM b4
  have HGv := hidM gv
  have HV := hidM hV
  clear hk ht hf hkb hb g0 gv b5 b4 hV hL
  go_enter Tryd.func76, Tryd.ntmps76
  go_wp2
  rw [HV.out]
  clear HV
  obtain ⟨X, hX⟩ : ∃ X, X = W.heap.size := ⟨_, rfl⟩
  rw [← hX] at H5 H4 ⊢
  clear hX
  go_loopw [6] (fun i wr => ∃ k : Nat, k ≤ L ∧ i = .int .i64 (k : Int) ∧ Hid (Gr V wr ∧ ∀ j, j < k → p j = true)) (fun i _ => L - (intOf i).toNat)
  case atStart => exact ⟨0, by omega, rfl, Keeps.refl _ _, fun j h => by omega⟩
  case round =>
    obtain ⟨k, hk, rfl, HI⟩ := hrel
    obtain ⟨p0, p1, p2, p3, p4⟩ := B5.cells ((HI.out.1.block _ (lt_of_heap H5.out) id).trans H5.out)
    obtain ⟨q0, q1, q2, q3⟩ := B4.cells ((HI.out.1.block _ (lt_of_heap H4.out) id).trans H4.out)
    by_cases hlt : k < L
    · obtain ⟨g, go, gc, u, uo, uc, hg, hu, hcall⟩ := HK.out k hlt
      have gw : Gr w wr := HG0.out.trans (HGv.out.trans HI.out.1 (fun _ _ h => h)) (fun _ _ h => h)
      have hgw := hg.kept (gw.block kb HB.out.1 id)
      have huw := hu.kept (gw.block b HB.out.2 id)
      have HC : Hid (wr.drew.cell? ⟨X, 4, none⟩ = some (.slice (some ⟨kb, ko, none⟩) n ca) ∧ wr.drew.cell? ⟨X + 1, 3, none⟩ = some (.slice (some ⟨b, o, none⟩) L vc) ∧ wr.drew.cell? ⟨kb, ko, none⟩ = some (.string g.name) ∧ wr.drew.cell? ⟨kb, ko + 1, none⟩ = some (.bool g.nul) ∧ wr.drew.cell? ⟨kb, ko + 2, none⟩ = some (.int .i64 g.kind) ∧ wr.drew.cell? ⟨kb, ko + 3, none⟩ = some (.int .i64 g.width) ∧ wr.drew.cell? ⟨kb, ko + 4, none⟩ = some (.int .i64 g.id) ∧ wr.drew.cell? ⟨kb, ko + 5, none⟩ = some (.int .i64 g.index) ∧ wr.drew.cell? ⟨kb, ko + 6, none⟩ = some (.slice go g.kids.length gc) ∧ wr.drew.cell? ⟨b, o + k * 4, none⟩ = some (.bool u.nul) ∧ wr.drew.cell? ⟨b, o + k * 4 + 1, none⟩ = some (.int .i64 u.num) ∧ wr.drew.cell? ⟨b, o + k * 4 + 2, none⟩ = some (.string u.text) ∧ wr.drew.cell? ⟨b, o + k * 4 + 3, none⟩ = some (.slice uo u.list.length uc)) := ⟨p4, q3, hgw.c0, hgw.c1, hgw.c2, hgw.c3, hgw.c4, hgw.c5, hgw.c6, huw.c0, huw.c1, huw.c2, huw.c3⟩
      have H2 := hidM hcall
      have HGd : Hid (Gr w wr.drew) := gw.drew
      have HGk := hidM HI.out.1
      have HP := hidM HI.out.2
      have hltI : (k : Int) < (L : Int) := by omega
      clear HI hg hu hcall gw hgw huw
      obtain ⟨z, hz⟩ : ∃ z, z = p k := ⟨_, rfl⟩
      rw [← hz] at H2
      have HZ := hidM hz
      clear hz
      go_wp2
      clear p0 p1 p2 p3 p4 q0 q1 q2 q3
      cases z with
      | true =>
        go_region_held3 (fun w' => w'.cell? ⟨X, 4, none⟩ = some (.slice (some ⟨kb, ko, none⟩) n ca) ∧ w'.cell? ⟨X + 1, 3, none⟩ = some (.slice (some ⟨b, o, none⟩) L vc) ∧ w'.cell? ⟨kb, ko, none⟩ = some (.string g.name) ∧ w'.cell? ⟨kb, ko + 1, none⟩ = some (.bool g.nul) ∧ w'.cell? ⟨kb, ko + 2, none⟩ = some (.int .i64 g.kind) ∧ w'.cell? ⟨kb, ko + 3, none⟩ = some (.int .i64 g.width) ∧ w'.cell? ⟨kb, ko + 4, none⟩ = some (.int .i64 g.id) ∧ w'.cell? ⟨kb, ko + 5, none⟩ = some (.int .i64 g.index) ∧ w'.cell? ⟨kb, ko + 6, none⟩ = some (.slice go g.kids.length gc) ∧ w'.cell? ⟨b, o + k * 4, none⟩ = some (.bool u.nul) ∧ w'.cell? ⟨b, o + k * 4 + 1, none⟩ = some (.int .i64 u.num) ∧ w'.cell? ⟨b, o + k * 4 + 2, none⟩ = some (.string u.text) ∧ w'.cell? ⟨b, o + k * 4 + 3, none⟩ = some (.slice uo u.list.length uc)) (first | with_reducible exact HC.out | with_reducible exact ⟨gr_c HE.out (HC.out.1), gr_c HE.out (HC.out.2.1), gr_c HE.out (HC.out.2.2.1), gr_c HE.out (HC.out.2.2.2.1), gr_c HE.out (HC.out.2.2.2.2.1), gr_c HE.out (HC.out.2.2.2.2.2.1), gr_c HE.out (HC.out.2.2.2.2.2.2.1), gr_c HE.out (HC.out.2.2.2.2.2.2.2.1), gr_c HE.out (HC.out.2.2.2.2.2.2.2.2.1), gr_c HE.out (HC.out.2.2.2.2.2.2.2.2.2.1), gr_c HE.out (HC.out.2.2.2.2.2.2.2.2.2.2.1), gr_c HE.out (HC.out.2.2.2.2.2.2.2.2.2.2.2.1), gr_c HE.out (HC.out.2.2.2.2.2.2.2.2.2.2.2.2)⟩) ((go_at_call 49; refine Calls.mono (H2.out _ HGd.out) ?_; rintro e w2 ⟨rfl, hg2⟩; have HE := hidM hg2; clear hg2))
        all_goals
          go_wp2_with fail
          go_roundw
          case rel =>
            refine ⟨k + 1, by omega, by simp, HGk.out.drew.trans HE.out (fun _ _ h => h), fun j h => ?_⟩
            by_cases e : j = k
            · subst e; exact HZ.out.symm
            · exact HP.out j (by omega)
          case measure => simp [intOf]; omega
      | false =>
        have HX := hidM (HF.out k hlt HZ.out.symm)
        go_region_held3 (fun w' => w'.cell? ⟨X, 4, none⟩ = some (.slice (some ⟨kb, ko, none⟩) n ca) ∧ w'.cell? ⟨X + 1, 3, none⟩ = some (.slice (some ⟨b, o, none⟩) L vc) ∧ w'.cell? ⟨kb, ko, none⟩ = some (.string g.name) ∧ w'.cell? ⟨kb, ko + 1, none⟩ = some (.bool g.nul) ∧ w'.cell? ⟨kb, ko + 2, none⟩ = some (.int .i64 g.kind) ∧ w'.cell? ⟨kb, ko + 3, none⟩ = some (.int .i64 g.width) ∧ w'.cell? ⟨kb, ko + 4, none⟩ = some (.int .i64 g.id) ∧ w'.cell? ⟨kb, ko + 5, none⟩ = some (.int .i64 g.index) ∧ w'.cell? ⟨kb, ko + 6, none⟩ = some (.slice go g.kids.length gc) ∧ w'.cell? ⟨b, o + k * 4, none⟩ = some (.bool u.nul) ∧ w'.cell? ⟨b, o + k * 4 + 1, none⟩ = some (.int .i64 u.num) ∧ w'.cell? ⟨b, o + k * 4 + 2, none⟩ = some (.string u.text) ∧ w'.cell? ⟨b, o + k * 4 + 3, none⟩ = some (.slice uo u.list.length uc)) (first | with_reducible exact HC.out | with_reducible exact ⟨gr_c HE.out (HC.out.1), gr_c HE.out (HC.out.2.1), gr_c HE.out (HC.out.2.2.1), gr_c HE.out (HC.out.2.2.2.1), gr_c HE.out (HC.out.2.2.2.2.1), gr_c HE.out (HC.out.2.2.2.2.2.1), gr_c HE.out (HC.out.2.2.2.2.2.2.1), gr_c HE.out (HC.out.2.2.2.2.2.2.2.1), gr_c HE.out (HC.out.2.2.2.2.2.2.2.2.1), gr_c HE.out (HC.out.2.2.2.2.2.2.2.2.2.1), gr_c HE.out (HC.out.2.2.2.2.2.2.2.2.2.2.1), gr_c HE.out (HC.out.2.2.2.2.2.2.2.2.2.2.2.1), gr_c HE.out (HC.out.2.2.2.2.2.2.2.2.2.2.2.2)⟩) ((go_at_call 49; refine Calls.mono (H2.out _ HGd.out) ?_; rintro e w2 ⟨rfl, hg2⟩; have HE := hidM hg2; clear hg2))
        all_goals
          go_wp2_with fail
          go_ret
          exact ⟨by rw [HX.out]; rfl, (HGv.out.trans HGk.out (fun _ _ h => h)).drew.trans HE.out (fun _ _ h => h)⟩
    · have hkL : k = L := by omega
      have HX := hidM (HT.out (fun j h => HI.out.2 j (by omega)))
      have HGk := hidM HI.out.1
      clear HI
      subst hkL
      go_wp2
      go_ret
      exact ⟨by rw [HX.out]; rfl, HGv.out.trans HGk.out (fun _ _ h => h)⟩
set_option maxRecDepth 100000 in
set_option maxHeartbeats 2000000 in
theorem list76_16 (f3 f4 f5 : Int) (n ca kb ko : Nat) (v0 : Bool) (v2 : ByteArray) (b o L vc : Nat) (w : World) (p : Nat → Bool) (R : Bool) (hLb : L ≤ 1000000000000) (hn : 0 < n) (hkb : kb < w.heap.size) (hb : b < w.heap.size)
    (hk : ∀ k, k < L → ∃ (g : FT) (go : Option Addr) (gc : Nat) (u : VT) (uo : Option Addr) (uc : Nat), CellsAt w kb (ko) g go gc ∧ VCells w b (o + k * 4) u uo uc ∧ Ans 49 #[.agg #[.string g.name, .bool g.nul, .int .i64 g.kind, .int .i64 g.width, .int .i64 g.id, .int .i64 g.index, .slice go g.kids.length gc], .agg #[.bool u.nul, .int .i64 u.num, .string u.text, .slice uo u.list.length uc]] (p k) w)
    (ht : (∀ k, k < L → p k = true) → R = true) (hf : ∀ k, k < L → p k = false → R = false) :
    Ans 76 #[.agg #[.int .i64 16, .int .i64 (L : Int), .int .i64 f4, .int .i64 f5, .slice (some ⟨kb, ko, none⟩) n ca], .agg #[.bool v0, .int .i64 0, .string v2, .slice (some ⟨b, o, none⟩) L vc]] R w := by
  intro W g0
  have hn' : (0 : Int) < (n : Int) := by omega
  have HK := hidM hk
  have HT := hidM ht
  have HF := hidM hf
  have HB := hidM (And.intro hkb hb)
  have HG0 := hidM g0
  obtain ⟨V, hV⟩ : ∃ V, (W.alloc (.cells #[.int .i64 16, .int .i64 (L : Int), .int .i64 f4, .int .i64 f5, .slice (some ⟨kb, ko, none⟩) n ca] 24)).alloc (.cells #[.bool v0, .int .i64 0, .string v2, .slice (some ⟨b, o, none⟩) L vc] 29) = V := ⟨_, rfl⟩
  have gv : Gr W V := by rw [← hV]; exact (gr_alloc W _).alloc _
  have b5 : B5 V W.heap.size 16 (L : Int) f4 f5 (some ⟨kb, ko, none⟩) n ca := by
    unfold B5
    rw [← hV]
    exact (Below.heap_alloc (W.alloc _) _ W.heap.size (by simp)).trans (heap_alloc_new W _)
  have b4 : B4 V (W.heap.size + 1) v0 0 v2 (some ⟨b, o, none⟩) L vc := by
    unfold B4
    rw [← hV]
    have e := heap_alloc_new (W.alloc (.cells #[.int .i64 16, .int .i64 (L : Int), .int .i64 f4, .int .i64 f5, .slice (some ⟨kb, ko, none⟩) n ca] 24)) (.cells #[.bool v0, .int .i64 0, .string v2, .slice (some ⟨b, o, none⟩) L vc] 29)
    rw [show (W.alloc (.cells #[.int .i64 16, .int .i64 (L : Int), .int .i64 f4, .int .i64 f5, .slice (some ⟨kb, ko, none⟩) n ca] 24)).heap.size = W.heap.size + 1 by simp] at e
    exact e
  have H5 := hidM b5
  have H4 := hidM b4
  have HGv := hidM gv
  have HV := hidM hV
  clear hk ht hf hkb hb g0 gv b5 b4 hV 
  go_enter Tryd.func76, Tryd.ntmps76
  go_wp2
  rw [HV.out]
  clear HV
  obtain ⟨X, hX⟩ : ∃ X, X = W.heap.size := ⟨_, rfl⟩
  rw [← hX] at H5 H4 ⊢
  clear hX
  go_loopw [6] (fun i wr => ∃ k : Nat, k ≤ L ∧ i = .int .i64 (k : Int) ∧ Hid (Gr V wr ∧ ∀ j, j < k → p j = true)) (fun i _ => L - (intOf i).toNat)
  case atStart => exact ⟨0, by omega, rfl, Keeps.refl _ _, fun j h => by omega⟩
  case round =>
    obtain ⟨k, hk, rfl, HI⟩ := hrel
    obtain ⟨p0, p1, p2, p3, p4⟩ := B5.cells ((HI.out.1.block _ (lt_of_heap H5.out) id).trans H5.out)
    obtain ⟨q0, q1, q2, q3⟩ := B4.cells ((HI.out.1.block _ (lt_of_heap H4.out) id).trans H4.out)
    by_cases hlt : k < L
    · obtain ⟨g, go, gc, u, uo, uc, hg, hu, hcall⟩ := HK.out k hlt
      have gw : Gr w wr := HG0.out.trans (HGv.out.trans HI.out.1 (fun _ _ h => h)) (fun _ _ h => h)
      have hgw := hg.kept (gw.block kb HB.out.1 id)
      have huw := hu.kept (gw.block b HB.out.2 id)
      have HC : Hid (wr.drew.cell? ⟨X, 4, none⟩ = some (.slice (some ⟨kb, ko, none⟩) n ca) ∧ wr.drew.cell? ⟨X + 1, 3, none⟩ = some (.slice (some ⟨b, o, none⟩) L vc) ∧ wr.drew.cell? ⟨kb, ko, none⟩ = some (.string g.name) ∧ wr.drew.cell? ⟨kb, ko + 1, none⟩ = some (.bool g.nul) ∧ wr.drew.cell? ⟨kb, ko + 2, none⟩ = some (.int .i64 g.kind) ∧ wr.drew.cell? ⟨kb, ko + 3, none⟩ = some (.int .i64 g.width) ∧ wr.drew.cell? ⟨kb, ko + 4, none⟩ = some (.int .i64 g.id) ∧ wr.drew.cell? ⟨kb, ko + 5, none⟩ = some (.int .i64 g.index) ∧ wr.drew.cell? ⟨kb, ko + 6, none⟩ = some (.slice go g.kids.length gc) ∧ wr.drew.cell? ⟨b, o + k * 4, none⟩ = some (.bool u.nul) ∧ wr.drew.cell? ⟨b, o + k * 4 + 1, none⟩ = some (.int .i64 u.num) ∧ wr.drew.cell? ⟨b, o + k * 4 + 2, none⟩ = some (.string u.text) ∧ wr.drew.cell? ⟨b, o + k * 4 + 3, none⟩ = some (.slice uo u.list.length uc)) := ⟨p4, q3, hgw.c0, hgw.c1, hgw.c2, hgw.c3, hgw.c4, hgw.c5, hgw.c6, huw.c0, huw.c1, huw.c2, huw.c3⟩
      have H2 := hidM hcall
      have HGd : Hid (Gr w wr.drew) := gw.drew
      have HGk := hidM HI.out.1
      have HP := hidM HI.out.2
      have hltI : (k : Int) < (L : Int) := by omega
      clear HI hg hu hcall gw hgw huw
      obtain ⟨z, hz⟩ : ∃ z, z = p k := ⟨_, rfl⟩
      rw [← hz] at H2
      have HZ := hidM hz
      clear hz
      go_wp2
      clear p0 p1 p2 p3 p4 q0 q1 q2 q3
      cases z with
      | true =>
        go_region_held3 (fun w' => w'.cell? ⟨X, 4, none⟩ = some (.slice (some ⟨kb, ko, none⟩) n ca) ∧ w'.cell? ⟨X + 1, 3, none⟩ = some (.slice (some ⟨b, o, none⟩) L vc) ∧ w'.cell? ⟨kb, ko, none⟩ = some (.string g.name) ∧ w'.cell? ⟨kb, ko + 1, none⟩ = some (.bool g.nul) ∧ w'.cell? ⟨kb, ko + 2, none⟩ = some (.int .i64 g.kind) ∧ w'.cell? ⟨kb, ko + 3, none⟩ = some (.int .i64 g.width) ∧ w'.cell? ⟨kb, ko + 4, none⟩ = some (.int .i64 g.id) ∧ w'.cell? ⟨kb, ko + 5, none⟩ = some (.int .i64 g.index) ∧ w'.cell? ⟨kb, ko + 6, none⟩ = some (.slice go g.kids.length gc) ∧ w'.cell? ⟨b, o + k * 4, none⟩ = some (.bool u.nul) ∧ w'.cell? ⟨b, o + k * 4 + 1, none⟩ = some (.int .i64 u.num) ∧ w'.cell? ⟨b, o + k * 4 + 2, none⟩ = some (.string u.text) ∧ w'.cell? ⟨b, o + k * 4 + 3, none⟩ = some (.slice uo u.list.length uc)) (first | with_reducible exact HC.out | with_reducible exact ⟨gr_c HE.out (HC.out.1), gr_c HE.out (HC.out.2.1), gr_c HE.out (HC.out.2.2.1), gr_c HE.out (HC.out.2.2.2.1), gr_c HE.out (HC.out.2.2.2.2.1), gr_c HE.out (HC.out.2.2.2.2.2.1), gr_c HE.out (HC.out.2.2.2.2.2.2.1), gr_c HE.out (HC.out.2.2.2.2.2.2.2.1), gr_c HE.out (HC.out.2.2.2.2.2.2.2.2.1), gr_c HE.out (HC.out.2.2.2.2.2.2.2.2.2.1), gr_c HE.out (HC.out.2.2.2.2.2.2.2.2.2.2.1), gr_c HE.out (HC.out.2.2.2.2.2.2.2.2.2.2.2.1), gr_c HE.out (HC.out.2.2.2.2.2.2.2.2.2.2.2.2)⟩) ((go_at_call 49; refine Calls.mono (H2.out _ HGd.out) ?_; rintro e w2 ⟨rfl, hg2⟩; have HE := hidM hg2; clear hg2))
        all_goals
          go_wp2_with fail
          go_roundw
          case rel =>
            refine ⟨k + 1, by omega, by simp, HGk.out.drew.trans HE.out (fun _ _ h => h), fun j h => ?_⟩
            by_cases e : j = k
            · subst e; exact HZ.out.symm
            · exact HP.out j (by omega)
          case measure => simp [intOf]; omega
      | false =>
        have HX := hidM (HF.out k hlt HZ.out.symm)
        go_region_held3 (fun w' => w'.cell? ⟨X, 4, none⟩ = some (.slice (some ⟨kb, ko, none⟩) n ca) ∧ w'.cell? ⟨X + 1, 3, none⟩ = some (.slice (some ⟨b, o, none⟩) L vc) ∧ w'.cell? ⟨kb, ko, none⟩ = some (.string g.name) ∧ w'.cell? ⟨kb, ko + 1, none⟩ = some (.bool g.nul) ∧ w'.cell? ⟨kb, ko + 2, none⟩ = some (.int .i64 g.kind) ∧ w'.cell? ⟨kb, ko + 3, none⟩ = some (.int .i64 g.width) ∧ w'.cell? ⟨kb, ko + 4, none⟩ = some (.int .i64 g.id) ∧ w'.cell? ⟨kb, ko + 5, none⟩ = some (.int .i64 g.index) ∧ w'.cell? ⟨kb, ko + 6, none⟩ = some (.slice go g.kids.length gc) ∧ w'.cell? ⟨b, o + k * 4, none⟩ = some (.bool u.nul) ∧ w'.cell? ⟨b, o + k * 4 + 1, none⟩ = some (.int .i64 u.num) ∧ w'.cell? ⟨b, o + k * 4 + 2, none⟩ = some (.string u.text) ∧ w'.cell? ⟨b, o + k * 4 + 3, none⟩ = some (.slice uo u.list.length uc)) (first | with_reducible exact HC.out | with_reducible exact ⟨gr_c HE.out (HC.out.1), gr_c HE.out (HC.out.2.1), gr_c HE.out (HC.out.2.2.1), gr_c HE.out (HC.out.2.2.2.1), gr_c HE.out (HC.out.2.2.2.2.1), gr_c HE.out (HC.out.2.2.2.2.2.1), gr_c HE.out (HC.out.2.2.2.2.2.2.1), gr_c HE.out (HC.out.2.2.2.2.2.2.2.1), gr_c HE.out (HC.out.2.2.2.2.2.2.2.2.1), gr_c HE.out (HC.out.2.2.2.2.2.2.2.2.2.1), gr_c HE.out (HC.out.2.2.2.2.2.2.2.2.2.2.1), gr_c HE.out (HC.out.2.2.2.2.2.2.2.2.2.2.2.1), gr_c HE.out (HC.out.2.2.2.2.2.2.2.2.2.2.2.2)⟩) ((go_at_call 49; refine Calls.mono (H2.out _ HGd.out) ?_; rintro e w2 ⟨rfl, hg2⟩; have HE := hidM hg2; clear hg2))
        all_goals
          go_wp2_with fail
          go_ret
          exact ⟨by rw [HX.out]; rfl, (HGv.out.trans HGk.out (fun _ _ h => h)).drew.trans HE.out (fun _ _ h => h)⟩
    · have hkL : k = L := by omega
      have HX := hidM (HT.out (fun j h => HI.out.2 j (by omega)))
      have HGk := hidM HI.out.1
      clear HI
      subst hkL
      go_wp2
      go_ret
      exact ⟨by rw [HX.out]; rfl, HGv.out.trans HGk.out (fun _ _ h => h)⟩
set_option maxRecDepth 100000 in
set_option maxHeartbeats 2000000 in
theorem list76_17 (f3 f4 f5 : Int) (ca kb ko : Nat) (v0 : Bool) (v2 : ByteArray) (b o L vc : Nat) (w : World) (p : Nat → Bool) (R : Bool) (hLb : L ≤ 1000000000000) (hkb : kb < w.heap.size) (hb : b < w.heap.size)
    (hk : ∀ k, k < L → ∃ (g : FT) (go : Option Addr) (gc : Nat) (u : VT) (uo : Option Addr) (uc : Nat), CellsAt w kb (ko + k * 7) g go gc ∧ VCells w b (o + k * 4) u uo uc ∧ Ans 49 #[.agg #[.string g.name, .bool g.nul, .int .i64 g.kind, .int .i64 g.width, .int .i64 g.id, .int .i64 g.index, .slice go g.kids.length gc], .agg #[.bool u.nul, .int .i64 u.num, .string u.text, .slice uo u.list.length uc]] (p k) w)
    (ht : (∀ k, k < L → p k = true) → R = true) (hf : ∀ k, k < L → p k = false → R = false) :
    Ans 76 #[.agg #[.int .i64 17, .int .i64 f3, .int .i64 f4, .int .i64 f5, .slice (some ⟨kb, ko, none⟩) L ca], .agg #[.bool v0, .int .i64 0, .string v2, .slice (some ⟨b, o, none⟩) L vc]] R w := by
  intro W g0
  have HK := hidM hk
  have HT := hidM ht
  have HF := hidM hf
  have HB := hidM (And.intro hkb hb)
  have HG0 := hidM g0
  obtain ⟨V, hV⟩ : ∃ V, (W.alloc (.cells #[.int .i64 17, .int .i64 f3, .int .i64 f4, .int .i64 f5, .slice (some ⟨kb, ko, none⟩) L ca] 24)).alloc (.cells #[.bool v0, .int .i64 0, .string v2, .slice (some ⟨b, o, none⟩) L vc] 29) = V := ⟨_, rfl⟩
  have gv : Gr W V := by rw [← hV]; exact (gr_alloc W _).alloc _
  have b5 : B5 V W.heap.size 17 f3 f4 f5 (some ⟨kb, ko, none⟩) L ca := by
    unfold B5
    rw [← hV]
    exact (Below.heap_alloc (W.alloc _) _ W.heap.size (by simp)).trans (heap_alloc_new W _)
  have b4 : B4 V (W.heap.size + 1) v0 0 v2 (some ⟨b, o, none⟩) L vc := by
    unfold B4
    rw [← hV]
    have e := heap_alloc_new (W.alloc (.cells #[.int .i64 17, .int .i64 f3, .int .i64 f4, .int .i64 f5, .slice (some ⟨kb, ko, none⟩) L ca] 24)) (.cells #[.bool v0, .int .i64 0, .string v2, .slice (some ⟨b, o, none⟩) L vc] 29)
    rw [show (W.alloc (.cells #[.int .i64 17, .int .i64 f3, .int .i64 f4, .int .i64 f5, .slice (some ⟨kb, ko, none⟩) L ca] 24)).heap.size = W.heap.size + 1 by simp] at e
    exact e
  have H5 := hidM b5
  have H4 := hidM b4
  have HGv := hidM gv
  have HV := hidM hV
  clear hk ht hf hkb hb g0 gv b5 b4 hV 
  go_enter Tryd.func76, Tryd.ntmps76
  go_wp2
  rw [HV.out]
  clear HV
  obtain ⟨X, hX⟩ : ∃ X, X = W.heap.size := ⟨_, rfl⟩
  rw [← hX] at H5 H4 ⊢
  clear hX
  go_loopw [6] (fun i wr => ∃ k : Nat, k ≤ L ∧ i = .int .i64 (k : Int) ∧ Hid (Gr V wr ∧ ∀ j, j < k → p j = true)) (fun i _ => L - (intOf i).toNat)
  case atStart => exact ⟨0, by omega, rfl, Keeps.refl _ _, fun j h => by omega⟩
  case round =>
    obtain ⟨k, hk, rfl, HI⟩ := hrel
    obtain ⟨p0, p1, p2, p3, p4⟩ := B5.cells ((HI.out.1.block _ (lt_of_heap H5.out) id).trans H5.out)
    obtain ⟨q0, q1, q2, q3⟩ := B4.cells ((HI.out.1.block _ (lt_of_heap H4.out) id).trans H4.out)
    by_cases hlt : k < L
    · obtain ⟨g, go, gc, u, uo, uc, hg, hu, hcall⟩ := HK.out k hlt
      have gw : Gr w wr := HG0.out.trans (HGv.out.trans HI.out.1 (fun _ _ h => h)) (fun _ _ h => h)
      have hgw := hg.kept (gw.block kb HB.out.1 id)
      have huw := hu.kept (gw.block b HB.out.2 id)
      have HC : Hid (wr.drew.cell? ⟨X, 4, none⟩ = some (.slice (some ⟨kb, ko, none⟩) L ca) ∧ wr.drew.cell? ⟨X + 1, 3, none⟩ = some (.slice (some ⟨b, o, none⟩) L vc) ∧ wr.drew.cell? ⟨kb, ko + k * 7, none⟩ = some (.string g.name) ∧ wr.drew.cell? ⟨kb, ko + k * 7 + 1, none⟩ = some (.bool g.nul) ∧ wr.drew.cell? ⟨kb, ko + k * 7 + 2, none⟩ = some (.int .i64 g.kind) ∧ wr.drew.cell? ⟨kb, ko + k * 7 + 3, none⟩ = some (.int .i64 g.width) ∧ wr.drew.cell? ⟨kb, ko + k * 7 + 4, none⟩ = some (.int .i64 g.id) ∧ wr.drew.cell? ⟨kb, ko + k * 7 + 5, none⟩ = some (.int .i64 g.index) ∧ wr.drew.cell? ⟨kb, ko + k * 7 + 6, none⟩ = some (.slice go g.kids.length gc) ∧ wr.drew.cell? ⟨b, o + k * 4, none⟩ = some (.bool u.nul) ∧ wr.drew.cell? ⟨b, o + k * 4 + 1, none⟩ = some (.int .i64 u.num) ∧ wr.drew.cell? ⟨b, o + k * 4 + 2, none⟩ = some (.string u.text) ∧ wr.drew.cell? ⟨b, o + k * 4 + 3, none⟩ = some (.slice uo u.list.length uc)) := ⟨p4, q3, hgw.c0, hgw.c1, hgw.c2, hgw.c3, hgw.c4, hgw.c5, hgw.c6, huw.c0, huw.c1, huw.c2, huw.c3⟩
      have H2 := hidM hcall
      have HGd : Hid (Gr w wr.drew) := gw.drew
      have HGk := hidM HI.out.1
      have HP := hidM HI.out.2
      have hltI : (k : Int) < (L : Int) := by omega
      clear HI hg hu hcall gw hgw huw
      obtain ⟨z, hz⟩ : ∃ z, z = p k := ⟨_, rfl⟩
      rw [← hz] at H2
      have HZ := hidM hz
      clear hz
      go_wp2
      clear p0 p1 p2 p3 p4 q0 q1 q2 q3
      cases z with
      | true =>
        go_region_held3 (fun w' => w'.cell? ⟨X, 4, none⟩ = some (.slice (some ⟨kb, ko, none⟩) L ca) ∧ w'.cell? ⟨X + 1, 3, none⟩ = some (.slice (some ⟨b, o, none⟩) L vc) ∧ w'.cell? ⟨kb, ko + k * 7, none⟩ = some (.string g.name) ∧ w'.cell? ⟨kb, ko + k * 7 + 1, none⟩ = some (.bool g.nul) ∧ w'.cell? ⟨kb, ko + k * 7 + 2, none⟩ = some (.int .i64 g.kind) ∧ w'.cell? ⟨kb, ko + k * 7 + 3, none⟩ = some (.int .i64 g.width) ∧ w'.cell? ⟨kb, ko + k * 7 + 4, none⟩ = some (.int .i64 g.id) ∧ w'.cell? ⟨kb, ko + k * 7 + 5, none⟩ = some (.int .i64 g.index) ∧ w'.cell? ⟨kb, ko + k * 7 + 6, none⟩ = some (.slice go g.kids.length gc) ∧ w'.cell? ⟨b, o + k * 4, none⟩ = some (.bool u.nul) ∧ w'.cell? ⟨b, o + k * 4 + 1, none⟩ = some (.int .i64 u.num) ∧ w'.cell? ⟨b, o + k * 4 + 2, none⟩ = some (.string u.text) ∧ w'.cell? ⟨b, o + k * 4 + 3, none⟩ = some (.slice uo u.list.length uc)) (first | with_reducible exact HC.out | with_reducible exact ⟨gr_c HE.out (HC.out.1), gr_c HE.out (HC.out.2.1), gr_c HE.out (HC.out.2.2.1), gr_c HE.out (HC.out.2.2.2.1), gr_c HE.out (HC.out.2.2.2.2.1), gr_c HE.out (HC.out.2.2.2.2.2.1), gr_c HE.out (HC.out.2.2.2.2.2.2.1), gr_c HE.out (HC.out.2.2.2.2.2.2.2.1), gr_c HE.out (HC.out.2.2.2.2.2.2.2.2.1), gr_c HE.out (HC.out.2.2.2.2.2.2.2.2.2.1), gr_c HE.out (HC.out.2.2.2.2.2.2.2.2.2.2.1), gr_c HE.out (HC.out.2.2.2.2.2.2.2.2.2.2.2.1), gr_c HE.out (HC.out.2.2.2.2.2.2.2.2.2.2.2.2)⟩) ((go_at_call 49; refine Calls.mono (H2.out _ HGd.out) ?_; rintro e w2 ⟨rfl, hg2⟩; have HE := hidM hg2; clear hg2))
        all_goals
          go_wp2_with fail
          go_roundw
          case rel =>
            refine ⟨k + 1, by omega, by simp, HGk.out.drew.trans HE.out (fun _ _ h => h), fun j h => ?_⟩
            by_cases e : j = k
            · subst e; exact HZ.out.symm
            · exact HP.out j (by omega)
          case measure => simp [intOf]; omega
      | false =>
        have HX := hidM (HF.out k hlt HZ.out.symm)
        go_region_held3 (fun w' => w'.cell? ⟨X, 4, none⟩ = some (.slice (some ⟨kb, ko, none⟩) L ca) ∧ w'.cell? ⟨X + 1, 3, none⟩ = some (.slice (some ⟨b, o, none⟩) L vc) ∧ w'.cell? ⟨kb, ko + k * 7, none⟩ = some (.string g.name) ∧ w'.cell? ⟨kb, ko + k * 7 + 1, none⟩ = some (.bool g.nul) ∧ w'.cell? ⟨kb, ko + k * 7 + 2, none⟩ = some (.int .i64 g.kind) ∧ w'.cell? ⟨kb, ko + k * 7 + 3, none⟩ = some (.int .i64 g.width) ∧ w'.cell? ⟨kb, ko + k * 7 + 4, none⟩ = some (.int .i64 g.id) ∧ w'.cell? ⟨kb, ko + k * 7 + 5, none⟩ = some (.int .i64 g.index) ∧ w'.cell? ⟨kb, ko + k * 7 + 6, none⟩ = some (.slice go g.kids.length gc) ∧ w'.cell? ⟨b, o + k * 4, none⟩ = some (.bool u.nul) ∧ w'.cell? ⟨b, o + k * 4 + 1, none⟩ = some (.int .i64 u.num) ∧ w'.cell? ⟨b, o + k * 4 + 2, none⟩ = some (.string u.text) ∧ w'.cell? ⟨b, o + k * 4 + 3, none⟩ = some (.slice uo u.list.length uc)) (first | with_reducible exact HC.out | with_reducible exact ⟨gr_c HE.out (HC.out.1), gr_c HE.out (HC.out.2.1), gr_c HE.out (HC.out.2.2.1), gr_c HE.out (HC.out.2.2.2.1), gr_c HE.out (HC.out.2.2.2.2.1), gr_c HE.out (HC.out.2.2.2.2.2.1), gr_c HE.out (HC.out.2.2.2.2.2.2.1), gr_c HE.out (HC.out.2.2.2.2.2.2.2.1), gr_c HE.out (HC.out.2.2.2.2.2.2.2.2.1), gr_c HE.out (HC.out.2.2.2.2.2.2.2.2.2.1), gr_c HE.out (HC.out.2.2.2.2.2.2.2.2.2.2.1), gr_c HE.out (HC.out.2.2.2.2.2.2.2.2.2.2.2.1), gr_c HE.out (HC.out.2.2.2.2.2.2.2.2.2.2.2.2)⟩) ((go_at_call 49; refine Calls.mono (H2.out _ HGd.out) ?_; rintro e w2 ⟨rfl, hg2⟩; have HE := hidM hg2; clear hg2))
        all_goals
          go_wp2_with fail
          go_ret
          exact ⟨by rw [HX.out]; rfl, (HGv.out.trans HGk.out (fun _ _ h => h)).drew.trans HE.out (fun _ _ h => h)⟩
    · have hkL : k = L := by omega
      have HX := hidM (HT.out (fun j h => HI.out.2 j (by omega)))
      have HGk := hidM HI.out.1
      clear HI
      subst hkL
      go_wp2
      go_ret
      exact ⟨by rw [HX.out]; rfl, HGv.out.trans HGk.out (fun _ _ h => h)⟩
end Go.Proofs.YtcfdkadhclickaaDoor.Kit
