import Derived.Test.YtcfdkadhclickaaDoorZF
import Derived.Test.YtcfdkadhclickaaDoorLF
namespace Go.Proofs.YtcfdkadhclickaaDoor.Kit
open Go.RowKit Go.Shelf Go.Deep
set_option linter.unusedVariables false
attribute [local go_sem] run_store_func

/-- the list of a value that is being made: its box and its row -/
structure ZI (V wr : World) (Y D : Nat) (l : List VT) (k : Nat) (ao : Option Addr) (ca : Nat) : Prop where
  len : l.length = k
  kp : Keeps V wr (fun z => z = Y)
  box : B4 wr Y false 0 ⟨#[]⟩ ao k ca
  row : ZRow wr (D + 1) V.heap.size wr.heap.size ao ca l
theorem ZI.owns {V wr : World} {Y D : Nat} {l : List VT} {k : Nat} {ao : Option Addr} {ca : Nat} (h : ZI V wr Y D l k ao ca) : ∃ xs, ∀ W', Gr wr W' → W'.ownsRow 0 29 4 (.slice ao k ca) k xs := by
  obtain ⟨xs, h1, h2⟩ := h.row.owns
  rw [h.len] at h1 h2
  exact ⟨xs, fun W' g => row_kp h1 fun b e => g.block b (h2 b e).2 id⟩
/-- behind append and the store: one more -/
theorem ZI.push {V wr wd w2 w3 : World} {Y D k : Nat} {l : List VT} {ao : Option Addr} {ca : Nat} {v : VT} {o : Option Addr} {c : Nat} {xs : List Value} {v' : Value} {ob : Obj} (h : ZI V wr Y D l k ao ca) (hY : Y < V.heap.size) (hwd : wd = wr.drew) (hg : Gr wd w2) (hz : ZRow w2 D wd.heap.size w2.heap.size o c v.list) (hok : VOk v) (hl : k + 1 ≤ 1000000000000)
    (hown0 : (w2.alloc ob).ownsRow 0 29 4 (.slice ao k ca) k xs)
    (hown : w3.ownsRow 0 29 4 v' (k + 1) (xs ++ [.bool v.nul, .int .i64 v.num, .string v.text, .slice o v.list.length c])) (hgr : (w2.alloc ob).grownBy w3 (Value.slice ao k ca).ownBlock)
    (hor : v'.ownBlock = (Value.slice ao k ca).ownBlock ∨ ∀ g, v'.ownBlock = some g → (w2.alloc ob).heap.size ≤ g) :
    ∃ ao' ca', v' = .slice ao' (k + 1) ca' ∧ B4 w3 Y false 0 ⟨#[]⟩ ao k ca ∧ Keeps V w3 (fun z => z = Y) ∧ ZI V (w3.setCell ⟨Y, 3, none⟩ (.slice ao' (k + 1) ca')) Y D (l ++ [v]) (k + 1) ao' ca' := by
  subst hwd
  obtain ⟨rfl, hkp, hbox, hrow⟩ := h
  have hs := hkp.size
  have gwr : Gr wr w2 := (Keeps.refl wr _).drew.trans hg (fun _ _ h => h)
  obtain ⟨ao', ca', rfl, hZ, hk⟩ := hrow.push hs (Nat.le_refl _) gwr hz hok hl (gr_alloc w2 ob) hown0 hown hgr hor
  obtain ⟨_, hob⟩ := hrow.owns
  have hYn : ¬ (Value.slice ao l.length ca).ownBlock = some Y := fun e => by have := hob.2 Y e; omega
  have hb3 : B4 w3 Y false 0 ⟨#[]⟩ ao l.length ca := (hk.block Y (lt_of_heap hbox) hYn).trans hbox
  have kV : Keeps V w3 (fun z => z = Y) := hkp.trans hk (fun j hj e => by have := hob.2 j e; omega)
  refine ⟨ao', ca', rfl, hb3, kV, ⟨by simp, kV.setCell (p := ⟨Y, 3, none⟩) (fun _ => rfl) _, ?_, ?_⟩⟩
  · show (w3.setCell ⟨Y, 3, none⟩ _).heap[Y]? = _
    have := heap_setCell_same w3 Y 3 _ _ (.slice ao' (l.length + 1) ca') hb3
    rw [this]
    simp
  · rw [show (w3.setCell ⟨Y, 3, none⟩ (.slice ao' (l.length + 1) ca')).heap.size = w3.heap.size by simp]
    exact hZ.kept fun b h1 h2 => heap_setCell_other w3 _ b _ (by show b ≠ Y; omega)
set_option maxRecDepth 100000 in
set_option maxHeartbeats 4000000 in
theorem zr16 (f0 : ByteArray) (f3 f4 f5 : Int) (n ca : Nat) (w : World) (DD : Nat) (kb ko : Nat) (k0 : ByteArray) (k1 : Bool) (k2 k3 k4 k5 : Int) (kp : Option Addr) (kn kc : Nat) (v : VT) (hok : VOk v) (hw : 1 ≤ f3 ∧ f3 ≤ 4096) (hn : 0 < n) (g0 : w.cell? ⟨kb, ko, none⟩ = some (.string k0)) (g1 : w.cell? ⟨kb, ko + 1, none⟩ = some (.bool k1)) (g2 : w.cell? ⟨kb, ko + 2, none⟩ = some (.int .i64 k2)) (g3 : w.cell? ⟨kb, ko + 3, none⟩ = some (.int .i64 k3)) (g4 : w.cell? ⟨kb, ko + 4, none⟩ = some (.int .i64 k4)) (g5 : w.cell? ⟨kb, ko + 5, none⟩ = some (.int .i64 k5)) (g6 : w.cell? ⟨kb, ko + 6, none⟩ = some (.slice kp kn kc)) (hF : ZeC 36 w (.agg #[.string k0, .bool k1, .int .i64 k2, .int .i64 k3, .int .i64 k4, .int .i64 k5, .slice kp kn kc]) DD v) :
    ZeC 36 w (.agg #[.string f0, .bool false, .int .i64 16, .int .i64 f3, .int .i64 f4, .int .i64 f5, .slice (some ⟨kb, ko, none⟩) n ca]) (DD + 1) (.mk false 0 ⟨#[]⟩ (List.replicate f3.toNat v)) := by
  obtain ⟨m, rfl⟩ : ∃ m : Nat, f3 = (m : Int) := ⟨f3.toNat, by omega⟩
  rw [show ((m : Int)).toNat = m by omega]
  have hm : m ≤ 4096 := by omega
  have HF := hidM hF
  have HOK := hidM hok
  have HKc := hidM (And.intro g0 (And.intro g1 (And.intro g2 (And.intro g3 (And.intro g4 (And.intro g5 g6))))))
  clear hw hok
  intro W g
  obtain ⟨V, hV⟩ : ∃ V, (((W.alloc (.cells #[.string f0, .bool false, .int .i64 16, .int .i64 (m : Int), .int .i64 f4, .int .i64 f5, .slice (some ⟨kb, ko, none⟩) n ca] 26)).alloc (.cells #[.bool false, .int .i64 0, .string ⟨#[]⟩, .slice none 0 0] 29)).alloc (.cells #[.bool false, .int .i64 0, .string ⟨#[]⟩, .slice none 0 0] 29)).alloc (.cells #[.int .i64 16, .int .i64 (m : Int), .int .i64 f4, .int .i64 f5, .slice (some ⟨kb, ko, none⟩) n ca] 24) = V := ⟨_, rfl⟩
  have hA := alloc4 W (.cells #[.string f0, .bool false, .int .i64 16, .int .i64 (m : Int), .int .i64 f4, .int .i64 f5, .slice (some ⟨kb, ko, none⟩) n ca] 26) (.cells #[.bool false, .int .i64 0, .string ⟨#[]⟩, .slice none 0 0] 29) (.cells #[.bool false, .int .i64 0, .string ⟨#[]⟩, .slice none 0 0] 29) (.cells #[.int .i64 16, .int .i64 (m : Int), .int .i64 f4, .int .i64 f5, .slice (some ⟨kb, ko, none⟩) n ca] 24)
  rw [hV] at hA
  obtain ⟨b7, bR, b3, b4', gV⟩ := hA
  have HbR : Hid (B4 V (W.heap.size + 1) false 0 ⟨#[]⟩ none 0 0) := bR
  have HbY : Hid (B4 V (W.heap.size + 1 + 1) false 0 ⟨#[]⟩ none 0 0) := b3
  have HbT : Hid (B5 V (W.heap.size + 1 + 1 + 1) 16 (m : Int) f4 f5 (some ⟨kb, ko, none⟩) n ca) := b4'
  have gg : Gr w V := g.trans gV (fun _ _ h => h)
  have hsz : V.heap.size = W.heap.size + 4 := by rw [← hV]; simp
  have HA4 : Hid (∀ o1 o2 o3 o4, Gr W ((((W.alloc o1).alloc o2).alloc o3).alloc o4)) := fun o1 o2 o3 o4 => (((gr_alloc W o1).alloc o2).alloc o3).alloc o4
  have g0 := fun o1 o2 o3 o4 => gr_c (g.trans (HA4.out o1 o2 o3 o4) (fun _ _ h => h)) g0
  have g1 := fun o1 o2 o3 o4 => gr_c (g.trans (HA4.out o1 o2 o3 o4) (fun _ _ h => h)) g1
  have g2 := fun o1 o2 o3 o4 => gr_c (g.trans (HA4.out o1 o2 o3 o4) (fun _ _ h => h)) g2
  have g3 := fun o1 o2 o3 o4 => gr_c (g.trans (HA4.out o1 o2 o3 o4) (fun _ _ h => h)) g3
  have g4 := fun o1 o2 o3 o4 => gr_c (g.trans (HA4.out o1 o2 o3 o4) (fun _ _ h => h)) g4
  have g5 := fun o1 o2 o3 o4 => gr_c (g.trans (HA4.out o1 o2 o3 o4) (fun _ _ h => h)) g5
  have g6 := fun o1 o2 o3 o4 => gr_c (g.trans (HA4.out o1 o2 o3 o4) (fun _ _ h => h)) g6
  have hn' : (0 : Int) < (n : Int) := by omega
  have HG := hidM gV
  have HWw := hidM g.size
  have HGg := hidM gg
  have Hs := hidM hsz
  have HV := hidM hV
  clear gV gg g hsz b7 bR b3 b4' hV hF
  go_enter Tryd.func36, Tryd.ntmps36
  go_wp2
  rw [HV.out]
  clear g0 g1 g2 g3 g4 g5 g6
  obtain ⟨X, hX⟩ : ∃ X, X = W.heap.size := ⟨_, rfl⟩
  rw [← hX] at HbR HbY HbT Hs ⊢
  have HX := hidM hX
  clear hX HV HA4
  have HS : Hid (∀ W', Keeps V W' (fun z => z = X + 1 + 1) → W'.cell? ⟨X + 1 + 1 + 1, 1, none⟩ = some (.int .i64 (m : Int)) ∧ W'.cell? ⟨X + 1 + 1 + 1, 4, none⟩ = some (.slice (some ⟨kb, ko, none⟩) n ca) ∧ W'.cell? ⟨kb, ko, none⟩ = some (.string k0) ∧ W'.cell? ⟨kb, ko + 1, none⟩ = some (.bool k1) ∧ W'.cell? ⟨kb, ko + 2, none⟩ = some (.int .i64 k2) ∧ W'.cell? ⟨kb, ko + 3, none⟩ = some (.int .i64 k3) ∧ W'.cell? ⟨kb, ko + 4, none⟩ = some (.int .i64 k4) ∧ W'.cell? ⟨kb, ko + 5, none⟩ = some (.int .i64 k5) ∧ W'.cell? ⟨kb, ko + 6, none⟩ = some (.slice kp kn kc)) := fun W' k => by
    have hkb : kb < W.heap.size := Nat.lt_of_lt_of_le (block_lt_of_cell HKc.out.1) (by have := HGg.out.size; have := HX.out; have := Hs.out; have h := HWw.out; omega)
    have hne : ¬ kb = X + 1 + 1 := by have := HX.out; omega
    obtain ⟨_, t1, _, _, t4⟩ := B5.cells ((k.block _ (lt_of_heap HbT.out) (by omega)).trans HbT.out)
    exact ⟨t1, t4, k.cell' (gr_c HGg.out HKc.out.1) hne, k.cell' (gr_c HGg.out HKc.out.2.1) hne, k.cell' (gr_c HGg.out HKc.out.2.2.1) hne, k.cell' (gr_c HGg.out HKc.out.2.2.2.1) hne, k.cell' (gr_c HGg.out HKc.out.2.2.2.2.1) hne, k.cell' (gr_c HGg.out HKc.out.2.2.2.2.2.1) hne, k.cell' (gr_c HGg.out HKc.out.2.2.2.2.2.2) hne⟩
  have HYV : Hid (X + 1 + 1 < V.heap.size) := by have := Hs.out; have := HX.out; show _ < _; omega
  go_loopw [24] (fun p wr => ∃ k : Nat, k ≤ m ∧ p = .int .i64 (k : Int) ∧ Hid (∃ lo' lc, ZI V wr (X + 1 + 1) DD (List.replicate k v) k lo' lc)) (fun p _ => m - (intOf p).toNat)
  case atStart => exact ⟨0, by omega, rfl, none, 0, rfl, Keeps.refl _ _, HbY.out, ZRow.nil _ _ _ _⟩
  case round =>
    obtain ⟨k, hk, rfl, HK⟩ := hrel
    obtain ⟨lo', lc, hI⟩ := HK.out
    have HI := hidM hI
    obtain ⟨t1, t4, g0, g1, g2, g3, g4, g5, g6⟩ := HS.out wr hI.kp
    by_cases hlt : k < m
    · have y3d : wr.drew.cell? ⟨X + 1 + 1, 3, none⟩ = some (.slice lo' k lc) := (B4.cells hI.box).2.2.2
      have HK0 : Hid (Keeps V wr.drew (fun z => z = X + 1 + 1)) := hI.kp.drew
      have HGr : Hid (Gr wr wr.drew) := (Keeps.refl wr _).drew
      have HGd : Hid (Gr w wr.drew) := ((HGg.out.mono fun _ _ h => h.elim).trans hI.kp (fun j hj e => by have := HX.out; have := HWw.out; omega)).drew
      obtain ⟨xs, hxs⟩ := hI.owns
      have HOW := hidM hxs
      have hb63 : k + 1 ≤ 9223372036854775807 := by omega
      have hb56 : (k + 1) * 56 ≤ 140737488355328 := by omega
      have hltI : (k : Int) < (m : Int) := by omega
      have hnext : List.replicate k v ++ [v] = List.replicate (k + 1) v := by rw [List.replicate_succ', ]
      have HNx := hidM hnext
      clear hI hxs HK hnext
      go_wp2
      clear t1 t4 g0 g1 g2 g3 g4 g5 g6
      refine wp_region_held_drew (S := fun w' => w'.cell? ⟨X + 1 + 1 + 1, 1, none⟩ = some (.int .i64 (m : Int)) ∧ w'.cell? ⟨X + 1 + 1 + 1, 4, none⟩ = some (.slice (some ⟨kb, ko, none⟩) n ca) ∧ w'.cell? ⟨kb, ko, none⟩ = some (.string k0) ∧ w'.cell? ⟨kb, ko + 1, none⟩ = some (.bool k1) ∧ w'.cell? ⟨kb, ko + 2, none⟩ = some (.int .i64 k2) ∧ w'.cell? ⟨kb, ko + 3, none⟩ = some (.int .i64 k3) ∧ w'.cell? ⟨kb, ko + 4, none⟩ = some (.int .i64 k4) ∧ w'.cell? ⟨kb, ko + 5, none⟩ = some (.int .i64 k5) ∧ w'.cell? ⟨kb, ko + 6, none⟩ = some (.slice kp kn kc)) (by kernel_rfl) (HS.out _ HK0.out) (fun hHeld => ?_)
      refine wpAnyH_take (i := 0) (oi := { dst := some 26, op := Go.Op.fieldAddr 29 (Go.Operand.tmp 3) 3, type := 0, pos := "zero.go:54", after := #[], guard := none }) (v := ?v0a1) rfl (by kernel_rfl) (by kernel_rfl) (by kernel_rfl) (fun _ _ _ h => h) (Or.inl ⟨by rfl, ?y0a1⟩) (by assumption) ?r0a1
      case y0a1 => (intro w hSw; obtain ⟨s1, s2, c0, c1, c2', c3, c4, c5, c6⟩ := hSw; go_simp; (try with_reducible rfl))
      (try simp only [Act.put]); (try simp only [List.setIfInBounds_toArray]); (try simp only [List.set_cons_succ]); (try simp only [List.set_cons_zero])
      refine wpAnyH_take (i := 2) (oi := { dst := some 28, op := Go.Op.fieldAddr 24 (Go.Operand.tmp 4) 4, type := 0, pos := "zero.go:54", after := #[], guard := none }) (v := ?v2a2) rfl (by kernel_rfl) (by kernel_rfl) (by kernel_rfl) (fun _ _ _ h => h) (Or.inl ⟨by rfl, ?y2a2⟩) (by assumption) ?r2a2
      case y2a2 => (intro w hSw; obtain ⟨s1, s2, c0, c1, c2', c3, c4, c5, c6⟩ := hSw; go_simp; (try with_reducible rfl))
      (try simp only [Act.put]); (try simp only [List.setIfInBounds_toArray]); (try simp only [List.set_cons_succ]); (try simp only [List.set_cons_zero])
      refine wpAnyH_take (i := 3) (oi := { dst := some 29, op := Go.Op.load 22 (Go.Operand.tmp 28), type := 22, pos := "zero.go:54", after := #[{ on := 2, ground := Go.Ground.data }], guard := none }) (v := ?v3a3) rfl (by kernel_rfl) (by kernel_rfl) (by kernel_rfl) (fun _ _ _ h => h) (Or.inl ⟨by rfl, ?y3a3⟩) (by assumption) ?r3a3
      case y3a3 => (intro w hSw; obtain ⟨s1, s2, c0, c1, c2', c3, c4, c5, c6⟩ := hSw; go_simp; (try with_reducible rfl))
      (try simp only [Act.put]); (try simp only [List.setIfInBounds_toArray]); (try simp only [List.set_cons_succ]); (try simp only [List.set_cons_zero])
      refine wpAnyH_take (i := 4) (oi := { dst := some 30, op := Go.Op.indexAddr 22 (Go.Operand.tmp 29) (Go.Operand.const (Go.Value.int Go.IntKind.i64 0)), type := 0, pos := "zero.go:54", after := #[{ on := 3, ground := Go.Ground.data }], guard := none }) (v := ?v4a4) rfl (by kernel_rfl) (by kernel_rfl) (by kernel_rfl) (fun _ _ _ h => h) (Or.inl ⟨by rfl, ?y4a4⟩) (by assumption) ?r4a4
      case y4a4 => (intro w hSw; obtain ⟨s1, s2, c0, c1, c2', c3, c4, c5, c6⟩ := hSw; go_simp; (try with_reducible rfl))
      (try simp only [Act.put]); (try simp only [List.setIfInBounds_toArray]); (try simp only [List.set_cons_succ]); (try simp only [List.set_cons_zero])
      refine wpAnyH_take (i := 5) (oi := { dst := some 31, op := Go.Op.load 26 (Go.Operand.tmp 30), type := 26, pos := "zero.go:54", after := #[{ on := 4, ground := Go.Ground.data }], guard := none }) (v := ?v5a5) rfl (by kernel_rfl) (by kernel_rfl) (by kernel_rfl) (fun _ _ _ h => h) (Or.inl ⟨by rfl, ?y5a5⟩) (by assumption) ?r5a5
      case y5a5 => (intro w hSw; obtain ⟨s1, s2, c0, c1, c2', c3, c4, c5, c6⟩ := hSw; go_simp; (try with_reducible rfl))
      (try simp only [Act.put]); (try simp only [List.setIfInBounds_toArray]); (try simp only [List.set_cons_succ]); (try simp only [List.set_cons_zero])
      refine wpAnyH_ready (rs := [1, 6]) (by kernel_rfl) (by simp) ?_
      refine AllReadyH.cons (o := { dst := some 27, op := Go.Op.load 27 (Go.Operand.tmp 26), type := 27, pos := "zero.go:54", after := #[{ on := 0, ground := Go.Ground.data }], guard := none }) rfl (fun Kc hK => ?_) (AllReadyH.cons (o := { dst := some 32, op := Go.Op.call { callee := Go.Callee.value (Go.Operand.func 36), args := #[Go.Operand.tmp 31], argTypes := #[26] }, type := 29, pos := "zero.go:54", after := #[{ on := 5, ground := Go.Ground.data }], guard := none }) rfl (fun Kc hK => ?_) AllReadyH.nil)
      · go_simp
        refine hK.out _ _ hHeld (fun hHeld => ?_)
        clear hK Kc
        (try simp only [Act.put]); (try simp only [List.setIfInBounds_toArray]); (try simp only [List.set_cons_succ]); (try simp only [List.set_cons_zero])
        refine wpAnyH_ready (rs := [6]) (by kernel_rfl) (by simp) ?_
        refine AllReadyH.cons (o := { dst := some 32, op := Go.Op.call { callee := Go.Callee.value (Go.Operand.func 36), args := #[Go.Operand.tmp 31], argTypes := #[26] }, type := 29, pos := "zero.go:54", after := #[{ on := 5, ground := Go.Ground.data }], guard := none }) rfl (fun Kc hK => ?_) AllReadyH.nil
        go_simp
        go_at_call 36
        refine Calls.mono (HF.out _ HGd.out) ?_
        rintro e' w2 ⟨o, c, rfl, hg2, hz2⟩
        have HE := hidM (And.intro hg2 hz2)
        have HK1 := hidM (HK0.out.trans hg2 (fun _ _ h => h.elim))
        have HG2 := hidM (HGr.out.trans hg2 (fun _ _ h => h))
        have y3b := gr_c hg2 y3d
        have y3a := fun ob => gr_c (gr_alloc w2 ob) y3b
        clear hg2 hz2
        go_wp2_with fail
        refine hK.out _ _ (HS.out _ HK1.out) (fun hHeld => ?_)
        clear hK Kc
        (try simp only [Act.put]); (try simp only [List.setIfInBounds_toArray]); (try simp only [List.set_cons_succ]); (try simp only [List.set_cons_zero])
        refine wpAnyH_ready (rs := [7]) (by kernel_rfl) (by simp) ?_
        refine AllReadyH.cons (o := { dst := some 33, op := Go.Op.buildSlice 27 1 #[(0, Go.Operand.tmp 32)], type := 27, pos := "zero.go:54", after := #[{ on := 6, ground := Go.Ground.data }], guard := none }) rfl (fun Kc hK => ?_) AllReadyH.nil
        go_simp
        refine hK.out _ _ (HS.out _ (HK1.out.alloc _)) (fun hHeld => ?_)
        clear hK Kc
        (try simp only [Act.put]); (try simp only [List.setIfInBounds_toArray]); (try simp only [List.set_cons_succ]); (try simp only [List.set_cons_zero])
        refine wpAnyH_ready (rs := [8]) (by kernel_rfl) (by simp) ?_
        refine AllReadyH.cons (o := { dst := some 34, op := Go.Op.call { callee := Go.Callee.builtin Go.Builtin.append, args := #[Go.Operand.tmp 27, Go.Operand.tmp 33], argTypes := #[27, 27] }, type := 27, pos := "zero.go:54", after := #[{ on := 1, ground := Go.Ground.data }, { on := 7, ground := Go.Ground.data }, { on := 6, ground := Go.Ground.chain }], guard := none }) rfl (fun Kc hK => ?_) AllReadyH.nil
        refine step_append_anyN _ rfl (.tmp 27) (.tmp 33) 27 27 rfl 29 _ 4 56 Tryd.underlying27 info29 rfl _ k xs rfl (HOW.out _ (HG2.out.alloc _)) _ 1 _ rfl (src_val w2 _ _ _ _ rfl rfl rfl rfl) hb63 hb56 ?_
        intro v' w3 hown' hgr' hor'
        obtain ⟨a2, c2, rfl, hb3, kV, hI4⟩ := HI.out.push HYV.out rfl HE.out.1 HE.out.2 HOK.out (by omega) (HOW.out _ (HG2.out.alloc _)) hown' hgr' hor'
        have HK3 := hidM kV
        have HI4 := hidM hI4
        have y3c := (B4.cells hb3).2.2.2
        have u3c := frz hb3 3
        clear hown' hgr' hor' hb3 kV hI4
        refine hK.out _ _ (HS.out _ HK3.out) (fun hHeld => ?_)
        clear hK Kc
        (try simp only [Act.put]); (try simp only [List.setIfInBounds_toArray]); (try simp only [List.set_cons_succ]); (try simp only [List.set_cons_zero])
        refine wpAnyH_take (i := 9) (oi := { dst := some 35, op := Go.Op.fieldAddr 29 (Go.Operand.tmp 3) 3, type := 0, pos := "zero.go:54", after := #[{ on := 0, ground := Go.Ground.phase }, { on := 1, ground := Go.Ground.phase }, { on := 2, ground := Go.Ground.phase }, { on := 3, ground := Go.Ground.phase }, { on := 4, ground := Go.Ground.phase }, { on := 5, ground := Go.Ground.phase }, { on := 6, ground := Go.Ground.phase }, { on := 7, ground := Go.Ground.phase }, { on := 8, ground := Go.Ground.phase }], guard := none }) (v := ?v9t11) rfl (by kernel_rfl) (by kernel_rfl) (by kernel_rfl) (fun _ _ _ h => h) (Or.inl ⟨by rfl, ?y9t11⟩) (by assumption) ?r9t11
        case y9t11 => (intro w hSw; obtain ⟨s1, s2, c0, c1, c2', c3, c4, c5, c6⟩ := hSw; go_simp; (try with_reducible rfl))
        (try simp only [Act.put]); (try simp only [List.setIfInBounds_toArray]); (try simp only [List.set_cons_succ]); (try simp only [List.set_cons_zero])
        refine wpAnyH_ready (rs := [10]) (by kernel_rfl) (by simp) ?_
        refine AllReadyH.cons (o := { dst := none, op := Go.Op.store 27 (Go.Operand.tmp 35) (Go.Operand.tmp 34), type := 0, pos := "zero.go:54", after := #[{ on := 9, ground := Go.Ground.data }, { on := 8, ground := Go.Ground.data }, { on := 8, ground := Go.Ground.chain }, { on := 0, ground := Go.Ground.phase }, { on := 1, ground := Go.Ground.phase }, { on := 2, ground := Go.Ground.phase }, { on := 3, ground := Go.Ground.phase }, { on := 4, ground := Go.Ground.phase }, { on := 5, ground := Go.Ground.phase }, { on := 6, ground := Go.Ground.phase }, { on := 7, ground := Go.Ground.phase }, { on := 8, ground := Go.Ground.phase }], guard := none }) rfl (fun Kc hK => ?_) AllReadyH.nil
        go_simp
        refine hK.out _ _ (HS.out _ (HK3.out.setCell (p := ⟨X + 1 + 1, 3, none⟩) (fun _ => rfl) _)) (fun hHeld => ?_)
        clear hK Kc
        (try simp only [Act.put]); (try simp only [List.setIfInBounds_toArray]); (try simp only [List.set_cons_succ]); (try simp only [List.set_cons_zero])
        refine wpAnyH_done (by kernel_rfl) ?_ _
        rw [HNx.out] at HI4
        go_wp2_with fail
        go_roundw
        case rel => exact ⟨k + 1, by omega, by simp, a2, c2, HI4.out⟩
        case measure => simp [intOf]; omega
      · go_simp
        go_at_call 36
        refine Calls.mono (HF.out _ HGd.out) ?_
        rintro e' w2 ⟨o, c, rfl, hg2, hz2⟩
        have HE := hidM (And.intro hg2 hz2)
        have HK1 := hidM (HK0.out.trans hg2 (fun _ _ h => h.elim))
        have HG2 := hidM (HGr.out.trans hg2 (fun _ _ h => h))
        have y3b := gr_c hg2 y3d
        have y3a := fun ob => gr_c (gr_alloc w2 ob) y3b
        clear hg2 hz2
        go_wp2_with fail
        refine hK.out _ _ (HS.out _ HK1.out) (fun hHeld => ?_)
        clear hK Kc
        (try simp only [Act.put]); (try simp only [List.setIfInBounds_toArray]); (try simp only [List.set_cons_succ]); (try simp only [List.set_cons_zero])
        refine wpAnyH_ready (rs := [1, 7]) (by kernel_rfl) (by simp) ?_
        refine AllReadyH.cons (o := { dst := some 27, op := Go.Op.load 27 (Go.Operand.tmp 26), type := 27, pos := "zero.go:54", after := #[{ on := 0, ground := Go.Ground.data }], guard := none }) rfl (fun Kc hK => ?_) (AllReadyH.cons (o := { dst := some 33, op := Go.Op.buildSlice 27 1 #[(0, Go.Operand.tmp 32)], type := 27, pos := "zero.go:54", after := #[{ on := 6, ground := Go.Ground.data }], guard := none }) rfl (fun Kc hK => ?_) AllReadyH.nil)
        · go_simp
          refine hK.out _ _ hHeld (fun hHeld => ?_)
          clear hK Kc
          (try simp only [Act.put]); (try simp only [List.setIfInBounds_toArray]); (try simp only [List.set_cons_succ]); (try simp only [List.set_cons_zero])
          refine wpAnyH_ready (rs := [7]) (by kernel_rfl) (by simp) ?_
          refine AllReadyH.cons (o := { dst := some 33, op := Go.Op.buildSlice 27 1 #[(0, Go.Operand.tmp 32)], type := 27, pos := "zero.go:54", after := #[{ on := 6, ground := Go.Ground.data }], guard := none }) rfl (fun Kc hK => ?_) AllReadyH.nil
          go_simp
          refine hK.out _ _ (HS.out _ (HK1.out.alloc _)) (fun hHeld => ?_)
          clear hK Kc
          (try simp only [Act.put]); (try simp only [List.setIfInBounds_toArray]); (try simp only [List.set_cons_succ]); (try simp only [List.set_cons_zero])
          refine wpAnyH_ready (rs := [8]) (by kernel_rfl) (by simp) ?_
          refine AllReadyH.cons (o := { dst := some 34, op := Go.Op.call { callee := Go.Callee.builtin Go.Builtin.append, args := #[Go.Operand.tmp 27, Go.Operand.tmp 33], argTypes := #[27, 27] }, type := 27, pos := "zero.go:54", after := #[{ on := 1, ground := Go.Ground.data }, { on := 7, ground := Go.Ground.data }, { on := 6, ground := Go.Ground.chain }], guard := none }) rfl (fun Kc hK => ?_) AllReadyH.nil
          refine step_append_anyN _ rfl (.tmp 27) (.tmp 33) 27 27 rfl 29 _ 4 56 Tryd.underlying27 info29 rfl _ k xs rfl (HOW.out _ (HG2.out.alloc _)) _ 1 _ rfl (src_val w2 _ _ _ _ rfl rfl rfl rfl) hb63 hb56 ?_
          intro v' w3 hown' hgr' hor'
          obtain ⟨a2, c2, rfl, hb3, kV, hI4⟩ := HI.out.push HYV.out rfl HE.out.1 HE.out.2 HOK.out (by omega) (HOW.out _ (HG2.out.alloc _)) hown' hgr' hor'
          have HK3 := hidM kV
          have HI4 := hidM hI4
          have y3c := (B4.cells hb3).2.2.2
          have u3c := frz hb3 3
          clear hown' hgr' hor' hb3 kV hI4
          refine hK.out _ _ (HS.out _ HK3.out) (fun hHeld => ?_)
          clear hK Kc
          (try simp only [Act.put]); (try simp only [List.setIfInBounds_toArray]); (try simp only [List.set_cons_succ]); (try simp only [List.set_cons_zero])
          refine wpAnyH_take (i := 9) (oi := { dst := some 35, op := Go.Op.fieldAddr 29 (Go.Operand.tmp 3) 3, type := 0, pos := "zero.go:54", after := #[{ on := 0, ground := Go.Ground.phase }, { on := 1, ground := Go.Ground.phase }, { on := 2, ground := Go.Ground.phase }, { on := 3, ground := Go.Ground.phase }, { on := 4, ground := Go.Ground.phase }, { on := 5, ground := Go.Ground.phase }, { on := 6, ground := Go.Ground.phase }, { on := 7, ground := Go.Ground.phase }, { on := 8, ground := Go.Ground.phase }], guard := none }) (v := ?v9t21) rfl (by kernel_rfl) (by kernel_rfl) (by kernel_rfl) (fun _ _ _ h => h) (Or.inl ⟨by rfl, ?y9t21⟩) (by assumption) ?r9t21
          case y9t21 => (intro w hSw; obtain ⟨s1, s2, c0, c1, c2', c3, c4, c5, c6⟩ := hSw; go_simp; (try with_reducible rfl))
          (try simp only [Act.put]); (try simp only [List.setIfInBounds_toArray]); (try simp only [List.set_cons_succ]); (try simp only [List.set_cons_zero])
          refine wpAnyH_ready (rs := [10]) (by kernel_rfl) (by simp) ?_
          refine AllReadyH.cons (o := { dst := none, op := Go.Op.store 27 (Go.Operand.tmp 35) (Go.Operand.tmp 34), type := 0, pos := "zero.go:54", after := #[{ on := 9, ground := Go.Ground.data }, { on := 8, ground := Go.Ground.data }, { on := 8, ground := Go.Ground.chain }, { on := 0, ground := Go.Ground.phase }, { on := 1, ground := Go.Ground.phase }, { on := 2, ground := Go.Ground.phase }, { on := 3, ground := Go.Ground.phase }, { on := 4, ground := Go.Ground.phase }, { on := 5, ground := Go.Ground.phase }, { on := 6, ground := Go.Ground.phase }, { on := 7, ground := Go.Ground.phase }, { on := 8, ground := Go.Ground.phase }], guard := none }) rfl (fun Kc hK => ?_) AllReadyH.nil
          go_simp
          refine hK.out _ _ (HS.out _ (HK3.out.setCell (p := ⟨X + 1 + 1, 3, none⟩) (fun _ => rfl) _)) (fun hHeld => ?_)
          clear hK Kc
          (try simp only [Act.put]); (try simp only [List.setIfInBounds_toArray]); (try simp only [List.set_cons_succ]); (try simp only [List.set_cons_zero])
          refine wpAnyH_done (by kernel_rfl) ?_ _
          rw [HNx.out] at HI4
          go_wp2_with fail
          go_roundw
          case rel => exact ⟨k + 1, by omega, by simp, a2, c2, HI4.out⟩
          case measure => simp [intOf]; omega
        · go_simp
          refine hK.out _ _ (HS.out _ (HK1.out.alloc _)) (fun hHeld => ?_)
          clear hK Kc
          (try simp only [Act.put]); (try simp only [List.setIfInBounds_toArray]); (try simp only [List.set_cons_succ]); (try simp only [List.set_cons_zero])
          refine wpAnyH_ready (rs := [1]) (by kernel_rfl) (by simp) ?_
          refine AllReadyH.cons (o := { dst := some 27, op := Go.Op.load 27 (Go.Operand.tmp 26), type := 27, pos := "zero.go:54", after := #[{ on := 0, ground := Go.Ground.data }], guard := none }) rfl (fun Kc hK => ?_) AllReadyH.nil
          go_simp
          refine hK.out _ _ hHeld (fun hHeld => ?_)
          clear hK Kc
          (try simp only [Act.put]); (try simp only [List.setIfInBounds_toArray]); (try simp only [List.set_cons_succ]); (try simp only [List.set_cons_zero])
          refine wpAnyH_ready (rs := [8]) (by kernel_rfl) (by simp) ?_
          refine AllReadyH.cons (o := { dst := some 34, op := Go.Op.call { callee := Go.Callee.builtin Go.Builtin.append, args := #[Go.Operand.tmp 27, Go.Operand.tmp 33], argTypes := #[27, 27] }, type := 27, pos := "zero.go:54", after := #[{ on := 1, ground := Go.Ground.data }, { on := 7, ground := Go.Ground.data }, { on := 6, ground := Go.Ground.chain }], guard := none }) rfl (fun Kc hK => ?_) AllReadyH.nil
          refine step_append_anyN _ rfl (.tmp 27) (.tmp 33) 27 27 rfl 29 _ 4 56 Tryd.underlying27 info29 rfl _ k xs rfl (HOW.out _ (HG2.out.alloc _)) _ 1 _ rfl (src_val w2 _ _ _ _ rfl rfl rfl rfl) hb63 hb56 ?_
          intro v' w3 hown' hgr' hor'
          obtain ⟨a2, c2, rfl, hb3, kV, hI4⟩ := HI.out.push HYV.out rfl HE.out.1 HE.out.2 HOK.out (by omega) (HOW.out _ (HG2.out.alloc _)) hown' hgr' hor'
          have HK3 := hidM kV
          have HI4 := hidM hI4
          have y3c := (B4.cells hb3).2.2.2
          have u3c := frz hb3 3
          clear hown' hgr' hor' hb3 kV hI4
          refine hK.out _ _ (HS.out _ HK3.out) (fun hHeld => ?_)
          clear hK Kc
          (try simp only [Act.put]); (try simp only [List.setIfInBounds_toArray]); (try simp only [List.set_cons_succ]); (try simp only [List.set_cons_zero])
          refine wpAnyH_take (i := 9) (oi := { dst := some 35, op := Go.Op.fieldAddr 29 (Go.Operand.tmp 3) 3, type := 0, pos := "zero.go:54", after := #[{ on := 0, ground := Go.Ground.phase }, { on := 1, ground := Go.Ground.phase }, { on := 2, ground := Go.Ground.phase }, { on := 3, ground := Go.Ground.phase }, { on := 4, ground := Go.Ground.phase }, { on := 5, ground := Go.Ground.phase }, { on := 6, ground := Go.Ground.phase }, { on := 7, ground := Go.Ground.phase }, { on := 8, ground := Go.Ground.phase }], guard := none }) (v := ?v9t31) rfl (by kernel_rfl) (by kernel_rfl) (by kernel_rfl) (fun _ _ _ h => h) (Or.inl ⟨by rfl, ?y9t31⟩) (by assumption) ?r9t31
          case y9t31 => (intro w hSw; obtain ⟨s1, s2, c0, c1, c2', c3, c4, c5, c6⟩ := hSw; go_simp; (try with_reducible rfl))
          (try simp only [Act.put]); (try simp only [List.setIfInBounds_toArray]); (try simp only [List.set_cons_succ]); (try simp only [List.set_cons_zero])
          refine wpAnyH_ready (rs := [10]) (by kernel_rfl) (by simp) ?_
          refine AllReadyH.cons (o := { dst := none, op := Go.Op.store 27 (Go.Operand.tmp 35) (Go.Operand.tmp 34), type := 0, pos := "zero.go:54", after := #[{ on := 9, ground := Go.Ground.data }, { on := 8, ground := Go.Ground.data }, { on := 8, ground := Go.Ground.chain }, { on := 0, ground := Go.Ground.phase }, { on := 1, ground := Go.Ground.phase }, { on := 2, ground := Go.Ground.phase }, { on := 3, ground := Go.Ground.phase }, { on := 4, ground := Go.Ground.phase }, { on := 5, ground := Go.Ground.phase }, { on := 6, ground := Go.Ground.phase }, { on := 7, ground := Go.Ground.phase }, { on := 8, ground := Go.Ground.phase }], guard := none }) rfl (fun Kc hK => ?_) AllReadyH.nil
          go_simp
          refine hK.out _ _ (HS.out _ (HK3.out.setCell (p := ⟨X + 1 + 1, 3, none⟩) (fun _ => rfl) _)) (fun hHeld => ?_)
          clear hK Kc
          (try simp only [Act.put]); (try simp only [List.setIfInBounds_toArray]); (try simp only [List.set_cons_succ]); (try simp only [List.set_cons_zero])
          refine wpAnyH_done (by kernel_rfl) ?_ _
          rw [HNx.out] at HI4
          go_wp2_with fail
          go_roundw
          case rel => exact ⟨k + 1, by omega, by simp, a2, c2, HI4.out⟩
          case measure => simp [intOf]; omega
    · have hkm : k = m := by omega
      subst hkm
      clear HK hI
      have hbY := HI.out.box
      have bR2 : B4 wr (X + 1) false 0 ⟨#[]⟩ none 0 0 := (HI.out.kp.block _ (lt_of_heap HbR.out) (by omega)).trans HbR.out
      obtain ⟨r0, r1, r2, r3⟩ := B4.cells bR2
      have z0 := frz bR2 0
      have z1 := frz bR2 1
      have z2 := frz bR2 2
      have z3 := frz bR2 3
      obtain ⟨y0, y1, y2, y3⟩ := B4.cells hbY
      have HbR2 := hidM bR2
      clear bR2 hbY
      go_wp2_with fail
      have hb3 := put4_box (.bool false) (.int .i64 0) (.string ⟨#[]⟩) (.slice lo' k lc) HbR2.out
      have k3 := put4_keeps wr (X + 1) (.bool false) (.int .i64 0) (.string ⟨#[]⟩) (.slice lo' k lc)
      have hsz := k3.size
      have hs := Hs.out
      have hxx := HX.out
      (try simp only [Exit.inBlock, Exit.then])
      refine bodyPost_ret (results_cell_row rfl _ _ _ _ _ _ _ rfl hb3 Tryd.underlying29 rfl (by kernel_rfl)) rfl ⟨lo', lc, by simp [VT.nul, VT.num, VT.text, VT.list], ?_, ?_⟩
      · exact ((HG.out.mono fun _ _ h => h.elim).trans HI.out.kp (fun j hj e => by omega)).trans k3 (fun j hj e => by omega)
      · have hkk := HI.out.kp.size
        show ZRow _ _ _ _ _ _ (List.replicate k v)
        exact (HI.out.row.kept fun b h1 h2 => k3.block b h2 (by omega)).wide (by omega) hsz
set_option maxRecDepth 100000 in
set_option maxHeartbeats 4000000 in
theorem dz16 (f0 : ByteArray) (f3 f4 f5 : Int) (n ca : Nat) (w : World) (DD : Nat) (kb ko : Nat) (k0 : ByteArray) (k1 : Bool) (k2 k3 k4 k5 : Int) (kp : Option Addr) (kn kc : Nat) (v : VT) (hok : VOk v) (hw : 1 ≤ f3 ∧ f3 ≤ 4096) (hn : 0 < n) (g0 : w.cell? ⟨kb, ko, none⟩ = some (.string k0)) (g1 : w.cell? ⟨kb, ko + 1, none⟩ = some (.bool k1)) (g2 : w.cell? ⟨kb, ko + 2, none⟩ = some (.int .i64 k2)) (g3 : w.cell? ⟨kb, ko + 3, none⟩ = some (.int .i64 k3)) (g4 : w.cell? ⟨kb, ko + 4, none⟩ = some (.int .i64 k4)) (g5 : w.cell? ⟨kb, ko + 5, none⟩ = some (.int .i64 k5)) (g6 : w.cell? ⟨kb, ko + 6, none⟩ = some (.slice kp kn kc)) (hF : ZeC 34 w (.agg #[.string k0, .bool k1, .int .i64 k2, .int .i64 k3, .int .i64 k4, .int .i64 k5, .slice kp kn kc]) DD v) :
    ZeC 34 w (.agg #[.string f0, .bool false, .int .i64 16, .int .i64 f3, .int .i64 f4, .int .i64 f5, .slice (some ⟨kb, ko, none⟩) n ca]) (DD + 1) (.mk false 0 ⟨#[]⟩ (List.replicate f3.toNat v)) := by
  obtain ⟨m, rfl⟩ : ∃ m : Nat, f3 = (m : Int) := ⟨f3.toNat, by omega⟩
  rw [show ((m : Int)).toNat = m by omega]
  have hm : m ≤ 4096 := by omega
  have HF := hidM hF
  have HOK := hidM hok
  have HKc := hidM (And.intro g0 (And.intro g1 (And.intro g2 (And.intro g3 (And.intro g4 (And.intro g5 g6))))))
  clear hw hok
  intro W g
  obtain ⟨V, hV⟩ : ∃ V, (((W.alloc (.cells #[.string f0, .bool false, .int .i64 16, .int .i64 (m : Int), .int .i64 f4, .int .i64 f5, .slice (some ⟨kb, ko, none⟩) n ca] 26)).alloc (.cells #[.bool false, .int .i64 0, .string ⟨#[]⟩, .slice none 0 0] 29)).alloc (.cells #[.int .i64 16, .int .i64 (m : Int), .int .i64 f4, .int .i64 f5, .slice (some ⟨kb, ko, none⟩) n ca] 24)).alloc (.cells #[.bool false, .int .i64 0, .string ⟨#[]⟩, .slice none 0 0] 29) = V := ⟨_, rfl⟩
  have hA := alloc4 W (.cells #[.string f0, .bool false, .int .i64 16, .int .i64 (m : Int), .int .i64 f4, .int .i64 f5, .slice (some ⟨kb, ko, none⟩) n ca] 26) (.cells #[.bool false, .int .i64 0, .string ⟨#[]⟩, .slice none 0 0] 29) (.cells #[.int .i64 16, .int .i64 (m : Int), .int .i64 f4, .int .i64 f5, .slice (some ⟨kb, ko, none⟩) n ca] 24) (.cells #[.bool false, .int .i64 0, .string ⟨#[]⟩, .slice none 0 0] 29)
  rw [hV] at hA
  obtain ⟨b7, bR, b3, b4', gV⟩ := hA
  have HbR : Hid (B4 V (W.heap.size + 1) false 0 ⟨#[]⟩ none 0 0) := bR
  have HbY : Hid (B4 V (W.heap.size + 1 + 1 + 1) false 0 ⟨#[]⟩ none 0 0) := b4'
  have HbT : Hid (B5 V (W.heap.size + 1 + 1) 16 (m : Int) f4 f5 (some ⟨kb, ko, none⟩) n ca) := b3
  have gg : Gr w V := g.trans gV (fun _ _ h => h)
  have hsz : V.heap.size = W.heap.size + 4 := by rw [← hV]; simp
  have HA4 : Hid (∀ o1 o2 o3 o4, Gr W ((((W.alloc o1).alloc o2).alloc o3).alloc o4)) := fun o1 o2 o3 o4 => (((gr_alloc W o1).alloc o2).alloc o3).alloc o4
  have g0 := fun o1 o2 o3 o4 => gr_c (g.trans (HA4.out o1 o2 o3 o4) (fun _ _ h => h)) g0
  have g1 := fun o1 o2 o3 o4 => gr_c (g.trans (HA4.out o1 o2 o3 o4) (fun _ _ h => h)) g1
  have g2 := fun o1 o2 o3 o4 => gr_c (g.trans (HA4.out o1 o2 o3 o4) (fun _ _ h => h)) g2
  have g3 := fun o1 o2 o3 o4 => gr_c (g.trans (HA4.out o1 o2 o3 o4) (fun _ _ h => h)) g3
  have g4 := fun o1 o2 o3 o4 => gr_c (g.trans (HA4.out o1 o2 o3 o4) (fun _ _ h => h)) g4
  have g5 := fun o1 o2 o3 o4 => gr_c (g.trans (HA4.out o1 o2 o3 o4) (fun _ _ h => h)) g5
  have g6 := fun o1 o2 o3 o4 => gr_c (g.trans (HA4.out o1 o2 o3 o4) (fun _ _ h => h)) g6
  have hn' : (0 : Int) < (n : Int) := by omega
  have HG := hidM gV
  have HWw := hidM g.size
  have HGg := hidM gg
  have Hs := hidM hsz
  have HV := hidM hV
  clear gV gg g hsz b7 bR b3 b4' hV hF
  go_enter Tryd.func34, Tryd.ntmps34
  go_wp2
  rw [HV.out]
  clear g0 g1 g2 g3 g4 g5 g6
  obtain ⟨X, hX⟩ : ∃ X, X = W.heap.size := ⟨_, rfl⟩
  rw [← hX] at HbR HbY HbT Hs ⊢
  have HX := hidM hX
  clear hX HV HA4
  have HS : Hid (∀ W', Keeps V W' (fun z => z = X + 1 + 1 + 1) → W'.cell? ⟨X + 1 + 1, 1, none⟩ = some (.int .i64 (m : Int)) ∧ W'.cell? ⟨X + 1 + 1, 4, none⟩ = some (.slice (some ⟨kb, ko, none⟩) n ca) ∧ W'.cell? ⟨kb, ko, none⟩ = some (.string k0) ∧ W'.cell? ⟨kb, ko + 1, none⟩ = some (.bool k1) ∧ W'.cell? ⟨kb, ko + 2, none⟩ = some (.int .i64 k2) ∧ W'.cell? ⟨kb, ko + 3, none⟩ = some (.int .i64 k3) ∧ W'.cell? ⟨kb, ko + 4, none⟩ = some (.int .i64 k4) ∧ W'.cell? ⟨kb, ko + 5, none⟩ = some (.int .i64 k5) ∧ W'.cell? ⟨kb, ko + 6, none⟩ = some (.slice kp kn kc)) := fun W' k => by
    have hkb : kb < W.heap.size := Nat.lt_of_lt_of_le (block_lt_of_cell HKc.out.1) (by have := HGg.out.size; have := HX.out; have := Hs.out; have h := HWw.out; omega)
    have hne : ¬ kb = X + 1 + 1 + 1 := by have := HX.out; omega
    obtain ⟨_, t1, _, _, t4⟩ := B5.cells ((k.block _ (lt_of_heap HbT.out) (by omega)).trans HbT.out)
    exact ⟨t1, t4, k.cell' (gr_c HGg.out HKc.out.1) hne, k.cell' (gr_c HGg.out HKc.out.2.1) hne, k.cell' (gr_c HGg.out HKc.out.2.2.1) hne, k.cell' (gr_c HGg.out HKc.out.2.2.2.1) hne, k.cell' (gr_c HGg.out HKc.out.2.2.2.2.1) hne, k.cell' (gr_c HGg.out HKc.out.2.2.2.2.2.1) hne, k.cell' (gr_c HGg.out HKc.out.2.2.2.2.2.2) hne⟩
  have HYV : Hid (X + 1 + 1 + 1 < V.heap.size) := by have := Hs.out; have := HX.out; show _ < _; omega
  go_loopw [5] (fun p wr => ∃ k : Nat, k ≤ m ∧ p = .int .i64 (k : Int) ∧ Hid (∃ lo' lc, ZI V wr (X + 1 + 1 + 1) DD (List.replicate k v) k lo' lc)) (fun p _ => m - (intOf p).toNat)
  case atStart => exact ⟨0, by omega, rfl, none, 0, rfl, Keeps.refl _ _, HbY.out, ZRow.nil _ _ _ _⟩
  case round =>
    obtain ⟨k, hk, rfl, HK⟩ := hrel
    obtain ⟨lo', lc, hI⟩ := HK.out
    have HI := hidM hI
    obtain ⟨t1, t4, g0, g1, g2, g3, g4, g5, g6⟩ := HS.out wr hI.kp
    by_cases hlt : k < m
    · have y3d : wr.drew.cell? ⟨X + 1 + 1 + 1, 3, none⟩ = some (.slice lo' k lc) := (B4.cells hI.box).2.2.2
      have HK0 : Hid (Keeps V wr.drew (fun z => z = X + 1 + 1 + 1)) := hI.kp.drew
      have HGr : Hid (Gr wr wr.drew) := (Keeps.refl wr _).drew
      have HGd : Hid (Gr w wr.drew) := ((HGg.out.mono fun _ _ h => h.elim).trans hI.kp (fun j hj e => by have := HX.out; have := HWw.out; omega)).drew
      obtain ⟨xs, hxs⟩ := hI.owns
      have HOW := hidM hxs
      have hb63 : k + 1 ≤ 9223372036854775807 := by omega
      have hb56 : (k + 1) * 56 ≤ 140737488355328 := by omega
      have hltI : (k : Int) < (m : Int) := by omega
      have hnext : List.replicate k v ++ [v] = List.replicate (k + 1) v := by rw [List.replicate_succ', ]
      have HNx := hidM hnext
      clear hI hxs HK hnext
      go_wp2
      clear t1 t4 g0 g1 g2 g3 g4 g5 g6
      refine wp_region_held_drew (S := fun w' => w'.cell? ⟨X + 1 + 1, 1, none⟩ = some (.int .i64 (m : Int)) ∧ w'.cell? ⟨X + 1 + 1, 4, none⟩ = some (.slice (some ⟨kb, ko, none⟩) n ca) ∧ w'.cell? ⟨kb, ko, none⟩ = some (.string k0) ∧ w'.cell? ⟨kb, ko + 1, none⟩ = some (.bool k1) ∧ w'.cell? ⟨kb, ko + 2, none⟩ = some (.int .i64 k2) ∧ w'.cell? ⟨kb, ko + 3, none⟩ = some (.int .i64 k3) ∧ w'.cell? ⟨kb, ko + 4, none⟩ = some (.int .i64 k4) ∧ w'.cell? ⟨kb, ko + 5, none⟩ = some (.int .i64 k5) ∧ w'.cell? ⟨kb, ko + 6, none⟩ = some (.slice kp kn kc)) (by kernel_rfl) (HS.out _ HK0.out) (fun hHeld => ?_)
      refine wpAnyH_take (i := 0) (oi := { dst := some 55, op := Go.Op.fieldAddr 29 (Go.Operand.tmp 4) 3, type := 0, pos := "ref.go:246", after := #[], guard := none }) (v := ?v0a1) rfl (by kernel_rfl) (by kernel_rfl) (by kernel_rfl) (fun _ _ _ h => h) (Or.inl ⟨by rfl, ?y0a1⟩) (by assumption) ?r0a1
      case y0a1 => (intro w hSw; obtain ⟨s1, s2, c0, c1, c2', c3, c4, c5, c6⟩ := hSw; go_simp; (try with_reducible rfl))
      (try simp only [Act.put]); (try simp only [List.setIfInBounds_toArray]); (try simp only [List.set_cons_succ]); (try simp only [List.set_cons_zero])
      refine wpAnyH_take (i := 2) (oi := { dst := some 57, op := Go.Op.fieldAddr 24 (Go.Operand.tmp 3) 4, type := 0, pos := "ref.go:246", after := #[], guard := none }) (v := ?v2a2) rfl (by kernel_rfl) (by kernel_rfl) (by kernel_rfl) (fun _ _ _ h => h) (Or.inl ⟨by rfl, ?y2a2⟩) (by assumption) ?r2a2
      case y2a2 => (intro w hSw; obtain ⟨s1, s2, c0, c1, c2', c3, c4, c5, c6⟩ := hSw; go_simp; (try with_reducible rfl))
      (try simp only [Act.put]); (try simp only [List.setIfInBounds_toArray]); (try simp only [List.set_cons_succ]); (try simp only [List.set_cons_zero])
      refine wpAnyH_take (i := 3) (oi := { dst := some 58, op := Go.Op.load 22 (Go.Operand.tmp 57), type := 22, pos := "ref.go:246", after := #[{ on := 2, ground := Go.Ground.data }], guard := none }) (v := ?v3a3) rfl (by kernel_rfl) (by kernel_rfl) (by kernel_rfl) (fun _ _ _ h => h) (Or.inl ⟨by rfl, ?y3a3⟩) (by assumption) ?r3a3
      case y3a3 => (intro w hSw; obtain ⟨s1, s2, c0, c1, c2', c3, c4, c5, c6⟩ := hSw; go_simp; (try with_reducible rfl))
      (try simp only [Act.put]); (try simp only [List.setIfInBounds_toArray]); (try simp only [List.set_cons_succ]); (try simp only [List.set_cons_zero])
      refine wpAnyH_take (i := 4) (oi := { dst := some 59, op := Go.Op.indexAddr 22 (Go.Operand.tmp 58) (Go.Operand.const (Go.Value.int Go.IntKind.i64 0)), type := 0, pos := "ref.go:246", after := #[{ on := 3, ground := Go.Ground.data }], guard := none }) (v := ?v4a4) rfl (by kernel_rfl) (by kernel_rfl) (by kernel_rfl) (fun _ _ _ h => h) (Or.inl ⟨by rfl, ?y4a4⟩) (by assumption) ?r4a4
      case y4a4 => (intro w hSw; obtain ⟨s1, s2, c0, c1, c2', c3, c4, c5, c6⟩ := hSw; go_simp; (try with_reducible rfl))
      (try simp only [Act.put]); (try simp only [List.setIfInBounds_toArray]); (try simp only [List.set_cons_succ]); (try simp only [List.set_cons_zero])
      refine wpAnyH_take (i := 5) (oi := { dst := some 60, op := Go.Op.load 26 (Go.Operand.tmp 59), type := 26, pos := "ref.go:246", after := #[{ on := 4, ground := Go.Ground.data }], guard := none }) (v := ?v5a5) rfl (by kernel_rfl) (by kernel_rfl) (by kernel_rfl) (fun _ _ _ h => h) (Or.inl ⟨by rfl, ?y5a5⟩) (by assumption) ?r5a5
      case y5a5 => (intro w hSw; obtain ⟨s1, s2, c0, c1, c2', c3, c4, c5, c6⟩ := hSw; go_simp; (try with_reducible rfl))
      (try simp only [Act.put]); (try simp only [List.setIfInBounds_toArray]); (try simp only [List.set_cons_succ]); (try simp only [List.set_cons_zero])
      refine wpAnyH_ready (rs := [1, 6]) (by kernel_rfl) (by simp) ?_
      refine AllReadyH.cons (o := { dst := some 56, op := Go.Op.load 27 (Go.Operand.tmp 55), type := 27, pos := "ref.go:246", after := #[{ on := 0, ground := Go.Ground.data }], guard := none }) rfl (fun Kc hK => ?_) (AllReadyH.cons (o := { dst := some 61, op := Go.Op.call { callee := Go.Callee.value (Go.Operand.func 34), args := #[Go.Operand.tmp 60], argTypes := #[26] }, type := 29, pos := "ref.go:246", after := #[{ on := 5, ground := Go.Ground.data }], guard := none }) rfl (fun Kc hK => ?_) AllReadyH.nil)
      · go_simp
        refine hK.out _ _ hHeld (fun hHeld => ?_)
        clear hK Kc
        (try simp only [Act.put]); (try simp only [List.setIfInBounds_toArray]); (try simp only [List.set_cons_succ]); (try simp only [List.set_cons_zero])
        refine wpAnyH_ready (rs := [6]) (by kernel_rfl) (by simp) ?_
        refine AllReadyH.cons (o := { dst := some 61, op := Go.Op.call { callee := Go.Callee.value (Go.Operand.func 34), args := #[Go.Operand.tmp 60], argTypes := #[26] }, type := 29, pos := "ref.go:246", after := #[{ on := 5, ground := Go.Ground.data }], guard := none }) rfl (fun Kc hK => ?_) AllReadyH.nil
        go_simp
        go_at_call 34
        refine Calls.mono (HF.out _ HGd.out) ?_
        rintro e' w2 ⟨o, c, rfl, hg2, hz2⟩
        have HE := hidM (And.intro hg2 hz2)
        have HK1 := hidM (HK0.out.trans hg2 (fun _ _ h => h.elim))
        have HG2 := hidM (HGr.out.trans hg2 (fun _ _ h => h))
        have y3b := gr_c hg2 y3d
        have y3a := fun ob => gr_c (gr_alloc w2 ob) y3b
        clear hg2 hz2
        go_wp2_with fail
        refine hK.out _ _ (HS.out _ HK1.out) (fun hHeld => ?_)
        clear hK Kc
        (try simp only [Act.put]); (try simp only [List.setIfInBounds_toArray]); (try simp only [List.set_cons_succ]); (try simp only [List.set_cons_zero])
        refine wpAnyH_ready (rs := [7]) (by kernel_rfl) (by simp) ?_
        refine AllReadyH.cons (o := { dst := some 62, op := Go.Op.buildSlice 27 1 #[(0, Go.Operand.tmp 61)], type := 27, pos := "ref.go:246", after := #[{ on := 6, ground := Go.Ground.data }], guard := none }) rfl (fun Kc hK => ?_) AllReadyH.nil
        go_simp
        refine hK.out _ _ (HS.out _ (HK1.out.alloc _)) (fun hHeld => ?_)
        clear hK Kc
        (try simp only [Act.put]); (try simp only [List.setIfInBounds_toArray]); (try simp only [List.set_cons_succ]); (try simp only [List.set_cons_zero])
        refine wpAnyH_ready (rs := [8]) (by kernel_rfl) (by simp) ?_
        refine AllReadyH.cons (o := { dst := some 63, op := Go.Op.call { callee := Go.Callee.builtin Go.Builtin.append, args := #[Go.Operand.tmp 56, Go.Operand.tmp 62], argTypes := #[27, 27] }, type := 27, pos := "ref.go:246", after := #[{ on := 1, ground := Go.Ground.data }, { on := 7, ground := Go.Ground.data }, { on := 6, ground := Go.Ground.chain }], guard := none }) rfl (fun Kc hK => ?_) AllReadyH.nil
        refine step_append_anyN _ rfl (.tmp 56) (.tmp 62) 27 27 rfl 29 _ 4 56 Tryd.underlying27 info29 rfl _ k xs rfl (HOW.out _ (HG2.out.alloc _)) _ 1 _ rfl (src_val w2 _ _ _ _ rfl rfl rfl rfl) hb63 hb56 ?_
        intro v' w3 hown' hgr' hor'
        obtain ⟨a2, c2, rfl, hb3, kV, hI4⟩ := HI.out.push HYV.out rfl HE.out.1 HE.out.2 HOK.out (by omega) (HOW.out _ (HG2.out.alloc _)) hown' hgr' hor'
        have HK3 := hidM kV
        have HI4 := hidM hI4
        have y3c := (B4.cells hb3).2.2.2
        have u3c := frz hb3 3
        clear hown' hgr' hor' hb3 kV hI4
        refine hK.out _ _ (HS.out _ HK3.out) (fun hHeld => ?_)
        clear hK Kc
        (try simp only [Act.put]); (try simp only [List.setIfInBounds_toArray]); (try simp only [List.set_cons_succ]); (try simp only [List.set_cons_zero])
        refine wpAnyH_take (i := 9) (oi := { dst := some 64, op := Go.Op.fieldAddr 29 (Go.Operand.tmp 4) 3, type := 0, pos := "ref.go:246", after := #[{ on := 0, ground := Go.Ground.phase }, { on := 1, ground := Go.Ground.phase }, { on := 2, ground := Go.Ground.phase }, { on := 3, ground := Go.Ground.phase }, { on := 4, ground := Go.Ground.phase }, { on := 5, ground := Go.Ground.phase }, { on := 6, ground := Go.Ground.phase }, { on := 7, ground := Go.Ground.phase }, { on := 8, ground := Go.Ground.phase }], guard := none }) (v := ?v9t11) rfl (by kernel_rfl) (by kernel_rfl) (by kernel_rfl) (fun _ _ _ h => h) (Or.inl ⟨by rfl, ?y9t11⟩) (by assumption) ?r9t11
        case y9t11 => (intro w hSw; obtain ⟨s1, s2, c0, c1, c2', c3, c4, c5, c6⟩ := hSw; go_simp; (try with_reducible rfl))
        (try simp only [Act.put]); (try simp only [List.setIfInBounds_toArray]); (try simp only [List.set_cons_succ]); (try simp only [List.set_cons_zero])
        refine wpAnyH_ready (rs := [10]) (by kernel_rfl) (by simp) ?_
        refine AllReadyH.cons (o := { dst := none, op := Go.Op.store 27 (Go.Operand.tmp 64) (Go.Operand.tmp 63), type := 0, pos := "ref.go:246", after := #[{ on := 9, ground := Go.Ground.data }, { on := 8, ground := Go.Ground.data }, { on := 8, ground := Go.Ground.chain }, { on := 0, ground := Go.Ground.phase }, { on := 1, ground := Go.Ground.phase }, { on := 2, ground := Go.Ground.phase }, { on := 3, ground := Go.Ground.phase }, { on := 4, ground := Go.Ground.phase }, { on := 5, ground := Go.Ground.phase }, { on := 6, ground := Go.Ground.phase }, { on := 7, ground := Go.Ground.phase }, { on := 8, ground := Go.Ground.phase }], guard := none }) rfl (fun Kc hK => ?_) AllReadyH.nil
        go_simp
        refine hK.out _ _ (HS.out _ (HK3.out.setCell (p := ⟨X + 1 + 1 + 1, 3, none⟩) (fun _ => rfl) _)) (fun hHeld => ?_)
        clear hK Kc
        (try simp only [Act.put]); (try simp only [List.setIfInBounds_toArray]); (try simp only [List.set_cons_succ]); (try simp only [List.set_cons_zero])
        refine wpAnyH_done (by kernel_rfl) ?_ _
        rw [HNx.out] at HI4
        go_wp2_with fail
        go_roundw
        case rel => exact ⟨k + 1, by omega, by simp, a2, c2, HI4.out⟩
        case measure => simp [intOf]; omega
      · go_simp
        go_at_call 34
        refine Calls.mono (HF.out _ HGd.out) ?_
        rintro e' w2 ⟨o, c, rfl, hg2, hz2⟩
        have HE := hidM (And.intro hg2 hz2)
        have HK1 := hidM (HK0.out.trans hg2 (fun _ _ h => h.elim))
        have HG2 := hidM (HGr.out.trans hg2 (fun _ _ h => h))
        have y3b := gr_c hg2 y3d
        have y3a := fun ob => gr_c (gr_alloc w2 ob) y3b
        clear hg2 hz2
        go_wp2_with fail
        refine hK.out _ _ (HS.out _ HK1.out) (fun hHeld => ?_)
        clear hK Kc
        (try simp only [Act.put]); (try simp only [List.setIfInBounds_toArray]); (try simp only [List.set_cons_succ]); (try simp only [List.set_cons_zero])
        refine wpAnyH_ready (rs := [1, 7]) (by kernel_rfl) (by simp) ?_
        refine AllReadyH.cons (o := { dst := some 56, op := Go.Op.load 27 (Go.Operand.tmp 55), type := 27, pos := "ref.go:246", after := #[{ on := 0, ground := Go.Ground.data }], guard := none }) rfl (fun Kc hK => ?_) (AllReadyH.cons (o := { dst := some 62, op := Go.Op.buildSlice 27 1 #[(0, Go.Operand.tmp 61)], type := 27, pos := "ref.go:246", after := #[{ on := 6, ground := Go.Ground.data }], guard := none }) rfl (fun Kc hK => ?_) AllReadyH.nil)
        · go_simp
          refine hK.out _ _ hHeld (fun hHeld => ?_)
          clear hK Kc
          (try simp only [Act.put]); (try simp only [List.setIfInBounds_toArray]); (try simp only [List.set_cons_succ]); (try simp only [List.set_cons_zero])
          refine wpAnyH_ready (rs := [7]) (by kernel_rfl) (by simp) ?_
          refine AllReadyH.cons (o := { dst := some 62, op := Go.Op.buildSlice 27 1 #[(0, Go.Operand.tmp 61)], type := 27, pos := "ref.go:246", after := #[{ on := 6, ground := Go.Ground.data }], guard := none }) rfl (fun Kc hK => ?_) AllReadyH.nil
          go_simp
          refine hK.out _ _ (HS.out _ (HK1.out.alloc _)) (fun hHeld => ?_)
          clear hK Kc
          (try simp only [Act.put]); (try simp only [List.setIfInBounds_toArray]); (try simp only [List.set_cons_succ]); (try simp only [List.set_cons_zero])
          refine wpAnyH_ready (rs := [8]) (by kernel_rfl) (by simp) ?_
          refine AllReadyH.cons (o := { dst := some 63, op := Go.Op.call { callee := Go.Callee.builtin Go.Builtin.append, args := #[Go.Operand.tmp 56, Go.Operand.tmp 62], argTypes := #[27, 27] }, type := 27, pos := "ref.go:246", after := #[{ on := 1, ground := Go.Ground.data }, { on := 7, ground := Go.Ground.data }, { on := 6, ground := Go.Ground.chain }], guard := none }) rfl (fun Kc hK => ?_) AllReadyH.nil
          refine step_append_anyN _ rfl (.tmp 56) (.tmp 62) 27 27 rfl 29 _ 4 56 Tryd.underlying27 info29 rfl _ k xs rfl (HOW.out _ (HG2.out.alloc _)) _ 1 _ rfl (src_val w2 _ _ _ _ rfl rfl rfl rfl) hb63 hb56 ?_
          intro v' w3 hown' hgr' hor'
          obtain ⟨a2, c2, rfl, hb3, kV, hI4⟩ := HI.out.push HYV.out rfl HE.out.1 HE.out.2 HOK.out (by omega) (HOW.out _ (HG2.out.alloc _)) hown' hgr' hor'
          have HK3 := hidM kV
          have HI4 := hidM hI4
          have y3c := (B4.cells hb3).2.2.2
          have u3c := frz hb3 3
          clear hown' hgr' hor' hb3 kV hI4
          refine hK.out _ _ (HS.out _ HK3.out) (fun hHeld => ?_)
          clear hK Kc
          (try simp only [Act.put]); (try simp only [List.setIfInBounds_toArray]); (try simp only [List.set_cons_succ]); (try simp only [List.set_cons_zero])
          refine wpAnyH_take (i := 9) (oi := { dst := some 64, op := Go.Op.fieldAddr 29 (Go.Operand.tmp 4) 3, type := 0, pos := "ref.go:246", after := #[{ on := 0, ground := Go.Ground.phase }, { on := 1, ground := Go.Ground.phase }, { on := 2, ground := Go.Ground.phase }, { on := 3, ground := Go.Ground.phase }, { on := 4, ground := Go.Ground.phase }, { on := 5, ground := Go.Ground.phase }, { on := 6, ground := Go.Ground.phase }, { on := 7, ground := Go.Ground.phase }, { on := 8, ground := Go.Ground.phase }], guard := none }) (v := ?v9t21) rfl (by kernel_rfl) (by kernel_rfl) (by kernel_rfl) (fun _ _ _ h => h) (Or.inl ⟨by rfl, ?y9t21⟩) (by assumption) ?r9t21
          case y9t21 => (intro w hSw; obtain ⟨s1, s2, c0, c1, c2', c3, c4, c5, c6⟩ := hSw; go_simp; (try with_reducible rfl))
          (try simp only [Act.put]); (try simp only [List.setIfInBounds_toArray]); (try simp only [List.set_cons_succ]); (try simp only [List.set_cons_zero])
          refine wpAnyH_ready (rs := [10]) (by kernel_rfl) (by simp) ?_
          refine AllReadyH.cons (o := { dst := none, op := Go.Op.store 27 (Go.Operand.tmp 64) (Go.Operand.tmp 63), type := 0, pos := "ref.go:246", after := #[{ on := 9, ground := Go.Ground.data }, { on := 8, ground := Go.Ground.data }, { on := 8, ground := Go.Ground.chain }, { on := 0, ground := Go.Ground.phase }, { on := 1, ground := Go.Ground.phase }, { on := 2, ground := Go.Ground.phase }, { on := 3, ground := Go.Ground.phase }, { on := 4, ground := Go.Ground.phase }, { on := 5, ground := Go.Ground.phase }, { on := 6, ground := Go.Ground.phase }, { on := 7, ground := Go.Ground.phase }, { on := 8, ground := Go.Ground.phase }], guard := none }) rfl (fun Kc hK => ?_) AllReadyH.nil
          go_simp
          refine hK.out _ _ (HS.out _ (HK3.out.setCell (p := ⟨X + 1 + 1 + 1, 3, none⟩) (fun _ => rfl) _)) (fun hHeld => ?_)
          clear hK Kc
          (try simp only [Act.put]); (try simp only [List.setIfInBounds_toArray]); (try simp only [List.set_cons_succ]); (try simp only [List.set_cons_zero])
          refine wpAnyH_done (by kernel_rfl) ?_ _
          rw [HNx.out] at HI4
          go_wp2_with fail
          go_roundw
          case rel => exact ⟨k + 1, by omega, by simp, a2, c2, HI4.out⟩
          case measure => simp [intOf]; omega
        · go_simp
          refine hK.out _ _ (HS.out _ (HK1.out.alloc _)) (fun hHeld => ?_)
          clear hK Kc
          (try simp only [Act.put]); (try simp only [List.setIfInBounds_toArray]); (try simp only [List.set_cons_succ]); (try simp only [List.set_cons_zero])
          refine wpAnyH_ready (rs := [1]) (by kernel_rfl) (by simp) ?_
          refine AllReadyH.cons (o := { dst := some 56, op := Go.Op.load 27 (Go.Operand.tmp 55), type := 27, pos := "ref.go:246", after := #[{ on := 0, ground := Go.Ground.data }], guard := none }) rfl (fun Kc hK => ?_) AllReadyH.nil
          go_simp
          refine hK.out _ _ hHeld (fun hHeld => ?_)
          clear hK Kc
          (try simp only [Act.put]); (try simp only [List.setIfInBounds_toArray]); (try simp only [List.set_cons_succ]); (try simp only [List.set_cons_zero])
          refine wpAnyH_ready (rs := [8]) (by kernel_rfl) (by simp) ?_
          refine AllReadyH.cons (o := { dst := some 63, op := Go.Op.call { callee := Go.Callee.builtin Go.Builtin.append, args := #[Go.Operand.tmp 56, Go.Operand.tmp 62], argTypes := #[27, 27] }, type := 27, pos := "ref.go:246", after := #[{ on := 1, ground := Go.Ground.data }, { on := 7, ground := Go.Ground.data }, { on := 6, ground := Go.Ground.chain }], guard := none }) rfl (fun Kc hK => ?_) AllReadyH.nil
          refine step_append_anyN _ rfl (.tmp 56) (.tmp 62) 27 27 rfl 29 _ 4 56 Tryd.underlying27 info29 rfl _ k xs rfl (HOW.out _ (HG2.out.alloc _)) _ 1 _ rfl (src_val w2 _ _ _ _ rfl rfl rfl rfl) hb63 hb56 ?_
          intro v' w3 hown' hgr' hor'
          obtain ⟨a2, c2, rfl, hb3, kV, hI4⟩ := HI.out.push HYV.out rfl HE.out.1 HE.out.2 HOK.out (by omega) (HOW.out _ (HG2.out.alloc _)) hown' hgr' hor'
          have HK3 := hidM kV
          have HI4 := hidM hI4
          have y3c := (B4.cells hb3).2.2.2
          have u3c := frz hb3 3
          clear hown' hgr' hor' hb3 kV hI4
          refine hK.out _ _ (HS.out _ HK3.out) (fun hHeld => ?_)
          clear hK Kc
          (try simp only [Act.put]); (try simp only [List.setIfInBounds_toArray]); (try simp only [List.set_cons_succ]); (try simp only [List.set_cons_zero])
          refine wpAnyH_take (i := 9) (oi := { dst := some 64, op := Go.Op.fieldAddr 29 (Go.Operand.tmp 4) 3, type := 0, pos := "ref.go:246", after := #[{ on := 0, ground := Go.Ground.phase }, { on := 1, ground := Go.Ground.phase }, { on := 2, ground := Go.Ground.phase }, { on := 3, ground := Go.Ground.phase }, { on := 4, ground := Go.Ground.phase }, { on := 5, ground := Go.Ground.phase }, { on := 6, ground := Go.Ground.phase }, { on := 7, ground := Go.Ground.phase }, { on := 8, ground := Go.Ground.phase }], guard := none }) (v := ?v9t31) rfl (by kernel_rfl) (by kernel_rfl) (by kernel_rfl) (fun _ _ _ h => h) (Or.inl ⟨by rfl, ?y9t31⟩) (by assumption) ?r9t31
          case y9t31 => (intro w hSw; obtain ⟨s1, s2, c0, c1, c2', c3, c4, c5, c6⟩ := hSw; go_simp; (try with_reducible rfl))
          (try simp only [Act.put]); (try simp only [List.setIfInBounds_toArray]); (try simp only [List.set_cons_succ]); (try simp only [List.set_cons_zero])
          refine wpAnyH_ready (rs := [10]) (by kernel_rfl) (by simp) ?_
          refine AllReadyH.cons (o := { dst := none, op := Go.Op.store 27 (Go.Operand.tmp 64) (Go.Operand.tmp 63), type := 0, pos := "ref.go:246", after := #[{ on := 9, ground := Go.Ground.data }, { on := 8, ground := Go.Ground.data }, { on := 8, ground := Go.Ground.chain }, { on := 0, ground := Go.Ground.phase }, { on := 1, ground := Go.Ground.phase }, { on := 2, ground := Go.Ground.phase }, { on := 3, ground := Go.Ground.phase }, { on := 4, ground := Go.Ground.phase }, { on := 5, ground := Go.Ground.phase }, { on := 6, ground := Go.Ground.phase }, { on := 7, ground := Go.Ground.phase }, { on := 8, ground := Go.Ground.phase }], guard := none }) rfl (fun Kc hK => ?_) AllReadyH.nil
          go_simp
          refine hK.out _ _ (HS.out _ (HK3.out.setCell (p := ⟨X + 1 + 1 + 1, 3, none⟩) (fun _ => rfl) _)) (fun hHeld => ?_)
          clear hK Kc
          (try simp only [Act.put]); (try simp only [List.setIfInBounds_toArray]); (try simp only [List.set_cons_succ]); (try simp only [List.set_cons_zero])
          refine wpAnyH_done (by kernel_rfl) ?_ _
          rw [HNx.out] at HI4
          go_wp2_with fail
          go_roundw
          case rel => exact ⟨k + 1, by omega, by simp, a2, c2, HI4.out⟩
          case measure => simp [intOf]; omega
    · have hkm : k = m := by omega
      subst hkm
      clear HK hI
      have hbY := HI.out.box
      have bR2 : B4 wr (X + 1) false 0 ⟨#[]⟩ none 0 0 := (HI.out.kp.block _ (lt_of_heap HbR.out) (by omega)).trans HbR.out
      obtain ⟨r0, r1, r2, r3⟩ := B4.cells bR2
      have z0 := frz bR2 0
      have z1 := frz bR2 1
      have z2 := frz bR2 2
      have z3 := frz bR2 3
      obtain ⟨y0, y1, y2, y3⟩ := B4.cells hbY
      have HbR2 := hidM bR2
      clear bR2 hbY
      go_wp2_with fail
      have hb3 := put4_box (.bool false) (.int .i64 0) (.string ⟨#[]⟩) (.slice lo' k lc) HbR2.out
      have k3 := put4_keeps wr (X + 1) (.bool false) (.int .i64 0) (.string ⟨#[]⟩) (.slice lo' k lc)
      have hsz := k3.size
      have hs := Hs.out
      have hxx := HX.out
      (try simp only [Exit.inBlock, Exit.then])
      refine bodyPost_ret (results_cell_row rfl _ _ _ _ _ _ _ rfl hb3 Tryd.underlying29 rfl (by kernel_rfl)) rfl ⟨lo', lc, by simp [VT.nul, VT.num, VT.text, VT.list], ?_, ?_⟩
      · exact ((HG.out.mono fun _ _ h => h.elim).trans HI.out.kp (fun j hj e => by omega)).trans k3 (fun j hj e => by omega)
      · have hkk := HI.out.kp.size
        show ZRow _ _ _ _ _ _ (List.replicate k v)
        exact (HI.out.row.kept fun b h1 h2 => k3.block b h2 (by omega)).wide (by omega) hsz
end Go.Proofs.YtcfdkadhclickaaDoor.Kit
