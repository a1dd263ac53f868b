import Derived.Test.YtcfdkadhclickaaDoorZG
namespace Go.Proofs.YtcfdkadhclickaaDoor.Kit
open Go.RowKit Go.Shelf Go.Deep
set_option linter.unusedVariables false
attribute [local go_sem] run_store_func

theorem ZI.gr {V wr W' : World} {Y D : Nat} {l : List VT} {k : Nat} {ao : Option Addr} {ca : Nat} (h : ZI V wr Y D l k ao ca) (g : Gr wr W') : ZI V W' Y D l k ao ca :=
  ⟨h.len, h.kp.trans g (fun _ _ h => h.elim), (g.block _ (lt_of_heap h.box) id).trans h.box, (h.row.kept fun b _ h2 => g.block b h2 id).wide (Nat.le_refl _) g.size⟩
theorem ZI.ownAt {V wr : World} {Y D : Nat} {l : List VT} {k : Nat} {ao : Option Addr} {ca : Nat} (h : ZI V wr Y D l k ao ca) : ∀ z, (Value.slice ao k ca).ownBlock = some z → V.heap.size ≤ z ∧ z < wr.heap.size := by
  obtain ⟨_, _, h2⟩ := h.row.owns
  rw [h.len] at h2
  exact h2
set_option maxRecDepth 100000 in
set_option maxHeartbeats 4000000 in
theorem dz18 (f0 : ByteArray) (f3 f4 f5 : Int) (n ca : Nat) (w : World) (DD : Nat) (kb ko : Nat) (k0 : ByteArray) (k1 : Bool) (k2 k3 k4 k5 : Int) (kp : Option Addr) (kn kc : Nat) (v : VT) (hok : VOk v) (hn : 0 < n) (g0 : w.cell? ⟨kb, ko, none⟩ = some (.string k0)) (g1 : w.cell? ⟨kb, ko + 1, none⟩ = some (.bool k1)) (g2 : w.cell? ⟨kb, ko + 2, none⟩ = some (.int .i64 k2)) (g3 : w.cell? ⟨kb, ko + 3, none⟩ = some (.int .i64 k3)) (g4 : w.cell? ⟨kb, ko + 4, none⟩ = some (.int .i64 k4)) (g5 : w.cell? ⟨kb, ko + 5, none⟩ = some (.int .i64 k5)) (g6 : w.cell? ⟨kb, ko + 6, none⟩ = some (.slice kp kn kc)) (hF : ZeC 34 w (.agg #[.string k0, .bool k1, .int .i64 k2, .int .i64 k3, .int .i64 k4, .int .i64 k5, .slice kp kn kc]) DD v) :
    ZeC 34 w (.agg #[.string f0, .bool false, .int .i64 18, .int .i64 f3, .int .i64 f4, .int .i64 f5, .slice (some ⟨kb, ko, none⟩) n ca]) (DD + 1) (.mk false 0 ⟨#[]⟩ [v]) := by
  have HF := hidM hF
  have HOK := hidM hok
  have HKc := hidM (And.intro g0 (And.intro g1 (And.intro g2 (And.intro g3 (And.intro g4 (And.intro g5 g6))))))
  clear hok
  intro W g
  obtain ⟨V, hV⟩ : ∃ V, (((W.alloc (.cells #[.string f0, .bool false, .int .i64 18, .int .i64 f3, .int .i64 f4, .int .i64 f5, .slice (some ⟨kb, ko, none⟩) n ca] 26)).alloc (.cells #[.bool false, .int .i64 0, .string ⟨#[]⟩, .slice none 0 0] 29)).alloc (.cells #[.int .i64 18, .int .i64 f3, .int .i64 f4, .int .i64 f5, .slice (some ⟨kb, ko, none⟩) n ca] 24)).alloc (.cells #[.bool false, .int .i64 0, .string ⟨#[]⟩, .slice none 0 0] 29) = V := ⟨_, rfl⟩
  have hA := alloc4 W (.cells #[.string f0, .bool false, .int .i64 18, .int .i64 f3, .int .i64 f4, .int .i64 f5, .slice (some ⟨kb, ko, none⟩) n ca] 26) (.cells #[.bool false, .int .i64 0, .string ⟨#[]⟩, .slice none 0 0] 29) (.cells #[.int .i64 18, .int .i64 f3, .int .i64 f4, .int .i64 f5, .slice (some ⟨kb, ko, none⟩) n ca] 24) (.cells #[.bool false, .int .i64 0, .string ⟨#[]⟩, .slice none 0 0] 29)
  rw [hV] at hA
  obtain ⟨b7, bR, b3, b4', gV⟩ := hA
  have HbR : Hid (B4 V (W.heap.size + 1) false 0 ⟨#[]⟩ none 0 0) := bR
  have HbY : Hid (B4 V (W.heap.size + 1 + 1 + 1) false 0 ⟨#[]⟩ none 0 0) := b4'
  have HbT : Hid (B5 V (W.heap.size + 1 + 1) 18 f3 f4 f5 (some ⟨kb, ko, none⟩) n ca) := b3
  have gg : Gr w V := g.trans gV (fun _ _ h => h)
  have hsz : V.heap.size = W.heap.size + 4 := by rw [← hV]; simp
  have HA4 : Hid (∀ o1 o2 o3 o4, Gr W ((((W.alloc o1).alloc o2).alloc o3).alloc o4)) := fun o1 o2 o3 o4 => (((gr_alloc W o1).alloc o2).alloc o3).alloc o4
  have g0 := fun o1 o2 o3 o4 => gr_c (g.trans (HA4.out o1 o2 o3 o4) (fun _ _ h => h)) g0
  have g1 := fun o1 o2 o3 o4 => gr_c (g.trans (HA4.out o1 o2 o3 o4) (fun _ _ h => h)) g1
  have g2 := fun o1 o2 o3 o4 => gr_c (g.trans (HA4.out o1 o2 o3 o4) (fun _ _ h => h)) g2
  have g3 := fun o1 o2 o3 o4 => gr_c (g.trans (HA4.out o1 o2 o3 o4) (fun _ _ h => h)) g3
  have g4 := fun o1 o2 o3 o4 => gr_c (g.trans (HA4.out o1 o2 o3 o4) (fun _ _ h => h)) g4
  have g5 := fun o1 o2 o3 o4 => gr_c (g.trans (HA4.out o1 o2 o3 o4) (fun _ _ h => h)) g5
  have g6 := fun o1 o2 o3 o4 => gr_c (g.trans (HA4.out o1 o2 o3 o4) (fun _ _ h => h)) g6
  have hn' : (0 : Int) < (n : Int) := by omega
  have HG := hidM gV
  have HWw := hidM g.size
  have HGg := hidM gg
  have Hs := hidM hsz
  have HV := hidM hV
  clear gV gg g hsz b7 bR b3 b4' hV hF
  go_enter Tryd.func34, Tryd.ntmps34
  go_wp2
  rw [HV.out]
  clear g0 g1 g2 g3 g4 g5 g6
  obtain ⟨X, hX⟩ : ∃ X, X = W.heap.size := ⟨_, rfl⟩
  rw [← hX] at HbR HbY HbT Hs ⊢
  have HX := hidM hX
  clear hX HV HA4
  have HS : Hid (∀ W', Keeps V W' (fun z => z = X + 1 + 1 + 1) → W'.cell? ⟨X + 1 + 1, 4, none⟩ = some (.slice (some ⟨kb, ko, none⟩) n ca) ∧ W'.cell? ⟨kb, ko, none⟩ = some (.string k0) ∧ W'.cell? ⟨kb, ko + 1, none⟩ = some (.bool k1) ∧ W'.cell? ⟨kb, ko + 2, none⟩ = some (.int .i64 k2) ∧ W'.cell? ⟨kb, ko + 3, none⟩ = some (.int .i64 k3) ∧ W'.cell? ⟨kb, ko + 4, none⟩ = some (.int .i64 k4) ∧ W'.cell? ⟨kb, ko + 5, none⟩ = some (.int .i64 k5) ∧ W'.cell? ⟨kb, ko + 6, none⟩ = some (.slice kp kn kc)) := fun W' k => by
    have hkb : kb < W.heap.size := Nat.lt_of_lt_of_le (block_lt_of_cell HKc.out.1) (by have h := HWw.out; omega)
    have hne : ¬ kb = X + 1 + 1 + 1 := by have := HX.out; omega
    obtain ⟨_, t1, _, _, t4⟩ := B5.cells ((k.block _ (lt_of_heap HbT.out) (by omega)).trans HbT.out)
    exact ⟨t4, k.cell' (gr_c HGg.out HKc.out.1) hne, k.cell' (gr_c HGg.out HKc.out.2.1) hne, k.cell' (gr_c HGg.out HKc.out.2.2.1) hne, k.cell' (gr_c HGg.out HKc.out.2.2.2.1) hne, k.cell' (gr_c HGg.out HKc.out.2.2.2.2.1) hne, k.cell' (gr_c HGg.out HKc.out.2.2.2.2.2.1) hne, k.cell' (gr_c HGg.out HKc.out.2.2.2.2.2.2) hne⟩
  have HYV : Hid (X + 1 + 1 + 1 < V.heap.size) := by have := Hs.out; have := HX.out; show _ < _; omega
  have hI : ZI V V (X + 1 + 1 + 1) DD [] 0 none 0 := ⟨rfl, Keeps.refl _ _, HbY.out, ZRow.nil _ _ _ _⟩
  have HI := hidM hI
  have y3d : V.drew.cell? ⟨X + 1 + 1 + 1, 3, none⟩ = some (.slice none 0 0) := (B4.cells hI.box).2.2.2
  have HK0 : Hid (Keeps V V.drew (fun z => z = X + 1 + 1 + 1)) := hI.kp.drew
  have HGr : Hid (Gr V V.drew) := (Keeps.refl V _).drew
  have HGd : Hid (Gr w V.drew) := HGg.out.drew
  obtain ⟨xs, hxs⟩ := hI.owns
  have HOW := hidM hxs
  have hb63 : 0 + 1 ≤ 9223372036854775807 := by omega
  have hb56 : (0 + 1) * 56 ≤ 140737488355328 := by omega
  clear hI hxs
  refine wp_region_held_drew (S := fun w' => w'.cell? ⟨X + 1 + 1, 4, none⟩ = some (.slice (some ⟨kb, ko, none⟩) n ca) ∧ w'.cell? ⟨kb, ko, none⟩ = some (.string k0) ∧ w'.cell? ⟨kb, ko + 1, none⟩ = some (.bool k1) ∧ w'.cell? ⟨kb, ko + 2, none⟩ = some (.int .i64 k2) ∧ w'.cell? ⟨kb, ko + 3, none⟩ = some (.int .i64 k3) ∧ w'.cell? ⟨kb, ko + 4, none⟩ = some (.int .i64 k4) ∧ w'.cell? ⟨kb, ko + 5, none⟩ = some (.int .i64 k5) ∧ w'.cell? ⟨kb, ko + 6, none⟩ = some (.slice kp kn kc)) (by kernel_rfl) (HS.out _ HK0.out) (fun hHeld => ?_)
  refine wpAnyH_take (i := 0) (oi := { dst := some 37, op := Go.Op.fieldAddr 29 (Go.Operand.tmp 4) 3, type := 0, pos := "ref.go:243", after := #[], guard := none }) (v := ?v0a1) rfl (by kernel_rfl) (by kernel_rfl) (by kernel_rfl) (fun _ _ _ h => h) (Or.inl ⟨by rfl, ?y0a1⟩) (by assumption) ?r0a1
  case y0a1 => (intro w hSw; obtain ⟨s2, c0, c1, c2', c3, c4, c5, c6⟩ := hSw; go_simp; (try with_reducible rfl))
  (try simp only [Act.put]); (try simp only [List.setIfInBounds_toArray]); (try simp only [List.set_cons_succ]); (try simp only [List.set_cons_zero])
  refine wpAnyH_take (i := 2) (oi := { dst := some 39, op := Go.Op.fieldAddr 24 (Go.Operand.tmp 3) 4, type := 0, pos := "ref.go:243", after := #[], guard := none }) (v := ?v2a2) rfl (by kernel_rfl) (by kernel_rfl) (by kernel_rfl) (fun _ _ _ h => h) (Or.inl ⟨by rfl, ?y2a2⟩) (by assumption) ?r2a2
  case y2a2 => (intro w hSw; obtain ⟨s2, c0, c1, c2', c3, c4, c5, c6⟩ := hSw; go_simp; (try with_reducible rfl))
  (try simp only [Act.put]); (try simp only [List.setIfInBounds_toArray]); (try simp only [List.set_cons_succ]); (try simp only [List.set_cons_zero])
  refine wpAnyH_take (i := 3) (oi := { dst := some 40, op := Go.Op.load 22 (Go.Operand.tmp 39), type := 22, pos := "ref.go:243", after := #[{ on := 2, ground := Go.Ground.data }], guard := none }) (v := ?v3a3) rfl (by kernel_rfl) (by kernel_rfl) (by kernel_rfl) (fun _ _ _ h => h) (Or.inl ⟨by rfl, ?y3a3⟩) (by assumption) ?r3a3
  case y3a3 => (intro w hSw; obtain ⟨s2, c0, c1, c2', c3, c4, c5, c6⟩ := hSw; go_simp; (try with_reducible rfl))
  (try simp only [Act.put]); (try simp only [List.setIfInBounds_toArray]); (try simp only [List.set_cons_succ]); (try simp only [List.set_cons_zero])
  refine wpAnyH_take (i := 4) (oi := { dst := some 41, op := Go.Op.indexAddr 22 (Go.Operand.tmp 40) (Go.Operand.const (Go.Value.int Go.IntKind.i64 0)), type := 0, pos := "ref.go:243", after := #[{ on := 3, ground := Go.Ground.data }], guard := none }) (v := ?v4a4) rfl (by kernel_rfl) (by kernel_rfl) (by kernel_rfl) (fun _ _ _ h => h) (Or.inl ⟨by rfl, ?y4a4⟩) (by assumption) ?r4a4
  case y4a4 => (intro w hSw; obtain ⟨s2, c0, c1, c2', c3, c4, c5, c6⟩ := hSw; go_simp; (try with_reducible rfl))
  (try simp only [Act.put]); (try simp only [List.setIfInBounds_toArray]); (try simp only [List.set_cons_succ]); (try simp only [List.set_cons_zero])
  refine wpAnyH_take (i := 5) (oi := { dst := some 42, op := Go.Op.load 26 (Go.Operand.tmp 41), type := 26, pos := "ref.go:243", after := #[{ on := 4, ground := Go.Ground.data }], guard := none }) (v := ?v5a5) rfl (by kernel_rfl) (by kernel_rfl) (by kernel_rfl) (fun _ _ _ h => h) (Or.inl ⟨by rfl, ?y5a5⟩) (by assumption) ?r5a5
  case y5a5 => (intro w hSw; obtain ⟨s2, c0, c1, c2', c3, c4, c5, c6⟩ := hSw; go_simp; (try with_reducible rfl))
  (try simp only [Act.put]); (try simp only [List.setIfInBounds_toArray]); (try simp only [List.set_cons_succ]); (try simp only [List.set_cons_zero])
  refine wpAnyH_ready (rs := [1, 6]) (by kernel_rfl) (by simp) ?_
  refine AllReadyH.cons (o := { dst := some 38, op := Go.Op.load 27 (Go.Operand.tmp 37), type := 27, pos := "ref.go:243", after := #[{ on := 0, ground := Go.Ground.data }], guard := none }) rfl (fun Kc hK => ?_) (AllReadyH.cons (o := { dst := some 43, op := Go.Op.call { callee := Go.Callee.value (Go.Operand.func 34), args := #[Go.Operand.tmp 42], argTypes := #[26] }, type := 29, pos := "ref.go:243", after := #[{ on := 5, ground := Go.Ground.data }], guard := none }) rfl (fun Kc hK => ?_) AllReadyH.nil)
  · go_simp
    refine hK.out _ _ hHeld (fun hHeld => ?_)
    clear hK Kc
    (try simp only [Act.put]); (try simp only [List.setIfInBounds_toArray]); (try simp only [List.set_cons_succ]); (try simp only [List.set_cons_zero])
    refine wpAnyH_ready (rs := [6]) (by kernel_rfl) (by simp) ?_
    refine AllReadyH.cons (o := { dst := some 43, op := Go.Op.call { callee := Go.Callee.value (Go.Operand.func 34), args := #[Go.Operand.tmp 42], argTypes := #[26] }, type := 29, pos := "ref.go:243", after := #[{ on := 5, ground := Go.Ground.data }], guard := none }) rfl (fun Kc hK => ?_) AllReadyH.nil
    go_simp
    go_at_call 34
    refine Calls.mono (HF.out _ HGd.out) ?_
    rintro e' w2 ⟨o, c, rfl, hg2, hz2⟩
    have HE := hidM (And.intro hg2 hz2)
    have HK1 := hidM (HK0.out.trans hg2 (fun _ _ h => h.elim))
    have HG2 := hidM (HGr.out.trans hg2 (fun _ _ h => h))
    have y3b := gr_c hg2 y3d
    have y3a := fun ob => gr_c (gr_alloc w2 ob) y3b
    clear hg2 hz2
    go_wp2_with fail
    refine hK.out _ _ (HS.out _ HK1.out) (fun hHeld => ?_)
    clear hK Kc
    (try simp only [Act.put]); (try simp only [List.setIfInBounds_toArray]); (try simp only [List.set_cons_succ]); (try simp only [List.set_cons_zero])
    refine wpAnyH_ready (rs := [7]) (by kernel_rfl) (by simp) ?_
    refine AllReadyH.cons (o := { dst := some 44, op := Go.Op.buildSlice 27 1 #[(0, Go.Operand.tmp 43)], type := 27, pos := "ref.go:243", after := #[{ on := 6, ground := Go.Ground.data }], guard := none }) rfl (fun Kc hK => ?_) AllReadyH.nil
    go_simp
    refine hK.out _ _ (HS.out _ (HK1.out.alloc _)) (fun hHeld => ?_)
    clear hK Kc
    (try simp only [Act.put]); (try simp only [List.setIfInBounds_toArray]); (try simp only [List.set_cons_succ]); (try simp only [List.set_cons_zero])
    refine wpAnyH_ready (rs := [8]) (by kernel_rfl) (by simp) ?_
    refine AllReadyH.cons (o := { dst := some 45, op := Go.Op.call { callee := Go.Callee.builtin Go.Builtin.append, args := #[Go.Operand.tmp 38, Go.Operand.tmp 44], argTypes := #[27, 27] }, type := 27, pos := "ref.go:243", after := #[{ on := 1, ground := Go.Ground.data }, { on := 7, ground := Go.Ground.data }, { on := 6, ground := Go.Ground.chain }], guard := none }) rfl (fun Kc hK => ?_) AllReadyH.nil
    refine step_append_anyN _ rfl (.tmp 38) (.tmp 44) 27 27 rfl 29 _ 4 56 Tryd.underlying27 info29 rfl _ 0 xs rfl (HOW.out _ (HG2.out.alloc _)) _ 1 _ rfl (src_val w2 _ _ _ _ rfl rfl rfl rfl) hb63 hb56 ?_
    intro v' w3 hown' hgr' hor'
    obtain ⟨a2, c2, rfl, hb3, kV, hI4⟩ := HI.out.push HYV.out rfl HE.out.1 HE.out.2 HOK.out (by omega) (HOW.out _ (HG2.out.alloc _)) hown' hgr' hor'
    have HK3 := hidM kV
    have HI4 := hidM hI4
    have y3c := (B4.cells hb3).2.2.2
    have u3c := frz hb3 3
    clear hown' hgr' hor' hb3 kV hI4
    refine hK.out _ _ (HS.out _ HK3.out) (fun hHeld => ?_)
    clear hK Kc
    (try simp only [Act.put]); (try simp only [List.setIfInBounds_toArray]); (try simp only [List.set_cons_succ]); (try simp only [List.set_cons_zero])
    refine wpAnyH_take (i := 9) (oi := { dst := some 46, op := Go.Op.fieldAddr 29 (Go.Operand.tmp 4) 3, type := 0, pos := "ref.go:243", after := #[{ on := 0, ground := Go.Ground.phase }, { on := 1, ground := Go.Ground.phase }, { on := 2, ground := Go.Ground.phase }, { on := 3, ground := Go.Ground.phase }, { on := 4, ground := Go.Ground.phase }, { on := 5, ground := Go.Ground.phase }, { on := 6, ground := Go.Ground.phase }, { on := 7, ground := Go.Ground.phase }, { on := 8, ground := Go.Ground.phase }], guard := none }) (v := ?v9t11) rfl (by kernel_rfl) (by kernel_rfl) (by kernel_rfl) (fun _ _ _ h => h) (Or.inl ⟨by rfl, ?y9t11⟩) (by assumption) ?r9t11
    case y9t11 => (intro w hSw; obtain ⟨s2, c0, c1, c2', c3, c4, c5, c6⟩ := hSw; go_simp; (try with_reducible rfl))
    (try simp only [Act.put]); (try simp only [List.setIfInBounds_toArray]); (try simp only [List.set_cons_succ]); (try simp only [List.set_cons_zero])
    refine wpAnyH_ready (rs := [10]) (by kernel_rfl) (by simp) ?_
    refine AllReadyH.cons (o := { dst := none, op := Go.Op.store 27 (Go.Operand.tmp 46) (Go.Operand.tmp 45), type := 0, pos := "ref.go:243", after := #[{ on := 9, ground := Go.Ground.data }, { on := 8, ground := Go.Ground.data }, { on := 8, ground := Go.Ground.chain }, { on := 0, ground := Go.Ground.phase }, { on := 1, ground := Go.Ground.phase }, { on := 2, ground := Go.Ground.phase }, { on := 3, ground := Go.Ground.phase }, { on := 4, ground := Go.Ground.phase }, { on := 5, ground := Go.Ground.phase }, { on := 6, ground := Go.Ground.phase }, { on := 7, ground := Go.Ground.phase }, { on := 8, ground := Go.Ground.phase }], guard := none }) rfl (fun Kc hK => ?_) AllReadyH.nil
    go_simp
    refine hK.out _ _ (HS.out _ (HK3.out.setCell (p := ⟨X + 1 + 1 + 1, 3, none⟩) (fun _ => rfl) _)) (fun hHeld => ?_)
    clear hK Kc
    (try simp only [Act.put]); (try simp only [List.setIfInBounds_toArray]); (try simp only [List.set_cons_succ]); (try simp only [List.set_cons_zero])
    refine wpAnyH_done (by kernel_rfl) ?_ _
    obtain ⟨w5, hw5⟩ : ∃ w5, w3.setCell ⟨X + 1 + 1 + 1, 3, none⟩ (.slice a2 (0 + 1) c2) = w5 := ⟨_, rfl⟩
    rw [hw5] at HI4 ⊢
    have HI5 : Hid (ZI V w5 (X + 1 + 1 + 1) DD [v] 1 a2 c2) := HI4.out
    clear hw5 HI4 y3c u3c hHeld
    have hbY := HI5.out.box
    have bR2 : B4 w5 (X + 1) false 0 ⟨#[]⟩ none 0 0 := (HI5.out.kp.block _ (lt_of_heap HbR.out) (by omega)).trans HbR.out
    obtain ⟨r0, r1, r2, r3⟩ := B4.cells bR2
    have z0 := frz bR2 0
    have z1 := frz bR2 1
    have z2 := frz bR2 2
    have z3 := frz bR2 3
    obtain ⟨y0, y1, y2, y3⟩ := B4.cells hbY
    have HbR2 := hidM bR2
    clear bR2 hbY
    go_wp2_with fail
    have hb3 := put4_box (.bool false) (.int .i64 0) (.string ⟨#[]⟩) (.slice a2 1 c2) HbR2.out
    have k3 := put4_keeps w5 (X + 1) (.bool false) (.int .i64 0) (.string ⟨#[]⟩) (.slice a2 1 c2)
    have hsz := k3.size
    have hs := Hs.out
    have hxx := HX.out
    (try simp only [Exit.inBlock, Exit.then])
    refine bodyPost_ret (results_cell_row rfl _ _ _ _ _ _ _ rfl hb3 Tryd.underlying29 rfl (by kernel_rfl)) rfl ⟨a2, c2, rfl, ?_, ?_⟩
    · exact ((HG.out.mono fun _ _ h => h.elim).trans HI5.out.kp (fun j hj e => by omega)).trans k3 (fun j hj e => by omega)
    · have hkk := HI5.out.kp.size
      show ZRow _ _ _ _ _ _ [v]
      exact (HI5.out.row.kept fun b h1 h2 => k3.block b h2 (by omega)).wide (by omega) hsz
  · go_simp
    go_at_call 34
    refine Calls.mono (HF.out _ HGd.out) ?_
    rintro e' w2 ⟨o, c, rfl, hg2, hz2⟩
    have HE := hidM (And.intro hg2 hz2)
    have HK1 := hidM (HK0.out.trans hg2 (fun _ _ h => h.elim))
    have HG2 := hidM (HGr.out.trans hg2 (fun _ _ h => h))
    have y3b := gr_c hg2 y3d
    have y3a := fun ob => gr_c (gr_alloc w2 ob) y3b
    clear hg2 hz2
    go_wp2_with fail
    refine hK.out _ _ (HS.out _ HK1.out) (fun hHeld => ?_)
    clear hK Kc
    (try simp only [Act.put]); (try simp only [List.setIfInBounds_toArray]); (try simp only [List.set_cons_succ]); (try simp only [List.set_cons_zero])
    refine wpAnyH_ready (rs := [1, 7]) (by kernel_rfl) (by simp) ?_
    refine AllReadyH.cons (o := { dst := some 38, op := Go.Op.load 27 (Go.Operand.tmp 37), type := 27, pos := "ref.go:243", after := #[{ on := 0, ground := Go.Ground.data }], guard := none }) rfl (fun Kc hK => ?_) (AllReadyH.cons (o := { dst := some 44, op := Go.Op.buildSlice 27 1 #[(0, Go.Operand.tmp 43)], type := 27, pos := "ref.go:243", after := #[{ on := 6, ground := Go.Ground.data }], guard := none }) rfl (fun Kc hK => ?_) AllReadyH.nil)
    · go_simp
      refine hK.out _ _ hHeld (fun hHeld => ?_)
      clear hK Kc
      (try simp only [Act.put]); (try simp only [List.setIfInBounds_toArray]); (try simp only [List.set_cons_succ]); (try simp only [List.set_cons_zero])
      refine wpAnyH_ready (rs := [7]) (by kernel_rfl) (by simp) ?_
      refine AllReadyH.cons (o := { dst := some 44, op := Go.Op.buildSlice 27 1 #[(0, Go.Operand.tmp 43)], type := 27, pos := "ref.go:243", after := #[{ on := 6, ground := Go.Ground.data }], guard := none }) rfl (fun Kc hK => ?_) AllReadyH.nil
      go_simp
      refine hK.out _ _ (HS.out _ (HK1.out.alloc _)) (fun hHeld => ?_)
      clear hK Kc
      (try simp only [Act.put]); (try simp only [List.setIfInBounds_toArray]); (try simp only [List.set_cons_succ]); (try simp only [List.set_cons_zero])
      refine wpAnyH_ready (rs := [8]) (by kernel_rfl) (by simp) ?_
      refine AllReadyH.cons (o := { dst := some 45, op := Go.Op.call { callee := Go.Callee.builtin Go.Builtin.append, args := #[Go.Operand.tmp 38, Go.Operand.tmp 44], argTypes := #[27, 27] }, type := 27, pos := "ref.go:243", after := #[{ on := 1, ground := Go.Ground.data }, { on := 7, ground := Go.Ground.data }, { on := 6, ground := Go.Ground.chain }], guard := none }) rfl (fun Kc hK => ?_) AllReadyH.nil
      refine step_append_anyN _ rfl (.tmp 38) (.tmp 44) 27 27 rfl 29 _ 4 56 Tryd.underlying27 info29 rfl _ 0 xs rfl (HOW.out _ (HG2.out.alloc _)) _ 1 _ rfl (src_val w2 _ _ _ _ rfl rfl rfl rfl) hb63 hb56 ?_
      intro v' w3 hown' hgr' hor'
      obtain ⟨a2, c2, rfl, hb3, kV, hI4⟩ := HI.out.push HYV.out rfl HE.out.1 HE.out.2 HOK.out (by omega) (HOW.out _ (HG2.out.alloc _)) hown' hgr' hor'
      have HK3 := hidM kV
      have HI4 := hidM hI4
      have y3c := (B4.cells hb3).2.2.2
      have u3c := frz hb3 3
      clear hown' hgr' hor' hb3 kV hI4
      refine hK.out _ _ (HS.out _ HK3.out) (fun hHeld => ?_)
      clear hK Kc
      (try simp only [Act.put]); (try simp only [List.setIfInBounds_toArray]); (try simp only [List.set_cons_succ]); (try simp only [List.set_cons_zero])
      refine wpAnyH_take (i := 9) (oi := { dst := some 46, op := Go.Op.fieldAddr 29 (Go.Operand.tmp 4) 3, type := 0, pos := "ref.go:243", after := #[{ on := 0, ground := Go.Ground.phase }, { on := 1, ground := Go.Ground.phase }, { on := 2, ground := Go.Ground.phase }, { on := 3, ground := Go.Ground.phase }, { on := 4, ground := Go.Ground.phase }, { on := 5, ground := Go.Ground.phase }, { on := 6, ground := Go.Ground.phase }, { on := 7, ground := Go.Ground.phase }, { on := 8, ground := Go.Ground.phase }], guard := none }) (v := ?v9t21) rfl (by kernel_rfl) (by kernel_rfl) (by kernel_rfl) (fun _ _ _ h => h) (Or.inl ⟨by rfl, ?y9t21⟩) (by assumption) ?r9t21
      case y9t21 => (intro w hSw; obtain ⟨s2, c0, c1, c2', c3, c4, c5, c6⟩ := hSw; go_simp; (try with_reducible rfl))
      (try simp only [Act.put]); (try simp only [List.setIfInBounds_toArray]); (try simp only [List.set_cons_succ]); (try simp only [List.set_cons_zero])
      refine wpAnyH_ready (rs := [10]) (by kernel_rfl) (by simp) ?_
      refine AllReadyH.cons (o := { dst := none, op := Go.Op.store 27 (Go.Operand.tmp 46) (Go.Operand.tmp 45), type := 0, pos := "ref.go:243", after := #[{ on := 9, ground := Go.Ground.data }, { on := 8, ground := Go.Ground.data }, { on := 8, ground := Go.Ground.chain }, { on := 0, ground := Go.Ground.phase }, { on := 1, ground := Go.Ground.phase }, { on := 2, ground := Go.Ground.phase }, { on := 3, ground := Go.Ground.phase }, { on := 4, ground := Go.Ground.phase }, { on := 5, ground := Go.Ground.phase }, { on := 6, ground := Go.Ground.phase }, { on := 7, ground := Go.Ground.phase }, { on := 8, ground := Go.Ground.phase }], guard := none }) rfl (fun Kc hK => ?_) AllReadyH.nil
      go_simp
      refine hK.out _ _ (HS.out _ (HK3.out.setCell (p := ⟨X + 1 + 1 + 1, 3, none⟩) (fun _ => rfl) _)) (fun hHeld => ?_)
      clear hK Kc
      (try simp only [Act.put]); (try simp only [List.setIfInBounds_toArray]); (try simp only [List.set_cons_succ]); (try simp only [List.set_cons_zero])
      refine wpAnyH_done (by kernel_rfl) ?_ _
      obtain ⟨w5, hw5⟩ : ∃ w5, w3.setCell ⟨X + 1 + 1 + 1, 3, none⟩ (.slice a2 (0 + 1) c2) = w5 := ⟨_, rfl⟩
      rw [hw5] at HI4 ⊢
      have HI5 : Hid (ZI V w5 (X + 1 + 1 + 1) DD [v] 1 a2 c2) := HI4.out
      clear hw5 HI4 y3c u3c hHeld
      have hbY := HI5.out.box
      have bR2 : B4 w5 (X + 1) false 0 ⟨#[]⟩ none 0 0 := (HI5.out.kp.block _ (lt_of_heap HbR.out) (by omega)).trans HbR.out
      obtain ⟨r0, r1, r2, r3⟩ := B4.cells bR2
      have z0 := frz bR2 0
      have z1 := frz bR2 1
      have z2 := frz bR2 2
      have z3 := frz bR2 3
      obtain ⟨y0, y1, y2, y3⟩ := B4.cells hbY
      have HbR2 := hidM bR2
      clear bR2 hbY
      go_wp2_with fail
      have hb3 := put4_box (.bool false) (.int .i64 0) (.string ⟨#[]⟩) (.slice a2 1 c2) HbR2.out
      have k3 := put4_keeps w5 (X + 1) (.bool false) (.int .i64 0) (.string ⟨#[]⟩) (.slice a2 1 c2)
      have hsz := k3.size
      have hs := Hs.out
      have hxx := HX.out
      (try simp only [Exit.inBlock, Exit.then])
      refine bodyPost_ret (results_cell_row rfl _ _ _ _ _ _ _ rfl hb3 Tryd.underlying29 rfl (by kernel_rfl)) rfl ⟨a2, c2, rfl, ?_, ?_⟩
      · exact ((HG.out.mono fun _ _ h => h.elim).trans HI5.out.kp (fun j hj e => by omega)).trans k3 (fun j hj e => by omega)
      · have hkk := HI5.out.kp.size
        show ZRow _ _ _ _ _ _ [v]
        exact (HI5.out.row.kept fun b h1 h2 => k3.block b h2 (by omega)).wide (by omega) hsz
    · go_simp
      refine hK.out _ _ (HS.out _ (HK1.out.alloc _)) (fun hHeld => ?_)
      clear hK Kc
      (try simp only [Act.put]); (try simp only [List.setIfInBounds_toArray]); (try simp only [List.set_cons_succ]); (try simp only [List.set_cons_zero])
      refine wpAnyH_ready (rs := [1]) (by kernel_rfl) (by simp) ?_
      refine AllReadyH.cons (o := { dst := some 38, op := Go.Op.load 27 (Go.Operand.tmp 37), type := 27, pos := "ref.go:243", after := #[{ on := 0, ground := Go.Ground.data }], guard := none }) rfl (fun Kc hK => ?_) AllReadyH.nil
      go_simp
      refine hK.out _ _ hHeld (fun hHeld => ?_)
      clear hK Kc
      (try simp only [Act.put]); (try simp only [List.setIfInBounds_toArray]); (try simp only [List.set_cons_succ]); (try simp only [List.set_cons_zero])
      refine wpAnyH_ready (rs := [8]) (by kernel_rfl) (by simp) ?_
      refine AllReadyH.cons (o := { dst := some 45, op := Go.Op.call { callee := Go.Callee.builtin Go.Builtin.append, args := #[Go.Operand.tmp 38, Go.Operand.tmp 44], argTypes := #[27, 27] }, type := 27, pos := "ref.go:243", after := #[{ on := 1, ground := Go.Ground.data }, { on := 7, ground := Go.Ground.data }, { on := 6, ground := Go.Ground.chain }], guard := none }) rfl (fun Kc hK => ?_) AllReadyH.nil
      refine step_append_anyN _ rfl (.tmp 38) (.tmp 44) 27 27 rfl 29 _ 4 56 Tryd.underlying27 info29 rfl _ 0 xs rfl (HOW.out _ (HG2.out.alloc _)) _ 1 _ rfl (src_val w2 _ _ _ _ rfl rfl rfl rfl) hb63 hb56 ?_
      intro v' w3 hown' hgr' hor'
      obtain ⟨a2, c2, rfl, hb3, kV, hI4⟩ := HI.out.push HYV.out rfl HE.out.1 HE.out.2 HOK.out (by omega) (HOW.out _ (HG2.out.alloc _)) hown' hgr' hor'
      have HK3 := hidM kV
      have HI4 := hidM hI4
      have y3c := (B4.cells hb3).2.2.2
      have u3c := frz hb3 3
      clear hown' hgr' hor' hb3 kV hI4
      refine hK.out _ _ (HS.out _ HK3.out) (fun hHeld => ?_)
      clear hK Kc
      (try simp only [Act.put]); (try simp only [List.setIfInBounds_toArray]); (try simp only [List.set_cons_succ]); (try simp only [List.set_cons_zero])
      refine wpAnyH_take (i := 9) (oi := { dst := some 46, op := Go.Op.fieldAddr 29 (Go.Operand.tmp 4) 3, type := 0, pos := "ref.go:243", after := #[{ on := 0, ground := Go.Ground.phase }, { on := 1, ground := Go.Ground.phase }, { on := 2, ground := Go.Ground.phase }, { on := 3, ground := Go.Ground.phase }, { on := 4, ground := Go.Ground.phase }, { on := 5, ground := Go.Ground.phase }, { on := 6, ground := Go.Ground.phase }, { on := 7, ground := Go.Ground.phase }, { on := 8, ground := Go.Ground.phase }], guard := none }) (v := ?v9t31) rfl (by kernel_rfl) (by kernel_rfl) (by kernel_rfl) (fun _ _ _ h => h) (Or.inl ⟨by rfl, ?y9t31⟩) (by assumption) ?r9t31
      case y9t31 => (intro w hSw; obtain ⟨s2, c0, c1, c2', c3, c4, c5, c6⟩ := hSw; go_simp; (try with_reducible rfl))
      (try simp only [Act.put]); (try simp only [List.setIfInBounds_toArray]); (try simp only [List.set_cons_succ]); (try simp only [List.set_cons_zero])
      refine wpAnyH_ready (rs := [10]) (by kernel_rfl) (by simp) ?_
      refine AllReadyH.cons (o := { dst := none, op := Go.Op.store 27 (Go.Operand.tmp 46) (Go.Operand.tmp 45), type := 0, pos := "ref.go:243", after := #[{ on := 9, ground := Go.Ground.data }, { on := 8, ground := Go.Ground.data }, { on := 8, ground := Go.Ground.chain }, { on := 0, ground := Go.Ground.phase }, { on := 1, ground := Go.Ground.phase }, { on := 2, ground := Go.Ground.phase }, { on := 3, ground := Go.Ground.phase }, { on := 4, ground := Go.Ground.phase }, { on := 5, ground := Go.Ground.phase }, { on := 6, ground := Go.Ground.phase }, { on := 7, ground := Go.Ground.phase }, { on := 8, ground := Go.Ground.phase }], guard := none }) rfl (fun Kc hK => ?_) AllReadyH.nil
      go_simp
      refine hK.out _ _ (HS.out _ (HK3.out.setCell (p := ⟨X + 1 + 1 + 1, 3, none⟩) (fun _ => rfl) _)) (fun hHeld => ?_)
      clear hK Kc
      (try simp only [Act.put]); (try simp only [List.setIfInBounds_toArray]); (try simp only [List.set_cons_succ]); (try simp only [List.set_cons_zero])
      refine wpAnyH_done (by kernel_rfl) ?_ _
      obtain ⟨w5, hw5⟩ : ∃ w5, w3.setCell ⟨X + 1 + 1 + 1, 3, none⟩ (.slice a2 (0 + 1) c2) = w5 := ⟨_, rfl⟩
      rw [hw5] at HI4 ⊢
      have HI5 : Hid (ZI V w5 (X + 1 + 1 + 1) DD [v] 1 a2 c2) := HI4.out
      clear hw5 HI4 y3c u3c hHeld
      have hbY := HI5.out.box
      have bR2 : B4 w5 (X + 1) false 0 ⟨#[]⟩ none 0 0 := (HI5.out.kp.block _ (lt_of_heap HbR.out) (by omega)).trans HbR.out
      obtain ⟨r0, r1, r2, r3⟩ := B4.cells bR2
      have z0 := frz bR2 0
      have z1 := frz bR2 1
      have z2 := frz bR2 2
      have z3 := frz bR2 3
      obtain ⟨y0, y1, y2, y3⟩ := B4.cells hbY
      have HbR2 := hidM bR2
      clear bR2 hbY
      go_wp2_with fail
      have hb3 := put4_box (.bool false) (.int .i64 0) (.string ⟨#[]⟩) (.slice a2 1 c2) HbR2.out
      have k3 := put4_keeps w5 (X + 1) (.bool false) (.int .i64 0) (.string ⟨#[]⟩) (.slice a2 1 c2)
      have hsz := k3.size
      have hs := Hs.out
      have hxx := HX.out
      (try simp only [Exit.inBlock, Exit.then])
      refine bodyPost_ret (results_cell_row rfl _ _ _ _ _ _ _ rfl hb3 Tryd.underlying29 rfl (by kernel_rfl)) rfl ⟨a2, c2, rfl, ?_, ?_⟩
      · exact ((HG.out.mono fun _ _ h => h.elim).trans HI5.out.kp (fun j hj e => by omega)).trans k3 (fun j hj e => by omega)
      · have hkk := HI5.out.kp.size
        show ZRow _ _ _ _ _ _ [v]
        exact (HI5.out.row.kept fun b h1 h2 => k3.block b h2 (by omega)).wide (by omega) hsz
set_option maxRecDepth 100000 in
set_option maxHeartbeats 4000000 in
theorem zr17 (S : Nat → Prop) (D : Nat) (w : World) (hS : ∀ b, S b → b < w.heap.size) (f0 : ByteArray) (f3 f4 f5 : Int) (fo : Option Addr) (ca : Nat) (fs : List FT) (zz : FT → VT) (DD : Nat) (hf : RowAt S w (D + 1) fo fs) (hoks : ∀ k ∈ fs, VOk (zz k))
    (hkid : ∀ (k : Nat) (hk : k < fs.length) (go : Option Addr) (gc : Nat), fs[k].kids.length ≤ gc → RowAt S w D go fs[k].kids → ZeC 36 w (.agg #[.string fs[k].name, .bool fs[k].nul, .int .i64 fs[k].kind, .int .i64 fs[k].width, .int .i64 fs[k].id, .int .i64 fs[k].index, .slice go fs[k].kids.length gc]) DD (zz fs[k])) :
    ZeC 36 w (.agg #[.string f0, .bool false, .int .i64 17, .int .i64 f3, .int .i64 f4, .int .i64 f5, .slice fo fs.length ca]) (DD + 1) (.mk false 0 ⟨#[]⟩ (fs.map zz)) := by
  have hlf : fs.length ≤ 1000000000000 := hf.len
  have HFr := hidM hf
  have HS0 := hidM hS
  have HKid := hidM hkid
  have HOKs := hidM hoks
  obtain ⟨L, hL⟩ : ∃ L, L = fs.length := ⟨_, rfl⟩
  rw [← hL] at hlf ⊢
  have HL := hidM hL
  clear hf hS hkid hoks hL
  intro W g
  obtain ⟨V, hV⟩ : ∃ V, (((W.alloc (.cells #[.string f0, .bool false, .int .i64 17, .int .i64 f3, .int .i64 f4, .int .i64 f5, .slice fo L ca] 26)).alloc (.cells #[.bool false, .int .i64 0, .string ⟨#[]⟩, .slice none 0 0] 29)).alloc (.cells #[.bool false, .int .i64 0, .string ⟨#[]⟩, .slice none 0 0] 29)).alloc (.cells #[.int .i64 17, .int .i64 f3, .int .i64 f4, .int .i64 f5, .slice fo L ca] 24) = V := ⟨_, rfl⟩
  have hA := alloc4 W (.cells #[.string f0, .bool false, .int .i64 17, .int .i64 f3, .int .i64 f4, .int .i64 f5, .slice fo L ca] 26) (.cells #[.bool false, .int .i64 0, .string ⟨#[]⟩, .slice none 0 0] 29) (.cells #[.bool false, .int .i64 0, .string ⟨#[]⟩, .slice none 0 0] 29) (.cells #[.int .i64 17, .int .i64 f3, .int .i64 f4, .int .i64 f5, .slice fo L ca] 24)
  rw [hV] at hA
  obtain ⟨b7, bR, b3, b4', gV⟩ := hA
  have HbR : Hid (B4 V (W.heap.size + 1) false 0 ⟨#[]⟩ none 0 0) := bR
  have HbY : Hid (B4 V (W.heap.size + 1 + 1) false 0 ⟨#[]⟩ none 0 0) := b3
  have HbT : Hid (B5 V (W.heap.size + 1 + 1 + 1) 17 f3 f4 f5 fo L ca) := b4'
  have gg : Gr w V := g.trans gV (fun _ _ h => h)
  have hsz : V.heap.size = W.heap.size + 4 := by rw [← hV]; simp
  have HA4 : Hid (∀ o1 o2 o3 o4, Gr W ((((W.alloc o1).alloc o2).alloc o3).alloc o4)) := fun o1 o2 o3 o4 => (((gr_alloc W o1).alloc o2).alloc o3).alloc o4
  have HG := hidM gV
  have HWw := hidM g.size
  have HGg := hidM gg
  have Hs := hidM hsz
  have HV := hidM hV
  clear gV gg g hsz b7 bR b3 b4' hV 
  go_enter Tryd.func36, Tryd.ntmps36
  go_wp2
  rw [HV.out]
  obtain ⟨X, hX⟩ : ∃ X, X = W.heap.size := ⟨_, rfl⟩
  rw [← hX] at HbR HbY HbT Hs ⊢
  have HX := hidM hX
  clear hX HV HA4
  have HYV : Hid (X + 1 + 1 < V.heap.size) := by have := Hs.out; have := HX.out; show _ < _; omega
  go_loopw [42] (fun p wr => ∃ k : Nat, k ≤ L ∧ p = .int .i64 (k : Int) ∧ Hid (∃ lo' lc, ZI V wr (X + 1 + 1) DD ((fs.take k).map zz) k lo' lc)) (fun p _ => L - (intOf p).toNat)
  case atStart => exact ⟨0, by omega, rfl, none, 0, rfl, Keeps.refl _ _, HbY.out, ZRow.nil _ _ _ _⟩
  case round =>
    obtain ⟨k, hk, rfl, HK⟩ := hrel
    obtain ⟨lo', lc, hI⟩ := HK.out
    obtain ⟨t0, t1, t2, t3, t4⟩ := B5.cells ((hI.kp.block _ (lt_of_heap HbT.out) (by omega)).trans HbT.out)
    by_cases hlt : k < L
    · have hkf : k < fs.length := by have := HL.out; omega
      obtain ⟨fb, fp, rfl, hfb, hfs⟩ := HFr.out.2 (fun e => by subst e; simp at hkf)
      obtain ⟨go, gc, hg, hgle, hgrow⟩ := hfs k hkf
      have hcall := HKid.out k hkf go gc hgle hgrow
      have hokk := HOKs.out _ (List.getElem_mem hkf)
      have hnext : (fs.take k).map zz ++ [zz fs[k]] = (fs.take (k + 1)).map zz := by rw [List.take_succ_eq_append_getElem hkf, List.map_append]; rfl
      obtain ⟨g, hge⟩ : ∃ g, g = fs[k]'hkf := ⟨_, rfl⟩
      rw [← hge] at hcall hg hokk hnext
      obtain ⟨v, hv⟩ : ∃ v, v = zz g := ⟨_, rfl⟩
      rw [← hv] at hcall hokk hnext
      have HF := hidM hcall
      have HOK := hidM hokk
      have HNx := hidM hnext
      have gw : Gr w wr := (HGg.out.mono fun _ _ h => h.elim).trans hI.kp (fun j hj e => by have := HX.out; have := HWw.out; omega)
      obtain ⟨c0, c1, c2, c3, c4, c5, c6⟩ := hg.kept (gw.block fb (HS0.out fb hfb) id)
      have hb63 : k + 1 ≤ 9223372036854775807 := by omega
      have hb56 : (k + 1) * 56 ≤ 140737488355328 := by omega
      have hltI : (k : Int) < (L : Int) := by omega
      clear hfs hgle hgrow hcall hokk hnext hge hv HK
      obtain ⟨Vb, hVb⟩ : ∃ Vb, wr.alloc (.cells #[.string g.name, .bool g.nul, .int .i64 g.kind, .int .i64 g.width, .int .i64 g.id, .int .i64 g.index, .slice go g.kids.length gc] 26) = Vb := ⟨_, rfl⟩
      have gvb : Gr wr Vb := by rw [← hVb]; exact gr_alloc wr _
      have b7 : B7 Vb wr.heap.size g.name g.nul g.kind g.width g.id g.index go g.kids.length gc := by unfold B7; rw [← hVb]; exact heap_alloc_new wr _
      obtain ⟨Bx, hBx⟩ : ∃ Bx, Bx = wr.heap.size := ⟨_, rfl⟩
      have hbs : Vb.heap.size = wr.heap.size + 1 := by rw [← hVb]; simp
      have hIb := hI.gr gvb
      have hob := hI.ownAt
      have HYw : Hid (X + 1 + 1 < wr.heap.size) := Nat.lt_of_lt_of_le HYV.out hI.kp.size
      have hneB : ∀ z, (z = X + 1 + 1 ∨ (Value.slice lo' k lc).ownBlock = some z) → ¬ z = wr.heap.size := by
        rintro z (e | e) e2
        · have := HYw.out; omega
        · have := hob z e; omega
      have HS : Hid (∀ W', Keeps Vb W' (fun z => z = X + 1 + 1 ∨ (Value.slice lo' k lc).ownBlock = some z) → W'.cell? ⟨Bx, 0, none⟩ = some (.string g.name) ∧ W'.cell? ⟨Bx, 1, none⟩ = some (.bool g.nul) ∧ W'.cell? ⟨Bx, 2, none⟩ = some (.int .i64 g.kind) ∧ W'.cell? ⟨Bx, 3, none⟩ = some (.int .i64 g.width) ∧ W'.cell? ⟨Bx, 4, none⟩ = some (.int .i64 g.id) ∧ W'.cell? ⟨Bx, 5, none⟩ = some (.int .i64 g.index) ∧ W'.cell? ⟨Bx, 6, none⟩ = some (.slice go g.kids.length gc)) := fun W' kk => by
        rw [hBx]
        exact B7.cells ((kk.block _ (lt_of_heap b7) (fun e => hneB _ e rfl)).trans b7)
      have HI := hidM hIb
      have y3d : Vb.drew.cell? ⟨X + 1 + 1, 3, none⟩ = some (.slice lo' k lc) := (B4.cells hIb.box).2.2.2
      have HK0 : Hid (Keeps Vb Vb.drew (fun z => z = X + 1 + 1 ∨ (Value.slice lo' k lc).ownBlock = some z)) := (Keeps.refl Vb _).drew
      have HGr : Hid (Gr Vb Vb.drew) := (Keeps.refl Vb _).drew
      have HGd : Hid (Gr w Vb.drew) := (gw.trans gvb (fun _ _ h => h)).drew
      obtain ⟨xs, hxs⟩ := hIb.owns
      have HOW := hidM hxs
      have HVb := hidM hVb
      have HBx := hidM hBx
      clear hVb gvb b7 hbs hIb hob hneB hI hxs gw hBx
      go_wp2
      rw [HVb.out, ← HBx.out]
      clear c0 c1 c2 c3 c4 c5 c6 t0 t1 t2 t3 t4
      refine wp_region_held_drew (S := fun w' => w'.cell? ⟨Bx, 0, none⟩ = some (.string g.name) ∧ w'.cell? ⟨Bx, 1, none⟩ = some (.bool g.nul) ∧ w'.cell? ⟨Bx, 2, none⟩ = some (.int .i64 g.kind) ∧ w'.cell? ⟨Bx, 3, none⟩ = some (.int .i64 g.width) ∧ w'.cell? ⟨Bx, 4, none⟩ = some (.int .i64 g.id) ∧ w'.cell? ⟨Bx, 5, none⟩ = some (.int .i64 g.index) ∧ w'.cell? ⟨Bx, 6, none⟩ = some (.slice go g.kids.length gc)) (by kernel_rfl) (HS.out _ HK0.out) (fun hHeld => ?_)
      refine wpAnyH_take (i := 0) (oi := { dst := some 46, op := Go.Op.fieldAddr 29 (Go.Operand.tmp 3) 3, type := 0, pos := "zero.go:58", after := #[], guard := none }) (v := ?v0a1) rfl (by kernel_rfl) (by kernel_rfl) (by kernel_rfl) (fun _ _ _ h => h) (Or.inl ⟨by rfl, ?y0a1⟩) (by assumption) ?r0a1
      case y0a1 => (intro w hSw; obtain ⟨c0, c1, c2', c3, c4, c5, c6⟩ := hSw; go_simp; (try with_reducible rfl))
      (try simp only [Act.put]); (try simp only [List.setIfInBounds_toArray]); (try simp only [List.set_cons_succ]); (try simp only [List.set_cons_zero])
      refine wpAnyH_take (i := 2) (oi := { dst := some 48, op := Go.Op.load 26 (Go.Operand.tmp 6), type := 26, pos := "zero.go:58", after := #[], guard := none }) (v := ?v2a2) rfl (by kernel_rfl) (by kernel_rfl) (by kernel_rfl) (fun _ _ _ h => h) (Or.inl ⟨by rfl, ?y2a2⟩) (by assumption) ?r2a2
      case y2a2 => (intro w hSw; obtain ⟨c0, c1, c2', c3, c4, c5, c6⟩ := hSw; go_simp; (try with_reducible rfl))
      (try simp only [Act.put]); (try simp only [List.setIfInBounds_toArray]); (try simp only [List.set_cons_succ]); (try simp only [List.set_cons_zero])
      refine wpAnyH_ready (rs := [1, 3]) (by kernel_rfl) (by simp) ?_
      refine AllReadyH.cons (o := { dst := some 47, op := Go.Op.load 27 (Go.Operand.tmp 46), type := 27, pos := "zero.go:58", after := #[{ on := 0, ground := Go.Ground.data }], guard := none }) rfl (fun Kc hK => ?_) (AllReadyH.cons (o := { dst := some 49, op := Go.Op.call { callee := Go.Callee.value (Go.Operand.func 36), args := #[Go.Operand.tmp 48], argTypes := #[26] }, type := 29, pos := "zero.go:58", after := #[{ on := 2, ground := Go.Ground.data }], guard := none }) rfl (fun Kc hK => ?_) AllReadyH.nil)
      · go_simp
        refine hK.out _ _ hHeld (fun hHeld => ?_)
        clear hK Kc
        (try simp only [Act.put]); (try simp only [List.setIfInBounds_toArray]); (try simp only [List.set_cons_succ]); (try simp only [List.set_cons_zero])
        refine wpAnyH_ready (rs := [3]) (by kernel_rfl) (by simp) ?_
        refine AllReadyH.cons (o := { dst := some 49, op := Go.Op.call { callee := Go.Callee.value (Go.Operand.func 36), args := #[Go.Operand.tmp 48], argTypes := #[26] }, type := 29, pos := "zero.go:58", after := #[{ on := 2, ground := Go.Ground.data }], guard := none }) rfl (fun Kc hK => ?_) AllReadyH.nil
        go_simp
        go_at_call 36
        refine Calls.mono (HF.out _ HGd.out) ?_
        rintro e' w2 ⟨o, c, rfl, hg2, hz2⟩
        have HE := hidM (And.intro hg2 hz2)
        have HK1 := hidM (HK0.out.trans hg2 (fun _ _ h => h.elim))
        have HG2 := hidM (HGr.out.trans hg2 (fun _ _ h => h))
        have y3b := gr_c hg2 y3d
        have y3a := fun ob => gr_c (gr_alloc w2 ob) y3b
        clear hg2 hz2
        go_wp2_with fail
        refine hK.out _ _ (HS.out _ HK1.out) (fun hHeld => ?_)
        clear hK Kc
        (try simp only [Act.put]); (try simp only [List.setIfInBounds_toArray]); (try simp only [List.set_cons_succ]); (try simp only [List.set_cons_zero])
        refine wpAnyH_ready (rs := [4]) (by kernel_rfl) (by simp) ?_
        refine AllReadyH.cons (o := { dst := some 50, op := Go.Op.buildSlice 27 1 #[(0, Go.Operand.tmp 49)], type := 27, pos := "zero.go:58", after := #[{ on := 3, ground := Go.Ground.data }], guard := none }) rfl (fun Kc hK => ?_) AllReadyH.nil
        go_simp
        refine hK.out _ _ (HS.out _ (HK1.out.alloc _)) (fun hHeld => ?_)
        clear hK Kc
        (try simp only [Act.put]); (try simp only [List.setIfInBounds_toArray]); (try simp only [List.set_cons_succ]); (try simp only [List.set_cons_zero])
        refine wpAnyH_ready (rs := [5]) (by kernel_rfl) (by simp) ?_
        refine AllReadyH.cons (o := { dst := some 51, op := Go.Op.call { callee := Go.Callee.builtin Go.Builtin.append, args := #[Go.Operand.tmp 47, Go.Operand.tmp 50], argTypes := #[27, 27] }, type := 27, pos := "zero.go:58", after := #[{ on := 1, ground := Go.Ground.data }, { on := 4, ground := Go.Ground.data }, { on := 3, ground := Go.Ground.chain }], guard := none }) rfl (fun Kc hK => ?_) AllReadyH.nil
        refine step_append_anyN _ rfl (.tmp 47) (.tmp 50) 27 27 rfl 29 _ 4 56 Tryd.underlying27 info29 rfl _ k xs rfl (HOW.out _ (HG2.out.alloc _)) _ 1 _ rfl (src_val w2 _ _ _ _ rfl rfl rfl rfl) hb63 hb56 ?_
        intro v' w3 hown' hgr' hor'; have hk3 := Keeps.ofGrown hgr'
        obtain ⟨a2, c2, rfl, hb3, kV, hI4⟩ := HI.out.push HYV.out rfl HE.out.1 HE.out.2 HOK.out (by omega) (HOW.out _ (HG2.out.alloc _)) hown' hgr' hor'
        have HK3 := hidM ((HK1.out.alloc _).trans hk3 (fun _ _ e => .inr e))
        have HI4 := hidM hI4
        have y3c := (B4.cells hb3).2.2.2
        have u3c := frz hb3 3
        clear hown' hgr' hor' hb3 kV hI4 hk3
        refine hK.out _ _ (HS.out _ HK3.out) (fun hHeld => ?_)
        clear hK Kc
        (try simp only [Act.put]); (try simp only [List.setIfInBounds_toArray]); (try simp only [List.set_cons_succ]); (try simp only [List.set_cons_zero])
        refine wpAnyH_take (i := 6) (oi := { dst := some 52, op := Go.Op.fieldAddr 29 (Go.Operand.tmp 3) 3, type := 0, pos := "zero.go:58", after := #[{ on := 0, ground := Go.Ground.phase }, { on := 1, ground := Go.Ground.phase }, { on := 2, ground := Go.Ground.phase }, { on := 3, ground := Go.Ground.phase }, { on := 4, ground := Go.Ground.phase }, { on := 5, ground := Go.Ground.phase }], guard := none }) (v := ?v6t11) rfl (by kernel_rfl) (by kernel_rfl) (by kernel_rfl) (fun _ _ _ h => h) (Or.inl ⟨by rfl, ?y6t11⟩) (by assumption) ?r6t11
        case y6t11 => (intro w hSw; obtain ⟨c0, c1, c2', c3, c4, c5, c6⟩ := hSw; go_simp; (try with_reducible rfl))
        (try simp only [Act.put]); (try simp only [List.setIfInBounds_toArray]); (try simp only [List.set_cons_succ]); (try simp only [List.set_cons_zero])
        refine wpAnyH_ready (rs := [7]) (by kernel_rfl) (by simp) ?_
        refine AllReadyH.cons (o := { dst := none, op := Go.Op.store 27 (Go.Operand.tmp 52) (Go.Operand.tmp 51), type := 0, pos := "zero.go:58", after := #[{ on := 6, ground := Go.Ground.data }, { on := 5, ground := Go.Ground.data }, { on := 5, ground := Go.Ground.chain }, { on := 0, ground := Go.Ground.phase }, { on := 1, ground := Go.Ground.phase }, { on := 2, ground := Go.Ground.phase }, { on := 3, ground := Go.Ground.phase }, { on := 4, ground := Go.Ground.phase }, { on := 5, ground := Go.Ground.phase }], guard := none }) rfl (fun Kc hK => ?_) AllReadyH.nil
        go_simp
        refine hK.out _ _ (HS.out _ (HK3.out.setCell (p := ⟨X + 1 + 1, 3, none⟩) (fun _ => .inl rfl) _)) (fun hHeld => ?_)
        clear hK Kc
        (try simp only [Act.put]); (try simp only [List.setIfInBounds_toArray]); (try simp only [List.set_cons_succ]); (try simp only [List.set_cons_zero])
        refine wpAnyH_done (by kernel_rfl) ?_ _
        rw [HNx.out] at HI4
        go_wp2_with fail
        go_roundw
        case rel => exact ⟨k + 1, by omega, by simp, a2, c2, HI4.out⟩
        case measure => simp [intOf]; omega
      · go_simp
        go_at_call 36
        refine Calls.mono (HF.out _ HGd.out) ?_
        rintro e' w2 ⟨o, c, rfl, hg2, hz2⟩
        have HE := hidM (And.intro hg2 hz2)
        have HK1 := hidM (HK0.out.trans hg2 (fun _ _ h => h.elim))
        have HG2 := hidM (HGr.out.trans hg2 (fun _ _ h => h))
        have y3b := gr_c hg2 y3d
        have y3a := fun ob => gr_c (gr_alloc w2 ob) y3b
        clear hg2 hz2
        go_wp2_with fail
        refine hK.out _ _ (HS.out _ HK1.out) (fun hHeld => ?_)
        clear hK Kc
        (try simp only [Act.put]); (try simp only [List.setIfInBounds_toArray]); (try simp only [List.set_cons_succ]); (try simp only [List.set_cons_zero])
        refine wpAnyH_ready (rs := [1, 4]) (by kernel_rfl) (by simp) ?_
        refine AllReadyH.cons (o := { dst := some 47, op := Go.Op.load 27 (Go.Operand.tmp 46), type := 27, pos := "zero.go:58", after := #[{ on := 0, ground := Go.Ground.data }], guard := none }) rfl (fun Kc hK => ?_) (AllReadyH.cons (o := { dst := some 50, op := Go.Op.buildSlice 27 1 #[(0, Go.Operand.tmp 49)], type := 27, pos := "zero.go:58", after := #[{ on := 3, ground := Go.Ground.data }], guard := none }) rfl (fun Kc hK => ?_) AllReadyH.nil)
        · go_simp
          refine hK.out _ _ hHeld (fun hHeld => ?_)
          clear hK Kc
          (try simp only [Act.put]); (try simp only [List.setIfInBounds_toArray]); (try simp only [List.set_cons_succ]); (try simp only [List.set_cons_zero])
          refine wpAnyH_ready (rs := [4]) (by kernel_rfl) (by simp) ?_
          refine AllReadyH.cons (o := { dst := some 50, op := Go.Op.buildSlice 27 1 #[(0, Go.Operand.tmp 49)], type := 27, pos := "zero.go:58", after := #[{ on := 3, ground := Go.Ground.data }], guard := none }) rfl (fun Kc hK => ?_) AllReadyH.nil
          go_simp
          refine hK.out _ _ (HS.out _ (HK1.out.alloc _)) (fun hHeld => ?_)
          clear hK Kc
          (try simp only [Act.put]); (try simp only [List.setIfInBounds_toArray]); (try simp only [List.set_cons_succ]); (try simp only [List.set_cons_zero])
          refine wpAnyH_ready (rs := [5]) (by kernel_rfl) (by simp) ?_
          refine AllReadyH.cons (o := { dst := some 51, op := Go.Op.call { callee := Go.Callee.builtin Go.Builtin.append, args := #[Go.Operand.tmp 47, Go.Operand.tmp 50], argTypes := #[27, 27] }, type := 27, pos := "zero.go:58", after := #[{ on := 1, ground := Go.Ground.data }, { on := 4, ground := Go.Ground.data }, { on := 3, ground := Go.Ground.chain }], guard := none }) rfl (fun Kc hK => ?_) AllReadyH.nil
          refine step_append_anyN _ rfl (.tmp 47) (.tmp 50) 27 27 rfl 29 _ 4 56 Tryd.underlying27 info29 rfl _ k xs rfl (HOW.out _ (HG2.out.alloc _)) _ 1 _ rfl (src_val w2 _ _ _ _ rfl rfl rfl rfl) hb63 hb56 ?_
          intro v' w3 hown' hgr' hor'; have hk3 := Keeps.ofGrown hgr'
          obtain ⟨a2, c2, rfl, hb3, kV, hI4⟩ := HI.out.push HYV.out rfl HE.out.1 HE.out.2 HOK.out (by omega) (HOW.out _ (HG2.out.alloc _)) hown' hgr' hor'
          have HK3 := hidM ((HK1.out.alloc _).trans hk3 (fun _ _ e => .inr e))
          have HI4 := hidM hI4
          have y3c := (B4.cells hb3).2.2.2
          have u3c := frz hb3 3
          clear hown' hgr' hor' hb3 kV hI4 hk3
          refine hK.out _ _ (HS.out _ HK3.out) (fun hHeld => ?_)
          clear hK Kc
          (try simp only [Act.put]); (try simp only [List.setIfInBounds_toArray]); (try simp only [List.set_cons_succ]); (try simp only [List.set_cons_zero])
          refine wpAnyH_take (i := 6) (oi := { dst := some 52, op := Go.Op.fieldAddr 29 (Go.Operand.tmp 3) 3, type := 0, pos := "zero.go:58", after := #[{ on := 0, ground := Go.Ground.phase }, { on := 1, ground := Go.Ground.phase }, { on := 2, ground := Go.Ground.phase }, { on := 3, ground := Go.Ground.phase }, { on := 4, ground := Go.Ground.phase }, { on := 5, ground := Go.Ground.phase }], guard := none }) (v := ?v6t21) rfl (by kernel_rfl) (by kernel_rfl) (by kernel_rfl) (fun _ _ _ h => h) (Or.inl ⟨by rfl, ?y6t21⟩) (by assumption) ?r6t21
          case y6t21 => (intro w hSw; obtain ⟨c0, c1, c2', c3, c4, c5, c6⟩ := hSw; go_simp; (try with_reducible rfl))
          (try simp only [Act.put]); (try simp only [List.setIfInBounds_toArray]); (try simp only [List.set_cons_succ]); (try simp only [List.set_cons_zero])
          refine wpAnyH_ready (rs := [7]) (by kernel_rfl) (by simp) ?_
          refine AllReadyH.cons (o := { dst := none, op := Go.Op.store 27 (Go.Operand.tmp 52) (Go.Operand.tmp 51), type := 0, pos := "zero.go:58", after := #[{ on := 6, ground := Go.Ground.data }, { on := 5, ground := Go.Ground.data }, { on := 5, ground := Go.Ground.chain }, { on := 0, ground := Go.Ground.phase }, { on := 1, ground := Go.Ground.phase }, { on := 2, ground := Go.Ground.phase }, { on := 3, ground := Go.Ground.phase }, { on := 4, ground := Go.Ground.phase }, { on := 5, ground := Go.Ground.phase }], guard := none }) rfl (fun Kc hK => ?_) AllReadyH.nil
          go_simp
          refine hK.out _ _ (HS.out _ (HK3.out.setCell (p := ⟨X + 1 + 1, 3, none⟩) (fun _ => .inl rfl) _)) (fun hHeld => ?_)
          clear hK Kc
          (try simp only [Act.put]); (try simp only [List.setIfInBounds_toArray]); (try simp only [List.set_cons_succ]); (try simp only [List.set_cons_zero])
          refine wpAnyH_done (by kernel_rfl) ?_ _
          rw [HNx.out] at HI4
          go_wp2_with fail
          go_roundw
          case rel => exact ⟨k + 1, by omega, by simp, a2, c2, HI4.out⟩
          case measure => simp [intOf]; omega
        · go_simp
          refine hK.out _ _ (HS.out _ (HK1.out.alloc _)) (fun hHeld => ?_)
          clear hK Kc
          (try simp only [Act.put]); (try simp only [List.setIfInBounds_toArray]); (try simp only [List.set_cons_succ]); (try simp only [List.set_cons_zero])
          refine wpAnyH_ready (rs := [1]) (by kernel_rfl) (by simp) ?_
          refine AllReadyH.cons (o := { dst := some 47, op := Go.Op.load 27 (Go.Operand.tmp 46), type := 27, pos := "zero.go:58", after := #[{ on := 0, ground := Go.Ground.data }], guard := none }) rfl (fun Kc hK => ?_) AllReadyH.nil
          go_simp
          refine hK.out _ _ hHeld (fun hHeld => ?_)
          clear hK Kc
          (try simp only [Act.put]); (try simp only [List.setIfInBounds_toArray]); (try simp only [List.set_cons_succ]); (try simp only [List.set_cons_zero])
          refine wpAnyH_ready (rs := [5]) (by kernel_rfl) (by simp) ?_
          refine AllReadyH.cons (o := { dst := some 51, op := Go.Op.call { callee := Go.Callee.builtin Go.Builtin.append, args := #[Go.Operand.tmp 47, Go.Operand.tmp 50], argTypes := #[27, 27] }, type := 27, pos := "zero.go:58", after := #[{ on := 1, ground := Go.Ground.data }, { on := 4, ground := Go.Ground.data }, { on := 3, ground := Go.Ground.chain }], guard := none }) rfl (fun Kc hK => ?_) AllReadyH.nil
          refine step_append_anyN _ rfl (.tmp 47) (.tmp 50) 27 27 rfl 29 _ 4 56 Tryd.underlying27 info29 rfl _ k xs rfl (HOW.out _ (HG2.out.alloc _)) _ 1 _ rfl (src_val w2 _ _ _ _ rfl rfl rfl rfl) hb63 hb56 ?_
          intro v' w3 hown' hgr' hor'; have hk3 := Keeps.ofGrown hgr'
          obtain ⟨a2, c2, rfl, hb3, kV, hI4⟩ := HI.out.push HYV.out rfl HE.out.1 HE.out.2 HOK.out (by omega) (HOW.out _ (HG2.out.alloc _)) hown' hgr' hor'
          have HK3 := hidM ((HK1.out.alloc _).trans hk3 (fun _ _ e => .inr e))
          have HI4 := hidM hI4
          have y3c := (B4.cells hb3).2.2.2
          have u3c := frz hb3 3
          clear hown' hgr' hor' hb3 kV hI4 hk3
          refine hK.out _ _ (HS.out _ HK3.out) (fun hHeld => ?_)
          clear hK Kc
          (try simp only [Act.put]); (try simp only [List.setIfInBounds_toArray]); (try simp only [List.set_cons_succ]); (try simp only [List.set_cons_zero])
          refine wpAnyH_take (i := 6) (oi := { dst := some 52, op := Go.Op.fieldAddr 29 (Go.Operand.tmp 3) 3, type := 0, pos := "zero.go:58", after := #[{ on := 0, ground := Go.Ground.phase }, { on := 1, ground := Go.Ground.phase }, { on := 2, ground := Go.Ground.phase }, { on := 3, ground := Go.Ground.phase }, { on := 4, ground := Go.Ground.phase }, { on := 5, ground := Go.Ground.phase }], guard := none }) (v := ?v6t31) rfl (by kernel_rfl) (by kernel_rfl) (by kernel_rfl) (fun _ _ _ h => h) (Or.inl ⟨by rfl, ?y6t31⟩) (by assumption) ?r6t31
          case y6t31 => (intro w hSw; obtain ⟨c0, c1, c2', c3, c4, c5, c6⟩ := hSw; go_simp; (try with_reducible rfl))
          (try simp only [Act.put]); (try simp only [List.setIfInBounds_toArray]); (try simp only [List.set_cons_succ]); (try simp only [List.set_cons_zero])
          refine wpAnyH_ready (rs := [7]) (by kernel_rfl) (by simp) ?_
          refine AllReadyH.cons (o := { dst := none, op := Go.Op.store 27 (Go.Operand.tmp 52) (Go.Operand.tmp 51), type := 0, pos := "zero.go:58", after := #[{ on := 6, ground := Go.Ground.data }, { on := 5, ground := Go.Ground.data }, { on := 5, ground := Go.Ground.chain }, { on := 0, ground := Go.Ground.phase }, { on := 1, ground := Go.Ground.phase }, { on := 2, ground := Go.Ground.phase }, { on := 3, ground := Go.Ground.phase }, { on := 4, ground := Go.Ground.phase }, { on := 5, ground := Go.Ground.phase }], guard := none }) rfl (fun Kc hK => ?_) AllReadyH.nil
          go_simp
          refine hK.out _ _ (HS.out _ (HK3.out.setCell (p := ⟨X + 1 + 1, 3, none⟩) (fun _ => .inl rfl) _)) (fun hHeld => ?_)
          clear hK Kc
          (try simp only [Act.put]); (try simp only [List.setIfInBounds_toArray]); (try simp only [List.set_cons_succ]); (try simp only [List.set_cons_zero])
          refine wpAnyH_done (by kernel_rfl) ?_ _
          rw [HNx.out] at HI4
          go_wp2_with fail
          go_roundw
          case rel => exact ⟨k + 1, by omega, by simp, a2, c2, HI4.out⟩
          case measure => simp [intOf]; omega
    · have hkm : k = L := by omega
      subst hkm
      have HI := hidM hI
      have HTk : Hid ((fs.take k).map zz = fs.map zz) := by show _ = _; rw [List.take_of_length_le (by have := HL.out; omega)]
      clear HK hI
      have hbY := HI.out.box
      have bR2 : B4 wr (X + 1) false 0 ⟨#[]⟩ none 0 0 := (HI.out.kp.block _ (lt_of_heap HbR.out) (by omega)).trans HbR.out
      obtain ⟨r0, r1, r2, r3⟩ := B4.cells bR2
      have z0 := frz bR2 0
      have z1 := frz bR2 1
      have z2 := frz bR2 2
      have z3 := frz bR2 3
      obtain ⟨y0, y1, y2, y3⟩ := B4.cells hbY
      have HbR2 := hidM bR2
      clear bR2 hbY
      go_wp2_with fail
      have hb3 := put4_box (.bool false) (.int .i64 0) (.string ⟨#[]⟩) (.slice lo' k lc) HbR2.out
      have k3 := put4_keeps wr (X + 1) (.bool false) (.int .i64 0) (.string ⟨#[]⟩) (.slice lo' k lc)
      have hsz := k3.size
      have hs := Hs.out
      have hxx := HX.out
      (try simp only [Exit.inBlock, Exit.then])
      refine bodyPost_ret (results_cell_row rfl _ _ _ _ _ _ _ rfl hb3 Tryd.underlying29 rfl (by kernel_rfl)) rfl ⟨lo', lc, by rw [HL.out]; simp [VT.nul, VT.num, VT.text, VT.list], ?_, ?_⟩
      · exact ((HG.out.mono fun _ _ h => h.elim).trans HI.out.kp (fun j hj e => by omega)).trans k3 (fun j hj e => by omega)
      · have hkk := HI.out.kp.size
        show ZRow _ _ _ _ _ _ (fs.map zz)
        rw [← HTk.out]
        exact (HI.out.row.kept fun b h1 h2 => k3.block b h2 (by omega)).wide (by omega) hsz
set_option maxRecDepth 100000 in
set_option maxHeartbeats 4000000 in
theorem dz17 (S : Nat → Prop) (D : Nat) (w : World) (hS : ∀ b, S b → b < w.heap.size) (f0 : ByteArray) (f3 f4 f5 : Int) (fo : Option Addr) (ca : Nat) (fs : List FT) (zz : FT → VT) (DD : Nat) (hf : RowAt S w (D + 1) fo fs) (hoks : ∀ k ∈ fs, VOk (zz k))
    (hkid : ∀ (k : Nat) (hk : k < fs.length) (go : Option Addr) (gc : Nat), fs[k].kids.length ≤ gc → RowAt S w D go fs[k].kids → ZeC 34 w (.agg #[.string fs[k].name, .bool fs[k].nul, .int .i64 fs[k].kind, .int .i64 fs[k].width, .int .i64 fs[k].id, .int .i64 fs[k].index, .slice go fs[k].kids.length gc]) DD (zz fs[k])) :
    ZeC 34 w (.agg #[.string f0, .bool false, .int .i64 17, .int .i64 f3, .int .i64 f4, .int .i64 f5, .slice fo fs.length ca]) (DD + 1) (.mk false 0 ⟨#[]⟩ (fs.map zz)) := by
  have hlf : fs.length ≤ 1000000000000 := hf.len
  have HFr := hidM hf
  have HS0 := hidM hS
  have HKid := hidM hkid
  have HOKs := hidM hoks
  obtain ⟨L, hL⟩ : ∃ L, L = fs.length := ⟨_, rfl⟩
  rw [← hL] at hlf ⊢
  have HL := hidM hL
  clear hf hS hkid hoks hL
  intro W g
  obtain ⟨V, hV⟩ : ∃ V, (((W.alloc (.cells #[.string f0, .bool false, .int .i64 17, .int .i64 f3, .int .i64 f4, .int .i64 f5, .slice fo L ca] 26)).alloc (.cells #[.bool false, .int .i64 0, .string ⟨#[]⟩, .slice none 0 0] 29)).alloc (.cells #[.int .i64 17, .int .i64 f3, .int .i64 f4, .int .i64 f5, .slice fo L ca] 24)).alloc (.cells #[.bool false, .int .i64 0, .string ⟨#[]⟩, .slice none 0 0] 29) = V := ⟨_, rfl⟩
  have hA := alloc4 W (.cells #[.string f0, .bool false, .int .i64 17, .int .i64 f3, .int .i64 f4, .int .i64 f5, .slice fo L ca] 26) (.cells #[.bool false, .int .i64 0, .string ⟨#[]⟩, .slice none 0 0] 29) (.cells #[.int .i64 17, .int .i64 f3, .int .i64 f4, .int .i64 f5, .slice fo L ca] 24) (.cells #[.bool false, .int .i64 0, .string ⟨#[]⟩, .slice none 0 0] 29)
  rw [hV] at hA
  obtain ⟨b7, bR, b3, b4', gV⟩ := hA
  have HbR : Hid (B4 V (W.heap.size + 1) false 0 ⟨#[]⟩ none 0 0) := bR
  have HbY : Hid (B4 V (W.heap.size + 1 + 1 + 1) false 0 ⟨#[]⟩ none 0 0) := b4'
  have HbT : Hid (B5 V (W.heap.size + 1 + 1) 17 f3 f4 f5 fo L ca) := b3
  have gg : Gr w V := g.trans gV (fun _ _ h => h)
  have hsz : V.heap.size = W.heap.size + 4 := by rw [← hV]; simp
  have HA4 : Hid (∀ o1 o2 o3 o4, Gr W ((((W.alloc o1).alloc o2).alloc o3).alloc o4)) := fun o1 o2 o3 o4 => (((gr_alloc W o1).alloc o2).alloc o3).alloc o4
  have HG := hidM gV
  have HWw := hidM g.size
  have HGg := hidM gg
  have Hs := hidM hsz
  have HV := hidM hV
  clear gV gg g hsz b7 bR b3 b4' hV 
  go_enter Tryd.func34, Tryd.ntmps34
  go_wp2
  rw [HV.out]
  obtain ⟨X, hX⟩ : ∃ X, X = W.heap.size := ⟨_, rfl⟩
  rw [← hX] at HbR HbY HbT Hs ⊢
  have HX := hidM hX
  clear hX HV HA4
  have HYV : Hid (X + 1 + 1 + 1 < V.heap.size) := by have := Hs.out; have := HX.out; show _ < _; omega
  go_loopw [6] (fun p wr => ∃ k : Nat, k ≤ L ∧ p = .int .i64 (k : Int) ∧ Hid (∃ lo' lc, ZI V wr (X + 1 + 1 + 1) DD ((fs.take k).map zz) k lo' lc)) (fun p _ => L - (intOf p).toNat)
  case atStart => exact ⟨0, by omega, rfl, none, 0, rfl, Keeps.refl _ _, HbY.out, ZRow.nil _ _ _ _⟩
  case round =>
    obtain ⟨k, hk, rfl, HK⟩ := hrel
    obtain ⟨lo', lc, hI⟩ := HK.out
    obtain ⟨t0, t1, t2, t3, t4⟩ := B5.cells ((hI.kp.block _ (lt_of_heap HbT.out) (by omega)).trans HbT.out)
    by_cases hlt : k < L
    · have hkf : k < fs.length := by have := HL.out; omega
      obtain ⟨fb, fp, rfl, hfb, hfs⟩ := HFr.out.2 (fun e => by subst e; simp at hkf)
      obtain ⟨go, gc, hg, hgle, hgrow⟩ := hfs k hkf
      have hcall := HKid.out k hkf go gc hgle hgrow
      have hokk := HOKs.out _ (List.getElem_mem hkf)
      have hnext : (fs.take k).map zz ++ [zz fs[k]] = (fs.take (k + 1)).map zz := by rw [List.take_succ_eq_append_getElem hkf, List.map_append]; rfl
      obtain ⟨g, hge⟩ : ∃ g, g = fs[k]'hkf := ⟨_, rfl⟩
      rw [← hge] at hcall hg hokk hnext
      obtain ⟨v, hv⟩ : ∃ v, v = zz g := ⟨_, rfl⟩
      rw [← hv] at hcall hokk hnext
      have HF := hidM hcall
      have HOK := hidM hokk
      have HNx := hidM hnext
      have gw : Gr w wr := (HGg.out.mono fun _ _ h => h.elim).trans hI.kp (fun j hj e => by have := HX.out; have := HWw.out; omega)
      obtain ⟨c0, c1, c2, c3, c4, c5, c6⟩ := hg.kept (gw.block fb (HS0.out fb hfb) id)
      have hb63 : k + 1 ≤ 9223372036854775807 := by omega
      have hb56 : (k + 1) * 56 ≤ 140737488355328 := by omega
      have hltI : (k : Int) < (L : Int) := by omega
      clear hfs hgle hgrow hcall hokk hnext hge hv HK
      have HfbY : Hid (¬ fb = X + 1 + 1 + 1) := by have := HS0.out fb hfb; have := HX.out; have := HWw.out; show ¬ _; omega
      have HS : Hid (∀ W', Keeps V W' (fun z => z = X + 1 + 1 + 1) → W'.cell? ⟨X + 1 + 1, 4, none⟩ = some (.slice (some ⟨fb, fp, none⟩) L ca) ∧ W'.cell? ⟨fb, fp + k * 7, none⟩ = some (.string g.name) ∧ W'.cell? ⟨fb, fp + k * 7 + 1, none⟩ = some (.bool g.nul) ∧ W'.cell? ⟨fb, fp + k * 7 + 2, none⟩ = some (.int .i64 g.kind) ∧ W'.cell? ⟨fb, fp + k * 7 + 3, none⟩ = some (.int .i64 g.width) ∧ W'.cell? ⟨fb, fp + k * 7 + 4, none⟩ = some (.int .i64 g.id) ∧ W'.cell? ⟨fb, fp + k * 7 + 5, none⟩ = some (.int .i64 g.index) ∧ W'.cell? ⟨fb, fp + k * 7 + 6, none⟩ = some (.slice go g.kids.length gc)) := fun W' kk => by
        obtain ⟨_, _, _, _, t4⟩ := B5.cells ((kk.block _ (lt_of_heap HbT.out) (by omega)).trans HbT.out)
        have hgv := hg.kept (HGg.out.block fb (HS0.out fb hfb) id)
        have hgw := hgv.kept (kk.block fb (Nat.lt_of_lt_of_le (HS0.out fb hfb) HGg.out.size) HfbY.out)
        exact ⟨t4, hgw.c0, hgw.c1, hgw.c2, hgw.c3, hgw.c4, hgw.c5, hgw.c6⟩
      have HI := hidM hI
      have y3d : wr.drew.cell? ⟨X + 1 + 1 + 1, 3, none⟩ = some (.slice lo' k lc) := (B4.cells hI.box).2.2.2
      have HK0 : Hid (Keeps V wr.drew (fun z => z = X + 1 + 1 + 1)) := hI.kp.drew
      have HGr : Hid (Gr wr wr.drew) := (Keeps.refl wr _).drew
      have HGd : Hid (Gr w wr.drew) := gw.drew
      obtain ⟨xs, hxs⟩ := hI.owns
      have HOW := hidM hxs
      clear hI hxs gw
      go_wp2
      clear c0 c1 c2 c3 c4 c5 c6 t0 t1 t2 t3 t4
      refine wp_region_held_drew (S := fun w' => w'.cell? ⟨X + 1 + 1, 4, none⟩ = some (.slice (some ⟨fb, fp, none⟩) L ca) ∧ w'.cell? ⟨fb, fp + k * 7, none⟩ = some (.string g.name) ∧ w'.cell? ⟨fb, fp + k * 7 + 1, none⟩ = some (.bool g.nul) ∧ w'.cell? ⟨fb, fp + k * 7 + 2, none⟩ = some (.int .i64 g.kind) ∧ w'.cell? ⟨fb, fp + k * 7 + 3, none⟩ = some (.int .i64 g.width) ∧ w'.cell? ⟨fb, fp + k * 7 + 4, none⟩ = some (.int .i64 g.id) ∧ w'.cell? ⟨fb, fp + k * 7 + 5, none⟩ = some (.int .i64 g.index) ∧ w'.cell? ⟨fb, fp + k * 7 + 6, none⟩ = some (.slice go g.kids.length gc)) (by kernel_rfl) (HS.out _ HK0.out) (fun hHeld => ?_)
      refine wpAnyH_take (i := 0) (oi := { dst := some 74, op := Go.Op.fieldAddr 29 (Go.Operand.tmp 4) 3, type := 0, pos := "ref.go:250", after := #[], guard := none }) (v := ?v0a1) rfl (by kernel_rfl) (by kernel_rfl) (by kernel_rfl) (fun _ _ _ h => h) (Or.inl ⟨by rfl, ?y0a1⟩) (by assumption) ?r0a1
      case y0a1 => (intro w hSw; obtain ⟨s2, c0, c1, c2', c3, c4, c5, c6⟩ := hSw; go_simp; (try with_reducible rfl))
      (try simp only [Act.put]); (try simp only [List.setIfInBounds_toArray]); (try simp only [List.set_cons_succ]); (try simp only [List.set_cons_zero])
      refine wpAnyH_take (i := 2) (oi := { dst := some 76, op := Go.Op.fieldAddr 24 (Go.Operand.tmp 3) 4, type := 0, pos := "ref.go:250", after := #[], guard := none }) (v := ?v2a2) rfl (by kernel_rfl) (by kernel_rfl) (by kernel_rfl) (fun _ _ _ h => h) (Or.inl ⟨by rfl, ?y2a2⟩) (by assumption) ?r2a2
      case y2a2 => (intro w hSw; obtain ⟨s2, c0, c1, c2', c3, c4, c5, c6⟩ := hSw; go_simp; (try with_reducible rfl))
      (try simp only [Act.put]); (try simp only [List.setIfInBounds_toArray]); (try simp only [List.set_cons_succ]); (try simp only [List.set_cons_zero])
      refine wpAnyH_take (i := 3) (oi := { dst := some 77, op := Go.Op.load 22 (Go.Operand.tmp 76), type := 22, pos := "ref.go:250", after := #[{ on := 2, ground := Go.Ground.data }], guard := none }) (v := ?v3a3) rfl (by kernel_rfl) (by kernel_rfl) (by kernel_rfl) (fun _ _ _ h => h) (Or.inl ⟨by rfl, ?y3a3⟩) (by assumption) ?r3a3
      case y3a3 => (intro w hSw; obtain ⟨s2, c0, c1, c2', c3, c4, c5, c6⟩ := hSw; go_simp; (try with_reducible rfl))
      (try simp only [Act.put]); (try simp only [List.setIfInBounds_toArray]); (try simp only [List.set_cons_succ]); (try simp only [List.set_cons_zero])
      refine wpAnyH_take (i := 4) (oi := { dst := some 78, op := Go.Op.move (Go.Operand.tmp 6), type := 3, pos := "ref.go:250", after := #[], guard := none }) (v := ?v4a4) rfl (by kernel_rfl) (by kernel_rfl) (by kernel_rfl) (fun _ _ _ h => h) (Or.inl ⟨by rfl, ?y4a4⟩) (by assumption) ?r4a4
      case y4a4 => (intro w hSw; obtain ⟨s2, c0, c1, c2', c3, c4, c5, c6⟩ := hSw; go_simp; (try with_reducible rfl))
      (try simp only [Act.put]); (try simp only [List.setIfInBounds_toArray]); (try simp only [List.set_cons_succ]); (try simp only [List.set_cons_zero])
      refine wpAnyH_take (i := 5) (oi := { dst := some 79, op := Go.Op.indexAddr 22 (Go.Operand.tmp 77) (Go.Operand.tmp 78), type := 0, pos := "ref.go:250", after := #[{ on := 3, ground := Go.Ground.data }, { on := 4, ground := Go.Ground.data }], guard := none }) (v := ?v5a5) rfl (by kernel_rfl) (by kernel_rfl) (by kernel_rfl) (fun _ _ _ h => h) (Or.inl ⟨by rfl, ?y5a5⟩) (by assumption) ?r5a5
      case y5a5 => (intro w hSw; obtain ⟨s2, c0, c1, c2', c3, c4, c5, c6⟩ := hSw; go_simp; (try with_reducible rfl))
      (try simp only [Act.put]); (try simp only [List.setIfInBounds_toArray]); (try simp only [List.set_cons_succ]); (try simp only [List.set_cons_zero])
      refine wpAnyH_take (i := 6) (oi := { dst := some 80, op := Go.Op.load 26 (Go.Operand.tmp 79), type := 26, pos := "ref.go:250", after := #[{ on := 5, ground := Go.Ground.data }], guard := none }) (v := ?v6a6) rfl (by kernel_rfl) (by kernel_rfl) (by kernel_rfl) (fun _ _ _ h => h) (Or.inl ⟨by rfl, ?y6a6⟩) (by assumption) ?r6a6
      case y6a6 => (intro w hSw; obtain ⟨s2, c0, c1, c2', c3, c4, c5, c6⟩ := hSw; go_simp; (try with_reducible rfl))
      (try simp only [Act.put]); (try simp only [List.setIfInBounds_toArray]); (try simp only [List.set_cons_succ]); (try simp only [List.set_cons_zero])
      refine wpAnyH_ready (rs := [1, 7]) (by kernel_rfl) (by simp) ?_
      refine AllReadyH.cons (o := { dst := some 75, op := Go.Op.load 27 (Go.Operand.tmp 74), type := 27, pos := "ref.go:250", after := #[{ on := 0, ground := Go.Ground.data }], guard := none }) rfl (fun Kc hK => ?_) (AllReadyH.cons (o := { dst := some 81, op := Go.Op.call { callee := Go.Callee.value (Go.Operand.func 34), args := #[Go.Operand.tmp 80], argTypes := #[26] }, type := 29, pos := "ref.go:250", after := #[{ on := 6, ground := Go.Ground.data }], guard := none }) rfl (fun Kc hK => ?_) AllReadyH.nil)
      · go_simp
        refine hK.out _ _ hHeld (fun hHeld => ?_)
        clear hK Kc
        (try simp only [Act.put]); (try simp only [List.setIfInBounds_toArray]); (try simp only [List.set_cons_succ]); (try simp only [List.set_cons_zero])
        refine wpAnyH_ready (rs := [7]) (by kernel_rfl) (by simp) ?_
        refine AllReadyH.cons (o := { dst := some 81, op := Go.Op.call { callee := Go.Callee.value (Go.Operand.func 34), args := #[Go.Operand.tmp 80], argTypes := #[26] }, type := 29, pos := "ref.go:250", after := #[{ on := 6, ground := Go.Ground.data }], guard := none }) rfl (fun Kc hK => ?_) AllReadyH.nil
        go_simp
        go_at_call 34
        refine Calls.mono (HF.out _ HGd.out) ?_
        rintro e' w2 ⟨o, c, rfl, hg2, hz2⟩
        have HE := hidM (And.intro hg2 hz2)
        have HK1 := hidM (HK0.out.trans hg2 (fun _ _ h => h.elim))
        have HG2 := hidM (HGr.out.trans hg2 (fun _ _ h => h))
        have y3b := gr_c hg2 y3d
        have y3a := fun ob => gr_c (gr_alloc w2 ob) y3b
        clear hg2 hz2
        go_wp2_with fail
        refine hK.out _ _ (HS.out _ HK1.out) (fun hHeld => ?_)
        clear hK Kc
        (try simp only [Act.put]); (try simp only [List.setIfInBounds_toArray]); (try simp only [List.set_cons_succ]); (try simp only [List.set_cons_zero])
        refine wpAnyH_ready (rs := [8]) (by kernel_rfl) (by simp) ?_
        refine AllReadyH.cons (o := { dst := some 82, op := Go.Op.buildSlice 27 1 #[(0, Go.Operand.tmp 81)], type := 27, pos := "ref.go:250", after := #[{ on := 7, ground := Go.Ground.data }], guard := none }) rfl (fun Kc hK => ?_) AllReadyH.nil
        go_simp
        refine hK.out _ _ (HS.out _ (HK1.out.alloc _)) (fun hHeld => ?_)
        clear hK Kc
        (try simp only [Act.put]); (try simp only [List.setIfInBounds_toArray]); (try simp only [List.set_cons_succ]); (try simp only [List.set_cons_zero])
        refine wpAnyH_ready (rs := [9]) (by kernel_rfl) (by simp) ?_
        refine AllReadyH.cons (o := { dst := some 83, op := Go.Op.call { callee := Go.Callee.builtin Go.Builtin.append, args := #[Go.Operand.tmp 75, Go.Operand.tmp 82], argTypes := #[27, 27] }, type := 27, pos := "ref.go:250", after := #[{ on := 1, ground := Go.Ground.data }, { on := 8, ground := Go.Ground.data }, { on := 7, ground := Go.Ground.chain }], guard := none }) rfl (fun Kc hK => ?_) AllReadyH.nil
        refine step_append_anyN _ rfl (.tmp 75) (.tmp 82) 27 27 rfl 29 _ 4 56 Tryd.underlying27 info29 rfl _ k xs rfl (HOW.out _ (HG2.out.alloc _)) _ 1 _ rfl (src_val w2 _ _ _ _ rfl rfl rfl rfl) hb63 hb56 ?_
        intro v' w3 hown' hgr' hor'
        obtain ⟨a2, c2, rfl, hb3, kV, hI4⟩ := HI.out.push HYV.out rfl HE.out.1 HE.out.2 HOK.out (by omega) (HOW.out _ (HG2.out.alloc _)) hown' hgr' hor'
        have HK3 := hidM kV
        have HI4 := hidM hI4
        have y3c := (B4.cells hb3).2.2.2
        have u3c := frz hb3 3
        clear hown' hgr' hor' hb3 kV hI4
        refine hK.out _ _ (HS.out _ HK3.out) (fun hHeld => ?_)
        clear hK Kc
        (try simp only [Act.put]); (try simp only [List.setIfInBounds_toArray]); (try simp only [List.set_cons_succ]); (try simp only [List.set_cons_zero])
        refine wpAnyH_take (i := 10) (oi := { dst := some 84, op := Go.Op.fieldAddr 29 (Go.Operand.tmp 4) 3, type := 0, pos := "ref.go:250", after := #[{ on := 0, ground := Go.Ground.phase }, { on := 1, ground := Go.Ground.phase }, { on := 2, ground := Go.Ground.phase }, { on := 3, ground := Go.Ground.phase }, { on := 4, ground := Go.Ground.phase }, { on := 5, ground := Go.Ground.phase }, { on := 6, ground := Go.Ground.phase }, { on := 7, ground := Go.Ground.phase }, { on := 8, ground := Go.Ground.phase }, { on := 9, ground := Go.Ground.phase }], guard := none }) (v := ?v10t11) rfl (by kernel_rfl) (by kernel_rfl) (by kernel_rfl) (fun _ _ _ h => h) (Or.inl ⟨by rfl, ?y10t11⟩) (by assumption) ?r10t11
        case y10t11 => (intro w hSw; obtain ⟨s2, c0, c1, c2', c3, c4, c5, c6⟩ := hSw; go_simp; (try with_reducible rfl))
        (try simp only [Act.put]); (try simp only [List.setIfInBounds_toArray]); (try simp only [List.set_cons_succ]); (try simp only [List.set_cons_zero])
        refine wpAnyH_ready (rs := [11]) (by kernel_rfl) (by simp) ?_
        refine AllReadyH.cons (o := { dst := none, op := Go.Op.store 27 (Go.Operand.tmp 84) (Go.Operand.tmp 83), type := 0, pos := "ref.go:250", after := #[{ on := 10, ground := Go.Ground.data }, { on := 9, ground := Go.Ground.data }, { on := 9, ground := Go.Ground.chain }, { on := 0, ground := Go.Ground.phase }, { on := 1, ground := Go.Ground.phase }, { on := 2, ground := Go.Ground.phase }, { on := 3, ground := Go.Ground.phase }, { on := 4, ground := Go.Ground.phase }, { on := 5, ground := Go.Ground.phase }, { on := 6, ground := Go.Ground.phase }, { on := 7, ground := Go.Ground.phase }, { on := 8, ground := Go.Ground.phase }, { on := 9, ground := Go.Ground.phase }], guard := none }) rfl (fun Kc hK => ?_) AllReadyH.nil
        go_simp
        refine hK.out _ _ (HS.out _ (HK3.out.setCell (p := ⟨X + 1 + 1 + 1, 3, none⟩) (fun _ => rfl) _)) (fun hHeld => ?_)
        clear hK Kc
        (try simp only [Act.put]); (try simp only [List.setIfInBounds_toArray]); (try simp only [List.set_cons_succ]); (try simp only [List.set_cons_zero])
        refine wpAnyH_done (by kernel_rfl) ?_ _
        rw [HNx.out] at HI4
        go_wp2_with fail
        go_roundw
        case rel => exact ⟨k + 1, by omega, by simp, a2, c2, HI4.out⟩
        case measure => simp [intOf]; omega
      · go_simp
        go_at_call 34
        refine Calls.mono (HF.out _ HGd.out) ?_
        rintro e' w2 ⟨o, c, rfl, hg2, hz2⟩
        have HE := hidM (And.intro hg2 hz2)
        have HK1 := hidM (HK0.out.trans hg2 (fun _ _ h => h.elim))
        have HG2 := hidM (HGr.out.trans hg2 (fun _ _ h => h))
        have y3b := gr_c hg2 y3d
        have y3a := fun ob => gr_c (gr_alloc w2 ob) y3b
        clear hg2 hz2
        go_wp2_with fail
        refine hK.out _ _ (HS.out _ HK1.out) (fun hHeld => ?_)
        clear hK Kc
        (try simp only [Act.put]); (try simp only [List.setIfInBounds_toArray]); (try simp only [List.set_cons_succ]); (try simp only [List.set_cons_zero])
        refine wpAnyH_ready (rs := [1, 8]) (by kernel_rfl) (by simp) ?_
        refine AllReadyH.cons (o := { dst := some 75, op := Go.Op.load 27 (Go.Operand.tmp 74), type := 27, pos := "ref.go:250", after := #[{ on := 0, ground := Go.Ground.data }], guard := none }) rfl (fun Kc hK => ?_) (AllReadyH.cons (o := { dst := some 82, op := Go.Op.buildSlice 27 1 #[(0, Go.Operand.tmp 81)], type := 27, pos := "ref.go:250", after := #[{ on := 7, ground := Go.Ground.data }], guard := none }) rfl (fun Kc hK => ?_) AllReadyH.nil)
        · go_simp
          refine hK.out _ _ hHeld (fun hHeld => ?_)
          clear hK Kc
          (try simp only [Act.put]); (try simp only [List.setIfInBounds_toArray]); (try simp only [List.set_cons_succ]); (try simp only [List.set_cons_zero])
          refine wpAnyH_ready (rs := [8]) (by kernel_rfl) (by simp) ?_
          refine AllReadyH.cons (o := { dst := some 82, op := Go.Op.buildSlice 27 1 #[(0, Go.Operand.tmp 81)], type := 27, pos := "ref.go:250", after := #[{ on := 7, ground := Go.Ground.data }], guard := none }) rfl (fun Kc hK => ?_) AllReadyH.nil
          go_simp
          refine hK.out _ _ (HS.out _ (HK1.out.alloc _)) (fun hHeld => ?_)
          clear hK Kc
          (try simp only [Act.put]); (try simp only [List.setIfInBounds_toArray]); (try simp only [List.set_cons_succ]); (try simp only [List.set_cons_zero])
          refine wpAnyH_ready (rs := [9]) (by kernel_rfl) (by simp) ?_
          refine AllReadyH.cons (o := { dst := some 83, op := Go.Op.call { callee := Go.Callee.builtin Go.Builtin.append, args := #[Go.Operand.tmp 75, Go.Operand.tmp 82], argTypes := #[27, 27] }, type := 27, pos := "ref.go:250", after := #[{ on := 1, ground := Go.Ground.data }, { on := 8, ground := Go.Ground.data }, { on := 7, ground := Go.Ground.chain }], guard := none }) rfl (fun Kc hK => ?_) AllReadyH.nil
          refine step_append_anyN _ rfl (.tmp 75) (.tmp 82) 27 27 rfl 29 _ 4 56 Tryd.underlying27 info29 rfl _ k xs rfl (HOW.out _ (HG2.out.alloc _)) _ 1 _ rfl (src_val w2 _ _ _ _ rfl rfl rfl rfl) hb63 hb56 ?_
          intro v' w3 hown' hgr' hor'
          obtain ⟨a2, c2, rfl, hb3, kV, hI4⟩ := HI.out.push HYV.out rfl HE.out.1 HE.out.2 HOK.out (by omega) (HOW.out _ (HG2.out.alloc _)) hown' hgr' hor'
          have HK3 := hidM kV
          have HI4 := hidM hI4
          have y3c := (B4.cells hb3).2.2.2
          have u3c := frz hb3 3
          clear hown' hgr' hor' hb3 kV hI4
          refine hK.out _ _ (HS.out _ HK3.out) (fun hHeld => ?_)
          clear hK Kc
          (try simp only [Act.put]); (try simp only [List.setIfInBounds_toArray]); (try simp only [List.set_cons_succ]); (try simp only [List.set_cons_zero])
          refine wpAnyH_take (i := 10) (oi := { dst := some 84, op := Go.Op.fieldAddr 29 (Go.Operand.tmp 4) 3, type := 0, pos := "ref.go:250", after := #[{ on := 0, ground := Go.Ground.phase }, { on := 1, ground := Go.Ground.phase }, { on := 2, ground := Go.Ground.phase }, { on := 3, ground := Go.Ground.phase }, { on := 4, ground := Go.Ground.phase }, { on := 5, ground := Go.Ground.phase }, { on := 6, ground := Go.Ground.phase }, { on := 7, ground := Go.Ground.phase }, { on := 8, ground := Go.Ground.phase }, { on := 9, ground := Go.Ground.phase }], guard := none }) (v := ?v10t21) rfl (by kernel_rfl) (by kernel_rfl) (by kernel_rfl) (fun _ _ _ h => h) (Or.inl ⟨by rfl, ?y10t21⟩) (by assumption) ?r10t21
          case y10t21 => (intro w hSw; obtain ⟨s2, c0, c1, c2', c3, c4, c5, c6⟩ := hSw; go_simp; (try with_reducible rfl))
          (try simp only [Act.put]); (try simp only [List.setIfInBounds_toArray]); (try simp only [List.set_cons_succ]); (try simp only [List.set_cons_zero])
          refine wpAnyH_ready (rs := [11]) (by kernel_rfl) (by simp) ?_
          refine AllReadyH.cons (o := { dst := none, op := Go.Op.store 27 (Go.Operand.tmp 84) (Go.Operand.tmp 83), type := 0, pos := "ref.go:250", after := #[{ on := 10, ground := Go.Ground.data }, { on := 9, ground := Go.Ground.data }, { on := 9, ground := Go.Ground.chain }, { on := 0, ground := Go.Ground.phase }, { on := 1, ground := Go.Ground.phase }, { on := 2, ground := Go.Ground.phase }, { on := 3, ground := Go.Ground.phase }, { on := 4, ground := Go.Ground.phase }, { on := 5, ground := Go.Ground.phase }, { on := 6, ground := Go.Ground.phase }, { on := 7, ground := Go.Ground.phase }, { on := 8, ground := Go.Ground.phase }, { on := 9, ground := Go.Ground.phase }], guard := none }) rfl (fun Kc hK => ?_) AllReadyH.nil
          go_simp
          refine hK.out _ _ (HS.out _ (HK3.out.setCell (p := ⟨X + 1 + 1 + 1, 3, none⟩) (fun _ => rfl) _)) (fun hHeld => ?_)
          clear hK Kc
          (try simp only [Act.put]); (try simp only [List.setIfInBounds_toArray]); (try simp only [List.set_cons_succ]); (try simp only [List.set_cons_zero])
          refine wpAnyH_done (by kernel_rfl) ?_ _
          rw [HNx.out] at HI4
          go_wp2_with fail
          go_roundw
          case rel => exact ⟨k + 1, by omega, by simp, a2, c2, HI4.out⟩
          case measure => simp [intOf]; omega
        · go_simp
          refine hK.out _ _ (HS.out _ (HK1.out.alloc _)) (fun hHeld => ?_)
          clear hK Kc
          (try simp only [Act.put]); (try simp only [List.setIfInBounds_toArray]); (try simp only [List.set_cons_succ]); (try simp only [List.set_cons_zero])
          refine wpAnyH_ready (rs := [1]) (by kernel_rfl) (by simp) ?_
          refine AllReadyH.cons (o := { dst := some 75, op := Go.Op.load 27 (Go.Operand.tmp 74), type := 27, pos := "ref.go:250", after := #[{ on := 0, ground := Go.Ground.data }], guard := none }) rfl (fun Kc hK => ?_) AllReadyH.nil
          go_simp
          refine hK.out _ _ hHeld (fun hHeld => ?_)
          clear hK Kc
          (try simp only [Act.put]); (try simp only [List.setIfInBounds_toArray]); (try simp only [List.set_cons_succ]); (try simp only [List.set_cons_zero])
          refine wpAnyH_ready (rs := [9]) (by kernel_rfl) (by simp) ?_
          refine AllReadyH.cons (o := { dst := some 83, op := Go.Op.call { callee := Go.Callee.builtin Go.Builtin.append, args := #[Go.Operand.tmp 75, Go.Operand.tmp 82], argTypes := #[27, 27] }, type := 27, pos := "ref.go:250", after := #[{ on := 1, ground := Go.Ground.data }, { on := 8, ground := Go.Ground.data }, { on := 7, ground := Go.Ground.chain }], guard := none }) rfl (fun Kc hK => ?_) AllReadyH.nil
          refine step_append_anyN _ rfl (.tmp 75) (.tmp 82) 27 27 rfl 29 _ 4 56 Tryd.underlying27 info29 rfl _ k xs rfl (HOW.out _ (HG2.out.alloc _)) _ 1 _ rfl (src_val w2 _ _ _ _ rfl rfl rfl rfl) hb63 hb56 ?_
          intro v' w3 hown' hgr' hor'
          obtain ⟨a2, c2, rfl, hb3, kV, hI4⟩ := HI.out.push HYV.out rfl HE.out.1 HE.out.2 HOK.out (by omega) (HOW.out _ (HG2.out.alloc _)) hown' hgr' hor'
          have HK3 := hidM kV
          have HI4 := hidM hI4
          have y3c := (B4.cells hb3).2.2.2
          have u3c := frz hb3 3
          clear hown' hgr' hor' hb3 kV hI4
          refine hK.out _ _ (HS.out _ HK3.out) (fun hHeld => ?_)
          clear hK Kc
          (try simp only [Act.put]); (try simp only [List.setIfInBounds_toArray]); (try simp only [List.set_cons_succ]); (try simp only [List.set_cons_zero])
          refine wpAnyH_take (i := 10) (oi := { dst := some 84, op := Go.Op.fieldAddr 29 (Go.Operand.tmp 4) 3, type := 0, pos := "ref.go:250", after := #[{ on := 0, ground := Go.Ground.phase }, { on := 1, ground := Go.Ground.phase }, { on := 2, ground := Go.Ground.phase }, { on := 3, ground := Go.Ground.phase }, { on := 4, ground := Go.Ground.phase }, { on := 5, ground := Go.Ground.phase }, { on := 6, ground := Go.Ground.phase }, { on := 7, ground := Go.Ground.phase }, { on := 8, ground := Go.Ground.phase }, { on := 9, ground := Go.Ground.phase }], guard := none }) (v := ?v10t31) rfl (by kernel_rfl) (by kernel_rfl) (by kernel_rfl) (fun _ _ _ h => h) (Or.inl ⟨by rfl, ?y10t31⟩) (by assumption) ?r10t31
          case y10t31 => (intro w hSw; obtain ⟨s2, c0, c1, c2', c3, c4, c5, c6⟩ := hSw; go_simp; (try with_reducible rfl))
          (try simp only [Act.put]); (try simp only [List.setIfInBounds_toArray]); (try simp only [List.set_cons_succ]); (try simp only [List.set_cons_zero])
          refine wpAnyH_ready (rs := [11]) (by kernel_rfl) (by simp) ?_
          refine AllReadyH.cons (o := { dst := none, op := Go.Op.store 27 (Go.Operand.tmp 84) (Go.Operand.tmp 83), type := 0, pos := "ref.go:250", after := #[{ on := 10, ground := Go.Ground.data }, { on := 9, ground := Go.Ground.data }, { on := 9, ground := Go.Ground.chain }, { on := 0, ground := Go.Ground.phase }, { on := 1, ground := Go.Ground.phase }, { on := 2, ground := Go.Ground.phase }, { on := 3, ground := Go.Ground.phase }, { on := 4, ground := Go.Ground.phase }, { on := 5, ground := Go.Ground.phase }, { on := 6, ground := Go.Ground.phase }, { on := 7, ground := Go.Ground.phase }, { on := 8, ground := Go.Ground.phase }, { on := 9, ground := Go.Ground.phase }], guard := none }) rfl (fun Kc hK => ?_) AllReadyH.nil
          go_simp
          refine hK.out _ _ (HS.out _ (HK3.out.setCell (p := ⟨X + 1 + 1 + 1, 3, none⟩) (fun _ => rfl) _)) (fun hHeld => ?_)
          clear hK Kc
          (try simp only [Act.put]); (try simp only [List.setIfInBounds_toArray]); (try simp only [List.set_cons_succ]); (try simp only [List.set_cons_zero])
          refine wpAnyH_done (by kernel_rfl) ?_ _
          rw [HNx.out] at HI4
          go_wp2_with fail
          go_roundw
          case rel => exact ⟨k + 1, by omega, by simp, a2, c2, HI4.out⟩
          case measure => simp [intOf]; omega
    · have hkm : k = L := by omega
      subst hkm
      have HI := hidM hI
      have HTk : Hid ((fs.take k).map zz = fs.map zz) := by show _ = _; rw [List.take_of_length_le (by have := HL.out; omega)]
      clear HK hI
      have hbY := HI.out.box
      have bR2 : B4 wr (X + 1) false 0 ⟨#[]⟩ none 0 0 := (HI.out.kp.block _ (lt_of_heap HbR.out) (by omega)).trans HbR.out
      obtain ⟨r0, r1, r2, r3⟩ := B4.cells bR2
      have z0 := frz bR2 0
      have z1 := frz bR2 1
      have z2 := frz bR2 2
      have z3 := frz bR2 3
      obtain ⟨y0, y1, y2, y3⟩ := B4.cells hbY
      have HbR2 := hidM bR2
      clear bR2 hbY
      go_wp2_with fail
      have hb3 := put4_box (.bool false) (.int .i64 0) (.string ⟨#[]⟩) (.slice lo' k lc) HbR2.out
      have k3 := put4_keeps wr (X + 1) (.bool false) (.int .i64 0) (.string ⟨#[]⟩) (.slice lo' k lc)
      have hsz := k3.size
      have hs := Hs.out
      have hxx := HX.out
      (try simp only [Exit.inBlock, Exit.then])
      refine bodyPost_ret (results_cell_row rfl _ _ _ _ _ _ _ rfl hb3 Tryd.underlying29 rfl (by kernel_rfl)) rfl ⟨lo', lc, by rw [HL.out]; simp [VT.nul, VT.num, VT.text, VT.list], ?_, ?_⟩
      · exact ((HG.out.mono fun _ _ h => h.elim).trans HI.out.kp (fun j hj e => by omega)).trans k3 (fun j hj e => by omega)
      · have hkk := HI.out.kp.size
        show ZRow _ _ _ _ _ _ (fs.map zz)
        rw [← HTk.out]
        exact (HI.out.row.kept fun b h1 h2 => k3.block b h2 (by omega)).wide (by omega) hsz
end Go.Proofs.YtcfdkadhclickaaDoor.Kit
