import Derived.Test.YtcfdkadhclickaaDoorZJ
import Derived.Test.YtcfdkadhclickaaDoorYI
import Derived.Test.YtcfdkadhclickaaDoorYG
namespace Go.Proofs.YtcfdkadhclickaaDoor.Kit
open Go.RowKit Go.Shelf Go.Deep
set_option linter.unusedVariables false
attribute [local go_sem] run_store_func

/-! ### Zero 13 and the document's 12 -/
/-- what they answer -/
def ZeR (F : Nat) (w : World) (fv : Value) (D : Nat) (v : VT) (er : Int) : Prop := ∀ W, Gr w W → Calls Tryd.prog F #[fv] W fun e w' => ∃ o c, e = .returned (.tuple #[.agg #[.bool v.nul, .int .i64 v.num, .string v.text, .slice o v.list.length c], .int .i64 er]) ∧ Gr W w' ∧ ZRow w' D W.heap.size w'.heap.size o c v.list
def zA (mb : Bool) (z : Int) (v : VT) : VT × Int := if mb = false then (.mk false 0 ⟨#[]⟩ [], 5) else if z ≤ 4194304 then (v, 0) else (.mk false 0 ⟨#[]⟩ [], 3)
theorem results_cell2 {fn : Func} {t a : Tmp} {tmps : Array Value} {g : Nat} {cs : Array Value} {w : World} (h : fn.results = #[.cell t 29, .tmp a]) (ht : tmps.getD t undef = .pointer (some ⟨g, 0, none⟩)) (hg : w.heap[g]? = some (.cells cs 29 (0, 0))) (hi : (Tryd.prog.info? 29).map (·.size) = some cs.size) :
    (results fn tmps).run Tryd.prog w = .ok (.tuple #[.agg cs, tmps.getD a undef]) w := by
  have hl := run_loadVar_row (P := Tryd.prog) w g 29 29 cs (0, 0) _ hg Tryd.underlying29 rfl hi
  unfold results
  rw [h]
  simp only [Array.mapM_eq_mapM_toList, List.mapM_cons, List.mapM_nil, ht]
  simp [asAddr, hl]
set_option maxRecDepth 100000 in
set_option maxHeartbeats 4000000 in
theorem zero13 (f0 : ByteArray) (f1 : Bool) (f2 f3 f4 f5 : Int) (ao : Option Addr) (n ca : Nat) (w : World) (DD : Nat) (mb : Bool) (z : Int) (v : VT)
    (h1 : Ans 24 #[.agg #[.string f0, .bool f1, .int .i64 f2, .int .i64 f3, .int .i64 f4, .int .i64 f5, .slice ao n ca]] mb w) (h2 : mb = true → IAns 35 #[.agg #[.string f0, .bool f1, .int .i64 f2, .int .i64 f3, .int .i64 f4, .int .i64 f5, .slice ao n ca]] z w) (h3 : mb = true → ZeC 36 w (.agg #[.string f0, .bool f1, .int .i64 f2, .int .i64 f3, .int .i64 f4, .int .i64 f5, .slice ao n ca]) DD v) :
    ZeR 13 w (.agg #[.string f0, .bool f1, .int .i64 f2, .int .i64 f3, .int .i64 f4, .int .i64 f5, .slice ao n ca]) DD (zA mb z v).1 (zA mb z v).2 := by
  intro W g
  obtain ⟨R, hR⟩ : ∃ R, R = zA mb z v := ⟨_, rfl⟩
  rw [← hR]
  have H1 := hidM h1
  have H2 := hidM h2
  have H3 := hidM h3
  obtain ⟨V, hV⟩ : ∃ V, (W.alloc (.cells #[.string f0, .bool f1, .int .i64 f2, .int .i64 f3, .int .i64 f4, .int .i64 f5, .slice ao n ca] 26)).alloc (.cells #[.bool false, .int .i64 0, .string ⟨#[]⟩, .slice none 0 0] 29) = V := ⟨_, rfl⟩
  have hA := alloc2 W (.cells #[.string f0, .bool f1, .int .i64 f2, .int .i64 f3, .int .i64 f4, .int .i64 f5, .slice ao n ca] 26) (.cells #[.bool false, .int .i64 0, .string ⟨#[]⟩, .slice none 0 0] 29)
  rw [hV] at hA
  have Hb7 : Hid (B7 V W.heap.size f0 f1 f2 f3 f4 f5 ao n ca) := hA.1
  have HbR : Hid (B4 V (W.heap.size + 1) false 0 ⟨#[]⟩ none 0 0) := hA.2.1
  have HG := hidM hA.2.2
  have HGg := hidM (g.trans hA.2.2 (fun _ _ h => h))
  have Hs : Hid (V.heap.size = W.heap.size + 2) := by show _ = _; rw [← hV]; simp
  have HV := hidM hV
  have HR0 := hidM hR
  clear h1 h2 h3 hV hA g hR
  go_enter Tryd.func13, Tryd.ntmps13
  go_wp2_with (go_at_call 24; refine Hid.out ?_)
  unfold Hid
  rw [HV.out]
  refine Calls.mono (H1.out _ HGg.out) ?_
  rintro e w1 ⟨rfl, hg⟩
  have HE1 := hidM hg
  have bR : B4 w1 (W.heap.size + 1) false 0 ⟨#[]⟩ none 0 0 := (hg.block _ (lt_of_heap HbR.out) id).trans HbR.out
  have b7 : B7 w1 W.heap.size f0 f1 f2 f3 f4 f5 ao n ca := (hg.block _ (lt_of_heap Hb7.out) id).trans Hb7.out
  obtain ⟨r0, r1, r2, r3⟩ := B4.cells bR
  have z0 := frz bR 0
  have z1 := frz bR 1
  have z2 := frz bR 2
  have z3 := frz bR 3
  obtain ⟨p0, p1, p2, p3, p4, p5, p6⟩ := B7.cells b7
  have HbR1 := hidM bR
  clear bR b7
  clear hg
  cases mb with
  | false =>
    have HR : Hid (R = (.mk false 0 ⟨#[]⟩ [], 5)) := HR0.out
    go_wp2_with fail
    have hb3 := put4_box (.bool false) (.int .i64 0) (.string ⟨#[]⟩) (.slice none 0 0) (HbR1.out)
    have k3 := put4_keeps w1 (W.heap.size + 1) (.bool false) (.int .i64 0) (.string ⟨#[]⟩) (.slice none 0 0)
    have hsz := k3.size
    have hs := Hs.out
    (try simp only [Exit.inBlock, Exit.then])
    refine bodyPost_ret (results_cell2 rfl rfl hb3 (by kernel_rfl)) rfl ⟨none, 0, by rw [HR.out]; rfl, ?_, ?_⟩
    · exact (HG.out.trans HE1.out (fun _ _ h => h)).trans k3 (fun j hj e => by omega)
    · rw [HR.out]; exact ZRow.nil _ _ _ _
  | true =>
    go_wp2_with (go_at_call 35; refine Hid.out ?_)
    unfold Hid
    refine Calls.mono (H2.out (by trivial) _ (HGg.out.trans HE1.out (fun _ _ h => h))) ?_
    rintro e w2 ⟨rfl, hg2⟩
    have hg := HE1.out.trans hg2 (fun _ _ h => h)
    have HE2 := hidM hg
    clear r0 r1 r2 r3 z0 z1 z2 z3 p0 p1 p2 p3 p4 p5 p6 HbR1
    have bR : B4 w2 (W.heap.size + 1) false 0 ⟨#[]⟩ none 0 0 := (hg.block _ (lt_of_heap HbR.out) id).trans HbR.out
    have b7 : B7 w2 W.heap.size f0 f1 f2 f3 f4 f5 ao n ca := (hg.block _ (lt_of_heap Hb7.out) id).trans Hb7.out
    obtain ⟨r0, r1, r2, r3⟩ := B4.cells bR
    have z0 := frz bR 0
    have z1 := frz bR 1
    have z2 := frz bR 2
    have z3 := frz bR 3
    obtain ⟨p0, p1, p2, p3, p4, p5, p6⟩ := B7.cells b7
    have HbR1 := hidM bR
    clear bR b7
    clear hg hg2
    by_cases hz : z ≤ 4194304
    · go_wp2_with (go_at_call 36; refine Hid.out ?_)
      unfold Hid
      refine Calls.mono (H3.out (by trivial) _ (HGg.out.trans HE2.out (fun _ _ h => h))) ?_
      rintro e w3 ⟨o, c, rfl, hg3, hz3⟩
      have hg := HE2.out.trans hg3 (fun _ _ h => h)
      have HE3 := hidM hg
      have HZ := hidM (And.intro hz3 HE2.out.size)
      clear r0 r1 r2 r3 z0 z1 z2 z3 p0 p1 p2 p3 p4 p5 p6 HbR1
      have bR : B4 w3 (W.heap.size + 1) false 0 ⟨#[]⟩ none 0 0 := (hg.block _ (lt_of_heap HbR.out) id).trans HbR.out
      have b7 : B7 w3 W.heap.size f0 f1 f2 f3 f4 f5 ao n ca := (hg.block _ (lt_of_heap Hb7.out) id).trans Hb7.out
      obtain ⟨r0, r1, r2, r3⟩ := B4.cells bR
      have z0 := frz bR 0
      have z1 := frz bR 1
      have z2 := frz bR 2
      have z3 := frz bR 3
      obtain ⟨p0, p1, p2, p3, p4, p5, p6⟩ := B7.cells b7
      have HbR1 := hidM bR
      clear bR b7
      clear hg hg3 hz3
      have HR : Hid (R = (v, 0)) := by have h := HR0.out; unfold zA at h; rw [if_neg (by simp), if_pos hz] at h; exact h
      go_wp2_with fail
      have hb3 := put4_box (.bool v.nul) (.int .i64 v.num) (.string v.text) (.slice o v.list.length c) (HbR1.out)
      have k3 := put4_keeps w3 (W.heap.size + 1) (.bool v.nul) (.int .i64 v.num) (.string v.text) (.slice o v.list.length c)
      have hsz := k3.size
      have hs := Hs.out
      (try simp only [Exit.inBlock, Exit.then])
      refine bodyPost_ret (results_cell2 rfl rfl hb3 (by kernel_rfl)) rfl ⟨o, c, by rw [HR.out]; rfl, ?_, ?_⟩
      · exact (HG.out.trans HE3.out (fun _ _ h => h)).trans k3 (fun j hj e => by omega)
      · rw [HR.out]; exact (HZ.out.1.kept fun b h1 h2 => k3.block b h2 (by have := HZ.out.2; omega)).wide (by have := HZ.out.2; omega) hsz
    · have HR : Hid (R = (.mk false 0 ⟨#[]⟩ [], 3)) := by have h := HR0.out; unfold zA at h; rw [if_neg (by simp), if_neg hz] at h; exact h
      have hz' : 4194304 < z := by omega
      go_wp2_with fail
      have hb3 := put4_box (.bool false) (.int .i64 0) (.string ⟨#[]⟩) (.slice none 0 0) (HbR1.out)
      have k3 := put4_keeps w2 (W.heap.size + 1) (.bool false) (.int .i64 0) (.string ⟨#[]⟩) (.slice none 0 0)
      have hsz := k3.size
      have hs := Hs.out
      (try simp only [Exit.inBlock, Exit.then])
      refine bodyPost_ret (results_cell2 rfl rfl hb3 (by kernel_rfl)) rfl ⟨none, 0, by rw [HR.out]; rfl, ?_, ?_⟩
      · exact (HG.out.trans HE2.out (fun _ _ h => h)).trans k3 (fun j hj e => by omega)
      · rw [HR.out]; exact ZRow.nil _ _ _ _
set_option maxRecDepth 100000 in
set_option maxHeartbeats 4000000 in
theorem zero12 (f0 : ByteArray) (f1 : Bool) (f2 f3 f4 f5 : Int) (ao : Option Addr) (n ca : Nat) (w : World) (DD : Nat) (mb : Bool) (z : Int) (v : VT)
    (h1 : Ans 26 #[.agg #[.string f0, .bool f1, .int .i64 f2, .int .i64 f3, .int .i64 f4, .int .i64 f5, .slice ao n ca]] mb w) (h2 : mb = true → IAns 33 #[.agg #[.string f0, .bool f1, .int .i64 f2, .int .i64 f3, .int .i64 f4, .int .i64 f5, .slice ao n ca], .int .i64 4194304] z w) (h3 : mb = true → ZeC 34 w (.agg #[.string f0, .bool f1, .int .i64 f2, .int .i64 f3, .int .i64 f4, .int .i64 f5, .slice ao n ca]) DD v) :
    ZeR 12 w (.agg #[.string f0, .bool f1, .int .i64 f2, .int .i64 f3, .int .i64 f4, .int .i64 f5, .slice ao n ca]) DD (zA mb z v).1 (zA mb z v).2 := by
  intro W g
  obtain ⟨R, hR⟩ : ∃ R, R = zA mb z v := ⟨_, rfl⟩
  rw [← hR]
  have H1 := hidM h1
  have H2 := hidM h2
  have H3 := hidM h3
  obtain ⟨V, hV⟩ : ∃ V, (W.alloc (.cells #[.string f0, .bool f1, .int .i64 f2, .int .i64 f3, .int .i64 f4, .int .i64 f5, .slice ao n ca] 26)).alloc (.cells #[.bool false, .int .i64 0, .string ⟨#[]⟩, .slice none 0 0] 29) = V := ⟨_, rfl⟩
  have hA := alloc2 W (.cells #[.string f0, .bool f1, .int .i64 f2, .int .i64 f3, .int .i64 f4, .int .i64 f5, .slice ao n ca] 26) (.cells #[.bool false, .int .i64 0, .string ⟨#[]⟩, .slice none 0 0] 29)
  rw [hV] at hA
  have Hb7 : Hid (B7 V W.heap.size f0 f1 f2 f3 f4 f5 ao n ca) := hA.1
  have HbR : Hid (B4 V (W.heap.size + 1) false 0 ⟨#[]⟩ none 0 0) := hA.2.1
  have HG := hidM hA.2.2
  have HGg := hidM (g.trans hA.2.2 (fun _ _ h => h))
  have Hs : Hid (V.heap.size = W.heap.size + 2) := by show _ = _; rw [← hV]; simp
  have HV := hidM hV
  have HR0 := hidM hR
  clear h1 h2 h3 hV hA g hR
  go_enter Tryd.func12, Tryd.ntmps12
  go_wp2_with (go_at_call 26; refine Hid.out ?_)
  unfold Hid
  rw [HV.out]
  refine Calls.mono (H1.out _ HGg.out) ?_
  rintro e w1 ⟨rfl, hg⟩
  have HE1 := hidM hg
  have bR : B4 w1 (W.heap.size + 1) false 0 ⟨#[]⟩ none 0 0 := (hg.block _ (lt_of_heap HbR.out) id).trans HbR.out
  have b7 : B7 w1 W.heap.size f0 f1 f2 f3 f4 f5 ao n ca := (hg.block _ (lt_of_heap Hb7.out) id).trans Hb7.out
  obtain ⟨r0, r1, r2, r3⟩ := B4.cells bR
  have z0 := frz bR 0
  have z1 := frz bR 1
  have z2 := frz bR 2
  have z3 := frz bR 3
  obtain ⟨p0, p1, p2, p3, p4, p5, p6⟩ := B7.cells b7
  have HbR1 := hidM bR
  clear bR b7
  clear hg
  cases mb with
  | false =>
    have HR : Hid (R = (.mk false 0 ⟨#[]⟩ [], 5)) := HR0.out
    go_wp2_with fail
    have hb3 := put4_box (.bool false) (.int .i64 0) (.string ⟨#[]⟩) (.slice none 0 0) (HbR1.out)
    have k3 := put4_keeps w1 (W.heap.size + 1) (.bool false) (.int .i64 0) (.string ⟨#[]⟩) (.slice none 0 0)
    have hsz := k3.size
    have hs := Hs.out
    (try simp only [Exit.inBlock, Exit.then])
    refine bodyPost_ret (results_cell2 rfl rfl hb3 (by kernel_rfl)) rfl ⟨none, 0, by rw [HR.out]; rfl, ?_, ?_⟩
    · exact (HG.out.trans HE1.out (fun _ _ h => h)).trans k3 (fun j hj e => by omega)
    · rw [HR.out]; exact ZRow.nil _ _ _ _
  | true =>
    go_wp2_with (go_at_call 33; refine Hid.out ?_)
    unfold Hid
    refine Calls.mono (H2.out (by trivial) _ (HGg.out.trans HE1.out (fun _ _ h => h))) ?_
    rintro e w2 ⟨rfl, hg2⟩
    have hg := HE1.out.trans hg2 (fun _ _ h => h)
    have HE2 := hidM hg
    clear r0 r1 r2 r3 z0 z1 z2 z3 p0 p1 p2 p3 p4 p5 p6 HbR1
    have bR : B4 w2 (W.heap.size + 1) false 0 ⟨#[]⟩ none 0 0 := (hg.block _ (lt_of_heap HbR.out) id).trans HbR.out
    have b7 : B7 w2 W.heap.size f0 f1 f2 f3 f4 f5 ao n ca := (hg.block _ (lt_of_heap Hb7.out) id).trans Hb7.out
    obtain ⟨r0, r1, r2, r3⟩ := B4.cells bR
    have z0 := frz bR 0
    have z1 := frz bR 1
    have z2 := frz bR 2
    have z3 := frz bR 3
    obtain ⟨p0, p1, p2, p3, p4, p5, p6⟩ := B7.cells b7
    have HbR1 := hidM bR
    clear bR b7
    clear hg hg2
    by_cases hz : z ≤ 4194304
    · go_wp2_with (go_at_call 34; refine Hid.out ?_)
      unfold Hid
      refine Calls.mono (H3.out (by trivial) _ (HGg.out.trans HE2.out (fun _ _ h => h))) ?_
      rintro e w3 ⟨o, c, rfl, hg3, hz3⟩
      have hg := HE2.out.trans hg3 (fun _ _ h => h)
      have HE3 := hidM hg
      have HZ := hidM (And.intro hz3 HE2.out.size)
      clear r0 r1 r2 r3 z0 z1 z2 z3 p0 p1 p2 p3 p4 p5 p6 HbR1
      have bR : B4 w3 (W.heap.size + 1) false 0 ⟨#[]⟩ none 0 0 := (hg.block _ (lt_of_heap HbR.out) id).trans HbR.out
      have b7 : B7 w3 W.heap.size f0 f1 f2 f3 f4 f5 ao n ca := (hg.block _ (lt_of_heap Hb7.out) id).trans Hb7.out
      obtain ⟨r0, r1, r2, r3⟩ := B4.cells bR
      have z0 := frz bR 0
      have z1 := frz bR 1
      have z2 := frz bR 2
      have z3 := frz bR 3
      obtain ⟨p0, p1, p2, p3, p4, p5, p6⟩ := B7.cells b7
      have HbR1 := hidM bR
      clear bR b7
      clear hg hg3 hz3
      have HR : Hid (R = (v, 0)) := by have h := HR0.out; unfold zA at h; rw [if_neg (by simp), if_pos hz] at h; exact h
      go_wp2_with fail
      have hb3 := put4_box (.bool v.nul) (.int .i64 v.num) (.string v.text) (.slice o v.list.length c) (HbR1.out)
      have k3 := put4_keeps w3 (W.heap.size + 1) (.bool v.nul) (.int .i64 v.num) (.string v.text) (.slice o v.list.length c)
      have hsz := k3.size
      have hs := Hs.out
      (try simp only [Exit.inBlock, Exit.then])
      refine bodyPost_ret (results_cell2 rfl rfl hb3 (by kernel_rfl)) rfl ⟨o, c, by rw [HR.out]; rfl, ?_, ?_⟩
      · exact (HG.out.trans HE3.out (fun _ _ h => h)).trans k3 (fun j hj e => by omega)
      · rw [HR.out]; exact (HZ.out.1.kept fun b h1 h2 => k3.block b h2 (by have := HZ.out.2; omega)).wide (by have := HZ.out.2; omega) hsz
    · have HR : Hid (R = (.mk false 0 ⟨#[]⟩ [], 3)) := by have h := HR0.out; unfold zA at h; rw [if_neg (by simp), if_neg hz] at h; exact h
      have hz' : 4194304 < z := by omega
      go_wp2_with fail
      have hb3 := put4_box (.bool false) (.int .i64 0) (.string ⟨#[]⟩) (.slice none 0 0) (HbR1.out)
      have k3 := put4_keeps w2 (W.heap.size + 1) (.bool false) (.int .i64 0) (.string ⟨#[]⟩) (.slice none 0 0)
      have hsz := k3.size
      have hs := Hs.out
      (try simp only [Exit.inBlock, Exit.then])
      refine bodyPost_ret (results_cell2 rfl rfl hb3 (by kernel_rfl)) rfl ⟨none, 0, by rw [HR.out]; rfl, ?_, ?_⟩
      · exact (HG.out.trans HE2.out (fun _ _ h => h)).trans k3 (fun j hj e => by omega)
      · rw [HR.out]; exact ZRow.nil _ _ _ _
/-- Zero of all fields: both the same -/
theorem FldB.zero13 {w : World} {D : Nat} {f : FT} {ao : Option Addr} {ca : Nat} {mb : Bool} (h : FldB w D f ao ca mb) : ZeR 13 w (.agg #[.string f.name, .bool f.nul, .int .i64 f.kind, .int .i64 f.width, .int .i64 f.id, .int .i64 f.index, .slice ao f.kids.length ca]) (D + 1) (zA mb (zW (D + 1) f) (zV (D + 1) f)).1 (zA mb (zW (D + 1) f) (zV (D + 1) f)).2 :=
  Kit.zero13 _ _ _ _ _ _ _ _ _ w _ mb _ _ h.c24 (fun e => zw_any _ w (fun _ h => h) D f ao ca h.row (h.ok e).1 (h.ok e).2) (fun e => zr_any _ w (fun _ h => h) D f ao ca h.row (h.ok e).1 (h.ok e).2)
theorem FldB.zero12 {w : World} {D : Nat} {f : FT} {ao : Option Addr} {ca : Nat} {mb : Bool} (h : FldB w D f ao ca mb) : ZeR 12 w (.agg #[.string f.name, .bool f.nul, .int .i64 f.kind, .int .i64 f.width, .int .i64 f.id, .int .i64 f.index, .slice ao f.kids.length ca]) (D + 1) (zA mb (zW (D + 1) f) (zV (D + 1) f)).1 (zA mb (zW (D + 1) f) (zV (D + 1) f)).2 :=
  Kit.zero12 _ _ _ _ _ _ _ _ _ w _ mb _ _ h.c26 (fun e => dw_any _ w (fun _ h => h) D f ao ca h.row (h.ok e).1 (h.ok e).2) (fun e => dz_any _ w (fun _ h => h) D f ao ca h.row (h.ok e).1 (h.ok e).2)
end Go.Proofs.YtcfdkadhclickaaDoor.Kit
namespace Go.Proofs.YtcfdkadhclickaaDoor.Kit
open Go.RowKit Go.Shelf Go.Deep
set_option linter.unusedVariables false
attribute [local go_sem] run_store_func

/-! ### Small 29 (left 50): it answers -/
set_option maxRecDepth 100000 in
set_option maxHeartbeats 2000000 in
theorem left_step (S : Nat → Prop) (d : Nat) (w : World) (hS : ∀ b, S b → b < w.heap.size) (ao : Option Addr) (ca : Nat) (l : List FT) (hl : RowAt S w (d + 1) ao l) (m : Int) (hm : 0 ≤ m ∧ m ≤ 300)
    (h50 : ∀ (g : FT) (go : Option Addr) (gc : Nat) (m : Int), g ∈ l → RowAt S w d go g.kids → 0 ≤ m ∧ m ≤ 300 → ∀ W, Gr w W → Calls Tryd.prog 50 #[.slice go g.kids.length gc, .int .i64 m] W fun e w' => ∃ z, e = .returned (.int .i64 z) ∧ (-1 ≤ z ∧ z ≤ 300) ∧ Gr W w') :
    ∀ W, Gr w W → Calls Tryd.prog 50 #[.slice ao l.length ca, .int .i64 m] W fun e w' => ∃ z, e = .returned (.int .i64 z) ∧ (-1 ≤ z ∧ z ≤ 300) ∧ Gr W w' := by
  intro W g0
  have hlen : l.length ≤ 1000000000000 := hl.len
  have HL := hidM hl
  have HS := hidM hS
  have H50 := hidM h50
  have HG0 := hidM g0
  obtain ⟨L, hL⟩ : ∃ L, L = l.length := ⟨_, rfl⟩
  rw [← hL] at hlen ⊢
  have HLL := hidM hL
  have HM := hidM hm
  clear hl hS h50 g0 hL hm
  go_enter Tryd.func50, Tryd.ntmps50
  go_wp2
  go_loopw [1, 8] (fun a p wr => ∃ k : Nat, k ≤ L ∧ p = .int .i64 (k : Int) ∧ ∃ s, a = .int .i64 s ∧ Hid ((0 ≤ s ∧ s ≤ 300) ∧ Gr W wr)) (fun _ p _ => L - (intOf p).toNat)
  case atStart => exact ⟨0, by omega, rfl, _, rfl, HM.out, Keeps.refl _ _⟩
  case round =>
    obtain ⟨k, hk, rfl, s, rfl, HK⟩ := hrel
    have hs := HK.out.1
    have HGk := hidM HK.out.2
    clear HK
    obtain ⟨hs0, hs1⟩ := hs
    have hw : wrap64 (s - 1) = s - 1 := by unfold wrap64; omega
    by_cases hlt : k < L
    · have hltI : (k : Int) < (L : Int) := by omega
      by_cases hs2 : s - 1 < 0
      · go_wp2
        all_goals go_ret
        all_goals first | exact ⟨-1, rfl, by omega, HGk.out⟩ | (exfalso; omega)
      · have hkf : k < l.length := by have := HLL.out; omega
        obtain ⟨fb, fp, rfl, hfb, hfs⟩ := HL.out.2 (fun e => by subst e; simp at hkf)
        obtain ⟨go, gc, hg, hgle, hgrow⟩ := hfs k hkf
        have hcall := H50.out l[k] go gc (s - 1) (List.getElem_mem hkf) hgrow (by omega)
        have gw : Gr w wr := HG0.out.trans HGk.out (fun _ _ h => h)
        obtain ⟨c0, c1, c2, c3, c4, c5, c6⟩ := hg.kept (gw.block fb (HS.out fb hfb) id)
        obtain ⟨f, hf⟩ : ∃ f, f = l[k]'hkf := ⟨_, rfl⟩
        rw [← hf] at hcall c0 c1 c2 c3 c4 c5 c6
        have H2 := hidM hcall
        have HGw := hidM gw
        clear hfs hg hgle hgrow hcall gw hf
        go_wp2_with (go_at_call 50; refine Hid.out ?_)
        unfold Hid
        refine Calls.mono (H2.out _ HGw.out) ?_
        rintro e w2 ⟨z, rfl, hz, hg2⟩
        have HE := hidM (HGk.out.trans hg2 (fun _ _ h => h))
        clear hg2 c0 c1 c2 c3 c4 c5 c6
        obtain ⟨hz0, hz1⟩ := hz
        by_cases hzn : z < 0
        · go_wp2_with fail
          all_goals go_ret
          all_goals first | exact ⟨-1, rfl, by omega, HE.out⟩ | (exfalso; omega)
        · go_wp2_with fail
          go_roundw
          case rel => exact ⟨k + 1, by omega, by simp, z, rfl, ⟨by omega, hz1⟩, HE.out⟩
          case measure => simp [intOf]; omega
    · have hkL : k = L := by omega
      subst hkL
      go_wp2_with fail
      go_ret
      exact ⟨s, rfl, by omega, HGk.out⟩
theorem left_any (S : Nat → Prop) (w : World) (hS : ∀ b, S b → b < w.heap.size) : ∀ (d : Nat) (ao : Option Addr) (ca : Nat) (l : List FT) (m : Int), RowAt S w d ao l → 0 ≤ m ∧ m ≤ 300 →
    ∀ W, Gr w W → Calls Tryd.prog 50 #[.slice ao l.length ca, .int .i64 m] W fun e w' => ∃ z, e = .returned (.int .i64 z) ∧ (-1 ≤ z ∧ z ≤ 300) ∧ Gr W w'
  | 0, ao, ca, l, m, h, hm => left_step S 0 w hS ao ca l (h.more (by omega)) m hm (fun g go gc m hg => by
      have e : l = [] := h
      rw [e] at hg
      cases hg)
  | d + 1, ao, ca, l, m, h, hm => left_step S d w hS ao ca l h m hm (fun g go gc m _ hr hm => left_any S w hS d go gc g.kids m hr hm)
set_option maxRecDepth 100000 in
theorem small29 {S : Nat → Prop} {w : World} (hS : ∀ b, S b → b < w.heap.size) {d : Nat} {ao : Option Addr} {ca : Nat} {l : List FT} (h : RowAt S w d ao l) :
    ∀ W, Gr w W → Calls Tryd.prog 29 #[.slice ao l.length ca, .int .i64 300] W fun e w' => ∃ b, e = .returned (.bool b) ∧ Gr W w' := by
  intro W g
  have H := hidM (left_any S w hS d ao ca l 300 h (by decide) W g)
  clear g h hS
  go_enter Tryd.func29, Tryd.ntmps29
  go_wp2_with (go_at_call 50; refine Hid.out ?_)
  unfold Hid
  refine Calls.mono H.out ?_
  rintro e w2 ⟨z, rfl, _, hg2⟩
  have HE := hidM hg2
  clear hg2
  go_wp2_with fail
  go_ret
  exact ⟨_, rfl, HE.out⟩
end Go.Proofs.YtcfdkadhclickaaDoor.Kit
namespace Go.Proofs.YtcfdkadhclickaaDoor.Kit
open Go.RowKit Go.Shelf Go.Deep
set_option linter.unusedVariables false
attribute [local go_sem] run_store_func

/-! ### CopyField 30, CopyFields 51: fields in memory of their own -/
structure Set7 (w w' : World) (g p s : Nat) (v0 v1 v2 v3 v4 v5 v6 : Value) : Prop where
  row : ∃ cur, w'.heap[g]? = some (.cells cur 26 (0, 0)) ∧ cur.size = s
  old : ∀ j, j < p ∨ p + 7 ≤ j → w'.cell? ⟨g, j, none⟩ = w.cell? ⟨g, j, none⟩
  c0 : w'.cell? ⟨g, p, none⟩ = some v0
  c1 : w'.cell? ⟨g, p + 1, none⟩ = some v1
  c2 : w'.cell? ⟨g, p + 2, none⟩ = some v2
  c3 : w'.cell? ⟨g, p + 3, none⟩ = some v3
  c4 : w'.cell? ⟨g, p + 4, none⟩ = some v4
  c5 : w'.cell? ⟨g, p + 5, none⟩ = some v5
  c6 : w'.cell? ⟨g, p + 6, none⟩ = some v6
  keeps : Keeps w w' (fun z => z = g)
theorem setSeven {w : World} {g p : Nat} {cur : Array Value} (hg : w.heap[g]? = some (.cells cur 26 (0, 0))) (hp : p + 7 ≤ cur.size) (v0 v1 v2 v3 v4 v5 v6 : Value) :
    Set7 w (((((((w.setCell ⟨g, p, none⟩ v0).setCell ⟨g, p + 1, none⟩ v1).setCell ⟨g, p + 2, none⟩ v2).setCell ⟨g, p + 3, none⟩ v3).setCell ⟨g, p + 4, none⟩ v4).setCell ⟨g, p + 5, none⟩ v5).setCell ⟨g, p + 6, none⟩ v6) g p cur.size v0 v1 v2 v3 v4 v5 v6 := by
  have h1 := heap_setCell_same w g (p) cur 26 v0 hg
  have h2 := heap_setCell_same _ g (p + 1) _ 26 v1 h1
  have h3 := heap_setCell_same _ g (p + 2) _ 26 v2 h2
  have h4 := heap_setCell_same _ g (p + 3) _ 26 v3 h3
  have h5 := heap_setCell_same _ g (p + 4) _ 26 v4 h4
  have h6 := heap_setCell_same _ g (p + 5) _ 26 v5 h5
  have h7 := heap_setCell_same _ g (p + 6) _ 26 v6 h6
  refine ⟨⟨_, h7, by simp⟩, fun j hj => ?_, ?_, ?_, ?_, ?_, ?_, ?_, ?_, ?_⟩
  · rw [cell_set_ne (by omega), cell_set_ne (by omega), cell_set_ne (by omega), cell_set_ne (by omega), cell_set_ne (by omega), cell_set_ne (by omega), cell_set_ne (by omega)]
  · rw [cell_set_ne (by omega), cell_set_ne (by omega), cell_set_ne (by omega), cell_set_ne (by omega), cell_set_ne (by omega), cell_set_ne (by omega)]
    exact cell_set_same hg (by omega)
  · rw [cell_set_ne (by omega), cell_set_ne (by omega), cell_set_ne (by omega), cell_set_ne (by omega), cell_set_ne (by omega)]
    exact cell_set_same h1 (by simp; omega)
  · rw [cell_set_ne (by omega), cell_set_ne (by omega), cell_set_ne (by omega), cell_set_ne (by omega)]
    exact cell_set_same h2 (by simp; omega)
  · rw [cell_set_ne (by omega), cell_set_ne (by omega), cell_set_ne (by omega)]
    exact cell_set_same h3 (by simp; omega)
  · rw [cell_set_ne (by omega), cell_set_ne (by omega)]
    exact cell_set_same h4 (by simp; omega)
  · rw [cell_set_ne (by omega)]
    exact cell_set_same h5 (by simp; omega)
  · exact cell_set_same h6 (by simp; omega)
  · exact (((((((Keeps.refl w (fun z => z = g)).setCell (p := ⟨g, p, none⟩) (fun _ => rfl) _).setCell (p := ⟨g, p + 1, none⟩) (fun _ => rfl) _).setCell (p := ⟨g, p + 2, none⟩) (fun _ => rfl) _).setCell (p := ⟨g, p + 3, none⟩) (fun _ => rfl) _).setCell (p := ⟨g, p + 4, none⟩) (fun _ => rfl) _).setCell (p := ⟨g, p + 5, none⟩) (fun _ => rfl) _).setCell (p := ⟨g, p + 6, none⟩) (fun _ => rfl) _
theorem put7_box {V : World} {Y : Nat} {x0 x1 x2 x3 x4 x5 x6 : Value} (v0 v1 v2 v3 v4 v5 v6 : Value) (h : V.heap[Y]? = some (.cells #[x0, x1, x2, x3, x4, x5, x6] 26 (0, 0))) :
    (((((((V.setCell ⟨Y, 0, none⟩ v0).setCell ⟨Y, 1, none⟩ v1).setCell ⟨Y, 2, none⟩ v2).setCell ⟨Y, 3, none⟩ v3).setCell ⟨Y, 4, none⟩ v4).setCell ⟨Y, 5, none⟩ v5).setCell ⟨Y, 6, none⟩ v6).heap[Y]? = some (.cells #[v0, v1, v2, v3, v4, v5, v6] 26 (0, 0)) := by
  have h1 := heap_setCell_same V Y 0 _ _ v0 h
  have h2 := heap_setCell_same _ Y 1 _ _ v1 h1
  have h3 := heap_setCell_same _ Y 2 _ _ v2 h2
  have h4 := heap_setCell_same _ Y 3 _ _ v3 h3
  have h5 := heap_setCell_same _ Y 4 _ _ v4 h4
  have h6 := heap_setCell_same _ Y 5 _ _ v5 h5
  rw [heap_setCell_same _ Y 6 _ _ v6 h6]
  simp only [List.setIfInBounds_toArray, List.set_cons_zero, List.set_cons_succ]
theorem put7_keeps (V : World) (Y : Nat) (v0 v1 v2 v3 v4 v5 v6 : Value) : Keeps V (((((((V.setCell ⟨Y, 0, none⟩ v0).setCell ⟨Y, 1, none⟩ v1).setCell ⟨Y, 2, none⟩ v2).setCell ⟨Y, 3, none⟩ v3).setCell ⟨Y, 4, none⟩ v4).setCell ⟨Y, 5, none⟩ v5).setCell ⟨Y, 6, none⟩ v6) (fun z => z = Y) :=
  (((((((Keeps.refl V (fun z => z = Y)).setCell (p := ⟨Y, 0, none⟩) (fun _ => rfl) _).setCell (p := ⟨Y, 1, none⟩) (fun _ => rfl) _).setCell (p := ⟨Y, 2, none⟩) (fun _ => rfl) _).setCell (p := ⟨Y, 3, none⟩) (fun _ => rfl) _).setCell (p := ⟨Y, 4, none⟩) (fun _ => rfl) _).setCell (p := ⟨Y, 5, none⟩) (fun _ => rfl) _).setCell (p := ⟨Y, 6, none⟩) (fun _ => rfl) _
/-- a list of fields in a block of its own, what lies within in blocks above it -/
def CRow (W : World) (D lo hi : Nat) (ao : Option Addr) (l : List FT) : Prop := ∃ b cur, ao = some ⟨b, 0, none⟩ ∧ lo ≤ b ∧ b < hi ∧ W.heap[b]? = some (.cells cur 26 (0, 0)) ∧ cur.size = l.length * 7 ∧ l.length ≤ big ∧
  ∀ i (h : i < l.length), ∃ ao', CellsAt W b (i * 7) l[i] ao' l[i].kids.length ∧ RowAt (fun z => b < z ∧ z < hi) W D ao' l[i].kids
theorem CRow.row {W : World} {D lo hi : Nat} {ao : Option Addr} {l : List FT} (h : CRow W D lo hi ao l) : RowAt (fun z => lo ≤ z ∧ z < hi) W (D + 1) ao l := by
  obtain ⟨b, cur, rfl, h1, h2, h3, h4, h5, h6⟩ := h
  refine ⟨h5, fun _ => ⟨b, 0, rfl, ⟨h1, h2⟩, fun i hi => ?_⟩⟩
  obtain ⟨ao', hc, hr⟩ := h6 i hi
  exact ⟨ao', _, by rw [Nat.zero_add]; exact hc, Nat.le_refl _, hr.mono fun z hz => ⟨by omega, hz.2⟩⟩
theorem CRow.kept {W W' : World} {D lo hi : Nat} {ao : Option Addr} {l : List FT} (h : CRow W D lo hi ao l) (k : ∀ b, lo ≤ b → b < hi → W'.heap[b]? = W.heap[b]?) : CRow W' D lo hi ao l := by
  obtain ⟨b, cur, rfl, h1, h2, h3, h4, h5, h6⟩ := h
  refine ⟨b, cur, rfl, h1, h2, (k b h1 h2).trans h3, h4, h5, fun i hi => ?_⟩
  obtain ⟨ao', hc, hr⟩ := h6 i hi
  exact ⟨ao', hc.kept (k b h1 h2), hr.kept fun z hz => k z (by omega) hz.2⟩
theorem CRow.wide {W : World} {D lo hi lo' hi' : Nat} {ao : Option Addr} {l : List FT} (h : CRow W D lo hi ao l) (h1 : lo' ≤ lo) (h2 : hi ≤ hi') : CRow W D lo' hi' ao l := by
  obtain ⟨b, cur, rfl, e1, e2, e3, e4, e5, e6⟩ := h
  refine ⟨b, cur, rfl, by omega, by omega, e3, e4, e5, fun i hi => ?_⟩
  obtain ⟨ao', hc, hr⟩ := e6 i hi
  exact ⟨ao', hc, hr.mono fun z hz => ⟨hz.1, by omega⟩⟩
def CpsC (w : World) (ao : Option Addr) (ca D : Nat) (l : List FT) : Prop := ∀ W, Gr w W → Calls Tryd.prog 51 #[.slice ao l.length ca] W fun e w' => ∃ b, e = .returned (.slice (some ⟨b, 0, none⟩) l.length l.length) ∧ Gr W w' ∧ CRow w' D W.heap.size w'.heap.size (some ⟨b, 0, none⟩) l
def CpC (w : World) (f : FT) (ao : Option Addr) (ca D : Nat) : Prop := ∀ W, Gr w W → Calls Tryd.prog 30 #[.agg #[.string f.name, .bool f.nul, .int .i64 f.kind, .int .i64 f.width, .int .i64 f.id, .int .i64 f.index, .slice ao f.kids.length ca]] W fun e w' => ∃ b, e = .returned (.agg #[.string f.name, .bool f.nul, .int .i64 f.kind, .int .i64 f.width, .int .i64 f.id, .int .i64 f.index, .slice (some ⟨b, 0, none⟩) f.kids.length f.kids.length]) ∧ Gr W w' ∧ CRow w' D W.heap.size w'.heap.size (some ⟨b, 0, none⟩) f.kids
set_option maxRecDepth 100000 in
set_option maxHeartbeats 4000000 in
theorem copy30 {w : World} {f : FT} {ao : Option Addr} {ca D : Nat} (h51 : CpsC w ao ca D f.kids) : CpC w f ao ca D := by
  intro W g
  have H51 := hidM h51
  have HG := hidM g
  obtain ⟨l, hl⟩ : ∃ l, l = f.kids := ⟨_, rfl⟩
  rw [← hl] at H51 ⊢
  obtain ⟨V, hV⟩ : ∃ V, (W.alloc (.cells #[.string f.name, .bool f.nul, .int .i64 f.kind, .int .i64 f.width, .int .i64 f.id, .int .i64 f.index, .slice ao l.length ca] 26)).alloc (.cells #[.string ⟨#[]⟩, .bool false, .int .i64 0, .int .i64 0, .int .i64 0, .int .i64 0, .slice none 0 0] 26) = V := ⟨_, rfl⟩
  have hA := alloc2 W (.cells #[.string f.name, .bool f.nul, .int .i64 f.kind, .int .i64 f.width, .int .i64 f.id, .int .i64 f.index, .slice ao l.length ca] 26) (.cells #[.string ⟨#[]⟩, .bool false, .int .i64 0, .int .i64 0, .int .i64 0, .int .i64 0, .slice none 0 0] 26)
  rw [hV] at hA
  have Hb7 : Hid (B7 V W.heap.size f.name f.nul f.kind f.width f.id f.index ao l.length ca) := hA.1
  have HbR : Hid (B7 V (W.heap.size + 1) ⟨#[]⟩ false 0 0 0 0 none 0 0) := hA.2.1
  have HGv := hidM hA.2.2
  have Hs : Hid (V.heap.size = W.heap.size + 2) := by show _ = _; rw [← hV]; simp
  have HV := hidM hV
  clear h51 g hl hV hA
  go_enter Tryd.func30, Tryd.ntmps30
  go_wp2_with (go_at_call 51; refine Hid.out ?_)
  unfold Hid
  rw [HV.out]
  refine Calls.mono (H51.out _ (HG.out.trans HGv.out (fun _ _ h => h))) ?_
  rintro e V1 ⟨b, rfl, hg1, hT⟩
  have b1 : B7 V1 W.heap.size f.name f.nul f.kind f.width f.id f.index ao l.length ca := (hg1.block _ (lt_of_heap Hb7.out) id).trans Hb7.out
  have b2 : B7 V1 (W.heap.size + 1) ⟨#[]⟩ false 0 0 0 0 none 0 0 := (hg1.block _ (lt_of_heap HbR.out) id).trans HbR.out
  obtain ⟨p0, p1, p2, p3, p4, p5, p6⟩ := B7.cells b1
  obtain ⟨q0, q1, q2, q3, q4, q5, q6⟩ := B7.cells b2
  have f6 := frz b1 6
  have g0 := frz b2 0
  have g1 := frz b2 1
  have g2 := frz b2 2
  have g3 := frz b2 3
  have g4 := frz b2 4
  have g5 := frz b2 5
  have g6 := frz b2 6
  have HT := hidM hT
  have HG1 := hidM hg1
  have HB2 := hidM b2
  clear hT hg1 b1 b2
  go_wp2_with fail
  obtain ⟨V2, hV2⟩ : ∃ V2, V1.setCell ⟨W.heap.size, 6, none⟩ (.slice (some ⟨b, 0, none⟩) l.length l.length) = V2 := ⟨_, rfl⟩
  rw [hV2]
  have k2 : Keeps V1 V2 (fun z => z = W.heap.size) := by rw [← hV2]; exact (Keeps.refl V1 (fun z => z = W.heap.size)).setCell (p := ⟨W.heap.size, 6, none⟩) (fun _ => rfl) _
  have hb2 : V2.heap[W.heap.size + 1]? = _ := (k2.block _ (lt_of_heap HB2.out) (by omega)).trans HB2.out
  have hb3 := put7_box (.string f.name) (.bool f.nul) (.int .i64 f.kind) (.int .i64 f.width) (.int .i64 f.id) (.int .i64 f.index) (.slice (some ⟨b, 0, none⟩) l.length l.length) hb2
  have k3 := put7_keeps V2 (W.heap.size + 1) (.string f.name) (.bool f.nul) (.int .i64 f.kind) (.int .i64 f.width) (.int .i64 f.id) (.int .i64 f.index) (.slice (some ⟨b, 0, none⟩) l.length l.length)
  have hs := Hs.out
  have hsz := k3.size
  have hsz2 := k2.size
  refine bodyPost_ret (results_cell_row rfl _ _ _ _ _ _ _ rfl hb3 Tryd.underlying26 rfl (by kernel_rfl)) rfl ⟨b, rfl, ?_, ?_⟩
  · exact ((HGv.out.trans HG1.out (fun _ _ h => h)).trans k2 (fun j hj e => by omega)).trans k3 (fun j hj e => by omega)
  · exact ((HT.out.kept fun c h1 h2 => k2.block c h2 (by omega)).kept fun c h1 h2 => k3.block c (by omega) (by omega)).wide (by omega) (by omega)
theorem info26f : (Tryd.prog.info? 26).map (fun i => (i.size, i.bytes)) = some (7, 80) := by kernel_rfl
theorem make_flds (n : Nat) (h : n ≤ 1000000000000) : ∃ z : Array Value, ∀ w, (Instr.makeSlice 22 (.int .i64 (n : Int)) (.int .i64 (n : Int))).run Tryd.prog w = .ok (.slice (some ⟨w.heap.size, 0, none⟩) n n) (w.alloc (.cells (madeCells z (n * 7)) 26)) := by
  obtain ⟨i, hi, hzz⟩ := Option.map_eq_some_iff.1 info26f
  simp only [Prod.mk.injEq] at hzz
  obtain ⟨hs, hb⟩ := hzz
  have hzs : (Tryd.prog.info? 26).bind (·.zero) = some (.agg #[.string ⟨#[]⟩, .bool false, .int .i64 0, .int .i64 0, .int .i64 0, .int .i64 0, .slice none 0 0]) := by kernel_rfl
  rw [hi] at hzs
  have hz : i.zero = some (.agg #[.string ⟨#[]⟩, .bool false, .int .i64 0, .int .i64 0, .int .i64 0, .int .i64 0, .slice none 0 0]) := hzs
  refine ⟨(Value.agg #[.string ⟨#[]⟩, .bool false, .int .i64 0, .int .i64 0, .int .i64 0, .int .i64 0, .slice none 0 0]).cells, fun w => ?_⟩
  have hb' : (i.bytes : Int) * (n : Int) ≤ 281474976710656 := by rw [hb]; omega
  have hr := run_make (P := Tryd.prog) w 22 26 i _ Tryd.underlying22 hi hz .i64 .i64 n n (by omega) (Int.le_refl _) hb' (by omega)
  simp only [Int.toNat_natCast, hs] at hr
  exact hr
structure CI (wr : World) (X D n : Nat) (l : List FT) (k : Nat) : Prop where
  row : ∃ cur, wr.heap[X]? = some (.cells cur 26 (0, 0)) ∧ cur.size = n * 7
  done : ∀ i (h : i < l.length), i < k → ∃ ao', CellsAt wr X (i * 7) l[i] ao' l[i].kids.length ∧ RowAt (fun z => X < z ∧ z < wr.heap.size) wr D ao' l[i].kids
theorem CI.next {wr V1 V2 : World} {X D n k b : Nat} {l : List FT} (h : CI wr X (D + 1) n l k) (hk : k < l.length) (hX : X < wr.heap.size) (g : Gr wr V1) (hT : CRow V1 D wr.heap.size V1.heap.size (some ⟨b, 0, none⟩) l[k].kids)
    (hp : Set7 V1 V2 X (k * 7) (n * 7) (.string l[k].name) (.bool l[k].nul) (.int .i64 l[k].kind) (.int .i64 l[k].width) (.int .i64 l[k].id) (.int .i64 l[k].index) (.slice (some ⟨b, 0, none⟩) l[k].kids.length l[k].kids.length)) : CI V2 X (D + 1) n l (k + 1) := by
  have kr : Keeps wr V2 (fun z => z = X) := (g.mono fun _ _ h => h.elim).trans hp.keeps (fun _ _ h => h)
  have hsz := kr.size
  have hsz1 := hp.keeps.size
  have hgs := g.size
  refine ⟨hp.row, fun i hi hik => ?_⟩
  by_cases e : i = k
  · subst e
    exact ⟨_, ⟨hp.c0, hp.c1, hp.c2, hp.c3, hp.c4, hp.c5, hp.c6⟩, (hT.row.kept fun z hz => hp.keeps.block z hz.2 (by omega)).mono fun z hz => ⟨by omega, by omega⟩⟩
  · obtain ⟨ao', hc, hr⟩ := h.done i hi (by omega)
    have e1 : ∀ j, j < 7 → V2.cell? ⟨X, i * 7 + j, none⟩ = wr.cell? ⟨X, i * 7 + j, none⟩ := fun j hj => (hp.old _ (by omega)).trans (g.cell hX id)
    refine ⟨ao', ⟨(e1 0 (by omega)).trans hc.c0, (e1 1 (by omega)).trans hc.c1, (e1 2 (by omega)).trans hc.c2, (e1 3 (by omega)).trans hc.c3, (e1 4 (by omega)).trans hc.c4, (e1 5 (by omega)).trans hc.c5, (e1 6 (by omega)).trans hc.c6⟩, (hr.kept fun z hz => kr.block z hz.2 (by omega)).mono fun z hz => ⟨hz.1, by omega⟩⟩
set_option maxRecDepth 100000 in
set_option maxHeartbeats 4000000 in
theorem copies51 (S : Nat → Prop) (d : Nat) (w : World) (hS : ∀ b, S b → b < w.heap.size) (ao : Option Addr) (ca : Nat) (l : List FT) (hl : RowAt S w (d + 1) ao l) (D : Nat)
    (h30 : ∀ (g : FT), g ∈ l → ∀ (go : Option Addr) (gc : Nat), RowAt S w d go g.kids → CpC w g go gc D) : CpsC w ao ca (D + 1) l := by
  intro W g0
  have hlen : l.length ≤ 1000000000000 := hl.len
  have HL := hidM hl
  have HS := hidM hS
  have H30 := hidM h30
  have HG := hidM g0
  obtain ⟨n, hn⟩ : ∃ n, n = l.length := ⟨_, rfl⟩
  have HN := hidM hn
  rw [← hn] at hlen ⊢
  obtain ⟨X, hX⟩ : ∃ X, X = W.heap.size := ⟨_, rfl⟩
  obtain ⟨z, hmkz⟩ := make_flds n hlen
  have hmk := hmkz W
  obtain ⟨W0, hW0⟩ : ∃ W0, W0 = W.alloc (.cells (madeCells z (n * 7)) 26) := ⟨_, rfl⟩
  rw [← hX, ← hW0] at hmk
  have hg0 : Gr W W0 := by rw [hW0]; exact gr_alloc W _
  have HI0 : Hid (CI W0 X (D + 1) n l 0) := ⟨⟨_, by rw [hW0, hX]; exact heap_alloc_new W _, by rw [size_madeCells]⟩, fun i _ h => by omega⟩
  have HX0 : Hid (X < W0.heap.size) := by show _ < _; rw [hW0, hX]; simp
  have HG0 := hidM hg0
  have HX : Hid (X = W.heap.size) := hX
  clear hl hS h30 g0 hn hX hW0 hg0 hmkz
  go_enter Tryd.func51, Tryd.ntmps51
  go_wp2
  clear hmk
  go_loopw [10] (fun p wr => ∃ k : Nat, k ≤ n ∧ p = .int .i64 (k : Int) ∧ Hid (Gr W wr ∧ X < wr.heap.size ∧ CI wr X (D + 1) n l k)) (fun p _ => n - (intOf p).toNat)
  case atStart => exact ⟨0, by omega, rfl, HG0.out, HX0.out, HI0.out⟩
  case round =>
    obtain ⟨k, hk, rfl, HK⟩ := hrel
    by_cases hlt : k < n
    · have hkl : k < l.length := by have := HN.out; omega
      obtain ⟨fb, fp, rfl, hfb, hfs⟩ := HL.out.2 (fun e => by subst e; simp at hkl)
      obtain ⟨go, gc, hg, hgle, hgrow⟩ := hfs k hkl
      have hcall := H30.out l[k] (List.getElem_mem hkl) go gc hgrow
      have gw : Gr w wr := HG.out.trans HK.out.1 (fun _ _ h => h)
      obtain ⟨c0, c1, c2, c3, c4, c5, c6⟩ := hg.kept (gw.block fb (HS.out fb hfb) id)
      obtain ⟨g, hge⟩ : ∃ g, g = l[k]'hkl := ⟨_, rfl⟩
      rw [← hge] at hcall c0 c1 c2 c3 c4 c5 c6
      have HGE := hidM hge
      have H1 := hidM hcall
      have HGw := hidM gw
      have HK2 := hidM HK.out
      have hltI : (k : Int) < (n : Int) := by omega
      clear hfs hg hgle hgrow hcall gw hge HK
      go_wp2_with (go_at_call 30; refine Hid.out ?_)
      unfold Hid
      refine Calls.mono (H1.out _ HGw.out) ?_
      rintro e V1 ⟨b, rfl, hg1, hT⟩
      obtain ⟨cur, hr, hsz⟩ := HK2.out.2.2.row
      have hr1 := (hg1.block X (lt_of_heap hr) id).trans hr
      have hfit : k * 7 + 7 ≤ cur.size := by omega
      have cx : ∀ j, j < 7 → ∃ x, V1.cell? ⟨X, k * 7 + j, none⟩ = some x := fun j hj => ⟨cur[k * 7 + j]'(by omega), by simp only [World.cell?, hr1]; simp⟩
      obtain ⟨x0, d0⟩ := cx 0 (by omega)
      obtain ⟨x1, d1⟩ := cx 1 (by omega)
      obtain ⟨x2, d2⟩ := cx 2 (by omega)
      obtain ⟨x3, d3⟩ := cx 3 (by omega)
      obtain ⟨x4, d4⟩ := cx 4 (by omega)
      obtain ⟨x5, d5⟩ := cx 5 (by omega)
      obtain ⟨x6, d6⟩ := cx 6 (by omega)
      rw [Nat.add_zero] at d0
      have e0 := frz hr1 (k * 7)
      have e1 := frz hr1 (k * 7 + 1)
      have e2 := frz hr1 (k * 7 + 2)
      have e3 := frz hr1 (k * 7 + 3)
      have e4 := frz hr1 (k * 7 + 4)
      have e5 := frz hr1 (k * 7 + 5)
      have e6 := frz hr1 (k * 7 + 6)
      have hS7 := setSeven hr1 hfit (.string g.name) (.bool g.nul) (.int .i64 g.kind) (.int .i64 g.width) (.int .i64 g.id) (.int .i64 g.index) (.slice (some ⟨b, 0, none⟩) g.kids.length g.kids.length)
      rw [hsz] at hS7
      have HP := hidM hS7
      have HR := hidM (And.intro hg1 hT)
      clear hg1 hT c0 c1 c2 c3 c4 c5 c6 hr hr1 hfit cx hS7 hsz
      go_wp2_with fail
      clear d0 d1 d2 d3 d4 d5 d6 e0 e1 e2 e3 e4 e5 e6
      obtain ⟨V2, hV2⟩ : ∃ V2, ((((((V1.setCell ⟨X, k * 7, none⟩ (.string g.name)).setCell ⟨X, k * 7 + 1, none⟩ (.bool g.nul)).setCell ⟨X, k * 7 + 2, none⟩ (.int .i64 g.kind)).setCell ⟨X, k * 7 + 3, none⟩ (.int .i64 g.width)).setCell ⟨X, k * 7 + 4, none⟩ (.int .i64 g.id)).setCell ⟨X, k * 7 + 5, none⟩ (.int .i64 g.index)).setCell ⟨X, k * 7 + 6, none⟩ (.slice (some ⟨b, 0, none⟩) g.kids.length g.kids.length) = V2 := ⟨_, rfl⟩
      rw [hV2] at HP ⊢
      clear hV2
      have HI2 : Hid (CI V2 X (D + 1) n l (k + 1)) := by
        have h1 := HGE.out
        subst h1
        exact HK2.out.2.2.next hkl HK2.out.2.1 HR.out.1 HR.out.2 HP.out
      have HG2 : Hid (Gr W V2) := (HK2.out.1.trans HR.out.1 (fun _ _ h => h)).trans HP.out.keeps (fun j hj e => by have := HX.out; omega)
      have HX2 : Hid (X < V2.heap.size) := Nat.lt_of_lt_of_le (Nat.lt_of_lt_of_le HK2.out.2.1 HR.out.1.size) HP.out.keeps.size
      exact ⟨⟨k + 1, by omega, by simp, HG2.out, HX2.out, HI2.out⟩, by simp [intOf]; omega⟩
    · have hkn : k = n := by omega
      subst hkn
      have HI := hidM HK.out
      clear HK
      go_wp2
      go_ret
      refine ⟨X, rfl, HI.out.1, ?_⟩
      obtain ⟨cur, hr, hs⟩ := HI.out.2.2.row
      have hn := HN.out
      have hx := HX.out
      exact ⟨X, cur, rfl, by omega, HI.out.2.1, hr, by rw [hs, hn], by show _ ≤ 1000000000000; omega, fun i hi => HI.out.2.2.done i hi (by omega)⟩
/-- all depths -/
theorem copy_any (S : Nat → Prop) (w : World) (hS : ∀ b, S b → b < w.heap.size) : ∀ (d : Nat) (f : FT) (ao : Option Addr) (ca : Nat), RowAt S w d ao f.kids → CpC w f ao ca (d + 1)
  | 0, f, ao, ca, h => copy30 (copies51 S 0 w hS ao ca f.kids (h.more (by omega)) 0 (fun g hg => by
      have e : f.kids = [] := h
      rw [e] at hg
      cases hg))
  | d + 1, f, ao, ca, h => copy30 (copies51 S d w hS ao ca f.kids h (d + 1) (fun g _ go gc hr => copy_any S w hS d g go gc hr))
end Go.Proofs.YtcfdkadhclickaaDoor.Kit
