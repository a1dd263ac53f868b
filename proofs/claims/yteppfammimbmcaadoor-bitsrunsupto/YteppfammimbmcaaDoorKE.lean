import Derived.Test.YteppfammimbmcaaDoorKD
import Derived.Deep.RegionHeld3
namespace Go.Proofs.YteppfammimbmcaaDoor.Kit
open Go.RowKit Go.Deep
set_option linter.unusedVariables false

theorem own_some {w : World} {t n : Nat} {v : Value} {xs : List Value} (hn : 0 < n) (h : w.ownsRow 0 t 1 v n xs) : ∃ g c, v = .slice (some ⟨g, 0, none⟩) n c := by
  rcases h.2 with ⟨_, h0⟩ | ⟨g, cap, cur, rfl, _⟩
  · omega
  · exact ⟨g, cap, rfl⟩
theorem wide_c (ao : Option Addr) (ca : Nat) (l : List Nat) (w : World) (hA : MapAt w (.slice ao l.length ca) l) :
    Calls Tryd.prog 42 #[.slice ao l.length ca] w fun e w' => ∃ g c, e = .returned (.slice (some ⟨g, 0, none⟩) (l.length + 9) c) ∧ w'.ownsRow 0 5 1 (.slice (some ⟨g, 0, none⟩) (l.length + 9) c) (l.length + 9) (cellsB (l ++ marksB 9)) ∧ w.heap.size ≤ g ∧ Keeps w w' (fun _ => False) := by
  have hlen := hA.len
  obtain ⟨ao', ca', e, hb, _⟩ := hA.form
  simp only [Value.slice.injEq, true_and] at e
  obtain ⟨rfl, rfl⟩ := e
  refine (wide_any ao ca l (by omega) w hb).mono ?_
  rintro e w' ⟨v, rfl, hN⟩
  have ho := hN.own (n := l.length + 9) (by simp [marksB_length])
  obtain ⟨g, c, rfl⟩ := own_some (by omega) ho
  exact ⟨g, c, rfl, ho, hN.2.1 g rfl, hN.2.2⟩
theorem wideB_c (ao : Option Addr) (ca : Nat) (l : List Bool) (hl : l.length ≤ 100000000) (w : World) (hb : BoolsAt w ao l.length (fun k => l.getD k false)) :
    Calls Tryd.prog 43 #[.slice ao l.length ca] w fun e w' => ∃ g c, e = .returned (.slice (some ⟨g, 0, none⟩) (l.length + 9) c) ∧ w'.ownsRow 0 4 1 (.slice (some ⟨g, 0, none⟩) (l.length + 9) c) (l.length + 9) (cellsO (l ++ marksO 9)) ∧ w.heap.size ≤ g ∧ Keeps w w' (fun _ => False) := by
  refine (wideBools_any ao ca l hl w hb).mono ?_
  rintro e w' ⟨v, rfl, hN⟩
  have ho := hN.own (n := l.length + 9) (by simp [marksO_length])
  obtain ⟨g, c, rfl⟩ := own_some (by omega) ho
  exact ⟨g, c, rfl, ho, hN.2.1 g rfl, hN.2.2⟩

theorem hidM {p : Prop} (h : p) : Hid p := h
theorem box3_frozen {w w' : World} {B ty : Nat} {x y z : Value} (h : w.heap[B]? = some (.cells #[x, y, z] ty (0, 0))) (k : Keeps w w' (fun _ => False)) :
    w'.heap[B]? = some (.cells #[x, y, z] ty (0, 0)) ∧ w'.cell? ⟨B, 0, none⟩ = some x ∧ w'.cell? ⟨B, 1, none⟩ = some y ∧ w'.cell? ⟨B, 2, none⟩ = some z ∧ w'.frozen? ⟨B, 0, none⟩ = false ∧ w'.frozen? ⟨B, 1, none⟩ = false ∧ w'.frozen? ⟨B, 2, none⟩ = false := by
  have hb : B < w.heap.size := by
    rcases Nat.lt_or_ge B w.heap.size with h1 | h1
    · exact h1
    · rw [Array.getElem?_eq_none h1] at h; cases h
  have h2 : w'.heap[B]? = some (.cells #[x, y, z] ty (0, 0)) := by rw [k.block B hb id]; exact h
  exact ⟨h2, by rw [cell_of_row _ _ 0 _ _ _ h2]; rfl, by rw [cell_of_row _ _ 1 _ _ _ h2]; rfl, by rw [cell_of_row _ _ 2 _ _ _ h2]; rfl, by simp [World.frozen?, h2], by simp [World.frozen?, h2], by simp [World.frozen?, h2]⟩
theorem gs_kept {W0 w w' : World} {B : Nat} {x y z : Value} (h : Hid (Keeps W0 w (fun _ => False)) ∧ w.cell? ⟨B, 1, none⟩ = some x ∧ w.cell? ⟨B, 2, none⟩ = some y ∧ w.cell? ⟨B, 3, none⟩ = some z) (k : Hid (Keeps w w' (fun _ => False))) :
    Hid (Keeps W0 w' (fun _ => False)) ∧ w'.cell? ⟨B, 1, none⟩ = some x ∧ w'.cell? ⟨B, 2, none⟩ = some y ∧ w'.cell? ⟨B, 3, none⟩ = some z :=
  ⟨h.1.out.trans k.out fun _ _ e => e.elim, k.out.cell' h.2.1 id, k.out.cell' h.2.2.1 id, k.out.cell' h.2.2.2 id⟩
theorem gs_fst {W0 w : World} {B : Nat} {x y z : Value} (h : Hid (Keeps W0 w (fun _ => False)) ∧ w.cell? ⟨B, 1, none⟩ = some x ∧ w.cell? ⟨B, 2, none⟩ = some y ∧ w.cell? ⟨B, 3, none⟩ = some z) : Keeps W0 w (fun _ => False) := h.1.out
theorem gs_set {W0 w : World} {B i : Nat} {x y z v : Value} (hB : Hid (B = W0.heap.size)) (h : Hid (Keeps W0 w (fun _ => False)) ∧ w.cell? ⟨B, 1, none⟩ = some x ∧ w.cell? ⟨B, 2, none⟩ = some y ∧ w.cell? ⟨B, 3, none⟩ = some z) :
    Hid (Keeps W0 (w.setCell ⟨B + 1, i, none⟩ v) (fun _ => False)) ∧ (w.setCell ⟨B + 1, i, none⟩ v).cell? ⟨B, 1, none⟩ = some x ∧ (w.setCell ⟨B + 1, i, none⟩ v).cell? ⟨B, 2, none⟩ = some y ∧ (w.setCell ⟨B + 1, i, none⟩ v).cell? ⟨B, 3, none⟩ = some z := by
  have k : Keeps w (w.setCell ⟨B + 1, i, none⟩ v) (fun b => b = B + 1) := (Keeps.refl w (fun b => b = B + 1)).setCell (p := ⟨B + 1, i, none⟩) (fun _ => rfl) v
  have hb := hB.out
  exact ⟨h.1.out.trans k (fun j hj e => by omega), k.cell' h.2.1 (by show ¬ (B = B + 1); omega), k.cell' h.2.2.1 (by show ¬ (B = B + 1); omega), k.cell' h.2.2.2 (by show ¬ (B = B + 1); omega)⟩

theorem three3 {w : World} {B : Nat} {c0 c1 c2 : Value} (h : w.heap[B]? = some (.cells #[c0, c1, c2] 36 (0, 0))) (u0 u1 u2 : Value) :
    (((w.setCell ⟨B, 0, none⟩ u0).setCell ⟨B, 1, none⟩ u1).setCell ⟨B, 2, none⟩ u2).heap[B]? = some (.cells #[u0, u1, u2] 36 (0, 0)) := by
  have h0 := heap_setCell_same w B 0 _ 36 u0 h
  have h1 := heap_setCell_same _ B 1 _ 36 u1 h0
  have h2 := heap_setCell_same _ B 2 _ 36 u2 h1
  simpa using h2
theorem gave_end {w W0 w1 w2 w3 : World} {B g1 g2 g3 c1 c2 c3 : Nat} {la lb : List Nat} {ll : List Bool} {u0 u1 u2 x y z : Value} (hB : Hid (B = w.heap.size)) (hsz : Hid (w.heap.size + 2 = W0.heap.size)) (hb : Hid (Bytes la ∧ Bytes lb)) (hl : Hid (la.length ≤ 9000000 ∧ lb.length ≤ 9000000 ∧ ll.length ≤ 90000000))
    (hO1 : Hid (w1.ownsRow 0 5 1 (.slice (some ⟨g1, 0, none⟩) (la.length + 9) c1) (la.length + 9) (cellsB (la ++ marksB 9)))) (hg1 : Hid (W0.drew.heap.size ≤ g1)) (hk1 : Hid (Keeps W0.drew w1 (fun _ => False)))
    (hO2 : Hid (w2.ownsRow 0 5 1 (.slice (some ⟨g2, 0, none⟩) (lb.length + 9) c2) (lb.length + 9) (cellsB (lb ++ marksB 9)))) (hg2 : Hid (w1.heap.size ≤ g2)) (hk2 : Hid (Keeps w1 w2 (fun _ => False)))
    (hO3 : Hid (w3.ownsRow 0 4 1 (.slice (some ⟨g3, 0, none⟩) (ll.length + 9) c3) (ll.length + 9) (cellsO (ll ++ marksO 9)))) (hg3 : Hid (w2.heap.size ≤ g3)) (hk3 : Hid (Keeps w2 w3 (fun _ => False)))
    (hr : Hid (w3.heap[B + 1]? = some (.cells #[x, y, z] 36 (0, 0)))) :
    (((w3.setCell ⟨B + 1, 0, none⟩ u0).setCell ⟨B + 1, 1, none⟩ u1).setCell ⟨B + 1, 2, none⟩ u2).heap[B + 1]? = some (.cells #[u0, u1, u2] 36 (0, 0)) ∧ GivAt (((w3.setCell ⟨B + 1, 0, none⟩ u0).setCell ⟨B + 1, 1, none⟩ u1).setCell ⟨B + 1, 2, none⟩ u2) g1 g2 g3 c1 c2 c3 ⟨la, lb, ll⟩ ∧ w.heap.size ≤ g1 ∧ w.heap.size ≤ g2 ∧ w.heap.size ≤ g3 := by
  have e1 := hB.out
  have e2 := hsz.out
  have e3 : W0.heap.size ≤ g1 := hg1.out
  have e4 := hg2.out
  have e5 := hg3.out
  have e6 := (own_cap hO1.out).2.2
  have e7 := (own_cap hO2.out).2.2
  have e8 := hl.out
  have k : Keeps w3 (((w3.setCell ⟨B + 1, 0, none⟩ u0).setCell ⟨B + 1, 1, none⟩ u1).setCell ⟨B + 1, 2, none⟩ u2) (fun b => b = B + 1) :=
    (((Keeps.refl w3 (fun b => b = B + 1)).setCell (p := ⟨B + 1, 0, none⟩) (fun _ => rfl) u0).setCell (p := ⟨B + 1, 1, none⟩) (fun _ => rfl) u1).setCell (p := ⟨B + 1, 2, none⟩) (fun _ => rfl) u2
  have r1 := own_kept (own_kept hO1.out hk2.out fun _ _ => id) hk3.out fun _ _ => id
  have r2 := own_kept hO2.out hk3.out fun _ _ => id
  have G : GivAt w3 g1 g2 g3 c1 c2 c3 ⟨la, lb, ll⟩ := ⟨r1, r2, hO3.out, by omega, hb.out.1, hb.out.2, e8.1, e8.2.1, e8.2.2⟩
  exact ⟨three3 hr.out u0 u1 u2, G.kept k (by show ¬ g1 = B + 1; omega) (by show ¬ g2 = B + 1; omega) (by show ¬ g3 = B + 1; omega), by omega, by omega, by omega⟩

set_option maxRecDepth 100000 in
set_option maxHeartbeats 4000000 in
theorem gave_form (kind : Int) (ao bo lo : Option Addr) (ca cb cl : Nat) (la lb : List Nat) (ll : List Bool) (fr n k : Int) (on : Bool) (w : World) (hA : MapAt w (.slice ao la.length ca) la) (hB : MapAt w (.slice bo lb.length cb) lb) (hL : BoolsAt w lo ll.length (fun k => ll.getD k false)) (h1 : la.length ≤ 9000000) (h2 : lb.length ≤ 9000000) (h3 : ll.length ≤ 90000000) :
    Calls Tryd.prog 11 #[opV kind ao bo lo la.length ca lb.length cb ll.length cl fr n k on] w fun e w' => ∃ a1 a2 a3 c1 c2 c3, e = .returned (givV a1 a2 a3 (la.length + 9) (lb.length + 9) (ll.length + 9) c1 c2 c3) ∧ GivAt w' a1 a2 a3 c1 c2 c3 ⟨la, lb, ll⟩ ∧ w.heap.size ≤ a1 ∧ w.heap.size ≤ a2 ∧ w.heap.size ≤ a3 ∧ Keeps w w' (fun _ => False) := by
  obtain ⟨W0, hW0⟩ : ∃ W0, W0 = (w.alloc (.cells #[.int .i64 kind, .slice ao la.length ca, .slice bo lb.length cb, .slice lo ll.length cl, .int .i64 fr, .int .i64 n, .int .i64 k, .bool on] 31)).alloc (.cells #[.slice none 0 0, .slice none 0 0, .slice none 0 0] 36) := ⟨_, rfl⟩
  have hK0 : Keeps w W0 (fun _ => False) := by rw [hW0]; exact ((Keeps.refl _ _).alloc _).alloc _
  have HWA : Hid (∀ W, Keeps w W (fun _ => False) → Calls Tryd.prog 42 #[.slice ao la.length ca] W fun e w' => ∃ g c, e = .returned (.slice (some ⟨g, 0, none⟩) (la.length + 9) c) ∧ w'.ownsRow 0 5 1 (.slice (some ⟨g, 0, none⟩) (la.length + 9) c) (la.length + 9) (cellsB (la ++ marksB 9)) ∧ W.heap.size ≤ g ∧ Keeps W w' (fun _ => False)) := fun W kk => wide_c ao ca la W (hA.kept kk)
  have HWB : Hid (∀ W, Keeps w W (fun _ => False) → Calls Tryd.prog 42 #[.slice bo lb.length cb] W fun e w' => ∃ g c, e = .returned (.slice (some ⟨g, 0, none⟩) (lb.length + 9) c) ∧ w'.ownsRow 0 5 1 (.slice (some ⟨g, 0, none⟩) (lb.length + 9) c) (lb.length + 9) (cellsB (lb ++ marksB 9)) ∧ W.heap.size ≤ g ∧ Keeps W w' (fun _ => False)) := fun W kk => wide_c bo cb lb W (hB.kept kk)
  have HWL : Hid (∀ W, Keeps w W (fun _ => False) → Calls Tryd.prog 43 #[.slice lo ll.length cl] W fun e w' => ∃ g c, e = .returned (.slice (some ⟨g, 0, none⟩) (ll.length + 9) c) ∧ w'.ownsRow 0 4 1 (.slice (some ⟨g, 0, none⟩) (ll.length + 9) c) (ll.length + 9) (cellsO (ll ++ marksO 9)) ∧ W.heap.size ≤ g ∧ Keeps W w' (fun _ => False)) := fun W kk => wideB_c lo cl ll (by omega) W (hL.kept0 kk)
  have x1 : W0.cell? ⟨w.heap.size, 1, none⟩ = some (.slice ao la.length ca) := by rw [hW0]; simp
  have x2 : W0.cell? ⟨w.heap.size, 2, none⟩ = some (.slice bo lb.length cb) := by rw [hW0]; simp
  have x3 : W0.cell? ⟨w.heap.size, 3, none⟩ = some (.slice lo ll.length cl) := by rw [hW0]; simp
  have HBX : Hid (W0.heap[w.heap.size + 1]? = some (.cells #[.slice none 0 0, .slice none 0 0, .slice none 0 0] 36 (0, 0))) := by
    show _ = _
    have := heap_alloc_new (w.alloc (.cells #[.int .i64 kind, .slice ao la.length ca, .slice bo lb.length cb, .slice lo ll.length cl, .int .i64 fr, .int .i64 n, .int .i64 k, .bool on] 31)) (.cells #[.slice none 0 0, .slice none 0 0, .slice none 0 0] 36)
    rw [World.size_alloc] at this
    rw [hW0]
    exact this
  have HSZ : Hid (w.heap.size + 2 = W0.heap.size) := by rw [hW0]; show _ = _; simp
  have HBA : Hid (Bytes la ∧ Bytes lb) := ⟨hA.bytes, hB.bytes⟩
  have HK0 : Hid (Keeps w W0 (fun _ => False)) := hK0
  clear hA hB hL hK0
  unfold opV
  go_enter Tryd.func11, Tryd.ntmps11
  go_wp2
  rw [← hW0]
  clear hW0
  obtain ⟨B, hB⟩ : ∃ B, B = w.heap.size := ⟨_, rfl⟩
  rw [← hB] at x1 x2 x3 ⊢
  have HB : Hid (B = w.heap.size) := hB
  clear hB
  have HIN : Hid (Hid (Keeps w W0.drew (fun _ => False)) ∧ W0.drew.cell? ⟨B, 1, none⟩ = some (.slice ao la.length ca) ∧ W0.drew.cell? ⟨B, 2, none⟩ = some (.slice bo lb.length cb) ∧ W0.drew.cell? ⟨B, 3, none⟩ = some (.slice lo ll.length cl)) := ⟨HK0.out.drew, x1, x2, x3⟩
  have HBY : Hid (W0.heap[B + 1]? = some (.cells #[.slice none 0 0, .slice none 0 0, .slice none 0 0] 36 (0, 0))) := by
    rw [HB.out]
    exact HBX
  have HL : Hid (la.length ≤ 9000000 ∧ lb.length ≤ 9000000 ∧ ll.length ≤ 90000000) := ⟨h1, h2, h3⟩
  clear x1 x2 x3 h1 h2 h3 HBX
  go_region_held3 (fun w' => Hid (Keeps w w' (fun _ => False)) ∧ w'.cell? ⟨B, 1, none⟩ = some (.slice ao la.length ca) ∧ w'.cell? ⟨B, 2, none⟩ = some (.slice bo lb.length cb) ∧ w'.cell? ⟨B, 3, none⟩ = some (.slice lo ll.length cl)) (first | with_reducible exact HIN.out | with_reducible exact gs_kept (by assumption) hk3 | with_reducible exact gs_kept (by assumption) hk2 | with_reducible exact gs_kept (by assumption) hk1 | with_reducible exact gs_set HB (gs_set HB (gs_set HB (by assumption)))) (first | (have _ := hk2; go_at_call 43; refine (HWL.out _ (gs_fst (by assumption))).mono ?_; rintro e w3 ⟨g3, c3, rfl, hO3, hg3, hk3⟩; have kk := (((Keeps.refl W0 (fun _ => False)).drew.trans hk1.out (fun _ _ h => h)).trans hk2.out (fun _ _ h => h)).trans hk3 (fun _ _ h => h); obtain ⟨yr, y0, y1, y2, f0, f1, f2⟩ := box3_frozen HBY.out kk; replace yr := hidM yr; clear kk; replace hk3 := hidM hk3; replace hO3 := hidM hO3; replace hg3 := hidM hg3) | (have _ := hk1; go_at_call 42; refine (HWB.out _ (gs_fst (by assumption))).mono ?_; rintro e w2 ⟨g2, c2, rfl, hO2, hg2, hk2⟩; replace hk2 := hidM hk2; replace hO2 := hidM hO2; replace hg2 := hidM hg2) | (go_at_call 42; refine (HWA.out _ (gs_fst (by assumption))).mono ?_; rintro e w1 ⟨g1, c1, rfl, hO1, hg1, hk1⟩; replace hk1 := hidM hk1; replace hO1 := hidM hO1; replace hg1 := hidM hg1))
  rename_i hHeld
  have HF := hidM (gs_fst hHeld)
  have HE := hidM (gave_end (u0 := .slice (some ⟨g1, 0, none⟩) (la.length + 9) c1) (u1 := .slice (some ⟨g2, 0, none⟩) (lb.length + 9) c2) (u2 := .slice (some ⟨g3, 0, none⟩) (ll.length + 9) c3) HB HSZ HBA HL hO1 hg1 hk1 hO2 hg2 hk2 hO3 hg3 hk3 yr)
  clear hHeld y0 y1 y2 f0 f1 f2 yr hO1 hO2 hO3
  generalize (((w3.setCell ⟨B + 1, 0, none⟩ (.slice (some ⟨g1, 0, none⟩) (la.length + 9) c1)).setCell ⟨B + 1, 1, none⟩ (.slice (some ⟨g2, 0, none⟩) (lb.length + 9) c2)).setCell ⟨B + 1, 2, none⟩ (.slice (some ⟨g3, 0, none⟩) (ll.length + 9) c3)) = W4 at *
  obtain ⟨hr, -, -, -, -⟩ := HE.out
  have z0 : W4.cell? ⟨B + 1, 0, none⟩ = some (.slice (some ⟨g1, 0, none⟩) (la.length + 9) c1) := by rw [cell_of_row _ _ 0 _ _ _ hr]; rfl
  have z1 : W4.cell? ⟨B + 1, 1, none⟩ = some (.slice (some ⟨g2, 0, none⟩) (lb.length + 9) c2) := by rw [cell_of_row _ _ 1 _ _ _ hr]; rfl
  have z2 : W4.cell? ⟨B + 1, 2, none⟩ = some (.slice (some ⟨g3, 0, none⟩) (ll.length + 9) c3) := by rw [cell_of_row _ _ 2 _ _ _ hr]; rfl
  clear hr
  go_wp2_with fail
  refine bodyPost_ret (v := .agg #[.slice (some ⟨g1, 0, none⟩) (la.length + 9) c1, .slice (some ⟨g2, 0, none⟩) (lb.length + 9) c2, .slice (some ⟨g3, 0, none⟩) (ll.length + 9) c3]) ?_ rfl ?_
  · simp [results, Tryd.f11, go_sem, z0, z1, z2]
  · exact ⟨g1, g2, g3, c1, c2, c3, rfl, HE.out.2.1, HE.out.2.2.1, HE.out.2.2.2.1, HE.out.2.2.2.2, HF.out⟩
end Go.Proofs.YteppfammimbmcaaDoor.Kit
