import Derived.Test.YtfoifmacobldbaaGreatDoorUC
set_option maxRecDepth 100000
set_option maxHeartbeats 4000000
namespace Go.Proofs.YtfoifmacobldbaaGreatDoor.Kit
open Go.RowKit Go.Shelf Go.Deep
set_option linter.unusedVariables false
set_option linter.unusedSimpArgs false
/-! ### Parse 12 where a value stands there -/
theorem parse12_yes (f : FT) (fo : Option Addr) (fc : Nat) (s : ByteArray) (W : World) (D : Nat) (h21 : ∀ u, Gr W u → Calls Tryz.prog 21 #[.agg #[.string f.name, .bool f.nul, .int .i64 f.kind, .int .i64 f.width, .int .i64 f.id, .int .i64 f.index, .slice fo f.kids.length fc]] u fun e w' => e = .returned (.bool true) ∧ Gr u w') (hs : s.size ≤ 65536) (v : VT) (t : List UInt8) (ho : QB.rdV (QF.leafR numB) (D + 1) f s.data.toList = some (v, t)) (ht : t = [])
    (hV : ∀ B p, Gr W B → W.heap.size + 1 + 1 ≤ p → Rd B p s 0 0 → Calls Tryz.prog 29 #[.pointer (some ⟨p, 0, none⟩), .agg #[.string f.name, .bool f.nul, .int .i64 f.kind, .int .i64 f.width, .int .i64 f.id, .int .i64 f.index, .slice fo f.kids.length fc]] B (VaA B p s 0 (D + 1) (QB.rdV (QF.leafR numB) (D + 1) f s.data.toList))) :
    Calls Tryz.prog 12 #[.agg #[.string f.name, .bool f.nul, .int .i64 f.kind, .int .i64 f.width, .int .i64 f.id, .int .i64 f.index, .slice fo f.kids.length fc], .string s] W (ParA W s (D + 1) (parR true D f s)) := by
  have hP : parR true D f s = some v := by
    unfold parR
    rw [if_pos ⟨rfl, hs⟩, ho, ht]
  rw [hP]
  clear hP
  obtain ⟨A2, hA2⟩ : ∃ A2, (W.alloc (.cells #[.string f.name, .bool f.nul, .int .i64 f.kind, .int .i64 f.width, .int .i64 f.id, .int .i64 f.index, .slice fo f.kids.length fc] 26)).alloc (.cells #[.bool false, .int .i64 0, .string ⟨#[]⟩, .slice none 0 0] 29) = A2 := ⟨_, rfl⟩
  have hGA : Gr W A2 := by rw [← hA2]; exact (gr_alloc W _).trans (gr_alloc _ _) (fun _ _ h => h)
  have hsz : A2.heap.size = W.heap.size + 1 + 1 := by rw [← hA2]; simp
  obtain ⟨hb1, hb0⟩ : A2.heap[W.heap.size]? = some (.cells #[.string f.name, .bool f.nul, .int .i64 f.kind, .int .i64 f.width, .int .i64 f.id, .int .i64 f.index, .slice fo f.kids.length fc] 26) ∧ A2.heap[W.heap.size + 1]? = some (.cells #[.bool false, .int .i64 0, .string ⟨#[]⟩, .slice none 0 0] 29) := by
    have e1 := heap_alloc_new W (.cells #[.string f.name, .bool f.nul, .int .i64 f.kind, .int .i64 f.width, .int .i64 f.id, .int .i64 f.index, .slice fo f.kids.length fc] 26)
    have e2 := heap_alloc_new (W.alloc (.cells #[.string f.name, .bool f.nul, .int .i64 f.kind, .int .i64 f.width, .int .i64 f.id, .int .i64 f.index, .slice fo f.kids.length fc] 26)) (.cells #[.bool false, .int .i64 0, .string ⟨#[]⟩, .slice none 0 0] 29)
    rw [show (W.alloc (.cells #[.string f.name, .bool f.nul, .int .i64 f.kind, .int .i64 f.width, .int .i64 f.id, .int .i64 f.index, .slice fo f.kids.length fc] 26)).heap.size = W.heap.size + 1 by simp] at e2
    rw [← hA2]
    exact ⟨((gr_alloc _ _).block _ (lt_of_heap e1) id).trans e1, e2⟩
  have HKB : Hid (∀ u q, W.heap.size + 1 + 1 ≤ q → Keeps A2 u (fun z => z = q) → u.heap[W.heap.size + 1]? = some (.cells #[.bool false, .int .i64 0, .string ⟨#[]⟩, .slice none 0 0] 29)) := fun u q hq hk => (hk.block _ (lt_of_heap hb0) (fun e => by omega)).trans hb0
  have HFB : Hid (∀ u, Gr A2 u → u.cell? ⟨W.heap.size, 0, none⟩ = some (.string f.name) ∧ u.cell? ⟨W.heap.size, 1, none⟩ = some (.bool f.nul) ∧ u.cell? ⟨W.heap.size, 2, none⟩ = some (.int .i64 f.kind) ∧ u.cell? ⟨W.heap.size, 3, none⟩ = some (.int .i64 f.width) ∧ u.cell? ⟨W.heap.size, 4, none⟩ = some (.int .i64 f.id) ∧ u.cell? ⟨W.heap.size, 5, none⟩ = some (.int .i64 f.index) ∧ u.cell? ⟨W.heap.size, 6, none⟩ = some (.slice fo f.kids.length fc)) := fun u hk => by
    have h := (hk.block _ (lt_of_heap hb1) id).trans hb1
    simp [World.cell?, h]
  obtain ⟨e0, e1, e2, e3, e4, e5, e6⟩ := HFB.out A2 (Keeps.refl _ _)
  have H21 := hidM h21
  have HGA := hidM hGA
  have HSL := hidM hs
  rw [ho] at hV
  have HV : Hid (∀ B p, Gr W B → A2.heap.size ≤ p → Rd B p s 0 0 → Calls Tryz.prog 29 #[.pointer (some ⟨p, 0, none⟩), .agg #[.string f.name, .bool f.nul, .int .i64 f.kind, .int .i64 f.width, .int .i64 f.id, .int .i64 f.index, .slice fo f.kids.length fc]] B (VaA B p s 0 (D + 1) (some (v, t)))) := fun B p h1 h2 h3 => hV B p h1 (by omega) h3
  have hsI : ¬ (65536 : Int) < (s.size : Int) := by omega
  replace HV : Hid (∀ B p, Gr W B → W.heap.size ≤ p → Rd B p s 0 0 → A2.heap.size ≤ p → Calls Tryz.prog 29 #[.pointer (some ⟨p, 0, none⟩), .agg #[.string f.name, .bool f.nul, .int .i64 f.kind, .int .i64 f.width, .int .i64 f.id, .int .i64 f.index, .slice fo f.kids.length fc]] B fun e W' => Keeps B W' (fun z => z = p) ∧ (∃ val, e = .returned (.tuple #[val, .bool true]) ∧ VV (D + 1) B W' v val) ∧ t.length ≤ s.size ∧ t = s.data.toList.drop (s.size - t.length) ∧ Rd W' p s (s.size - t.length) 0) := fun B p h1 _ h3 h4 => HV.out B p h1 h4 h3
  have HSZ := hidM hsz
  clear h21 hGA hb1 hb0 hV ho
  subst ht
  have hat : ¬ (((s.size - ([] : List UInt8).length : Nat) : Nat) : Int) < (s.size : Int) := by simp
  go_enter Tryz.func12, Tryz.ntmps12
  go_wp2_with (first | (go_at_call 29; refine HVC.out.mono ?_; rintro e u2 ⟨hk2, ⟨val, rfl, ko, kc, rfl, hkc, hok, hrow⟩, ht1, ht2, hr2⟩; obtain ⟨C2, hC2⟩ : ∃ C2, u2.alloc (.cells #[.bool v.nul, .int .i64 v.num, .string v.text, .slice ko v.list.length kc] 29) = C2 := ⟨_, rfl⟩; have HGC : Hid (Gr u2 C2) := (by show Gr u2 C2; rw [← hC2]; exact gr_alloc _ _); have HKB2 : Hid (Keeps A2 C2 (fun z => z = u1.heap.size)) := ((gr_kp (HG1.out.trans HGB.out (fun _ _ h => h))).trans hk2 (fun _ _ h => h)).trans (gr_kp HGC.out) (fun _ _ h => h); have HRC := hidM (hr2.gr HGC.out); have d1 := HRC.out.cells.2.1; have HVV := hidM (And.intro hkc (And.intro hok hrow)); have HCX : Hid (C2.heap[u2.heap.size]? = some (.cells #[.bool v.nul, .int .i64 v.num, .string v.text, .slice ko v.list.length kc] 29)) := (by show _ = _; rw [← hC2]; exact heap_alloc_new u2 _); obtain ⟨x0, x1, x2, x3, -⟩ := blk4 HCX.out; have hqp : W.heap.size + 1 + 1 ≤ u1.heap.size := (by have h1 := HG1.out.size; have h2 := HSZ.out; omega); have HB9 := hidM (HKB.out C2 u1.heap.size hqp HKB2.out); obtain ⟨q0, q1, q2, q3, z0, z1, z2, z3⟩ := blk4 HB9.out; have HS2 := hidM hk2.size; clear hk2 hr2 ht1 ht2 hkc hok hrow; simp only []) | (go_at_call 21; refine (H21.out _ HGA.out).mono ?_; rintro e u1 ⟨rfl, hg1⟩; have HG1 := hidM hg1; obtain ⟨B, hB⟩ : ∃ B, u1.alloc (.cells #[.string s, .int .i64 0, .int .i64 0] 63) = B := ⟨_, rfl⟩; have HGB : Hid (Gr u1 B) := (by show Gr u1 B; rw [← hB]; exact gr_alloc _ _); have HBB : Hid (B.heap[u1.heap.size]? = some (.cells #[.string s, .int .i64 0, .int .i64 0] 63)) := (by show _ = _; rw [← hB]; exact heap_alloc_new u1 _); obtain ⟨e0, e1, e2, e3, e4, e5, e6⟩ := HFB.out B (hg1.trans HGB.out (fun _ _ h => h)); have HRB : Hid (Rd B u1.heap.size s 0 0) := ⟨HBB.out, HSL.out, Nat.zero_le _⟩; have HVC := hidM (HV.out B u1.heap.size (HGA.out.trans (hg1.trans HGB.out (fun _ _ h => h)) (fun _ _ h => h)) (HGA.out.trans hg1 (fun _ _ h => h)).size HRB.out hg1.size); clear hg1; simp only []))
  refine bodyPost_ret (res12 _ (W.heap.size + 1) _ _ _ _ 0 0 _ rfl rfl rfl (set4_blk HB9.out _ _ _ _)) rfl ?_
  have h1 := HG1.out.size
  have h2 := HGB.out.size
  have h3 := HSZ.out
  have hgw : Gr W C2 := HGA.out.trans HKB2.out (fun j hj e => by omega)
  refine ⟨gr_new hgw (by omega) _ _ _ _, _, rfl, ko, kc, rfl, HVV.out.1, HVV.out.2.1, ?_⟩
  have hk := (HVV.out.2.2.nv (fun b hb => HGC.out.block b hb.2 id) HGC.out.size).kept (W' := set4 C2 (W.heap.size + 1) (.bool v.nul) (.int .i64 v.num) (.string v.text) (.slice ko v.list.length kc)) (fun b hb => set4_oth (fun e => by have := hb.1; omega) _ _ _ _)
  exact hk.mono fun b hb => ⟨by have := hb.1; omega, Nat.lt_of_lt_of_le hb.2 (Nat.le_of_eq (set4_size _ _ _ _ _ _).symm)⟩
theorem parse12_more (f : FT) (fo : Option Addr) (fc : Nat) (s : ByteArray) (W : World) (D : Nat) (h21 : ∀ u, Gr W u → Calls Tryz.prog 21 #[.agg #[.string f.name, .bool f.nul, .int .i64 f.kind, .int .i64 f.width, .int .i64 f.id, .int .i64 f.index, .slice fo f.kids.length fc]] u fun e w' => e = .returned (.bool true) ∧ Gr u w') (hs : s.size ≤ 65536) (v : VT) (t : List UInt8) (ho : QB.rdV (QF.leafR numB) (D + 1) f s.data.toList = some (v, t)) (ht : t ≠ []) (hts : t.length ≤ s.size)
    (hV : ∀ B p, Gr W B → W.heap.size + 1 + 1 ≤ p → Rd B p s 0 0 → Calls Tryz.prog 29 #[.pointer (some ⟨p, 0, none⟩), .agg #[.string f.name, .bool f.nul, .int .i64 f.kind, .int .i64 f.width, .int .i64 f.id, .int .i64 f.index, .slice fo f.kids.length fc]] B (VaA B p s 0 (D + 1) (QB.rdV (QF.leafR numB) (D + 1) f s.data.toList))) :
    Calls Tryz.prog 12 #[.agg #[.string f.name, .bool f.nul, .int .i64 f.kind, .int .i64 f.width, .int .i64 f.id, .int .i64 f.index, .slice fo f.kids.length fc], .string s] W (ParA W s (D + 1) (parR true D f s)) := by
  have hP : parR true D f s = none := by
    unfold parR
    rw [if_pos ⟨rfl, hs⟩, ho]
    cases t with
    | nil => exact absurd rfl ht
    | cons x y => rfl
  rw [hP]
  clear hP
  obtain ⟨A2, hA2⟩ : ∃ A2, (W.alloc (.cells #[.string f.name, .bool f.nul, .int .i64 f.kind, .int .i64 f.width, .int .i64 f.id, .int .i64 f.index, .slice fo f.kids.length fc] 26)).alloc (.cells #[.bool false, .int .i64 0, .string ⟨#[]⟩, .slice none 0 0] 29) = A2 := ⟨_, rfl⟩
  have hGA : Gr W A2 := by rw [← hA2]; exact (gr_alloc W _).trans (gr_alloc _ _) (fun _ _ h => h)
  have hsz : A2.heap.size = W.heap.size + 1 + 1 := by rw [← hA2]; simp
  obtain ⟨hb1, hb0⟩ : A2.heap[W.heap.size]? = some (.cells #[.string f.name, .bool f.nul, .int .i64 f.kind, .int .i64 f.width, .int .i64 f.id, .int .i64 f.index, .slice fo f.kids.length fc] 26) ∧ A2.heap[W.heap.size + 1]? = some (.cells #[.bool false, .int .i64 0, .string ⟨#[]⟩, .slice none 0 0] 29) := by
    have e1 := heap_alloc_new W (.cells #[.string f.name, .bool f.nul, .int .i64 f.kind, .int .i64 f.width, .int .i64 f.id, .int .i64 f.index, .slice fo f.kids.length fc] 26)
    have e2 := heap_alloc_new (W.alloc (.cells #[.string f.name, .bool f.nul, .int .i64 f.kind, .int .i64 f.width, .int .i64 f.id, .int .i64 f.index, .slice fo f.kids.length fc] 26)) (.cells #[.bool false, .int .i64 0, .string ⟨#[]⟩, .slice none 0 0] 29)
    rw [show (W.alloc (.cells #[.string f.name, .bool f.nul, .int .i64 f.kind, .int .i64 f.width, .int .i64 f.id, .int .i64 f.index, .slice fo f.kids.length fc] 26)).heap.size = W.heap.size + 1 by simp] at e2
    rw [← hA2]
    exact ⟨((gr_alloc _ _).block _ (lt_of_heap e1) id).trans e1, e2⟩
  have HKB : Hid (∀ u q, W.heap.size + 1 + 1 ≤ q → Keeps A2 u (fun z => z = q) → u.heap[W.heap.size + 1]? = some (.cells #[.bool false, .int .i64 0, .string ⟨#[]⟩, .slice none 0 0] 29)) := fun u q hq hk => (hk.block _ (lt_of_heap hb0) (fun e => by omega)).trans hb0
  have HFB : Hid (∀ u, Gr A2 u → u.cell? ⟨W.heap.size, 0, none⟩ = some (.string f.name) ∧ u.cell? ⟨W.heap.size, 1, none⟩ = some (.bool f.nul) ∧ u.cell? ⟨W.heap.size, 2, none⟩ = some (.int .i64 f.kind) ∧ u.cell? ⟨W.heap.size, 3, none⟩ = some (.int .i64 f.width) ∧ u.cell? ⟨W.heap.size, 4, none⟩ = some (.int .i64 f.id) ∧ u.cell? ⟨W.heap.size, 5, none⟩ = some (.int .i64 f.index) ∧ u.cell? ⟨W.heap.size, 6, none⟩ = some (.slice fo f.kids.length fc)) := fun u hk => by
    have h := (hk.block _ (lt_of_heap hb1) id).trans hb1
    simp [World.cell?, h]
  obtain ⟨e0, e1, e2, e3, e4, e5, e6⟩ := HFB.out A2 (Keeps.refl _ _)
  have H21 := hidM h21
  have HGA := hidM hGA
  have HSL := hidM hs
  rw [ho] at hV
  have HV : Hid (∀ B p, Gr W B → A2.heap.size ≤ p → Rd B p s 0 0 → Calls Tryz.prog 29 #[.pointer (some ⟨p, 0, none⟩), .agg #[.string f.name, .bool f.nul, .int .i64 f.kind, .int .i64 f.width, .int .i64 f.id, .int .i64 f.index, .slice fo f.kids.length fc]] B (VaA B p s 0 (D + 1) (some (v, t)))) := fun B p h1 h2 h3 => hV B p h1 (by omega) h3
  have hsI : ¬ (65536 : Int) < (s.size : Int) := by omega
  replace HV : Hid (∀ B p, Gr W B → W.heap.size ≤ p → Rd B p s 0 0 → A2.heap.size ≤ p → Calls Tryz.prog 29 #[.pointer (some ⟨p, 0, none⟩), .agg #[.string f.name, .bool f.nul, .int .i64 f.kind, .int .i64 f.width, .int .i64 f.id, .int .i64 f.index, .slice fo f.kids.length fc]] B fun e W' => Keeps B W' (fun z => z = p) ∧ (∃ val, e = .returned (.tuple #[val, .bool true]) ∧ VV (D + 1) B W' v val) ∧ t.length ≤ s.size ∧ t = s.data.toList.drop (s.size - t.length) ∧ Rd W' p s (s.size - t.length) 0) := fun B p h1 _ h3 h4 => HV.out B p h1 h4 h3
  have HSZ := hidM hsz
  have HTS : Hid (1 ≤ s.size) := by show _ ≤ _; have h1 : 1 ≤ t.length := List.length_pos_iff.2 ht; omega
  clear h21 hGA hb1 hb0 hV ho
  have hat : (((s.size - t.length : Nat) : Nat) : Int) < (s.size : Int) := by
    have h1 : 1 ≤ t.length := List.length_pos_iff.2 ht
    have h2 : 1 ≤ s.size := HTS.out
    omega
  clear ht
  go_enter Tryz.func12, Tryz.ntmps12
  go_wp2_with (first | (go_at_call 30; refine (wrong30 u1.heap.size s _ (s.size - t.length) 0 HRC.out).mono ?_; rintro e u3 ⟨rfl, hk3, hr3⟩; have HK3 := hidM (HKB2.out.trans hk3 (fun _ _ h => h)); have HR3 := hidM hr3; clear hk3 hr3; simp only []) | (go_at_call 29; refine HVC.out.mono ?_; rintro e u2 ⟨hk2, ⟨val, rfl, ko, kc, rfl, hkc, hok, hrow⟩, ht1, ht2, hr2⟩; obtain ⟨C2, hC2⟩ : ∃ C2, u2.alloc (.cells #[.bool v.nul, .int .i64 v.num, .string v.text, .slice ko v.list.length kc] 29) = C2 := ⟨_, rfl⟩; have HGC : Hid (Gr u2 C2) := (by show Gr u2 C2; rw [← hC2]; exact gr_alloc _ _); have HKB2 : Hid (Keeps A2 C2 (fun z => z = u1.heap.size)) := ((gr_kp (HG1.out.trans HGB.out (fun _ _ h => h))).trans hk2 (fun _ _ h => h)).trans (gr_kp HGC.out) (fun _ _ h => h); have HRC := hidM (hr2.gr HGC.out); have d1 := HRC.out.cells.2.1; have HVV := hidM (And.intro hkc (And.intro hok hrow)); have HCX : Hid (C2.heap[u2.heap.size]? = some (.cells #[.bool v.nul, .int .i64 v.num, .string v.text, .slice ko v.list.length kc] 29)) := (by show _ = _; rw [← hC2]; exact heap_alloc_new u2 _); obtain ⟨x0, x1, x2, x3, -⟩ := blk4 HCX.out; have hqp : W.heap.size + 1 + 1 ≤ u1.heap.size := (by have h1 := HG1.out.size; have h2 := HSZ.out; omega); have HB9 := hidM (HKB.out C2 u1.heap.size hqp HKB2.out); obtain ⟨q0, q1, q2, q3, z0, z1, z2, z3⟩ := blk4 HB9.out; have HS2 := hidM hk2.size; clear hk2 hr2 ht1 ht2 hkc hok hrow; simp only []) | (go_at_call 21; refine (H21.out _ HGA.out).mono ?_; rintro e u1 ⟨rfl, hg1⟩; have HG1 := hidM hg1; obtain ⟨B, hB⟩ : ∃ B, u1.alloc (.cells #[.string s, .int .i64 0, .int .i64 0] 63) = B := ⟨_, rfl⟩; have HGB : Hid (Gr u1 B) := (by show Gr u1 B; rw [← hB]; exact gr_alloc _ _); have HBB : Hid (B.heap[u1.heap.size]? = some (.cells #[.string s, .int .i64 0, .int .i64 0] 63)) := (by show _ = _; rw [← hB]; exact heap_alloc_new u1 _); obtain ⟨e0, e1, e2, e3, e4, e5, e6⟩ := HFB.out B (hg1.trans HGB.out (fun _ _ h => h)); have HRB : Hid (Rd B u1.heap.size s 0 0) := ⟨HBB.out, HSL.out, Nat.zero_le _⟩; have HVC := hidM (HV.out B u1.heap.size (HGA.out.trans (hg1.trans HGB.out (fun _ _ h => h)) (fun _ _ h => h)) (HGA.out.trans hg1 (fun _ _ h => h)).size HRB.out hg1.size); clear hg1; simp only []))
  have h1 := HG1.out.size
  have hpb : u1.heap.size ≠ W.heap.size + 1 := by have h3 := HSZ.out; omega
  have HB8 := hidM (HKB.out u3 u1.heap.size hqp HK3.out)
  obtain ⟨q0, q1, q2, q3, z0, z1, z2, z3⟩ := blk4 HB8.out
  have HS1 : Hid (u3.drew.cell? ⟨u1.heap.size, 1, none⟩ = some (.int .i64 ((s.size - t.length : Nat) : Int)) ∧ u3.drew.cell? ⟨u1.heap.size, 2, none⟩ = some (.int .i64 8)) := (HR3.out.gr gr_drew).cells.2
  have HS2' : Hid ((set4 u3 (W.heap.size + 1) (.bool false) (.int .i64 0) (.string ⟨#[]⟩) (.slice none 0 0)).drew.cell? ⟨u1.heap.size, 1, none⟩ = some (.int .i64 ((s.size - t.length : Nat) : Int)) ∧ (set4 u3 (W.heap.size + 1) (.bool false) (.int .i64 0) (.string ⟨#[]⟩) (.slice none 0 0)).drew.cell? ⟨u1.heap.size, 2, none⟩ = some (.int .i64 8)) := ((set4_rd HR3.out hpb _ _ _ _).gr gr_drew).cells.2
  have HGW : Hid (Gr W u3) := HGA.out.trans HK3.out (fun j hj e => by omega)
  go_region_held3 (fun w' => w'.cell? ⟨u1.heap.size, 1, none⟩ = some (.int .i64 ((s.size - t.length : Nat) : Int)) ∧ w'.cell? ⟨u1.heap.size, 2, none⟩ = some (.int .i64 8)) (first | exact HS2'.out | exact HS1.out) (fail)
  all_goals
    go_wp2_with fail
    refine bodyPost_ret (res12 _ (W.heap.size + 1) _ _ _ _ 8 ((s.size - t.length : Nat) : Int) _ rfl rfl rfl (set4_blk HB8.out _ _ _ _)) rfl ?_
    exact ⟨(gr_new HGW.out (by omega) _ _ _ _).trans gr_drew (fun _ _ h => h), _, 8, ((s.size - t.length : Nat) : Int), rfl, ⟨_, _, _, _, _, _, rfl⟩, by decide, by omega, by omega⟩
/-! ### Parse 12, whole -/
theorem parse12 (S : Nat → Prop) (f : FT) (fo : Option Addr) (fc : Nat) (s : ByteArray) (W : World) (D : Nat) (mb : Bool) (h9 : 9 ≤ W.heap.size) (hS : ∀ b, S b → b < W.heap.size) (hT : Tbs W) (hU : Lib.Utf8Tabs 0 1 W) (hrow : RowAt S W D fo f.kids) (hfc : f.kids.length ≤ fc) (hok : mb = true → okR (D + 1) f) (hlen : ∀ v t, QB.rdV (QF.leafR numB) (D + 1) f s.data.toList = some (v, t) → t.length ≤ s.size)
    (h21 : ∀ u, Gr W u → Calls Tryz.prog 21 #[.agg #[.string f.name, .bool f.nul, .int .i64 f.kind, .int .i64 f.width, .int .i64 f.id, .int .i64 f.index, .slice fo f.kids.length fc]] u fun e w' => e = .returned (.bool mb) ∧ Gr u w') :
    Calls Tryz.prog 12 #[.agg #[.string f.name, .bool f.nul, .int .i64 f.kind, .int .i64 f.width, .int .i64 f.id, .int .i64 f.index, .slice fo f.kids.length fc], .string s] W (ParA W s (D + 1) (parR mb D f s)) := by
  by_cases hno : mb = false ∨ 65536 < s.size
  · exact parse12_no f fo fc s W D mb h21 hno
  obtain rfl : mb = true := by
    cases mb with
    | true => rfl
    | false => exact absurd (.inl rfl) hno
  have hs : s.size ≤ 65536 := Nat.le_of_not_lt fun h => hno (.inr h)
  have hV : ∀ B p, Gr W B → W.heap.size + 1 + 1 ≤ p → Rd B p s 0 0 → Calls Tryz.prog 29 #[.pointer (some ⟨p, 0, none⟩), .agg #[.string f.name, .bool f.nul, .int .i64 f.kind, .int .i64 f.width, .int .i64 f.id, .int .i64 f.index, .slice fo f.kids.length fc]] B (VaA B p s 0 (D + 1) (QB.rdV (QF.leafR numB) (D + 1) f s.data.toList)) := fun B p hg hp hr => by
    have h := value29 S p (by omega) s 0 D f B 0 fo fc ⟨fun b hb => ⟨Nat.lt_of_lt_of_le (hS b hb) hg.size, fun e => by have := hS b hb; omega⟩, hT.gr hg, utf_kp hU hg (fun _ _ h => h)⟩ (hrow.kept fun b hb => hg.block b (hS b hb) id) hfc (hok rfl) hr
    rw [List.drop_zero] at h
    exact h
  cases ho : QB.rdV (QF.leafR numB) (D + 1) f s.data.toList with
  | none => exact parse12_none f fo fc s W D h21 hs ho hV
  | some x =>
    obtain ⟨v, t⟩ := x
    by_cases ht : t = []
    · exact parse12_yes f fo fc s W D h21 hs v t ho ht hV
    · by_cases htl : t.length ≤ s.size
      · exact parse12_more f fo fc s W D h21 hs v t ho ht htl hV
      · exact absurd (hlen v t ho) htl
/-! ### what a field that may be is -/
def NF (y : LS) : Prop := nameB y.fld.name = true ∧ idxOf y.list y.fld.name = y.idx ∧ tableB y.fld = true ∧ nullB y.fld = true ∧ (y.fld.kind = 19 → kid0 y.fld = false)
theorem wr_nf {m : Nat} {ah : Int} {a : Bool} {i j : Int} {t n inD : Bool} {k : Int} {kid tk : Bool} (h : wr m ah a i j t n inD k kid tk = 0) : a = true ∧ i = j ∧ t = true ∧ n = true ∧ (k = 19 → kid = false) := by
  unfold wr at h
  split at h; · omega
  split at h; · omega
  split at h; · omega
  split at h; · omega
  split at h; · omega
  split at h; · omega
  split at h; · omega
  split at h; · omega
  rename_i h1 h2 h3 h4 h5 h6 h7 h8
  refine ⟨by simpa using h3, by omega, by simpa using h5, by simpa using h6, fun e => ?_⟩
  cases kid with
  | false => rfl
  | true => exact absurd ⟨e, .inl rfl⟩ h8
theorem AllR.nf {l : List LS} (h : AllR l) : ∀ y ∈ l, NF y := fun y hy => by
  obtain ⟨i, hi, rfl⟩ := List.mem_iff_getElem.1 hy
  exact wr_nf (h i hi)
def okA : Nat → List FT → Prop
  | 0, _ => True
  | d + 1, l => ∀ i (h : i < l.length), nameB l[i].name = true ∧ idxOf l l[i].name = i ∧ tableB l[i] = true ∧ nullB l[i] = true ∧ (l[i].kind = 19 → kid0 l[i] = false) ∧ okA d l[i].kids
theorem nf_okA : ∀ (d : Nat) (l : List FT) (path : List Nat) (inD : Bool), (∀ y ∈ nodes d l path inD, NF y) → okA d l
  | 0, _, _, _, _ => trivial
  | d + 1, l, path, inD, h => fun i hi => by
    have he : l[i]! = l[i] := by simp [hi]
    have h1 := h ⟨l, path ++ [i], inD⟩ (List.mem_flatMap.2 ⟨i, List.mem_range.2 hi, List.mem_cons_self ..⟩)
    have h2 : ∀ y ∈ nodes d (l[i]!).kids (path ++ [i]) (inD || decide ((l[i]!).kind = 19)), NF y := fun y hy => h y (List.mem_flatMap.2 ⟨i, List.mem_range.2 hi, List.mem_cons_of_mem _ hy⟩)
    have h3 := nf_okA d _ _ _ h2
    rw [he] at h3
    have e1 : LS.fld ⟨l, path ++ [i], inD⟩ = l[i] := by simp [LS.fld, LS.idx, hi]
    have e2 : LS.idx ⟨l, path ++ [i], inD⟩ = i := by simp [LS.idx]
    obtain ⟨a, b, c, e, g⟩ := h1
    rw [e1] at a b c e g
    rw [e2] at b
    exact ⟨a, b, c, e, g, h3⟩
theorem tab_width {f : FT} (h : tableB f = true) (e : f.kind = 14 ∨ f.kind = 16) : 0 ≤ f.width ∧ f.width ≤ 1000000 := by
  unfold tableB widthB at h
  rcases e with e | e <;> rw [e] at h <;> simp at h <;> omega
theorem okA_okR : ∀ (D : Nat) (f : FT), tableB f = true → okA D f.kids → deep D f.kids → okR (D + 1) f
  | D, f, ht, ha, hd => by
    refine ⟨tab_kind ht, fun e => tab_width ht e, fun e => tab_kid ht e, fun g hg => ?_⟩
    cases D with
    | zero => have hz : f.kids = [] := hd; rw [hz] at hg; cases hg
    | succ D =>
      obtain ⟨i, hi, rfl⟩ := List.mem_iff_getElem.1 hg
      obtain ⟨a, b, c, e, g, k⟩ := ha i hi
      refine ⟨?_, okA_okR D _ c k (hd _ (List.getElem_mem hi))⟩
      unfold nameB at a
      simp at a
      omega
end Go.Proofs.YtfoifmacobldbaaGreatDoor.Kit
