import Derived.Test.YtfoifmacobldbaaGreatDoorTX
set_option maxRecDepth 100000
set_option maxHeartbeats 4000000
namespace Go.Proofs.YtfoifmacobldbaaGreatDoor.Kit
open Go.RowKit Go.Shelf Go.Deep
set_option linter.unusedVariables false
set_option linter.unusedSimpArgs false
/-! ### value 29: lists -/
theorem v29_parts (p : Nat) (s : ByteArray) (W : World) (a d : Nat) (er : Int) (f0 : ByteArray) (f1 : Bool) (f3 f4 f5 : Int) (fo : Option Addr) (fn fc : Nat) (hR : Rd W p s a er) (hnul : f1 = true → QB.isNullB (s.data.toList.drop a) = false) (o : Option (List VT × List UInt8))
    (hL : ∀ u, Keeps W u (fun z => z = p) → Rd u p s a er → Calls Tryz.prog 68 #[.pointer (some ⟨p, 0, none⟩), .slice fo fn fc] u (LsA u p s er d o)) :
    Calls Tryz.prog 29 #[.pointer (some ⟨p, 0, none⟩), .agg #[.string f0, .bool f1, .int .i64 17, .int .i64 f3, .int .i64 f4, .int .i64 f5, .slice fo fn fc]] W (VaA W p s er (d + 1) (o.map fun x => (QB.listV x.1, x.2))) := by
  obtain ⟨W3, hW3⟩ : ∃ W3, (((W.alloc (.cells #[.string f0, .bool f1, .int .i64 17, .int .i64 f3, .int .i64 f4, .int .i64 f5, .slice fo fn fc] 26)).alloc (.cells #[.bool false, .int .i64 0, .string ⟨#[]⟩, .slice none 0 0] 29)).alloc (.cells #[.int .i64 17, .int .i64 f3, .int .i64 f4, .int .i64 f5, .slice fo fn fc] 24)) = W3 := ⟨_, rfl⟩
  have hG : Gr W W3 := by rw [← hW3]; exact gr3 W _ _ _
  obtain ⟨hb1, hb0, hb2⟩ := al3 W (.cells #[.string f0, .bool f1, .int .i64 17, .int .i64 f3, .int .i64 f4, .int .i64 f5, .slice fo fn fc] 26) (.cells #[.bool false, .int .i64 0, .string ⟨#[]⟩, .slice none 0 0] 29) (.cells #[.int .i64 17, .int .i64 f3, .int .i64 f4, .int .i64 f5, .slice fo fn fc] 24)
  rw [hW3] at hb1 hb0 hb2
  have hLT := hR.lt
  have hp1 : p ≠ W.heap.size := by omega
  have hp2 : p ≠ W.heap.size + 1 := by omega
  have hp3 : p ≠ W.heap.size + 1 + 1 := by omega
  have HKB : Hid (∀ u, Keeps W3 u (fun z => z = p) → u.heap[W.heap.size + 1]? = some (.cells #[.bool false, .int .i64 0, .string ⟨#[]⟩, .slice none 0 0] 29)) := fun u hk => (hk.block _ (lt_of_heap hb0) (fun e => hp2 e.symm)).trans hb0
  have HTB : Hid (∀ u, Keeps W3 u (fun z => z = p) → u.heap[W.heap.size + 1 + 1]? = some (.cells #[.int .i64 17, .int .i64 f3, .int .i64 f4, .int .i64 f5, .slice fo fn fc] 24)) := fun u hk => (hk.block _ (lt_of_heap hb2) (fun e => hp3 e.symm)).trans hb2
  have HR3 := hidM (hR.gr hG)
  have HG := hidM hG
  have HLW : Hid (∀ u, Keeps W3 u (fun z => z = p) → Keeps W u (fun z => z = p)) := fun u hk => (gr_kp hG).trans hk (fun _ _ h => h)
  obtain ⟨nb, hnb⟩ : ∃ nb, QB.isNullB (s.data.toList.drop a) = nb := ⟨_, rfl⟩
  have HNU : Hid (∀ u, Rd u p s a er → Calls Tryz.prog 62 #[.pointer (some ⟨p, 0, none⟩)] u fun e W' => e = .returned (.bool nb) ∧ Gr u W') := fun u h => by rw [← hnb]; exact isNull62 p s u a er h
  rw [hnb] at hnul
  have hK3 : Keeps W3 W3 (fun z => z = p) := Keeps.refl _ _
  have HK3 := hidM hK3
  have e1 : W3.cell? ⟨W.heap.size, 1, none⟩ = some (.bool f1) := by simp [World.cell?, hb1]
  have t0 : W3.cell? ⟨W.heap.size, 2, none⟩ = some (.int .i64 17) := by simp [World.cell?, hb1]
  have t1 : W3.cell? ⟨W.heap.size, 3, none⟩ = some (.int .i64 f3) := by simp [World.cell?, hb1]
  have t2 : W3.cell? ⟨W.heap.size, 4, none⟩ = some (.int .i64 f4) := by simp [World.cell?, hb1]
  have t3 : W3.cell? ⟨W.heap.size, 5, none⟩ = some (.int .i64 f5) := by simp [World.cell?, hb1]
  have t4 : W3.cell? ⟨W.heap.size, 6, none⟩ = some (.slice fo fn fc) := by simp [World.cell?, hb1]
  obtain ⟨k0, k1, k2, k3, k4⟩ := blk5 hb2
  clear hb1 hb0 hb2 hG hLT hK3 hnb
  have HS3 : Hid (W3.heap.size = W.heap.size + 1 + 1 + 1) := by show _ = _; rw [← hW3]; simp
  have HL : Hid (∀ u, Keeps W3 u (fun z => z = p) → Rd u p s a er → Calls Tryz.prog 68 #[.pointer (some ⟨p, 0, none⟩), .slice fo fn fc] u (LsA u p s er d o)) := fun u hk hr => hL u (HLW.out u hk) hr
  clear hL hR
  cases f1 with
  | false =>
    have HKN := hidM HK3.out
    have HRN := hidM HR3.out
    cases o with
    | none =>
      replace HL : Hid (∀ u, Keeps W3 u (fun z => z = p) → Rd u p s a er → Calls Tryz.prog 68 #[.pointer (some ⟨p, 0, none⟩), .slice fo fn fc] u fun e W' => Keeps u W' (fun z => z = p) ∧ (∃ vo n vc, e = .returned (.tuple #[.slice vo n vc, .bool false])) ∧ Bad W' p s) := HL
      go_enter Tryz.func29, Tryz.ntmps29
      go_wp2_with (first | (go_at_call 68; refine (HL.out _ HKN.out HRN.out).mono ?_; rintro e u5 ⟨hk5, ⟨vo, n, vc, rfl⟩, hbad⟩; have HK5 := hidM (HKN.out.trans hk5 (fun _ _ h => h)); have hb5 := HKB.out u5 HK5.out; obtain ⟨q0, q1, q2, q3, z0, z1, z2, z3⟩ := blk4 hb5; have HB5 := hidM hb5; have HBAD := hidM hbad; clear hk5 hb5 hbad; simp only []))
      refine bodyPost_ret (res29 _ (W.heap.size + 1) _ _ _ _ false _ rfl rfl (set4_blk (by have h := heap_setCell_same _ (W.heap.size + 1) 3 _ _ (.slice vo n vc) HB5.out; simpa using h) _ _ _ _)) rfl ?_
      obtain ⟨ba, be, hne, hbr⟩ := HBAD.out
      exact ⟨set4_kp (kp_new (HLW.out u5 HK5.out) (by omega) _) (by omega) _ _ _ _, ⟨_, rfl, _, _, _, _, _, _, rfl⟩, ba, be, hne, set4_rd (hbr.oth hp2 _) hp2 _ _ _ _⟩
    | some x =>
      obtain ⟨l, t⟩ := x
      replace HL : Hid (∀ u, Keeps W3 u (fun z => z = p) → Rd u p s a er → Calls Tryz.prog 68 #[.pointer (some ⟨p, 0, none⟩), .slice fo fn fc] u fun e W' => Keeps u W' (fun z => z = p) ∧ (∃ vo vc, e = .returned (.tuple #[.slice vo l.length vc, .bool true]) ∧ l.length ≤ vc ∧ VRow (NV u W') W' (d + 1) vo l) ∧ t.length ≤ s.size ∧ t = s.data.toList.drop (s.size - t.length) ∧ Rd W' p s (s.size - t.length) er) := HL
      show Calls _ _ _ _ (VaA W p s er (d + 1) (some (QB.listV l, t)))
      go_enter Tryz.func29, Tryz.ntmps29
      go_wp2_with (first | (go_at_call 68; refine (HL.out _ HKN.out HRN.out).mono ?_; rintro e u5 ⟨hk5, ⟨vo, vc, rfl, hvc, hrow⟩, ht1, ht2, hr5⟩; have HK5 := hidM (HKN.out.trans hk5 (fun _ _ h => h)); have hb5 := HKB.out u5 HK5.out; obtain ⟨q0, q1, q2, q3, z0, z1, z2, z3⟩ := blk4 hb5; have HB5 := hidM hb5; have HT := hidM (And.intro ht1 ht2); have HR5 := hidM hr5; have HV := hidM (And.intro hvc hrow); have HS5 := hidM HKN.out.size; clear hk5 hb5 ht1 ht2 hr5 hvc hrow; simp only []))
      refine bodyPost_ret (res29 _ (W.heap.size + 1) _ _ _ _ true _ rfl rfl (set4_blk (by have h := heap_setCell_same _ (W.heap.size + 1) 3 _ _ (.slice vo l.length vc) HB5.out; simpa using h) _ _ _ _)) rfl ?_
      refine ⟨set4_kp (kp_new (HLW.out u5 HK5.out) (by omega) _) (by omega) _ _ _ _, ⟨_, rfl, vo, vc, rfl, HV.out.1, ⟨by show is64 0; decide, by show (0 : Nat) ≤ _; omega⟩, ?_⟩, HT.out.1, HT.out.2, set4_rd (HR5.out.oth hp2 _) hp2 _ _ _ _⟩
      have h3 := HS3.out
      have h5 := HS5.out
      have hk := HV.out.2.kept (W' := set4 (u5.setCell ⟨W.heap.size + 1, 3, none⟩ (.slice vo l.length vc)) (W.heap.size + 1) (.bool false) (.int .i64 0) (.string ⟨#[]⟩) (.slice vo l.length vc)) (fun b hb => (set4_oth (fun e => by have := hb.1; omega) _ _ _ _).trans (heap_setCell_other _ _ _ _ (fun e => by have h1 := hb.1; have e' : b = W.heap.size + 1 := e; omega)))
      exact hk.mono fun b hb => ⟨by have := hb.1; omega, Nat.lt_of_lt_of_le hb.2 (Nat.le_of_eq ((set4_size (u5.setCell ⟨W.heap.size + 1, 3, none⟩ (.slice vo l.length vc)) (W.heap.size + 1) _ _ _ _).trans (by simp [World.setCell])).symm)⟩
  | true =>
    obtain rfl := hnul rfl
    cases o with
    | none =>
      replace HL : Hid (∀ u, Keeps W3 u (fun z => z = p) → Rd u p s a er → Calls Tryz.prog 68 #[.pointer (some ⟨p, 0, none⟩), .slice fo fn fc] u fun e W' => Keeps u W' (fun z => z = p) ∧ (∃ vo n vc, e = .returned (.tuple #[.slice vo n vc, .bool false])) ∧ Bad W' p s) := HL
      go_enter Tryz.func29, Tryz.ntmps29
      go_wp2_with (first | (go_at_call 68; refine (HL.out _ HKN.out HRN.out).mono ?_; rintro e u5 ⟨hk5, ⟨vo, n, vc, rfl⟩, hbad⟩; have HK5 := hidM (HKN.out.trans hk5 (fun _ _ h => h)); have hb5 := HKB.out u5 HK5.out; obtain ⟨q0, q1, q2, q3, z0, z1, z2, z3⟩ := blk4 hb5; have HB5 := hidM hb5; have HBAD := hidM hbad; clear hk5 hb5 hbad; simp only []) | (go_at_call 62; refine (HNU.out _ HR3.out).mono ?_; rintro e uN ⟨rfl, hgN⟩; have HKN : Hid (Keeps W3 uN (fun z => z = p)) := gr_kp hgN; have HRN := hidM (HR3.out.gr hgN); obtain ⟨k0, k1, k2, k3, k4⟩ := blk5 (HTB.out uN HKN.out); clear hgN; simp only []))
      refine bodyPost_ret (res29 _ (W.heap.size + 1) _ _ _ _ false _ rfl rfl (set4_blk (by have h := heap_setCell_same _ (W.heap.size + 1) 3 _ _ (.slice vo n vc) HB5.out; simpa using h) _ _ _ _)) rfl ?_
      obtain ⟨ba, be, hne, hbr⟩ := HBAD.out
      exact ⟨set4_kp (kp_new (HLW.out u5 HK5.out) (by omega) _) (by omega) _ _ _ _, ⟨_, rfl, _, _, _, _, _, _, rfl⟩, ba, be, hne, set4_rd (hbr.oth hp2 _) hp2 _ _ _ _⟩
    | some x =>
      obtain ⟨l, t⟩ := x
      replace HL : Hid (∀ u, Keeps W3 u (fun z => z = p) → Rd u p s a er → Calls Tryz.prog 68 #[.pointer (some ⟨p, 0, none⟩), .slice fo fn fc] u fun e W' => Keeps u W' (fun z => z = p) ∧ (∃ vo vc, e = .returned (.tuple #[.slice vo l.length vc, .bool true]) ∧ l.length ≤ vc ∧ VRow (NV u W') W' (d + 1) vo l) ∧ t.length ≤ s.size ∧ t = s.data.toList.drop (s.size - t.length) ∧ Rd W' p s (s.size - t.length) er) := HL
      show Calls _ _ _ _ (VaA W p s er (d + 1) (some (QB.listV l, t)))
      go_enter Tryz.func29, Tryz.ntmps29
      go_wp2_with (first | (go_at_call 68; refine (HL.out _ HKN.out HRN.out).mono ?_; rintro e u5 ⟨hk5, ⟨vo, vc, rfl, hvc, hrow⟩, ht1, ht2, hr5⟩; have HK5 := hidM (HKN.out.trans hk5 (fun _ _ h => h)); have hb5 := HKB.out u5 HK5.out; obtain ⟨q0, q1, q2, q3, z0, z1, z2, z3⟩ := blk4 hb5; have HB5 := hidM hb5; have HT := hidM (And.intro ht1 ht2); have HR5 := hidM hr5; have HV := hidM (And.intro hvc hrow); have HS5 := hidM HKN.out.size; clear hk5 hb5 ht1 ht2 hr5 hvc hrow; simp only []) | (go_at_call 62; refine (HNU.out _ HR3.out).mono ?_; rintro e uN ⟨rfl, hgN⟩; have HKN : Hid (Keeps W3 uN (fun z => z = p)) := gr_kp hgN; have HRN := hidM (HR3.out.gr hgN); obtain ⟨k0, k1, k2, k3, k4⟩ := blk5 (HTB.out uN HKN.out); clear hgN; simp only []))
      refine bodyPost_ret (res29 _ (W.heap.size + 1) _ _ _ _ true _ rfl rfl (set4_blk (by have h := heap_setCell_same _ (W.heap.size + 1) 3 _ _ (.slice vo l.length vc) HB5.out; simpa using h) _ _ _ _)) rfl ?_
      refine ⟨set4_kp (kp_new (HLW.out u5 HK5.out) (by omega) _) (by omega) _ _ _ _, ⟨_, rfl, vo, vc, rfl, HV.out.1, ⟨by show is64 0; decide, by show (0 : Nat) ≤ _; omega⟩, ?_⟩, HT.out.1, HT.out.2, set4_rd (HR5.out.oth hp2 _) hp2 _ _ _ _⟩
      have h3 := HS3.out
      have h5 := HS5.out
      have hk := HV.out.2.kept (W' := set4 (u5.setCell ⟨W.heap.size + 1, 3, none⟩ (.slice vo l.length vc)) (W.heap.size + 1) (.bool false) (.int .i64 0) (.string ⟨#[]⟩) (.slice vo l.length vc)) (fun b hb => (set4_oth (fun e => by have := hb.1; omega) _ _ _ _).trans (heap_setCell_other _ _ _ _ (fun e => by have h1 := hb.1; have e' : b = W.heap.size + 1 := e; omega)))
      exact hk.mono fun b hb => ⟨by have := hb.1; omega, Nat.lt_of_lt_of_le hb.2 (Nat.le_of_eq ((set4_size (u5.setCell ⟨W.heap.size + 1, 3, none⟩ (.slice vo l.length vc)) (W.heap.size + 1) _ _ _ _).trans (by simp [World.setCell])).symm)⟩
theorem v29_choice (p : Nat) (s : ByteArray) (W : World) (a d : Nat) (er : Int) (f0 : ByteArray) (f1 : Bool) (f3 f4 f5 : Int) (fo : Option Addr) (fn fc : Nat) (hR : Rd W p s a er) (hnul : f1 = true → QB.isNullB (s.data.toList.drop a) = false) (o : Option (VT × List UInt8))
    (hL : ∀ u, Keeps W u (fun z => z = p) → Rd u p s a er → Calls Tryz.prog 69 #[.pointer (some ⟨p, 0, none⟩), .slice fo fn fc] u (VaA u p s er d o)) :
    Calls Tryz.prog 29 #[.pointer (some ⟨p, 0, none⟩), .agg #[.string f0, .bool f1, .int .i64 18, .int .i64 f3, .int .i64 f4, .int .i64 f5, .slice fo fn fc]] W (VaA W p s er d o) := by
  obtain ⟨W3, hW3⟩ : ∃ W3, (((W.alloc (.cells #[.string f0, .bool f1, .int .i64 18, .int .i64 f3, .int .i64 f4, .int .i64 f5, .slice fo fn fc] 26)).alloc (.cells #[.bool false, .int .i64 0, .string ⟨#[]⟩, .slice none 0 0] 29)).alloc (.cells #[.int .i64 18, .int .i64 f3, .int .i64 f4, .int .i64 f5, .slice fo fn fc] 24)) = W3 := ⟨_, rfl⟩
  have hG : Gr W W3 := by rw [← hW3]; exact gr3 W _ _ _
  obtain ⟨hb1, hb0, hb2⟩ := al3 W (.cells #[.string f0, .bool f1, .int .i64 18, .int .i64 f3, .int .i64 f4, .int .i64 f5, .slice fo fn fc] 26) (.cells #[.bool false, .int .i64 0, .string ⟨#[]⟩, .slice none 0 0] 29) (.cells #[.int .i64 18, .int .i64 f3, .int .i64 f4, .int .i64 f5, .slice fo fn fc] 24)
  rw [hW3] at hb1 hb0 hb2
  have hLT := hR.lt
  have hp1 : p ≠ W.heap.size := by omega
  have hp2 : p ≠ W.heap.size + 1 := by omega
  have hp3 : p ≠ W.heap.size + 1 + 1 := by omega
  have HKB : Hid (∀ u, Keeps W3 u (fun z => z = p) → u.heap[W.heap.size + 1]? = some (.cells #[.bool false, .int .i64 0, .string ⟨#[]⟩, .slice none 0 0] 29)) := fun u hk => (hk.block _ (lt_of_heap hb0) (fun e => hp2 e.symm)).trans hb0
  have HTB : Hid (∀ u, Keeps W3 u (fun z => z = p) → u.heap[W.heap.size + 1 + 1]? = some (.cells #[.int .i64 18, .int .i64 f3, .int .i64 f4, .int .i64 f5, .slice fo fn fc] 24)) := fun u hk => (hk.block _ (lt_of_heap hb2) (fun e => hp3 e.symm)).trans hb2
  have HR3 := hidM (hR.gr hG)
  have HG := hidM hG
  have HLW : Hid (∀ u, Keeps W3 u (fun z => z = p) → Keeps W u (fun z => z = p)) := fun u hk => (gr_kp hG).trans hk (fun _ _ h => h)
  obtain ⟨nb, hnb⟩ : ∃ nb, QB.isNullB (s.data.toList.drop a) = nb := ⟨_, rfl⟩
  have HNU : Hid (∀ u, Rd u p s a er → Calls Tryz.prog 62 #[.pointer (some ⟨p, 0, none⟩)] u fun e W' => e = .returned (.bool nb) ∧ Gr u W') := fun u h => by rw [← hnb]; exact isNull62 p s u a er h
  rw [hnb] at hnul
  have hK3 : Keeps W3 W3 (fun z => z = p) := Keeps.refl _ _
  have HK3 := hidM hK3
  have e1 : W3.cell? ⟨W.heap.size, 1, none⟩ = some (.bool f1) := by simp [World.cell?, hb1]
  have t0 : W3.cell? ⟨W.heap.size, 2, none⟩ = some (.int .i64 18) := by simp [World.cell?, hb1]
  have t1 : W3.cell? ⟨W.heap.size, 3, none⟩ = some (.int .i64 f3) := by simp [World.cell?, hb1]
  have t2 : W3.cell? ⟨W.heap.size, 4, none⟩ = some (.int .i64 f4) := by simp [World.cell?, hb1]
  have t3 : W3.cell? ⟨W.heap.size, 5, none⟩ = some (.int .i64 f5) := by simp [World.cell?, hb1]
  have t4 : W3.cell? ⟨W.heap.size, 6, none⟩ = some (.slice fo fn fc) := by simp [World.cell?, hb1]
  obtain ⟨k0, k1, k2, k3, k4⟩ := blk5 hb2
  clear hb1 hb0 hb2 hG hLT hK3 hnb
  have HS3 : Hid (W3.heap.size = W.heap.size + 1 + 1 + 1) := by show _ = _; rw [← hW3]; simp
  have HL : Hid (∀ u, Keeps W3 u (fun z => z = p) → Rd u p s a er → Calls Tryz.prog 69 #[.pointer (some ⟨p, 0, none⟩), .slice fo fn fc] u (VaA u p s er d o)) := fun u hk hr => hL u (HLW.out u hk) hr
  clear hL hR
  cases f1 with
  | false =>
    have HKN := hidM HK3.out
    have HRN := hidM HR3.out
    cases o with
    | none =>
      replace HL : Hid (∀ u, Keeps W3 u (fun z => z = p) → Rd u p s a er → Calls Tryz.prog 69 #[.pointer (some ⟨p, 0, none⟩), .slice fo fn fc] u fun e W' => Keeps u W' (fun z => z = p) ∧ (∃ val, e = .returned (.tuple #[val, .bool false]) ∧ AnyV val) ∧ Bad W' p s) := HL
      go_enter Tryz.func29, Tryz.ntmps29
      go_wp2_with (first | (go_at_call 69; refine (HL.out _ HKN.out HRN.out).mono ?_; rintro e u5 ⟨hk5, ⟨val, rfl, b', n', x', lo, ln, lc, rfl⟩, hbad⟩; have HK5 := hidM (HKN.out.trans hk5 (fun _ _ h => h)); have hb5 := HKB.out u5 HK5.out; obtain ⟨q0, q1, q2, q3, z0, z1, z2, z3⟩ := blk4 hb5; have HB5 := hidM hb5; have HBAD := hidM hbad; clear hk5 hb5 hbad; simp only []))
      refine bodyPost_ret (res29 _ (W.heap.size + 1) _ _ _ _ false _ rfl rfl (set4_blk HB5.out _ _ _ _)) rfl ?_
      obtain ⟨ba, be, hne, hbr⟩ := HBAD.out
      exact ⟨set4_kp (HLW.out u5 HK5.out) (by omega) _ _ _ _, ⟨_, rfl, _, _, _, _, _, _, rfl⟩, ba, be, hne, set4_rd hbr hp2 _ _ _ _⟩
    | some x =>
      obtain ⟨v, t⟩ := x
      replace HL : Hid (∀ u, Keeps W3 u (fun z => z = p) → Rd u p s a er → Calls Tryz.prog 69 #[.pointer (some ⟨p, 0, none⟩), .slice fo fn fc] u fun e W' => Keeps u W' (fun z => z = p) ∧ (∃ val, e = .returned (.tuple #[val, .bool true]) ∧ VV d u W' v val) ∧ t.length ≤ s.size ∧ t = s.data.toList.drop (s.size - t.length) ∧ Rd W' p s (s.size - t.length) er) := HL
      go_enter Tryz.func29, Tryz.ntmps29
      go_wp2_with (first | (go_at_call 69; refine (HL.out _ HKN.out HRN.out).mono ?_; rintro e u5 ⟨hk5, ⟨val, rfl, ko, kc, rfl, hkc, hok, hrow⟩, ht1, ht2, hr5⟩; have HK5 := hidM (HKN.out.trans hk5 (fun _ _ h => h)); have hb5 := HKB.out u5 HK5.out; obtain ⟨q0, q1, q2, q3, z0, z1, z2, z3⟩ := blk4 hb5; have HB5 := hidM hb5; have HT := hidM (And.intro ht1 ht2); have HR5 := hidM hr5; have HV := hidM (And.intro hkc (And.intro hok hrow)); have HS5 := hidM HKN.out.size; clear hk5 hb5 ht1 ht2 hr5 hkc hok hrow; simp only []))
      refine bodyPost_ret (res29 _ (W.heap.size + 1) _ _ _ _ true _ rfl rfl (set4_blk HB5.out _ _ _ _)) rfl ?_
      refine ⟨set4_kp (HLW.out u5 HK5.out) (by omega) _ _ _ _, ⟨_, rfl, ko, kc, rfl, HV.out.1, HV.out.2.1, ?_⟩, HT.out.1, HT.out.2, set4_rd HR5.out hp2 _ _ _ _⟩
      have h3 := HS3.out
      have h5 := HS5.out
      have hk := HV.out.2.2.kept (W' := set4 u5 (W.heap.size + 1) (.bool v.nul) (.int .i64 v.num) (.string v.text) (.slice ko v.list.length kc)) (fun b hb => set4_oth (fun e => by have := hb.1; omega) _ _ _ _)
      exact hk.mono fun b hb => ⟨by have := hb.1; omega, Nat.lt_of_lt_of_le hb.2 (Nat.le_of_eq (set4_size _ _ _ _ _ _).symm)⟩
  | true =>
    obtain rfl := hnul rfl
    cases o with
    | none =>
      replace HL : Hid (∀ u, Keeps W3 u (fun z => z = p) → Rd u p s a er → Calls Tryz.prog 69 #[.pointer (some ⟨p, 0, none⟩), .slice fo fn fc] u fun e W' => Keeps u W' (fun z => z = p) ∧ (∃ val, e = .returned (.tuple #[val, .bool false]) ∧ AnyV val) ∧ Bad W' p s) := HL
      go_enter Tryz.func29, Tryz.ntmps29
      go_wp2_with (first | (go_at_call 69; refine (HL.out _ HKN.out HRN.out).mono ?_; rintro e u5 ⟨hk5, ⟨val, rfl, b', n', x', lo, ln, lc, rfl⟩, hbad⟩; have HK5 := hidM (HKN.out.trans hk5 (fun _ _ h => h)); have hb5 := HKB.out u5 HK5.out; obtain ⟨q0, q1, q2, q3, z0, z1, z2, z3⟩ := blk4 hb5; have HB5 := hidM hb5; have HBAD := hidM hbad; clear hk5 hb5 hbad; simp only []) | (go_at_call 62; refine (HNU.out _ HR3.out).mono ?_; rintro e uN ⟨rfl, hgN⟩; have HKN : Hid (Keeps W3 uN (fun z => z = p)) := gr_kp hgN; have HRN := hidM (HR3.out.gr hgN); obtain ⟨k0, k1, k2, k3, k4⟩ := blk5 (HTB.out uN HKN.out); clear hgN; simp only []))
      refine bodyPost_ret (res29 _ (W.heap.size + 1) _ _ _ _ false _ rfl rfl (set4_blk HB5.out _ _ _ _)) rfl ?_
      obtain ⟨ba, be, hne, hbr⟩ := HBAD.out
      exact ⟨set4_kp (HLW.out u5 HK5.out) (by omega) _ _ _ _, ⟨_, rfl, _, _, _, _, _, _, rfl⟩, ba, be, hne, set4_rd hbr hp2 _ _ _ _⟩
    | some x =>
      obtain ⟨v, t⟩ := x
      replace HL : Hid (∀ u, Keeps W3 u (fun z => z = p) → Rd u p s a er → Calls Tryz.prog 69 #[.pointer (some ⟨p, 0, none⟩), .slice fo fn fc] u fun e W' => Keeps u W' (fun z => z = p) ∧ (∃ val, e = .returned (.tuple #[val, .bool true]) ∧ VV d u W' v val) ∧ t.length ≤ s.size ∧ t = s.data.toList.drop (s.size - t.length) ∧ Rd W' p s (s.size - t.length) er) := HL
      go_enter Tryz.func29, Tryz.ntmps29
      go_wp2_with (first | (go_at_call 69; refine (HL.out _ HKN.out HRN.out).mono ?_; rintro e u5 ⟨hk5, ⟨val, rfl, ko, kc, rfl, hkc, hok, hrow⟩, ht1, ht2, hr5⟩; have HK5 := hidM (HKN.out.trans hk5 (fun _ _ h => h)); have hb5 := HKB.out u5 HK5.out; obtain ⟨q0, q1, q2, q3, z0, z1, z2, z3⟩ := blk4 hb5; have HB5 := hidM hb5; have HT := hidM (And.intro ht1 ht2); have HR5 := hidM hr5; have HV := hidM (And.intro hkc (And.intro hok hrow)); have HS5 := hidM HKN.out.size; clear hk5 hb5 ht1 ht2 hr5 hkc hok hrow; simp only []) | (go_at_call 62; refine (HNU.out _ HR3.out).mono ?_; rintro e uN ⟨rfl, hgN⟩; have HKN : Hid (Keeps W3 uN (fun z => z = p)) := gr_kp hgN; have HRN := hidM (HR3.out.gr hgN); obtain ⟨k0, k1, k2, k3, k4⟩ := blk5 (HTB.out uN HKN.out); clear hgN; simp only []))
      refine bodyPost_ret (res29 _ (W.heap.size + 1) _ _ _ _ true _ rfl rfl (set4_blk HB5.out _ _ _ _)) rfl ?_
      refine ⟨set4_kp (HLW.out u5 HK5.out) (by omega) _ _ _ _, ⟨_, rfl, ko, kc, rfl, HV.out.1, HV.out.2.1, ?_⟩, HT.out.1, HT.out.2, set4_rd HR5.out hp2 _ _ _ _⟩
      have h3 := HS3.out
      have h5 := HS5.out
      have hk := HV.out.2.2.kept (W' := set4 u5 (W.heap.size + 1) (.bool v.nul) (.int .i64 v.num) (.string v.text) (.slice ko v.list.length kc)) (fun b hb => set4_oth (fun e => by have := hb.1; omega) _ _ _ _)
      exact hk.mono fun b hb => ⟨by have := hb.1; omega, Nat.lt_of_lt_of_le hb.2 (Nat.le_of_eq (set4_size _ _ _ _ _ _).symm)⟩
theorem v29_items (p : Nat) (s : ByteArray) (W : World) (a d : Nat) (er : Int) (f0 : ByteArray) (f1 : Bool) (f3 f4 f5 : Int) (fb fO : Nat) (fn fc : Nat) (g : FT) (go : Option Addr) (gc : Nat) (hc : CellsAt W fb fO g go gc) (hfb : fb < W.heap.size ∧ fb ≠ p) (hfn : 1 ≤ fn ∧ fn ≤ fc) (hR : Rd W p s a er) (hnul : f1 = true → QB.isNullB (s.data.toList.drop a) = false) (o : Option (List VT × List UInt8))
    (hL : ∀ u, Keeps W u (fun z => z = p) → Rd u p s a er → Calls Tryz.prog 66 #[.pointer (some ⟨p, 0, none⟩), .agg #[.string g.name, .bool g.nul, .int .i64 g.kind, .int .i64 g.width, .int .i64 g.id, .int .i64 g.index, .slice go g.kids.length gc]] u (LsA u p s er d o)) :
    Calls Tryz.prog 29 #[.pointer (some ⟨p, 0, none⟩), .agg #[.string f0, .bool f1, .int .i64 15, .int .i64 f3, .int .i64 f4, .int .i64 f5, .slice (some ⟨fb, fO, none⟩) fn fc]] W (VaA W p s er (d + 1) (o.map fun x => (QB.listV x.1, x.2))) := by
  obtain ⟨W3, hW3⟩ : ∃ W3, (((W.alloc (.cells #[.string f0, .bool f1, .int .i64 15, .int .i64 f3, .int .i64 f4, .int .i64 f5, .slice (some ⟨fb, fO, none⟩) fn fc] 26)).alloc (.cells #[.bool false, .int .i64 0, .string ⟨#[]⟩, .slice none 0 0] 29)).alloc (.cells #[.int .i64 15, .int .i64 f3, .int .i64 f4, .int .i64 f5, .slice (some ⟨fb, fO, none⟩) fn fc] 24)) = W3 := ⟨_, rfl⟩
  have hG : Gr W W3 := by rw [← hW3]; exact gr3 W _ _ _
  obtain ⟨hb1, hb0, hb2⟩ := al3 W (.cells #[.string f0, .bool f1, .int .i64 15, .int .i64 f3, .int .i64 f4, .int .i64 f5, .slice (some ⟨fb, fO, none⟩) fn fc] 26) (.cells #[.bool false, .int .i64 0, .string ⟨#[]⟩, .slice none 0 0] 29) (.cells #[.int .i64 15, .int .i64 f3, .int .i64 f4, .int .i64 f5, .slice (some ⟨fb, fO, none⟩) fn fc] 24)
  rw [hW3] at hb1 hb0 hb2
  have hLT := hR.lt
  have hp1 : p ≠ W.heap.size := by omega
  have hp2 : p ≠ W.heap.size + 1 := by omega
  have hp3 : p ≠ W.heap.size + 1 + 1 := by omega
  have HKB : Hid (∀ u, Keeps W3 u (fun z => z = p) → u.heap[W.heap.size + 1]? = some (.cells #[.bool false, .int .i64 0, .string ⟨#[]⟩, .slice none 0 0] 29)) := fun u hk => (hk.block _ (lt_of_heap hb0) (fun e => hp2 e.symm)).trans hb0
  have HTB : Hid (∀ u, Keeps W3 u (fun z => z = p) → u.heap[W.heap.size + 1 + 1]? = some (.cells #[.int .i64 15, .int .i64 f3, .int .i64 f4, .int .i64 f5, .slice (some ⟨fb, fO, none⟩) fn fc] 24)) := fun u hk => (hk.block _ (lt_of_heap hb2) (fun e => hp3 e.symm)).trans hb2
  have HR3 := hidM (hR.gr hG)
  have HG := hidM hG
  have HLW : Hid (∀ u, Keeps W3 u (fun z => z = p) → Keeps W u (fun z => z = p)) := fun u hk => (gr_kp hG).trans hk (fun _ _ h => h)
  obtain ⟨nb, hnb⟩ : ∃ nb, QB.isNullB (s.data.toList.drop a) = nb := ⟨_, rfl⟩
  have HNU : Hid (∀ u, Rd u p s a er → Calls Tryz.prog 62 #[.pointer (some ⟨p, 0, none⟩)] u fun e W' => e = .returned (.bool nb) ∧ Gr u W') := fun u h => by rw [← hnb]; exact isNull62 p s u a er h
  rw [hnb] at hnul
  have hK3 : Keeps W3 W3 (fun z => z = p) := Keeps.refl _ _
  have HK3 := hidM hK3
  have e1 : W3.cell? ⟨W.heap.size, 1, none⟩ = some (.bool f1) := by simp [World.cell?, hb1]
  have t0 : W3.cell? ⟨W.heap.size, 2, none⟩ = some (.int .i64 15) := by simp [World.cell?, hb1]
  have t1 : W3.cell? ⟨W.heap.size, 3, none⟩ = some (.int .i64 f3) := by simp [World.cell?, hb1]
  have t2 : W3.cell? ⟨W.heap.size, 4, none⟩ = some (.int .i64 f4) := by simp [World.cell?, hb1]
  have t3 : W3.cell? ⟨W.heap.size, 5, none⟩ = some (.int .i64 f5) := by simp [World.cell?, hb1]
  have t4 : W3.cell? ⟨W.heap.size, 6, none⟩ = some (.slice (some ⟨fb, fO, none⟩) fn fc) := by simp [World.cell?, hb1]
  obtain ⟨k0, k1, k2, k3, k4⟩ := blk5 hb2
  clear hb1 hb0 hb2 hG hLT hK3 hnb
  have HS3 : Hid (W3.heap.size = W.heap.size + 1 + 1 + 1) := by show _ = _; rw [← hW3]; simp
  have HL : Hid (∀ u, Keeps W3 u (fun z => z = p) → Rd u p s a er → Calls Tryz.prog 66 #[.pointer (some ⟨p, 0, none⟩), .agg #[.string g.name, .bool g.nul, .int .i64 g.kind, .int .i64 g.width, .int .i64 g.id, .int .i64 g.index, .slice go g.kids.length gc]] u (LsA u p s er d o)) := fun u hk hr => hL u (HLW.out u hk) hr
  have HGC : Hid (∀ u, Keeps W3 u (fun z => z = p) → CellsAt u fb fO g go gc) := fun u hk => hc.kept ((HLW.out u hk).block fb hfb.1 (fun e => hfb.2 e))
  have hfnI : (0 : Int) < (fn : Int) := by omega
  have hfcI : (fn : Int) ≤ (fc : Int) := by omega
  clear hL hR hc hfb hfn
  cases f1 with
  | false =>
    have HKN := hidM HK3.out
    have HRN := hidM HR3.out
    obtain ⟨g0, g1, g2, g3, g4, g5, g6⟩ := HGC.out W3 HK3.out
    cases o with
    | none =>
      replace HL : Hid (∀ u, Keeps W3 u (fun z => z = p) → Rd u p s a er → Calls Tryz.prog 66 #[.pointer (some ⟨p, 0, none⟩), .agg #[.string g.name, .bool g.nul, .int .i64 g.kind, .int .i64 g.width, .int .i64 g.id, .int .i64 g.index, .slice go g.kids.length gc]] u fun e W' => Keeps u W' (fun z => z = p) ∧ (∃ vo n vc, e = .returned (.tuple #[.slice vo n vc, .bool false])) ∧ Bad W' p s) := HL
      go_enter Tryz.func29, Tryz.ntmps29
      go_wp2_with (first | (go_at_call 66; refine (HL.out _ HKN.out HRN.out).mono ?_; rintro e u5 ⟨hk5, ⟨vo, n, vc, rfl⟩, hbad⟩; have HK5 := hidM (HKN.out.trans hk5 (fun _ _ h => h)); have hb5 := HKB.out u5 HK5.out; obtain ⟨q0, q1, q2, q3, z0, z1, z2, z3⟩ := blk4 hb5; have HB5 := hidM hb5; have HBAD := hidM hbad; clear hk5 hb5 hbad; simp only []))
      refine bodyPost_ret (res29 _ (W.heap.size + 1) _ _ _ _ false _ rfl rfl (set4_blk (by have h := heap_setCell_same _ (W.heap.size + 1) 3 _ _ (.slice vo n vc) HB5.out; simpa using h) _ _ _ _)) rfl ?_
      obtain ⟨ba, be, hne, hbr⟩ := HBAD.out
      exact ⟨set4_kp (kp_new (HLW.out u5 HK5.out) (by omega) _) (by omega) _ _ _ _, ⟨_, rfl, _, _, _, _, _, _, rfl⟩, ba, be, hne, set4_rd (hbr.oth hp2 _) hp2 _ _ _ _⟩
    | some x =>
      obtain ⟨l, t⟩ := x
      replace HL : Hid (∀ u, Keeps W3 u (fun z => z = p) → Rd u p s a er → Calls Tryz.prog 66 #[.pointer (some ⟨p, 0, none⟩), .agg #[.string g.name, .bool g.nul, .int .i64 g.kind, .int .i64 g.width, .int .i64 g.id, .int .i64 g.index, .slice go g.kids.length gc]] u fun e W' => Keeps u W' (fun z => z = p) ∧ (∃ vo vc, e = .returned (.tuple #[.slice vo l.length vc, .bool true]) ∧ l.length ≤ vc ∧ VRow (NV u W') W' (d + 1) vo l) ∧ t.length ≤ s.size ∧ t = s.data.toList.drop (s.size - t.length) ∧ Rd W' p s (s.size - t.length) er) := HL
      show Calls _ _ _ _ (VaA W p s er (d + 1) (some (QB.listV l, t)))
      go_enter Tryz.func29, Tryz.ntmps29
      go_wp2_with (first | (go_at_call 66; refine (HL.out _ HKN.out HRN.out).mono ?_; rintro e u5 ⟨hk5, ⟨vo, vc, rfl, hvc, hrow⟩, ht1, ht2, hr5⟩; have HK5 := hidM (HKN.out.trans hk5 (fun _ _ h => h)); have hb5 := HKB.out u5 HK5.out; obtain ⟨q0, q1, q2, q3, z0, z1, z2, z3⟩ := blk4 hb5; have HB5 := hidM hb5; have HT := hidM (And.intro ht1 ht2); have HR5 := hidM hr5; have HV := hidM (And.intro hvc hrow); have HS5 := hidM HKN.out.size; clear hk5 hb5 ht1 ht2 hr5 hvc hrow; simp only []))
      refine bodyPost_ret (res29 _ (W.heap.size + 1) _ _ _ _ true _ rfl rfl (set4_blk (by have h := heap_setCell_same _ (W.heap.size + 1) 3 _ _ (.slice vo l.length vc) HB5.out; simpa using h) _ _ _ _)) rfl ?_
      refine ⟨set4_kp (kp_new (HLW.out u5 HK5.out) (by omega) _) (by omega) _ _ _ _, ⟨_, rfl, vo, vc, rfl, HV.out.1, ⟨by show is64 0; decide, by show (0 : Nat) ≤ _; omega⟩, ?_⟩, HT.out.1, HT.out.2, set4_rd (HR5.out.oth hp2 _) hp2 _ _ _ _⟩
      have h3 := HS3.out
      have h5 := HS5.out
      have hk := HV.out.2.kept (W' := set4 (u5.setCell ⟨W.heap.size + 1, 3, none⟩ (.slice vo l.length vc)) (W.heap.size + 1) (.bool false) (.int .i64 0) (.string ⟨#[]⟩) (.slice vo l.length vc)) (fun b hb => (set4_oth (fun e => by have := hb.1; omega) _ _ _ _).trans (heap_setCell_other _ _ _ _ (fun e => by have h1 := hb.1; have e' : b = W.heap.size + 1 := e; omega)))
      exact hk.mono fun b hb => ⟨by have := hb.1; omega, Nat.lt_of_lt_of_le hb.2 (Nat.le_of_eq ((set4_size (u5.setCell ⟨W.heap.size + 1, 3, none⟩ (.slice vo l.length vc)) (W.heap.size + 1) _ _ _ _).trans (by simp [World.setCell])).symm)⟩
  | true =>
    obtain rfl := hnul rfl
    cases o with
    | none =>
      replace HL : Hid (∀ u, Keeps W3 u (fun z => z = p) → Rd u p s a er → Calls Tryz.prog 66 #[.pointer (some ⟨p, 0, none⟩), .agg #[.string g.name, .bool g.nul, .int .i64 g.kind, .int .i64 g.width, .int .i64 g.id, .int .i64 g.index, .slice go g.kids.length gc]] u fun e W' => Keeps u W' (fun z => z = p) ∧ (∃ vo n vc, e = .returned (.tuple #[.slice vo n vc, .bool false])) ∧ Bad W' p s) := HL
      go_enter Tryz.func29, Tryz.ntmps29
      go_wp2_with (first | (go_at_call 66; refine (HL.out _ HKN.out HRN.out).mono ?_; rintro e u5 ⟨hk5, ⟨vo, n, vc, rfl⟩, hbad⟩; have HK5 := hidM (HKN.out.trans hk5 (fun _ _ h => h)); have hb5 := HKB.out u5 HK5.out; obtain ⟨q0, q1, q2, q3, z0, z1, z2, z3⟩ := blk4 hb5; have HB5 := hidM hb5; have HBAD := hidM hbad; clear hk5 hb5 hbad; simp only []) | (go_at_call 62; refine (HNU.out _ HR3.out).mono ?_; rintro e uN ⟨rfl, hgN⟩; have HKN : Hid (Keeps W3 uN (fun z => z = p)) := gr_kp hgN; have HRN := hidM (HR3.out.gr hgN); obtain ⟨k0, k1, k2, k3, k4⟩ := blk5 (HTB.out uN HKN.out); obtain ⟨g0, g1, g2, g3, g4, g5, g6⟩ := HGC.out uN HKN.out; clear hgN; simp only []))
      refine bodyPost_ret (res29 _ (W.heap.size + 1) _ _ _ _ false _ rfl rfl (set4_blk (by have h := heap_setCell_same _ (W.heap.size + 1) 3 _ _ (.slice vo n vc) HB5.out; simpa using h) _ _ _ _)) rfl ?_
      obtain ⟨ba, be, hne, hbr⟩ := HBAD.out
      exact ⟨set4_kp (kp_new (HLW.out u5 HK5.out) (by omega) _) (by omega) _ _ _ _, ⟨_, rfl, _, _, _, _, _, _, rfl⟩, ba, be, hne, set4_rd (hbr.oth hp2 _) hp2 _ _ _ _⟩
    | some x =>
      obtain ⟨l, t⟩ := x
      replace HL : Hid (∀ u, Keeps W3 u (fun z => z = p) → Rd u p s a er → Calls Tryz.prog 66 #[.pointer (some ⟨p, 0, none⟩), .agg #[.string g.name, .bool g.nul, .int .i64 g.kind, .int .i64 g.width, .int .i64 g.id, .int .i64 g.index, .slice go g.kids.length gc]] u fun e W' => Keeps u W' (fun z => z = p) ∧ (∃ vo vc, e = .returned (.tuple #[.slice vo l.length vc, .bool true]) ∧ l.length ≤ vc ∧ VRow (NV u W') W' (d + 1) vo l) ∧ t.length ≤ s.size ∧ t = s.data.toList.drop (s.size - t.length) ∧ Rd W' p s (s.size - t.length) er) := HL
      show Calls _ _ _ _ (VaA W p s er (d + 1) (some (QB.listV l, t)))
      go_enter Tryz.func29, Tryz.ntmps29
      go_wp2_with (first | (go_at_call 66; refine (HL.out _ HKN.out HRN.out).mono ?_; rintro e u5 ⟨hk5, ⟨vo, vc, rfl, hvc, hrow⟩, ht1, ht2, hr5⟩; have HK5 := hidM (HKN.out.trans hk5 (fun _ _ h => h)); have hb5 := HKB.out u5 HK5.out; obtain ⟨q0, q1, q2, q3, z0, z1, z2, z3⟩ := blk4 hb5; have HB5 := hidM hb5; have HT := hidM (And.intro ht1 ht2); have HR5 := hidM hr5; have HV := hidM (And.intro hvc hrow); have HS5 := hidM HKN.out.size; clear hk5 hb5 ht1 ht2 hr5 hvc hrow; simp only []) | (go_at_call 62; refine (HNU.out _ HR3.out).mono ?_; rintro e uN ⟨rfl, hgN⟩; have HKN : Hid (Keeps W3 uN (fun z => z = p)) := gr_kp hgN; have HRN := hidM (HR3.out.gr hgN); obtain ⟨k0, k1, k2, k3, k4⟩ := blk5 (HTB.out uN HKN.out); obtain ⟨g0, g1, g2, g3, g4, g5, g6⟩ := HGC.out uN HKN.out; clear hgN; simp only []))
      refine bodyPost_ret (res29 _ (W.heap.size + 1) _ _ _ _ true _ rfl rfl (set4_blk (by have h := heap_setCell_same _ (W.heap.size + 1) 3 _ _ (.slice vo l.length vc) HB5.out; simpa using h) _ _ _ _)) rfl ?_
      refine ⟨set4_kp (kp_new (HLW.out u5 HK5.out) (by omega) _) (by omega) _ _ _ _, ⟨_, rfl, vo, vc, rfl, HV.out.1, ⟨by show is64 0; decide, by show (0 : Nat) ≤ _; omega⟩, ?_⟩, HT.out.1, HT.out.2, set4_rd (HR5.out.oth hp2 _) hp2 _ _ _ _⟩
      have h3 := HS3.out
      have h5 := HS5.out
      have hk := HV.out.2.kept (W' := set4 (u5.setCell ⟨W.heap.size + 1, 3, none⟩ (.slice vo l.length vc)) (W.heap.size + 1) (.bool false) (.int .i64 0) (.string ⟨#[]⟩) (.slice vo l.length vc)) (fun b hb => (set4_oth (fun e => by have := hb.1; omega) _ _ _ _).trans (heap_setCell_other _ _ _ _ (fun e => by have h1 := hb.1; have e' : b = W.heap.size + 1 := e; omega)))
      exact hk.mono fun b hb => ⟨by have := hb.1; omega, Nat.lt_of_lt_of_le hb.2 (Nat.le_of_eq ((set4_size (u5.setCell ⟨W.heap.size + 1, 3, none⟩ (.slice vo l.length vc)) (W.heap.size + 1) _ _ _ _).trans (by simp [World.setCell])).symm)⟩
theorem v29_in19 (p : Nat) (s : ByteArray) (W : World) (a d : Nat) (er : Int) (f0 : ByteArray) (f1 : Bool) (f3 f4 f5 : Int) (fb fO : Nat) (fn fc : Nat) (g : FT) (go : Option Addr) (gc : Nat) (hc : CellsAt W fb fO g go gc) (hfb : fb < W.heap.size ∧ fb ≠ p) (hfn : 1 ≤ fn ∧ fn ≤ fc) (hR : Rd W p s a er) (hnul : f1 = true → QB.isNullB (s.data.toList.drop a) = false) (o : Option (VT × List UInt8))
    (hL : ∀ u, Keeps W u (fun z => z = p) → Rd u p s a er → Calls Tryz.prog 29 #[.pointer (some ⟨p, 0, none⟩), .agg #[.string g.name, .bool g.nul, .int .i64 g.kind, .int .i64 g.width, .int .i64 g.id, .int .i64 g.index, .slice go g.kids.length gc]] u (VaA u p s er d o)) :
    Calls Tryz.prog 29 #[.pointer (some ⟨p, 0, none⟩), .agg #[.string f0, .bool f1, .int .i64 19, .int .i64 f3, .int .i64 f4, .int .i64 f5, .slice (some ⟨fb, fO, none⟩) fn fc]] W (VaA W p s er d o) := by
  obtain ⟨W3, hW3⟩ : ∃ W3, (((W.alloc (.cells #[.string f0, .bool f1, .int .i64 19, .int .i64 f3, .int .i64 f4, .int .i64 f5, .slice (some ⟨fb, fO, none⟩) fn fc] 26)).alloc (.cells #[.bool false, .int .i64 0, .string ⟨#[]⟩, .slice none 0 0] 29)).alloc (.cells #[.int .i64 19, .int .i64 f3, .int .i64 f4, .int .i64 f5, .slice (some ⟨fb, fO, none⟩) fn fc] 24)) = W3 := ⟨_, rfl⟩
  have hG : Gr W W3 := by rw [← hW3]; exact gr3 W _ _ _
  obtain ⟨hb1, hb0, hb2⟩ := al3 W (.cells #[.string f0, .bool f1, .int .i64 19, .int .i64 f3, .int .i64 f4, .int .i64 f5, .slice (some ⟨fb, fO, none⟩) fn fc] 26) (.cells #[.bool false, .int .i64 0, .string ⟨#[]⟩, .slice none 0 0] 29) (.cells #[.int .i64 19, .int .i64 f3, .int .i64 f4, .int .i64 f5, .slice (some ⟨fb, fO, none⟩) fn fc] 24)
  rw [hW3] at hb1 hb0 hb2
  have hLT := hR.lt
  have hp1 : p ≠ W.heap.size := by omega
  have hp2 : p ≠ W.heap.size + 1 := by omega
  have hp3 : p ≠ W.heap.size + 1 + 1 := by omega
  have HKB : Hid (∀ u, Keeps W3 u (fun z => z = p) → u.heap[W.heap.size + 1]? = some (.cells #[.bool false, .int .i64 0, .string ⟨#[]⟩, .slice none 0 0] 29)) := fun u hk => (hk.block _ (lt_of_heap hb0) (fun e => hp2 e.symm)).trans hb0
  have HTB : Hid (∀ u, Keeps W3 u (fun z => z = p) → u.heap[W.heap.size + 1 + 1]? = some (.cells #[.int .i64 19, .int .i64 f3, .int .i64 f4, .int .i64 f5, .slice (some ⟨fb, fO, none⟩) fn fc] 24)) := fun u hk => (hk.block _ (lt_of_heap hb2) (fun e => hp3 e.symm)).trans hb2
  have HR3 := hidM (hR.gr hG)
  have HG := hidM hG
  have HLW : Hid (∀ u, Keeps W3 u (fun z => z = p) → Keeps W u (fun z => z = p)) := fun u hk => (gr_kp hG).trans hk (fun _ _ h => h)
  obtain ⟨nb, hnb⟩ : ∃ nb, QB.isNullB (s.data.toList.drop a) = nb := ⟨_, rfl⟩
  have HNU : Hid (∀ u, Rd u p s a er → Calls Tryz.prog 62 #[.pointer (some ⟨p, 0, none⟩)] u fun e W' => e = .returned (.bool nb) ∧ Gr u W') := fun u h => by rw [← hnb]; exact isNull62 p s u a er h
  rw [hnb] at hnul
  have hK3 : Keeps W3 W3 (fun z => z = p) := Keeps.refl _ _
  have HK3 := hidM hK3
  have e1 : W3.cell? ⟨W.heap.size, 1, none⟩ = some (.bool f1) := by simp [World.cell?, hb1]
  have t0 : W3.cell? ⟨W.heap.size, 2, none⟩ = some (.int .i64 19) := by simp [World.cell?, hb1]
  have t1 : W3.cell? ⟨W.heap.size, 3, none⟩ = some (.int .i64 f3) := by simp [World.cell?, hb1]
  have t2 : W3.cell? ⟨W.heap.size, 4, none⟩ = some (.int .i64 f4) := by simp [World.cell?, hb1]
  have t3 : W3.cell? ⟨W.heap.size, 5, none⟩ = some (.int .i64 f5) := by simp [World.cell?, hb1]
  have t4 : W3.cell? ⟨W.heap.size, 6, none⟩ = some (.slice (some ⟨fb, fO, none⟩) fn fc) := by simp [World.cell?, hb1]
  obtain ⟨k0, k1, k2, k3, k4⟩ := blk5 hb2
  clear hb1 hb0 hb2 hG hLT hK3 hnb
  have HS3 : Hid (W3.heap.size = W.heap.size + 1 + 1 + 1) := by show _ = _; rw [← hW3]; simp
  have HL : Hid (∀ u, Keeps W3 u (fun z => z = p) → Rd u p s a er → Calls Tryz.prog 29 #[.pointer (some ⟨p, 0, none⟩), .agg #[.string g.name, .bool g.nul, .int .i64 g.kind, .int .i64 g.width, .int .i64 g.id, .int .i64 g.index, .slice go g.kids.length gc]] u (VaA u p s er d o)) := fun u hk hr => hL u (HLW.out u hk) hr
  have HGC : Hid (∀ u, Keeps W3 u (fun z => z = p) → CellsAt u fb fO g go gc) := fun u hk => hc.kept ((HLW.out u hk).block fb hfb.1 (fun e => hfb.2 e))
  have hfnI : (0 : Int) < (fn : Int) := by omega
  have hfcI : (fn : Int) ≤ (fc : Int) := by omega
  clear hL hR hc hfb hfn
  cases f1 with
  | false =>
    have HKN := hidM HK3.out
    have HRN := hidM HR3.out
    obtain ⟨g0, g1, g2, g3, g4, g5, g6⟩ := HGC.out W3 HK3.out
    cases o with
    | none =>
      replace HL : Hid (∀ u, Keeps W3 u (fun z => z = p) → Rd u p s a er → Calls Tryz.prog 29 #[.pointer (some ⟨p, 0, none⟩), .agg #[.string g.name, .bool g.nul, .int .i64 g.kind, .int .i64 g.width, .int .i64 g.id, .int .i64 g.index, .slice go g.kids.length gc]] u fun e W' => Keeps u W' (fun z => z = p) ∧ (∃ val, e = .returned (.tuple #[val, .bool false]) ∧ AnyV val) ∧ Bad W' p s) := HL
      go_enter Tryz.func29, Tryz.ntmps29
      go_wp2_with (first | (go_at_call 29; refine (HL.out _ HKN.out HRN.out).mono ?_; rintro e u5 ⟨hk5, ⟨val, rfl, b', n', x', lo, ln, lc, rfl⟩, hbad⟩; have HK5 := hidM (HKN.out.trans hk5 (fun _ _ h => h)); have hb5 := HKB.out u5 HK5.out; obtain ⟨q0, q1, q2, q3, z0, z1, z2, z3⟩ := blk4 hb5; have HB5 := hidM hb5; have HBAD := hidM hbad; clear hk5 hb5 hbad; simp only []))
      refine bodyPost_ret (res29 _ (W.heap.size + 1) _ _ _ _ false _ rfl rfl (set4_blk HB5.out _ _ _ _)) rfl ?_
      obtain ⟨ba, be, hne, hbr⟩ := HBAD.out
      exact ⟨set4_kp (HLW.out u5 HK5.out) (by omega) _ _ _ _, ⟨_, rfl, _, _, _, _, _, _, rfl⟩, ba, be, hne, set4_rd hbr hp2 _ _ _ _⟩
    | some x =>
      obtain ⟨v, t⟩ := x
      replace HL : Hid (∀ u, Keeps W3 u (fun z => z = p) → Rd u p s a er → Calls Tryz.prog 29 #[.pointer (some ⟨p, 0, none⟩), .agg #[.string g.name, .bool g.nul, .int .i64 g.kind, .int .i64 g.width, .int .i64 g.id, .int .i64 g.index, .slice go g.kids.length gc]] u fun e W' => Keeps u W' (fun z => z = p) ∧ (∃ val, e = .returned (.tuple #[val, .bool true]) ∧ VV d u W' v val) ∧ t.length ≤ s.size ∧ t = s.data.toList.drop (s.size - t.length) ∧ Rd W' p s (s.size - t.length) er) := HL
      go_enter Tryz.func29, Tryz.ntmps29
      go_wp2_with (first | (go_at_call 29; refine (HL.out _ HKN.out HRN.out).mono ?_; rintro e u5 ⟨hk5, ⟨val, rfl, ko, kc, rfl, hkc, hok, hrow⟩, ht1, ht2, hr5⟩; have HK5 := hidM (HKN.out.trans hk5 (fun _ _ h => h)); have hb5 := HKB.out u5 HK5.out; obtain ⟨q0, q1, q2, q3, z0, z1, z2, z3⟩ := blk4 hb5; have HB5 := hidM hb5; have HT := hidM (And.intro ht1 ht2); have HR5 := hidM hr5; have HV := hidM (And.intro hkc (And.intro hok hrow)); have HS5 := hidM HKN.out.size; clear hk5 hb5 ht1 ht2 hr5 hkc hok hrow; simp only []))
      refine bodyPost_ret (res29 _ (W.heap.size + 1) _ _ _ _ true _ rfl rfl (set4_blk HB5.out _ _ _ _)) rfl ?_
      refine ⟨set4_kp (HLW.out u5 HK5.out) (by omega) _ _ _ _, ⟨_, rfl, ko, kc, rfl, HV.out.1, HV.out.2.1, ?_⟩, HT.out.1, HT.out.2, set4_rd HR5.out hp2 _ _ _ _⟩
      have h3 := HS3.out
      have h5 := HS5.out
      have hk := HV.out.2.2.kept (W' := set4 u5 (W.heap.size + 1) (.bool v.nul) (.int .i64 v.num) (.string v.text) (.slice ko v.list.length kc)) (fun b hb => set4_oth (fun e => by have := hb.1; omega) _ _ _ _)
      exact hk.mono fun b hb => ⟨by have := hb.1; omega, Nat.lt_of_lt_of_le hb.2 (Nat.le_of_eq (set4_size _ _ _ _ _ _).symm)⟩
  | true =>
    obtain rfl := hnul rfl
    cases o with
    | none =>
      replace HL : Hid (∀ u, Keeps W3 u (fun z => z = p) → Rd u p s a er → Calls Tryz.prog 29 #[.pointer (some ⟨p, 0, none⟩), .agg #[.string g.name, .bool g.nul, .int .i64 g.kind, .int .i64 g.width, .int .i64 g.id, .int .i64 g.index, .slice go g.kids.length gc]] u fun e W' => Keeps u W' (fun z => z = p) ∧ (∃ val, e = .returned (.tuple #[val, .bool false]) ∧ AnyV val) ∧ Bad W' p s) := HL
      go_enter Tryz.func29, Tryz.ntmps29
      go_wp2_with (first | (go_at_call 29; refine (HL.out _ HKN.out HRN.out).mono ?_; rintro e u5 ⟨hk5, ⟨val, rfl, b', n', x', lo, ln, lc, rfl⟩, hbad⟩; have HK5 := hidM (HKN.out.trans hk5 (fun _ _ h => h)); have hb5 := HKB.out u5 HK5.out; obtain ⟨q0, q1, q2, q3, z0, z1, z2, z3⟩ := blk4 hb5; have HB5 := hidM hb5; have HBAD := hidM hbad; clear hk5 hb5 hbad; simp only []) | (go_at_call 62; refine (HNU.out _ HR3.out).mono ?_; rintro e uN ⟨rfl, hgN⟩; have HKN : Hid (Keeps W3 uN (fun z => z = p)) := gr_kp hgN; have HRN := hidM (HR3.out.gr hgN); obtain ⟨k0, k1, k2, k3, k4⟩ := blk5 (HTB.out uN HKN.out); obtain ⟨g0, g1, g2, g3, g4, g5, g6⟩ := HGC.out uN HKN.out; clear hgN; simp only []))
      refine bodyPost_ret (res29 _ (W.heap.size + 1) _ _ _ _ false _ rfl rfl (set4_blk HB5.out _ _ _ _)) rfl ?_
      obtain ⟨ba, be, hne, hbr⟩ := HBAD.out
      exact ⟨set4_kp (HLW.out u5 HK5.out) (by omega) _ _ _ _, ⟨_, rfl, _, _, _, _, _, _, rfl⟩, ba, be, hne, set4_rd hbr hp2 _ _ _ _⟩
    | some x =>
      obtain ⟨v, t⟩ := x
      replace HL : Hid (∀ u, Keeps W3 u (fun z => z = p) → Rd u p s a er → Calls Tryz.prog 29 #[.pointer (some ⟨p, 0, none⟩), .agg #[.string g.name, .bool g.nul, .int .i64 g.kind, .int .i64 g.width, .int .i64 g.id, .int .i64 g.index, .slice go g.kids.length gc]] u fun e W' => Keeps u W' (fun z => z = p) ∧ (∃ val, e = .returned (.tuple #[val, .bool true]) ∧ VV d u W' v val) ∧ t.length ≤ s.size ∧ t = s.data.toList.drop (s.size - t.length) ∧ Rd W' p s (s.size - t.length) er) := HL
      go_enter Tryz.func29, Tryz.ntmps29
      go_wp2_with (first | (go_at_call 29; refine (HL.out _ HKN.out HRN.out).mono ?_; rintro e u5 ⟨hk5, ⟨val, rfl, ko, kc, rfl, hkc, hok, hrow⟩, ht1, ht2, hr5⟩; have HK5 := hidM (HKN.out.trans hk5 (fun _ _ h => h)); have hb5 := HKB.out u5 HK5.out; obtain ⟨q0, q1, q2, q3, z0, z1, z2, z3⟩ := blk4 hb5; have HB5 := hidM hb5; have HT := hidM (And.intro ht1 ht2); have HR5 := hidM hr5; have HV := hidM (And.intro hkc (And.intro hok hrow)); have HS5 := hidM HKN.out.size; clear hk5 hb5 ht1 ht2 hr5 hkc hok hrow; simp only []) | (go_at_call 62; refine (HNU.out _ HR3.out).mono ?_; rintro e uN ⟨rfl, hgN⟩; have HKN : Hid (Keeps W3 uN (fun z => z = p)) := gr_kp hgN; have HRN := hidM (HR3.out.gr hgN); obtain ⟨k0, k1, k2, k3, k4⟩ := blk5 (HTB.out uN HKN.out); obtain ⟨g0, g1, g2, g3, g4, g5, g6⟩ := HGC.out uN HKN.out; clear hgN; simp only []))
      refine bodyPost_ret (res29 _ (W.heap.size + 1) _ _ _ _ true _ rfl rfl (set4_blk HB5.out _ _ _ _)) rfl ?_
      refine ⟨set4_kp (HLW.out u5 HK5.out) (by omega) _ _ _ _, ⟨_, rfl, ko, kc, rfl, HV.out.1, HV.out.2.1, ?_⟩, HT.out.1, HT.out.2, set4_rd HR5.out hp2 _ _ _ _⟩
      have h3 := HS3.out
      have h5 := HS5.out
      have hk := HV.out.2.2.kept (W' := set4 u5 (W.heap.size + 1) (.bool v.nul) (.int .i64 v.num) (.string v.text) (.slice ko v.list.length kc)) (fun b hb => set4_oth (fun e => by have := hb.1; omega) _ _ _ _)
      exact hk.mono fun b hb => ⟨by have := hb.1; omega, Nat.lt_of_lt_of_le hb.2 (Nat.le_of_eq (set4_size _ _ _ _ _ _).symm)⟩
theorem v29_in20 (p : Nat) (s : ByteArray) (W : World) (a d : Nat) (er : Int) (f0 : ByteArray) (f1 : Bool) (f3 f4 f5 : Int) (fb fO : Nat) (fn fc : Nat) (g : FT) (go : Option Addr) (gc : Nat) (hc : CellsAt W fb fO g go gc) (hfb : fb < W.heap.size ∧ fb ≠ p) (hfn : 1 ≤ fn ∧ fn ≤ fc) (hR : Rd W p s a er) (hnul : f1 = true → QB.isNullB (s.data.toList.drop a) = false) (o : Option (VT × List UInt8))
    (hL : ∀ u, Keeps W u (fun z => z = p) → Rd u p s a er → Calls Tryz.prog 29 #[.pointer (some ⟨p, 0, none⟩), .agg #[.string g.name, .bool g.nul, .int .i64 g.kind, .int .i64 g.width, .int .i64 g.id, .int .i64 g.index, .slice go g.kids.length gc]] u (VaA u p s er d o)) :
    Calls Tryz.prog 29 #[.pointer (some ⟨p, 0, none⟩), .agg #[.string f0, .bool f1, .int .i64 20, .int .i64 f3, .int .i64 f4, .int .i64 f5, .slice (some ⟨fb, fO, none⟩) fn fc]] W (VaA W p s er d o) := by
  obtain ⟨W3, hW3⟩ : ∃ W3, (((W.alloc (.cells #[.string f0, .bool f1, .int .i64 20, .int .i64 f3, .int .i64 f4, .int .i64 f5, .slice (some ⟨fb, fO, none⟩) fn fc] 26)).alloc (.cells #[.bool false, .int .i64 0, .string ⟨#[]⟩, .slice none 0 0] 29)).alloc (.cells #[.int .i64 20, .int .i64 f3, .int .i64 f4, .int .i64 f5, .slice (some ⟨fb, fO, none⟩) fn fc] 24)) = W3 := ⟨_, rfl⟩
  have hG : Gr W W3 := by rw [← hW3]; exact gr3 W _ _ _
  obtain ⟨hb1, hb0, hb2⟩ := al3 W (.cells #[.string f0, .bool f1, .int .i64 20, .int .i64 f3, .int .i64 f4, .int .i64 f5, .slice (some ⟨fb, fO, none⟩) fn fc] 26) (.cells #[.bool false, .int .i64 0, .string ⟨#[]⟩, .slice none 0 0] 29) (.cells #[.int .i64 20, .int .i64 f3, .int .i64 f4, .int .i64 f5, .slice (some ⟨fb, fO, none⟩) fn fc] 24)
  rw [hW3] at hb1 hb0 hb2
  have hLT := hR.lt
  have hp1 : p ≠ W.heap.size := by omega
  have hp2 : p ≠ W.heap.size + 1 := by omega
  have hp3 : p ≠ W.heap.size + 1 + 1 := by omega
  have HKB : Hid (∀ u, Keeps W3 u (fun z => z = p) → u.heap[W.heap.size + 1]? = some (.cells #[.bool false, .int .i64 0, .string ⟨#[]⟩, .slice none 0 0] 29)) := fun u hk => (hk.block _ (lt_of_heap hb0) (fun e => hp2 e.symm)).trans hb0
  have HTB : Hid (∀ u, Keeps W3 u (fun z => z = p) → u.heap[W.heap.size + 1 + 1]? = some (.cells #[.int .i64 20, .int .i64 f3, .int .i64 f4, .int .i64 f5, .slice (some ⟨fb, fO, none⟩) fn fc] 24)) := fun u hk => (hk.block _ (lt_of_heap hb2) (fun e => hp3 e.symm)).trans hb2
  have HR3 := hidM (hR.gr hG)
  have HG := hidM hG
  have HLW : Hid (∀ u, Keeps W3 u (fun z => z = p) → Keeps W u (fun z => z = p)) := fun u hk => (gr_kp hG).trans hk (fun _ _ h => h)
  obtain ⟨nb, hnb⟩ : ∃ nb, QB.isNullB (s.data.toList.drop a) = nb := ⟨_, rfl⟩
  have HNU : Hid (∀ u, Rd u p s a er → Calls Tryz.prog 62 #[.pointer (some ⟨p, 0, none⟩)] u fun e W' => e = .returned (.bool nb) ∧ Gr u W') := fun u h => by rw [← hnb]; exact isNull62 p s u a er h
  rw [hnb] at hnul
  have hK3 : Keeps W3 W3 (fun z => z = p) := Keeps.refl _ _
  have HK3 := hidM hK3
  have e1 : W3.cell? ⟨W.heap.size, 1, none⟩ = some (.bool f1) := by simp [World.cell?, hb1]
  have t0 : W3.cell? ⟨W.heap.size, 2, none⟩ = some (.int .i64 20) := by simp [World.cell?, hb1]
  have t1 : W3.cell? ⟨W.heap.size, 3, none⟩ = some (.int .i64 f3) := by simp [World.cell?, hb1]
  have t2 : W3.cell? ⟨W.heap.size, 4, none⟩ = some (.int .i64 f4) := by simp [World.cell?, hb1]
  have t3 : W3.cell? ⟨W.heap.size, 5, none⟩ = some (.int .i64 f5) := by simp [World.cell?, hb1]
  have t4 : W3.cell? ⟨W.heap.size, 6, none⟩ = some (.slice (some ⟨fb, fO, none⟩) fn fc) := by simp [World.cell?, hb1]
  obtain ⟨k0, k1, k2, k3, k4⟩ := blk5 hb2
  clear hb1 hb0 hb2 hG hLT hK3 hnb
  have HS3 : Hid (W3.heap.size = W.heap.size + 1 + 1 + 1) := by show _ = _; rw [← hW3]; simp
  have HL : Hid (∀ u, Keeps W3 u (fun z => z = p) → Rd u p s a er → Calls Tryz.prog 29 #[.pointer (some ⟨p, 0, none⟩), .agg #[.string g.name, .bool g.nul, .int .i64 g.kind, .int .i64 g.width, .int .i64 g.id, .int .i64 g.index, .slice go g.kids.length gc]] u (VaA u p s er d o)) := fun u hk hr => hL u (HLW.out u hk) hr
  have HGC : Hid (∀ u, Keeps W3 u (fun z => z = p) → CellsAt u fb fO g go gc) := fun u hk => hc.kept ((HLW.out u hk).block fb hfb.1 (fun e => hfb.2 e))
  have hfnI : (0 : Int) < (fn : Int) := by omega
  have hfcI : (fn : Int) ≤ (fc : Int) := by omega
  clear hL hR hc hfb hfn
  cases f1 with
  | false =>
    have HKN := hidM HK3.out
    have HRN := hidM HR3.out
    obtain ⟨g0, g1, g2, g3, g4, g5, g6⟩ := HGC.out W3 HK3.out
    cases o with
    | none =>
      replace HL : Hid (∀ u, Keeps W3 u (fun z => z = p) → Rd u p s a er → Calls Tryz.prog 29 #[.pointer (some ⟨p, 0, none⟩), .agg #[.string g.name, .bool g.nul, .int .i64 g.kind, .int .i64 g.width, .int .i64 g.id, .int .i64 g.index, .slice go g.kids.length gc]] u fun e W' => Keeps u W' (fun z => z = p) ∧ (∃ val, e = .returned (.tuple #[val, .bool false]) ∧ AnyV val) ∧ Bad W' p s) := HL
      go_enter Tryz.func29, Tryz.ntmps29
      go_wp2_with (first | (go_at_call 29; refine (HL.out _ HKN.out HRN.out).mono ?_; rintro e u5 ⟨hk5, ⟨val, rfl, b', n', x', lo, ln, lc, rfl⟩, hbad⟩; have HK5 := hidM (HKN.out.trans hk5 (fun _ _ h => h)); have hb5 := HKB.out u5 HK5.out; obtain ⟨q0, q1, q2, q3, z0, z1, z2, z3⟩ := blk4 hb5; have HB5 := hidM hb5; have HBAD := hidM hbad; clear hk5 hb5 hbad; simp only []))
      refine bodyPost_ret (res29 _ (W.heap.size + 1) _ _ _ _ false _ rfl rfl (set4_blk HB5.out _ _ _ _)) rfl ?_
      obtain ⟨ba, be, hne, hbr⟩ := HBAD.out
      exact ⟨set4_kp (HLW.out u5 HK5.out) (by omega) _ _ _ _, ⟨_, rfl, _, _, _, _, _, _, rfl⟩, ba, be, hne, set4_rd hbr hp2 _ _ _ _⟩
    | some x =>
      obtain ⟨v, t⟩ := x
      replace HL : Hid (∀ u, Keeps W3 u (fun z => z = p) → Rd u p s a er → Calls Tryz.prog 29 #[.pointer (some ⟨p, 0, none⟩), .agg #[.string g.name, .bool g.nul, .int .i64 g.kind, .int .i64 g.width, .int .i64 g.id, .int .i64 g.index, .slice go g.kids.length gc]] u fun e W' => Keeps u W' (fun z => z = p) ∧ (∃ val, e = .returned (.tuple #[val, .bool true]) ∧ VV d u W' v val) ∧ t.length ≤ s.size ∧ t = s.data.toList.drop (s.size - t.length) ∧ Rd W' p s (s.size - t.length) er) := HL
      go_enter Tryz.func29, Tryz.ntmps29
      go_wp2_with (first | (go_at_call 29; refine (HL.out _ HKN.out HRN.out).mono ?_; rintro e u5 ⟨hk5, ⟨val, rfl, ko, kc, rfl, hkc, hok, hrow⟩, ht1, ht2, hr5⟩; have HK5 := hidM (HKN.out.trans hk5 (fun _ _ h => h)); have hb5 := HKB.out u5 HK5.out; obtain ⟨q0, q1, q2, q3, z0, z1, z2, z3⟩ := blk4 hb5; have HB5 := hidM hb5; have HT := hidM (And.intro ht1 ht2); have HR5 := hidM hr5; have HV := hidM (And.intro hkc (And.intro hok hrow)); have HS5 := hidM HKN.out.size; clear hk5 hb5 ht1 ht2 hr5 hkc hok hrow; simp only []))
      refine bodyPost_ret (res29 _ (W.heap.size + 1) _ _ _ _ true _ rfl rfl (set4_blk HB5.out _ _ _ _)) rfl ?_
      refine ⟨set4_kp (HLW.out u5 HK5.out) (by omega) _ _ _ _, ⟨_, rfl, ko, kc, rfl, HV.out.1, HV.out.2.1, ?_⟩, HT.out.1, HT.out.2, set4_rd HR5.out hp2 _ _ _ _⟩
      have h3 := HS3.out
      have h5 := HS5.out
      have hk := HV.out.2.2.kept (W' := set4 u5 (W.heap.size + 1) (.bool v.nul) (.int .i64 v.num) (.string v.text) (.slice ko v.list.length kc)) (fun b hb => set4_oth (fun e => by have := hb.1; omega) _ _ _ _)
      exact hk.mono fun b hb => ⟨by have := hb.1; omega, Nat.lt_of_lt_of_le hb.2 (Nat.le_of_eq (set4_size _ _ _ _ _ _).symm)⟩
  | true =>
    obtain rfl := hnul rfl
    cases o with
    | none =>
      replace HL : Hid (∀ u, Keeps W3 u (fun z => z = p) → Rd u p s a er → Calls Tryz.prog 29 #[.pointer (some ⟨p, 0, none⟩), .agg #[.string g.name, .bool g.nul, .int .i64 g.kind, .int .i64 g.width, .int .i64 g.id, .int .i64 g.index, .slice go g.kids.length gc]] u fun e W' => Keeps u W' (fun z => z = p) ∧ (∃ val, e = .returned (.tuple #[val, .bool false]) ∧ AnyV val) ∧ Bad W' p s) := HL
      go_enter Tryz.func29, Tryz.ntmps29
      go_wp2_with (first | (go_at_call 29; refine (HL.out _ HKN.out HRN.out).mono ?_; rintro e u5 ⟨hk5, ⟨val, rfl, b', n', x', lo, ln, lc, rfl⟩, hbad⟩; have HK5 := hidM (HKN.out.trans hk5 (fun _ _ h => h)); have hb5 := HKB.out u5 HK5.out; obtain ⟨q0, q1, q2, q3, z0, z1, z2, z3⟩ := blk4 hb5; have HB5 := hidM hb5; have HBAD := hidM hbad; clear hk5 hb5 hbad; simp only []) | (go_at_call 62; refine (HNU.out _ HR3.out).mono ?_; rintro e uN ⟨rfl, hgN⟩; have HKN : Hid (Keeps W3 uN (fun z => z = p)) := gr_kp hgN; have HRN := hidM (HR3.out.gr hgN); obtain ⟨k0, k1, k2, k3, k4⟩ := blk5 (HTB.out uN HKN.out); obtain ⟨g0, g1, g2, g3, g4, g5, g6⟩ := HGC.out uN HKN.out; clear hgN; simp only []))
      refine bodyPost_ret (res29 _ (W.heap.size + 1) _ _ _ _ false _ rfl rfl (set4_blk HB5.out _ _ _ _)) rfl ?_
      obtain ⟨ba, be, hne, hbr⟩ := HBAD.out
      exact ⟨set4_kp (HLW.out u5 HK5.out) (by omega) _ _ _ _, ⟨_, rfl, _, _, _, _, _, _, rfl⟩, ba, be, hne, set4_rd hbr hp2 _ _ _ _⟩
    | some x =>
      obtain ⟨v, t⟩ := x
      replace HL : Hid (∀ u, Keeps W3 u (fun z => z = p) → Rd u p s a er → Calls Tryz.prog 29 #[.pointer (some ⟨p, 0, none⟩), .agg #[.string g.name, .bool g.nul, .int .i64 g.kind, .int .i64 g.width, .int .i64 g.id, .int .i64 g.index, .slice go g.kids.length gc]] u fun e W' => Keeps u W' (fun z => z = p) ∧ (∃ val, e = .returned (.tuple #[val, .bool true]) ∧ VV d u W' v val) ∧ t.length ≤ s.size ∧ t = s.data.toList.drop (s.size - t.length) ∧ Rd W' p s (s.size - t.length) er) := HL
      go_enter Tryz.func29, Tryz.ntmps29
      go_wp2_with (first | (go_at_call 29; refine (HL.out _ HKN.out HRN.out).mono ?_; rintro e u5 ⟨hk5, ⟨val, rfl, ko, kc, rfl, hkc, hok, hrow⟩, ht1, ht2, hr5⟩; have HK5 := hidM (HKN.out.trans hk5 (fun _ _ h => h)); have hb5 := HKB.out u5 HK5.out; obtain ⟨q0, q1, q2, q3, z0, z1, z2, z3⟩ := blk4 hb5; have HB5 := hidM hb5; have HT := hidM (And.intro ht1 ht2); have HR5 := hidM hr5; have HV := hidM (And.intro hkc (And.intro hok hrow)); have HS5 := hidM HKN.out.size; clear hk5 hb5 ht1 ht2 hr5 hkc hok hrow; simp only []) | (go_at_call 62; refine (HNU.out _ HR3.out).mono ?_; rintro e uN ⟨rfl, hgN⟩; have HKN : Hid (Keeps W3 uN (fun z => z = p)) := gr_kp hgN; have HRN := hidM (HR3.out.gr hgN); obtain ⟨k0, k1, k2, k3, k4⟩ := blk5 (HTB.out uN HKN.out); obtain ⟨g0, g1, g2, g3, g4, g5, g6⟩ := HGC.out uN HKN.out; clear hgN; simp only []))
      refine bodyPost_ret (res29 _ (W.heap.size + 1) _ _ _ _ true _ rfl rfl (set4_blk HB5.out _ _ _ _)) rfl ?_
      refine ⟨set4_kp (HLW.out u5 HK5.out) (by omega) _ _ _ _, ⟨_, rfl, ko, kc, rfl, HV.out.1, HV.out.2.1, ?_⟩, HT.out.1, HT.out.2, set4_rd HR5.out hp2 _ _ _ _⟩
      have h3 := HS3.out
      have h5 := HS5.out
      have hk := HV.out.2.2.kept (W' := set4 u5 (W.heap.size + 1) (.bool v.nul) (.int .i64 v.num) (.string v.text) (.slice ko v.list.length kc)) (fun b hb => set4_oth (fun e => by have := hb.1; omega) _ _ _ _)
      exact hk.mono fun b hb => ⟨by have := hb.1; omega, Nat.lt_of_lt_of_le hb.2 (Nat.le_of_eq (set4_size _ _ _ _ _ _).symm)⟩
end Go.Proofs.YtfoifmacobldbaaGreatDoor.Kit
