import Derived.Test.YtfoifmacobldbaaGreatDoorTW
set_option maxRecDepth 100000
set_option maxHeartbeats 4000000
namespace Go.Proofs.YtfoifmacobldbaaGreatDoor.Kit
open Go.RowKit Go.Shelf Go.Deep
set_option linter.unusedVariables false
set_option linter.unusedSimpArgs false
/-! ### value 29: numbers, null -/
theorem v29_num (p : Nat) (s : ByteArray) (W : World) (a a' d : Nat) (ha' : a' ≤ s.size) (er : Int) (f0 : ByteArray) (f1 : Bool) (f2 f3 f4 f5 : Int) (hf2 : 1 ≤ f2 ∧ f2 ≤ 11) (fo : Option Addr) (fn fc : Nat) (hR : Rd W p s a er) (hnul : f1 = true → QB.isNullB (s.data.toList.drop a) = false) (o : Option Int) (hob : ∀ n, o = some n → is64 n)
    (hL : ∀ u, Keeps W u (fun z => z = p) → Rd u p s a er → Calls Tryz.prog 70 #[.pointer (some ⟨p, 0, none⟩), .int .i64 f2] u (NuA u p s a' er o)) :
    Calls Tryz.prog 29 #[.pointer (some ⟨p, 0, none⟩), .agg #[.string f0, .bool f1, .int .i64 f2, .int .i64 f3, .int .i64 f4, .int .i64 f5, .slice fo fn fc]] W (VaA W p s er d (o.map fun n => (.mk false n ⟨#[]⟩ [], s.data.toList.drop a'))) := by
  have HA' := hidM ha'
  have n12 : ¬ f2 = 12 := by omega
  have n13 : ¬ f2 = 13 := by omega
  have n14 : ¬ f2 = 14 := by omega
  have n15 : ¬ f2 = 15 := by omega
  have n16 : ¬ f2 = 16 := by omega
  have n17 : ¬ f2 = 17 := by omega
  have n18 : ¬ f2 = 18 := by omega
  have n19 : ¬ f2 = 19 := by omega
  have n20 : ¬ f2 = 20 := by omega
  obtain ⟨W3, hW3⟩ : ∃ W3, (((W.alloc (.cells #[.string f0, .bool f1, .int .i64 f2, .int .i64 f3, .int .i64 f4, .int .i64 f5, .slice fo fn fc] 26)).alloc (.cells #[.bool false, .int .i64 0, .string ⟨#[]⟩, .slice none 0 0] 29)).alloc (.cells #[.int .i64 f2, .int .i64 f3, .int .i64 f4, .int .i64 f5, .slice fo fn fc] 24)) = W3 := ⟨_, rfl⟩
  have hG : Gr W W3 := by rw [← hW3]; exact gr3 W _ _ _
  obtain ⟨hb1, hb0, hb2⟩ := al3 W (.cells #[.string f0, .bool f1, .int .i64 f2, .int .i64 f3, .int .i64 f4, .int .i64 f5, .slice fo fn fc] 26) (.cells #[.bool false, .int .i64 0, .string ⟨#[]⟩, .slice none 0 0] 29) (.cells #[.int .i64 f2, .int .i64 f3, .int .i64 f4, .int .i64 f5, .slice fo fn fc] 24)
  rw [hW3] at hb1 hb0 hb2
  have hLT := hR.lt
  have hp1 : p ≠ W.heap.size := by omega
  have hp2 : p ≠ W.heap.size + 1 := by omega
  have hp3 : p ≠ W.heap.size + 1 + 1 := by omega
  have HKB : Hid (∀ u, Keeps W3 u (fun z => z = p) → u.heap[W.heap.size + 1]? = some (.cells #[.bool false, .int .i64 0, .string ⟨#[]⟩, .slice none 0 0] 29)) := fun u hk => (hk.block _ (lt_of_heap hb0) (fun e => hp2 e.symm)).trans hb0
  have HTB : Hid (∀ u, Keeps W3 u (fun z => z = p) → u.heap[W.heap.size + 1 + 1]? = some (.cells #[.int .i64 f2, .int .i64 f3, .int .i64 f4, .int .i64 f5, .slice fo fn fc] 24)) := fun u hk => (hk.block _ (lt_of_heap hb2) (fun e => hp3 e.symm)).trans hb2
  have HR3 := hidM (hR.gr hG)
  have HG := hidM hG
  have HLW : Hid (∀ u, Keeps W3 u (fun z => z = p) → Keeps W u (fun z => z = p)) := fun u hk => (gr_kp hG).trans hk (fun _ _ h => h)
  obtain ⟨nb, hnb⟩ : ∃ nb, QB.isNullB (s.data.toList.drop a) = nb := ⟨_, rfl⟩
  have HNU : Hid (∀ u, Rd u p s a er → Calls Tryz.prog 62 #[.pointer (some ⟨p, 0, none⟩)] u fun e W' => e = .returned (.bool nb) ∧ Gr u W') := fun u h => by rw [← hnb]; exact isNull62 p s u a er h
  rw [hnb] at hnul
  have hK3 : Keeps W3 W3 (fun z => z = p) := Keeps.refl _ _
  have HK3 := hidM hK3
  have e1 : W3.cell? ⟨W.heap.size, 1, none⟩ = some (.bool f1) := by simp [World.cell?, hb1]
  have t0 : W3.cell? ⟨W.heap.size, 2, none⟩ = some (.int .i64 f2) := by simp [World.cell?, hb1]
  have t1 : W3.cell? ⟨W.heap.size, 3, none⟩ = some (.int .i64 f3) := by simp [World.cell?, hb1]
  have t2 : W3.cell? ⟨W.heap.size, 4, none⟩ = some (.int .i64 f4) := by simp [World.cell?, hb1]
  have t3 : W3.cell? ⟨W.heap.size, 5, none⟩ = some (.int .i64 f5) := by simp [World.cell?, hb1]
  have t4 : W3.cell? ⟨W.heap.size, 6, none⟩ = some (.slice fo fn fc) := by simp [World.cell?, hb1]
  obtain ⟨k0, k1, k2, k3, k4⟩ := blk5 hb2
  clear hb1 hb0 hb2 hG hLT hK3 hnb
  have HL : Hid (∀ u, Keeps W3 u (fun z => z = p) → Rd u p s a er → Calls Tryz.prog 70 #[.pointer (some ⟨p, 0, none⟩), .int .i64 f2] u (NuA u p s a' er o)) := fun u hk hr => hL u (HLW.out u hk) hr
  clear hL hR hf2 ha'
  cases f1 with
  | false =>
    have HKN := hidM HK3.out
    have HRN := hidM HR3.out
    cases o with
    | none =>
      replace HL : Hid (∀ u, Keeps W3 u (fun z => z = p) → Rd u p s a er → Calls Tryz.prog 70 #[.pointer (some ⟨p, 0, none⟩), .int .i64 f2] u fun e W' => Keeps u W' (fun z => z = p) ∧ e = .returned (.tuple #[.int .i64 0, .bool false]) ∧ Bad W' p s) := HL
      go_enter Tryz.func29, Tryz.ntmps29
      go_wp2_with (first | (go_at_call 70; refine (HL.out _ HKN.out HRN.out).mono ?_; rintro e u5 ⟨hk5, rfl, hbad⟩; have HK5 := hidM (HKN.out.trans hk5 (fun _ _ h => h)); have hb5 := HKB.out u5 HK5.out; obtain ⟨q0, q1, q2, q3, z0, z1, z2, z3⟩ := blk4 hb5; have HB5 := hidM hb5; have HBAD := hidM hbad; clear hk5 hb5 hbad; simp only []))
      refine bodyPost_ret (res29 _ (W.heap.size + 1) _ _ _ _ false _ rfl rfl (set4_blk (by have h := heap_setCell_same _ (W.heap.size + 1) 1 _ _ (.int .i64 0) HB5.out; simpa using h) _ _ _ _)) rfl ?_
      obtain ⟨ba, be, hne, hbr⟩ := HBAD.out
      exact ⟨set4_kp (kp_new (HLW.out u5 HK5.out) (by omega) _) (by omega) _ _ _ _, ⟨_, rfl, _, _, _, _, _, _, rfl⟩, ba, be, hne, set4_rd (hbr.oth hp2 _) hp2 _ _ _ _⟩
    | some n =>
      have HOB := hidM (hob n rfl)
      replace HL : Hid (∀ u, Keeps W3 u (fun z => z = p) → Rd u p s a er → Calls Tryz.prog 70 #[.pointer (some ⟨p, 0, none⟩), .int .i64 f2] u fun e W' => Keeps u W' (fun z => z = p) ∧ e = .returned (.tuple #[.int .i64 n, .bool true]) ∧ Rd W' p s a' er) := HL
      show Calls _ _ _ _ (VaA W p s er d (some (.mk false n ⟨#[]⟩ [], s.data.toList.drop a')))
      clear hob
      go_enter Tryz.func29, Tryz.ntmps29
      go_wp2_with (first | (go_at_call 70; refine (HL.out _ HKN.out HRN.out).mono ?_; rintro e u5 ⟨hk5, rfl, hr5⟩; have HK5 := hidM (HKN.out.trans hk5 (fun _ _ h => h)); have hb5 := HKB.out u5 HK5.out; obtain ⟨q0, q1, q2, q3, z0, z1, z2, z3⟩ := blk4 hb5; have HB5 := hidM hb5; have HR5 := hidM hr5; clear hk5 hb5 hr5; simp only []))
      refine bodyPost_ret (res29 _ (W.heap.size + 1) _ _ _ _ true _ rfl rfl (set4_blk (by have h := heap_setCell_same _ (W.heap.size + 1) 1 _ _ (.int .i64 n) HB5.out; simpa using h) _ _ _ _)) rfl ?_
      obtain ⟨e1, e2, e3⟩ := at_rest HA'.out
      exact ⟨set4_kp (kp_new (HLW.out u5 HK5.out) (by omega) _) (by omega) _ _ _ _, ⟨_, rfl, none, 0, rfl, Nat.le_refl 0, ⟨HOB.out, by show (0 : Nat) ≤ _; omega⟩, vrow_nil _ _ _ _⟩, e1, e2, by rw [e3]; exact set4_rd (HR5.out.oth hp2 _) hp2 _ _ _ _⟩
  | true =>
    obtain rfl := hnul rfl
    cases o with
    | none =>
      replace HL : Hid (∀ u, Keeps W3 u (fun z => z = p) → Rd u p s a er → Calls Tryz.prog 70 #[.pointer (some ⟨p, 0, none⟩), .int .i64 f2] u fun e W' => Keeps u W' (fun z => z = p) ∧ e = .returned (.tuple #[.int .i64 0, .bool false]) ∧ Bad W' p s) := HL
      go_enter Tryz.func29, Tryz.ntmps29
      go_wp2_with (first | (go_at_call 70; refine (HL.out _ HKN.out HRN.out).mono ?_; rintro e u5 ⟨hk5, rfl, hbad⟩; have HK5 := hidM (HKN.out.trans hk5 (fun _ _ h => h)); have hb5 := HKB.out u5 HK5.out; obtain ⟨q0, q1, q2, q3, z0, z1, z2, z3⟩ := blk4 hb5; have HB5 := hidM hb5; have HBAD := hidM hbad; clear hk5 hb5 hbad; simp only []) | (go_at_call 62; refine (HNU.out _ HR3.out).mono ?_; rintro e uN ⟨rfl, hgN⟩; have HKN : Hid (Keeps W3 uN (fun z => z = p)) := gr_kp hgN; have HRN := hidM (HR3.out.gr hgN); obtain ⟨k0, k1, k2, k3, k4⟩ := blk5 (HTB.out uN HKN.out); clear hgN; simp only []))
      refine bodyPost_ret (res29 _ (W.heap.size + 1) _ _ _ _ false _ rfl rfl (set4_blk (by have h := heap_setCell_same _ (W.heap.size + 1) 1 _ _ (.int .i64 0) HB5.out; simpa using h) _ _ _ _)) rfl ?_
      obtain ⟨ba, be, hne, hbr⟩ := HBAD.out
      exact ⟨set4_kp (kp_new (HLW.out u5 HK5.out) (by omega) _) (by omega) _ _ _ _, ⟨_, rfl, _, _, _, _, _, _, rfl⟩, ba, be, hne, set4_rd (hbr.oth hp2 _) hp2 _ _ _ _⟩
    | some n =>
      have HOB := hidM (hob n rfl)
      replace HL : Hid (∀ u, Keeps W3 u (fun z => z = p) → Rd u p s a er → Calls Tryz.prog 70 #[.pointer (some ⟨p, 0, none⟩), .int .i64 f2] u fun e W' => Keeps u W' (fun z => z = p) ∧ e = .returned (.tuple #[.int .i64 n, .bool true]) ∧ Rd W' p s a' er) := HL
      show Calls _ _ _ _ (VaA W p s er d (some (.mk false n ⟨#[]⟩ [], s.data.toList.drop a')))
      clear hob
      go_enter Tryz.func29, Tryz.ntmps29
      go_wp2_with (first | (go_at_call 70; refine (HL.out _ HKN.out HRN.out).mono ?_; rintro e u5 ⟨hk5, rfl, hr5⟩; have HK5 := hidM (HKN.out.trans hk5 (fun _ _ h => h)); have hb5 := HKB.out u5 HK5.out; obtain ⟨q0, q1, q2, q3, z0, z1, z2, z3⟩ := blk4 hb5; have HB5 := hidM hb5; have HR5 := hidM hr5; clear hk5 hb5 hr5; simp only []) | (go_at_call 62; refine (HNU.out _ HR3.out).mono ?_; rintro e uN ⟨rfl, hgN⟩; have HKN : Hid (Keeps W3 uN (fun z => z = p)) := gr_kp hgN; have HRN := hidM (HR3.out.gr hgN); obtain ⟨k0, k1, k2, k3, k4⟩ := blk5 (HTB.out uN HKN.out); clear hgN; simp only []))
      refine bodyPost_ret (res29 _ (W.heap.size + 1) _ _ _ _ true _ rfl rfl (set4_blk (by have h := heap_setCell_same _ (W.heap.size + 1) 1 _ _ (.int .i64 n) HB5.out; simpa using h) _ _ _ _)) rfl ?_
      obtain ⟨e1, e2, e3⟩ := at_rest HA'.out
      exact ⟨set4_kp (kp_new (HLW.out u5 HK5.out) (by omega) _) (by omega) _ _ _ _, ⟨_, rfl, none, 0, rfl, Nat.le_refl 0, ⟨HOB.out, by show (0 : Nat) ≤ _; omega⟩, vrow_nil _ _ _ _⟩, e1, e2, by rw [e3]; exact set4_rd (HR5.out.oth hp2 _) hp2 _ _ _ _⟩

theorem v29_null (p : Nat) (s : ByteArray) (W : World) (a d : Nat) (er : Int) (f0 : ByteArray) (f1 : Bool) (f2 f3 f4 f5 : Int) (fo : Option Addr) (fn fc : Nat) (hR : Rd W p s a er) (hf1 : f1 = true) (hnul : QB.isNullB (s.data.toList.drop a) = true) :
    Calls Tryz.prog 29 #[.pointer (some ⟨p, 0, none⟩), .agg #[.string f0, .bool f1, .int .i64 f2, .int .i64 f3, .int .i64 f4, .int .i64 f5, .slice fo fn fc]] W (VaA W p s er d (some (QB.nullV, (s.data.toList.drop a).drop 4))) := by
  have HA4 : Hid (a + 4 ≤ s.size) := by
    have h := congrArg List.length (QB.null_text hnul)
    simp only [List.length_append, List.length_drop, sz_list, QB.nullT, List.length_cons, List.length_nil] at h
    have := hR.pos
    show _ ≤ _
    omega
  have hsl := hR.len
  have hap := hR.pos
  have hw4 : IntKind.i64.wrap ((a : Int) + 4) = (a : Int) + 4 := by rw [IntKind.wrap_i64]; omega
  rw [List.drop_drop]
  obtain ⟨W3, hW3⟩ : ∃ W3, (((W.alloc (.cells #[.string f0, .bool f1, .int .i64 f2, .int .i64 f3, .int .i64 f4, .int .i64 f5, .slice fo fn fc] 26)).alloc (.cells #[.bool false, .int .i64 0, .string ⟨#[]⟩, .slice none 0 0] 29)).alloc (.cells #[.int .i64 f2, .int .i64 f3, .int .i64 f4, .int .i64 f5, .slice fo fn fc] 24)) = W3 := ⟨_, rfl⟩
  have hG : Gr W W3 := by rw [← hW3]; exact gr3 W _ _ _
  obtain ⟨hb1, hb0, hb2⟩ := al3 W (.cells #[.string f0, .bool f1, .int .i64 f2, .int .i64 f3, .int .i64 f4, .int .i64 f5, .slice fo fn fc] 26) (.cells #[.bool false, .int .i64 0, .string ⟨#[]⟩, .slice none 0 0] 29) (.cells #[.int .i64 f2, .int .i64 f3, .int .i64 f4, .int .i64 f5, .slice fo fn fc] 24)
  rw [hW3] at hb1 hb0 hb2
  have hLT := hR.lt
  have hp1 : p ≠ W.heap.size := by omega
  have hp2 : p ≠ W.heap.size + 1 := by omega
  have hp3 : p ≠ W.heap.size + 1 + 1 := by omega
  have HKB : Hid (∀ u, Keeps W3 u (fun z => z = p) → u.heap[W.heap.size + 1]? = some (.cells #[.bool false, .int .i64 0, .string ⟨#[]⟩, .slice none 0 0] 29)) := fun u hk => (hk.block _ (lt_of_heap hb0) (fun e => hp2 e.symm)).trans hb0
  have HTB : Hid (∀ u, Keeps W3 u (fun z => z = p) → u.heap[W.heap.size + 1 + 1]? = some (.cells #[.int .i64 f2, .int .i64 f3, .int .i64 f4, .int .i64 f5, .slice fo fn fc] 24)) := fun u hk => (hk.block _ (lt_of_heap hb2) (fun e => hp3 e.symm)).trans hb2
  have HR3 := hidM (hR.gr hG)
  have HG := hidM hG
  have HLW : Hid (∀ u, Keeps W3 u (fun z => z = p) → Keeps W u (fun z => z = p)) := fun u hk => (gr_kp hG).trans hk (fun _ _ h => h)
  obtain ⟨nb, hnb⟩ : ∃ nb, QB.isNullB (s.data.toList.drop a) = nb := ⟨_, rfl⟩
  have HNU : Hid (∀ u, Rd u p s a er → Calls Tryz.prog 62 #[.pointer (some ⟨p, 0, none⟩)] u fun e W' => e = .returned (.bool nb) ∧ Gr u W') := fun u h => by rw [← hnb]; exact isNull62 p s u a er h
  rw [hnb] at hnul
  have hK3 : Keeps W3 W3 (fun z => z = p) := Keeps.refl _ _
  have HK3 := hidM hK3
  have e1 : W3.cell? ⟨W.heap.size, 1, none⟩ = some (.bool f1) := by simp [World.cell?, hb1]
  have t0 : W3.cell? ⟨W.heap.size, 2, none⟩ = some (.int .i64 f2) := by simp [World.cell?, hb1]
  have t1 : W3.cell? ⟨W.heap.size, 3, none⟩ = some (.int .i64 f3) := by simp [World.cell?, hb1]
  have t2 : W3.cell? ⟨W.heap.size, 4, none⟩ = some (.int .i64 f4) := by simp [World.cell?, hb1]
  have t3 : W3.cell? ⟨W.heap.size, 5, none⟩ = some (.int .i64 f5) := by simp [World.cell?, hb1]
  have t4 : W3.cell? ⟨W.heap.size, 6, none⟩ = some (.slice fo fn fc) := by simp [World.cell?, hb1]
  obtain ⟨k0, k1, k2, k3, k4⟩ := blk5 hb2
  clear hb1 hb0 hb2 hG hLT hK3 hnb
  subst hf1
  obtain rfl := hnul
  clear hR
  go_enter Tryz.func29, Tryz.ntmps29
  go_wp2_with (go_at_call 62; refine (HNU.out _ HR3.out).mono ?_; rintro e uN ⟨rfl, hgN⟩; have HKN : Hid (Keeps W3 uN (fun z => z = p)) := gr_kp hgN; have HRN := hidM (HR3.out.gr hgN); have d1 := HRN.out.cells.2.1; have y1 := HRN.out.frz.1; have hb5 := HKB.out uN HKN.out; have HB5 := hidM hb5; obtain ⟨V, hV⟩ : ∃ V, uN.setCell ⟨p, 1, none⟩ (.int .i64 ((a : Int) + 4)) = V := ⟨_, rfl⟩; have HRV : Hid (Rd V p s (a + 4) er) := (by have h := HRN.out.set HA4.out; rw [Int.natCast_add] at h; show Rd V p s _ er; rw [← hV]; exact h); have HKV : Hid (Keeps W3 V (fun z => z = p)) := (by show Keeps W3 V _; rw [← hV]; exact HKN.out.setCell (p := ⟨p, 1, none⟩) (fun _ => rfl) _); have hb6 := HKB.out V HKV.out; have HB6 := hidM hb6; obtain ⟨q0, q1, q2, q3, z0, z1, z2, z3⟩ := blk4 hb6; clear hgN hb5 hb6; simp only [])
  refine bodyPost_ret (res29 _ (W.heap.size + 1) _ _ _ _ true _ rfl rfl (set4_blk HB6.out _ _ _ _)) rfl ?_
  obtain ⟨e1, e2, e3⟩ := at_rest HA4.out
  exact ⟨set4_kp (HLW.out V HKV.out) (by omega) _ _ _ _, ⟨_, rfl, none, 0, rfl, Nat.le_refl 0, ⟨by show is64 0; decide, by show (0 : Nat) ≤ _; omega⟩, vrow_nil _ _ _ _⟩, e1, e2, by rw [e3]; exact set4_rd HRV.out hp2 _ _ _ _⟩
end Go.Proofs.YtfoifmacobldbaaGreatDoor.Kit
