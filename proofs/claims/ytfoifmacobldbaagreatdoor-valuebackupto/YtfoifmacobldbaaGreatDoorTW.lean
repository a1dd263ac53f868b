import Derived.Test.YtfoifmacobldbaaGreatDoorTV
import Derived.Test.YtfoifmacobldbaaGreatDoorRF
set_option maxRecDepth 100000
set_option maxHeartbeats 4000000
namespace Go.Proofs.YtfoifmacobldbaaGreatDoor.Kit
open Go.RowKit Go.Shelf Go.Deep
set_option linter.unusedVariables false
set_option linter.unusedSimpArgs false
/-! ### value 29 -/
theorem al3 (W : World) (x y z : Obj) : (((W.alloc x).alloc y).alloc z).heap[W.heap.size]? = some x ∧ (((W.alloc x).alloc y).alloc z).heap[W.heap.size + 1]? = some y ∧ (((W.alloc x).alloc y).alloc z).heap[W.heap.size + 1 + 1]? = some z := by
  have e1 := heap_alloc_new W x
  have e2 := heap_alloc_new (W.alloc x) y
  have e3 := heap_alloc_new ((W.alloc x).alloc y) z
  rw [show (W.alloc x).heap.size = W.heap.size + 1 by simp] at e2
  rw [show ((W.alloc x).alloc y).heap.size = W.heap.size + 1 + 1 by simp] at e3
  exact ⟨(((gr_alloc (W.alloc x) y).trans (gr_alloc _ z) (fun _ _ h => h)).block _ (lt_of_heap e1) id).trans e1, ((gr_alloc _ z).block _ (lt_of_heap e2) id).trans e2, e3⟩
theorem res29 (w : World) (b : Nat) (v0 v1 v2 v3 : Value) (x : Bool) (tmps : Array Value) (h4 : tmps.getD 4 undef = .pointer (some ⟨b, 0, none⟩)) (h5 : tmps.getD 5 undef = .bool x) (h : w.heap[b]? = some (.cells #[v0, v1, v2, v3] 29)) : (results Tryz.f29 tmps).run Tryz.prog w = .ok (.tuple #[.agg #[v0, v1, v2, v3], .bool x]) w := by
  obtain ⟨q0, q1, q2, q3, -⟩ := blk4 h
  rw [results_cell_tmp rfl, h4, h5]
  go_simp
theorem vrow_nil (S : Nat → Prop) (W : World) (d : Nat) (ao : Option Addr) : VRow S W d ao [] := by
  cases d with
  | zero => rfl
  | succ d => exact ⟨by simp [big], fun h => absurd rfl h⟩
theorem kp_new {W w : World} {p b j : Nat} (h : Keeps W w (fun z => z = p)) (hb : W.heap.size ≤ b) (v : Value) : Keeps W (w.setCell ⟨b, j, none⟩ v) (fun z => z = p) := h.setCell (p := ⟨b, j, none⟩) (fun q => absurd q (by show ¬ b < _; omega)) v
theorem blk5 {w : World} {b : Nat} {c0 c1 c2 c3 c4 : Value} (h : w.heap[b]? = some (.cells #[c0, c1, c2, c3, c4] 24)) : w.cell? ⟨b, 0, none⟩ = some c0 ∧ w.cell? ⟨b, 1, none⟩ = some c1 ∧ w.cell? ⟨b, 2, none⟩ = some c2 ∧ w.cell? ⟨b, 3, none⟩ = some c3 ∧ w.cell? ⟨b, 4, none⟩ = some c4 := by
  simp [World.cell?, h]
theorem v29_text (p : Nat) (s : ByteArray) (W : World) (a d : Nat) (er : Int) (f0 : ByteArray) (f1 : Bool) (f3 f4 f5 : Int) (fo : Option Addr) (fn fc : Nat) (hR : Rd W p s a er) (hnul : f1 = true → QB.isNullB (s.data.toList.drop a) = false) (o : Option (List UInt8 × List UInt8)) (hob : ∀ l t, o = some (l, t) → l.length ≤ 65536)
    (hL : ∀ u, Keeps W u (fun z => z = p) → Rd u p s a er → Calls Tryz.prog 63 #[.pointer (some ⟨p, 0, none⟩)] u (TxA u p s er o)) :
    Calls Tryz.prog 29 #[.pointer (some ⟨p, 0, none⟩), .agg #[.string f0, .bool f1, .int .i64 12, .int .i64 f3, .int .i64 f4, .int .i64 f5, .slice fo fn fc]] W (VaA W p s er d (o.map fun x => (QF.txtV x.1, x.2))) := by
  obtain ⟨W3, hW3⟩ : ∃ W3, (((W.alloc (.cells #[.string f0, .bool f1, .int .i64 12, .int .i64 f3, .int .i64 f4, .int .i64 f5, .slice fo fn fc] 26)).alloc (.cells #[.bool false, .int .i64 0, .string ⟨#[]⟩, .slice none 0 0] 29)).alloc (.cells #[.int .i64 12, .int .i64 f3, .int .i64 f4, .int .i64 f5, .slice fo fn fc] 24)) = W3 := ⟨_, rfl⟩
  have hG : Gr W W3 := by rw [← hW3]; exact gr3 W _ _ _
  obtain ⟨hb1, hb0, hb2⟩ := al3 W (.cells #[.string f0, .bool f1, .int .i64 12, .int .i64 f3, .int .i64 f4, .int .i64 f5, .slice fo fn fc] 26) (.cells #[.bool false, .int .i64 0, .string ⟨#[]⟩, .slice none 0 0] 29) (.cells #[.int .i64 12, .int .i64 f3, .int .i64 f4, .int .i64 f5, .slice fo fn fc] 24)
  rw [hW3] at hb1 hb0 hb2
  have hLT := hR.lt
  have hp1 : p ≠ W.heap.size := by omega
  have hp2 : p ≠ W.heap.size + 1 := by omega
  have hp3 : p ≠ W.heap.size + 1 + 1 := by omega
  have HKB : Hid (∀ u, Keeps W3 u (fun z => z = p) → u.heap[W.heap.size + 1]? = some (.cells #[.bool false, .int .i64 0, .string ⟨#[]⟩, .slice none 0 0] 29)) := fun u hk => (hk.block _ (lt_of_heap hb0) (fun e => hp2 e.symm)).trans hb0
  have HTB : Hid (∀ u, Keeps W3 u (fun z => z = p) → u.heap[W.heap.size + 1 + 1]? = some (.cells #[.int .i64 12, .int .i64 f3, .int .i64 f4, .int .i64 f5, .slice fo fn fc] 24)) := fun u hk => (hk.block _ (lt_of_heap hb2) (fun e => hp3 e.symm)).trans hb2
  have HR3 := hidM (hR.gr hG)
  have HG := hidM hG
  have HLW : Hid (∀ u, Keeps W3 u (fun z => z = p) → Keeps W u (fun z => z = p)) := fun u hk => (gr_kp hG).trans hk (fun _ _ h => h)
  obtain ⟨nb, hnb⟩ : ∃ nb, QB.isNullB (s.data.toList.drop a) = nb := ⟨_, rfl⟩
  have HNU : Hid (∀ u, Rd u p s a er → Calls Tryz.prog 62 #[.pointer (some ⟨p, 0, none⟩)] u fun e W' => e = .returned (.bool nb) ∧ Gr u W') := fun u h => by rw [← hnb]; exact isNull62 p s u a er h
  rw [hnb] at hnul
  have hK3 : Keeps W3 W3 (fun z => z = p) := Keeps.refl _ _
  have HK3 := hidM hK3
  have e1 : W3.cell? ⟨W.heap.size, 1, none⟩ = some (.bool f1) := by simp [World.cell?, hb1]
  have t0 : W3.cell? ⟨W.heap.size, 2, none⟩ = some (.int .i64 12) := by simp [World.cell?, hb1]
  have t1 : W3.cell? ⟨W.heap.size, 3, none⟩ = some (.int .i64 f3) := by simp [World.cell?, hb1]
  have t2 : W3.cell? ⟨W.heap.size, 4, none⟩ = some (.int .i64 f4) := by simp [World.cell?, hb1]
  have t3 : W3.cell? ⟨W.heap.size, 5, none⟩ = some (.int .i64 f5) := by simp [World.cell?, hb1]
  have t4 : W3.cell? ⟨W.heap.size, 6, none⟩ = some (.slice fo fn fc) := by simp [World.cell?, hb1]
  obtain ⟨k0, k1, k2, k3, k4⟩ := blk5 hb2
  clear hb1 hb0 hb2 hG hLT hK3 hnb
  have HL : Hid (∀ u, Keeps W3 u (fun z => z = p) → Rd u p s a er → Calls Tryz.prog 63 #[.pointer (some ⟨p, 0, none⟩)] u (TxA u p s er o)) := fun u hk hr => hL u (HLW.out u hk) hr
  clear hL hR
  cases f1 with
  | false =>
    have HKN := hidM HK3.out
    have HRN := hidM HR3.out
    cases o with
    | none =>
      replace HL : Hid (∀ u, Keeps W3 u (fun z => z = p) → Rd u p s a er → Calls Tryz.prog 63 #[.pointer (some ⟨p, 0, none⟩)] u fun e W' => Keeps u W' (fun z => z = p) ∧ e = .returned (.tuple #[.string ⟨#[]⟩, .bool false]) ∧ Bad W' p s) := HL
      go_enter Tryz.func29, Tryz.ntmps29
      go_wp2_with (first | (go_at_call 63; refine (HL.out _ HKN.out HRN.out).mono ?_; rintro e u5 ⟨hk5, rfl, hbad⟩; have HK5 := hidM (HKN.out.trans hk5 (fun _ _ h => h)); have hb5 := HKB.out u5 HK5.out; obtain ⟨q0, q1, q2, q3, z0, z1, z2, z3⟩ := blk4 hb5; have HB5 := hidM hb5; have HBAD := hidM hbad; clear hk5 hb5 hbad; simp only []))
      refine bodyPost_ret (res29 _ (W.heap.size + 1) _ _ _ _ false _ rfl rfl (set4_blk (by have h := heap_setCell_same _ (W.heap.size + 1) 2 _ _ (.string ⟨#[]⟩) HB5.out; simpa using h) _ _ _ _)) rfl ?_
      obtain ⟨ba, be, hne, hbr⟩ := HBAD.out
      exact ⟨set4_kp (kp_new (HLW.out u5 HK5.out) (by omega) _) (by omega) _ _ _ _, ⟨_, rfl, _, _, _, _, _, _, rfl⟩, ba, be, hne, set4_rd (hbr.oth hp2 _) hp2 _ _ _ _⟩
    | some x =>
      obtain ⟨l, t⟩ := x
      have HOB := hidM (hob l t rfl)
      replace HL : Hid (∀ u, Keeps W3 u (fun z => z = p) → Rd u p s a er → Calls Tryz.prog 63 #[.pointer (some ⟨p, 0, none⟩)] u fun e W' => Keeps u W' (fun z => z = p) ∧ e = .returned (.tuple #[.string ⟨l.toArray⟩, .bool true]) ∧ t.length ≤ s.size ∧ t = s.data.toList.drop (s.size - t.length) ∧ Rd W' p s (s.size - t.length) er) := HL
      have HTX : Hid (QF.txtV l = .mk false 0 ⟨l.toArray⟩ []) := rfl
      have HXS : Hid ((⟨l.toArray⟩ : ByteArray).size ≤ 1000000000000) := by show _ ≤ _; rw [ba_len]; have := HOB.out; omega
      show Calls _ _ _ _ (VaA W p s er d (some (QF.txtV l, t)))
      rw [HTX.out]
      clear HTX HOB hob
      generalize (⟨l.toArray⟩ : ByteArray) = xx at *
      go_enter Tryz.func29, Tryz.ntmps29
      go_wp2_with (first | (go_at_call 63; refine (HL.out _ HKN.out HRN.out).mono ?_; rintro e u5 ⟨hk5, rfl, ht1, ht2, hr5⟩; have HK5 := hidM (HKN.out.trans hk5 (fun _ _ h => h)); have hb5 := HKB.out u5 HK5.out; obtain ⟨q0, q1, q2, q3, z0, z1, z2, z3⟩ := blk4 hb5; have HB5 := hidM hb5; have HT := hidM (And.intro ht1 ht2); have HR5 := hidM hr5; clear hk5 hb5 ht1 ht2 hr5; simp only []))
      refine bodyPost_ret (res29 _ (W.heap.size + 1) _ _ _ _ true _ rfl rfl (set4_blk (by have h := heap_setCell_same _ (W.heap.size + 1) 2 _ _ (.string xx) HB5.out; simpa using h) _ _ _ _)) rfl ?_
      exact ⟨set4_kp (kp_new (HLW.out u5 HK5.out) (by omega) _) (by omega) _ _ _ _, ⟨_, rfl, none, 0, rfl, Nat.le_refl 0, ⟨by show is64 0; decide, HXS.out⟩, vrow_nil _ _ _ _⟩, HT.out.1, HT.out.2, set4_rd (HR5.out.oth hp2 _) hp2 _ _ _ _⟩
  | true =>
    obtain rfl := hnul rfl
    cases o with
    | none =>
      replace HL : Hid (∀ u, Keeps W3 u (fun z => z = p) → Rd u p s a er → Calls Tryz.prog 63 #[.pointer (some ⟨p, 0, none⟩)] u fun e W' => Keeps u W' (fun z => z = p) ∧ e = .returned (.tuple #[.string ⟨#[]⟩, .bool false]) ∧ Bad W' p s) := HL
      go_enter Tryz.func29, Tryz.ntmps29
      go_wp2_with (first | (go_at_call 63; refine (HL.out _ HKN.out HRN.out).mono ?_; rintro e u5 ⟨hk5, rfl, hbad⟩; have HK5 := hidM (HKN.out.trans hk5 (fun _ _ h => h)); have hb5 := HKB.out u5 HK5.out; obtain ⟨q0, q1, q2, q3, z0, z1, z2, z3⟩ := blk4 hb5; have HB5 := hidM hb5; have HBAD := hidM hbad; clear hk5 hb5 hbad; simp only []) | (go_at_call 62; refine (HNU.out _ HR3.out).mono ?_; rintro e uN ⟨rfl, hgN⟩; have HKN : Hid (Keeps W3 uN (fun z => z = p)) := gr_kp hgN; have HRN := hidM (HR3.out.gr hgN); obtain ⟨k0, k1, k2, k3, k4⟩ := blk5 (HTB.out uN HKN.out); clear hgN; simp only []))
      refine bodyPost_ret (res29 _ (W.heap.size + 1) _ _ _ _ false _ rfl rfl (set4_blk (by have h := heap_setCell_same _ (W.heap.size + 1) 2 _ _ (.string ⟨#[]⟩) HB5.out; simpa using h) _ _ _ _)) rfl ?_
      obtain ⟨ba, be, hne, hbr⟩ := HBAD.out
      exact ⟨set4_kp (kp_new (HLW.out u5 HK5.out) (by omega) _) (by omega) _ _ _ _, ⟨_, rfl, _, _, _, _, _, _, rfl⟩, ba, be, hne, set4_rd (hbr.oth hp2 _) hp2 _ _ _ _⟩
    | some x =>
      obtain ⟨l, t⟩ := x
      have HOB := hidM (hob l t rfl)
      replace HL : Hid (∀ u, Keeps W3 u (fun z => z = p) → Rd u p s a er → Calls Tryz.prog 63 #[.pointer (some ⟨p, 0, none⟩)] u fun e W' => Keeps u W' (fun z => z = p) ∧ e = .returned (.tuple #[.string ⟨l.toArray⟩, .bool true]) ∧ t.length ≤ s.size ∧ t = s.data.toList.drop (s.size - t.length) ∧ Rd W' p s (s.size - t.length) er) := HL
      have HTX : Hid (QF.txtV l = .mk false 0 ⟨l.toArray⟩ []) := rfl
      have HXS : Hid ((⟨l.toArray⟩ : ByteArray).size ≤ 1000000000000) := by show _ ≤ _; rw [ba_len]; have := HOB.out; omega
      show Calls _ _ _ _ (VaA W p s er d (some (QF.txtV l, t)))
      rw [HTX.out]
      clear HTX HOB hob
      generalize (⟨l.toArray⟩ : ByteArray) = xx at *
      go_enter Tryz.func29, Tryz.ntmps29
      go_wp2_with (first | (go_at_call 63; refine (HL.out _ HKN.out HRN.out).mono ?_; rintro e u5 ⟨hk5, rfl, ht1, ht2, hr5⟩; have HK5 := hidM (HKN.out.trans hk5 (fun _ _ h => h)); have hb5 := HKB.out u5 HK5.out; obtain ⟨q0, q1, q2, q3, z0, z1, z2, z3⟩ := blk4 hb5; have HB5 := hidM hb5; have HT := hidM (And.intro ht1 ht2); have HR5 := hidM hr5; clear hk5 hb5 ht1 ht2 hr5; simp only []) | (go_at_call 62; refine (HNU.out _ HR3.out).mono ?_; rintro e uN ⟨rfl, hgN⟩; have HKN : Hid (Keeps W3 uN (fun z => z = p)) := gr_kp hgN; have HRN := hidM (HR3.out.gr hgN); obtain ⟨k0, k1, k2, k3, k4⟩ := blk5 (HTB.out uN HKN.out); clear hgN; simp only []))
      refine bodyPost_ret (res29 _ (W.heap.size + 1) _ _ _ _ true _ rfl rfl (set4_blk (by have h := heap_setCell_same _ (W.heap.size + 1) 2 _ _ (.string xx) HB5.out; simpa using h) _ _ _ _)) rfl ?_
      exact ⟨set4_kp (kp_new (HLW.out u5 HK5.out) (by omega) _) (by omega) _ _ _ _, ⟨_, rfl, none, 0, rfl, Nat.le_refl 0, ⟨by show is64 0; decide, HXS.out⟩, vrow_nil _ _ _ _⟩, HT.out.1, HT.out.2, set4_rd (HR5.out.oth hp2 _) hp2 _ _ _ _⟩
theorem v29_bytes (p : Nat) (s : ByteArray) (W : World) (a d : Nat) (er : Int) (f0 : ByteArray) (f1 : Bool) (f3 f4 f5 : Int) (fo : Option Addr) (fn fc : Nat) (hR : Rd W p s a er) (hnul : f1 = true → QB.isNullB (s.data.toList.drop a) = false) (o : Option (List UInt8 × List UInt8)) (hob : ∀ l t, o = some (l, t) → l.length ≤ 65536)
    (hL : ∀ u, Keeps W u (fun z => z = p) → Rd u p s a er → Calls Tryz.prog 64 #[.pointer (some ⟨p, 0, none⟩)] u (TxA u p s er o)) :
    Calls Tryz.prog 29 #[.pointer (some ⟨p, 0, none⟩), .agg #[.string f0, .bool f1, .int .i64 13, .int .i64 f3, .int .i64 f4, .int .i64 f5, .slice fo fn fc]] W (VaA W p s er d (o.map fun x => (QF.txtV x.1, x.2))) := by
  obtain ⟨W3, hW3⟩ : ∃ W3, (((W.alloc (.cells #[.string f0, .bool f1, .int .i64 13, .int .i64 f3, .int .i64 f4, .int .i64 f5, .slice fo fn fc] 26)).alloc (.cells #[.bool false, .int .i64 0, .string ⟨#[]⟩, .slice none 0 0] 29)).alloc (.cells #[.int .i64 13, .int .i64 f3, .int .i64 f4, .int .i64 f5, .slice fo fn fc] 24)) = W3 := ⟨_, rfl⟩
  have hG : Gr W W3 := by rw [← hW3]; exact gr3 W _ _ _
  obtain ⟨hb1, hb0, hb2⟩ := al3 W (.cells #[.string f0, .bool f1, .int .i64 13, .int .i64 f3, .int .i64 f4, .int .i64 f5, .slice fo fn fc] 26) (.cells #[.bool false, .int .i64 0, .string ⟨#[]⟩, .slice none 0 0] 29) (.cells #[.int .i64 13, .int .i64 f3, .int .i64 f4, .int .i64 f5, .slice fo fn fc] 24)
  rw [hW3] at hb1 hb0 hb2
  have hLT := hR.lt
  have hp1 : p ≠ W.heap.size := by omega
  have hp2 : p ≠ W.heap.size + 1 := by omega
  have hp3 : p ≠ W.heap.size + 1 + 1 := by omega
  have HKB : Hid (∀ u, Keeps W3 u (fun z => z = p) → u.heap[W.heap.size + 1]? = some (.cells #[.bool false, .int .i64 0, .string ⟨#[]⟩, .slice none 0 0] 29)) := fun u hk => (hk.block _ (lt_of_heap hb0) (fun e => hp2 e.symm)).trans hb0
  have HTB : Hid (∀ u, Keeps W3 u (fun z => z = p) → u.heap[W.heap.size + 1 + 1]? = some (.cells #[.int .i64 13, .int .i64 f3, .int .i64 f4, .int .i64 f5, .slice fo fn fc] 24)) := fun u hk => (hk.block _ (lt_of_heap hb2) (fun e => hp3 e.symm)).trans hb2
  have HR3 := hidM (hR.gr hG)
  have HG := hidM hG
  have HLW : Hid (∀ u, Keeps W3 u (fun z => z = p) → Keeps W u (fun z => z = p)) := fun u hk => (gr_kp hG).trans hk (fun _ _ h => h)
  obtain ⟨nb, hnb⟩ : ∃ nb, QB.isNullB (s.data.toList.drop a) = nb := ⟨_, rfl⟩
  have HNU : Hid (∀ u, Rd u p s a er → Calls Tryz.prog 62 #[.pointer (some ⟨p, 0, none⟩)] u fun e W' => e = .returned (.bool nb) ∧ Gr u W') := fun u h => by rw [← hnb]; exact isNull62 p s u a er h
  rw [hnb] at hnul
  have hK3 : Keeps W3 W3 (fun z => z = p) := Keeps.refl _ _
  have HK3 := hidM hK3
  have e1 : W3.cell? ⟨W.heap.size, 1, none⟩ = some (.bool f1) := by simp [World.cell?, hb1]
  have t0 : W3.cell? ⟨W.heap.size, 2, none⟩ = some (.int .i64 13) := by simp [World.cell?, hb1]
  have t1 : W3.cell? ⟨W.heap.size, 3, none⟩ = some (.int .i64 f3) := by simp [World.cell?, hb1]
  have t2 : W3.cell? ⟨W.heap.size, 4, none⟩ = some (.int .i64 f4) := by simp [World.cell?, hb1]
  have t3 : W3.cell? ⟨W.heap.size, 5, none⟩ = some (.int .i64 f5) := by simp [World.cell?, hb1]
  have t4 : W3.cell? ⟨W.heap.size, 6, none⟩ = some (.slice fo fn fc) := by simp [World.cell?, hb1]
  obtain ⟨k0, k1, k2, k3, k4⟩ := blk5 hb2
  clear hb1 hb0 hb2 hG hLT hK3 hnb
  have HL : Hid (∀ u, Keeps W3 u (fun z => z = p) → Rd u p s a er → Calls Tryz.prog 64 #[.pointer (some ⟨p, 0, none⟩)] u (TxA u p s er o)) := fun u hk hr => hL u (HLW.out u hk) hr
  clear hL hR
  cases f1 with
  | false =>
    have HKN := hidM HK3.out
    have HRN := hidM HR3.out
    cases o with
    | none =>
      replace HL : Hid (∀ u, Keeps W3 u (fun z => z = p) → Rd u p s a er → Calls Tryz.prog 64 #[.pointer (some ⟨p, 0, none⟩)] u fun e W' => Keeps u W' (fun z => z = p) ∧ e = .returned (.tuple #[.string ⟨#[]⟩, .bool false]) ∧ Bad W' p s) := HL
      go_enter Tryz.func29, Tryz.ntmps29
      go_wp2_with (first | (go_at_call 64; refine (HL.out _ HKN.out HRN.out).mono ?_; rintro e u5 ⟨hk5, rfl, hbad⟩; have HK5 := hidM (HKN.out.trans hk5 (fun _ _ h => h)); have hb5 := HKB.out u5 HK5.out; obtain ⟨q0, q1, q2, q3, z0, z1, z2, z3⟩ := blk4 hb5; have HB5 := hidM hb5; have HBAD := hidM hbad; clear hk5 hb5 hbad; simp only []))
      refine bodyPost_ret (res29 _ (W.heap.size + 1) _ _ _ _ false _ rfl rfl (set4_blk (by have h := heap_setCell_same _ (W.heap.size + 1) 2 _ _ (.string ⟨#[]⟩) HB5.out; simpa using h) _ _ _ _)) rfl ?_
      obtain ⟨ba, be, hne, hbr⟩ := HBAD.out
      exact ⟨set4_kp (kp_new (HLW.out u5 HK5.out) (by omega) _) (by omega) _ _ _ _, ⟨_, rfl, _, _, _, _, _, _, rfl⟩, ba, be, hne, set4_rd (hbr.oth hp2 _) hp2 _ _ _ _⟩
    | some x =>
      obtain ⟨l, t⟩ := x
      have HOB := hidM (hob l t rfl)
      replace HL : Hid (∀ u, Keeps W3 u (fun z => z = p) → Rd u p s a er → Calls Tryz.prog 64 #[.pointer (some ⟨p, 0, none⟩)] u fun e W' => Keeps u W' (fun z => z = p) ∧ e = .returned (.tuple #[.string ⟨l.toArray⟩, .bool true]) ∧ t.length ≤ s.size ∧ t = s.data.toList.drop (s.size - t.length) ∧ Rd W' p s (s.size - t.length) er) := HL
      have HTX : Hid (QF.txtV l = .mk false 0 ⟨l.toArray⟩ []) := rfl
      have HXS : Hid ((⟨l.toArray⟩ : ByteArray).size ≤ 1000000000000) := by show _ ≤ _; rw [ba_len]; have := HOB.out; omega
      show Calls _ _ _ _ (VaA W p s er d (some (QF.txtV l, t)))
      rw [HTX.out]
      clear HTX HOB hob
      generalize (⟨l.toArray⟩ : ByteArray) = xx at *
      go_enter Tryz.func29, Tryz.ntmps29
      go_wp2_with (first | (go_at_call 64; refine (HL.out _ HKN.out HRN.out).mono ?_; rintro e u5 ⟨hk5, rfl, ht1, ht2, hr5⟩; have HK5 := hidM (HKN.out.trans hk5 (fun _ _ h => h)); have hb5 := HKB.out u5 HK5.out; obtain ⟨q0, q1, q2, q3, z0, z1, z2, z3⟩ := blk4 hb5; have HB5 := hidM hb5; have HT := hidM (And.intro ht1 ht2); have HR5 := hidM hr5; clear hk5 hb5 ht1 ht2 hr5; simp only []))
      refine bodyPost_ret (res29 _ (W.heap.size + 1) _ _ _ _ true _ rfl rfl (set4_blk (by have h := heap_setCell_same _ (W.heap.size + 1) 2 _ _ (.string xx) HB5.out; simpa using h) _ _ _ _)) rfl ?_
      exact ⟨set4_kp (kp_new (HLW.out u5 HK5.out) (by omega) _) (by omega) _ _ _ _, ⟨_, rfl, none, 0, rfl, Nat.le_refl 0, ⟨by show is64 0; decide, HXS.out⟩, vrow_nil _ _ _ _⟩, HT.out.1, HT.out.2, set4_rd (HR5.out.oth hp2 _) hp2 _ _ _ _⟩
  | true =>
    obtain rfl := hnul rfl
    cases o with
    | none =>
      replace HL : Hid (∀ u, Keeps W3 u (fun z => z = p) → Rd u p s a er → Calls Tryz.prog 64 #[.pointer (some ⟨p, 0, none⟩)] u fun e W' => Keeps u W' (fun z => z = p) ∧ e = .returned (.tuple #[.string ⟨#[]⟩, .bool false]) ∧ Bad W' p s) := HL
      go_enter Tryz.func29, Tryz.ntmps29
      go_wp2_with (first | (go_at_call 64; refine (HL.out _ HKN.out HRN.out).mono ?_; rintro e u5 ⟨hk5, rfl, hbad⟩; have HK5 := hidM (HKN.out.trans hk5 (fun _ _ h => h)); have hb5 := HKB.out u5 HK5.out; obtain ⟨q0, q1, q2, q3, z0, z1, z2, z3⟩ := blk4 hb5; have HB5 := hidM hb5; have HBAD := hidM hbad; clear hk5 hb5 hbad; simp only []) | (go_at_call 62; refine (HNU.out _ HR3.out).mono ?_; rintro e uN ⟨rfl, hgN⟩; have HKN : Hid (Keeps W3 uN (fun z => z = p)) := gr_kp hgN; have HRN := hidM (HR3.out.gr hgN); obtain ⟨k0, k1, k2, k3, k4⟩ := blk5 (HTB.out uN HKN.out); clear hgN; simp only []))
      refine bodyPost_ret (res29 _ (W.heap.size + 1) _ _ _ _ false _ rfl rfl (set4_blk (by have h := heap_setCell_same _ (W.heap.size + 1) 2 _ _ (.string ⟨#[]⟩) HB5.out; simpa using h) _ _ _ _)) rfl ?_
      obtain ⟨ba, be, hne, hbr⟩ := HBAD.out
      exact ⟨set4_kp (kp_new (HLW.out u5 HK5.out) (by omega) _) (by omega) _ _ _ _, ⟨_, rfl, _, _, _, _, _, _, rfl⟩, ba, be, hne, set4_rd (hbr.oth hp2 _) hp2 _ _ _ _⟩
    | some x =>
      obtain ⟨l, t⟩ := x
      have HOB := hidM (hob l t rfl)
      replace HL : Hid (∀ u, Keeps W3 u (fun z => z = p) → Rd u p s a er → Calls Tryz.prog 64 #[.pointer (some ⟨p, 0, none⟩)] u fun e W' => Keeps u W' (fun z => z = p) ∧ e = .returned (.tuple #[.string ⟨l.toArray⟩, .bool true]) ∧ t.length ≤ s.size ∧ t = s.data.toList.drop (s.size - t.length) ∧ Rd W' p s (s.size - t.length) er) := HL
      have HTX : Hid (QF.txtV l = .mk false 0 ⟨l.toArray⟩ []) := rfl
      have HXS : Hid ((⟨l.toArray⟩ : ByteArray).size ≤ 1000000000000) := by show _ ≤ _; rw [ba_len]; have := HOB.out; omega
      show Calls _ _ _ _ (VaA W p s er d (some (QF.txtV l, t)))
      rw [HTX.out]
      clear HTX HOB hob
      generalize (⟨l.toArray⟩ : ByteArray) = xx at *
      go_enter Tryz.func29, Tryz.ntmps29
      go_wp2_with (first | (go_at_call 64; refine (HL.out _ HKN.out HRN.out).mono ?_; rintro e u5 ⟨hk5, rfl, ht1, ht2, hr5⟩; have HK5 := hidM (HKN.out.trans hk5 (fun _ _ h => h)); have hb5 := HKB.out u5 HK5.out; obtain ⟨q0, q1, q2, q3, z0, z1, z2, z3⟩ := blk4 hb5; have HB5 := hidM hb5; have HT := hidM (And.intro ht1 ht2); have HR5 := hidM hr5; clear hk5 hb5 ht1 ht2 hr5; simp only []) | (go_at_call 62; refine (HNU.out _ HR3.out).mono ?_; rintro e uN ⟨rfl, hgN⟩; have HKN : Hid (Keeps W3 uN (fun z => z = p)) := gr_kp hgN; have HRN := hidM (HR3.out.gr hgN); obtain ⟨k0, k1, k2, k3, k4⟩ := blk5 (HTB.out uN HKN.out); clear hgN; simp only []))
      refine bodyPost_ret (res29 _ (W.heap.size + 1) _ _ _ _ true _ rfl rfl (set4_blk (by have h := heap_setCell_same _ (W.heap.size + 1) 2 _ _ (.string xx) HB5.out; simpa using h) _ _ _ _)) rfl ?_
      exact ⟨set4_kp (kp_new (HLW.out u5 HK5.out) (by omega) _) (by omega) _ _ _ _, ⟨_, rfl, none, 0, rfl, Nat.le_refl 0, ⟨by show is64 0; decide, HXS.out⟩, vrow_nil _ _ _ _⟩, HT.out.1, HT.out.2, set4_rd (HR5.out.oth hp2 _) hp2 _ _ _ _⟩
theorem v29_fixed (p : Nat) (s : ByteArray) (W : World) (a d : Nat) (er : Int) (f0 : ByteArray) (f1 : Bool) (f3 f4 f5 : Int) (fo : Option Addr) (fn fc : Nat) (hR : Rd W p s a er) (hnul : f1 = true → QB.isNullB (s.data.toList.drop a) = false) (o : Option (List UInt8 × List UInt8)) (hob : ∀ l t, o = some (l, t) → l.length ≤ 65536)
    (hL : ∀ u, Keeps W u (fun z => z = p) → Rd u p s a er → Calls Tryz.prog 65 #[.pointer (some ⟨p, 0, none⟩), .int .i64 f3] u (TxA u p s er o)) :
    Calls Tryz.prog 29 #[.pointer (some ⟨p, 0, none⟩), .agg #[.string f0, .bool f1, .int .i64 14, .int .i64 f3, .int .i64 f4, .int .i64 f5, .slice fo fn fc]] W (VaA W p s er d (o.map fun x => (QF.txtV x.1, x.2))) := by
  obtain ⟨W3, hW3⟩ : ∃ W3, (((W.alloc (.cells #[.string f0, .bool f1, .int .i64 14, .int .i64 f3, .int .i64 f4, .int .i64 f5, .slice fo fn fc] 26)).alloc (.cells #[.bool false, .int .i64 0, .string ⟨#[]⟩, .slice none 0 0] 29)).alloc (.cells #[.int .i64 14, .int .i64 f3, .int .i64 f4, .int .i64 f5, .slice fo fn fc] 24)) = W3 := ⟨_, rfl⟩
  have hG : Gr W W3 := by rw [← hW3]; exact gr3 W _ _ _
  obtain ⟨hb1, hb0, hb2⟩ := al3 W (.cells #[.string f0, .bool f1, .int .i64 14, .int .i64 f3, .int .i64 f4, .int .i64 f5, .slice fo fn fc] 26) (.cells #[.bool false, .int .i64 0, .string ⟨#[]⟩, .slice none 0 0] 29) (.cells #[.int .i64 14, .int .i64 f3, .int .i64 f4, .int .i64 f5, .slice fo fn fc] 24)
  rw [hW3] at hb1 hb0 hb2
  have hLT := hR.lt
  have hp1 : p ≠ W.heap.size := by omega
  have hp2 : p ≠ W.heap.size + 1 := by omega
  have hp3 : p ≠ W.heap.size + 1 + 1 := by omega
  have HKB : Hid (∀ u, Keeps W3 u (fun z => z = p) → u.heap[W.heap.size + 1]? = some (.cells #[.bool false, .int .i64 0, .string ⟨#[]⟩, .slice none 0 0] 29)) := fun u hk => (hk.block _ (lt_of_heap hb0) (fun e => hp2 e.symm)).trans hb0
  have HTB : Hid (∀ u, Keeps W3 u (fun z => z = p) → u.heap[W.heap.size + 1 + 1]? = some (.cells #[.int .i64 14, .int .i64 f3, .int .i64 f4, .int .i64 f5, .slice fo fn fc] 24)) := fun u hk => (hk.block _ (lt_of_heap hb2) (fun e => hp3 e.symm)).trans hb2
  have HR3 := hidM (hR.gr hG)
  have HG := hidM hG
  have HLW : Hid (∀ u, Keeps W3 u (fun z => z = p) → Keeps W u (fun z => z = p)) := fun u hk => (gr_kp hG).trans hk (fun _ _ h => h)
  obtain ⟨nb, hnb⟩ : ∃ nb, QB.isNullB (s.data.toList.drop a) = nb := ⟨_, rfl⟩
  have HNU : Hid (∀ u, Rd u p s a er → Calls Tryz.prog 62 #[.pointer (some ⟨p, 0, none⟩)] u fun e W' => e = .returned (.bool nb) ∧ Gr u W') := fun u h => by rw [← hnb]; exact isNull62 p s u a er h
  rw [hnb] at hnul
  have hK3 : Keeps W3 W3 (fun z => z = p) := Keeps.refl _ _
  have HK3 := hidM hK3
  have e1 : W3.cell? ⟨W.heap.size, 1, none⟩ = some (.bool f1) := by simp [World.cell?, hb1]
  have t0 : W3.cell? ⟨W.heap.size, 2, none⟩ = some (.int .i64 14) := by simp [World.cell?, hb1]
  have t1 : W3.cell? ⟨W.heap.size, 3, none⟩ = some (.int .i64 f3) := by simp [World.cell?, hb1]
  have t2 : W3.cell? ⟨W.heap.size, 4, none⟩ = some (.int .i64 f4) := by simp [World.cell?, hb1]
  have t3 : W3.cell? ⟨W.heap.size, 5, none⟩ = some (.int .i64 f5) := by simp [World.cell?, hb1]
  have t4 : W3.cell? ⟨W.heap.size, 6, none⟩ = some (.slice fo fn fc) := by simp [World.cell?, hb1]
  obtain ⟨k0, k1, k2, k3, k4⟩ := blk5 hb2
  clear hb1 hb0 hb2 hG hLT hK3 hnb
  have HL : Hid (∀ u, Keeps W3 u (fun z => z = p) → Rd u p s a er → Calls Tryz.prog 65 #[.pointer (some ⟨p, 0, none⟩), .int .i64 f3] u (TxA u p s er o)) := fun u hk hr => hL u (HLW.out u hk) hr
  clear hL hR
  cases f1 with
  | false =>
    have HKN := hidM HK3.out
    have HRN := hidM HR3.out
    cases o with
    | none =>
      replace HL : Hid (∀ u, Keeps W3 u (fun z => z = p) → Rd u p s a er → Calls Tryz.prog 65 #[.pointer (some ⟨p, 0, none⟩), .int .i64 f3] u fun e W' => Keeps u W' (fun z => z = p) ∧ e = .returned (.tuple #[.string ⟨#[]⟩, .bool false]) ∧ Bad W' p s) := HL
      go_enter Tryz.func29, Tryz.ntmps29
      go_wp2_with (first | (go_at_call 65; refine (HL.out _ HKN.out HRN.out).mono ?_; rintro e u5 ⟨hk5, rfl, hbad⟩; have HK5 := hidM (HKN.out.trans hk5 (fun _ _ h => h)); have hb5 := HKB.out u5 HK5.out; obtain ⟨q0, q1, q2, q3, z0, z1, z2, z3⟩ := blk4 hb5; have HB5 := hidM hb5; have HBAD := hidM hbad; clear hk5 hb5 hbad; simp only []))
      refine bodyPost_ret (res29 _ (W.heap.size + 1) _ _ _ _ false _ rfl rfl (set4_blk (by have h := heap_setCell_same _ (W.heap.size + 1) 2 _ _ (.string ⟨#[]⟩) HB5.out; simpa using h) _ _ _ _)) rfl ?_
      obtain ⟨ba, be, hne, hbr⟩ := HBAD.out
      exact ⟨set4_kp (kp_new (HLW.out u5 HK5.out) (by omega) _) (by omega) _ _ _ _, ⟨_, rfl, _, _, _, _, _, _, rfl⟩, ba, be, hne, set4_rd (hbr.oth hp2 _) hp2 _ _ _ _⟩
    | some x =>
      obtain ⟨l, t⟩ := x
      have HOB := hidM (hob l t rfl)
      replace HL : Hid (∀ u, Keeps W3 u (fun z => z = p) → Rd u p s a er → Calls Tryz.prog 65 #[.pointer (some ⟨p, 0, none⟩), .int .i64 f3] u fun e W' => Keeps u W' (fun z => z = p) ∧ e = .returned (.tuple #[.string ⟨l.toArray⟩, .bool true]) ∧ t.length ≤ s.size ∧ t = s.data.toList.drop (s.size - t.length) ∧ Rd W' p s (s.size - t.length) er) := HL
      have HTX : Hid (QF.txtV l = .mk false 0 ⟨l.toArray⟩ []) := rfl
      have HXS : Hid ((⟨l.toArray⟩ : ByteArray).size ≤ 1000000000000) := by show _ ≤ _; rw [ba_len]; have := HOB.out; omega
      show Calls _ _ _ _ (VaA W p s er d (some (QF.txtV l, t)))
      rw [HTX.out]
      clear HTX HOB hob
      generalize (⟨l.toArray⟩ : ByteArray) = xx at *
      go_enter Tryz.func29, Tryz.ntmps29
      go_wp2_with (first | (go_at_call 65; refine (HL.out _ HKN.out HRN.out).mono ?_; rintro e u5 ⟨hk5, rfl, ht1, ht2, hr5⟩; have HK5 := hidM (HKN.out.trans hk5 (fun _ _ h => h)); have hb5 := HKB.out u5 HK5.out; obtain ⟨q0, q1, q2, q3, z0, z1, z2, z3⟩ := blk4 hb5; have HB5 := hidM hb5; have HT := hidM (And.intro ht1 ht2); have HR5 := hidM hr5; clear hk5 hb5 ht1 ht2 hr5; simp only []))
      refine bodyPost_ret (res29 _ (W.heap.size + 1) _ _ _ _ true _ rfl rfl (set4_blk (by have h := heap_setCell_same _ (W.heap.size + 1) 2 _ _ (.string xx) HB5.out; simpa using h) _ _ _ _)) rfl ?_
      exact ⟨set4_kp (kp_new (HLW.out u5 HK5.out) (by omega) _) (by omega) _ _ _ _, ⟨_, rfl, none, 0, rfl, Nat.le_refl 0, ⟨by show is64 0; decide, HXS.out⟩, vrow_nil _ _ _ _⟩, HT.out.1, HT.out.2, set4_rd (HR5.out.oth hp2 _) hp2 _ _ _ _⟩
  | true =>
    obtain rfl := hnul rfl
    cases o with
    | none =>
      replace HL : Hid (∀ u, Keeps W3 u (fun z => z = p) → Rd u p s a er → Calls Tryz.prog 65 #[.pointer (some ⟨p, 0, none⟩), .int .i64 f3] u fun e W' => Keeps u W' (fun z => z = p) ∧ e = .returned (.tuple #[.string ⟨#[]⟩, .bool false]) ∧ Bad W' p s) := HL
      go_enter Tryz.func29, Tryz.ntmps29
      go_wp2_with (first | (go_at_call 65; refine (HL.out _ HKN.out HRN.out).mono ?_; rintro e u5 ⟨hk5, rfl, hbad⟩; have HK5 := hidM (HKN.out.trans hk5 (fun _ _ h => h)); have hb5 := HKB.out u5 HK5.out; obtain ⟨q0, q1, q2, q3, z0, z1, z2, z3⟩ := blk4 hb5; have HB5 := hidM hb5; have HBAD := hidM hbad; clear hk5 hb5 hbad; simp only []) | (go_at_call 62; refine (HNU.out _ HR3.out).mono ?_; rintro e uN ⟨rfl, hgN⟩; have HKN : Hid (Keeps W3 uN (fun z => z = p)) := gr_kp hgN; have HRN := hidM (HR3.out.gr hgN); obtain ⟨k0, k1, k2, k3, k4⟩ := blk5 (HTB.out uN HKN.out); clear hgN; simp only []))
      refine bodyPost_ret (res29 _ (W.heap.size + 1) _ _ _ _ false _ rfl rfl (set4_blk (by have h := heap_setCell_same _ (W.heap.size + 1) 2 _ _ (.string ⟨#[]⟩) HB5.out; simpa using h) _ _ _ _)) rfl ?_
      obtain ⟨ba, be, hne, hbr⟩ := HBAD.out
      exact ⟨set4_kp (kp_new (HLW.out u5 HK5.out) (by omega) _) (by omega) _ _ _ _, ⟨_, rfl, _, _, _, _, _, _, rfl⟩, ba, be, hne, set4_rd (hbr.oth hp2 _) hp2 _ _ _ _⟩
    | some x =>
      obtain ⟨l, t⟩ := x
      have HOB := hidM (hob l t rfl)
      replace HL : Hid (∀ u, Keeps W3 u (fun z => z = p) → Rd u p s a er → Calls Tryz.prog 65 #[.pointer (some ⟨p, 0, none⟩), .int .i64 f3] u fun e W' => Keeps u W' (fun z => z = p) ∧ e = .returned (.tuple #[.string ⟨l.toArray⟩, .bool true]) ∧ t.length ≤ s.size ∧ t = s.data.toList.drop (s.size - t.length) ∧ Rd W' p s (s.size - t.length) er) := HL
      have HTX : Hid (QF.txtV l = .mk false 0 ⟨l.toArray⟩ []) := rfl
      have HXS : Hid ((⟨l.toArray⟩ : ByteArray).size ≤ 1000000000000) := by show _ ≤ _; rw [ba_len]; have := HOB.out; omega
      show Calls _ _ _ _ (VaA W p s er d (some (QF.txtV l, t)))
      rw [HTX.out]
      clear HTX HOB hob
      generalize (⟨l.toArray⟩ : ByteArray) = xx at *
      go_enter Tryz.func29, Tryz.ntmps29
      go_wp2_with (first | (go_at_call 65; refine (HL.out _ HKN.out HRN.out).mono ?_; rintro e u5 ⟨hk5, rfl, ht1, ht2, hr5⟩; have HK5 := hidM (HKN.out.trans hk5 (fun _ _ h => h)); have hb5 := HKB.out u5 HK5.out; obtain ⟨q0, q1, q2, q3, z0, z1, z2, z3⟩ := blk4 hb5; have HB5 := hidM hb5; have HT := hidM (And.intro ht1 ht2); have HR5 := hidM hr5; clear hk5 hb5 ht1 ht2 hr5; simp only []) | (go_at_call 62; refine (HNU.out _ HR3.out).mono ?_; rintro e uN ⟨rfl, hgN⟩; have HKN : Hid (Keeps W3 uN (fun z => z = p)) := gr_kp hgN; have HRN := hidM (HR3.out.gr hgN); obtain ⟨k0, k1, k2, k3, k4⟩ := blk5 (HTB.out uN HKN.out); clear hgN; simp only []))
      refine bodyPost_ret (res29 _ (W.heap.size + 1) _ _ _ _ true _ rfl rfl (set4_blk (by have h := heap_setCell_same _ (W.heap.size + 1) 2 _ _ (.string xx) HB5.out; simpa using h) _ _ _ _)) rfl ?_
      exact ⟨set4_kp (kp_new (HLW.out u5 HK5.out) (by omega) _) (by omega) _ _ _ _, ⟨_, rfl, none, 0, rfl, Nat.le_refl 0, ⟨by show is64 0; decide, HXS.out⟩, vrow_nil _ _ _ _⟩, HT.out.1, HT.out.2, set4_rd (HR5.out.oth hp2 _) hp2 _ _ _ _⟩
end Go.Proofs.YtfoifmacobldbaaGreatDoor.Kit
