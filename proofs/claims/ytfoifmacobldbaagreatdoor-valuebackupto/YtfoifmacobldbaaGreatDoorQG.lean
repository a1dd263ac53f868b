import Derived.Test.YtfoifmacobldbaaGreatDoorTY
import Derived.Test.YtfoifmacobldbaaGreatDoorNB
set_option maxRecDepth 100000
set_option maxHeartbeats 4000000
namespace Go.Proofs.YtfoifmacobldbaaGreatDoor.Kit
open Go.RowKit Go.Shelf Go.Deep
set_option linter.unusedVariables false
set_option linter.unusedSimpArgs false
/-! ### value 29: spans -/
theorem kp_new3 {W w : World} {p b : Nat} (h : Keeps W w (fun z => z = p)) (hb : p ≠ b) (v : Value) : Keeps W (w.setCell ⟨b, 3, none⟩ v) (fun z => z = p ∨ z = b) := (h.mono (fun _ _ e => .inl e)).setCell (p := ⟨b, 3, none⟩) (fun _ => .inr rfl) v
theorem v29_span (p : Nat) (s : ByteArray) (W : World) (a d : Nat) (er : Int) (f0 : ByteArray) (f1 : Bool) (f3 f4 f5 : Int) (fb fO : Nat) (fn fc : Nat) (g : FT) (go : Option Addr) (gc : Nat) (hc : CellsAt W fb fO g go gc) (hfb : fb < W.heap.size ∧ fb ≠ p) (hfn : 1 ≤ fn ∧ fn ≤ fc) (hR : Rd W p s a er) (hnul : f1 = true → QB.isNullB (s.data.toList.drop a) = false) (o : Option (List VT × List UInt8))
    (hL : ∀ u, Keeps W u (fun z => z = p) → Rd u p s a er → Calls Tryz.prog 67 #[.pointer (some ⟨p, 0, none⟩), .int .i64 f3, .agg #[.string g.name, .bool g.nul, .int .i64 g.kind, .int .i64 g.width, .int .i64 g.id, .int .i64 g.index, .slice go g.kids.length gc]] u (LsA u p s er d o)) :
    Calls Tryz.prog 29 #[.pointer (some ⟨p, 0, none⟩), .agg #[.string f0, .bool f1, .int .i64 16, .int .i64 f3, .int .i64 f4, .int .i64 f5, .slice (some ⟨fb, fO, none⟩) fn fc]] W (VaA W p s er (d + 1) (o.map fun x => (QB.listV x.1, x.2))) := by
  obtain ⟨W3, hW3⟩ : ∃ W3, (((W.alloc (.cells #[.string f0, .bool f1, .int .i64 16, .int .i64 f3, .int .i64 f4, .int .i64 f5, .slice (some ⟨fb, fO, none⟩) fn fc] 26)).alloc (.cells #[.bool false, .int .i64 0, .string ⟨#[]⟩, .slice none 0 0] 29)).alloc (.cells #[.int .i64 16, .int .i64 f3, .int .i64 f4, .int .i64 f5, .slice (some ⟨fb, fO, none⟩) fn fc] 24)) = W3 := ⟨_, rfl⟩
  have hG : Gr W W3 := by rw [← hW3]; exact gr3 W _ _ _
  obtain ⟨hb1, hb0, hb2⟩ := al3 W (.cells #[.string f0, .bool f1, .int .i64 16, .int .i64 f3, .int .i64 f4, .int .i64 f5, .slice (some ⟨fb, fO, none⟩) fn fc] 26) (.cells #[.bool false, .int .i64 0, .string ⟨#[]⟩, .slice none 0 0] 29) (.cells #[.int .i64 16, .int .i64 f3, .int .i64 f4, .int .i64 f5, .slice (some ⟨fb, fO, none⟩) fn fc] 24)
  rw [hW3] at hb1 hb0 hb2
  have hLT := hR.lt
  have hp1 : p ≠ W.heap.size := by omega
  have hp2 : p ≠ W.heap.size + 1 := by omega
  have hp3 : p ≠ W.heap.size + 1 + 1 := by omega
  have HKB : Hid (∀ u, Keeps W3 u (fun z => z = p) → u.heap[W.heap.size + 1]? = some (.cells #[.bool false, .int .i64 0, .string ⟨#[]⟩, .slice none 0 0] 29)) := fun u hk => (hk.block _ (lt_of_heap hb0) (fun e => hp2 e.symm)).trans hb0
  have HTB : Hid (∀ u, Keeps W3 u (fun z => z = p) → u.heap[W.heap.size + 1 + 1]? = some (.cells #[.int .i64 16, .int .i64 f3, .int .i64 f4, .int .i64 f5, .slice (some ⟨fb, fO, none⟩) fn fc] 24)) := fun u hk => (hk.block _ (lt_of_heap hb2) (fun e => hp3 e.symm)).trans hb2
  have HR3 := hidM (hR.gr hG)
  have HG := hidM hG
  have HLW : Hid (∀ u, Keeps W3 u (fun z => z = p) → Keeps W u (fun z => z = p)) := fun u hk => (gr_kp hG).trans hk (fun _ _ h => h)
  obtain ⟨nb, hnb⟩ : ∃ nb, QB.isNullB (s.data.toList.drop a) = nb := ⟨_, rfl⟩
  have HNU : Hid (∀ u, Rd u p s a er → Calls Tryz.prog 62 #[.pointer (some ⟨p, 0, none⟩)] u fun e W' => e = .returned (.bool nb) ∧ Gr u W') := fun u h => by rw [← hnb]; exact isNull62 p s u a er h
  rw [hnb] at hnul
  have hK3 : Keeps W3 W3 (fun z => z = p) := Keeps.refl _ _
  have HK3 := hidM hK3
  have e1 : W3.cell? ⟨W.heap.size, 1, none⟩ = some (.bool f1) := by simp [World.cell?, hb1]
  have t0 : W3.cell? ⟨W.heap.size, 2, none⟩ = some (.int .i64 16) := by simp [World.cell?, hb1]
  have t1 : W3.cell? ⟨W.heap.size, 3, none⟩ = some (.int .i64 f3) := by simp [World.cell?, hb1]
  have t2 : W3.cell? ⟨W.heap.size, 4, none⟩ = some (.int .i64 f4) := by simp [World.cell?, hb1]
  have t3 : W3.cell? ⟨W.heap.size, 5, none⟩ = some (.int .i64 f5) := by simp [World.cell?, hb1]
  have t4 : W3.cell? ⟨W.heap.size, 6, none⟩ = some (.slice (some ⟨fb, fO, none⟩) fn fc) := by simp [World.cell?, hb1]
  obtain ⟨k0, k1, k2, k3, k4⟩ := blk5 hb2
  have hb2' := hb2
  clear hb1 hb0 hb2 hLT hK3 hnb
  have HS3 : Hid (W3.heap.size = W.heap.size + 1 + 1 + 1) := by show _ = _; rw [← hW3]; simp
  have HL : Hid (∀ u, Keeps W3 u (fun z => z = p) → Rd u p s a er → Calls Tryz.prog 67 #[.pointer (some ⟨p, 0, none⟩), .int .i64 f3, .agg #[.string g.name, .bool g.nul, .int .i64 g.kind, .int .i64 g.width, .int .i64 g.id, .int .i64 g.index, .slice go g.kids.length gc]] u (LsA u p s er d o)) := fun u hk hr => hL u (HLW.out u hk) hr
  have HSW : Hid (∀ u, Keeps W3 u (fun z => z = p ∨ z = W.heap.size + 1) → u.cell? ⟨W.heap.size + 1 + 1, 1, none⟩ = some (.int .i64 f3) ∧ u.cell? ⟨W.heap.size + 1 + 1, 4, none⟩ = some (.slice (some ⟨fb, fO, none⟩) fn fc) ∧ u.cell? ⟨fb, fO, none⟩ = some (.string g.name) ∧ u.cell? ⟨fb, fO + 1, none⟩ = some (.bool g.nul) ∧ u.cell? ⟨fb, fO + 2, none⟩ = some (.int .i64 g.kind) ∧ u.cell? ⟨fb, fO + 3, none⟩ = some (.int .i64 g.width) ∧ u.cell? ⟨fb, fO + 4, none⟩ = some (.int .i64 g.id) ∧ u.cell? ⟨fb, fO + 5, none⟩ = some (.int .i64 g.index) ∧ u.cell? ⟨fb, fO + 6, none⟩ = some (.slice go g.kids.length gc)) := fun u hk => by
    have h1 := (hk.block _ (lt_of_heap hb2') (fun e => by rcases e with e | e <;> omega)).trans hb2'
    have h2 : u.heap[fb]? = W.heap[fb]? := (hk.block fb (Nat.lt_of_lt_of_le hfb.1 hG.size) (fun e => by rcases e with e | e; exact hfb.2 e; have := hfb.1; omega)).trans (hG.block fb hfb.1 id)
    obtain ⟨g0, g1, g2, g3, g4, g5, g6⟩ := hc.kept h2
    obtain ⟨-, k1, -, -, k4⟩ := blk5 h1
    exact ⟨k1, k4, g0, g1, g2, g3, g4, g5, g6⟩
  have hfnI : (0 : Int) < (fn : Int) := by omega
  have hfnN : 0 < fn := by omega
  have hfcI : (fn : Int) ≤ (fc : Int) := by omega
  clear hL hR hc hfb hfn hG hb2'
  cases f1 with
  | false =>
    have HKN := hidM HK3.out
    have HRN := hidM HR3.out
    have HSN := hidM (HSW.out W3.drew ((HKN.out.trans (gr_kp gr_drew) (fun _ _ h => h)).mono (fun _ _ e => .inl e)))
    cases o with
    | none =>
      replace HL : Hid (∀ u, Keeps W3 u (fun z => z = p) → Rd u p s a er → Calls Tryz.prog 67 #[.pointer (some ⟨p, 0, none⟩), .int .i64 f3, .agg #[.string g.name, .bool g.nul, .int .i64 g.kind, .int .i64 g.width, .int .i64 g.id, .int .i64 g.index, .slice go g.kids.length gc]] u fun e W' => Keeps u W' (fun z => z = p) ∧ (∃ vo n vc, e = .returned (.tuple #[.slice vo n vc, .bool false])) ∧ Bad W' p s) := HL
      go_enter Tryz.func29, Tryz.ntmps29
      go_wp2_with fail
      have HKD : Hid (Keeps W3 W3.drew (fun z => z = p)) := HKN.out.trans (gr_kp gr_drew) (fun _ _ h => h)
      have HRD := hidM (HRN.out.gr gr_drew)
      go_region_held3 (fun w' => w'.cell? ⟨W.heap.size + 1 + 1, 1, none⟩ = some (.int .i64 f3) ∧ w'.cell? ⟨W.heap.size + 1 + 1, 4, none⟩ = some (.slice (some ⟨fb, fO, none⟩) fn fc) ∧ w'.cell? ⟨fb, fO, none⟩ = some (.string g.name) ∧ w'.cell? ⟨fb, fO + 1, none⟩ = some (.bool g.nul) ∧ w'.cell? ⟨fb, fO + 2, none⟩ = some (.int .i64 g.kind) ∧ w'.cell? ⟨fb, fO + 3, none⟩ = some (.int .i64 g.width) ∧ w'.cell? ⟨fb, fO + 4, none⟩ = some (.int .i64 g.id) ∧ w'.cell? ⟨fb, fO + 5, none⟩ = some (.int .i64 g.index) ∧ w'.cell? ⟨fb, fO + 6, none⟩ = some (.slice go g.kids.length gc)) (first | with_reducible exact HS6.out | with_reducible exact HS5.out | with_reducible exact HSN.out) ((go_at_call 67; refine Calls.mono (HL.out _ HKD.out HRD.out) ?_; rintro e u5 ⟨hk5, ⟨vo, n, vc, rfl⟩, hbad⟩; have HK5 := hidM (HKD.out.trans hk5 (fun _ _ h => h)); have hb5 := HKB.out u5 HK5.out; obtain ⟨q0, q1, q2, q3, z0, z1, z2, z3⟩ := blk4 hb5; have HB5 := hidM hb5; have HS5 := hidM (HSW.out u5 (HK5.out.mono (fun _ _ e => .inl e))); have HS6 : Hid ((u5.setCell ⟨W.heap.size + 1, 3, none⟩ (.slice vo n vc)).cell? ⟨W.heap.size + 1 + 1, 1, none⟩ = some (.int .i64 f3) ∧ (u5.setCell ⟨W.heap.size + 1, 3, none⟩ (.slice vo n vc)).cell? ⟨W.heap.size + 1 + 1, 4, none⟩ = some (.slice (some ⟨fb, fO, none⟩) fn fc) ∧ (u5.setCell ⟨W.heap.size + 1, 3, none⟩ (.slice vo n vc)).cell? ⟨fb, fO, none⟩ = some (.string g.name) ∧ (u5.setCell ⟨W.heap.size + 1, 3, none⟩ (.slice vo n vc)).cell? ⟨fb, fO + 1, none⟩ = some (.bool g.nul) ∧ (u5.setCell ⟨W.heap.size + 1, 3, none⟩ (.slice vo n vc)).cell? ⟨fb, fO + 2, none⟩ = some (.int .i64 g.kind) ∧ (u5.setCell ⟨W.heap.size + 1, 3, none⟩ (.slice vo n vc)).cell? ⟨fb, fO + 3, none⟩ = some (.int .i64 g.width) ∧ (u5.setCell ⟨W.heap.size + 1, 3, none⟩ (.slice vo n vc)).cell? ⟨fb, fO + 4, none⟩ = some (.int .i64 g.id) ∧ (u5.setCell ⟨W.heap.size + 1, 3, none⟩ (.slice vo n vc)).cell? ⟨fb, fO + 5, none⟩ = some (.int .i64 g.index) ∧ (u5.setCell ⟨W.heap.size + 1, 3, none⟩ (.slice vo n vc)).cell? ⟨fb, fO + 6, none⟩ = some (.slice go g.kids.length gc)) := hidM (HSW.out (u5.setCell ⟨W.heap.size + 1, 3, none⟩ (.slice vo n vc)) (kp_new3 HK5.out hp2 _)); have HBAD := hidM hbad; clear hk5 hb5 hbad))
      go_wp2_with fail
      refine bodyPost_ret (res29 _ (W.heap.size + 1) _ _ _ _ false _ rfl rfl (set4_blk (by have h := heap_setCell_same _ (W.heap.size + 1) 3 _ _ (.slice vo n vc) HB5.out; simpa using h) _ _ _ _)) rfl ?_
      obtain ⟨ba, be, hne, hbr⟩ := HBAD.out
      exact ⟨set4_kp (kp_new (HLW.out u5 HK5.out) (by omega) _) (by omega) _ _ _ _, ⟨_, rfl, _, _, _, _, _, _, rfl⟩, ba, be, hne, set4_rd (hbr.oth hp2 _) hp2 _ _ _ _⟩
    | some x =>
      obtain ⟨l, t⟩ := x
      replace HL : Hid (∀ u, Keeps W3 u (fun z => z = p) → Rd u p s a er → Calls Tryz.prog 67 #[.pointer (some ⟨p, 0, none⟩), .int .i64 f3, .agg #[.string g.name, .bool g.nul, .int .i64 g.kind, .int .i64 g.width, .int .i64 g.id, .int .i64 g.index, .slice go g.kids.length gc]] u fun e W' => Keeps u W' (fun z => z = p) ∧ (∃ vo vc, e = .returned (.tuple #[.slice vo l.length vc, .bool true]) ∧ l.length ≤ vc ∧ VRow (NV u W') W' (d + 1) vo l) ∧ t.length ≤ s.size ∧ t = s.data.toList.drop (s.size - t.length) ∧ Rd W' p s (s.size - t.length) er) := HL
      show Calls _ _ _ _ (VaA W p s er (d + 1) (some (QB.listV l, t)))
      go_enter Tryz.func29, Tryz.ntmps29
      go_wp2_with fail
      have HKD : Hid (Keeps W3 W3.drew (fun z => z = p)) := HKN.out.trans (gr_kp gr_drew) (fun _ _ h => h)
      have HRD := hidM (HRN.out.gr gr_drew)
      go_region_held3 (fun w' => w'.cell? ⟨W.heap.size + 1 + 1, 1, none⟩ = some (.int .i64 f3) ∧ w'.cell? ⟨W.heap.size + 1 + 1, 4, none⟩ = some (.slice (some ⟨fb, fO, none⟩) fn fc) ∧ w'.cell? ⟨fb, fO, none⟩ = some (.string g.name) ∧ w'.cell? ⟨fb, fO + 1, none⟩ = some (.bool g.nul) ∧ w'.cell? ⟨fb, fO + 2, none⟩ = some (.int .i64 g.kind) ∧ w'.cell? ⟨fb, fO + 3, none⟩ = some (.int .i64 g.width) ∧ w'.cell? ⟨fb, fO + 4, none⟩ = some (.int .i64 g.id) ∧ w'.cell? ⟨fb, fO + 5, none⟩ = some (.int .i64 g.index) ∧ w'.cell? ⟨fb, fO + 6, none⟩ = some (.slice go g.kids.length gc)) (first | with_reducible exact HS6.out | with_reducible exact HS5.out | with_reducible exact HSN.out) ((go_at_call 67; refine Calls.mono (HL.out _ HKD.out HRD.out) ?_; rintro e u5 ⟨hk5, ⟨vo, vc, rfl, hvc, hrow⟩, ht1, ht2, hr5⟩; have HK5 := hidM (HKD.out.trans hk5 (fun _ _ h => h)); have hb5 := HKB.out u5 HK5.out; obtain ⟨q0, q1, q2, q3, z0, z1, z2, z3⟩ := blk4 hb5; have HB5 := hidM hb5; have HS5 := hidM (HSW.out u5 (HK5.out.mono (fun _ _ e => .inl e))); have HS6 : Hid ((u5.setCell ⟨W.heap.size + 1, 3, none⟩ (.slice vo l.length vc)).cell? ⟨W.heap.size + 1 + 1, 1, none⟩ = some (.int .i64 f3) ∧ (u5.setCell ⟨W.heap.size + 1, 3, none⟩ (.slice vo l.length vc)).cell? ⟨W.heap.size + 1 + 1, 4, none⟩ = some (.slice (some ⟨fb, fO, none⟩) fn fc) ∧ (u5.setCell ⟨W.heap.size + 1, 3, none⟩ (.slice vo l.length vc)).cell? ⟨fb, fO, none⟩ = some (.string g.name) ∧ (u5.setCell ⟨W.heap.size + 1, 3, none⟩ (.slice vo l.length vc)).cell? ⟨fb, fO + 1, none⟩ = some (.bool g.nul) ∧ (u5.setCell ⟨W.heap.size + 1, 3, none⟩ (.slice vo l.length vc)).cell? ⟨fb, fO + 2, none⟩ = some (.int .i64 g.kind) ∧ (u5.setCell ⟨W.heap.size + 1, 3, none⟩ (.slice vo l.length vc)).cell? ⟨fb, fO + 3, none⟩ = some (.int .i64 g.width) ∧ (u5.setCell ⟨W.heap.size + 1, 3, none⟩ (.slice vo l.length vc)).cell? ⟨fb, fO + 4, none⟩ = some (.int .i64 g.id) ∧ (u5.setCell ⟨W.heap.size + 1, 3, none⟩ (.slice vo l.length vc)).cell? ⟨fb, fO + 5, none⟩ = some (.int .i64 g.index) ∧ (u5.setCell ⟨W.heap.size + 1, 3, none⟩ (.slice vo l.length vc)).cell? ⟨fb, fO + 6, none⟩ = some (.slice go g.kids.length gc)) := hidM (HSW.out (u5.setCell ⟨W.heap.size + 1, 3, none⟩ (.slice vo l.length vc)) (kp_new3 HK5.out hp2 _)); have HT := hidM (And.intro ht1 ht2); have HR5 := hidM hr5; have HV := hidM (And.intro hvc hrow); have HSZ := hidM HKD.out.size; clear hk5 hb5 ht1 ht2 hr5 hvc hrow))
      go_wp2_with fail
      refine bodyPost_ret (res29 _ (W.heap.size + 1) _ _ _ _ true _ rfl rfl (set4_blk (by have h := heap_setCell_same _ (W.heap.size + 1) 3 _ _ (.slice vo l.length vc) HB5.out; simpa using h) _ _ _ _)) rfl ?_
      refine ⟨set4_kp (kp_new (HLW.out u5 HK5.out) (by omega) _) (by omega) _ _ _ _, ⟨_, rfl, vo, vc, rfl, HV.out.1, ⟨by show is64 0; decide, by show (0 : Nat) ≤ _; omega⟩, ?_⟩, HT.out.1, HT.out.2, set4_rd (HR5.out.oth hp2 _) hp2 _ _ _ _⟩
      have h3 := HS3.out
      have h5 := HSZ.out
      have hk := HV.out.2.kept (W' := set4 (u5.setCell ⟨W.heap.size + 1, 3, none⟩ (.slice vo l.length vc)) (W.heap.size + 1) (.bool false) (.int .i64 0) (.string ⟨#[]⟩) (.slice vo l.length vc)) (fun b hb => (set4_oth (fun e => by have := hb.1; omega) _ _ _ _).trans (heap_setCell_other _ _ _ _ (fun e => by have h1 := hb.1; have e' : b = W.heap.size + 1 := e; omega)))
      exact hk.mono fun b hb => ⟨by have := hb.1; omega, Nat.lt_of_lt_of_le hb.2 (Nat.le_of_eq ((set4_size (u5.setCell ⟨W.heap.size + 1, 3, none⟩ (.slice vo l.length vc)) (W.heap.size + 1) _ _ _ _).trans (by simp [World.setCell])).symm)⟩
  | true =>
    obtain rfl := hnul rfl
    cases o with
    | none =>
      replace HL : Hid (∀ u, Keeps W3 u (fun z => z = p) → Rd u p s a er → Calls Tryz.prog 67 #[.pointer (some ⟨p, 0, none⟩), .int .i64 f3, .agg #[.string g.name, .bool g.nul, .int .i64 g.kind, .int .i64 g.width, .int .i64 g.id, .int .i64 g.index, .slice go g.kids.length gc]] u fun e W' => Keeps u W' (fun z => z = p) ∧ (∃ vo n vc, e = .returned (.tuple #[.slice vo n vc, .bool false])) ∧ Bad W' p s) := HL
      go_enter Tryz.func29, Tryz.ntmps29
      go_wp2_with (go_at_call 62; refine (HNU.out _ HR3.out).mono ?_; rintro e uN ⟨rfl, hgN⟩; have HKN : Hid (Keeps W3 uN (fun z => z = p)) := gr_kp hgN; have HRN := hidM (HR3.out.gr hgN); obtain ⟨k0, k1, k2, k3, k4⟩ := blk5 (HTB.out uN HKN.out); have HSN := hidM (HSW.out uN.drew ((HKN.out.trans (gr_kp gr_drew) (fun _ _ h => h)).mono (fun _ _ e => .inl e))); clear hgN; simp only [])
      have HKD : Hid (Keeps W3 uN.drew (fun z => z = p)) := HKN.out.trans (gr_kp gr_drew) (fun _ _ h => h)
      have HRD := hidM (HRN.out.gr gr_drew)
      go_region_held3 (fun w' => w'.cell? ⟨W.heap.size + 1 + 1, 1, none⟩ = some (.int .i64 f3) ∧ w'.cell? ⟨W.heap.size + 1 + 1, 4, none⟩ = some (.slice (some ⟨fb, fO, none⟩) fn fc) ∧ w'.cell? ⟨fb, fO, none⟩ = some (.string g.name) ∧ w'.cell? ⟨fb, fO + 1, none⟩ = some (.bool g.nul) ∧ w'.cell? ⟨fb, fO + 2, none⟩ = some (.int .i64 g.kind) ∧ w'.cell? ⟨fb, fO + 3, none⟩ = some (.int .i64 g.width) ∧ w'.cell? ⟨fb, fO + 4, none⟩ = some (.int .i64 g.id) ∧ w'.cell? ⟨fb, fO + 5, none⟩ = some (.int .i64 g.index) ∧ w'.cell? ⟨fb, fO + 6, none⟩ = some (.slice go g.kids.length gc)) (first | with_reducible exact HS6.out | with_reducible exact HS5.out | with_reducible exact HSN.out) ((go_at_call 67; refine Calls.mono (HL.out _ HKD.out HRD.out) ?_; rintro e u5 ⟨hk5, ⟨vo, n, vc, rfl⟩, hbad⟩; have HK5 := hidM (HKD.out.trans hk5 (fun _ _ h => h)); have hb5 := HKB.out u5 HK5.out; obtain ⟨q0, q1, q2, q3, z0, z1, z2, z3⟩ := blk4 hb5; have HB5 := hidM hb5; have HS5 := hidM (HSW.out u5 (HK5.out.mono (fun _ _ e => .inl e))); have HS6 : Hid ((u5.setCell ⟨W.heap.size + 1, 3, none⟩ (.slice vo n vc)).cell? ⟨W.heap.size + 1 + 1, 1, none⟩ = some (.int .i64 f3) ∧ (u5.setCell ⟨W.heap.size + 1, 3, none⟩ (.slice vo n vc)).cell? ⟨W.heap.size + 1 + 1, 4, none⟩ = some (.slice (some ⟨fb, fO, none⟩) fn fc) ∧ (u5.setCell ⟨W.heap.size + 1, 3, none⟩ (.slice vo n vc)).cell? ⟨fb, fO, none⟩ = some (.string g.name) ∧ (u5.setCell ⟨W.heap.size + 1, 3, none⟩ (.slice vo n vc)).cell? ⟨fb, fO + 1, none⟩ = some (.bool g.nul) ∧ (u5.setCell ⟨W.heap.size + 1, 3, none⟩ (.slice vo n vc)).cell? ⟨fb, fO + 2, none⟩ = some (.int .i64 g.kind) ∧ (u5.setCell ⟨W.heap.size + 1, 3, none⟩ (.slice vo n vc)).cell? ⟨fb, fO + 3, none⟩ = some (.int .i64 g.width) ∧ (u5.setCell ⟨W.heap.size + 1, 3, none⟩ (.slice vo n vc)).cell? ⟨fb, fO + 4, none⟩ = some (.int .i64 g.id) ∧ (u5.setCell ⟨W.heap.size + 1, 3, none⟩ (.slice vo n vc)).cell? ⟨fb, fO + 5, none⟩ = some (.int .i64 g.index) ∧ (u5.setCell ⟨W.heap.size + 1, 3, none⟩ (.slice vo n vc)).cell? ⟨fb, fO + 6, none⟩ = some (.slice go g.kids.length gc)) := hidM (HSW.out (u5.setCell ⟨W.heap.size + 1, 3, none⟩ (.slice vo n vc)) (kp_new3 HK5.out hp2 _)); have HBAD := hidM hbad; clear hk5 hb5 hbad))
      go_wp2_with fail
      refine bodyPost_ret (res29 _ (W.heap.size + 1) _ _ _ _ false _ rfl rfl (set4_blk (by have h := heap_setCell_same _ (W.heap.size + 1) 3 _ _ (.slice vo n vc) HB5.out; simpa using h) _ _ _ _)) rfl ?_
      obtain ⟨ba, be, hne, hbr⟩ := HBAD.out
      exact ⟨set4_kp (kp_new (HLW.out u5 HK5.out) (by omega) _) (by omega) _ _ _ _, ⟨_, rfl, _, _, _, _, _, _, rfl⟩, ba, be, hne, set4_rd (hbr.oth hp2 _) hp2 _ _ _ _⟩
    | some x =>
      obtain ⟨l, t⟩ := x
      replace HL : Hid (∀ u, Keeps W3 u (fun z => z = p) → Rd u p s a er → Calls Tryz.prog 67 #[.pointer (some ⟨p, 0, none⟩), .int .i64 f3, .agg #[.string g.name, .bool g.nul, .int .i64 g.kind, .int .i64 g.width, .int .i64 g.id, .int .i64 g.index, .slice go g.kids.length gc]] u fun e W' => Keeps u W' (fun z => z = p) ∧ (∃ vo vc, e = .returned (.tuple #[.slice vo l.length vc, .bool true]) ∧ l.length ≤ vc ∧ VRow (NV u W') W' (d + 1) vo l) ∧ t.length ≤ s.size ∧ t = s.data.toList.drop (s.size - t.length) ∧ Rd W' p s (s.size - t.length) er) := HL
      show Calls _ _ _ _ (VaA W p s er (d + 1) (some (QB.listV l, t)))
      go_enter Tryz.func29, Tryz.ntmps29
      go_wp2_with (go_at_call 62; refine (HNU.out _ HR3.out).mono ?_; rintro e uN ⟨rfl, hgN⟩; have HKN : Hid (Keeps W3 uN (fun z => z = p)) := gr_kp hgN; have HRN := hidM (HR3.out.gr hgN); obtain ⟨k0, k1, k2, k3, k4⟩ := blk5 (HTB.out uN HKN.out); have HSN := hidM (HSW.out uN.drew ((HKN.out.trans (gr_kp gr_drew) (fun _ _ h => h)).mono (fun _ _ e => .inl e))); clear hgN; simp only [])
      have HKD : Hid (Keeps W3 uN.drew (fun z => z = p)) := HKN.out.trans (gr_kp gr_drew) (fun _ _ h => h)
      have HRD := hidM (HRN.out.gr gr_drew)
      go_region_held3 (fun w' => w'.cell? ⟨W.heap.size + 1 + 1, 1, none⟩ = some (.int .i64 f3) ∧ w'.cell? ⟨W.heap.size + 1 + 1, 4, none⟩ = some (.slice (some ⟨fb, fO, none⟩) fn fc) ∧ w'.cell? ⟨fb, fO, none⟩ = some (.string g.name) ∧ w'.cell? ⟨fb, fO + 1, none⟩ = some (.bool g.nul) ∧ w'.cell? ⟨fb, fO + 2, none⟩ = some (.int .i64 g.kind) ∧ w'.cell? ⟨fb, fO + 3, none⟩ = some (.int .i64 g.width) ∧ w'.cell? ⟨fb, fO + 4, none⟩ = some (.int .i64 g.id) ∧ w'.cell? ⟨fb, fO + 5, none⟩ = some (.int .i64 g.index) ∧ w'.cell? ⟨fb, fO + 6, none⟩ = some (.slice go g.kids.length gc)) (first | with_reducible exact HS6.out | with_reducible exact HS5.out | with_reducible exact HSN.out) ((go_at_call 67; refine Calls.mono (HL.out _ HKD.out HRD.out) ?_; rintro e u5 ⟨hk5, ⟨vo, vc, rfl, hvc, hrow⟩, ht1, ht2, hr5⟩; have HK5 := hidM (HKD.out.trans hk5 (fun _ _ h => h)); have hb5 := HKB.out u5 HK5.out; obtain ⟨q0, q1, q2, q3, z0, z1, z2, z3⟩ := blk4 hb5; have HB5 := hidM hb5; have HS5 := hidM (HSW.out u5 (HK5.out.mono (fun _ _ e => .inl e))); have HS6 : Hid ((u5.setCell ⟨W.heap.size + 1, 3, none⟩ (.slice vo l.length vc)).cell? ⟨W.heap.size + 1 + 1, 1, none⟩ = some (.int .i64 f3) ∧ (u5.setCell ⟨W.heap.size + 1, 3, none⟩ (.slice vo l.length vc)).cell? ⟨W.heap.size + 1 + 1, 4, none⟩ = some (.slice (some ⟨fb, fO, none⟩) fn fc) ∧ (u5.setCell ⟨W.heap.size + 1, 3, none⟩ (.slice vo l.length vc)).cell? ⟨fb, fO, none⟩ = some (.string g.name) ∧ (u5.setCell ⟨W.heap.size + 1, 3, none⟩ (.slice vo l.length vc)).cell? ⟨fb, fO + 1, none⟩ = some (.bool g.nul) ∧ (u5.setCell ⟨W.heap.size + 1, 3, none⟩ (.slice vo l.length vc)).cell? ⟨fb, fO + 2, none⟩ = some (.int .i64 g.kind) ∧ (u5.setCell ⟨W.heap.size + 1, 3, none⟩ (.slice vo l.length vc)).cell? ⟨fb, fO + 3, none⟩ = some (.int .i64 g.width) ∧ (u5.setCell ⟨W.heap.size + 1, 3, none⟩ (.slice vo l.length vc)).cell? ⟨fb, fO + 4, none⟩ = some (.int .i64 g.id) ∧ (u5.setCell ⟨W.heap.size + 1, 3, none⟩ (.slice vo l.length vc)).cell? ⟨fb, fO + 5, none⟩ = some (.int .i64 g.index) ∧ (u5.setCell ⟨W.heap.size + 1, 3, none⟩ (.slice vo l.length vc)).cell? ⟨fb, fO + 6, none⟩ = some (.slice go g.kids.length gc)) := hidM (HSW.out (u5.setCell ⟨W.heap.size + 1, 3, none⟩ (.slice vo l.length vc)) (kp_new3 HK5.out hp2 _)); have HT := hidM (And.intro ht1 ht2); have HR5 := hidM hr5; have HV := hidM (And.intro hvc hrow); have HSZ := hidM HKD.out.size; clear hk5 hb5 ht1 ht2 hr5 hvc hrow))
      go_wp2_with fail
      refine bodyPost_ret (res29 _ (W.heap.size + 1) _ _ _ _ true _ rfl rfl (set4_blk (by have h := heap_setCell_same _ (W.heap.size + 1) 3 _ _ (.slice vo l.length vc) HB5.out; simpa using h) _ _ _ _)) rfl ?_
      refine ⟨set4_kp (kp_new (HLW.out u5 HK5.out) (by omega) _) (by omega) _ _ _ _, ⟨_, rfl, vo, vc, rfl, HV.out.1, ⟨by show is64 0; decide, by show (0 : Nat) ≤ _; omega⟩, ?_⟩, HT.out.1, HT.out.2, set4_rd (HR5.out.oth hp2 _) hp2 _ _ _ _⟩
      have h3 := HS3.out
      have h5 := HSZ.out
      have hk := HV.out.2.kept (W' := set4 (u5.setCell ⟨W.heap.size + 1, 3, none⟩ (.slice vo l.length vc)) (W.heap.size + 1) (.bool false) (.int .i64 0) (.string ⟨#[]⟩) (.slice vo l.length vc)) (fun b hb => (set4_oth (fun e => by have := hb.1; omega) _ _ _ _).trans (heap_setCell_other _ _ _ _ (fun e => by have h1 := hb.1; have e' : b = W.heap.size + 1 := e; omega)))
      exact hk.mono fun b hb => ⟨by have := hb.1; omega, Nat.lt_of_lt_of_le hb.2 (Nat.le_of_eq ((set4_size (u5.setCell ⟨W.heap.size + 1, 3, none⟩ (.slice vo l.length vc)) (W.heap.size + 1) _ _ _ _).trans (by simp [World.setCell])).symm)⟩
end Go.Proofs.YtfoifmacobldbaaGreatDoor.Kit
namespace Go.Proofs.YtfoifmacobldbaaGreatDoor.QG
open Go.Proofs.YtfoifmacobldbaaGreatDoor.Kit
open Go.Lib Go.Proofs.YtfoifmacobldbaaGreatDoor.QB Go.Proofs.YtfoifmacobldbaaGreatDoor.QC Go.Proofs.YtfoifmacobldbaaGreatDoor.QD Go.Proofs.YtfoifmacobldbaaGreatDoor.QE Go.Proofs.YtfoifmacobldbaaGreatDoor.QF
set_option linter.unusedVariables false
/-! ### a value weighs no more than its text has bytes, sixteen times -/
def wS : Nat → VT → Int
  | 0, v => 16 + v.text.size
  | n + 1, v => 16 + v.text.size + (v.list.map (wS n)).sum
theorem join_len (l : List Bs) : (l.map List.length).sum ≤ (joinC l).length := by
  induction l with
  | nil => simp [joinC]
  | cons a l ih =>
    cases l with
    | nil => simp [joinC]
    | cons b r =>
      have e : joinC (a :: b :: r) = a ++ 44 :: joinC (b :: r) := rfl
      rw [e, List.map_cons, List.sum_cons, List.length_append, List.length_cons]
      omega
theorem sum_le {p : VT → Bs} {e : Nat} : ∀ (l : List VT), (∀ x ∈ l, wS e x ≤ 16 * (p x).length) → (l.map (wS e)).sum ≤ 16 * (((l.map p).map List.length).sum : Nat)
  | [], _ => by simp
  | x :: l, h => by
    have h1 := h x (by simp)
    have h2 := sum_le l fun y hy => h y (by simp [hy])
    simp only [List.map_cons, List.sum_cons] at h2 ⊢
    omega
theorem zip_le {r : FT → VT → Bs} {q : FT → VT → Prop} {e : Nat} : ∀ (gs : List FT) (l : List VT), All2 q gs l → (∀ g ∈ gs, ∀ x, q g x → wS e x ≤ 16 * (r g x).length) → (l.map (wS e)).sum ≤ 16 * (((List.zipWith (fun g x => nm g ++ 58 :: r g x) gs l).map List.length).sum : Nat)
  | [], [], _, _ => by simp
  | g :: gs, x :: l, ha, h => by
    have h1 := h g (by simp) x ha.1
    have h2 := zip_le gs l ha.2 fun g' hg => h g' (by simp [hg])
    simp only [List.zipWith_cons_cons, List.map_cons, List.sum_cons, List.length_append, List.length_cons] at h2 ⊢
    omega
  | [], _ :: _, ha, _ => ha.elim
  | _ :: _, [], ha, _ => ha.elim
theorem wS_le (n : Nat) (v : VT) (b : Int) (h : ∀ m, m + 1 = n → 16 + v.text.size + (v.list.map (wS m)).sum ≤ b) (h0 : 16 + (v.text.size : Int) ≤ b) : wS n v ≤ b := by
  cases n with
  | zero => exact h0
  | succ n => exact h n rfl
theorem hex_len (l : Bs) : (l.flatMap hex2).length = 2 * l.length := by
  induction l with
  | nil => rfl
  | cons c l ih => rw [List.flatMap_cons, List.length_append, ih]; simp [hex2]; omega
theorem leaf_weight {nb : Int → Int → Bool} (f : FT) (x : VT) (e : Nat) (h : lf nb f x) : wS e x ≤ 16 * (leafT f x).length := by
  have hsz : ∀ t : ByteArray, t.data.toList.length = t.size := fun t => Array.length_toList
  have hl := flat_len x.text.data.toList
  have hh := hex_len x.text.data.toList
  rw [hsz] at hl hh
  suffices hall : ∀ s : Int, s = 0 → 16 + (x.text.size : Int) + s ≤ 16 * (leafT f x).length by
    have hx : x.list = [] := by
      unfold lf at h
      split at h
      · rw [h.1]; rfl
      · split at h
        · rw [h]; rfl
        · split at h
          · rw [h.1]; rfl
          · rw [h.1]; rfl
    exact wS_le e x _ (fun m hm => hall _ (by rw [hx]; rfl)) (by have := hall 0 rfl; omega)
  intro s0 hs0
  subst hs0
  unfold lf at h
  unfold leafT
  by_cases k12 : f.kind = 12
  · rw [if_pos k12] at h
    rw [if_pos k12]
    simp only [List.length_cons, List.length_append, List.length_nil]
    omega
  · rw [if_neg k12] at h
    rw [if_neg k12]
    by_cases k13 : f.kind = 13 ∨ f.kind = 14
    · have hx : x.list = [] := by
        rcases k13 with k | k
        · rw [if_pos k] at h; rw [h]; rfl
        · rw [if_neg (by omega), if_pos k] at h; rw [h.1]; rfl
      rw [if_pos k13]
      simp only [List.length_cons, List.length_append, List.length_nil]
      omega
    · rw [if_neg (fun q => k13 (.inl q)), if_neg (fun q => k13 (.inr q))] at h
      rw [if_neg k13]
      have ht : x.text.size = 0 := by rw [h.1]; rfl
      obtain ⟨c, r, e, _⟩ := (num_row f.kind x.num).2.1
      rw [e, ht]
      simp only [List.length_cons]
      omega
theorem weight {leafT' : FT → VT → Bs} {lf' : FT → VT → Prop} (hL : ∀ f x e, lf' f x → wS e x ≤ 16 * (leafT' f x).length) : ∀ (d : Nat) (f : FT) (x : VT) (e : Nat), okk d f → fitV lf' d f x → wS e x ≤ 16 * (prV leafT' d f x).length
  | 0, f, x, e, ho, _ => ho.elim
  | d + 1, f, x, e, ho, hf => by
    obtain ⟨o1, o2, o3, o4, o5, o6⟩ := ho
    have hf' : fitB lf' (fitV lf' d) f x := hf
    show wS e x ≤ 16 * (prB leafT' (prV leafT' d) f x).length
    unfold fitB at hf'
    unfold prB
    split at hf'
    · rename_i hn
      rw [if_pos hn]
      obtain ⟨_, rfl⟩ := hf'
      refine wS_le e _ _ (fun m _ => ?_) (by show (16 : Int) + 0 ≤ _; simp [nullT])
      have h1 : nullV.text.size = 0 := rfl
      have h2 : nullV.list = [] := rfl
      rw [h1, h2]
      simp [nullT]
    · rename_i hn
      rw [if_neg hn]
      have lists : ∀ (hk : f.kids.head! ∈ f.kids) (h15 : 15 ≤ f.kind), x = listV x.list → (∀ y ∈ x.list, fitV lf' d f.kids.head! y) → wS e x ≤ 16 * (91 :: (joinC (x.list.map (prV leafT' d f.kids.head!)) ++ [93]) : Bs).length := fun hk h15 h1 h3 => by
        have ht : x.text.size = 0 := by rw [h1]; rfl
        refine wS_le e x _ (fun m _ => ?_) (by rw [ht]; simp only [List.length_cons]; omega)
        have hs := sum_le (e := m) (p := prV leafT' d f.kids.head!) x.list (fun y hy => weight hL d _ y m (o6 h15 _ hk) (h3 y hy))
        have hj := join_len (x.list.map (prV leafT' d f.kids.head!))
        rw [ht]
        simp only [List.length_cons, List.length_append, List.length_nil]
        omega
      split at hf'
      · rename_i k15
        rw [if_pos (.inl k15)]
        exact lists (head_mem (o5 (.inl k15))) (by omega) hf'.1 hf'.2.2
      · rename_i k15
        split at hf'
        · rename_i k16
          rw [if_pos (.inr k16)]
          exact lists (head_mem (o5 (.inr k16))) (by omega) hf'.1 hf'.2.2
        · rename_i k16
          rw [if_neg (by omega)]
          split at hf'
          · rename_i k17
            rw [if_pos k17]
            have ht : x.text.size = 0 := by rw [hf'.1]; rfl
            refine wS_le e x _ (fun m _ => ?_) (by rw [ht]; simp only [List.length_cons]; omega)
            have hs := zip_le (e := m) (r := prV leafT' d) f.kids x.list hf'.2 (fun g hg y hy => weight hL d g y m (o6 (by omega) g hg) hy)
            have hj := join_len (List.zipWith (fun g x => nm g ++ 58 :: prV leafT' d g x) f.kids x.list)
            rw [ht]
            simp only [List.length_cons, List.length_append, List.length_nil]
            omega
          · rename_i k17
            rw [if_neg k17]
            split at hf'
            · rename_i k18
              rw [if_pos k18]
              obtain ⟨i, y, rfl, hi, h2⟩ := hf'
              refine wS_le e _ _ (fun m _ => ?_) (by show (16 : Int) + 0 ≤ 16 * ((nm (f.kids.getD i default) ++ 40 :: (prV leafT' d (f.kids.getD i default) y ++ [41]) : Bs).length : Int); simp only [List.length_cons, List.length_append]; omega)
              have hw := weight hL d _ y m (o6 (by omega) _ (getD_mem hi)) h2
              show (16 : Int) + 0 + ([y].map (wS m)).sum ≤ 16 * (nm (f.kids.getD i default) ++ 40 :: (prV leafT' d (f.kids.getD i default) y ++ [41])).length
              simp only [List.map_cons, List.map_nil, List.sum_cons, List.sum_nil, List.length_cons, List.length_append, List.length_nil]
              omega
            · rename_i k18
              rw [if_neg k18]
              split at hf'
              · rename_i k19
                rw [if_pos k19]
                exact weight hL d _ x e (o6 (by omega) _ (head_mem (o4 k19).1)) hf'
              · rename_i k19
                rw [if_neg k19]
                exact hL f x e hf'
end Go.Proofs.YtfoifmacobldbaaGreatDoor.QG
