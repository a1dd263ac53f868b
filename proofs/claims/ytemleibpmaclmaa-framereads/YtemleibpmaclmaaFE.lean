import Derived.Test.YtemleibpmaclmaaFD
namespace Go.Proofs.Ytemleibpmaclmaa.Kit
open Go.RowKit Go.Shelf Go.Deep
set_option linter.unusedVariables false
attribute [local go_sem] run_store_func

/-! ### an ink over bytes -/
def bi (l : List UInt8) : List Int := l.map fun b => (b.toNat : Int)
theorem bi_app (a b : List UInt8) : bi (a ++ b) = bi a ++ bi b := by simp [bi]
theorem bi_len (a : List UInt8) : (bi a).length = a.length := by simp [bi]
theorem bi_bv (a : List UInt8) : (bi a).map (Value.int .u8) = bv a := by simp [bi, bv]
theorem bi_text (t : List UInt8) : bytesOf ⟨t.toArray⟩ = bi t := by simp [bytesOf, bi]
theorem bi_le4 (x : Nat) : leB (x : Int) 4 = bi (le4 x) := by simp [leB, bi, le4, List.range_succ]
theorem bi_zs (n : Nat) : List.replicate n (0 : Int) = bi (zs n) := by simp [bi, zs]
def LayAt (w W : World) (p : Nat) (most : Int) (l : List UInt8) : Prop := ∃ go, InkAt W 99 p go most (bi l) ∧ Gr w W ∧ w.heap.size ≤ p ∧ ∀ g, go = some g → w.heap.size ≤ g
theorem LayAt.done {w W W' : World} {p : Nat} {go : Option Nat} {most : Int} {l : List UInt8} (g : Gr w W) (hp : w.heap.size ≤ p) (hg : ∀ g, go = some g → w.heap.size ≤ g) (h : InkDone W W' 99 p go most (bi l)) : LayAt w W' p most l := by
  obtain ⟨go', i, k, b⟩ := h
  refine ⟨go', i, g.trans k (fun j hj e => ?_), hp, fun x hx => ?_⟩
  · rcases e with e | e
    · omega
    · have := hg j e; omega
  · rcases b with b | b
    · subst b; exact hg x hx
    · exact Nat.le_trans g.size (b x hx)
theorem lay_text {w W : World} {p : Nat} {most : Int} {l t : List UInt8} (h : LayAt w W p most l) (hm : most ≤ 16777216) (hf : (l.length : Int) + t.length ≤ most) :
    Calls Try.prog 44 #[.pointer (some ⟨p, 0, none⟩), .string ⟨t.toArray⟩] W fun e w' => e = .returned (.int .i64 0) ∧ LayAt w w' p most (l ++ t) := by
  obtain ⟨go, i, g, hp, hg⟩ := h
  refine (text_yes p go most (bi l) ⟨t.toArray⟩ W i (by omega) hm (by rw [bi_len]; simpa [ByteArray.size] using hf)).mono ?_
  rintro e w' ⟨rfl, D⟩
  rw [bi_text, ← bi_app] at D
  exact ⟨rfl, LayAt.done g hp hg D⟩
theorem lay_number {w W : World} {p : Nat} {most : Int} {l : List UInt8} (x : Nat) (h : LayAt w W p most l) (hm : most ≤ 16777216) (hf : (l.length : Int) + 4 ≤ most) :
    Calls Try.prog 45 #[.pointer (some ⟨p, 0, none⟩), .int .u64 (x : Int), .int .i64 4] W fun e w' => e = .returned (.int .i64 0) ∧ LayAt w w' p most (l ++ le4 x) := by
  obtain ⟨go, i, g, hp, hg⟩ := h
  have := number_all p go most (bi l) (x : Int) 4 W i ⟨by omega, hm, by rw [bi_len]; omega⟩
  have e : numR most (bi l) (x : Int) 4 = (0, bi (l ++ le4 x)) := by
    unfold numR
    rw [if_neg (by decide), if_neg (by rw [bi_len]; omega), bi_app, ← bi_le4]
    rfl
  rw [e] at this
  refine this.mono ?_
  rintro e w' ⟨rfl, D⟩
  exact ⟨rfl, LayAt.done g hp hg D⟩
theorem lay_pad {w W : World} {p : Nat} {most : Int} {l : List UInt8} (h : LayAt w W p most l) (hm : most ≤ 16777216) (hf : (up8 l.length : Int) ≤ most) :
    Calls Try.prog 48 #[.pointer (some ⟨p, 0, none⟩), .int .i64 8] W fun e w' => e = .returned (.int .i64 0) ∧ LayAt w w' p most (l ++ zs (up8 l.length - l.length)) := by
  obtain ⟨go, i, g, hp, hg⟩ := h
  have hu := up8_ge l.length
  have := pad_all p go most (bi l) 8 W i ⟨by omega, hm, by rw [bi_len]; omega⟩
  have e : padR most (bi l) 8 = (0, bi (l ++ zs (up8 l.length - l.length))) := by
    have en : -(l.length : Int) % 8 = ((up8 l.length - l.length : Nat) : Int) := by unfold up8; omega
    have en' : -((l.length : Int) % 8) % 8 = ((up8 l.length - l.length : Nat) : Int) := by unfold up8; omega
    unfold padR fillR
    rw [if_neg (by omega), bi_len, en', if_neg (by omega), if_neg (by omega), bi_app, ← bi_zs]
    simp
  rw [e] at this
  refine this.mono ?_
  rintro e w' ⟨rfl, D⟩
  exact ⟨rfl, LayAt.done g hp hg D⟩
theorem lay_bytes {w W : World} {p : Nat} {most : Int} {l : List UInt8} (h : LayAt w W p most l) (hm : l.length ≤ 16777216) :
    Calls Try.prog 47 #[.pointer (some ⟨p, 0, none⟩)] W fun e w' => ∃ vo vc, e = .returned (.slice vo l.length vc) ∧ Byts W w' vo vc l.length l := by
  obtain ⟨go, i, g, hp, hg⟩ := h
  refine (bytes_any p go most (bi l) W i (by rw [bi_len]; exact hm)).mono ?_
  rintro e w' ⟨rfl, O, B⟩
  rw [bi_len]
  unfold OwnRow at O
  rw [bi_bv] at O
  refine ⟨_, _, rfl, ⟨⟨by simp [bv], .inr ⟨W.heap.size, l.length, _, rfl, Nat.zero_le _, O, Nat.le_refl _, ?_, by simp [bv], ?_⟩⟩, ?_, fun x hx => ?_⟩⟩
  · have : maxLen = 9223372036854775807 := by kernel_rfl
    omega
  · rw [List.take_of_length_le (by simp [bv])]
  · exact (Keeps.ofBelow B).mono fun b hb h => by omega
  · have : W.heap.size = x := by simpa [Value.ownBlock] using hx
    omega
theorem LayAt.gr {w W W' : World} {p : Nat} {most : Int} {l : List UInt8} (h : LayAt w W p most l) (k : Gr W W') : LayAt w W' p most l := by
  obtain ⟨go, i, g, hp, hg⟩ := h
  exact ⟨go, i.kept k id (fun _ _ => id), g.trans k (fun _ _ h => h), hp, hg⟩
theorem gr_lay {w W : World} {p : Nat} {most : Int} {l : List UInt8} (h : LayAt w W p most l) : Gr w W := by
  obtain ⟨go, i, g, hp, hg⟩ := h
  exact g
theorem lay_new (w : World) (n : Nat) (hn : n ≤ 16777216) :
    Calls Try.prog 43 #[.int .i64 (n : Int)] w fun e w' => ∃ p, e = .returned (.pointer (some ⟨p, 0, none⟩)) ∧ LayAt w w' p (n : Int) [] := by
  refine (newInk_any (n : Int) w).mono ?_
  rintro e w' ⟨rfl, rfl⟩
  have hc : clamp (n : Int) = n := by unfold clamp; rw [if_neg (by omega), if_neg (by omega)]
  rw [hc]
  exact ⟨_, rfl, none, InkAt.new w 99 _, gr_alloc _ _, Nat.le_refl _, fun g h => by cases h⟩

set_option maxRecDepth 100000 in
set_option maxHeartbeats 2000000 in
theorem size_any {mo bo : Option Addr} {M N mc bc : Nat} (w : World) (hM : M ≤ 140737488355328) (hN : N ≤ 140737488355328) :
    Calls Try.prog 39 #[.agg #[.slice mo M mc, .slice bo N bc]] w fun e w' => e = .returned (.int .i64 ((24 + up8 M + up8 N : Nat) : Int)) ∧ Gr w w' := by
  have HU1 : Hid (∀ V, Calls Try.prog 50 #[.int .i64 (M : Int)] V fun e w' => e = .returned (.int .i64 (up8 M : Int)) ∧ V = w') := fun V => padded_any M V (by omega)
  have HU2 : Hid (∀ V, Calls Try.prog 50 #[.int .i64 (N : Int)] V fun e w' => e = .returned (.int .i64 (up8 N : Int)) ∧ V = w') := fun V => padded_any N V (by omega)
  obtain ⟨u1, hu1⟩ : ∃ u1 : Int, u1 = (up8 M : Int) := ⟨_, rfl⟩
  obtain ⟨u2, hu2⟩ : ∃ u2 : Int, u2 = (up8 N : Int) := ⟨_, rfl⟩
  have a1 := up8_ge M
  have a2 := up8_ge N
  have b1 : 0 ≤ u1 ∧ u1 ≤ 140737488356000 := by omega
  have b2 : 0 ≤ u2 ∧ u2 ≤ 140737488356000 := by omega
  have HW : Hid (IntKind.i64.wrap (IntKind.i64.wrap (24 + u1) + u2) = 24 + u1 + u2) := by show _ = _; rw [IntKind.wrap_i64, IntKind.wrap_i64]; omega
  have HE : Hid (24 + u1 + u2 = ((24 + up8 M + up8 N : Nat) : Int)) := by show _ = _; omega
  rw [← hu1] at HU1
  rw [← hu2] at HU2
  have hbx := heap_alloc_new w (.cells #[.slice mo M mc, .slice bo N bc] 24)
  obtain ⟨p0, p1⟩ := ce2 hbx
  have G0 := hidM (gr_alloc w (.cells #[.slice mo M mc, .slice bo N bc] 24))
  clear hu1 hu2 a1 a2 hbx
  go_enter Try.func39, Try.ntmps39
  go_wp2_with fail
  obtain ⟨W0, hW0⟩ : ∃ W0, W0 = w.alloc (.cells #[.slice mo M mc, .slice bo N bc] 24) := ⟨_, rfl⟩
  rw [← hW0] at G0 p0 p1 ⊢
  obtain ⟨B, hB⟩ : ∃ B, B = w.heap.size := ⟨_, rfl⟩
  rw [← hB] at p0 p1 ⊢
  have HIN : Hid (W0.drew.cell? ⟨B, 0, none⟩ = some (.slice mo M mc) ∧ W0.drew.cell? ⟨B, 1, none⟩ = some (.slice bo N bc)) := ⟨p0, p1⟩
  clear hW0 hB p0 p1
  go_region_held3 (fun w' => w'.cell? ⟨B, 0, none⟩ = some (.slice mo M mc) ∧ w'.cell? ⟨B, 1, none⟩ = some (.slice bo N bc)) (first | with_reducible exact HIN.out | with_reducible assumption) (first | (go_at_call 50; with_reducible refine (HU1.out _).mono ?_; rintro e w' ⟨rfl, rfl⟩) | (go_at_call 50; with_reducible refine (HU2.out _).mono ?_; rintro e w' ⟨rfl, rfl⟩))
  go_wp2_with fail
  go_ret
  exact ⟨by rw [← HE.out, ← HW.out]; rfl, G0.out.trans ((Keeps.refl W0 _).drew) (fun _ _ h => h)⟩

set_option maxRecDepth 100000 in
set_option maxHeartbeats 4000000 in
theorem lay_any {mo bo : Option Addr} {mc bc : Nat} {m b : List UInt8} {w : World} (last : UInt8) (hm : BytesAt w mo m) (hb : BytesAt w bo b) (c1 : m.length ≤ 65536) (c2 : b.length ≤ 4194304) :
    Calls Try.prog 35 #[.string ⟨#[67, 79, 76, last]⟩, .agg #[.slice mo m.length mc, .slice bo b.length bc]] w fun e w' => ∃ vo vc, e = .returned (.slice vo (putB last m b).length vc) ∧ Byts w w' vo vc (putB last m b).length (putB last m b) := by
  obtain ⟨M, hM⟩ : ∃ M, M = m.length := ⟨_, rfl⟩
  obtain ⟨N, hN⟩ : ∃ N, N = b.length := ⟨_, rfl⟩
  have HM := hidM hM
  have HN := hidM hN
  have a1 := up8_ge M
  have a2 := up8_ge N
  have a3 : up8 M % 8 = 0 := by unfold up8; omega
  have a4 : up8 N % 8 = 0 := by unfold up8; omega
  rw [← hM] at c1
  rw [← hN] at c2
  obtain ⟨T, hT⟩ : ∃ T, T = 24 + up8 M + up8 N := ⟨_, rfl⟩
  have hTb : T ≤ 16777216 := by omega
  have hT24 : 24 ≤ T := by omega
  have HSz : Hid (∀ V, Calls Try.prog 39 #[.agg #[.slice mo M mc, .slice bo N bc]] V fun e w' => e = .returned (.int .i64 (T : Int)) ∧ Gr V w') := fun V => by rw [hT]; exact size_any V (by omega) (by omega)
  have HNw : Hid (∀ V, Calls Try.prog 43 #[.int .i64 (T : Int)] V fun e w' => ∃ p, e = .returned (.pointer (some ⟨p, 0, none⟩)) ∧ LayAt V w' p (T : Int) []) := fun V => lay_new V T hTb
  obtain ⟨s0, hs0⟩ : ∃ s0 : ByteArray, s0 = ⟨#[67, 79, 76, last]⟩ := ⟨_, rfl⟩
  obtain ⟨s1, hs1⟩ : ∃ s1 : ByteArray, s1 = ⟨m.toArray⟩ := ⟨_, rfl⟩
  obtain ⟨s2, hs2⟩ : ∃ s2 : ByteArray, s2 = ⟨b.toArray⟩ := ⟨_, rfl⟩
  rw [← hs0]
  have G0 := hidM (gr_alloc w (.cells #[.slice mo M mc, .slice bo N bc] 24))
  have HBm := hidM hm
  have HBb := hidM hb
  have hbx := heap_alloc_new w (.cells #[.slice mo M mc, .slice bo N bc] 24)
  obtain ⟨p0, p1⟩ := ce2 hbx
  have lw : w.heap.size < (w.alloc (.cells #[.slice mo M mc, .slice bo N bc] 24)).heap.size := lt_of_heap hbx
  obtain ⟨H, hH⟩ : ∃ H, H = head12 last M N := ⟨_, rfl⟩
  have hHl : H.length = 12 := by rw [hH]; rfl
  obtain ⟨x1, hx1⟩ : ∃ x : Nat, x = (sumU sum0 H).toNat := ⟨_, rfl⟩
  obtain ⟨x2, hx2⟩ : ∃ x : Nat, x = (sumU sum0 m).toNat := ⟨_, rfl⟩
  obtain ⟨x3, hx3⟩ : ∃ x : Nat, x = (sumU (sumU sum0 m) b).toNat := ⟨_, rfl⟩
  have hx1b : x1 < 4294967296 := by rw [hx1]; exact UInt32.toNat_lt _
  have hx3b : x3 < 4294967296 := by rw [hx3]; exact UInt32.toNat_lt _
  have HFin : Hid (putB last m b = ((((((H ++ le4 x1) ++ le4 x3) ++ zs 4) ++ m) ++ zs (up8 M - M)) ++ b) ++ zs (up8 N - N)) := by
    show _ = _
    rw [hH, hx1, hx3, hH]
    unfold putB headB
    rw [hM, hN]
  have HFl : Hid ((putB last m b).length = T) := by show _ = _; rw [putB_len, ← hM, ← hN, hT]
  have hw1 : IntKind.u64.wrap (M : Int) = (M : Int) := by rw [IntKind.wrap_u64]; omega
  have hw2 : IntKind.u64.wrap (N : Int) = (N : Int) := by rw [IntKind.wrap_u64]; omega
  have hw3 : IntKind.u64.wrap (x1 : Int) = (x1 : Int) := by rw [IntKind.wrap_u64]; omega
  have hw4 : IntKind.u64.wrap (x3 : Int) = (x3 : Int) := by rw [IntKind.wrap_u64]; omega
  have HHd : Hid (H = ([] ++ mark last ++ le4 M) ++ le4 N) := by show _ = _; rw [hH]; rfl
  have HSum : Hid (∀ V vo vc, BytesAt V vo H → Calls Try.prog 46 #[.int .u32 2166136261, .slice vo 12 vc] V fun e w' => e = .returned (.int .u32 (x1 : Int)) ∧ V = w') := fun V vo vc h => by
    have := sum_any (ca := vc) sum0 h (by omega)
    rw [hHl, ← hx1] at this
    exact this
  have HSm : Hid (∀ V, Gr w V → Calls Try.prog 46 #[.int .u32 2166136261, .slice mo M mc] V fun e w' => e = .returned (.int .u32 (x2 : Int)) ∧ V = w') := fun V g => by
    have := sum_any (ca := mc) sum0 (HBm.out.gr g) (by omega)
    rw [← HM.out, ← hx2] at this
    exact this
  have HSb : Hid (∀ V, Gr w V → Calls Try.prog 46 #[.int .u32 (x2 : Int), .slice bo N bc] V fun e w' => e = .returned (.int .u32 (x3 : Int)) ∧ V = w') := fun V g => by
    have := sum_any (ca := bc) (sumU sum0 m) (HBb.out.gr g) (by omega)
    rw [← HN.out, ← hx3, ← hx2] at this
    exact this
  have HT0 := hidM hs0
  have HT1 := hidM hs1
  have HT2 := hidM hs2
  have HCv1 : Hid (∀ V, Gr w V → (convert 22 9 (.slice mo M mc)).run Try.prog V = .ok (.string s1) V) := fun V g => by rw [hs1, HM.out]; exact bytes_string (HBm.out.gr g)
  have HCv2 : Hid (∀ V, Gr w V → (convert 22 9 (.slice bo N bc)).run Try.prog V = .ok (.string s2) V) := fun V g => by rw [hs2, HN.out]; exact bytes_string (HBb.out.gr g)
  have HTT := hidM hT
  have HLm : Hid ((M : Int) = m.length ∧ (N : Int) = b.length) := ⟨by rw [HM.out], by rw [HN.out]⟩
  rw [← hM, ← hN]
  clear hm hb hM hN hbx hs0 hs1 hs2 hT hH hx1 hx2 hx3
  go_enter Try.func35, Try.ntmps35
  go_wp2_with (go_at_call 39; refine Hid.out ?_)
  unfold Hid
  refine Calls.mono (HSz.out _) ?_
  rintro e W1 ⟨rfl, g1⟩
  obtain ⟨B, hB⟩ : ∃ B, B = w.heap.size := ⟨_, rfl⟩
  have HG1 := hidM (G0.out.trans g1 (fun _ _ h => h))
  have HC : Hid (∀ V, Gr W1 V → V.cell? ⟨B, 0, none⟩ = some (.slice mo M mc) ∧ V.cell? ⟨B, 1, none⟩ = some (.slice bo N bc)) := fun V g => by rw [hB]; exact ⟨g.cell' (g1.cell' p0 id) id, g.cell' (g1.cell' p1 id) id⟩
  rw [← hB]
  clear g1 p0 p1 hB G0 lw HSz
  go_wp2_with (go_at_call 43; refine Hid.out ?_)
  unfold Hid
  refine Calls.mono (HNw.out _) ?_
  rintro e W2 ⟨p, rfl, hL2⟩
  have HL2 := hidM hL2
  clear hL2 HNw
  go_wp2_with (go_at_call 44; refine Hid.out ?_)
  unfold Hid
  rw [HT0.out]
  refine Calls.mono (lay_text (t := mark last) HL2.out (by omega) (by simp [mark]; omega)) ?_
  rintro e W3 ⟨rfl, hL3⟩
  have HL3 := hidM hL3
  obtain ⟨c0, -⟩ := HC.out _ (gr_lay hL3)
  clear hL3 HL2
  go_wp2_with (go_at_call 45; refine Hid.out ?_)
  unfold Hid
  refine Calls.mono (lay_number M HL3.out (by omega) (by simp [mark]; omega)) ?_
  rintro e W4 ⟨rfl, hL4⟩
  have HL4 := hidM hL4
  clear c0
  obtain ⟨-, c0⟩ := HC.out _ (gr_lay hL4)
  clear hL4 HL3
  go_wp2_with (go_at_call 45; refine Hid.out ?_)
  unfold Hid
  refine Calls.mono (lay_number N HL4.out (by omega) (by simp [mark, le4_len]; omega)) ?_
  rintro e W5 ⟨rfl, hL5⟩
  rw [← HHd.out] at hL5
  have HL5 := hidM hL5
  clear c0 hL5 HL4
  go_wp2_with (go_at_call 47; refine Hid.out ?_)
  unfold Hid
  refine Calls.mono (lay_bytes HL5.out (by omega)) ?_
  rintro e W6 ⟨vo, vc, rfl, hb6⟩
  rw [hHl]
  rw [hHl] at hb6
  have HL6 := hidM (HL5.out.gr hb6.gr)
  have HSS := hidM (HSum.out W6 vo vc hb6.bytes)
  clear hb6 HL5 HSum
  go_wp2_with (go_at_call 46; refine Hid.out ?_)
  unfold Hid
  refine Calls.mono HSS.out ?_
  rintro e W7 ⟨rfl, rfl⟩
  clear HSS
  go_wp2_with (go_at_call 45; refine Hid.out ?_)
  unfold Hid
  refine Calls.mono (lay_number x1 HL6.out (by omega) (by omega)) ?_
  rintro e W8 ⟨rfl, hL8⟩
  have HL8 := hidM hL8
  have hc := HC.out _ (gr_lay hL8)
  clear hL8 HL6
  go_wp2_with fail
  have gD := hidM ((gr_lay HL8.out).trans ((Keeps.refl W8 _).drew) (fun _ _ h => h))
  have HIN : Hid (Hid (Gr W1 W8.drew) ∧ W8.drew.cell? ⟨B, 0, none⟩ = some (.slice mo M mc) ∧ W8.drew.cell? ⟨B, 1, none⟩ = some (.slice bo N bc)) := ⟨gD.out, HC.out _ gD.out⟩
  have gDw := hidM (HG1.out.trans gD.out (fun _ _ h => h))
  have HN9 := hidM (lay_number x3 (HL8.out.gr ((Keeps.refl W8 _).drew)) (by omega) (by simp [le4_len, hHl]; omega))
  go_region_held3 (fun w' => Hid (Gr W1 w') ∧ w'.cell? ⟨B, 0, none⟩ = some (.slice mo M mc) ∧ w'.cell? ⟨B, 1, none⟩ = some (.slice bo N bc)) (first | with_reducible exact HIN.out | with_reducible assumption | with_reducible exact HK9.out) (first | (go_at_call 46; with_reducible refine (HSm.out _ gDw.out).mono ?_; rintro e w' ⟨rfl, rfl⟩) | (go_at_call 46; with_reducible refine (HSb.out _ gDw.out).mono ?_; rintro e w' ⟨rfl, rfl⟩) | (go_at_call 45; (with_reducible refine HN9.out.mono ?_); rintro e W9 ⟨rfl, hL9⟩; have HL9 := hidM hL9; have HK9 : Hid (Hid (Gr W1 W9) ∧ W9.cell? ⟨B, 0, none⟩ = some (.slice mo M mc) ∧ W9.cell? ⟨B, 1, none⟩ = some (.slice bo N bc)) := ⟨gr_lay hL9, HC.out _ (gr_lay hL9)⟩; clear hL9))
  clear HIN gD gDw HN9 HK9 hc HSm HSb HL8
  go_wp2_with (go_at_call 48; refine Hid.out ?_)
  unfold Hid
  have hlen : (H ++ le4 x1 ++ le4 x3).length = 20 := by simp [le4_len, hHl]
  have e24 : up8 20 = 24 := rfl
  refine Calls.mono (lay_pad HL9.out (by omega) (by rw [hlen, e24]; omega)) ?_
  rintro e W10 ⟨rfl, hL10⟩
  rw [hlen, e24] at hL10
  have HL10 := hidM hL10
  have hcv := HCv1.out _ (HG1.out.trans (gr_lay hL10) (fun _ _ h => h))
  obtain ⟨c0, -⟩ := HC.out _ (gr_lay hL10)
  clear hL10 HL9
  go_wp2_with (go_at_call 44; refine Hid.out ?_)
  unfold Hid
  rw [HT1.out]
  refine Calls.mono (lay_text (t := m) HL10.out (by omega) (by have := HTT.out; have := HLm.out; simp [le4_len, hHl, zs]; omega)) ?_
  rintro e W11 ⟨rfl, hL11⟩
  have HL11 := hidM hL11
  clear hL11 HL10 c0 hcv
  go_wp2_with (go_at_call 48; refine Hid.out ?_)
  unfold Hid
  have hlen2 : (H ++ le4 x1 ++ le4 x3 ++ zs (24 - 20) ++ m).length = 24 + M := by have := HLm.out; simp [le4_len, hHl, zs]; omega
  have e25 : up8 (24 + M) = 24 + up8 M := by unfold up8; omega
  refine Calls.mono (lay_pad HL11.out (by omega) (by have := HTT.out; rw [hlen2, e25]; omega)) ?_
  rintro e W12 ⟨rfl, hL12⟩
  rw [hlen2, e25, show 24 + up8 M - (24 + M) = up8 M - M by omega] at hL12
  have HL12 := hidM hL12
  have hcv := HCv2.out _ (HG1.out.trans (gr_lay hL12) (fun _ _ h => h))
  obtain ⟨-, c0⟩ := HC.out _ (gr_lay hL12)
  clear hL12 HL11
  go_wp2_with (go_at_call 44; refine Hid.out ?_)
  unfold Hid
  rw [HT2.out]
  refine Calls.mono (lay_text (t := b) HL12.out (by omega) (by have := HTT.out; have := HLm.out; simp [le4_len, hHl, zs]; omega)) ?_
  rintro e W13 ⟨rfl, hL13⟩
  have HL13 := hidM hL13
  clear hL13 HL12 c0 hcv
  go_wp2_with (go_at_call 48; refine Hid.out ?_)
  unfold Hid
  have hlen3 : (H ++ le4 x1 ++ le4 x3 ++ zs (24 - 20) ++ m ++ zs (up8 M - M) ++ b).length = 24 + up8 M + N := by have := HLm.out; simp [le4_len, hHl, zs]; omega
  have e26 : up8 (24 + up8 M + N) = 24 + up8 M + up8 N := by unfold up8; omega
  refine Calls.mono (lay_pad HL13.out (by omega) (by have := HTT.out; rw [hlen3, e26]; omega)) ?_
  rintro e W14 ⟨rfl, hL14⟩
  rw [hlen3, e26, show 24 + up8 M + up8 N - (24 + up8 M + N) = up8 N - N by omega, ← HFin.out] at hL14
  have HL14 := hidM hL14
  clear hL14 HL13
  go_wp2_with (go_at_call 47; refine Hid.out ?_)
  unfold Hid
  refine Calls.mono (lay_bytes HL14.out (by have := HFl.out; omega)) ?_
  rintro e W15 ⟨vo15, vc15, rfl, hb15⟩
  have HB15 := hidM (hb15.base (HG1.out.trans (gr_lay HL14.out) (fun _ _ h => h)))
  clear hb15
  go_wp2_with fail
  go_ret
  exact ⟨vo15, vc15, rfl, HB15.out⟩
end Go.Proofs.Ytemleibpmaclmaa.Kit
