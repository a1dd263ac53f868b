import Derived.Test.YtemleibpmaclmaaFB
namespace Go.Proofs.Ytemleibpmaclmaa.Kit
open Go.RowKit Go.Shelf Go.Deep
set_option linter.unusedVariables false
attribute [local go_sem] run_store_func

/-! ### the bytes of a message -/
def le4 (x : Nat) : List UInt8 := [UInt8.ofNat x, UInt8.ofNat (x / 256), UInt8.ofNat (x / 65536), UInt8.ofNat (x / 16777216)]
def mark (last : UInt8) : List UInt8 := [67, 79, 76, last]
def head12 (last : UInt8) (m b : Nat) : List UInt8 := mark last ++ le4 m ++ le4 b
def headB (last : UInt8) (m b : Nat) (s : UInt32) : List UInt8 := head12 last m b ++ le4 (sumU sum0 (head12 last m b)).toNat ++ le4 s.toNat ++ zs 4
def putB (last : UInt8) (m b : List UInt8) : List UInt8 := headB last m.length b.length (sumU (sumU sum0 m) b) ++ m ++ zs (up8 m.length - m.length) ++ b ++ zs (up8 b.length - b.length)
theorem le4_len (x : Nat) : (le4 x).length = 4 := rfl
theorem le4_zero : le4 0 = zs 4 := rfl
theorem head12_len (last : UInt8) (m b : Nat) : (head12 last m b).length = 12 := rfl
theorem headB_len (last : UInt8) (m b : Nat) (s : UInt32) : (headB last m b s).length = 24 := rfl
theorem putB_len (last : UInt8) (m b : List UInt8) : (putB last m b).length = 24 + up8 m.length + up8 b.length := by
  have := up8_ge m.length
  have := up8_ge b.length
  simp [putB, headB_len, zs]
  omega
theorem bv_le4 (x : Nat) : bv (le4 x) = [.int .u8 ((x : Int) % 256), .int .u8 ((x : Int) / 256 % 256), .int .u8 ((x : Int) / 65536 % 256), .int .u8 ((x : Int) / 16777216 % 256)] := by
  simp [bv, le4]
theorem shr32 (x : Nat) (k : Nat) (hk : k < 32) : Op.shift BinOp.shr IntKind.u32 (x : Int) IntKind.u64 (k : Int) = pure (.int .u32 ((x : Int) / 2 ^ k)) := by
  rw [shift_shr_any _ _ _ _ (by omega)]
  have e2 : min ((k : Int).toNat) IntKind.u32.bits = k := by
    have hb : IntKind.u32.bits = 32 := rfl
    rw [hb]; omega
  rw [e2]

set_option maxRecDepth 100000 in
set_option maxHeartbeats 2000000 in
theorem four_any {w W : World} {vo : Option Addr} {vc n : Nat} {bs : List UInt8} (x : Nat) (h : Byts w W vo vc n bs) (hn : n ≤ 140737488355000) :
    Calls Try.prog 42 #[.slice vo n vc, .int .u32 (x : Int)] W fun e w' => ∃ vo' vc', e = .returned (.slice vo' (n + 4) vc') ∧ Ap w W w' vo vc n vo' vc' (n + 4) (bs ++ le4 x) := by
  have HB := hidM h
  have s1 := shr32 x 8 (by omega)
  have s2 := shr32 x 16 (by omega)
  have s3 := shr32 x 24 (by omega)
  obtain ⟨X, hX⟩ : ∃ X : Int, X = (x : Int) := ⟨_, rfl⟩
  have HX := hidM hX
  rw [← hX] at s1 s2 s3 ⊢
  have u0 := IntKind.wrap_u8 X
  have u1 := IntKind.wrap_u8 (X / 256)
  have u2 := IntKind.wrap_u8 (X / 65536)
  have u3 := IntKind.wrap_u8 (X / 16777216)
  clear h hX
  go_enter Try.func42, Try.ntmps42
  go_wp2_with (at_builtin; refine Hid.out ?_)
  unfold Hid
  have gA := gr_alloc W (.cells #[.int .u8 (X % 256), .int .u8 (X / 256 % 256), .int .u8 (X / 65536 % 256), .int .u8 (X / 16777216 % 256)] 5)
  have hB := HB.out.gr' gA
  refine wpList_append_any _ rfl (.tmp 5) (.tmp 17) 22 22 rfl 5 (.int .u8 0) 1 Try.underlying22 info5 rfl _ n (bv bs) rfl hB.own _ 4 [.int .u8 (X % 256), .int .u8 (X / 256 % 256), .int .u8 (X / 65536 % 256), .int .u8 (X / 16777216 % 256)] rfl (src_u8 W _ 4 rfl (by simp)) (by omega) (by omega) ?_
  intro v' w1 hown hgrow hblk
  obtain ⟨vo', vc', rfl⟩ := own_form1 hown
  have HA := hidM ((hB.app (us := le4 x) (by rw [bv_le4, HX.out]) hown hgrow hblk).pre gA)
  clear hown hgrow hblk hB gA
  go_wp2_with fail
  go_ret
  exact ⟨vo', vc', rfl, HA.out⟩

theorem bv_mark (last : UInt8) : bv (mark last) = [.int .u8 67, .int .u8 79, .int .u8 76, .int .u8 (last.toNat : Int)] := rfl
theorem wrap32 {m : Nat} (hm : m ≤ 4294967295) : IntKind.u32.wrap (m : Int) = (m : Int) := by rw [IntKind.wrap_u32]; omega
theorem Byts.block (w : World) (l : List UInt8) (hl : l.length ≤ 1000) : Byts w (w.alloc (.cells (bv l).toArray 5)) (some ⟨w.heap.size, 0, none⟩) l.length l.length l := by
  refine ⟨⟨by simp [bv], .inr ⟨w.heap.size, l.length, (bv l).toArray, rfl, Nat.zero_le _, heap_alloc_new w _, Nat.le_refl _, ?_, by simp [bv], ?_⟩⟩, gr_alloc _ _, fun g e => ?_⟩
  · have : maxLen = 9223372036854775807 := by kernel_rfl
    omega
  · rw [List.take_of_length_le (by simp [bv])]
  · have : w.heap.size = g := by simpa [Value.ownBlock] using e
    omega
set_option maxRecDepth 100000 in
set_option maxHeartbeats 4000000 in
theorem head_any (last : UInt8) (m b : Nat) (s : UInt32) (w : World) (hm : m ≤ 4294967295) (hb : b ≤ 4294967295) :
    Calls Try.prog 32 #[.int .u8 (last.toNat : Int), .int .i64 (m : Int), .int .i64 (b : Int), .int .u32 (s.toNat : Int)] w fun e w' => ∃ vo vc, e = .returned (.slice vo 24 vc) ∧ Byts w w' vo vc 24 (headB last m b s) := by
  have hwm := wrap32 hm
  have hwb := wrap32 hb
  have HB := hidM (Byts.block w (mark last) (by simp [mark]))
  have HF : Hid (∀ (W : World) vo vc n bs x, Byts w W vo vc n bs → n ≤ 100 → Calls Try.prog 42 #[.slice vo n vc, .int .u32 ((x : Nat) : Int)] W fun e w' => ∃ vo' vc', e = .returned (.slice vo' (n + 4) vc') ∧ Byts w w' vo' vc' (n + 4) (bs ++ le4 x)) := fun W vo vc n bs x h hn => by
    refine (four_any x h (by omega)).mono ?_
    rintro e w' ⟨vo', vc', rfl, hA⟩
    exact ⟨vo', vc', rfl, hA.b⟩
  have HS : Hid (∀ (W : World) vo vc, Byts w W vo vc 12 (head12 last m b) → Calls Try.prog 33 #[.int .u32 2166136261, .slice vo 12 vc] W fun e w' => e = .returned (.int .u32 ((sumU sum0 (head12 last m b)).toNat : Int)) ∧ W = w') := fun W vo vc h => by
    have := sumD_any (ca := vc) sum0 h.bytes (by rw [head12_len]; omega)
    exact this
  obtain ⟨sn, hsn⟩ : ∃ sn : Nat, sn = s.toNat := ⟨_, rfl⟩
  have HSN := hidM hsn
  rw [← hsn]
  obtain ⟨la, hla⟩ : ∃ la : Int, la = (last.toNat : Int) := ⟨_, rfl⟩
  rw [bv_mark, ← hla] at HB
  rw [← hla]
  clear hsn hla hm hb
  go_enter Try.func32, Try.ntmps32
  go_wp2_with (go_at_call 42; refine Hid.out ?_)
  unfold Hid
  refine Calls.mono (HF.out _ _ _ _ _ m HB.out (by decide)) ?_
  rintro e W1 ⟨vo1, vc1, rfl, hb1⟩
  have HB1 := hidM hb1
  clear hb1
  go_wp2_with (go_at_call 42; refine Hid.out ?_)
  unfold Hid
  refine Calls.mono (HF.out _ _ _ _ _ b HB1.out (by decide)) ?_
  rintro e W2 ⟨vo2, vc2, rfl, hb2⟩
  have HB2 := hidM hb2
  clear hb2
  go_wp2_with (go_at_call 33; refine Hid.out ?_)
  unfold Hid
  refine Calls.mono (HS.out W2 vo2 vc2 HB2.out) ?_
  rintro e W3 ⟨rfl, rfl⟩
  obtain ⟨q, hq⟩ : ∃ q : Nat, q = (sumU sum0 (head12 last m b)).toNat := ⟨_, rfl⟩
  have HQ := hidM hq
  rw [← hq]
  clear hq
  go_wp2_with (go_at_call 42; refine Hid.out ?_)
  unfold Hid
  refine Calls.mono (HF.out _ _ _ _ _ q HB2.out (by decide)) ?_
  rintro e W4 ⟨vo4, vc4, rfl, hb4⟩
  have HB4 := hidM hb4
  clear hb4
  go_wp2_with (go_at_call 42; refine Hid.out ?_)
  unfold Hid
  refine Calls.mono (HF.out _ _ _ _ _ sn HB4.out (by decide)) ?_
  rintro e W5 ⟨vo5, vc5, rfl, hb5⟩
  have HB5 := hidM hb5
  clear hb5
  go_wp2_with (go_at_call 42; refine Hid.out ?_)
  unfold Hid
  refine Calls.mono (HF.out _ _ _ _ _ 0 HB5.out (by decide)) ?_
  rintro e W6 ⟨vo6, vc6, rfl, hb6⟩
  have HB6 := hidM hb6
  clear hb6
  go_wp2_with fail
  go_ret
  refine ⟨vo6, vc6, rfl, ?_⟩
  have := HB6.out
  rw [HQ.out, HSN.out, le4_zero] at this
  exact this
theorem closeD_any (w : World) : Calls Try.prog 13 #[] w fun e w' => ∃ vo vc, e = .returned (.slice vo 24 vc) ∧ Byts w w' vo vc 24 (putB 48 [] []) := by
  have HH := hidM (head_any 48 0 0 sum0 w (by omega) (by omega))
  go_enter Try.func13, Try.ntmps13
  go_wp2_with (go_at_call 32; refine Hid.out ?_)
  unfold Hid
  refine Calls.mono HH.out ?_
  rintro e W1 ⟨vo1, vc1, rfl, hb1⟩
  have HB1 := hidM hb1
  clear hb1
  go_wp2_with fail
  go_ret
  exact ⟨vo1, vc1, rfl, HB1.out⟩
end Go.Proofs.Ytemleibpmaclmaa.Kit
