import Derived.Test.YtknjnclopiklaabQA
namespace Go.Proofs.Ytknjnclopiklaab.Kit
open Go.RowKit Go.Shelf Go.Deep
set_option linter.unusedVariables false
attribute [local go_sem] run_store_func

/-- bytes that are a part of others -/
def PartOf (ao : Option Addr) (b : List UInt8) (bo : Option Addr) (l : List UInt8) : Prop :=
  l ≠ [] → ∃ bl o k, ao = some ⟨bl, o, none⟩ ∧ bo = some ⟨bl, o + k, none⟩ ∧ k + l.length ≤ b.length ∧ l = (b.drop k).take l.length
theorem PartOf.bytes {V : World} {ao bo : Option Addr} {b l : List UInt8} (p : PartOf ao b bo l) (h : BytesAt V ao b) : BytesAt V bo l := fun hn => by
  obtain ⟨bl, o, k, rfl, rfl, hk, e⟩ := p hn
  have h0 : 0 < l.length := List.length_pos_iff.2 hn
  obtain ⟨b', o', e', hc⟩ := h.at (ne_nil (i := k) (by omega))
  cases e'
  refine ⟨bl, o + k, rfl, fun i hi => ?_⟩
  have hh : i < ((b.drop k).take l.length).length := by rw [← e]; exact hi
  have e3 : l[i] = ((b.drop k).take l.length)[i]'hh := by congr 1
  rw [Nat.add_assoc, hc (k + i) (by omega), e3, List.getElem_take, drop_get (by simp; omega)]
theorem PartOf.nil (ao : Option Addr) (b : List UInt8) (bo : Option Addr) : PartOf ao b bo [] := fun h => absurd rfl h
theorem PartOf.all (ao : Option Addr) (b : List UInt8) {V : World} (h : BytesAt V ao b) : PartOf ao b ao b := fun hn => by
  obtain ⟨bl, o, e, -⟩ := h hn
  exact ⟨bl, o, 0, e, by rw [e]; rfl, by omega, by simp⟩
set_option maxRecDepth 100000 in
set_option maxHeartbeats 4000000 in
theorem first_any {ao : Option Addr} {ca : Nat} {b : List UInt8} {w : World} (how : Int) (h : BytesAt w ao b) (hne : b ≠ []) (hca : b.length ≤ ca) (hl : b.length ≤ 140737488355328) :
    Calls Try.prog 30 #[.int .i64 how, .slice ao b.length ca] w fun e w' => ∃ bo bc, e = .returned (.tuple #[.agg #[.slice bo (firstI how b).bytes.length bc, .int .i64 ((firstI how b).again : Int), .int .i64 ((firstI how b).back : Int)], .int .i64 ((firstI how b).size : Int)]) ∧ PartOf ao b bo (firstI how b).bytes ∧ Gr w w' := by
  have h0 : 0 < b.length := List.length_pos_iff.2 hne
  obtain ⟨bl, o, rfl, hc⟩ := h.at hne
  obtain ⟨L, hL⟩ : ∃ L, L = b.length := ⟨_, rfl⟩
  obtain ⟨c, hcd⟩ : ∃ c, c = (b.getD 0 0).toNat := ⟨_, rfl⟩
  have hcb : c < 256 := by rw [hcd]; exact UInt8.toNat_lt _
  have t0 := (gr_alloc w (.cells #[.slice none 0 0, .int .i64 0, .int .i64 0] 42)).cell' (hc 0 h0) id
  rw [← hcd, Nat.add_zero] at t0
  have HS := hidM (sizeOf_any how c L hcb)
  obtain ⟨s, hs⟩ : ∃ s, s = sizeI how c L := ⟨_, rfl⟩
  rw [← hs] at HS
  have HC := hidM hc
  have hsd : (firstI how b).size = s := by rw [firstI_size, ← hcd, ← hL, hs]
  rw [← hL] at h0 hl hca ⊢
  have HL := hidM hL
  have HCd := hidM hcd
  have HSz := hidM hs
  have hsb : s ≤ 140737488355328 := by rw [hs]; unfold sizeI; split; exact hl; split; omega; split <;> omega
  have h0I : (0 : Int) < (L : Int) := by omega
  clear hc h hne hL hcd hs
  go_enter Try.func30, Try.ntmps30
  by_cases c0 : L < s
  · have c0I : (L : Int) < (s : Int) := by omega
    have HF : Hid (firstI how b = ⟨[], 0, 0, s⟩) := by
      show _ = _
      unfold firstI
      simp only [← HCd.out, ← HL.out, ← HSz.out]
      rw [if_pos c0]
    clear hsd
    go_wp2_with (go_at_call 35; refine Hid.out ?_)
    unfold Hid
    refine Calls.mono (HS.out _) ?_
    rintro e w' ⟨rfl, rfl⟩
    go_wp2_with fail
    have hbx := ce3 (heap_alloc_new w (.cells #[.slice none 0 0, .int .i64 0, .int .i64 0] 42))
    obtain ⟨z0, z1, z2⟩ := hbx
    refine bodyPost_ret (v := .tuple #[.agg #[.slice none 0 0, .int .i64 0, .int .i64 0], .int .i64 (s : Int)]) ?_ rfl ⟨none, 0, ?_, ?_, gr_alloc _ _⟩
    · simp [results, Try.f30, go_sem, z0, z1, z2]
    · rw [HF.out]; rfl
    · rw [HF.out]; exact PartOf.nil _ _ _
  have c0I : ¬ (L : Int) < (s : Int) := by omega
  by_cases c1 : how = 0
  · have c1b : (how == 0) = true := by simp [c1]
    have HF : Hid (firstI how b = ⟨b, 0, 0, s⟩) := by
      show _ = _
      unfold firstI
      simp only [← HCd.out, ← HL.out, ← HSz.out]
      rw [if_neg c0, if_pos c1]
    have HAll := hidM (PartOf.all (V := w) (some ⟨bl, o, none⟩) b (fun _ => ⟨bl, o, rfl, fun i hi => by rw [HC.out i hi, List.getD_eq_getElem?_getD, List.getElem?_eq_getElem hi]; rfl⟩))
    clear hsd c1
    go_wp2_with (go_at_call 35; refine Hid.out ?_)
    unfold Hid
    refine Calls.mono (HS.out _) ?_
    rintro e w' ⟨rfl, rfl⟩
    go_wp2_with fail
    have hbx := ce3 (heap_alloc_new w (.cells #[.slice (some ⟨bl, o, none⟩) L ca, .int .i64 0, .int .i64 0] 42))
    obtain ⟨z0, z1, z2⟩ := hbx
    refine bodyPost_ret (v := .tuple #[.agg #[.slice (some ⟨bl, o, none⟩) L ca, .int .i64 0, .int .i64 0], .int .i64 (s : Int)]) ?_ rfl ⟨(some ⟨bl, o, none⟩), ca, ?_, ?_, gr_alloc _ _⟩
    · simp [results, Try.f30, go_sem, z0, z1, z2]
    · rw [HF.out, HL.out]; rfl
    · rw [HF.out]; exact HAll.out
  have c1b : (how == 0) = false := beqF c1
  have hs1 : 2 ≤ s := by have := HSz.out; unfold sizeI at this; rw [if_neg c1] at this; split at this; omega; split at this <;> omega
  have HPart : Hid (∀ m, m + 1 ≤ L → PartOf (some ⟨bl, o, none⟩) b (some ⟨bl, o + 1, none⟩) ((b.drop 1).take m)) := fun m hm hn => by
    have hlm : ((b.drop 1).take m).length = m := by have := HL.out; simp; omega
    exact ⟨bl, o, 1, rfl, rfl, by rw [hlm, ← HL.out]; omega, by rw [hlm]⟩
  have hlt : ((b.drop 1).take (s - 1)).length = s - 1 := by have := HL.out; simp; omega
  have HLt := hidM hlt
  have hsI : (1 : Int) ≤ (s : Int) := by omega
  have hsca : (s : Int) ≤ (ca : Int) := by omega
  clear hlt
  by_cases c2 : c < 128
  · have c2I : (c : Int) < 128 := by omega
    have HF : Hid (firstI how b = ⟨(b.drop 1).take (s - 1), 0, 0, s⟩) := by
      show _ = _
      unfold firstI
      simp only [← HCd.out, ← HL.out, ← HSz.out]
      rw [if_neg c0, if_neg c1, if_pos c2]
    clear hsd c1
    go_wp2_with (go_at_call 35; refine Hid.out ?_)
    unfold Hid
    refine Calls.mono (HS.out _) ?_
    rintro e w' ⟨rfl, rfl⟩
    go_wp2_with fail
    have hbx := ce3 (heap_alloc_new w (.cells #[.slice (some ⟨bl, o + 1, none⟩) (s - 1) (ca - 1), .int .i64 0, .int .i64 0] 42))
    obtain ⟨z0, z1, z2⟩ := hbx
    refine bodyPost_ret (v := .tuple #[.agg #[.slice (some ⟨bl, o + 1, none⟩) (s - 1) (ca - 1), .int .i64 0, .int .i64 0], .int .i64 (s : Int)]) ?_ rfl ⟨(some ⟨bl, o + 1, none⟩), (ca - 1), ?_, ?_, gr_alloc _ _⟩
    · simp [results, Try.f30, go_sem, z0, z1, z2]
    · rw [HF.out, HLt.out]; rfl
    · rw [HF.out]; exact HPart.out (s - 1) (by omega)
  have c2I : ¬ (c : Int) < 128 := by omega
  by_cases c3 : how = 1
  · have c3b : (how == 1) = true := by simp [c3]
    have HF : Hid (firstI how b = ⟨(b.drop 1).take (s - 1), c - 126, 1, s⟩) := by
      show _ = _
      unfold firstI
      simp only [← HCd.out, ← HL.out, ← HSz.out]
      rw [if_neg c0, if_neg c1, if_neg c2, if_pos c3]
    have hag : (c : Int) - 128 + 3 - 1 = ((c - 126 : Nat) : Int) := by omega
    obtain ⟨ag, hagd⟩ : ∃ ag : Int, ag = ((c - 126 : Nat) : Int) := ⟨_, rfl⟩
    rw [← hagd] at hag
    have HAg := hidM hagd
    clear hsd c1 c3 hagd
    go_wp2_with (go_at_call 35; refine Hid.out ?_)
    unfold Hid
    refine Calls.mono (HS.out _) ?_
    rintro e w' ⟨rfl, rfl⟩
    go_wp2_with fail
    have hbx := ce3 (heap_alloc_new w (.cells #[.slice (some ⟨bl, o + 1, none⟩) (s - 1) (ca - 1), .int .i64 ag, .int .i64 1] 42))
    obtain ⟨z0, z1, z2⟩ := hbx
    refine bodyPost_ret (v := .tuple #[.agg #[.slice (some ⟨bl, o + 1, none⟩) (s - 1) (ca - 1), .int .i64 ag, .int .i64 1], .int .i64 (s : Int)]) ?_ rfl ⟨(some ⟨bl, o + 1, none⟩), (ca - 1), ?_, ?_, gr_alloc _ _⟩
    · simp [results, Try.f30, go_sem, z0, z1, z2]
    · rw [HF.out, HAg.out, HLt.out]; rfl
    · rw [HF.out]; exact HPart.out (s - 1) (by omega)
  have c3b : (how == 1) = false := beqF c3
  have hs3 : s = 3 := by have := HSz.out; unfold sizeI at this; rw [if_neg c1, if_neg c2, if_neg c3] at this; exact this
  have t1 := (gr_alloc w (.cells #[.slice none 0 0, .int .i64 0, .int .i64 0] 42)).cell' (HC.out 1 (by rw [← HL.out]; omega)) id
  have t2 := (gr_alloc w (.cells #[.slice none 0 0, .int .i64 0, .int .i64 0] 42)).cell' (HC.out 2 (by rw [← HL.out]; omega)) id
  have HF : Hid (firstI how b = ⟨[], c - 124, (b.getD 1 0).toNat + (b.getD 2 0).toNat * 256 + 1, s⟩) := by
    show _ = _
    unfold firstI
    simp only [← HCd.out, ← HL.out, ← HSz.out]
    rw [if_neg c0, if_neg c1, if_neg c2, if_neg c3]
  obtain ⟨x1, hx1⟩ : ∃ x, x = (b.getD 1 0).toNat := ⟨_, rfl⟩
  obtain ⟨x2, hx2⟩ : ∃ x, x = (b.getD 2 0).toNat := ⟨_, rfl⟩
  have hb1 : x1 < 256 := by rw [hx1]; exact UInt8.toNat_lt _
  have hb2 : x2 < 256 := by rw [hx2]; exact UInt8.toNat_lt _
  rw [← hx1] at t1 HF
  rw [← hx2] at t2 HF
  have h1L : (1 : Int) < (L : Int) := by omega
  have h2L : (2 : Int) < (L : Int) := by omega
  have hag : (c : Int) - 128 + 4 = ((c - 124 : Nat) : Int) := by omega
  obtain ⟨ag, hagd⟩ : ∃ ag : Int, ag = ((c - 124 : Nat) : Int) := ⟨_, rfl⟩
  rw [← hagd] at hag
  have HAg := hidM hagd
  have HS3 := hidM hs3
  obtain ⟨bk, hbk⟩ : ∃ bk : Int, bk = ((x1 + x2 * 256 + 1 : Nat) : Int) := ⟨_, rfl⟩
  have he1 : IntKind.i64.wrap (IntKind.i64.wrap ((c : Int) - 128) + 4) = ag := by rw [IntKind.wrap_i64, IntKind.wrap_i64]; omega
  have he2 : IntKind.i64.wrap (IntKind.i64.wrap (IntKind.i64.wrap (x1 : Int) + IntKind.i64.wrap (IntKind.i64.wrap (x2 : Int) * 256)) + 1) = bk := by
    rw [IntKind.wrap_i64 (x1 : Int), IntKind.wrap_i64 (x2 : Int)]
    rw [show ((x1 : Int) + 9223372036854775808) % 18446744073709551616 - 9223372036854775808 = (x1 : Int) by omega, show ((x2 : Int) + 9223372036854775808) % 18446744073709551616 - 9223372036854775808 = (x2 : Int) by omega]
    rw [IntKind.wrap_i64 ((x2 : Int) * 256), show ((x2 : Int) * 256 + 9223372036854775808) % 18446744073709551616 - 9223372036854775808 = (x2 : Int) * 256 by omega]
    rw [IntKind.wrap_i64 ((x1 : Int) + (x2 : Int) * 256), show ((x1 : Int) + (x2 : Int) * 256 + 9223372036854775808) % 18446744073709551616 - 9223372036854775808 = (x1 : Int) + (x2 : Int) * 256 by omega, IntKind.wrap_i64]
    omega
  have HT1 := hidM ((gr_alloc w (.cells #[.slice none 0 0, .int .i64 ag, .int .i64 bk] 42)).drew.cell' (HC.out 1 (by rw [← HL.out]; omega)) id)
  have HT2 := hidM ((gr_alloc w (.cells #[.slice none 0 0, .int .i64 ag, .int .i64 bk] 42)).drew.cell' (HC.out 2 (by rw [← HL.out]; omega)) id)
  have HBk := hidM hbk
  rw [← hx1] at HT1
  rw [← hx2] at HT2
  clear hsd c1 c3 hagd hx1 hx2 hs3 hbk
  go_wp2_with (go_at_call 35; refine Hid.out ?_)
  unfold Hid
  refine Calls.mono (HS.out _) ?_
  rintro e w' ⟨rfl, rfl⟩
  go_wp2_with fail
  refine wp_region_held_drew (S := fun w' => w'.cell? ⟨bl, o + 1, none⟩ = some (.int .u8 (x1 : Int)) ∧ w'.cell? ⟨bl, o + 2, none⟩ = some (.int .u8 (x2 : Int))) (by kernel_rfl) (⟨t1, t2⟩) (fun hHeld => ?_)
  refine wpAnyH_take (i := 0) (oi := { dst := some 50, op := Op.move (Operand.tmp 6), type := 3, pos := "unpack.go:55", after := #[], guard := none }) (v := ?v0u1) rfl (by kernel_rfl) (by kernel_rfl) (by kernel_rfl) (fun _ _ _ h => h) (Or.inl ⟨by rfl, ?y0u1⟩) (by assumption) ?r0u1
  case y0u1 => (intro w hSw; obtain ⟨hS1, hS2⟩ := hSw; go_simp; (try with_reducible rfl))
  (try simp only [Act.put]); (try simp only [List.setIfInBounds_toArray]); (try simp only [List.set_cons_succ]); (try simp only [List.set_cons_zero])
  refine wpAnyH_take (i := 1) (oi := { dst := some 51, op := Op.binOp BinOp.sub 3 (Operand.tmp 50) (Operand.const (Value.int IntKind.i64 128)) 3, type := 3, pos := "unpack.go:55", after := #[{ on := 0, ground := Ground.data }], guard := none }) (v := ?v1u2) rfl (by kernel_rfl) (by kernel_rfl) (by kernel_rfl) (fun _ _ _ h => h) (Or.inl ⟨by rfl, ?y1u2⟩) (by assumption) ?r1u2
  case y1u2 => (intro w hSw; obtain ⟨hS1, hS2⟩ := hSw; go_simp; (try with_reducible rfl))
  (try simp only [Act.put]); (try simp only [List.setIfInBounds_toArray]); (try simp only [List.set_cons_succ]); (try simp only [List.set_cons_zero])
  refine wpAnyH_take (i := 2) (oi := { dst := some 52, op := Op.binOp BinOp.add 3 (Operand.tmp 51) (Operand.const (Value.int IntKind.i64 4)) 3, type := 3, pos := "unpack.go:55", after := #[{ on := 1, ground := Ground.data }], guard := none }) (v := ?v2u3) rfl (by kernel_rfl) (by kernel_rfl) (by kernel_rfl) (fun _ _ _ h => h) (Or.inl ⟨by rfl, ?y2u3⟩) (by assumption) ?r2u3
  case y2u3 => (intro w hSw; obtain ⟨hS1, hS2⟩ := hSw; go_simp; (try with_reducible rfl))
  (try simp only [Act.put]); (try simp only [List.setIfInBounds_toArray]); (try simp only [List.set_cons_succ]); (try simp only [List.set_cons_zero])
  refine wpAnyH_take (i := 3) (oi := { dst := some 53, op := Op.move (Operand.tmp 1), type := 22, pos := "unpack.go:55", after := #[], guard := none }) (v := ?v3u4) rfl (by kernel_rfl) (by kernel_rfl) (by kernel_rfl) (fun _ _ _ h => h) (Or.inl ⟨by rfl, ?y3u4⟩) (by assumption) ?r3u4
  case y3u4 => (intro w hSw; obtain ⟨hS1, hS2⟩ := hSw; go_simp; (try with_reducible rfl))
  (try simp only [Act.put]); (try simp only [List.setIfInBounds_toArray]); (try simp only [List.set_cons_succ]); (try simp only [List.set_cons_zero])
  refine wpAnyH_take (i := 4) (oi := { dst := some 54, op := Op.indexAddr 22 (Operand.tmp 53) (Operand.const (Value.int IntKind.i64 1)), type := 0, pos := "unpack.go:55", after := #[{ on := 3, ground := Ground.data }], guard := none }) (v := ?v4u5) rfl (by kernel_rfl) (by kernel_rfl) (by kernel_rfl) (fun _ _ _ h => h) (Or.inl ⟨by rfl, ?y4u5⟩) (by assumption) ?r4u5
  case y4u5 => (intro w hSw; obtain ⟨hS1, hS2⟩ := hSw; go_simp; (try with_reducible rfl))
  (try simp only [Act.put]); (try simp only [List.setIfInBounds_toArray]); (try simp only [List.set_cons_succ]); (try simp only [List.set_cons_zero])
  refine wpAnyH_take (i := 5) (oi := { dst := some 55, op := Op.load 5 (Operand.tmp 54), type := 5, pos := "unpack.go:55", after := #[{ on := 4, ground := Ground.data }], guard := none }) (v := ?v5u6) rfl (by kernel_rfl) (by kernel_rfl) (by kernel_rfl) (fun _ _ _ h => h) (Or.inl ⟨by rfl, ?y5u6⟩) (by assumption) ?r5u6
  case y5u6 => (intro w hSw; obtain ⟨hS1, hS2⟩ := hSw; go_simp; (try with_reducible rfl))
  (try simp only [Act.put]); (try simp only [List.setIfInBounds_toArray]); (try simp only [List.set_cons_succ]); (try simp only [List.set_cons_zero])
  refine wpAnyH_take (i := 6) (oi := { dst := some 56, op := Op.convert 5 3 (Operand.tmp 55), type := 3, pos := "unpack.go:55", after := #[{ on := 5, ground := Ground.data }], guard := none }) (v := ?v6u7) rfl (by kernel_rfl) (by kernel_rfl) (by kernel_rfl) (fun _ _ _ h => h) (Or.inl ⟨by rfl, ?y6u7⟩) (by assumption) ?r6u7
  case y6u7 => (intro w hSw; obtain ⟨hS1, hS2⟩ := hSw; go_simp; (try with_reducible rfl))
  (try simp only [Act.put]); (try simp only [List.setIfInBounds_toArray]); (try simp only [List.set_cons_succ]); (try simp only [List.set_cons_zero])
  refine wpAnyH_take (i := 7) (oi := { dst := some 57, op := Op.move (Operand.tmp 1), type := 22, pos := "unpack.go:55", after := #[], guard := none }) (v := ?v7u8) rfl (by kernel_rfl) (by kernel_rfl) (by kernel_rfl) (fun _ _ _ h => h) (Or.inl ⟨by rfl, ?y7u8⟩) (by assumption) ?r7u8
  case y7u8 => (intro w hSw; obtain ⟨hS1, hS2⟩ := hSw; go_simp; (try with_reducible rfl))
  (try simp only [Act.put]); (try simp only [List.setIfInBounds_toArray]); (try simp only [List.set_cons_succ]); (try simp only [List.set_cons_zero])
  refine wpAnyH_take (i := 8) (oi := { dst := some 58, op := Op.indexAddr 22 (Operand.tmp 57) (Operand.const (Value.int IntKind.i64 2)), type := 0, pos := "unpack.go:55", after := #[{ on := 7, ground := Ground.data }], guard := none }) (v := ?v8u9) rfl (by kernel_rfl) (by kernel_rfl) (by kernel_rfl) (fun _ _ _ h => h) (Or.inl ⟨by rfl, ?y8u9⟩) (by assumption) ?r8u9
  case y8u9 => (intro w hSw; obtain ⟨hS1, hS2⟩ := hSw; go_simp; (try with_reducible rfl))
  (try simp only [Act.put]); (try simp only [List.setIfInBounds_toArray]); (try simp only [List.set_cons_succ]); (try simp only [List.set_cons_zero])
  refine wpAnyH_take (i := 9) (oi := { dst := some 59, op := Op.load 5 (Operand.tmp 58), type := 5, pos := "unpack.go:55", after := #[{ on := 8, ground := Ground.data }], guard := none }) (v := ?v9u10) rfl (by kernel_rfl) (by kernel_rfl) (by kernel_rfl) (fun _ _ _ h => h) (Or.inl ⟨by rfl, ?y9u10⟩) (by assumption) ?r9u10
  case y9u10 => (intro w hSw; obtain ⟨hS1, hS2⟩ := hSw; go_simp; (try with_reducible rfl))
  (try simp only [Act.put]); (try simp only [List.setIfInBounds_toArray]); (try simp only [List.set_cons_succ]); (try simp only [List.set_cons_zero])
  refine wpAnyH_take (i := 10) (oi := { dst := some 60, op := Op.convert 5 3 (Operand.tmp 59), type := 3, pos := "unpack.go:55", after := #[{ on := 9, ground := Ground.data }], guard := none }) (v := ?v10u11) rfl (by kernel_rfl) (by kernel_rfl) (by kernel_rfl) (fun _ _ _ h => h) (Or.inl ⟨by rfl, ?y10u11⟩) (by assumption) ?r10u11
  case y10u11 => (intro w hSw; obtain ⟨hS1, hS2⟩ := hSw; go_simp; (try with_reducible rfl))
  (try simp only [Act.put]); (try simp only [List.setIfInBounds_toArray]); (try simp only [List.set_cons_succ]); (try simp only [List.set_cons_zero])
  refine wpAnyH_take (i := 11) (oi := { dst := some 61, op := Op.binOp BinOp.shl 3 (Operand.tmp 60) (Operand.const (Value.int IntKind.u64 8)) 53, type := 3, pos := "unpack.go:55", after := #[{ on := 10, ground := Ground.data }], guard := none }) (v := ?v11u12) rfl (by kernel_rfl) (by kernel_rfl) (by kernel_rfl) (fun _ _ _ h => h) (Or.inl ⟨by rfl, ?y11u12⟩) (by assumption) ?r11u12
  case y11u12 => (intro w hSw; obtain ⟨hS1, hS2⟩ := hSw; go_simp; (try with_reducible rfl))
  (try simp only [Act.put]); (try simp only [List.setIfInBounds_toArray]); (try simp only [List.set_cons_succ]); (try simp only [List.set_cons_zero])
  refine wpAnyH_take (i := 12) (oi := { dst := some 62, op := Op.binOp BinOp.add 3 (Operand.tmp 56) (Operand.tmp 61) 3, type := 3, pos := "unpack.go:55", after := #[{ on := 6, ground := Ground.data }, { on := 11, ground := Ground.data }], guard := none }) (v := ?v12u13) rfl (by kernel_rfl) (by kernel_rfl) (by kernel_rfl) (fun _ _ _ h => h) (Or.inl ⟨by rfl, ?y12u13⟩) (by assumption) ?r12u13
  case y12u13 => (intro w hSw; obtain ⟨hS1, hS2⟩ := hSw; go_simp; (try with_reducible rfl))
  (try simp only [Act.put]); (try simp only [List.setIfInBounds_toArray]); (try simp only [List.set_cons_succ]); (try simp only [List.set_cons_zero])
  refine wpAnyH_take (i := 13) (oi := { dst := some 63, op := Op.binOp BinOp.add 3 (Operand.tmp 62) (Operand.const (Value.int IntKind.i64 1)) 3, type := 3, pos := "unpack.go:55", after := #[{ on := 12, ground := Ground.data }], guard := none }) (v := ?v13u14) rfl (by kernel_rfl) (by kernel_rfl) (by kernel_rfl) (fun _ _ _ h => h) (Or.inl ⟨by rfl, ?y13u14⟩) (by assumption) ?r13u14
  case y13u14 => (intro w hSw; obtain ⟨hS1, hS2⟩ := hSw; go_simp; (try with_reducible rfl))
  (try simp only [Act.put]); (try simp only [List.setIfInBounds_toArray]); (try simp only [List.set_cons_succ]); (try simp only [List.set_cons_zero])
  refine wpAnyH_take (i := 14) (oi := { dst := some 64, op := Op.build 42 #[(1, Operand.tmp 52), (2, Operand.tmp 63)], type := 42, pos := "unpack.go:55", after := #[{ on := 2, ground := Ground.data }, { on := 13, ground := Ground.data }], guard := none }) (v := ?v14u15) rfl (by kernel_rfl) (by kernel_rfl) (by kernel_rfl) (fun _ _ _ h => h) (Or.inl ⟨by rfl, ?y14u15⟩) (by assumption) ?r14u15
  case y14u15 => (intro w hSw; obtain ⟨hS1, hS2⟩ := hSw; go_simp; (try with_reducible rfl))
  (try simp only [Act.put]); (try simp only [List.setIfInBounds_toArray]); (try simp only [List.set_cons_succ]); (try simp only [List.set_cons_zero])
  refine wpAnyH_take (i := 15) (oi := { dst := some 65, op := Op.move (Operand.tmp 7), type := 3, pos := "unpack.go:55", after := #[{ on := 16, ground := Ground.gcOnly Departure.lateStores }], guard := none }) (v := ?v15u16) rfl (by kernel_rfl) (by kernel_rfl) (by kernel_rfl) (fun _ _ _ h => h) (Or.inl ⟨by rfl, ?y15u16⟩) (by assumption) ?r15u16
  case y15u16 => (intro w hSw; obtain ⟨hS1, hS2⟩ := hSw; go_simp; (try with_reducible rfl))
  (try simp only [Act.put]); (try simp only [List.setIfInBounds_toArray]); (try simp only [List.set_cons_succ]); (try simp only [List.set_cons_zero])
  refine wpAnyH_ready (rs := [16]) (by kernel_rfl) (by simp) ?_
  refine AllReadyH.cons (o := { dst := none, op := Op.store 42 (Operand.tmp 4) (Operand.tmp 64), type := 0, pos := "unpack.go:55", after := #[{ on := 14, ground := Ground.data }, { on := 0, ground := Ground.phase }, { on := 1, ground := Ground.phase }, { on := 2, ground := Ground.phase }, { on := 3, ground := Ground.phase }, { on := 4, ground := Ground.phase }, { on := 5, ground := Ground.phase }, { on := 6, ground := Ground.phase }, { on := 7, ground := Ground.phase }, { on := 8, ground := Ground.phase }, { on := 9, ground := Ground.phase }, { on := 10, ground := Ground.phase }, { on := 11, ground := Ground.phase }, { on := 12, ground := Ground.phase }, { on := 13, ground := Ground.phase }, { on := 14, ground := Ground.phase }, { on := 15, ground := Ground.textOnly Departure.lateStores }], guard := none }) rfl (fun Kc hK => ?_) AllReadyH.nil
  go_simp

  refine hK.out _ _ (⟨HT1.out, HT2.out⟩) (fun hHeld => ?_)
  clear hK Kc
  (try simp only [Act.put]); (try simp only [List.setIfInBounds_toArray]); (try simp only [List.set_cons_succ]); (try simp only [List.set_cons_zero])
  refine wpAnyH_take (i := 17) (oi := { dst := some 5, op := Op.assign (Operand.tmp 65), type := 3, pos := "unpack.go:55", after := #[{ on := 15, ground := Ground.data }, { on := 16, ground := Ground.chain }, { on := 0, ground := Ground.phase }, { on := 1, ground := Ground.phase }, { on := 2, ground := Ground.phase }, { on := 3, ground := Ground.phase }, { on := 4, ground := Ground.phase }, { on := 5, ground := Ground.phase }, { on := 6, ground := Ground.phase }, { on := 7, ground := Ground.phase }, { on := 8, ground := Ground.phase }, { on := 9, ground := Ground.phase }, { on := 10, ground := Ground.phase }, { on := 11, ground := Ground.phase }, { on := 12, ground := Ground.phase }, { on := 13, ground := Ground.phase }, { on := 14, ground := Ground.phase }, { on := 15, ground := Ground.phase }, { on := 16, ground := Ground.phase }], guard := none }) (v := ?v17u17) rfl (by kernel_rfl) (by kernel_rfl) (by kernel_rfl) (fun _ _ _ h => h) (Or.inl ⟨by rfl, ?y17u17⟩) (by assumption) ?r17u17
  case y17u17 => (intro w hSw; obtain ⟨hS1, hS2⟩ := hSw; go_simp; (try with_reducible rfl))
  (try simp only [Act.put]); (try simp only [List.setIfInBounds_toArray]); (try simp only [List.set_cons_succ]); (try simp only [List.set_cons_zero])
  refine wpAnyH_done (by kernel_rfl) ?_ _
  go_wp2_with fail
  have hbx := ce3 (heap_alloc_new w (.cells #[.slice none 0 0, .int .i64 ag, .int .i64 bk] 42))
  obtain ⟨z0, z1, z2⟩ := hbx
  refine bodyPost_ret (v := .tuple #[.agg #[.slice none 0 0, .int .i64 ag, .int .i64 bk], .int .i64 (s : Int)]) ?_ rfl ⟨none, 0, ?_, ?_, (gr_alloc _ _).drew⟩
  · simp [results, Try.f30, go_sem, z0, z1, z2]
  · rw [HF.out, HAg.out, HBk.out]; rfl
  · rw [HF.out]; exact PartOf.nil _ _ _

end Go.Proofs.Ytknjnclopiklaab.Kit
