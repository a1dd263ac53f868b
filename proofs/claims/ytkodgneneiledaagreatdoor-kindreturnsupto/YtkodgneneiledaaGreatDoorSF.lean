import Derived.Test.YtkodgneneiledaaGreatDoorSD
import Derived.Laws.IdiomStrings
namespace Go.Proofs.YtkodgneneiledaaGreatDoor.Kit
open Go.RowKit Go.Shelf Go.Deep
set_option linter.unusedVariables false
attribute [local go_sem] run_store_func

/-! ### quoted texts -/
def bv (l : List UInt8) : List Value := l.map fun b => .int .u8 (b.toNat : Int)
def hxB (n : Nat) : UInt8 := if n < 10 then UInt8.ofNat (48 + n) else UInt8.ofNat (87 + n)
def qb (c : UInt8) : List UInt8 := if c.toNat = 34 ∨ c.toNat = 92 then [92, c] else if 32 ≤ c.toNat ∧ c.toNat ≤ 126 then [c] else [92, 120, hxB (c.toNat / 16), hxB (c.toNat % 16)]
def qP (s : ByteArray) (k : Nat) : List UInt8 := 34 :: (s.data.toList.take k).flatMap qb
def qtB (s : ByteArray) : ByteArray := ⟨(qP s s.size ++ [34]).toArray⟩
theorem qb_len (c : UInt8) : (qb c).length ≤ 4 := by
  unfold qb
  split
  · simp
  · split <;> simp
theorem qP_succ (s : ByteArray) (k : Nat) (h : k < s.size) : qP s (k + 1) = qP s k ++ qb (s[k]'h) := by
  have hb : s.data.toList[k]? = some (s[k]'h) := by rw [Array.getElem?_toList]; exact Array.getElem?_eq_getElem h
  unfold qP
  rw [List.take_add_one, hb, List.flatMap_append]
  simp
theorem qP_len (s : ByteArray) : ∀ k, (qP s k).length ≤ 1 + 4 * k := fun k => by
  induction k with
  | zero => simp [qP]
  | succ k ih =>
    by_cases h : k < s.size
    · rw [qP_succ s k h, List.length_append]; have := qb_len (s[k]'h); omega
    · have e : qP s (k + 1) = qP s k := by
        unfold qP
        rw [List.take_of_length_le (by simp; omega), List.take_of_length_le (by simp; omega)]
      rw [e]; omega
theorem qtB_size (s : ByteArray) : (qtB s).size ≤ 2 + 4 * s.size := by
  have := qP_len s s.size
  show ((qP s s.size ++ [34]).toArray).size ≤ _
  simp
  omega
/-- bytes of the call's own -/
structure Byts (w W : World) (vo : Option Addr) (vc n : Nat) (bs : List UInt8) : Prop where
  own : W.ownsRow 0 5 1 (.slice vo n vc) n (bv bs)
  gr : Gr w W
  new : ∀ g, (Value.slice vo n vc).ownBlock = some g → w.heap.size ≤ g
theorem info5 : (Tryz.prog.info? 5).map (fun i => (i.zero, i.size, i.bytes)) = some (some (.int .u8 0), 1, 1) := by kernel_rfl
theorem Byts.app {w W W2 : World} {vo vo' : Option Addr} {vc vc' n m : Nat} {bs us : List UInt8} {vs : List Value} (h : Byts w W vo vc n bs) (hvs : vs = bv us)
    (ho : W2.ownsRow 0 5 1 (.slice vo' m vc') m (bv bs ++ vs)) (hg : W.grownBy W2 (Value.slice vo n vc).ownBlock)
    (hor : (Value.slice vo' m vc').ownBlock = (Value.slice vo n vc).ownBlock ∨ ∀ g, (Value.slice vo' m vc').ownBlock = some g → W.heap.size ≤ g) : Byts w W2 vo' vc' m (bs ++ us) := by
  refine ⟨?_, h.gr.trans (Keeps.ofGrown hg) (fun j hj e => by have := h.new j e; omega), fun g hg' => ?_⟩
  · have e : bv (bs ++ us) = bv bs ++ vs := by rw [hvs]; simp [bv]
    rw [e]; exact ho
  · rcases hor with h1 | h1
    · rw [h1] at hg'; exact h.new g hg'
    · exact Nat.le_trans h.gr.size (h1 g hg')
theorem Byts.gr' {w W W' : World} {vo : Option Addr} {vc n : Nat} {bs : List UInt8} (h : Byts w W vo vc n bs) (g : Gr W W') : Byts w W' vo vc n bs :=
  ⟨own_kp h.own fun b e => g.block b (own_lt h.own b e) id, h.gr.trans g (fun _ _ h => h), h.new⟩
theorem Byts.one (w W : World) (g : Gr w W) : Byts w (W.alloc (.cells #[.int .u8 34] 5)) (some ⟨W.heap.size, 0, none⟩) 1 1 [34] := by
  refine ⟨⟨rfl, .inr ⟨W.heap.size, 1, #[.int .u8 34], rfl, Nat.zero_le _, World.alloc_heap_new W _, by omega, by decide, rfl, rfl⟩⟩, g.alloc _, fun x hx => ?_⟩
  have e : W.heap.size = x := by simpa [Value.ownBlock] using hx
  rw [← e]; exact g.size
theorem src_u8 (w : World) (cs : List Value) (n : Nat) (hn : n = cs.length) (h1 : ∀ v ∈ cs, ∃ z, v = .int .u8 z) : Src Tryz.prog 1 111 (.slice (some ⟨w.heap.size, 0, none⟩) n n) n cs (w.alloc (.cells cs.toArray 5)) := by
  subst hn
  refine Src.ofSlice (w := w.alloc (.cells cs.toArray 5)) Tryz.underlying111 ⟨w.heap.size, 0, none⟩ cs.length cs.length cs (by simp) (fun j x h => ?_) (fun x h => by obtain ⟨z, rfl⟩ := h1 x h; rfl)
  have hb := World.alloc_heap_new w (.cells cs.toArray 5)
  have e : (⟨w.heap.size, 0, none⟩ : Addr).add j = ⟨w.heap.size, j, none⟩ := by cases j <;> simp [Addr.add]
  rw [e]
  simp only [World.cell?, hb]
  simpa using h
set_option maxRecDepth 100000 in
theorem bytes_string {w W : World} {vo : Option Addr} {vc n : Nat} {bs : List UInt8} (h : Byts w W vo vc n bs) (h0 : 0 < n) : (convert 111 9 (.slice vo n vc)).run Tryz.prog W = .ok (.string ⟨bs.toArray⟩) W := by
  have hl : bs.length = n := by have := h.own.1; simpa [bv] using this
  rcases h.own.2 with ⟨e, e0⟩ | ⟨g, cap, cur, e, _⟩
  · omega
  · cases e
    subst hl
    refine run_convert_bytes_back W 111 9 5 ⟨g, 0, none⟩ vc bs Tryz.underlying111 Tryz.underlying5 Tryz.underlying9 fun j hj => ?_
    exact h.own.cells rfl j _ (by simp [bv, List.getElem?_eq_getElem hj])
/-- a digit of base sixteen -/
theorem index_hexP (m : Nat) (hm : m < 16) : ∀ w, (Instr.index 9 (.string ⟨#[48, 49, 50, 51, 52, 53, 54, 55, 56, 57, 97, 98, 99, 100, 101, 102]⟩) (.int .u8 (m : Int))).run Tryz.prog w = .ok (.int .u8 ((hxB m).toNat : Int)) w := by
  have hc : m = 0 ∨ m = 1 ∨ m = 2 ∨ m = 3 ∨ m = 4 ∨ m = 5 ∨ m = 6 ∨ m = 7 ∨ m = 8 ∨ m = 9 ∨ m = 10 ∨ m = 11 ∨ m = 12 ∨ m = 13 ∨ m = 14 ∨ m = 15 := by omega
  rcases hc with rfl | rfl | rfl | rfl | rfl | rfl | rfl | rfl | rfl | rfl | rfl | rfl | rfl | rfl | rfl | rfl <;> (intro w; show Eq _ _; kernel_rfl)
set_option maxRecDepth 100000 in
set_option maxHeartbeats 1000000 in
theorem isPlain_any (c : Nat) (w : World) : Calls Tryz.prog 106 #[.int .u8 (c : Int)] w fun e w' => e = .returned (.bool (decide (32 ≤ c) && decide (c ≤ 126))) ∧ w' = w := by
  go_enter Tryz.func106, Tryz.ntmps106
  by_cases h1 : 32 ≤ c
  · have i1 : (32 : Int) ≤ (c : Int) := by omega
    by_cases h2 : c ≤ 126
    · have i2 : (c : Int) ≤ 126 := by omega
      go_wp2
      go_ret
      exact ⟨by simp [h1, h2], rfl⟩
    · have i2 : ¬ (c : Int) ≤ 126 := by omega
      go_wp2
      go_ret
      exact ⟨by simp, rfl⟩
  · have i1 : ¬ (32 : Int) ≤ (c : Int) := by omega
    go_wp2
    go_ret
    exact ⟨by simp, rfl⟩
end Go.Proofs.YtkodgneneiledaaGreatDoor.Kit
namespace Go.Proofs.YtkodgneneiledaaGreatDoor.Kit
open Go.RowKit Go.Shelf Go.Deep
set_option linter.unusedVariables false
attribute [local go_sem] run_store_func

theorem bits_and15 (c : Nat) (h : c < 256) : bits .and .u8 (c : Int) 15 = (c : Int) % 16 := by
  have key : ∀ x : Fin 256, bits .and .u8 (x.val : Int) 15 = (x.val : Int) % 16 := by decide +kernel
  exact key ⟨c, h⟩

set_option maxRecDepth 100000 in
set_option maxHeartbeats 4000000 in
theorem quotedText_any (s : ByteArray) (hs : s.size ≤ 1000) (w : World) : Calls Tryz.prog 73 #[.string s] w fun e w' => e = .returned (.string (qtB s)) ∧ Gr w w' := by
  go_enter Tryz.func73, Tryz.ntmps73
  go_wp2
  go_loopw [3, 9] (fun v i wr => ∃ (k n : Nat) (vo : Option Addr) (vc : Nat), k ≤ s.size ∧ n ≤ 1 + 4 * k ∧ 0 < n ∧ i = .int .i64 (k : Int) ∧ v = .slice vo n vc ∧ Hid (Byts w wr vo vc n (qP s k))) (fun _ i _ => s.size - (intOf i).toNat)
  case atStart => exact ⟨0, 1, some ⟨w.heap.size, 0, none⟩, 1, by omega, by omega, by omega, rfl, rfl, Byts.one w w (Keeps.refl _ _)⟩
  case round =>
    obtain ⟨k, n, vo, vc, hk, hn, hn0, rfl, rfl, HK⟩ := hrel
    by_cases hlt : k < s.size
    · have HQ : Hid (qP s (k + 1) = qP s k ++ qb (s[k]'hlt)) := qP_succ s k hlt
      have hC : (s[k]'hlt).toNat < 256 := UInt8.toNat_lt _
      by_cases c34 : (s[k]'hlt).toNat = 34
      · have e1 : (((s[k]'hlt).toNat : Int) == 34) = true := by rw [c34]; rfl
        have H34 := hidM c34
        clear c34 hC
        go_wp2_with (at_builtin; refine Hid.out ?_)
        unfold Hid
        refine wpList_append_any _ rfl (.tmp 31) (.tmp 33) 111 111 rfl 5 (.int .u8 0) 1 Tryz.underlying111 info5 rfl _ n (bv (qP s k)) rfl (HK.out.gr' (gr_alloc wr _)).own _ 2 [.int .u8 92, .int .u8 ((s[k]'hlt).toNat : Int)] rfl (src_u8 wr [.int .u8 92, .int .u8 ((s[k]'hlt).toNat : Int)] 2 rfl (by simp)) (by omega) (by omega) ?_
        intro v' w1 hown hgrow hblk
        obtain ⟨vo', vc', rfl⟩ := own_form hown
        have HN : Hid (Byts w w1 vo' vc' (n + 2) (qP s (k + 1))) := by
          rw [HQ.out]
          exact (HK.out.gr' (gr_alloc wr _)).app (us := qb (s[k]'hlt)) (by unfold qb; rw [if_pos (.inl H34.out)]; rfl) hown hgrow hblk
        clear hown hgrow hblk HK HQ
        go_wp2_with fail
        go_roundw
        case rel => exact ⟨k + 1, n + 2, vo', vc', by omega, by omega, by omega, by simp, rfl, HN.out⟩
        case measure => simp [intOf]; omega
      have e1 : (((s[k]'hlt).toNat : Int) == 34) = false := beqF (by omega)
      by_cases c92 : (s[k]'hlt).toNat = 92
      · have e2 : (((s[k]'hlt).toNat : Int) == 92) = true := by rw [c92]; rfl
        have H92 := hidM c92
        clear c92 c34 hC
        go_wp2_with (at_builtin; refine Hid.out ?_)
        unfold Hid
        refine wpList_append_any _ rfl (.tmp 31) (.tmp 33) 111 111 rfl 5 (.int .u8 0) 1 Tryz.underlying111 info5 rfl _ n (bv (qP s k)) rfl (HK.out.gr' (gr_alloc wr _)).own _ 2 [.int .u8 92, .int .u8 ((s[k]'hlt).toNat : Int)] rfl (src_u8 wr [.int .u8 92, .int .u8 ((s[k]'hlt).toNat : Int)] 2 rfl (by simp)) (by omega) (by omega) ?_
        intro v' w1 hown hgrow hblk
        obtain ⟨vo', vc', rfl⟩ := own_form hown
        have HN : Hid (Byts w w1 vo' vc' (n + 2) (qP s (k + 1))) := by
          rw [HQ.out]
          exact (HK.out.gr' (gr_alloc wr _)).app (us := qb (s[k]'hlt)) (by unfold qb; rw [if_pos (.inr H92.out)]; rfl) hown hgrow hblk
        clear hown hgrow hblk HK HQ
        go_wp2_with fail
        go_roundw
        case rel => exact ⟨k + 1, n + 2, vo', vc', by omega, by omega, by omega, by simp, rfl, HN.out⟩
        case measure => simp [intOf]; omega
      have e2 : (((s[k]'hlt).toNat : Int) == 92) = false := beqF (by omega)
      have HQn : Hid (¬ ((s[k]'hlt).toNat = 34 ∨ (s[k]'hlt).toNat = 92)) := by show ¬ _; omega
      clear c34 c92
      have hp := fun w => isPlain_any (s[k]'hlt).toNat w
      by_cases cpl : 32 ≤ (s[k]'hlt).toNat ∧ (s[k]'hlt).toNat ≤ 126
      · have i1 : (32 : Int) ≤ ((s[k]'hlt).toNat : Int) := by omega
        have i2 : ((s[k]'hlt).toNat : Int) ≤ 126 := by omega
        rw [show (decide (32 ≤ (s[k]'hlt).toNat) && decide ((s[k]'hlt).toNat ≤ 126)) = true by simp [cpl]] at hp
        have HPl := hidM cpl
        clear cpl hC
        go_wp2_with (first | (go_at_call 106; refine (hp _).mono ?_; rintro e w' ⟨rfl, hw⟩; replace hw := hw.symm; subst hw) | (at_builtin; refine Hid.out ?_))
        unfold Hid
        refine wpList_append_any _ rfl (.tmp 38) (.tmp 40) 111 111 rfl 5 (.int .u8 0) 1 Tryz.underlying111 info5 rfl _ n (bv (qP s k)) rfl (HK.out.gr' (gr_alloc wr _)).own _ 1 [.int .u8 ((s[k]'hlt).toNat : Int)] rfl (src_u8 wr [.int .u8 ((s[k]'hlt).toNat : Int)] 1 rfl (by simp)) (by omega) (by omega) ?_
        intro v' w1 hown hgrow hblk
        obtain ⟨vo', vc', rfl⟩ := own_form hown
        have HN : Hid (Byts w w1 vo' vc' (n + 1) (qP s (k + 1))) := by
          rw [HQ.out]
          exact (HK.out.gr' (gr_alloc wr _)).app (us := qb (s[k]'hlt)) (by unfold qb; rw [if_neg HQn.out, if_pos HPl.out]; rfl) hown hgrow hblk
        clear hown hgrow hblk HK HQ
        go_wp2_with fail
        go_roundw
        case rel => exact ⟨k + 1, n + 1, vo', vc', by omega, by omega, by omega, by simp, rfl, HN.out⟩
        case measure => simp [intOf]; omega
      rw [show (decide (32 ≤ (s[k]'hlt).toNat) && decide ((s[k]'hlt).toNat ≤ 126)) = false by simpa using cpl] at hp
      have HPl := hidM cpl
      clear cpl
      go_wp2_with (go_at_call 106; refine (hp _).mono ?_; rintro e w' ⟨rfl, hw⟩; replace hw := hw.symm; subst hw)
      have hbt := bits_and15 (s[k]'hlt).toNat hC
      have hx1 : ∀ w, (Instr.index 9 (.string ⟨#[48, 49, 50, 51, 52, 53, 54, 55, 56, 57, 97, 98, 99, 100, 101, 102]⟩) (.int .u8 (((s[k]'hlt).toNat : Int) / 16))).run Tryz.prog w = .ok (.int .u8 ((hxB ((s[k]'hlt).toNat / 16)).toNat : Int)) w := by
        have h := index_hexP ((s[k]'hlt).toNat / 16) (by omega)
        rwa [Int.natCast_ediv] at h
      have hx2 : ∀ w, (Instr.index 9 (.string ⟨#[48, 49, 50, 51, 52, 53, 54, 55, 56, 57, 97, 98, 99, 100, 101, 102]⟩) (.int .u8 (((s[k]'hlt).toNat : Int) % 16))).run Tryz.prog w = .ok (.int .u8 ((hxB ((s[k]'hlt).toNat % 16)).toNat : Int)) w := by
        have h := index_hexP ((s[k]'hlt).toNat % 16) (by omega)
        rwa [Int.natCast_emod] at h
      refine wp_region_held_drew (S := fun w' => Hid (∃ vo vc n bs, Byts w w' vo vc n bs)) (by kernel_rfl) ⟨_, _, _, _, HK.out.gr' gr_drew⟩ (fun hHeld => ?_)
      refine wpAnyH_take (i := 0) (oi := { dst := some 15, op := Op.move (Operand.tmp 3), type := 111, pos := "print.go:94", after := #[], guard := none }) (v := ?v0u1) rfl (by kernel_rfl) (by kernel_rfl) (by kernel_rfl) (fun _ _ _ h => h) (Or.inl ⟨by rfl, ?y0u1⟩) (by assumption) ?r0u1
      case y0u1 => (intro w hSw; go_simp; (try with_reducible rfl))
      (try simp only [Act.put]); (try simp only [List.setIfInBounds_toArray]); (try simp only [List.set_cons_succ]); (try simp only [List.set_cons_zero])
      refine wpAnyH_take (i := 1) (oi := { dst := some 16, op := Op.move (Operand.tmp 5), type := 5, pos := "print.go:94", after := #[], guard := none }) (v := ?v1u2) rfl (by kernel_rfl) (by kernel_rfl) (by kernel_rfl) (fun _ _ _ h => h) (Or.inl ⟨by rfl, ?y1u2⟩) (by assumption) ?r1u2
      case y1u2 => (intro w hSw; go_simp; (try with_reducible rfl))
      (try simp only [Act.put]); (try simp only [List.setIfInBounds_toArray]); (try simp only [List.set_cons_succ]); (try simp only [List.set_cons_zero])
      refine wpAnyH_take (i := 2) (oi := { dst := some 17, op := Op.binOp BinOp.shr 5 (Operand.tmp 16) (Operand.const (Value.int IntKind.u64 4)) 134, type := 5, pos := "print.go:94", after := #[{ on := 1, ground := Ground.data }], guard := none }) (v := ?v2u3) rfl (by kernel_rfl) (by kernel_rfl) (by kernel_rfl) (fun _ _ _ h => h) (Or.inl ⟨by rfl, ?y2u3⟩) (by assumption) ?r2u3
      case y2u3 => (intro w hSw; go_simp; (try with_reducible rfl))
      (try simp only [Act.put]); (try simp only [List.setIfInBounds_toArray]); (try simp only [List.set_cons_succ]); (try simp only [List.set_cons_zero])
      refine wpAnyH_take (i := 3) (oi := { dst := some 18, op := Op.index 9 (Operand.const (Value.string { data := #[48, 49, 50, 51, 52, 53, 54, 55, 56, 57, 97, 98, 99, 100, 101, 102] })) (Operand.tmp 17), type := 5, pos := "print.go:94", after := #[{ on := 2, ground := Ground.data }], guard := none }) (v := ?v3u4) rfl (by kernel_rfl) (by kernel_rfl) (by kernel_rfl) (fun _ _ _ h => h) (Or.inl ⟨by rfl, ?y3u4⟩) (by assumption) ?r3u4
      case y3u4 => (intro w hSw; go_simp; (try with_reducible rfl))
      (try simp only [Act.put]); (try simp only [List.setIfInBounds_toArray]); (try simp only [List.set_cons_succ]); (try simp only [List.set_cons_zero])
      refine wpAnyH_take (i := 4) (oi := { dst := some 19, op := Op.move (Operand.tmp 5), type := 5, pos := "print.go:94", after := #[], guard := none }) (v := ?v4u5) rfl (by kernel_rfl) (by kernel_rfl) (by kernel_rfl) (fun _ _ _ h => h) (Or.inl ⟨by rfl, ?y4u5⟩) (by assumption) ?r4u5
      case y4u5 => (intro w hSw; go_simp; (try with_reducible rfl))
      (try simp only [Act.put]); (try simp only [List.setIfInBounds_toArray]); (try simp only [List.set_cons_succ]); (try simp only [List.set_cons_zero])
      refine wpAnyH_take (i := 5) (oi := { dst := some 20, op := Op.binOp BinOp.and 5 (Operand.tmp 19) (Operand.const (Value.int IntKind.u8 15)) 5, type := 5, pos := "print.go:94", after := #[{ on := 4, ground := Ground.data }], guard := none }) (v := ?v5u6) rfl (by kernel_rfl) (by kernel_rfl) (by kernel_rfl) (fun _ _ _ h => h) (Or.inl ⟨by rfl, ?y5u6⟩) (by assumption) ?r5u6
      case y5u6 => (intro w hSw; go_simp; (try with_reducible rfl))
      (try simp only [Act.put]); (try simp only [List.setIfInBounds_toArray]); (try simp only [List.set_cons_succ]); (try simp only [List.set_cons_zero])
      refine wpAnyH_take (i := 6) (oi := { dst := some 21, op := Op.index 9 (Operand.const (Value.string { data := #[48, 49, 50, 51, 52, 53, 54, 55, 56, 57, 97, 98, 99, 100, 101, 102] })) (Operand.tmp 20), type := 5, pos := "print.go:94", after := #[{ on := 5, ground := Ground.data }], guard := none }) (v := ?v6u7) rfl (by kernel_rfl) (by kernel_rfl) (by kernel_rfl) (fun _ _ _ h => h) (Or.inl ⟨by rfl, ?y6u7⟩) (by assumption) ?r6u7
      case y6u7 => (intro w hSw; go_simp; (try with_reducible rfl))
      (try simp only [Act.put]); (try simp only [List.setIfInBounds_toArray]); (try simp only [List.set_cons_succ]); (try simp only [List.set_cons_zero])
      refine wpAnyH_ready (rs := [7]) (by kernel_rfl) (by simp) ?_
      refine AllReadyH.cons (o := { dst := some 22, op := Op.buildSlice 111 4 #[(0, Operand.const (Value.int IntKind.u8 92)), (1, Operand.const (Value.int IntKind.u8 120)), (2, Operand.tmp 18), (3, Operand.tmp 21)], type := 111, pos := "print.go:94", after := #[{ on := 3, ground := Ground.data }, { on := 6, ground := Ground.data }], guard := none }) rfl (fun K hK => ?_) AllReadyH.nil
      go_simp
      refine hK.out _ _ ⟨_, _, _, _, HK.out.gr' (by first | exact (gr_alloc _ _).trans gr_drew (fun _ _ h => h) | exact gr_drew.trans (gr_alloc _ _) (fun _ _ h => h))⟩ (fun hHeld => ?_)
      clear hK K
      (try simp only [Act.put]); (try simp only [List.setIfInBounds_toArray]); (try simp only [List.set_cons_succ]); (try simp only [List.set_cons_zero])
      refine wpAnyH_ready (rs := [8]) (by kernel_rfl) (by simp) ?_
      refine AllReadyH.cons (o := { dst := some 23, op := Op.call { callee := Callee.builtin Builtin.append, args := #[Operand.tmp 15, Operand.tmp 22], argTypes := #[111, 111] }, type := 111, pos := "print.go:94", after := #[{ on := 0, ground := Ground.data }, { on := 7, ground := Ground.data }], guard := none }) rfl (fun K hK => ?_) AllReadyH.nil
      have HGD : Hid (Gr wr (wr.drew.alloc (.cells #[.int .u8 92, .int .u8 120, .int .u8 ((hxB ((s[k]'hlt).toNat / 16)).toNat : Int), .int .u8 ((hxB ((s[k]'hlt).toNat % 16)).toNat : Int)] 5))) := (gr_drew).trans (gr_alloc _ _) (fun _ _ h => h)
      refine step_append_any _ rfl (.tmp 15) (.tmp 22) 111 111 rfl 5 (.int .u8 0) 1 Tryz.underlying111 info5 rfl (.slice vo n vc) n (bv (qP s k)) rfl (HK.out.gr' HGD.out).own _ 4 [.int .u8 92, .int .u8 120, .int .u8 ((hxB ((s[k]'hlt).toNat / 16)).toNat : Int), .int .u8 ((hxB ((s[k]'hlt).toNat % 16)).toNat : Int)] rfl (src_u8 wr.drew [.int .u8 92, .int .u8 120, .int .u8 ((hxB ((s[k]'hlt).toNat / 16)).toNat : Int), .int .u8 ((hxB ((s[k]'hlt).toNat % 16)).toNat : Int)] 4 rfl (by simp)) (by omega) (by omega) ?_
      intro v' w1 hown hgrow hblk
      obtain ⟨vo', vc', rfl⟩ := own_form hown
      have HN : Hid (Byts w w1 vo' vc' (n + 4) (qP s (k + 1))) := by
        rw [HQ.out]
        exact (HK.out.gr' HGD.out).app (us := qb (s[k]'hlt)) (by unfold qb; rw [if_neg HQn.out, if_neg HPl.out]; rfl) hown hgrow hblk
      refine hK.out _ _ ⟨_, _, _, _, HN.out⟩ (fun hHeld => ?_)
      clear hK K hown hgrow hblk
      (try simp only [Act.put]); (try simp only [List.setIfInBounds_toArray]); (try simp only [List.set_cons_succ]); (try simp only [List.set_cons_zero])
      refine wpAnyH_take (i := 9) (oi := { dst := some 3, op := Op.assign (Operand.tmp 23), type := 111, pos := "print.go:94", after := #[{ on := 8, ground := Ground.data }, { on := 8, ground := Ground.chain }, { on := 0, ground := Ground.phase }, { on := 1, ground := Ground.phase }, { on := 2, ground := Ground.phase }, { on := 3, ground := Ground.phase }, { on := 4, ground := Ground.phase }, { on := 5, ground := Ground.phase }, { on := 6, ground := Ground.phase }, { on := 7, ground := Ground.phase }, { on := 8, ground := Ground.phase }], guard := none }) (v := ?v9u8) rfl (by kernel_rfl) (by kernel_rfl) (by kernel_rfl) (fun _ _ _ h => h) (Or.inl ⟨by rfl, ?y9u8⟩) (by assumption) ?r9u8
      case y9u8 => (intro w hSw; go_simp; (try with_reducible rfl))
      (try simp only [Act.put]); (try simp only [List.setIfInBounds_toArray]); (try simp only [List.set_cons_succ]); (try simp only [List.set_cons_zero])
      refine wpAnyH_done (by kernel_rfl) ?_ _
      clear hHeld
      go_wp2_with fail
      go_roundw
      case rel => exact ⟨k + 1, n + 4, vo', vc', by omega, by omega, by omega, by simp, rfl, HN.out⟩
      case measure => simp [intOf]; omega
    · obtain rfl : k = s.size := by omega
      go_wp2_with (at_builtin; refine Hid.out ?_)
      unfold Hid
      refine wpList_append_any _ rfl (.tmp 43) (.tmp 44) 111 111 rfl 5 (.int .u8 0) 1 Tryz.underlying111 info5 rfl _ n (bv (qP s s.size)) rfl (HK.out.gr' (gr_alloc wr _)).own _ 1 [.int .u8 34] rfl (src_u8 wr [.int .u8 34] 1 rfl (by simp)) (by omega) (by omega) ?_
      intro v' w1 hown hgrow hblk
      obtain ⟨vo', vc', rfl⟩ := own_form hown
      have HN : Hid (Byts w w1 vo' vc' (n + 1) (qP s s.size ++ [34])) := (HK.out.gr' (gr_alloc wr _)).app (us := [34]) rfl hown hgrow hblk
      have hcv : (convert 111 9 (.slice vo' (n + 1) vc')).run Tryz.prog w1 = .ok (.string (qtB s)) w1 := bytes_string HN.out (by omega)
      clear hown hgrow hblk HK
      go_wp2_with fail
      go_ret
      exact ⟨rfl, HN.out.gr⟩

end Go.Proofs.YtkodgneneiledaaGreatDoor.Kit
