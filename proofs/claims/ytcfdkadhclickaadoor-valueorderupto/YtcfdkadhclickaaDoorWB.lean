import Derived.Test.YtcfdkadhclickaaDoorVG
import Derived.Test.YtcfdkadhclickaaDoorVC
import Derived.Laws.BitsAllLaws
namespace Go.Proofs.YtcfdkadhclickaaDoor.Kit
open Go.RowKit Go.Shelf Go.Deep
set_option linter.unusedVariables false
attribute [local go_sem] run_store_func

/-! ### leaves of compare: rank 60, compareNull 54 -/
theorem xor63 (y : Nat) (h : y < 9223372036854775808) : y ^^^ 9223372036854775807 = 9223372036854775807 - y := by
  have e := congrArg BitVec.toNat (BitVec.xor_allOnes (x := BitVec.ofNat 63 y))
  rw [BitVec.toNat_xor, BitVec.toNat_not, BitVec.toNat_allOnes, BitVec.toNat_ofNat, Nat.mod_eq_of_lt (show y < 2 ^ 63 from h)] at e
  exact e
theorem xor64 (X : Nat) (h1 : 9223372036854775808 ≤ X) (h2 : X < 18446744073709551616) : X ^^^ 9223372036854775807 = 9223372036854775808 + (9223372036854775807 - (X - 9223372036854775808)) := by
  have d := Nat.xor_div_two_pow (a := X) (b := 9223372036854775807) (n := 63)
  have m := Nat.xor_mod_two_pow (a := X) (b := 9223372036854775807) (n := 63)
  have e1 : X / 2 ^ 63 = 1 := by omega
  have e2 : X % 2 ^ 63 = X - 9223372036854775808 := by omega
  rw [e1, show (9223372036854775807 : Nat) / 2 ^ 63 = 0 by decide] at d
  rw [e2, show (9223372036854775807 : Nat) % 2 ^ 63 = 9223372036854775807 by decide, xor63 (X - 9223372036854775808) (by omega)] at m
  have := Nat.div_add_mod (X ^^^ 9223372036854775807) (2 ^ 63)
  rw [d, m, show (1 ^^^ 0 : Nat) = 1 from rfl] at this
  omega
theorem rank_xor (n : Int) (h0 : n < 0) (h1 : -9223372036854775808 ≤ n) : bits .xor .i64 n 9223372036854775807 = rankOf n := by
  show IntKind.i64.wrap ((BitVec.ofInt 64 n ^^^ BitVec.ofInt 64 9223372036854775807).toNat : Int) = _
  have e1 : (BitVec.ofInt 64 n).toNat = (n + 18446744073709551616).toNat := by
    rw [BitVec.toNat_ofInt]
    congr 1
    show n % 18446744073709551616 = _
    omega
  have e2 : (BitVec.ofInt 64 9223372036854775807).toNat = 9223372036854775807 := by decide
  rw [BitVec.toNat_xor, e1, e2, xor64 _ (by omega) (by omega)]
  unfold rankOf
  rw [if_pos h0]
  simp [IntKind.wrap, IntKind.bits, IntKind.signed]
  omega
set_option maxRecDepth 100000 in
theorem rank_any (n : Int) (h : is64 n) (w : World) : Calls Tryd.prog 60 #[.int .i64 n] w fun e w' => e = .returned (.int .i64 (rankOf n)) ∧ w = w' := by
  by_cases h0 : n < 0
  · have HR := hidM (rank_xor n h0 h.1)
    clear h
    go_enter Tryd.func60, Tryd.ntmps60
    go_wp2
    go_ret
    exact ⟨by rw [← HR.out]; rfl, rfl⟩
  · have HR : Hid (rankOf n = n) := by show _ = _; unfold rankOf; rw [if_neg h0]
    clear h
    go_enter Tryd.func60, Tryd.ntmps60
    go_wp2
    go_ret
    exact ⟨by rw [HR.out]; rfl, rfl⟩
/-- a callee that answers that number in all later worlds -/
def IAns (F : Nat) (args : Array Value) (z : Int) (w : World) : Prop := ∀ W, Gr w W → Calls Tryd.prog F args W fun e w' => e = .returned (.int .i64 z) ∧ Gr W w'
theorem IAns.gr {F : Nat} {args : Array Value} {z : Int} {w W : World} (h : IAns F args z w) (g : Gr w W) : IAns F args z W := fun W' g' => h W' (g.trans g' (fun _ _ h => h))
set_option maxRecDepth 100000 in
theorem null54 (a0 b0 : Bool) (a1 b1 : Int) (a2 b2 : ByteArray) (ao bo : Option Addr) (na ca nb cb : Nat) (w : World) :
    IAns 54 #[.agg #[.bool a0, .int .i64 a1, .string a2, .slice ao na ca], .agg #[.bool b0, .int .i64 b1, .string b2, .slice bo nb cb]] (if b0 = false then -1 else if a0 = false then 1 else 0) w := by
  intro W g
  have HG : Hid (∀ o o', Gr W ((W.alloc o).alloc o')) := fun o o' => (gr_alloc W o).alloc o'
  clear g
  cases b0 with
  | false =>
    go_enter Tryd.func54, Tryd.ntmps54
    go_wp2
    go_ret
    exact ⟨rfl, HG.out _ _⟩
  | true =>
    cases a0 with
    | false =>
      go_enter Tryd.func54, Tryd.ntmps54
      go_wp2
      go_ret
      exact ⟨rfl, HG.out _ _⟩
    | true =>
      go_enter Tryd.func54, Tryd.ntmps54
      go_wp2
      go_ret
      exact ⟨rfl, HG.out _ _⟩

/-! ### lists: slices.CompareFunc 84 with compareItems' function 85, compareItems 56 -/
theorem cmpL_drop {c : VT → VT → Int} {a b : List VT} {k : Nat} (ha : k < a.length) (hb : k < b.length) : cmpL c (a.drop k) (b.drop k) = if c a[k] b[k] ≠ 0 then c a[k] b[k] else cmpL c (a.drop (k + 1)) (b.drop (k + 1)) := by
  rw [List.drop_eq_getElem_cons ha, List.drop_eq_getElem_cons hb, cmpL]
set_option maxRecDepth 100000 in
set_option maxHeartbeats 2000000 in
theorem compareFunc_any (S : Nat → Prop) (d : Nat) (w : World) (X : Nat) (ao bo : Option Addr) (ca cb : Nat) (a b : List VT) (c : VT → VT → Int) (ha : VRow S w (d + 1) ao a) (hb : VRow S w (d + 1) bo b) (hS : ∀ b, S b → b < w.heap.size)
    (h85 : ∀ (u v : VT), u ∈ a → v ∈ b → ∀ (ao bo : Option Addr) (ca cb : Nat), VOk u → VOk v → VRow S w d ao u.list → VRow S w d bo v.list → IAns 85 #[.agg #[.bool u.nul, .int .i64 u.num, .string u.text, .slice ao u.list.length ca], .agg #[.bool v.nul, .int .i64 v.num, .string v.text, .slice bo v.list.length cb], .pointer (some ⟨X, 0, none⟩)] (c u v) w) :
    IAns 84 #[.slice ao a.length ca, .slice bo b.length cb, .func (.func 85) #[] #[.pointer (some ⟨X, 0, none⟩)]] (cmpL c a b) w := by
  intro W g0
  have hla : a.length ≤ 1000000000000 := ha.len
  have hlb : b.length ≤ 1000000000000 := hb.len
  have HA := hidM ha
  have HB := hidM hb
  have HS := hidM hS
  have H85 := hidM h85
  have HG0 := hidM g0
  obtain ⟨R, hR⟩ : ∃ R, R = cmpL c a b := ⟨_, rfl⟩
  rw [← hR]
  have HR := hidM hR
  obtain ⟨L, hL⟩ : ∃ L, L = a.length := ⟨_, rfl⟩
  obtain ⟨M, hM⟩ : ∃ M, M = b.length := ⟨_, rfl⟩
  rw [← hL] at hla ⊢
  rw [← hM] at hlb ⊢
  have HL := hidM hL
  have HM := hidM hM
  clear ha hb hS h85 hR hL hM g0
  go_enter Tryd.func84, Tryd.ntmps84
  go_wp2
  go_loopw [13] (fun p wr => ∃ k : Nat, k ≤ L ∧ p = .int .i64 (k : Int) ∧ Hid (Gr W wr ∧ k ≤ M ∧ R = cmpL c (a.drop k) (b.drop k))) (fun p _ => L - (intOf p).toNat)
  case atStart => exact ⟨0, by omega, rfl, Keeps.refl _ _, by omega, HR.out⟩
  case round =>
    obtain ⟨k, hk, rfl, HK⟩ := hrel
    by_cases hlt : k < L
    · have hka : k < a.length := by have := HL.out; omega
      obtain ⟨x, o, rfl, hx, hcs⟩ := HA.out.2 (fun e => by subst e; simp at hka)
      obtain ⟨ao', ca', hc, hle, hok, hr⟩ := hcs k hka
      have g1 := hc.kept ((HG0.out.trans HK.out.1 (fun _ _ h => h) : Gr w wr).block x (HS.out x hx) id)
      have hltI : (k : Int) < (L : Int) := by omega
      by_cases hltM : k < M
      · have hkb : k < b.length := by have := HM.out; omega
        obtain ⟨y, u, rfl, hy, hds⟩ := HB.out.2 (fun e => by subst e; simp at hkb)
        obtain ⟨bo', cb', hd, hle', hok', hr'⟩ := hds k hkb
        have hcall := H85.out a[k] b[k] (List.getElem_mem hka) (List.getElem_mem hkb) ao' bo' ca' cb' hok hok' hr hr'
        have hx' := HK.out.2.2
        rw [cmpL_drop hka hkb] at hx'
        have HG := hidM HK.out.1
        obtain ⟨f, hf⟩ : ∃ f, f = a[k]'hka := ⟨_, rfl⟩
        obtain ⟨g, hg⟩ : ∃ g, g = b[k]'hkb := ⟨_, rfl⟩
        have g2 := hd.kept ((HG0.out.trans HK.out.1 (fun _ _ h => h) : Gr w wr).block y (HS.out y hy) id)
        rw [← hf] at g1 hcall hx'
        rw [← hg] at g2 hcall hx'
        have H2 := hidM hcall
        obtain ⟨p0, p1, p2, p3⟩ := g1
        obtain ⟨q0, q1, q2, q3⟩ := g2
        have q0 := fun o => (gr_alloc wr o).cell' q0 id
        have q1 := fun o => (gr_alloc wr o).cell' q1 id
        have q2 := fun o => (gr_alloc wr o).cell' q2 id
        have q3 := fun o => (gr_alloc wr o).cell' q3 id
        have hltMI : (k : Int) < (M : Int) := by omega
        obtain ⟨z, hz⟩ : ∃ z, z = c f g := ⟨_, rfl⟩
        rw [← hz] at H2 hx'
        clear hcs hds hc hd hr hr' hcall hf hg HK hok hok' hle hle' hz
        by_cases hz0 : z = 0
        · have HX : Hid (R = cmpL c (a.drop (k + 1)) (b.drop (k + 1))) := by rw [if_neg (by omega)] at hx'; exact hx'
          subst hz0
          clear hx'
          go_wp2_with (go_at_call 85; refine Hid.out ?_)
          unfold Hid
          refine Calls.mono (H2.out _ (HG0.out.trans ((HG.out.alloc _).alloc _) (fun _ _ h => h))) ?_
          rintro e w2 ⟨rfl, hg2⟩
          have HE := hidM (((HG.out.alloc _).alloc _).trans hg2 (fun _ _ h => h))
          clear hg2
          go_wp2_with fail
          go_roundw
          case rel => exact ⟨k + 1, by omega, by simp, HE.out, by omega, HX.out⟩
          case measure => simp [intOf]; omega
        · have HX : Hid (R = z) := by rw [if_pos hz0] at hx'; exact hx'
          have hzb : (z == 0) = false := by simp [hz0]
          clear hx' hz0
          go_wp2_with (go_at_call 85; refine Hid.out ?_)
          unfold Hid
          refine Calls.mono (H2.out _ (HG0.out.trans ((HG.out.alloc _).alloc _) (fun _ _ h => h))) ?_
          rintro e w2 ⟨rfl, hg2⟩
          have HE := hidM (((HG.out.alloc _).alloc _).trans hg2 (fun _ _ h => h))
          clear hg2
          go_wp2_with fail
          go_ret
          exact ⟨by rw [HX.out]; rfl, HE.out⟩
      · obtain ⟨p0, p1, p2, p3⟩ := g1
        have hkM : M = k := by have := HK.out.2.1; omega
        have HX : Hid (R = 1) := by
          have h := HK.out.2.2
          rw [show b.drop k = [] from List.drop_eq_nil_of_le (by have := HM.out; omega), List.drop_eq_getElem_cons hka, cmpL] at h
          exact h
        have HG := hidM (HK.out.1)
        have hMI : (M : Int) ≤ (k : Int) := by omega
        clear hcs hc hr HK hok hle hkM hltM
        go_wp2_with fail
        go_ret
        exact ⟨by rw [HX.out]; rfl, HG.out.alloc _⟩
    · have hkL : k = L := by omega
      have hkM := HK.out.2.1
      have HG := hidM HK.out.1
      have hx' := HK.out.2.2
      rw [show a.drop k = [] from List.drop_eq_nil_of_le (by have := HL.out; omega)] at hx'
      by_cases hLM : L < M
      · have HX : Hid (R = -1) := by
          rw [List.drop_eq_getElem_cons (l := b) (i := k) (by have := HM.out; omega), cmpL] at hx'
          exact hx'
        have hLMI : (L : Int) < (M : Int) := by omega
        clear HK hx'
        subst hkL
        go_wp2_with fail
        go_ret
        exact ⟨by rw [HX.out]; rfl, HG.out⟩
      · have HX : Hid (R = 0) := by
          rw [show b.drop k = [] from List.drop_eq_nil_of_le (by have := HM.out; omega), cmpL] at hx'
          exact hx'
        have hLMI : ¬ (L : Int) < (M : Int) := by omega
        clear HK hx'
        subst hkL
        go_wp2_with fail
        go_ret
        exact ⟨by rw [HX.out]; rfl, HG.out⟩
set_option maxRecDepth 100000 in
theorem func85 (k0 : ByteArray) (k1 : Bool) (k2 k3 k4 k5 : Int) (kp : Option Addr) (kn kc : Nat) (a0 b0 : Bool) (a1 b1 : Int) (a2 b2 : ByteArray) (ao bo : Option Addr) (na ca nb cb : Nat) (z : Int) (w : World) (X : Nat) (hX : B7 w X k0 k1 k2 k3 k4 k5 kp kn kc)
    (h41 : IAns 41 #[.agg #[.string k0, .bool k1, .int .i64 k2, .int .i64 k3, .int .i64 k4, .int .i64 k5, .slice kp kn kc], .agg #[.bool a0, .int .i64 a1, .string a2, .slice ao na ca], .agg #[.bool b0, .int .i64 b1, .string b2, .slice bo nb cb]] z w) :
    IAns 85 #[.agg #[.bool a0, .int .i64 a1, .string a2, .slice ao na ca], .agg #[.bool b0, .int .i64 b1, .string b2, .slice bo nb cb], .pointer (some ⟨X, 0, none⟩)] z w := by
  intro W g
  have HG : Hid (∀ o o', Gr W ((W.alloc o).alloc o')) := fun o o' => (gr_alloc W o).alloc o'
  have HC := hidM h41
  have HGw := hidM g
  obtain ⟨p0, p1, p2, p3, p4, p5, p6⟩ := B7.cells ((g.block X (lt_of_heap hX) id).trans hX)
  have p0 := fun o o' => (HG.out o o').cell' p0 id
  have p1 := fun o o' => (HG.out o o').cell' p1 id
  have p2 := fun o o' => (HG.out o o').cell' p2 id
  have p3 := fun o o' => (HG.out o o').cell' p3 id
  have p4 := fun o o' => (HG.out o o').cell' p4 id
  have p5 := fun o o' => (HG.out o o').cell' p5 id
  have p6 := fun o o' => (HG.out o o').cell' p6 id
  clear h41 g hX
  go_enter Tryd.func85, Tryd.ntmps85
  go_wp2_with (go_at_call 41; refine Hid.out ?_)
  unfold Hid
  refine Calls.mono (HC.out _ (HGw.out.trans (HG.out _ _) (fun _ _ h => h))) ?_
  rintro e w2 ⟨rfl, hg2⟩
  have HE := hidM ((HG.out _ _).trans hg2 (fun _ _ h => h))
  clear hg2
  go_wp2_with fail
  go_ret
  exact ⟨rfl, HE.out⟩
set_option maxRecDepth 100000 in
theorem items56 (k0 : ByteArray) (k1 : Bool) (k2 k3 k4 k5 : Int) (kp : Option Addr) (kn kc : Nat) (ao bo : Option Addr) (na ca nb cb : Nat) (z : Int) (w : World)
    (h84 : ∀ (V : World) (X : Nat), Gr w V → B7 V X k0 k1 k2 k3 k4 k5 kp kn kc → IAns 84 #[.slice ao na ca, .slice bo nb cb, .func (.func 85) #[] #[.pointer (some ⟨X, 0, none⟩)]] z V) :
    IAns 56 #[.agg #[.string k0, .bool k1, .int .i64 k2, .int .i64 k3, .int .i64 k4, .int .i64 k5, .slice kp kn kc], .slice ao na ca, .slice bo nb cb] z w := by
  intro W g
  have HG : Hid (∀ o, Gr W (W.alloc o)) := fun o => gr_alloc W o
  have HC := hidM (h84 (W.alloc (.cells #[.string k0, .bool k1, .int .i64 k2, .int .i64 k3, .int .i64 k4, .int .i64 k5, .slice kp kn kc] 26)) W.heap.size (g.trans (HG.out _) (fun _ _ h => h)) (heap_alloc_new W _))
  clear h84 g
  go_enter Tryd.func56, Tryd.ntmps56
  go_wp2_with (go_at_call 84; refine Hid.out ?_)
  unfold Hid
  refine Calls.mono (HC.out _ (Keeps.refl _ _)) ?_
  rintro e w2 ⟨rfl, hg2⟩
  have HE := hidM ((HG.out _).trans hg2 (fun _ _ h => h))
  clear hg2
  go_wp2_with fail
  go_ret
  exact ⟨rfl, HE.out⟩
end Go.Proofs.YtcfdkadhclickaaDoor.Kit
