import Derived.Test.YtcfdkadhclickaaDoorVG
import Derived.Test.YtcfdkadhclickaaDoorVE
namespace Go.Proofs.YtcfdkadhclickaaDoor.Kit
open Go.RowKit Go.Shelf Go.Deep
set_option linter.unusedVariables false
attribute [local go_sem] run_store_func

/-! ### Same 20, slices.EqualFunc 43 -/
/-- a callee that answers that bool in all later worlds -/
def Ans (F : Nat) (args : Array Value) (b : Bool) (w : World) : Prop := ∀ W, Gr w W → Calls Tryd.prog F args W fun e w' => e = .returned (.bool b) ∧ Gr W w'
theorem Ans.gr {F : Nat} {args : Array Value} {b : Bool} {w W : World} (h : Ans F args b w) (g : Gr w W) : Ans F args b W := fun W' g' => h W' (g.trans g' (fun _ _ h => h))
theorem beqZ {a b : Int} (h : ¬ a = b) : (a == b) = false := by simp [h]
set_option maxRecDepth 100000 in
set_option maxHeartbeats 2000000 in
theorem same_walk (a0 b0 : Bool) (a1 b1 : Int) (a2 b2 : ByteArray) (ao bo : Option Addr) (na ca nb cb : Nat) (r : Bool) (w : World) (h43 : Ans 43 #[.slice ao na ca, .slice bo nb cb, .func (.func 20) #[] #[]] r w) :
    Ans 20 #[.agg #[.bool a0, .int .i64 a1, .string a2, .slice ao na ca], .agg #[.bool b0, .int .i64 b1, .string b2, .slice bo nb cb]] ((a0 == b0) && (a1 == b1) && sEq a2 b2 && r) w := by
  intro W g
  have H := hidM (h43.gr g)
  clear h43 g
  have HG : Hid (∀ o o', Gr W ((W.alloc o).alloc o')) := fun o o' => (gr_alloc W o).alloc o'
  go_enter Tryd.func20, Tryd.ntmps20
  unfold sEq
  cases e0 : (a0 == b0) with
  | true =>
    obtain rfl : a0 = b0 := by simpa using e0
    clear e0
    by_cases e1 : a1 = b1
    · subst e1
      cases e2 : (a2.toList == b2.toList) with
      | true =>
        go_wp2_with (go_at_call 43; refine Hid.out ?_)
        unfold Hid
        refine Calls.mono (H.out _ (HG.out _ _)) ?_
        rintro e W1 ⟨rfl, hg1⟩
        go_wp2_with fail
        go_ret
        exact ⟨by simp, (HG.out _ _).trans hg1 (fun _ _ h => h)⟩
      | false =>
        go_wp2
        go_ret
        exact ⟨by simp, HG.out _ _⟩
    · have e := beqZ e1
      go_wp2
      go_ret
      exact ⟨by simp [e], HG.out _ _⟩
  | false =>
    go_wp2
    go_ret
    exact ⟨by simp, HG.out _ _⟩
set_option maxRecDepth 100000 in
set_option maxHeartbeats 2000000 in
theorem equalFunc_step (S : Nat → Prop) (d : Nat) (W : World) (ao bo : Option Addr) (ca cb : Nat) (a b : List VT) (ha : VRow S W (d + 1) ao a) (hb : VRow S W (d + 1) bo b) (hS : ∀ b, S b → b < W.heap.size)
    (h20 : ∀ (u v : VT), u ∈ a → v ∈ b → ∀ (ao bo : Option Addr) (ca cb : Nat), VRow S W d ao u.list → VRow S W d bo v.list → Ans 20 #[.agg #[.bool u.nul, .int .i64 u.num, .string u.text, .slice ao u.list.length ca], .agg #[.bool v.nul, .int .i64 v.num, .string v.text, .slice bo v.list.length cb]] (sameV d u v) W) :
    Calls Tryd.prog 43 #[.slice ao a.length ca, .slice bo b.length cb, .func (.func 20) #[] #[]] W fun e w' => e = .returned (.bool (sameVL (d + 1) a b)) ∧ Gr W w' := by
  have hla : a.length ≤ 1000000000000 := ha.len
  have hlb : b.length ≤ 1000000000000 := hb.len
  have HA := hidM ha
  have HB := hidM hb
  have HS := hidM hS
  have H20 := hidM h20
  obtain ⟨R, hR⟩ : ∃ R, R = sameVL (d + 1) a b := ⟨_, rfl⟩
  rw [← hR]
  rw [sameVL_succ] at hR
  have HR := hidM hR
  obtain ⟨L, hL⟩ : ∃ L, L = a.length := ⟨_, rfl⟩
  obtain ⟨M, hM⟩ : ∃ M, M = b.length := ⟨_, rfl⟩
  rw [← hL] at hla ⊢
  rw [← hM] at hlb ⊢
  have HL := hidM hL
  have HM := hidM hM
  clear ha hb hS h20 hR hL hM
  go_enter Tryd.func43, Tryd.ntmps43
  by_cases hLM : L = M
  · subst hLM
    go_wp2
    go_loopw [17] (fun p wr => ∃ k : Nat, k ≤ L ∧ p = .int .i64 (k : Int) ∧ Hid (Gr W wr ∧ ∀ i (h : i < a.length) (h' : i < b.length), i < k → sameV d a[i] b[i] = true)) (fun p _ => L - (intOf p).toNat)
    case atStart => exact ⟨0, by omega, rfl, Keeps.refl _ _, fun i _ _ h => by omega⟩
    case round =>
      obtain ⟨k, hk, rfl, HK⟩ := hrel
      by_cases hlt : k < L
      · have hka : k < a.length := by have := HL.out; omega
        have hkb : k < b.length := by have := HM.out; omega
        obtain ⟨x, o, rfl, hx, hcs⟩ := HA.out.2 (fun e => by subst e; simp at hka)
        obtain ⟨y, u, rfl, hy, hds⟩ := HB.out.2 (fun e => by subst e; simp at hkb)
        obtain ⟨ao', ca', hc, hle, hok, hr⟩ := hcs k hka
        obtain ⟨bo', cb', hd, hle', hok', hr'⟩ := hds k hkb
        have hcall := H20.out a[k] b[k] (List.getElem_mem hka) (List.getElem_mem hkb) ao' bo' ca' cb' hr hr'
        have HP := hidM HK.out.2
        have HG := hidM HK.out.1
        obtain ⟨f, hf⟩ : ∃ f, f = a[k]'hka := ⟨_, rfl⟩
        obtain ⟨g, hg⟩ : ∃ g, g = b[k]'hkb := ⟨_, rfl⟩
        have g1 := hc.kept (HK.out.1.block x (HS.out x hx) id)
        have g2 := hd.kept (HK.out.1.block y (HS.out y hy) id)
        rw [← hf] at g1 hcall
        rw [← hg] at g2 hcall
        have H2 : Hid _ := hidM (fun W' (g : Gr W W') => hcall W' g)
        obtain ⟨p0, p1, p2, p3⟩ := g1
        obtain ⟨q0, q1, q2, q3⟩ := g2
        have q0 := fun o => (gr_alloc wr o).cell' q0 id
        have q1 := fun o => (gr_alloc wr o).cell' q1 id
        have q2 := fun o => (gr_alloc wr o).cell' q2 id
        have q3 := fun o => (gr_alloc wr o).cell' q3 id
        have HF := hidM hf
        have HG' := hidM hg
        have hltI : (k : Int) < (L : Int) := by omega
        clear hcs hds hc hd hr hr' hcall hf hg HK hok hok' hle hle'
        obtain ⟨z, hz⟩ : ∃ z, z = sameV d f g := ⟨_, rfl⟩
        rw [← hz] at H2
        have HZ := hidM hz
        clear hz
        cases z with
        | true =>
          go_wp2_with (go_at_call 20; refine Hid.out ?_)
          unfold Hid
          refine Calls.mono (H2.out _ ((HG.out.alloc _).alloc _)) ?_
          rintro e w2 ⟨rfl, hg2⟩
          have HE := hidM (((HG.out.alloc _).alloc _).trans hg2 (fun _ _ h => h))
          clear hg2
          go_wp2_with fail
          go_roundw
          case rel =>
            refine ⟨k + 1, by omega, by simp, HE.out, fun i hi hi' h => ?_⟩
            by_cases e : i = k
            · subst e; rw [← HF.out, ← HG'.out]; exact HZ.out.symm
            · exact HP.out i hi hi' (by omega)
          case measure => simp [intOf]; omega
        | false =>
          have HRf : Hid (R = false) := by show R = false; rw [HR.out]; exact sameAll_false k hka hkb (by rw [← HF.out, ← HG'.out]; exact HZ.out.symm)
          go_wp2_with (go_at_call 20; refine Hid.out ?_)
          unfold Hid
          refine Calls.mono (H2.out _ ((HG.out.alloc _).alloc _)) ?_
          rintro e w2 ⟨rfl, hg2⟩
          have HE := hidM (((HG.out.alloc _).alloc _).trans hg2 (fun _ _ h => h))
          clear hg2
          go_wp2_with fail
          go_ret
          exact ⟨by rw [HRf.out]; rfl, HE.out⟩
      · have HRt : Hid (R = true) := by
          show R = true
          rw [HR.out]
          refine sameAll_true (by have := HL.out; have := HM.out; omega) fun i hi hi' => HK.out.2 i hi hi' (by have := HL.out; omega)
        have hkL : k = L := by omega
        subst hkL
        have HG := hidM HK.out.1
        clear HK
        go_wp2
        go_ret
        exact ⟨by rw [HRt.out]; rfl, HG.out⟩
  · have HRf : Hid (R = false) := by show R = false; rw [HR.out]; exact sameAll_len (by have := HL.out; have := HM.out; omega)
    have hb := beqZ (a := (L : Int)) (b := (M : Int)) (by omega)
    go_wp2
    go_ret
    exact ⟨by rw [HRf.out]; rfl, Keeps.refl _ _⟩
/-- all depths -/
theorem same_any (S : Nat → Prop) : ∀ (d : Nat) (W : World) (ao bo : Option Addr) (ca cb : Nat) (a b : List VT), VRow S W d ao a → VRow S W d bo b → (∀ b, S b → b < W.heap.size) →
    Ans 43 #[.slice ao a.length ca, .slice bo b.length cb, .func (.func 20) #[] #[]] (sameVL d a b) W
  | 0, W, ao, bo, ca, cb, a, b, ha, hb, hS => by
    have ha' : a = [] := ha
    have hb' : b = [] := hb
    intro W' g
    have hk : KpOf S W W' := fun b hb => g.block b (hS b hb) id
    have := equalFunc_step S 0 W' ao bo ca cb a b ((ha.kept hk).more (by omega)) ((hb.kept hk).more (by omega)) (fun b hb => Nat.lt_of_lt_of_le (hS b hb) g.size) (fun u v hu => by rw [ha'] at hu; cases hu)
    rw [show sameVL (0 + 1) a b = sameVL 0 a b by rw [sameVL_succ, sameVL, ha', hb']; rfl] at this
    exact this
  | d + 1, W, ao, bo, ca, cb, a, b, ha, hb, hS => by
    intro W' g
    have hk : KpOf S W W' := fun b hb => g.block b (hS b hb) id
    refine equalFunc_step S d W' ao bo ca cb a b (ha.kept hk) (hb.kept hk) (fun b hb => Nat.lt_of_lt_of_le (hS b hb) g.size) fun u v _ _ ao bo ca cb h1 h2 => ?_
    have := same_walk u.nul v.nul u.num v.num u.text v.text ao bo u.list.length ca v.list.length cb _ W' (same_any S d W' ao bo ca cb u.list v.list h1 h2 (fun b hb => Nat.lt_of_lt_of_le (hS b hb) g.size))
    rw [sameV_eq]
    exact this
end Go.Proofs.YtcfdkadhclickaaDoor.Kit
