import Derived.Test.YtfoifmacobldbaaGreatDoorVD
import Derived.Lib.Bytealg
import Derived.Test.YtfoifmacobldbaaGreatDoorVN
import Derived.Test.YtfoifmacobldbaaGreatDoorVC
import Derived.Test.YtfoifmacobldbaaGreatDoorTA
import Derived.Test.YtfoifmacobldbaaGreatDoorRF
import Derived.Test.YtfoifmacobldbaaGreatDoorQG
import Derived.Test.YtfoifmacobldbaaGreatDoorRX
set_option maxRecDepth 100000
set_option maxHeartbeats 4000000
namespace Go.Proofs.YtfoifmacobldbaaGreatDoor.Kit
open Go.RowKit Go.Shelf Go.Deep
set_option linter.unusedVariables false
/-! ### which values are the same -/
/-- two lists of the same length, whose parts are alike one by one -/
def sameAll {α : Type} (p : α → α → Bool) : List α → List α → Bool
  | [], [] => true
  | f :: a, g :: b => p f g && sameAll p a b
  | [], _ :: _ => false
  | _ :: _, [] => false
theorem sameAll_len {α : Type} {p : α → α → Bool} : ∀ {a b : List α}, a.length ≠ b.length → sameAll p a b = false
  | [], [], h => absurd rfl h
  | [], _ :: _, _ => rfl
  | _ :: _, [], _ => rfl
  | _ :: a, _ :: b, h => by simp [sameAll, sameAll_len (a := a) (b := b) (by simpa using h)]
theorem sameAll_true {α : Type} {p : α → α → Bool} : ∀ {a b : List α}, a.length = b.length → (∀ i (h : i < a.length) (h' : i < b.length), p a[i] b[i] = true) → sameAll p a b = true
  | [], [], _, _ => rfl
  | [], _ :: _, h, _ => by simp at h
  | _ :: _, [], h, _ => by simp at h
  | f :: a, g :: b, h, hp => by
    have h0 : p f g = true := hp 0 (by simp) (by simp)
    have h1 := sameAll_true (p := p) (a := a) (b := b) (by simpa using h) (fun i hi hi' => hp (i + 1) (by simp; omega) (by simp; omega))
    simp [sameAll, h0, h1]
theorem sameAll_false {α : Type} {p : α → α → Bool} : ∀ {a b : List α} (i : Nat) (h : i < a.length) (h' : i < b.length), p a[i] b[i] = false → sameAll p a b = false
  | [], _, _, h, _, _ => by simp at h
  | _ :: _, [], _, _, h, _ => by simp at h
  | f :: a, g :: b, 0, _, _, hp => by
    have : p f g = false := hp
    simp [sameAll, this]
  | f :: a, g :: b, i + 1, h, h', hp => by
    have h1 := sameAll_false (p := p) (a := a) (b := b) i (by simp at h; omega) (by simp at h'; omega) hp
    simp [sameAll, h1]
theorem sameAll_iff {α : Type} {p : α → α → Bool} : ∀ {a b : List α}, (∀ x ∈ a, ∀ y ∈ b, (p x y = true ↔ x = y)) → (sameAll p a b = true ↔ a = b)
  | [], [], _ => by simp [sameAll]
  | [], _ :: _, _ => by simp [sameAll]
  | _ :: _, [], _ => by simp [sameAll]
  | x :: a, y :: b, h => by
    have h0 := h x (by simp) y (by simp)
    have h1 := sameAll_iff (p := p) (a := a) (b := b) fun u hu v hv => h u (by simp [hu]) v (by simp [hv])
    simp only [sameAll, Bool.and_eq_true, List.cons.injEq, h0, h1]
mutual
def sameVL : Nat → List VT → List VT → Bool
  | 0, a, b => sameAll (fun _ _ => true) a b
  | d + 1, a, b => sameAll (sameV d) a b
def sameV : Nat → VT → VT → Bool
  | d, a, b => (a.nul == b.nul) && (a.num == b.num) && sEq a.text b.text && sameVL d a.list b.list
end
theorem sameVL_succ (d : Nat) (a b : List VT) : sameVL (d + 1) a b = sameAll (sameV d) a b := by rw [sameVL]
theorem sameV_eq (d : Nat) (a b : VT) : sameV d a b = ((a.nul == b.nul) && (a.num == b.num) && sEq a.text b.text && sameVL d a.list b.list) := by rw [sameV]
theorem sEq_iff (a b : ByteArray) : sEq a b = true ↔ a = b := by
  unfold sEq
  rw [ByteArray.toList_eq, ByteArray.toList_eq, beq_iff_eq]
  exact ⟨bytes_ext, fun h => by rw [h]⟩
theorem same_iff : ∀ (d : Nat) (a b : VT), vdeep d a.list → vdeep d b.list → (sameV d a b = true ↔ a = b) := by
  intro d
  induction d with
  | zero =>
    intro a b ha hb
    have ha' : a.list = [] := ha
    have hb' : b.list = [] := hb
    rw [sameV_eq, sameVL, ha', hb']
    simp only [Bool.and_eq_true, beq_iff_eq, sEq_iff, sameAll]
    exact ⟨fun ⟨⟨⟨h1, h2⟩, h3⟩, _⟩ => VT.ext' h1 h2 h3 (ha'.trans hb'.symm), fun h => by subst h; simp⟩
  | succ d ih =>
    intro a b ha hb
    have hl : sameAll (sameV d) a.list b.list = true ↔ a.list = b.list := sameAll_iff fun x hx y hy => ih x y (ha x hx) (hb y hy)
    rw [sameV_eq, sameVL_succ]
    simp only [Bool.and_eq_true, beq_iff_eq, sEq_iff, hl]
    exact ⟨fun ⟨⟨⟨h1, h2⟩, h3⟩, h4⟩ => VT.ext' h1 h2 h3 h4, fun h => by subst h; simp⟩
end Go.Proofs.YtfoifmacobldbaaGreatDoor.Kit
namespace Go.Proofs.YtfoifmacobldbaaGreatDoor.Kit
open Go.RowKit Go.Shelf Go.Deep
set_option linter.unusedVariables false
attribute [local go_sem] run_store_func
/-! ### fits 25, Fits 6 -/
theorem gr_past {W V w' : World} {sb : Nat} (g : Gr W V) (k : Keeps V w' (fun k => k = sb)) (h : W.heap.size ≤ sb) : Gr W w' := g.trans k (fun j hj e => by omega)
theorem fits25_walk (f0 : ByteArray) (f1 : Bool) (f2 f3 f4 f5 : Int) (ao : Option Addr) (n ca : Nat) (v0 : Bool) (v1 : Int) (v2 : ByteArray) (vo : Option Addr) (m vc : Nat) (w : World) (r : Int → Option Int)
    (hF : ∀ (V : World) (sb : Nat), Gr w V → w.heap.size ≤ sb → sb < V.heap.size → FitC V sb 43 (.agg #[.string f0, .bool f1, .int .i64 f2, .int .i64 f3, .int .i64 f4, .int .i64 f5, .slice ao n ca]) (.agg #[.bool v0, .int .i64 v1, .string v2, .slice vo m vc]) r) :
    ∀ W, Gr w W → Calls Tryz.prog 22 #[.agg #[.string f0, .bool f1, .int .i64 f2, .int .i64 f3, .int .i64 f4, .int .i64 f5, .slice ao n ca], .agg #[.bool v0, .int .i64 v1, .string v2, .slice vo m vc]] W fun e w' => e = .returned (.bool (r 4194304).isSome) ∧ Gr W w' := by
  intro W g
  obtain ⟨V, hV⟩ : ∃ V, ((W.alloc (.cells #[.string f0, .bool f1, .int .i64 f2, .int .i64 f3, .int .i64 f4, .int .i64 f5, .slice ao n ca] 26)).alloc (.cells #[.bool v0, .int .i64 v1, .string v2, .slice vo m vc] 29)).alloc (.cells #[.int .i64 4194304] 79) = V := ⟨_, rfl⟩
  have gv : Gr W V := by rw [← hV]; exact (((Keeps.refl W _).alloc _).alloc _).alloc _
  have hbx : V.heap[W.heap.size + 1 + 1]? = some (.cells #[.int .i64 4194304] 79) := by
    have h := (alloc3 W (.cells #[.string f0, .bool f1, .int .i64 f2, .int .i64 f3, .int .i64 f4, .int .i64 f5, .slice ao n ca] 26) (.cells #[.bool v0, .int .i64 v1, .string v2, .slice vo m vc] 29) (.cells #[.int .i64 4194304] 79)).2.2.1
    rw [← hV]; exact h
  have HC := hidM (hF V (W.heap.size + 1 + 1) (g.trans gv (fun _ _ h => h)) (by have := g.size; omega) (lt_of_heap hbx) V 4194304 ⟨Keeps.refl _ _, hbx⟩ (by decide) (by decide))
  have HG := hidM gv
  obtain ⟨q, hq⟩ : ∃ q, q = r 4194304 := ⟨_, rfl⟩
  rw [← hq] at HC ⊢
  have HV := hidM hV
  clear hF g gv hbx hq hV
  go_enter Tryz.func22, Tryz.ntmps22
  go_wp2_with (go_at_call 43; refine Hid.out ?_)
  unfold Hid
  rw [HV.out]
  refine Calls.mono HC.out ?_
  rintro e w' ⟨l', rfl, hs, -⟩
  have HE := hidM (gr_past HG.out hs.kp (by omega))
  clear hs
  go_wp2_with fail
  go_ret
  exact ⟨rfl, HE.out⟩
def fitE (mb fb : Bool) : Int := if mb = false then 5 else if fb = false then 7 else 0
theorem fits6_walk (f0 : ByteArray) (f1 : Bool) (f2 f3 f4 f5 : Int) (ao : Option Addr) (n ca : Nat) (v0 : Bool) (v1 : Int) (v2 : ByteArray) (vo : Option Addr) (m vc : Nat) (w : World) (mb fb : Bool)
    (h24 : ∀ W, Gr w W → Calls Tryz.prog 21 #[.agg #[.string f0, .bool f1, .int .i64 f2, .int .i64 f3, .int .i64 f4, .int .i64 f5, .slice ao n ca]] W fun e w' => e = .returned (.bool mb) ∧ Gr W w')
    (h25 : mb = true → ∀ W, Gr w W → Calls Tryz.prog 22 #[.agg #[.string f0, .bool f1, .int .i64 f2, .int .i64 f3, .int .i64 f4, .int .i64 f5, .slice ao n ca], .agg #[.bool v0, .int .i64 v1, .string v2, .slice vo m vc]] W fun e w' => e = .returned (.bool fb) ∧ Gr W w') :
    ∀ W, Gr w W → Calls Tryz.prog 16 #[.agg #[.string f0, .bool f1, .int .i64 f2, .int .i64 f3, .int .i64 f4, .int .i64 f5, .slice ao n ca], .agg #[.bool v0, .int .i64 v1, .string v2, .slice vo m vc]] W fun e w' => e = .returned (.int .i64 (fitE mb fb)) ∧ Gr W w' := by
  intro W g
  have HG := hidM g
  have H24 := hidM h24
  have H25 := hidM h25
  obtain ⟨R, hR⟩ : ∃ R, R = fitE mb fb := ⟨_, rfl⟩
  rw [← hR]
  have HR := hidM hR
  obtain ⟨V, hV⟩ : ∃ V, (W.alloc (.cells #[.string f0, .bool f1, .int .i64 f2, .int .i64 f3, .int .i64 f4, .int .i64 f5, .slice ao n ca] 26)).alloc (.cells #[.bool v0, .int .i64 v1, .string v2, .slice vo m vc] 29) = V := ⟨_, rfl⟩
  have gv : Gr W V := by rw [← hV]; exact ((Keeps.refl W _).alloc _).alloc _
  have hA := alloc3 W (.cells #[.string f0, .bool f1, .int .i64 f2, .int .i64 f3, .int .i64 f4, .int .i64 f5, .slice ao n ca] 26) (.cells #[.bool v0, .int .i64 v1, .string v2, .slice vo m vc] 29) (.cells #[] 29)
  have hb7 : B7 V W.heap.size f0 f1 f2 f3 f4 f5 ao n ca := by
    unfold B7
    rw [← hV]
    exact (Below.heap_alloc (W.alloc _) _ W.heap.size (by simp)).trans (heap_alloc_new W _)
  have hb4 : B4 V (W.heap.size + 1) v0 v1 v2 vo m vc := by
    unfold B4
    rw [← hV]
    have e := heap_alloc_new (W.alloc (.cells #[.string f0, .bool f1, .int .i64 f2, .int .i64 f3, .int .i64 f4, .int .i64 f5, .slice ao n ca] 26)) (.cells #[.bool v0, .int .i64 v1, .string v2, .slice vo m vc] 29)
    rw [show (W.alloc (.cells #[.string f0, .bool f1, .int .i64 f2, .int .i64 f3, .int .i64 f4, .int .i64 f5, .slice ao n ca] 26)).heap.size = W.heap.size + 1 by simp] at e
    exact e
  have H7 := hidM hb7
  have H4 := hidM hb4
  have HV := hidM hV
  have HGv := hidM gv
  clear h24 h25 g hR hV gv hA hb7 hb4
  go_enter Tryz.func16, Tryz.ntmps16
  go_wp2_with (go_at_call 21; refine Hid.out ?_)
  unfold Hid
  rw [HV.out]
  refine Calls.mono (H24.out _ (HG.out.trans HGv.out (fun _ _ h => h))) ?_
  rintro e V1 ⟨rfl, hg1⟩
  obtain ⟨p0, p1, p2, p3, p4, p5, p6⟩ := B7.cells ((hg1.block _ (lt_of_heap H7.out) id).trans H7.out)
  obtain ⟨q0, q1, q2, q3⟩ := B4.cells ((hg1.block _ (lt_of_heap H4.out) id).trans H4.out)
  have HG1 := hidM (HGv.out.trans hg1 (fun _ _ h => h))
  clear hg1
  cases mb with
  | false =>
    have HX : Hid (R = 5) := HR.out
    go_wp2_with fail
    go_ret
    exact ⟨by rw [HX.out]; rfl, HG1.out⟩
  | true =>
    go_wp2_with (go_at_call 22; refine Hid.out ?_)
    unfold Hid
    refine Calls.mono (H25.out (by trivial) _ (HG.out.trans HG1.out (fun _ _ h => h))) ?_
    rintro e V2 ⟨rfl, hg2⟩
    have HG2 := hidM (HG1.out.trans hg2 (fun _ _ h => h))
    clear hg2 p0 p1 p2 p3 p4 p5 p6 q0 q1 q2 q3
    cases fb with
    | false =>
      have HX : Hid (R = 7) := HR.out
      go_wp2_with fail
      go_ret
      exact ⟨by rw [HX.out]; rfl, HG2.out⟩
    | true =>
      have HX : Hid (R = 0) := HR.out
      go_wp2_with fail
      go_ret
      exact ⟨by rw [HX.out]; rfl, HG2.out⟩
/-! ### Same 20, slices.EqualFunc 43 -/
/-- a callee that answers that bool in all later worlds -/
def Ans (F : Nat) (args : Array Value) (b : Bool) (w : World) : Prop := ∀ W, Gr w W → Calls Tryz.prog F args W fun e w' => e = .returned (.bool b) ∧ Gr W w'
theorem Ans.gr {F : Nat} {args : Array Value} {b : Bool} {w W : World} (h : Ans F args b w) (g : Gr w W) : Ans F args b W := fun W' g' => h W' (g.trans g' (fun _ _ h => h))
theorem beqZ {a b : Int} (h : ¬ a = b) : (a == b) = false := by simp [h]
theorem same_walk (a0 b0 : Bool) (a1 b1 : Int) (a2 b2 : ByteArray) (ao bo : Option Addr) (na ca nb cb : Nat) (r : Bool) (w : World) (h43 : Ans 34 #[.slice ao na ca, .slice bo nb cb, .func (.func 17) #[] #[]] r w) :
    Ans 17 #[.agg #[.bool a0, .int .i64 a1, .string a2, .slice ao na ca], .agg #[.bool b0, .int .i64 b1, .string b2, .slice bo nb cb]] ((a0 == b0) && (a1 == b1) && sEq a2 b2 && r) w := by
  intro W g
  have H := hidM (h43.gr g)
  clear h43 g
  have HG : Hid (∀ o o', Gr W ((W.alloc o).alloc o')) := fun o o' => (gr_alloc W o).alloc o'
  go_enter Tryz.func17, Tryz.ntmps17
  unfold sEq
  cases e0 : (a0 == b0) with
  | true =>
    obtain rfl : a0 = b0 := by simpa using e0
    clear e0
    by_cases e1 : a1 = b1
    · subst e1
      cases e2 : (a2.toList == b2.toList) with
      | true =>
        go_wp2_with (go_at_call 34; refine Hid.out ?_)
        unfold Hid
        refine Calls.mono (H.out _ (HG.out _ _)) ?_
        rintro e W1 ⟨rfl, hg1⟩
        go_wp2_with fail
        go_ret
        exact ⟨by simp, (HG.out _ _).trans hg1 (fun _ _ h => h)⟩
      | false =>
        go_wp2
        go_ret
        exact ⟨by simp, HG.out _ _⟩
    · have e := beqZ e1
      go_wp2
      go_ret
      exact ⟨by simp [e], HG.out _ _⟩
  | false =>
    go_wp2
    go_ret
    exact ⟨by simp, HG.out _ _⟩
theorem equalFunc_step (S : Nat → Prop) (d : Nat) (W : World) (ao bo : Option Addr) (ca cb : Nat) (a b : List VT) (ha : VRow S W (d + 1) ao a) (hb : VRow S W (d + 1) bo b) (hS : ∀ b, S b → b < W.heap.size)
    (h20 : ∀ (u v : VT), u ∈ a → v ∈ b → ∀ (ao bo : Option Addr) (ca cb : Nat), VRow S W d ao u.list → VRow S W d bo v.list → Ans 17 #[.agg #[.bool u.nul, .int .i64 u.num, .string u.text, .slice ao u.list.length ca], .agg #[.bool v.nul, .int .i64 v.num, .string v.text, .slice bo v.list.length cb]] (sameV d u v) W) :
    Calls Tryz.prog 34 #[.slice ao a.length ca, .slice bo b.length cb, .func (.func 17) #[] #[]] W fun e w' => e = .returned (.bool (sameVL (d + 1) a b)) ∧ Gr W w' := by
  have hla : a.length ≤ 1000000000000 := ha.len
  have hlb : b.length ≤ 1000000000000 := hb.len
  have HA := hidM ha
  have HB := hidM hb
  have HS := hidM hS
  have H20 := hidM h20
  obtain ⟨R, hR⟩ : ∃ R, R = sameVL (d + 1) a b := ⟨_, rfl⟩
  rw [← hR]
  rw [sameVL_succ] at hR
  have HR := hidM hR
  obtain ⟨L, hL⟩ : ∃ L, L = a.length := ⟨_, rfl⟩
  obtain ⟨M, hM⟩ : ∃ M, M = b.length := ⟨_, rfl⟩
  rw [← hL] at hla ⊢
  rw [← hM] at hlb ⊢
  have HL := hidM hL
  have HM := hidM hM
  clear ha hb hS h20 hR hL hM
  go_enter Tryz.func34, Tryz.ntmps34
  by_cases hLM : L = M
  · subst hLM
    go_wp2
    go_loopw [17] (fun p wr => ∃ k : Nat, k ≤ L ∧ p = .int .i64 (k : Int) ∧ Hid (Gr W wr ∧ ∀ i (h : i < a.length) (h' : i < b.length), i < k → sameV d a[i] b[i] = true)) (fun p _ => L - (intOf p).toNat)
    case atStart => exact ⟨0, by omega, rfl, Keeps.refl _ _, fun i _ _ h => by omega⟩
    case round =>
      obtain ⟨k, hk, rfl, HK⟩ := hrel
      by_cases hlt : k < L
      · have hka : k < a.length := by have := HL.out; omega
        have hkb : k < b.length := by have := HM.out; omega
        obtain ⟨x, o, rfl, hx, hcs⟩ := HA.out.2 (fun e => by subst e; simp at hka)
        obtain ⟨y, u, rfl, hy, hds⟩ := HB.out.2 (fun e => by subst e; simp at hkb)
        obtain ⟨ao', ca', hc, hle, hok, hr⟩ := hcs k hka
        obtain ⟨bo', cb', hd, hle', hok', hr'⟩ := hds k hkb
        have hcall := H20.out a[k] b[k] (List.getElem_mem hka) (List.getElem_mem hkb) ao' bo' ca' cb' hr hr'
        have HP := hidM HK.out.2
        have HG := hidM HK.out.1
        obtain ⟨f, hf⟩ : ∃ f, f = a[k]'hka := ⟨_, rfl⟩
        obtain ⟨g, hg⟩ : ∃ g, g = b[k]'hkb := ⟨_, rfl⟩
        have g1 := hc.kept (HK.out.1.block x (HS.out x hx) id)
        have g2 := hd.kept (HK.out.1.block y (HS.out y hy) id)
        rw [← hf] at g1 hcall
        rw [← hg] at g2 hcall
        have H2 : Hid _ := hidM (fun W' (g : Gr W W') => hcall W' g)
        obtain ⟨p0, p1, p2, p3⟩ := g1
        obtain ⟨q0, q1, q2, q3⟩ := g2
        have q0 := fun o => (gr_alloc wr o).cell' q0 id
        have q1 := fun o => (gr_alloc wr o).cell' q1 id
        have q2 := fun o => (gr_alloc wr o).cell' q2 id
        have q3 := fun o => (gr_alloc wr o).cell' q3 id
        have HF := hidM hf
        have HG' := hidM hg
        have hltI : (k : Int) < (L : Int) := by omega
        clear hcs hds hc hd hr hr' hcall hf hg HK hok hok' hle hle'
        obtain ⟨z, hz⟩ : ∃ z, z = sameV d f g := ⟨_, rfl⟩
        rw [← hz] at H2
        have HZ := hidM hz
        clear hz
        cases z with
        | true =>
          go_wp2_with (go_at_call 17; refine Hid.out ?_)
          unfold Hid
          refine Calls.mono (H2.out _ ((HG.out.alloc _).alloc _)) ?_
          rintro e w2 ⟨rfl, hg2⟩
          have HE := hidM (((HG.out.alloc _).alloc _).trans hg2 (fun _ _ h => h))
          clear hg2
          go_wp2_with fail
          go_roundw
          case rel =>
            refine ⟨k + 1, by omega, by simp, HE.out, fun i hi hi' h => ?_⟩
            by_cases e : i = k
            · subst e; rw [← HF.out, ← HG'.out]; exact HZ.out.symm
            · exact HP.out i hi hi' (by omega)
          case measure => simp [intOf]; omega
        | false =>
          have HRf : Hid (R = false) := by show R = false; rw [HR.out]; exact sameAll_false k hka hkb (by rw [← HF.out, ← HG'.out]; exact HZ.out.symm)
          go_wp2_with (go_at_call 17; refine Hid.out ?_)
          unfold Hid
          refine Calls.mono (H2.out _ ((HG.out.alloc _).alloc _)) ?_
          rintro e w2 ⟨rfl, hg2⟩
          have HE := hidM (((HG.out.alloc _).alloc _).trans hg2 (fun _ _ h => h))
          clear hg2
          go_wp2_with fail
          go_ret
          exact ⟨by rw [HRf.out]; rfl, HE.out⟩
      · have HRt : Hid (R = true) := by
          show R = true
          rw [HR.out]
          refine sameAll_true (by have := HL.out; have := HM.out; omega) fun i hi hi' => HK.out.2 i hi hi' (by have := HL.out; omega)
        have hkL : k = L := by omega
        subst hkL
        have HG := hidM HK.out.1
        clear HK
        go_wp2
        go_ret
        exact ⟨by rw [HRt.out]; rfl, HG.out⟩
  · have HRf : Hid (R = false) := by show R = false; rw [HR.out]; exact sameAll_len (by have := HL.out; have := HM.out; omega)
    have hb := beqZ (a := (L : Int)) (b := (M : Int)) (by omega)
    go_wp2
    go_ret
    exact ⟨by rw [HRf.out]; rfl, Keeps.refl _ _⟩
/-- all depths -/
theorem same_any (S : Nat → Prop) : ∀ (d : Nat) (W : World) (ao bo : Option Addr) (ca cb : Nat) (a b : List VT), VRow S W d ao a → VRow S W d bo b → (∀ b, S b → b < W.heap.size) →
    Ans 34 #[.slice ao a.length ca, .slice bo b.length cb, .func (.func 17) #[] #[]] (sameVL d a b) W
  | 0, W, ao, bo, ca, cb, a, b, ha, hb, hS => by
    have ha' : a = [] := ha
    have hb' : b = [] := hb
    intro W' g
    have hk : KpOf S W W' := fun b hb => g.block b (hS b hb) id
    have := equalFunc_step S 0 W' ao bo ca cb a b ((ha.kept hk).more (by omega)) ((hb.kept hk).more (by omega)) (fun b hb => Nat.lt_of_lt_of_le (hS b hb) g.size) (fun u v hu => by rw [ha'] at hu; cases hu)
    rw [show sameVL (0 + 1) a b = sameVL 0 a b by rw [sameVL_succ, sameVL, ha', hb']; rfl] at this
    exact this
  | d + 1, W, ao, bo, ca, cb, a, b, ha, hb, hS => by
    intro W' g
    have hk : KpOf S W W' := fun b hb => g.block b (hS b hb) id
    refine equalFunc_step S d W' ao bo ca cb a b (ha.kept hk) (hb.kept hk) (fun b hb => Nat.lt_of_lt_of_le (hS b hb) g.size) fun u v _ _ ao bo ca cb h1 h2 => ?_
    have := same_walk u.nul v.nul u.num v.num u.text v.text ao bo u.list.length ca v.list.length cb _ W' (same_any S d W' ao bo ca cb u.list v.list h1 h2 (fun b hb => Nat.lt_of_lt_of_le (hS b hb) g.size))
    rw [sameV_eq]
    exact this
end Go.Proofs.YtfoifmacobldbaaGreatDoor.Kit
namespace Go.Proofs.YtfoifmacobldbaaGreatDoor.Kit
open Go.RowKit Go.Shelf Go.Deep
set_option linter.unusedVariables false
set_option linter.unusedSimpArgs false
/-! ### appendValue 23 -/
def okNm : Nat → FT → Prop
  | 0, _ => True
  | n + 1, f => ∀ k ∈ f.kids, k.name.size ≤ 64 ∧ okNm n k
theorem all2_get {r : FT → VT → Prop} : ∀ {gs : List FT} {xs : List VT}, QB.All2 r gs xs → ∀ k (h1 : k < gs.length) (h2 : k < xs.length), r gs[k] xs[k]
  | [], [], _, k, h1, _ => by simp at h1
  | g :: gs, x :: xs, h, 0, _, _ => h.1
  | g :: gs, x :: xs, h, k + 1, h1, h2 => by
    simp only [List.getElem_cons_succ]
    exact all2_get h.2 k (by simpa using h1) (by simpa using h2)
  | [], _ :: _, h, _, _, _ => h.elim
  | _ :: _, [], h, _, _, _ => h.elim
theorem nbGr {a W : World} (g : Gr a W) {b : Nat} (hl : b < a.heap.size) (h : ¬ IsB a a b) : ¬ IsB a W b := fun e => by have := e.1; omega
theorem head_cells {S : Nat → Prop} {a : World} {D : Nat} {ao : Option Addr} {l : List FT} (h : RowAt S a (D + 1) ao l) (hne : l ≠ []) : ∃ fb fo go gc, ao = some ⟨fb, fo, none⟩ ∧ S fb ∧ CellsAt a fb fo l.head! go gc ∧ l.head!.kids.length ≤ gc ∧ RowAt S a D go l.head!.kids := by
  obtain ⟨b, o, e, hb, hi⟩ := h.2 hne
  obtain ⟨h0, h1⟩ := head_get hne
  obtain ⟨ao', ca', hc, hle, hr⟩ := hi 0 h0
  rw [h1 h0] at hc hle hr
  exact ⟨b, o, ao', ca', e, hb, by simpa using hc, hle, hr⟩
theorem vrow_more {S : Nat → Prop} {W : World} {d : Nat} {ao : Option Addr} {l : List VT} (h : VRow S W d ao l) : VRow S W (d + 1) ao l := h.more (by omega)
theorem val23_step (S : Nat → Prop) (a : World) (hS : ∀ b, S b → b < a.heap.size ∧ ¬ IsB a a b) (hT : Tbs a) (E D : Nat) (f : FT) (ao : Option Addr) (ca : Nat) (hf : RowAt S a (E + 1) ao f.kids) (hca : f.kids.length ≤ ca) (ht : tableB f = true) (hnm : ∀ g ∈ f.kids, g.name.size ≤ 64)
    (ih : ∀ g ∈ f.kids, ∀ go gc, g.kids.length ≤ gc → RowAt S a E go g.kids → ∀ (x : VT) xo xc dx, VOk x → VRow S a dx xo x.list → QB.fitV (QF.lf numB) D g x → PrC a g go gc x xo xc (QB.prV QF.leafT D g x))
    (v : VT) (vo : Option Addr) (vc dv : Nat) (hok : VOk v) (hv : VRow S a dv vo v.list) (hfit : QB.fitB (QF.lf numB) (QB.fitV (QF.lf numB) D) f v) : PrC a f ao ca v vo vc (QB.prB QF.leafT (QB.prV QF.leafT D) f v) := by
  intro u W bo bc n bs hB hn
  by_cases hl : 65536 < n
  · exact val23_long _ _ _ _ _ _ _ _ _ _ _ _ _ _ _ a u W bo bc n bs hB hl _
  have hl : n ≤ 65536 := by omega
  have hbl := tab_kind ht
  unfold QB.fitB at hfit
  cases hnul : v.nul with
  | true =>
    have e : QB.prB QF.leafT (QB.prV QF.leafT D) f v = [110, 117, 108, 108] := by
      unfold QB.prB
      rw [if_pos hnul]
      rfl
    rw [e]
    exact val23_null _ _ _ _ _ _ _ _ _ _ _ _ _ _ a u W bo bc n bs hB hl
  | false =>
    rw [if_neg (by rw [hnul]; simp)] at hfit
    unfold QB.prB at hn ⊢
    rw [if_neg (by rw [hnul]; simp)] at hn ⊢
    have grW : Gr a W := hB.gr
    have hkl : f.kids.length ≤ 1000000000000 := hf.1
    by_cases k15 : f.kind = 15 ∨ f.kind = 16
    · rw [if_pos k15] at hn ⊢
      have hne := tab_kid ht (by omega)
      obtain ⟨fb, fo, go, gc, rfl, hb, hc, hle, hr⟩ := head_cells hf hne
      have hmem := QB.head_mem hne
      have hitems : ∀ x ∈ v.list, QB.fitV (QF.lf numB) D f.kids.head! x := by
        rcases k15 with k | k
        · rw [if_pos k] at hfit; exact hfit.2.2
        · rw [if_neg (by omega), if_pos k] at hfit; exact hfit.2.2
      have hpos : 0 < f.kids.length := List.length_pos_iff.2 hne
      have h50 := items50 S dv a f.kids.head! go gc v.list vo vc (QB.prV QF.leafT D f.kids.head!) (fun b hb => (hS b hb).1) (vrow_more hv) (fun x xo xc hx hxo hxr => ih _ hmem go gc hle hr x xo xc dv hxo hxr (hitems x hx))
      have hnb := nbGr grW (hS fb hb).1 (hS fb hb).2
      rcases k15 with k | k
      · rw [k]
        exact val23_items15 _ _ _ _ _ fb fo _ _ _ _ _ _ _ _ _ _ _ _ _ _ _ _ a u W bo bc n bs hB hl _ (grW.cell' hc.c0 id) (grW.cell' hc.c1 id) (grW.cell' hc.c2 id) (grW.cell' hc.c3 id) (grW.cell' hc.c4 id) (grW.cell' hc.c5 id) (grW.cell' hc.c6 id) hpos hkl hnb (fun u W hB => h50 u W bo bc n bs hB hn)
      · rw [k]
        exact val23_items16 _ _ _ _ _ fb fo _ _ _ _ _ _ _ _ _ _ _ _ _ _ _ _ a u W bo bc n bs hB hl _ (grW.cell' hc.c0 id) (grW.cell' hc.c1 id) (grW.cell' hc.c2 id) (grW.cell' hc.c3 id) (grW.cell' hc.c4 id) (grW.cell' hc.c5 id) (grW.cell' hc.c6 id) hpos hkl hnb (fun u W hB => h50 u W bo bc n bs hB hn)
    · rw [if_neg k15] at hn ⊢
      rw [if_neg (fun h => k15 (.inl h)), if_neg (fun h => k15 (.inr h))] at hfit
      by_cases k17 : f.kind = 17
      · rw [if_pos k17] at hn hfit ⊢
        have hlen := hfit.2.len
        have h48 := parts48 S E dv a f.kids ao ca v.list vo vc (QB.prV QF.leafT D) hS hf (vrow_more hv) hlen hnm (fun k h1 h2 go gc hle hr xo xc hxo hxr => ih _ (List.getElem_mem h1) go gc hle hr _ xo xc dv hxo hxr (all2_get hfit.2 k h1 h2))
        rw [k17]
        exact val23_parts _ _ _ _ _ _ _ _ _ _ _ _ _ a u W bo bc n bs hB hl _ (fun W hB => h48 u W bo bc n bs hB hn)
      · rw [if_neg k17] at hn hfit ⊢
        by_cases k18 : f.kind = 18
        · rw [if_pos k18] at hn hfit ⊢
          obtain ⟨j, x, rfl, hj, hx⟩ := hfit
          have hne : f.kids ≠ [] := fun e => by rw [e] at hj; simp at hj
          obtain ⟨fb, fo, rfl, hb, hcs⟩ := hf.2 hne
          obtain ⟨go, gc, hc, hle, hr⟩ := hcs j hj
          have hjg : f.kids.getD j default = f.kids[j]'hj := by simp [hj]
          have e1 : (VT.mk false (j : Int) ⟨#[]⟩ [x]).num.toNat = j := by simp [VT.num]
          have e2 : (VT.mk false (j : Int) ⟨#[]⟩ [x]).list.head! = x := rfl
          rw [e1, e2, hjg] at hn ⊢
          rw [hjg] at hx
          obtain ⟨eb, eo, rfl, heb, hes⟩ := (vrow_more hv).2 (show [x] ≠ [] by simp)
          obtain ⟨xo, xc, hxc, hxle, hxok, hxr⟩ := hes 0 (by simp [VT.list])
          have hcl := ih _ (List.getElem_mem hj) go gc hle hr x xo xc dv hxok hxr hx
          have h49 := choice49 a (f.kids[j]'hj) go gc x xo xc _ hcl (hnm _ (List.getElem_mem hj))
          have hcw : CellsAt W fb (fo + j * 7) (f.kids[j]'hj) go gc := hc.kept (grW.block fb (hS fb hb).1 id)
          have hxw : VCells W eb eo x xo xc := by
            have := hxc.kept (grW.block eb (hS eb heb).1 id)
            simpa [VT.list] using this
          rw [k18]
          exact val23_choice _ _ _ _ _ fb fo _ _ _ _ j eb eo _ _ _ _ _ _ _ _ _ _ _ _ _ _ _ a u W bo bc n bs hB hl _ hcw.c0 hcw.c1 hcw.c2 hcw.c3 hcw.c4 hcw.c5 hcw.c6 hxw.c0 hxw.c1 hxw.c2 hxw.c3 hj hkl (nbGr grW (hS fb hb).1 (hS fb hb).2) (nbGr grW (hS eb heb).1 (hS eb heb).2) (fun u W hB => h49 u W bo bc n bs hB hn)
        · rw [if_neg k18] at hn hfit ⊢
          by_cases k19 : f.kind = 19 ∨ f.kind = 20
          · rw [if_pos k19] at hn hfit ⊢
            have hne := tab_kid ht (by omega)
            obtain ⟨fb, fo, go, gc, rfl, hb, hc, hle, hr⟩ := head_cells hf hne
            have hmem := QB.head_mem hne
            have hpos : 0 < f.kids.length := List.length_pos_iff.2 hne
            have hcl := ih _ hmem go gc hle hr v vo vc dv hok hv hfit
            unfold PrC at hcl
            rw [hnul] at hcl
            have hnb := nbGr grW (hS fb hb).1 (hS fb hb).2
            rcases k19 with k | k
            · rw [k]
              exact val23_in19 _ _ _ _ _ fb fo _ _ _ _ _ _ _ _ _ _ _ _ _ _ _ _ a u W bo bc n bs hB hl _ (grW.cell' hc.c0 id) (grW.cell' hc.c1 id) (grW.cell' hc.c2 id) (grW.cell' hc.c3 id) (grW.cell' hc.c4 id) (grW.cell' hc.c5 id) (grW.cell' hc.c6 id) hpos hkl hnb (fun u W hB => hcl u W bo bc n bs hB hn)
            · rw [k]
              exact val23_in20 _ _ _ _ _ fb fo _ _ _ _ _ _ _ _ _ _ _ _ _ _ _ _ a u W bo bc n bs hB hl _ (grW.cell' hc.c0 id) (grW.cell' hc.c1 id) (grW.cell' hc.c2 id) (grW.cell' hc.c3 id) (grW.cell' hc.c4 id) (grW.cell' hc.c5 id) (grW.cell' hc.c6 id) hpos hkl hnb (fun u W hB => hcl u W bo bc n bs hB hn)
          · rw [if_neg k19] at hn hfit ⊢
            unfold QF.lf at hfit
            unfold QF.leafT at hn ⊢
            by_cases k12 : f.kind = 12
            · rw [if_pos k12] at hn ⊢
              have hts : v.text.size ≤ 100000000000 := by
                have h1 := QF.flat_len v.text.data.toList
                simp only [List.length_cons, List.length_append, List.length_nil] at hn
                have : v.text.data.toList.length = v.text.size := Array.length_toList
                omega
              rw [k12]
              exact val23_text _ _ _ _ _ _ _ _ _ _ _ _ _ a u W bo bc n bs hB hl hts
            · rw [if_neg k12] at hn hfit ⊢
              by_cases k13 : f.kind = 13 ∨ f.kind = 14
              · rw [if_pos k13] at hn ⊢
                have hts : v.text.size ≤ 100000000000 := by
                  have h1 : v.text.data.toList.length ≤ (v.text.data.toList.flatMap QF.hex2).length := by
                    have := QG.hex_len v.text.data.toList
                    omega
                  simp only [List.length_cons, List.length_append, List.length_nil] at hn
                  have : v.text.data.toList.length = v.text.size := Array.length_toList
                  omega
                exact val23_bytes _ _ _ _ _ _ _ _ _ _ _ _ _ _ a u W bo bc n bs hB hl hts k13
              · rw [if_neg k13] at hn ⊢
                rw [if_neg (fun h => k13 (.inl h)), if_neg (fun h => k13 (.inr h))] at hfit
                have hk2 : 2 ≤ f.kind ∧ f.kind ≤ 11 := by
                  refine ⟨?_, by omega⟩
                  rcases Int.lt_or_le f.kind 2 with h | h
                  · have k1 : f.kind = 1 := by omega
                    have := hfit.2.2
                    rw [k1] at this
                    simp [numB] at this
                  · exact h
                exact val23_num _ _ _ _ _ _ _ _ _ _ _ _ _ _ a u W bo bc n bs hB hl hk2 hfit.2.1 hT
/-- every value that fits -/
theorem val23 (S : Nat → Prop) (a : World) (hS : ∀ b, S b → b < a.heap.size ∧ ¬ IsB a a b) (hT : Tbs a) : ∀ (D : Nat) (f : FT) (ao : Option Addr) (ca : Nat), RowAt S a D ao f.kids → f.kids.length ≤ ca → okF (D + 1) f → okNm (D + 1) f →
    ∀ (v : VT) (vo : Option Addr) (vc dv : Nat), VOk v → VRow S a dv vo v.list → QB.fitV (QF.lf numB) (D + 1) f v → PrC a f ao ca v vo vc (QB.prV QF.leafT (D + 1) f v)
  | 0, f, ao, ca, hf, hca, ho, hnm, v, vo, vc, dv, hok, hv, hfit => val23_step S a hS hT 0 0 f ao ca (hf.more (by omega)) hca ho.1 (fun g hg => (hnm g hg).1) (fun g hg go gc hle hr x xo xc dx h1 h2 h3 => h3.elim) v vo vc dv hok hv hfit
  | D + 1, f, ao, ca, hf, hca, ho, hnm, v, vo, vc, dv, hok, hv, hfit => val23_step S a hS hT D (D + 1) f ao ca hf hca ho.1 (fun g hg => (hnm g hg).1) (fun g hg go gc hle hr x xo xc dx h1 h2 h3 => val23 S a hS hT D g go gc hr hle (ho.2 g hg) (hnm g hg).2 x xo xc dx h1 h2 h3) v vo vc dv hok hv hfit
end Go.Proofs.YtfoifmacobldbaaGreatDoor.Kit
namespace Go.Proofs.YtfoifmacobldbaaGreatDoor.Kit
open Go.RowKit Go.Shelf Go.Deep
set_option linter.unusedVariables false
/-! ### what the calls of the law answer, as data -/
/-- the library's two functions -/
theorem lib89 {w : World} (hU : Lib.Utf8Tabs 0 1 w) : ∀ (s : ByteArray), s.size ≤ big → ∀ W', Gr w W' → Calls Tryz.prog 109 #[.string s] W' fun e w' => e = .returned (.bool (Lib.validD s.data.toList)) ∧ Gr W' w' := by
  intro s hs W' g
  have hb : Below w.heap.size w W' := Keeps.below g (fun _ _ h => h.elim) (Nat.le_refl _)
  have hz : s.size ≤ 1000000000000 := hs
  refine Calls.mono (Tryz.utf8_ValidString s W' (by omega) (Utf8Tabs_below hU hb)) ?_
  rintro e w' ⟨rfl, hb'⟩
  exact ⟨rfl, (Keeps.ofBelow hb').mono (fun b h h' => by omega)⟩
section
variable {S : Nat → Prop} {D d : Nat} {w : World} {f : FT} {ao : Option Addr} {ca : Nat}
def fitVB (D : Nat) (f : FT) (v : VT) : Bool := (weigh (fitsT (D + 1) f) v 4194304).isSome
theorem val25 (hU : Lib.Utf8Tabs 0 1 w) (hf : RowAt S w D ao f.kids) (hS : ∀ b, S b → b < w.heap.size) (ho : okF (D + 1) f) {v : VT} {vo : Option Addr} {vc : Nat} (hok : VOk v) (hv : VRow S w d vo v.list) :
    ∀ W, Gr w W → Calls Tryz.prog 22 #[.agg #[.string f.name, .bool f.nul, .int .i64 f.kind, .int .i64 f.width, .int .i64 f.id, .int .i64 f.index, .slice ao f.kids.length ca], .agg #[.bool v.nul, .int .i64 v.num, .string v.text, .slice vo v.list.length vc]] W fun e w' => e = .returned (.bool (fitVB D f v)) ∧ Gr W w' :=
  fits25_walk _ _ _ _ _ _ _ _ _ _ _ _ _ _ _ w (weigh (fitsT (D + 1) f) v) fun V sb g hsb _ =>
    have hk : KpOf S w V := fun b hb => g.block b (hS b hb) id
    fits47 hok (type_any S V sb (fun b hb => ⟨Nat.lt_of_lt_of_le (hS b hb) g.size, by have := hS b hb; omega⟩) (fun s hs W' k => lib89 hU s hs W' (gr_past g k hsb)) D f ao ca (hf.kept hk) ho v vo vc d hok (hv.kept hk))
theorem val6 (hU : Lib.Utf8Tabs 0 1 w) (hf : RowAt S w D ao f.kids) (hS : ∀ b, S b → b < w.heap.size) {mb : Bool}
    (h24 : ∀ W, Gr w W → Calls Tryz.prog 21 #[.agg #[.string f.name, .bool f.nul, .int .i64 f.kind, .int .i64 f.width, .int .i64 f.id, .int .i64 f.index, .slice ao f.kids.length ca]] W fun e w' => e = .returned (.bool mb) ∧ Gr W w') (ho : mb = true → okF (D + 1) f) {v : VT} {vo : Option Addr} {vc : Nat} (hok : VOk v) (hv : VRow S w d vo v.list) :
    ∀ W, Gr w W → Calls Tryz.prog 16 #[.agg #[.string f.name, .bool f.nul, .int .i64 f.kind, .int .i64 f.width, .int .i64 f.id, .int .i64 f.index, .slice ao f.kids.length ca], .agg #[.bool v.nul, .int .i64 v.num, .string v.text, .slice vo v.list.length vc]] W fun e w' => e = .returned (.int .i64 (fitE mb (fitVB D f v))) ∧ Gr W w' :=
  fits6_walk _ _ _ _ _ _ _ _ _ _ _ _ _ _ _ w mb (fitVB D f v) h24 (fun h => val25 hU hf hS (ho h) hok hv)
end
end Go.Proofs.YtfoifmacobldbaaGreatDoor.Kit
