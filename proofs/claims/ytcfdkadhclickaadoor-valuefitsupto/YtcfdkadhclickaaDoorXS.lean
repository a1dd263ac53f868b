import Derived.Test.YtcfdkadhclickaaDoorWC
import Derived.Test.YtcfdkadhclickaaDoorWE
namespace Go.Proofs.YtcfdkadhclickaaDoor.Kit
open Go.RowKit Go.Shelf Go.Deep
set_option linter.unusedVariables false
attribute [local go_sem] run_store_func

/-! ### the document's Same 14 -/
set_option maxRecDepth 100000 in
set_option maxHeartbeats 2000000 in
theorem same14_step (S : Nat → Prop) (d : Nat) (w : World) (a0 b0 : Bool) (a1 b1 : Int) (a2 b2 : ByteArray) (ao bo : Option Addr) (ca cb : Nat) (a b : List VT) (ha : VRow S w (d + 1) ao a) (hb : VRow S w (d + 1) bo b) (hS : ∀ b, S b → b < w.heap.size)
    (h14 : ∀ (u v : VT), u ∈ a → v ∈ b → ∀ (ao bo : Option Addr) (ca cb : Nat), VRow S w d ao u.list → VRow S w d bo v.list → Ans 14 #[.agg #[.bool u.nul, .int .i64 u.num, .string u.text, .slice ao u.list.length ca], .agg #[.bool v.nul, .int .i64 v.num, .string v.text, .slice bo v.list.length cb]] (sameV d u v) w) :
    Ans 14 #[.agg #[.bool a0, .int .i64 a1, .string a2, .slice ao a.length ca], .agg #[.bool b0, .int .i64 b1, .string b2, .slice bo b.length cb]] ((a0 == b0) && (a1 == b1) && sEq a2 b2 && sameVL (d + 1) a b) w := by
  intro W g0
  have hla : a.length ≤ 1000000000000 := ha.len
  have hlb : b.length ≤ 1000000000000 := hb.len
  have HA := hidM ha
  have HB := hidM hb
  have HS := hidM hS
  have H14 := hidM h14
  have HG0 := hidM g0
  obtain ⟨R, hR⟩ : ∃ R, R = sameVL (d + 1) a b := ⟨_, rfl⟩
  rw [← hR]
  rw [sameVL_succ] at hR
  have HR := hidM hR
  obtain ⟨L, hL⟩ : ∃ L, L = a.length := ⟨_, rfl⟩
  obtain ⟨M, hM⟩ : ∃ M, M = b.length := ⟨_, rfl⟩
  rw [← hL] at hla ⊢
  rw [← hM] at hlb ⊢
  have HL := hidM hL
  have HM := hidM hM
  have HG : Hid (∀ o o', Gr W ((W.alloc o).alloc o')) := fun o o' => (gr_alloc W o).alloc o'
  clear ha hb hS h14 hR hL hM g0
  unfold sEq
  cases e0 : (a0 == b0) with
  | false =>
    go_enter Tryd.func14, Tryd.ntmps14
    go_wp2
    go_ret
    exact ⟨by simp, HG.out _ _⟩
  | true =>
    obtain rfl : a0 = b0 := by simpa using e0
    clear e0
    by_cases e1 : a1 = b1
    case neg =>
      have e := beqZ e1
      go_enter Tryd.func14, Tryd.ntmps14
      go_wp2
      go_ret
      exact ⟨by simp [e], HG.out _ _⟩
    subst e1
    cases e2 : (a2.toList == b2.toList) with
    | false =>
      go_enter Tryd.func14, Tryd.ntmps14
      go_wp2
      go_ret
      exact ⟨by simp, HG.out _ _⟩
    | true =>
      by_cases hLM : L = M
      case neg =>
        have HRf : Hid (R = false) := by show R = false; rw [HR.out]; exact sameAll_len (by have := HL.out; have := HM.out; omega)
        have hb := beqZ (a := (L : Int)) (b := (M : Int)) (by omega)
        go_enter Tryd.func14, Tryd.ntmps14
        go_wp2
        go_ret
        exact ⟨by rw [HRf.out]; simp, HG.out _ _⟩
      subst hLM
      obtain ⟨V, hV⟩ : ∃ V, (W.alloc (.cells #[.bool a0, .int .i64 a1, .string a2, .slice ao L ca] 29)).alloc (.cells #[.bool a0, .int .i64 a1, .string b2, .slice bo L cb] 29) = V := ⟨_, rfl⟩
      have gv : Gr W V := by rw [← hV]; exact HG.out _ _
      have ba : B4 V W.heap.size a0 a1 a2 ao L ca := by
        unfold B4
        rw [← hV]
        exact (Below.heap_alloc (W.alloc _) _ W.heap.size (by simp)).trans (heap_alloc_new W _)
      have bb : B4 V (W.heap.size + 1) a0 a1 b2 bo L cb := by
        unfold B4
        rw [← hV]
        have e := heap_alloc_new (W.alloc (.cells #[.bool a0, .int .i64 a1, .string a2, .slice ao L ca] 29)) (.cells #[.bool a0, .int .i64 a1, .string b2, .slice bo L cb] 29)
        rw [show (W.alloc (.cells #[.bool a0, .int .i64 a1, .string a2, .slice ao L ca] 29)).heap.size = W.heap.size + 1 by simp] at e
        exact e
      have HBa := hidM ba
      have HBb := hidM bb
      have HGv := hidM gv
      have HV := hidM hV
      clear ba bb gv hV
      go_enter Tryd.func14, Tryd.ntmps14
      go_wp2
      rw [HV.out]
      clear HV
      obtain ⟨X, hX⟩ : ∃ X, X = W.heap.size := ⟨_, rfl⟩
      rw [← hX] at HBa HBb ⊢
      clear hX
      go_loopw [5] (fun p wr => ∃ k : Nat, k ≤ L ∧ p = .int .i64 (k : Int) ∧ Hid (Gr V wr ∧ ∀ i (h : i < a.length) (h' : i < b.length), i < k → sameV d a[i] b[i] = true)) (fun p _ => L - (intOf p).toNat)
      case atStart => exact ⟨0, by omega, rfl, Keeps.refl _ _, fun i _ _ h => by omega⟩
      case round =>
        obtain ⟨k, hk, rfl, HK⟩ := hrel
        have ba := HBa.out
        have bb := HBb.out
        obtain ⟨p0, p1, p2, p3⟩ := B4.cells ((HK.out.1.block _ (lt_of_heap ba) id).trans ba)
        obtain ⟨q0, q1, q2, q3⟩ := B4.cells ((HK.out.1.block _ (lt_of_heap bb) id).trans bb)
        clear ba bb
        by_cases hlt : k < L
        · have hka : k < a.length := by have := HL.out; omega
          have hkb : k < b.length := by have := HM.out; omega
          obtain ⟨x, o, rfl, hx, hcs⟩ := HA.out.2 (fun e => by subst e; simp at hka)
          obtain ⟨y, u, rfl, hy, hds⟩ := HB.out.2 (fun e => by subst e; simp at hkb)
          obtain ⟨ao', ca', hc, hle, hok, hr⟩ := hcs k hka
          obtain ⟨bo', cb', hd, hle', hok', hr'⟩ := hds k hkb
          have hcall := H14.out a[k] b[k] (List.getElem_mem hka) (List.getElem_mem hkb) ao' bo' ca' cb' hr hr'
          have HP := hidM HK.out.2
          have HGk := hidM HK.out.1
          obtain ⟨f, hf⟩ : ∃ f, f = a[k]'hka := ⟨_, rfl⟩
          obtain ⟨g, hg⟩ : ∃ g, g = b[k]'hkb := ⟨_, rfl⟩
          have gw : Gr w wr := HG0.out.trans (HGv.out.trans HK.out.1 (fun _ _ h => h)) (fun _ _ h => h)
          have g1 := hc.kept (gw.block x (HS.out x hx) id)
          have g2 := hd.kept (gw.block y (HS.out y hy) id)
          rw [← hf] at g1 hcall
          rw [← hg] at g2 hcall
          have H2 := hidM hcall
          have HC : Hid (wr.drew.cell? ⟨X, 3, none⟩ = some (.slice (some ⟨x, o, none⟩) L ca) ∧ wr.drew.cell? ⟨X + 1, 3, none⟩ = some (.slice (some ⟨y, u, none⟩) L cb) ∧ wr.drew.cell? ⟨x, o + k * 4, none⟩ = some (.bool f.nul) ∧ wr.drew.cell? ⟨x, o + k * 4 + 1, none⟩ = some (.int .i64 f.num) ∧ wr.drew.cell? ⟨x, o + k * 4 + 2, none⟩ = some (.string f.text) ∧ wr.drew.cell? ⟨x, o + k * 4 + 3, none⟩ = some (.slice ao' f.list.length ca') ∧ wr.drew.cell? ⟨y, u + k * 4, none⟩ = some (.bool g.nul) ∧ wr.drew.cell? ⟨y, u + k * 4 + 1, none⟩ = some (.int .i64 g.num) ∧ wr.drew.cell? ⟨y, u + k * 4 + 2, none⟩ = some (.string g.text) ∧ wr.drew.cell? ⟨y, u + k * 4 + 3, none⟩ = some (.slice bo' g.list.length cb')) := ⟨p3, q3, g1.c0, g1.c1, g1.c2, g1.c3, g2.c0, g2.c1, g2.c2, g2.c3⟩
          have HGd : Hid (Gr w wr.drew) := gw.drew
          have HF := hidM hf
          have HG' := hidM hg
          have hltI : (k : Int) < (L : Int) := by omega
          clear hcs hds hc hd hr hr' hcall hf hg HK hok hok' hle hle' gw g1 g2
          obtain ⟨z, hz⟩ : ∃ z, z = sameV d f g := ⟨_, rfl⟩
          rw [← hz] at H2
          have HZ := hidM hz
          clear hz
          go_wp2
          clear p0 p1 p2 p3 q0 q1 q2 q3
          cases z with
          | true =>
            go_region_held3 (fun w' => w'.cell? ⟨X, 3, none⟩ = some (.slice (some ⟨x, o, none⟩) L ca) ∧ w'.cell? ⟨X + 1, 3, none⟩ = some (.slice (some ⟨y, u, none⟩) L cb) ∧ w'.cell? ⟨x, o + k * 4, none⟩ = some (.bool f.nul) ∧ w'.cell? ⟨x, o + k * 4 + 1, none⟩ = some (.int .i64 f.num) ∧ w'.cell? ⟨x, o + k * 4 + 2, none⟩ = some (.string f.text) ∧ w'.cell? ⟨x, o + k * 4 + 3, none⟩ = some (.slice ao' f.list.length ca') ∧ w'.cell? ⟨y, u + k * 4, none⟩ = some (.bool g.nul) ∧ w'.cell? ⟨y, u + k * 4 + 1, none⟩ = some (.int .i64 g.num) ∧ w'.cell? ⟨y, u + k * 4 + 2, none⟩ = some (.string g.text) ∧ w'.cell? ⟨y, u + k * 4 + 3, none⟩ = some (.slice bo' g.list.length cb')) (first | with_reducible exact HC.out | with_reducible exact ⟨gr_c HE.out (HC.out.1), gr_c HE.out (HC.out.2.1), gr_c HE.out (HC.out.2.2.1), gr_c HE.out (HC.out.2.2.2.1), gr_c HE.out (HC.out.2.2.2.2.1), gr_c HE.out (HC.out.2.2.2.2.2.1), gr_c HE.out (HC.out.2.2.2.2.2.2.1), gr_c HE.out (HC.out.2.2.2.2.2.2.2.1), gr_c HE.out (HC.out.2.2.2.2.2.2.2.2.1), gr_c HE.out (HC.out.2.2.2.2.2.2.2.2.2)⟩) ((go_at_call 14; refine Calls.mono (H2.out _ HGd.out) ?_; rintro e w2 ⟨rfl, hg2⟩; have HE := hidM hg2; clear hg2))
            all_goals
              go_wp2_with fail
              go_roundw
              case rel =>
                refine ⟨k + 1, by omega, by simp, HGk.out.drew.trans HE.out (fun _ _ h => h), fun i hi hi' h => ?_⟩
                by_cases e : i = k
                · subst e; rw [← HF.out, ← HG'.out]; exact HZ.out.symm
                · exact HP.out i hi hi' (by omega)
              case measure => simp [intOf]; omega
          | false =>
            have HRf : Hid (R = false) := by show R = false; rw [HR.out]; exact sameAll_false k hka hkb (by rw [← HF.out, ← HG'.out]; exact HZ.out.symm)
            go_region_held3 (fun w' => w'.cell? ⟨X, 3, none⟩ = some (.slice (some ⟨x, o, none⟩) L ca) ∧ w'.cell? ⟨X + 1, 3, none⟩ = some (.slice (some ⟨y, u, none⟩) L cb) ∧ w'.cell? ⟨x, o + k * 4, none⟩ = some (.bool f.nul) ∧ w'.cell? ⟨x, o + k * 4 + 1, none⟩ = some (.int .i64 f.num) ∧ w'.cell? ⟨x, o + k * 4 + 2, none⟩ = some (.string f.text) ∧ w'.cell? ⟨x, o + k * 4 + 3, none⟩ = some (.slice ao' f.list.length ca') ∧ w'.cell? ⟨y, u + k * 4, none⟩ = some (.bool g.nul) ∧ w'.cell? ⟨y, u + k * 4 + 1, none⟩ = some (.int .i64 g.num) ∧ w'.cell? ⟨y, u + k * 4 + 2, none⟩ = some (.string g.text) ∧ w'.cell? ⟨y, u + k * 4 + 3, none⟩ = some (.slice bo' g.list.length cb')) (first | with_reducible exact HC.out | with_reducible exact ⟨gr_c HE.out (HC.out.1), gr_c HE.out (HC.out.2.1), gr_c HE.out (HC.out.2.2.1), gr_c HE.out (HC.out.2.2.2.1), gr_c HE.out (HC.out.2.2.2.2.1), gr_c HE.out (HC.out.2.2.2.2.2.1), gr_c HE.out (HC.out.2.2.2.2.2.2.1), gr_c HE.out (HC.out.2.2.2.2.2.2.2.1), gr_c HE.out (HC.out.2.2.2.2.2.2.2.2.1), gr_c HE.out (HC.out.2.2.2.2.2.2.2.2.2)⟩) ((go_at_call 14; refine Calls.mono (H2.out _ HGd.out) ?_; rintro e w2 ⟨rfl, hg2⟩; have HE := hidM hg2; clear hg2))
            all_goals
              go_wp2_with fail
              go_ret
              exact ⟨by rw [HRf.out]; simp, (HGv.out.trans HGk.out (fun _ _ h => h)).drew.trans HE.out (fun _ _ h => h)⟩
        · have HRt : Hid (R = true) := by
            show R = true
            rw [HR.out]
            refine sameAll_true (by have := HL.out; have := HM.out; omega) fun i hi hi' => HK.out.2 i hi hi' (by have := HL.out; omega)
          have hkL : k = L := by omega
          subst hkL
          have HGk := hidM HK.out.1
          clear HK
          go_wp2
          go_ret
          exact ⟨by rw [HRt.out]; simp, HGv.out.trans HGk.out (fun _ _ h => h)⟩
/-- all depths -/
theorem same14_any (S : Nat → Prop) (w : World) (hS : ∀ b, S b → b < w.heap.size) : ∀ (d : Nat) (u v : VT) (ao bo : Option Addr) (ca cb : Nat), VRow S w d ao u.list → VRow S w d bo v.list →
    Ans 14 #[.agg #[.bool u.nul, .int .i64 u.num, .string u.text, .slice ao u.list.length ca], .agg #[.bool v.nul, .int .i64 v.num, .string v.text, .slice bo v.list.length cb]] (sameV d u v) w
  | 0, u, v, ao, bo, ca, cb, hu, hv => by
    have hu' : u.list = [] := hu
    have hv' : v.list = [] := hv
    have := same14_step S 0 w u.nul v.nul u.num v.num u.text v.text ao bo ca cb u.list v.list (hu.more (by omega)) (hv.more (by omega)) hS (fun x y hx => by rw [hu'] at hx; cases hx)
    rw [sameV_eq, show sameVL 0 u.list v.list = sameVL (0 + 1) u.list v.list by rw [sameVL_succ, sameVL, hu', hv']; rfl]
    exact this
  | d + 1, u, v, ao, bo, ca, cb, hu, hv => by
    rw [sameV_eq]
    exact same14_step S d w u.nul v.nul u.num v.num u.text v.text ao bo ca cb u.list v.list hu hv hS (fun x y _ _ ao bo ca cb h1 h2 => same14_any S w hS d x y ao bo ca cb h1 h2)
end Go.Proofs.YtcfdkadhclickaaDoor.Kit
