import Derived.Test.YtcfdkadhclickaaDoorWC
import Derived.Test.YtcfdkadhclickaaDoorWE
import Derived.Test.YtcfdkadhclickaaDoorXN
import Derived.Test.YtcfdkadhclickaaDoorYD
import Derived.Deep.RegionHeld3
namespace Go.Proofs.YtcfdkadhclickaaDoor.Kit
open Go.RowKit Go.Shelf Go.Deep
set_option linter.unusedVariables false
attribute [local go_sem] run_store_func

/-! ### the document's Order 42 of values that fit, all depths -/
/-! ### its Compare 19 -/
/-! ### heavy 8 -/
set_option maxRecDepth 100000 in
theorem heavy8 (v0 : Bool) (v1 : Int) (v2 : ByteArray) (vo : Option Addr) (m vc : Nat) (w : World) (z : Int) (h28 : IAns 28 #[.agg #[.bool v0, .int .i64 v1, .string v2, .slice vo m vc], .int .i64 2147483647] z w) :
    Ans 8 #[.agg #[.bool v0, .int .i64 v1, .string v2, .slice vo m vc]] (decide (2147483647 < z)) w := by
  intro W g
  have HC := hidM h28
  have HGw := hidM g
  have HG : Hid (∀ o, Gr W (W.alloc o)) := fun o => gr_alloc W o
  clear g h28
  go_enter Tryd.func8, Tryd.ntmps8
  go_wp2_with (go_at_call 28; refine Hid.out ?_)
  unfold Hid
  refine Calls.mono (HC.out _ (HGw.out.trans (HG.out _) (fun _ _ h => h))) ?_
  rintro e w2 ⟨rfl, hg2⟩
  have HE := hidM ((HG.out _).trans hg2 (fun _ _ h => h))
  clear hg2
  go_wp2_with fail
  go_ret
  exact ⟨rfl, HE.out⟩
end Go.Proofs.YtcfdkadhclickaaDoor.Kit
namespace Go.Proofs.YtcfdkadhclickaaDoor.Kit
open Go.RowKit Go.Shelf Go.Deep
set_option linter.unusedVariables false
attribute [local go_sem] run_store_func

/-! ### Stays 11, StayAll 32 of what Twin made -/
set_option maxRecDepth 100000 in
set_option maxHeartbeats 2000000 in
theorem stays11 (v0 : Bool) (v1 : Int) (v2 : ByteArray) (to vo : Option Addr) (n tc vc : Nat) (w : World) (h32 : Ans 32 #[.slice to n tc, .slice vo n vc] true w) :
    Ans 11 #[.agg #[.bool v0, .int .i64 v1, .string v2, .slice to n tc], .agg #[.bool v0, .int .i64 v1, .string v2, .slice vo n vc]] true w := by
  intro W g
  have H32 := hidM h32
  have HG := hidM g
  obtain ⟨V, hV⟩ : ∃ V, (W.alloc (.cells #[.bool v0, .int .i64 v1, .string v2, .slice to n tc] 29)).alloc (.cells #[.bool v0, .int .i64 v1, .string v2, .slice vo n vc] 29) = V := ⟨_, rfl⟩
  have gv : Gr W V := by rw [← hV]; exact ((Keeps.refl W _).alloc _).alloc _
  have ba : B4 V W.heap.size v0 v1 v2 to n tc := by
    unfold B4
    rw [← hV]
    exact (Below.heap_alloc (W.alloc _) _ W.heap.size (by simp)).trans (heap_alloc_new W _)
  have bb : B4 V (W.heap.size + 1) v0 v1 v2 vo n vc := by
    unfold B4
    rw [← hV]
    have e := heap_alloc_new (W.alloc (.cells #[.bool v0, .int .i64 v1, .string v2, .slice to n tc] 29)) (.cells #[.bool v0, .int .i64 v1, .string v2, .slice vo n vc] 29)
    rw [show (W.alloc (.cells #[.bool v0, .int .i64 v1, .string v2, .slice to n tc] 29)).heap.size = W.heap.size + 1 by simp] at e
    exact e
  have HBa := hidM ba
  have HBb := hidM bb
  have HGv := hidM gv
  have HV := hidM hV
  have hs : (v2.toList == v2.toList) = true := by simp
  clear ba bb gv hV h32 g
  go_enter Tryd.func11, Tryd.ntmps11
  go_wp2_with (go_at_call 32; refine Hid.out ?_)
  unfold Hid
  rw [HV.out]
  refine Calls.mono (H32.out _ (HG.out.trans HGv.out (fun _ _ h => h))) ?_
  rintro e V1 ⟨rfl, hg1⟩
  obtain ⟨p0, p1, p2, p3⟩ := B4.cells ((hg1.block _ (lt_of_heap HBa.out) id).trans HBa.out)
  obtain ⟨q0, q1, q2, q3⟩ := B4.cells ((hg1.block _ (lt_of_heap HBb.out) id).trans HBb.out)
  have HG1 := hidM (HGv.out.trans hg1 (fun _ _ h => h))
  clear hg1
  go_wp2_with fail
  all_goals go_ret
  all_goals exact ⟨by first | rfl | simp, HG1.out⟩
set_option maxRecDepth 100000 in
set_option maxHeartbeats 2000000 in
theorem stayAll32 (S : Nat → Prop) (d D lo hi : Nat) (w : World) (to ao : Option Addr) (ca : Nat) (l : List VT) (ht : TRow w (D + 1) lo hi to l) (hl : VRow S w (d + 1) ao l) (hS : ∀ b, S b → b < w.heap.size)
    (h11 : ∀ (v : VT) (lo hi : Nat) (to ao : Option Addr) (ca : Nat), v ∈ l → TRow w D lo hi to v.list → VRow S w d ao v.list → Ans 11 #[.agg #[.bool v.nul, .int .i64 v.num, .string v.text, .slice to v.list.length (v.list.length + 2)], .agg #[.bool v.nul, .int .i64 v.num, .string v.text, .slice ao v.list.length ca]] true w) :
    Ans 32 #[.slice to l.length (l.length + 2), .slice ao l.length ca] true w := by
  intro W g
  have hlen : l.length ≤ 1000000000000 := hl.len
  obtain ⟨_, x, cur, rfl, hlo, hxb, hxs, hm, P, h0, hP, hh, hts⟩ := ht
  have HT := hidM hts
  have HL := hidM hl
  have HS := hidM hS
  have H11 := hidM h11
  have HG := hidM g
  have HM := hidM (And.intro hm (lt_of_heap hxb))
  obtain ⟨n, hn⟩ : ∃ n, n = l.length := ⟨_, rfl⟩
  rw [← hn] at hlen HM ⊢
  have HN := hidM hn
  have hw2 : wrap64 ((n : Int) + 2) = (n : Int) + 2 := by unfold wrap64; omega
  have hw1 : wrap64 ((n : Int) + 1) = (n : Int) + 1 := by unfold wrap64; omega
  clear hl hS h11 g hn hlo hxb hxs hm h0 hP hh hts
  go_enter Tryd.func32, Tryd.ntmps32
  go_wp2
  go_loopw [5] (fun p wr => ∃ k : Nat, k ≤ n ∧ p = .int .i64 (k : Int) ∧ Hid (Gr W wr)) (fun p _ => n - (intOf p).toNat)
  case atStart => exact ⟨0, by omega, rfl, Keeps.refl _ _⟩
  case round =>
    obtain ⟨k, hk, rfl, HK⟩ := hrel
    by_cases hlt : k < n
    · have hkl : k < l.length := by have := HN.out; omega
      obtain ⟨y, u, rfl, hy, hcs⟩ := HL.out.2 (fun e => by subst e; simp at hkl)
      obtain ⟨ao', ca', hc, hle, hok, hr⟩ := hcs k hkl
      obtain ⟨to', hd, _, htr⟩ := HT.out k hkl
      have hcall := H11.out l[k] _ _ to' ao' ca' (List.getElem_mem hkl) htr hr
      have gw : Gr w wr := HG.out.trans HK.out (fun _ _ h => h)
      have g1 := hd.kept (gw.block x HM.out.2 id)
      have g2 := hc.kept (gw.block y (HS.out y hy) id)
      obtain ⟨f, hf⟩ : ∃ f, f = l[k]'hkl := ⟨_, rfl⟩
      rw [← hf] at g1 g2 hcall
      have H2 := hidM hcall
      have HC : Hid (wr.drew.cell? ⟨x, k * 4, none⟩ = some (.bool f.nul) ∧ wr.drew.cell? ⟨x, k * 4 + 1, none⟩ = some (.int .i64 f.num) ∧ wr.drew.cell? ⟨x, k * 4 + 2, none⟩ = some (.string f.text) ∧ wr.drew.cell? ⟨x, k * 4 + 3, none⟩ = some (.slice to' f.list.length (f.list.length + 2)) ∧ wr.drew.cell? ⟨y, u + k * 4, none⟩ = some (.bool f.nul) ∧ wr.drew.cell? ⟨y, u + k * 4 + 1, none⟩ = some (.int .i64 f.num) ∧ wr.drew.cell? ⟨y, u + k * 4 + 2, none⟩ = some (.string f.text) ∧ wr.drew.cell? ⟨y, u + k * 4 + 3, none⟩ = some (.slice ao' f.list.length ca')) := ⟨g1.c0, g1.c1, g1.c2, g1.c3, g2.c0, g2.c1, g2.c2, g2.c3⟩
      have HGd : Hid (Gr w wr.drew) := gw.drew
      have hltI : (k : Int) < (n : Int) := by omega
      clear hcs hc hd htr hr hcall hf hok hle gw g1 g2
      go_wp2
      go_region_held3 (fun w' => w'.cell? ⟨x, k * 4, none⟩ = some (.bool f.nul) ∧ w'.cell? ⟨x, k * 4 + 1, none⟩ = some (.int .i64 f.num) ∧ w'.cell? ⟨x, k * 4 + 2, none⟩ = some (.string f.text) ∧ w'.cell? ⟨x, k * 4 + 3, none⟩ = some (.slice to' f.list.length (f.list.length + 2)) ∧ w'.cell? ⟨y, u + k * 4, none⟩ = some (.bool f.nul) ∧ w'.cell? ⟨y, u + k * 4 + 1, none⟩ = some (.int .i64 f.num) ∧ w'.cell? ⟨y, u + k * 4 + 2, none⟩ = some (.string f.text) ∧ w'.cell? ⟨y, u + k * 4 + 3, none⟩ = some (.slice ao' f.list.length ca')) (first | with_reducible exact HC.out | with_reducible exact ⟨gr_c HE.out (HC.out.1), gr_c HE.out (HC.out.2.1), gr_c HE.out (HC.out.2.2.1), gr_c HE.out (HC.out.2.2.2.1), gr_c HE.out (HC.out.2.2.2.2.1), gr_c HE.out (HC.out.2.2.2.2.2.1), gr_c HE.out (HC.out.2.2.2.2.2.2.1), gr_c HE.out (HC.out.2.2.2.2.2.2.2)⟩) ((go_at_call 11; refine Calls.mono (H2.out _ HGd.out) ?_; rintro e w2 ⟨rfl, hg2⟩; have HE := hidM hg2; clear hg2))
      all_goals
        go_wp2_with fail
        go_roundw
        case rel => exact ⟨k + 1, by omega, by simp, HK.out.drew.trans HE.out (fun _ _ h => h)⟩
        case measure => simp [intOf]; omega
    · have hkn : k = n := by omega
      subst hkn
      have gw : Gr w wr := HG.out.trans HK.out (fun _ _ h => h)
      have hm := HM.out.1.kept (gw.block x HM.out.2 id)
      obtain ⟨m1, m2⟩ := hm
      clear gw
      go_wp2
      all_goals go_ret
      all_goals exact ⟨rfl, HK.out⟩
/-- all depths -/
theorem stays_any (S : Nat → Prop) (w : World) (hS : ∀ b, S b → b < w.heap.size) : ∀ (d : Nat) (v : VT) (lo hi : Nat) (to ao : Option Addr) (ca : Nat), TRow w (d + 1) lo hi to v.list → VRow S w d ao v.list →
    Ans 11 #[.agg #[.bool v.nul, .int .i64 v.num, .string v.text, .slice to v.list.length (v.list.length + 2)], .agg #[.bool v.nul, .int .i64 v.num, .string v.text, .slice ao v.list.length ca]] true w
  | 0, v, lo, hi, to, ao, ca, ht, hv => stays11 _ _ _ _ _ _ _ _ w (stayAll32 S 0 0 lo hi w to ao ca v.list ht (hv.more (by omega)) hS (fun x _ _ _ _ _ hx => by
      have e : v.list = [] := hv
      rw [e] at hx
      cases hx))
  | d + 1, v, lo, hi, to, ao, ca, ht, hv => stays11 _ _ _ _ _ _ _ _ w (stayAll32 S d (d + 1) lo hi w to ao ca v.list ht hv hS (fun x lo hi to ao ca _ h1 h2 => stays_any S w hS d x lo hi to ao ca h1 h2))
end Go.Proofs.YtcfdkadhclickaaDoor.Kit
