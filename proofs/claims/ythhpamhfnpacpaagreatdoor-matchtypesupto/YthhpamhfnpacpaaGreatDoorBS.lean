import Derived.Test.YthhpamhfnpacpaaGreatDoorVH
import Derived.Recover
import Derived.Defers
set_option linter.unusedVariables false
set_option linter.unusedSimpArgs false
set_option maxRecDepth 100000
set_option maxHeartbeats 8000000
namespace Go.Proofs.YthhpamhfnpacpaaGreatDoor.Kit
open Go.RowKit Go.Shelf Go.Deep
attribute [local go_sem] run_store_func
theorem mayBe_any {f0 : ByteArray} {f1 : Bool} {f2 f3 f4 f5 : Int} {ao : Option Addr} {n ca : Nat} {w : World} {er : Int} {p : List Nat} {tt : Int} (h : Tells w 109 (.agg #[.string f0, .bool f1, .int .i64 f2, .int .i64 f3, .int .i64 f4, .int .i64 f5, .slice ao n ca]) er p tt) :
  ∀ W, Gr w W → Calls Tryz.prog 161 #[.agg #[.string f0, .bool f1, .int .i64 f2, .int .i64 f3, .int .i64 f4, .int .i64 f5, .slice ao n ca]] W fun e w' => e = .returned (.bool (er == 0)) ∧ Gr W w' := by
 intro W g
 have hfl : ∀ vo vn vc w, (Instr.field 52 (.agg #[.int .i64 er, .slice vo vn vc, .int .i64 tt]) 0).run Tryz.prog w = .ok (.int .i64 er) w := fun vo vn vc w => by kernel_rfl
 have gA := gr_alloc W (.cells #[.string f0, .bool f1, .int .i64 f2, .int .i64 f3, .int .i64 f4, .int .i64 f5, .slice ao n ca] 58)
 have HC := hidM (h _ (g.tr gA))
 have HG := hidM gA
 obtain ⟨q, hq⟩ : ∃ q, q = (er == 0) := ⟨_, rfl⟩
 rw [← hq]
 have hq' := hq.symm
 clear h gA g hq
 go_enter Tryz.func161, Tryz.ntmps161
 go_wp2_with (go_at_call 109; refine Hid.out ?_)
 unfold Hid
 refine Calls.mono HC.out ?_
 rintro e w' ⟨vo, vc, rfl, hg, -⟩
 have HG2 := hidM (HG.out.tr hg)
 clear hg
 go_wp2_with fail
 go_ret
 exact ⟨rfl, HG2.out⟩
theorem gr_past {W V w' : World} {sb : Nat} (g : Gr W V) (k : Keeps V w' (fun k => k = sb)) (h : W.heap.size ≤ sb) : Gr W w' := g.trans k (fun j hj e => by omega)
theorem fits25_walk (f0 : ByteArray) (f1 : Bool) (f2 f3 f4 f5 : Int) (ao : Option Addr) (n ca : Nat) (v0 : Bool) (v1 : Int) (v2 : ByteArray) (vo : Option Addr) (m vc : Nat) (w : World) (r : Int → Option Int)
  (hF : ∀ (V : World) (sb : Nat), Gr w V → w.heap.size ≤ sb → sb < V.heap.size → FitC V sb 178 (.agg #[.string f0, .bool f1, .int .i64 f2, .int .i64 f3, .int .i64 f4, .int .i64 f5, .slice ao n ca]) (.agg #[.bool v0, .int .i64 v1, .string v2, .slice vo m vc]) r) :
  ∀ W, Gr w W → Calls Tryz.prog 162 #[.agg #[.string f0, .bool f1, .int .i64 f2, .int .i64 f3, .int .i64 f4, .int .i64 f5, .slice ao n ca], .agg #[.bool v0, .int .i64 v1, .string v2, .slice vo m vc]] W fun e w' => e = .returned (.bool (r 4194304).isSome) ∧ Gr W w' := by
 intro W g
 obtain ⟨V, hV⟩ := ex (((W.alloc (.cells #[.string f0, .bool f1, .int .i64 f2, .int .i64 f3, .int .i64 f4, .int .i64 f5, .slice ao n ca] 58)).alloc (.cells #[.bool v0, .int .i64 v1, .string v2, .slice vo m vc] 108)).alloc (.cells #[.int .i64 4194304] 322))
 have gv : Gr W V := by rw [← hV]; exact (((Keeps.refl W _).alloc _).alloc _).alloc _
 have hbx : V.heap[W.heap.size + 1 + 1]? = some (.cells #[.int .i64 4194304] 322) := by
  have h := (alloc3 W (.cells #[.string f0, .bool f1, .int .i64 f2, .int .i64 f3, .int .i64 f4, .int .i64 f5, .slice ao n ca] 58) (.cells #[.bool v0, .int .i64 v1, .string v2, .slice vo m vc] 108) (.cells #[.int .i64 4194304] 322)).2.2.1
  rw [← hV]; exact h
 have HC := hidM (hF V (W.heap.size + 1 + 1) (g.tr gv) (by have := g.size; omega) (lt_of_heap hbx) V 4194304 ⟨Keeps.refl _ _, hbx⟩ (by decide) (by decide))
 have HG := hidM gv
 obtain ⟨q, hq⟩ : ∃ q, q = r 4194304 := ⟨_, rfl⟩
 rw [← hq] at HC ⊢
 have HV := hidM hV
 clear hF g gv hbx hq hV
 go_enter Tryz.func162, Tryz.ntmps162
 go_wp2_with (go_at_call 178; refine Hid.out ?_)
 unfold Hid
 rw [HV.out]
 refine Calls.mono HC.out ?_
 rintro e w' ⟨l', rfl, hs, -⟩
 have HE := hidM (gr_past HG.out hs.kp (by omega))
 clear hs
 go_wp2_with fail
 go_ret
 exact ⟨rfl, HE.out⟩
def fitE (mb fb : Bool) : Int := if mb = false then 5 else if fb = false then 7 else 0
theorem fits6_walk (f0 : ByteArray) (f1 : Bool) (f2 f3 f4 f5 : Int) (ao : Option Addr) (n ca : Nat) (v0 : Bool) (v1 : Int) (v2 : ByteArray) (vo : Option Addr) (m vc : Nat) (w : World) (mb fb : Bool)
  (h24 : ∀ W, Gr w W → Calls Tryz.prog 161 #[.agg #[.string f0, .bool f1, .int .i64 f2, .int .i64 f3, .int .i64 f4, .int .i64 f5, .slice ao n ca]] W fun e w' => e = .returned (.bool mb) ∧ Gr W w')
  (h25 : mb = true → ∀ W, Gr w W → Calls Tryz.prog 162 #[.agg #[.string f0, .bool f1, .int .i64 f2, .int .i64 f3, .int .i64 f4, .int .i64 f5, .slice ao n ca], .agg #[.bool v0, .int .i64 v1, .string v2, .slice vo m vc]] W fun e w' => e = .returned (.bool fb) ∧ Gr W w') :
  ∀ W, Gr w W → Calls Tryz.prog 140 #[.agg #[.string f0, .bool f1, .int .i64 f2, .int .i64 f3, .int .i64 f4, .int .i64 f5, .slice ao n ca], .agg #[.bool v0, .int .i64 v1, .string v2, .slice vo m vc]] W fun e w' => e = .returned (.int .i64 (fitE mb fb)) ∧ Gr W w' := by
 intro W g
 have HG := hidM g
 have H24 := hidM h24
 have H25 := hidM h25
 obtain ⟨R, hR⟩ : ∃ R, R = fitE mb fb := ⟨_, rfl⟩
 rw [← hR]
 have HR := hidM hR
 obtain ⟨V, hV⟩ := ex ((W.alloc (.cells #[.string f0, .bool f1, .int .i64 f2, .int .i64 f3, .int .i64 f4, .int .i64 f5, .slice ao n ca] 58)).alloc (.cells #[.bool v0, .int .i64 v1, .string v2, .slice vo m vc] 108))
 have gv : Gr W V := by rw [← hV]; exact ((Keeps.refl W _).alloc _).alloc _
 have hA := alloc3 W (.cells #[.string f0, .bool f1, .int .i64 f2, .int .i64 f3, .int .i64 f4, .int .i64 f5, .slice ao n ca] 58) (.cells #[.bool v0, .int .i64 v1, .string v2, .slice vo m vc] 108) (.cells #[] 108)
 have hb7 : B7 V W.heap.size f0 f1 f2 f3 f4 f5 ao n ca := by
  unfold B7
  rw [← hV]
  exact (Below.heap_alloc (W.alloc _) _ W.heap.size (by simp)).trans (heap_alloc_new W _)
 have hb4 : B4 V (W.heap.size + 1) v0 v1 v2 vo m vc := by
  unfold B4
  rw [← hV]
  have e := heap_alloc_new (W.alloc (.cells #[.string f0, .bool f1, .int .i64 f2, .int .i64 f3, .int .i64 f4, .int .i64 f5, .slice ao n ca] 58)) (.cells #[.bool v0, .int .i64 v1, .string v2, .slice vo m vc] 108)
  rw [show (W.alloc (.cells #[.string f0, .bool f1, .int .i64 f2, .int .i64 f3, .int .i64 f4, .int .i64 f5, .slice ao n ca] 58)).heap.size = W.heap.size + 1 by simp] at e
  exact e
 have H7 := hidM hb7
 have H4 := hidM hb4
 have HV := hidM hV
 have HGv := hidM gv
 clear h24 h25 g hR hV gv hA hb7 hb4
 go_enter Tryz.func140, Tryz.ntmps140
 go_wp2_with (go_at_call 161; refine Hid.out ?_)
 unfold Hid
 rw [HV.out]
 refine Calls.mono (H24.out _ (HG.out.tr HGv.out)) ?_
 rintro e V1 ⟨rfl, hg1⟩
 obtain ⟨p0, p1, p2, p3, p4, p5, p6⟩ := B7.cells ((hg1.block _ (lt_of_heap H7.out) id).trans H7.out)
 obtain ⟨q0, q1, q2, q3⟩ := B4.cells ((hg1.block _ (lt_of_heap H4.out) id).trans H4.out)
 have HG1 := hidM (HGv.out.tr hg1)
 clear hg1
 cases mb with
 | false =>
  have HX : Hid (R = 5) := HR.out
  go_wp2_with fail
  go_ret
  exact ⟨by rw [HX.out]; rfl, HG1.out⟩
 | true =>
  go_wp2_with (go_at_call 162; refine Hid.out ?_)
  unfold Hid
  refine Calls.mono (H25.out (by trivial) _ (HG.out.tr HG1.out)) ?_
  rintro e V2 ⟨rfl, hg2⟩
  have HG2 := hidM (HG1.out.tr hg2)
  clear hg2 p0 p1 p2 p3 p4 p5 p6 q0 q1 q2 q3
  cases fb with
  | false =>
   have HX : Hid (R = 7) := HR.out
   go_wp2_with fail
   go_ret
   exact ⟨by rw [HX.out]; rfl, HG2.out⟩
  | true =>
   have HX : Hid (R = 0) := HR.out
   go_wp2_with fail
   go_ret
   exact ⟨by rw [HX.out]; rfl, HG2.out⟩
end Go.Proofs.YthhpamhfnpacpaaGreatDoor.Kit
namespace Go.Proofs.YthhpamhfnpacpaaGreatDoor.Kit
open Go.RowKit Go.Shelf Go.Deep
def leafF (nm : ByteArray) (nu : Bool) (k : Int) : FT := .mk nm nu k 0 0 0 []
def fitN (nu : Bool) (k : Int) (vn : Bool) (x : Int) : Bool := if vn = true then nu && (x == 0) else numB k x
section
variable {w : World} {nm : ByteArray} {nu : Bool} {k : Int} {ao : Option Addr} {ca : Nat}
theorem leaf_tells (hT : Tab w) (hr : AllR (nodes (0 + 1) [leafF nm nu k] [] false)) : ∃ tt, Tells w 109 (.agg #[.string nm, .bool nu, .int .i64 k, .int .i64 0, .int .i64 0, .int .i64 0, .slice ao 0 ca]) 0 [] tt := by
 have hF : FaultIs (0, 0) (nodes (0 + 1) [leafF nm nu k] [] false) 0 [] 0 := .inr (.inl ⟨rfl, hr, rfl, rfl, rfl⟩)
 refine ⟨0, fun W g => ?_⟩
 refine Calls.mono (checkField_any (fun _ => False) 0 (leafF nm nu k) ao ca W (hT.gr g) rfl (Nat.zero_le _) (by decide) (fun b hb => hb.elim)) ?_
 rintro e w' ⟨er', p', vo, vc, tt', rfl, hg, h1, h2⟩
 obtain ⟨rfl, hp, rfl⟩ := hF.one h1
 rw [← hp] at h2 ⊢
 exact ⟨vo, vc, rfl, hg, h2⟩
theorem leaf_may (hT : Tab w) (hr : AllR (nodes (0 + 1) [leafF nm nu k] [] false)) :
  ∀ W, Gr w W → Calls Tryz.prog 161 #[.agg #[.string nm, .bool nu, .int .i64 k, .int .i64 0, .int .i64 0, .int .i64 0, .slice ao 0 ca]] W fun e w' => e = .returned (.bool true) ∧ Gr W w' := by
 obtain ⟨tt, h⟩ := leaf_tells (ao := ao) (ca := ca) hT hr
 exact mayBe_any h
theorem leaf_fits (hT : Tab w) (hr : AllR (nodes (0 + 1) [leafF nm nu k] [] false)) (hk : 1 ≤ k ∧ k ≤ 11) (vn : Bool) (x : Int) (vo : Option Addr) (vc : Nat) :
  ∀ W, Gr w W → Calls Tryz.prog 140 #[.agg #[.string nm, .bool nu, .int .i64 k, .int .i64 0, .int .i64 0, .int .i64 0, .slice ao 0 ca], .agg #[.bool vn, .int .i64 x, .string ⟨#[]⟩, .slice vo 0 vc]] W fun e w' => e = .returned (.int .i64 (fitE true (fitN nu k vn x))) ∧ Gr W w' := by
 refine fits6_walk _ _ _ _ _ _ _ _ _ _ _ _ _ _ _ w true (fitN nu k vn x) (leaf_may hT hr) (fun _ => ?_)
 have h := fits25_walk nm nu k 0 0 0 ao 0 ca vn x ⟨#[]⟩ vo 0 vc w (fun l => if (16 : Int) ≤ l then (if fitN nu k vn x = true then some (l - 16) else none) else none) (fun V sb g hsb hlt => ?_)
 ·have e : ((fun l => if (16 : Int) ≤ l then (if fitN nu k vn x = true then some (l - 16) else none) else none : Int → Option Int) 4194304).isSome = fitN nu k vn x := by
   cases fitN nu k vn x <;> rfl
  intro W g
  have h' := h W g
  rw [e] at h'
  exact h'
 have h0 : FitC V sb 190 (.agg #[.string nm, .bool nu, .int .i64 k, .int .i64 0, .int .i64 0, .int .i64 0, .slice ao 0 ca]) (.agg #[.bool vn, .int .i64 x, .string ⟨#[]⟩, .slice vo 0 vc]) (fun l => if fitN nu k vn x = true then some l else none) := by
  intro W l hs h0 h1
  cases vn with
  | true => exact type_null nm nu k 0 0 0 ao 0 ca x ⟨#[]⟩ vo 0 vc V W sb l _ (x == 0) true true rfl (by simp [ByteArray.toList_eq]) rfl hs (by simp [fitN])
  | false => exact type_num nm nu k 0 0 0 ao 0 ca x ⟨#[]⟩ vo 0 vc V W sb l _ (x == 0) true true rfl (by simp [ByteArray.toList_eq]) rfl hs hk (numB k x) rfl (by simp [fitN])
 have h2 := fits_walk nm nu k 0 0 0 ao 0 ca vn x ⟨#[]⟩ vo 0 vc V sb _ (by decide) h0
 have e : (fun l => if (16 + (⟨#[]⟩ : ByteArray).size : Int) ≤ l then (if fitN nu k vn x = true then some (l - (16 + (⟨#[]⟩ : ByteArray).size : Int)) else none) else none : Int → Option Int) = (fun l => if (16 : Int) ≤ l then (if fitN nu k vn x = true then some (l - 16) else none) else none) := rfl
 rw [← e]
 exact h2
end
end Go.Proofs.YthhpamhfnpacpaaGreatDoor.Kit
namespace Go.Proofs.YthhpamhfnpacpaaGreatDoor.Kit
open Go.RowKit Go.Shelf Go.Deep
open Kd (Ans cell5 cell2)
def nmB (x : Bool) : ByteArray := ⟨#[if x then 98 else 97]⟩
variable {nx : Bool}
theorem allR (nu : Bool) : AllR (nodes (0 + 1) [leafF (nmB nx) nu 3] [] false) := by
 intro k hk
 have : k = 0 := by simp [nodes] at hk; omega
 subst this
 show wrongE ⟨[leafF (nmB nx) nu 3], [0], false⟩ 0 (tkL []) = 0
 cases nx <;> cases nu <;> kernel_rfl
theorem row_leaf {W : World} {S : Nat → Prop} {g : Nat} {nu : Bool} {ao : Option Addr} {ca : Nat} (hS : S g) (h : W.heap[g]? = some (.cells #[.string (nmB nx), .bool nu, .int .i64 3, .int .i64 0, .int .i64 0, .int .i64 0, .slice ao 0 ca] 58)) : RowAt S W 1 (some ⟨g, 0, none⟩) [leafF (nmB nx) nu 3] := by
 refine ⟨by show (1 : Nat) ≤ big; decide, fun _ => ⟨g, 0, rfl, hS, fun i hi => ?_⟩⟩
 obtain rfl : i = 0 := by simpa using hi
 refine ⟨ao, ca, ?_, Nat.zero_le _, rfl⟩
 constructor <;> simp [World.cell?, h, leafF, FT.name, FT.nul, FT.kind, FT.width, FT.id, FT.index, FT.kids]
theorem alone_may {w : World} {g : Nat} {nu : Bool} {ao : Option Addr} {ca : Nat} (hT : Tab w) (h : w.heap[g]? = some (.cells #[.string (nmB nx), .bool nu, .int .i64 3, .int .i64 0, .int .i64 0, .int .i64 0, .slice ao 0 ca] 58)) : Ans 55 #[.agg #[.slice (some ⟨g, 0, none⟩) 1 1, .slice none 0 0]] true w := by
 have hlt := lt_of_heap h
 have hn : NotesAt w none [] := ⟨by decide, fun e => absurd rfl e⟩
 have hF : FaultIs (listsE 1 []) (nodes 1 [leafF (nmB nx) nu 3] [] false) 0 [] 0 := .inr (.inl ⟨by decide, allR (nx := nx) nu, rfl, rfl, rfl⟩)
 have ht : Tells w 21 (.agg #[.slice (some ⟨g, 0, none⟩) 1 1, .slice none 0 0]) 0 [] 0 := fun W gr => by
  refine Calls.mono (check_fault (S := fun b => b = g) (D := 1) (fo := some ⟨g, 0, none⟩) (no := none) (cf := 1) (cn := 0) (fs := [leafF (nmB nx) nu 3]) (ns := []) hT (row_leaf rfl h) (Nat.le_refl _) (by decide) (fun b hb => by rw [hb]; exact hlt) hn W gr) ?_
  rintro e w' ⟨er, vo, vn, vc, tt, rfl, hg, p, hp, h2, h3⟩
  obtain ⟨rfl, rfl, rfl⟩ := hF.one h2
  obtain rfl : 0 = vn := hp
  exact ⟨vo, vc, rfl, hg, fun hne => absurd rfl hne⟩
 have := Kd.maybe_gen ht
 exact this
theorem asField113 (ao : Option Addr) (ca : Nat) (W : World) : Calls Tryz.prog 182 #[.agg #[.int .i64 3, .int .i64 0, .int .i64 0, .int .i64 0, .slice ao 0 ca]] W fun e w' => e = .returned (.agg #[.string (nmB false), .bool false, .int .i64 3, .int .i64 0, .int .i64 0, .int .i64 0, .slice ao 0 ca]) ∧ Gr W w' := by
 go_enter Tryz.func182, Tryz.ntmps182
 go_wp2
 refine bodyPost_ret (v := .agg #[.string (nmB false), .bool false, .int .i64 3, .int .i64 0, .int .i64 0, .int .i64 0, .slice ao 0 ca]) ?_ rfl ⟨rfl, ((Keeps.refl W _).alloc _).alloc _⟩
 simp [results, Tryz.f182, go_sem, nmB]
theorem fieldMayBe112 (nu : Bool) (ao : Option Addr) (ca : Nat) (W : World) (hT : Tab W) : Calls Tryz.prog 181 #[.agg #[.string (nmB nx), .bool nu, .int .i64 3, .int .i64 0, .int .i64 0, .int .i64 0, .slice ao 0 ca]] W fun e w' => e = .returned (.bool true) ∧ Gr W w' := by
 have HT := hidM hT
 clear hT
 have HA := hidM (gr_alloc W (.cells #[.string (nmB nx), .bool nu, .int .i64 3, .int .i64 0, .int .i64 0, .int .i64 0, .slice ao 0 ca] 58))
 go_enter Tryz.func181, Tryz.ntmps181
 go_wp2_with (first
  | (go_at_call 122; refine (alone_any (nmB nx) nu 3 0 0 0 ao 0 ca _).mono ?_; rintro e w1 ⟨g, rfl, g1, hg, hb⟩; have HG1 := hidM (HA.out.tr g1); have HB := hidM hb; clear g1 hb hg)
  | (go_at_call 55; refine Calls.mono ((alone_may (HT.out.gr HG1.out) HB.out) _ (Keeps.refl _ _)) ?_; rintro e w2 ⟨rfl, g2⟩; have HG2 := hidM (HG1.out.tr g2); clear g2))
 go_ret
 exact ⟨rfl, HG2.out⟩
theorem typeMayBe83 (ao : Option Addr) (ca : Nat) (W : World) (hT : Tab W) : Calls Tryz.prog 167 #[.agg #[.int .i64 3, .int .i64 0, .int .i64 0, .int .i64 0, .slice ao 0 ca]] W fun e w' => e = .returned (.bool true) ∧ Gr W w' := by
 have HT := hidM hT
 clear hT
 have HA := hidM (gr_alloc W (.cells #[.int .i64 3, .int .i64 0, .int .i64 0, .int .i64 0, .slice ao 0 ca] 56))
 go_enter Tryz.func167, Tryz.ntmps167
 go_wp2_with (first
  | (go_at_call 182; refine (asField113 ao ca _).mono ?_; rintro e w1 ⟨rfl, g1⟩; have HG1 := hidM (HA.out.tr g1); clear g1)
  | (go_at_call 181; refine (fieldMayBe112 false ao ca _ (HT.out.gr HG1.out)).mono ?_; rintro e w2 ⟨rfl, g2⟩; have HG2 := hidM (HG1.out.tr g2); clear g2))
 go_ret
 exact ⟨rfl, HG2.out⟩
theorem width56 (ao : Option Addr) (ca : Nat) (W : World) (hT : Tab W) : Calls Tryz.prog 143 #[.agg #[.int .i64 3, .int .i64 0, .int .i64 0, .int .i64 0, .slice ao 0 ca]] W fun e w' => e = .returned (.int .i64 1) ∧ Gr W w' := by
 have HT := hidM hT
 clear hT
 have HA := hidM (gr_alloc W (.cells #[.int .i64 3, .int .i64 0, .int .i64 0, .int .i64 0, .slice ao 0 ca] 56))
 have HB := hidM (heap_alloc_new W (.cells #[.int .i64 3, .int .i64 0, .int .i64 0, .int .i64 0, .slice ao 0 ca] 56))
 go_enter Tryz.func143, Tryz.ntmps143
 go_wp2_with (go_at_call 167; refine (typeMayBe83 ao ca _ (HT.out.gr HA.out)).mono ?_; rintro e w1 ⟨rfl, g1⟩; have HG1 := hidM (HA.out.tr g1); obtain ⟨p0, p1, p2, p3, p4⟩ := cell5 ((g1.block _ (lt_of_heap HB.out) id).trans HB.out); have t1 := ((HT.out.gr HG1.out).2 3 (by decide)).c1; simp only [show bytesK 3 = 1 from rfl] at t1; clear g1)
 go_ret
 exact ⟨rfl, HG1.out⟩
theorem newNumbers40 (ao : Option Addr) (ca : Nat) (W : World) (hT : Tab W) : Calls Tryz.prog 177 #[.agg #[.int .i64 3, .int .i64 0, .int .i64 0, .int .i64 0, .slice ao 0 ca]] W fun e w' => ∃ m, e = .returned (.pointer (some ⟨m, 0, none⟩)) ∧ Gr W w' ∧ W.heap.size ≤ m ∧ w'.heap[m]? = some (.cells #[.int .i64 1, .slice none 0 0] 340) := by
 have HT := hidM hT
 clear hT
 have HA := hidM (gr_alloc W (.cells #[.int .i64 3, .int .i64 0, .int .i64 0, .int .i64 0, .slice ao 0 ca] 56))
 go_enter Tryz.func177, Tryz.ntmps177
 go_wp2_with (go_at_call 143; refine (width56 ao ca _ (HT.out.gr HA.out)).mono ?_; rintro e w1 ⟨rfl, g1⟩; have HG1 := hidM (HA.out.tr g1); clear g1)
 go_ret
 exact ⟨_, rfl, HG1.out.alloc _, HG1.out.size, heap_alloc_new _ _⟩
variable {nx : Bool}
theorem info61 : (Tryz.prog.info? 228).map (fun i => (i.zero, i.size, i.bytes)) = some (some (.pointer none), 1, 8) := by kernel_rfl
theorem newNodes38 (ao : Option Addr) (ca : Nat) (t : Value) (W : World) : Calls Tryz.prog 175 #[.slice ao 0 ca, t] W fun e w' => ∃ lo lc, e = .returned (.slice lo 0 lc) ∧ Gr W w' := by
 have hmk : ∀ w : World, (Instr.makeSlice 287 (.int .i64 0) (.int .i64 0)).run Tryz.prog w = .ok (.slice (some ⟨w.heap.size, 0, none⟩) 0 0) (w.alloc (.cells (madeCells #[.pointer none] 0) 228)) := fun w => run_make_row' (P := Tryz.prog) 287 228 (.pointer none) 8 Tryz.underlying287 info61 rfl .i64 .i64 0 (by omega) (by omega) w
 have HG := hidM (gr_alloc W (.cells (madeCells #[.pointer none] 0) 228))
 go_enter Tryz.func175, Tryz.ntmps175
 go_wp2
 go_loopw [13] (fun i wr => i = .int .i64 0 ∧ Hid (Gr W wr)) (fun _ _ => 0)
 case atStart => exact ⟨rfl, HG⟩
 case round =>
  clear HG hmk
  obtain ⟨rfl, HG⟩ := hrel
  go_wp2
  go_ret
  exact ⟨_, _, rfl, HG.out⟩
theorem newMaker27 (ao : Option Addr) (ca : Nat) (t : Value) (W : World) (hT : Tab W) : Calls Tryz.prog 160 #[.agg #[.int .i64 3, .int .i64 0, .int .i64 0, .int .i64 0, .slice ao 0 ca], t] W fun e w' => ∃ m, e = .returned (.iface 319 (.pointer (some ⟨m, 0, none⟩))) ∧ Gr W w' ∧ W.heap.size ≤ m ∧ w'.heap[m]? = some (.cells #[.int .i64 1, .slice none 0 0] 340) := by
 have HT := hidM hT
 clear hT
 have HA := hidM (gr_alloc W (.cells #[.int .i64 3, .int .i64 0, .int .i64 0, .int .i64 0, .slice ao 0 ca] 56))
 have HB := hidM (heap_alloc_new W (.cells #[.int .i64 3, .int .i64 0, .int .i64 0, .int .i64 0, .slice ao 0 ca] 56))
 obtain ⟨p0, p1, p2, p3, p4⟩ := cell5 HB.out
 go_enter Tryz.func160, Tryz.ntmps160
 go_wp2_with (first
  | (go_at_call 175; refine (newNodes38 ao ca t _).mono ?_; rintro e w1 ⟨lo, lc, rfl, g1⟩; have HG1 := hidM (HA.out.tr g1); clear p0 p1 p2 p3 p4; obtain ⟨p0, p1, p2, p3, p4⟩ := cell5 ((g1.block _ (lt_of_heap HB.out) id).trans HB.out); clear g1)
  | (go_at_call 177; refine (newNumbers40 ao ca _ (HT.out.gr HG1.out)).mono ?_; rintro e w2 ⟨m, rfl, g2, hm, hb⟩; have HG2 := hidM (HG1.out.tr g2); have HM := hidM (Nat.le_trans HG1.out.size hm); have HB2 := hidM hb; clear g2 hm hb))
 go_ret
 exact ⟨_, rfl, HG2.out, HM.out, HB2.out⟩
theorem newNode14 (nu : Bool) (ao : Option Addr) (ca : Nat) (t : Nat) (W : World) (hT : Tab W) : Calls Tryz.prog 139 #[.agg #[.string (nmB nx), .bool nu, .int .i64 3, .int .i64 0, .int .i64 0, .int .i64 0, .slice ao 0 ca], .pointer (some ⟨t, 0, none⟩)] W fun e w' => ∃ n m, e = .returned (.pointer (some ⟨n, 0, none⟩)) ∧ Gr W w' ∧ W.heap.size ≤ n ∧ W.heap.size ≤ m ∧ w'.heap[n]? = some (.cells #[.bool nu, .iface 319 (.pointer (some ⟨m, 0, none⟩)), .pointer (some ⟨t, 0, none⟩), .int .i64 0, .slice none 0 0, .int .i64 0] 275) ∧ w'.heap[m]? = some (.cells #[.int .i64 1, .slice none 0 0] 340) := by
 have HT := hidM hT
 clear hT
 obtain ⟨A, hA⟩ := ex (W.alloc (.cells #[.string (nmB nx), .bool nu, .int .i64 3, .int .i64 0, .int .i64 0, .int .i64 0, .slice ao 0 ca] 58))
 have HA : Hid (Gr W A) := by rw [← hA]; exact gr_alloc W _
 have hb := al_new hA
 have HS : Hid (∀ u, Gr A u → u.cell? ⟨W.heap.size, 1, none⟩ = some (.bool nu) ∧ u.cell? ⟨W.heap.size, 2, none⟩ = some (.int .i64 3) ∧ u.cell? ⟨W.heap.size, 3, none⟩ = some (.int .i64 0) ∧ u.cell? ⟨W.heap.size, 4, none⟩ = some (.int .i64 0) ∧ u.cell? ⟨W.heap.size, 5, none⟩ = some (.int .i64 0) ∧ u.cell? ⟨W.heap.size, 6, none⟩ = some (.slice ao 0 ca)) := fun u hk => by
  have h := (hk.block _ (lt_of_heap hb) id).trans hb
  simp [World.cell?, h]
 have HS0 := hidM (HS.out A.drew gr_drew)
 clear hb
 go_enter Tryz.func139, Tryz.ntmps139
 go_wp2_with fail
 go_region_held3 (fun w' => w'.cell? ⟨W.heap.size, 1, none⟩ = some (.bool nu) ∧ w'.cell? ⟨W.heap.size, 2, none⟩ = some (.int .i64 3) ∧ w'.cell? ⟨W.heap.size, 3, none⟩ = some (.int .i64 0) ∧ w'.cell? ⟨W.heap.size, 4, none⟩ = some (.int .i64 0) ∧ w'.cell? ⟨W.heap.size, 5, none⟩ = some (.int .i64 0) ∧ w'.cell? ⟨W.heap.size, 6, none⟩ = some (.slice ao 0 ca)) (first | with_reducible exact HS0.out | with_reducible exact HS1.out | exact HS2.out _) ((go_at_call 160; refine (newMaker27 ao ca (.pointer (some ⟨t, 0, none⟩)) _ (HT.out.gr (HA.out.tr gr_drew))).mono ?_; rintro e w1 ⟨m, rfl, g1, hm, hbm⟩; have HG1 : Hid (Gr A w1) := Keeps.trans gr_drew g1 (fun _ _ h => h); have HM : Hid (A.heap.size ≤ m) := hm; have HBM := hidM hbm; have HS1 := hidM (HS.out w1 HG1.out); have HS2 : Hid (∀ o, (w1.alloc o).cell? ⟨W.heap.size, 1, none⟩ = some (.bool nu) ∧ (w1.alloc o).cell? ⟨W.heap.size, 2, none⟩ = some (.int .i64 3) ∧ (w1.alloc o).cell? ⟨W.heap.size, 3, none⟩ = some (.int .i64 0) ∧ (w1.alloc o).cell? ⟨W.heap.size, 4, none⟩ = some (.int .i64 0) ∧ (w1.alloc o).cell? ⟨W.heap.size, 5, none⟩ = some (.int .i64 0) ∧ (w1.alloc o).cell? ⟨W.heap.size, 6, none⟩ = some (.slice ao 0 ca)) := fun o => HS.out _ (HG1.out.alloc o); clear g1 hm hbm))
 go_wp2_with fail
 go_ret
 have hs := HA.out.size
 exact ⟨_, m, rfl, (HA.out.tr HG1.out).alloc _, Nat.le_trans hs HG1.out.size, Nat.le_trans hs HM.out, heap_alloc_new _ _, ((gr_alloc _ _).block _ (lt_of_heap HBM.out) id).trans HBM.out⟩
structure Bd (nx : Bool) (W : World) (p n m t : Nat) (nu : Bool) (fo : Option Addr) (fc : Nat) (rows wt : Int) (vv lv : Value) : Prop where
 hp : W.heap[p]? = some (.cells #[.string (nmB nx), .bool nu, .int .i64 3, .int .i64 0, .int .i64 0, .int .i64 0, .slice fo 0 fc, .pointer (some ⟨n, 0, none⟩), .pointer (some ⟨t, 0, none⟩), .int .i64 rows] 231)
 hn : W.heap[n]? = some (.cells #[.bool nu, .iface 319 (.pointer (some ⟨m, 0, none⟩)), .pointer (some ⟨t, 0, none⟩), .int .i64 0, vv, .int .i64 wt] 275)
 hm : W.heap[m]? = some (.cells #[.int .i64 1, lv] 340)
 ht : W.heap[t]? = some (.cells #[.int .i64 0, .slice none 0 0] 227)
theorem at13 (nu : Bool) (ao : Option Addr) (ca : Nat) (g z : Nat) (w : World) (hT : Tab w) (hg : w.heap[g]? = some (.cells #[.string (nmB nx), .bool nu, .int .i64 3, .int .i64 0, .int .i64 0, .int .i64 0, .slice ao 0 ca] 58)) (hz : w.cell? ⟨z, 0, none⟩ = some (.int .i64 0)) :
  Calls Tryz.prog 40 #[.agg #[.slice (some ⟨g, 0, none⟩) 1 1, .slice none 0 0], .slice (some ⟨z, 0, none⟩) 1 1] w fun e w' => ∃ fo fc, e = .returned (.tuple #[.agg #[.string (nmB nx), .bool nu, .int .i64 3, .int .i64 0, .int .i64 0, .int .i64 0, .slice fo 0 fc], .int .i64 0]) ∧ Gr w w' := by
 have hlt := lt_of_heap hg
 have h := Kd.at_gen (S := fun b => b = g) (D := 1) (fo := some ⟨g, 0, none⟩) (no := none) (po := some ⟨z, 0, none⟩) (cf := 1) (nn := 0) (cn := 0) (pc := 1) (fs := [leafF (nmB nx) nu 3]) (path := [0]) (er := 0) (alone_may hT hg) (row_leaf rfl hg) (Nat.le_refl _) (fun b hb => by rw [hb]; exact hlt)
  (fun _ => ⟨z, 0, rfl, fun j hj => by obtain rfl : j = 0 := by simpa using hj
                                       exact hz⟩) (by decide) w (Keeps.refl _ _)
 refine Calls.mono h ?_
 have e : Kd.atR 0 [leafF (nmB nx) nu 3] [0] = (0, leafF (nmB nx) nu 3) := rfl
 rw [e]
 rintro e w' ⟨vo, vc, he, hgr, -⟩
 exact ⟨vo, vc, he, hgr⟩
def setAll (w : World) (b : Nat) : List (Nat × Value) → World
 | [] => w
 | (k, v) :: l => setAll (w.setCell ⟨b, k, none⟩ v) b l
theorem setAll_oth (b k : Nat) (hb : k ≠ b) : ∀ (l : List (Nat × Value)) (w : World), (setAll w b l).heap[k]? = w.heap[k]?
 | [], w => rfl
 | (i, v) :: l, w => (setAll_oth b k hb l _).trans (heap_setCell_other _ _ _ _ hb)
theorem setAll_kp (b : Nat) : ∀ (l : List (Nat × Value)) (w : World), Keeps w (setAll w b l) (fun z => z = b)
 | [], w => Keeps.refl _ _
 | (i, v) :: l, w => Keeps.trans (Keeps.setCell (S := fun z => z = b) (p := ⟨b, i, none⟩) (Keeps.refl w (fun z => z = b)) (fun _ => rfl) v) (setAll_kp b l _) (fun _ _ h => h)
def setsA (c : Array Value) : List (Nat × Value) → Array Value
 | [] => c
 | (k, v) :: l => setsA (c.setIfInBounds k v) l
theorem setAll_blk (b t : Nat) : ∀ (l : List (Nat × Value)) (w : World) (c : Array Value), w.heap[b]? = some (.cells c t) → (setAll w b l).heap[b]? = some (.cells (setsA c l) t)
 | [], w, c, h => h
 | (i, v) :: l, w, c, h => setAll_blk b t l _ _ (heap_setCell_same w b i _ _ v h)
theorem new7 (nu : Bool) (ao : Option Addr) (ca : Nat) (W : World) (hT : Tab W) : Calls Tryz.prog 119 #[.agg #[.string (nmB nx), .bool nu, .int .i64 3, .int .i64 0, .int .i64 0, .int .i64 0, .slice ao 0 ca]] W fun e w' => ∃ p n m t fo fc, e = .returned (.tuple #[.pointer (some ⟨p, 0, none⟩), .int .i64 0]) ∧ Gr W w' ∧ (W.heap.size ≤ p ∧ W.heap.size ≤ n ∧ W.heap.size ≤ m ∧ W.heap.size ≤ t) ∧ Bd nx w' p n m t nu fo fc 0 0 (.slice none 0 0) (.slice none 0 0) := by
 have HT := hidM hT
 clear hT
 obtain ⟨A, hA⟩ := ex (W.alloc (.cells #[.string (nmB nx), .bool nu, .int .i64 3, .int .i64 0, .int .i64 0, .int .i64 0, .slice ao 0 ca] 58))
 have HA : Hid (Gr W A) := by rw [← hA]; exact gr_alloc W _
 have hb := al_new hA
 have HF : Hid (∀ u, Gr A u → u.heap[W.heap.size]? = some (.cells #[.string (nmB nx), .bool nu, .int .i64 3, .int .i64 0, .int .i64 0, .int .i64 0, .slice ao 0 ca] 58)) := fun u hk => (hk.block _ (lt_of_heap hb) id).trans hb
 obtain ⟨tt, hck⟩ := leaf_tells (w := W) (ao := ao) (ca := ca) HT.out (allR (nx := nx) nu)
 have HCK := hidM hck
 obtain ⟨e0, e1, e2, e3, e4, e5, e6⟩ := cell7 hb
 clear hb hck
 go_enter Tryz.func119, Tryz.ntmps119
 go_wp2_with (go_at_call 109; refine Hid.out ?_)
 unfold Hid
 refine Calls.mono (HCK.out _ HA.out) ?_
 rintro e w1 ⟨vo, vc, rfl, g1, -⟩
 have hfd : ∀ W : World, (Instr.field 52 (.agg #[.int .i64 0, .slice vo 0 vc, .int .i64 tt]) 0).run Tryz.prog W = .ok (.int .i64 0) W := fun W => by kernel_rfl
 have hf1 := HF.out w1 g1
 clear e0 e1 e2 e3 e4 e5 e6
 obtain ⟨e0, e1, e2, e3, e4, e5, e6⟩ := cell7 hf1
 obtain ⟨V, hV⟩ := ex ((w1.alloc (.cells #[.string (nmB nx), .bool nu, .int .i64 3, .int .i64 0, .int .i64 0, .int .i64 0, .slice ao 0 ca] 58)).alloc (.cells #[.int .i64 0] 3))
 have gv : Gr w1 V := by rw [← hV]; exact (gr_alloc _ _).tr (gr_alloc _ _)
 have hz : V.cell? ⟨w1.heap.size + 1, 0, none⟩ = some (.int .i64 0) ∧ V.heap[w1.heap.size]? = some (.cells #[.string (nmB nx), .bool nu, .int .i64 3, .int .i64 0, .int .i64 0, .int .i64 0, .slice ao 0 ca] 58) := by
  have h2 := heap_alloc_new (w1.alloc (.cells #[.string (nmB nx), .bool nu, .int .i64 3, .int .i64 0, .int .i64 0, .int .i64 0, .slice ao 0 ca] 58)) (.cells #[.int .i64 0] 3)
  rw [show (w1.alloc (.cells #[.string (nmB nx), .bool nu, .int .i64 3, .int .i64 0, .int .i64 0, .int .i64 0, .slice ao 0 ca] 58)).heap.size = w1.heap.size + 1 by simp, hV] at h2
  have h1 := ((gr_alloc (w1.alloc (.cells #[.string (nmB nx), .bool nu, .int .i64 3, .int .i64 0, .int .i64 0, .int .i64 0, .slice ao 0 ca] 58)) (.cells #[.int .i64 0] 3)).block _ (lt_of_heap (heap_alloc_new w1 (.cells #[.string (nmB nx), .bool nu, .int .i64 3, .int .i64 0, .int .i64 0, .int .i64 0, .slice ao 0 ca] 58))) id).trans (heap_alloc_new w1 _)
  rw [hV] at h1
  exact ⟨by simp [World.cell?, h2], h1⟩
 have HGV : Hid (Gr A V) := g1.tr gv
 have HZ := hidM hz
 clear g1 gv hz hf1
 go_wp2_with (go_at_call 40; refine Hid.out ?_)
 unfold Hid
 refine Calls.mono (at13 nu ao ca w1.heap.size (w1.heap.size + 1) V (HT.out.gr (HA.out.tr HGV.out)) HZ.out.2 HZ.out.1) ?_
 rintro e w2 ⟨fo, fc, rfl, g2⟩
 have HG2 : Hid (Gr A w2) := HGV.out.tr g2
 have hf2 := HF.out w2 HG2.out
 clear e0 e1 e2 e3 e4 e5 e6 HZ hV hfd g2
 obtain ⟨e0, e1, e2, e3, e4, e5, e6⟩ := cell7 hf2
 have z0 := frz hf2 0
 have z1 := frz hf2 1
 have z2 := frz hf2 2
 have z3 := frz hf2 3
 have z4 := frz hf2 4
 have z5 := frz hf2 5
 have z6 := frz hf2 6
 obtain ⟨U, hU⟩ := ex (setAll w2 W.heap.size [(0, .string (nmB nx)), (1, .bool nu), (2, .int .i64 3), (3, .int .i64 0), (4, .int .i64 0), (5, .int .i64 0), (6, .slice fo 0 fc)])
 have hUb : U.heap[W.heap.size]? = some (.cells #[.string (nmB nx), .bool nu, .int .i64 3, .int .i64 0, .int .i64 0, .int .i64 0, .slice fo 0 fc] 58) := by
  have h := setAll_blk W.heap.size 58 [(0, .string (nmB nx)), (1, .bool nu), (2, .int .i64 3), (3, .int .i64 0), (4, .int .i64 0), (5, .int .i64 0), (6, .slice fo 0 fc)] w2 _ hf2
  rw [hU] at h
  rw [h]
  simp [setsA]
 have HKU : Hid (Gr W U) := by
  rw [← hU]
  exact (HA.out.tr HG2.out).trans (setAll_kp _ _ _) (fun j hj (e : j = W.heap.size) => by omega)
 simp only [setAll] at hU
 obtain ⟨T, hTT⟩ := ex (U.alloc (.cells #[.int .i64 0, .slice none 0 0] 227))
 have HGT : Hid (Gr U T) := by rw [← hTT]; exact gr_alloc U _
 have htb := al_new hTT
 have HFT : Hid (∀ u, Gr T u → u.heap[W.heap.size]? = some (.cells #[.string (nmB nx), .bool nu, .int .i64 3, .int .i64 0, .int .i64 0, .int .i64 0, .slice fo 0 fc] 58) ∧ u.heap[U.heap.size]? = some (.cells #[.int .i64 0, .slice none 0 0] 227)) := fun u hk => ⟨((HGT.out.tr hk).block _ (lt_of_heap hUb) id).trans hUb, (hk.block _ (lt_of_heap htb) id).trans htb⟩
 clear hUb htb hf2
 have HS : Hid (∀ u, Gr T u → u.cell? ⟨W.heap.size, 0, none⟩ = some (.string (nmB nx)) ∧ u.cell? ⟨W.heap.size, 1, none⟩ = some (.bool nu) ∧ u.cell? ⟨W.heap.size, 2, none⟩ = some (.int .i64 3) ∧ u.cell? ⟨W.heap.size, 3, none⟩ = some (.int .i64 0) ∧ u.cell? ⟨W.heap.size, 4, none⟩ = some (.int .i64 0) ∧ u.cell? ⟨W.heap.size, 5, none⟩ = some (.int .i64 0) ∧ u.cell? ⟨W.heap.size, 6, none⟩ = some (.slice fo 0 fc)) := fun u hk => cell7 (HFT.out u hk).1
 have HS0 := hidM (HS.out T.drew gr_drew)
 clear e0 e1 e2 e3 e4 e5 e6
 obtain ⟨e0, e1, e2, e3, e4, e5, e6⟩ := cell7 (HF.out w2 HG2.out)
 go_wp2_with fail
 go_region_held3 (fun w' => w'.cell? ⟨W.heap.size, 0, none⟩ = some (.string (nmB nx)) ∧ w'.cell? ⟨W.heap.size, 1, none⟩ = some (.bool nu) ∧ w'.cell? ⟨W.heap.size, 2, none⟩ = some (.int .i64 3) ∧ w'.cell? ⟨W.heap.size, 3, none⟩ = some (.int .i64 0) ∧ w'.cell? ⟨W.heap.size, 4, none⟩ = some (.int .i64 0) ∧ w'.cell? ⟨W.heap.size, 5, none⟩ = some (.int .i64 0) ∧ w'.cell? ⟨W.heap.size, 6, none⟩ = some (.slice fo 0 fc)) (first | with_reducible exact HS0.out | with_reducible exact HS1.out | exact HS2.out _) ((go_at_call 139; refine (newNode14 nu fo fc U.heap.size _ (HT.out.gr ((HKU.out.tr HGT.out).tr gr_drew))).mono ?_; rintro e w3 ⟨n, m, rfl, g3, hn, hm, hbn, hbm⟩; have HG3 : Hid (Gr T w3) := Keeps.trans gr_drew g3 (fun _ _ h => h); have HN : Hid (T.heap.size ≤ n ∧ T.heap.size ≤ m) := ⟨hn, hm⟩; have HBN := hidM hbn; have HBM := hidM hbm; have HS1 := hidM (HS.out w3 HG3.out); have HS2 : Hid (∀ o, (w3.alloc o).cell? ⟨W.heap.size, 0, none⟩ = some (.string (nmB nx)) ∧ (w3.alloc o).cell? ⟨W.heap.size, 1, none⟩ = some (.bool nu) ∧ (w3.alloc o).cell? ⟨W.heap.size, 2, none⟩ = some (.int .i64 3) ∧ (w3.alloc o).cell? ⟨W.heap.size, 3, none⟩ = some (.int .i64 0) ∧ (w3.alloc o).cell? ⟨W.heap.size, 4, none⟩ = some (.int .i64 0) ∧ (w3.alloc o).cell? ⟨W.heap.size, 5, none⟩ = some (.int .i64 0) ∧ (w3.alloc o).cell? ⟨W.heap.size, 6, none⟩ = some (.slice fo 0 fc)) := fun o => HS.out _ (HG3.out.alloc o); clear g3 hn hm hbn hbm))
 go_wp2_with fail
 go_ret2
 have g3 : Gr U w3 := HGT.out.tr HG3.out
 have h1 := HKU.out.size
 have h2 := g3.size
 have h3 := HGT.out.size
 have hn := HN.out
 refine ⟨_, n, m, U.heap.size, fo, fc, rfl, (HKU.out.tr g3).alloc _, ⟨by omega, by omega, by omega, h1⟩, heap_alloc_new _ _, ((gr_alloc _ _).block _ (lt_of_heap HBN.out) id).trans HBN.out, ((gr_alloc _ _).block _ (lt_of_heap HBM.out) id).trans HBM.out, (HFT.out _ (HG3.out.alloc _)).2⟩
theorem info2 : (Tryz.prog.info? 2).map (fun i => (i.zero, i.size, i.bytes)) = some (some (.int .i64 0), 1, 8) := by kernel_rfl
structure Push (W w' : World) (m j t e : Nat) (c : Array Value) (lo : Option Addr) (L lc : Nat) (xs : List Value) (y : Value) (uo : Option Addr) (uc : Nat) : Prop where
 box : w'.heap[m]? = some (.cells (c.setIfInBounds j (.slice uo (L + 1) uc)) t)
 own : w'.ownsRow 0 e 1 (.slice uo (L + 1) uc) (L + 1) (xs ++ [y])
 kp : Keeps W w' (fun z => z = m ∨ (Value.slice lo L lc).ownBlock = some z)
 blk : (Value.slice uo (L + 1) uc).ownBlock = (Value.slice lo L lc).ownBlock ∨ ∀ g, (Value.slice uo (L + 1) uc).ownBlock = some g → W.heap.size ≤ g
theorem own_ne {W : World} {m t e s n : Nat} {c : Array Value} {v : Value} {xs : List Value} (h : W.heap[m]? = some (.cells c t)) (ho : W.ownsRow 0 e s v n xs) (hte : t ≠ e) : v.ownBlock ≠ some m := by
 intro he
 rcases ho.2 with ⟨rfl, _⟩ | ⟨g, cap, cur, rfl, _, hg, _⟩
 ·simp [Value.ownBlock] at he
 have : g = m := by simpa [Value.ownBlock] using he
 subst this
 rw [h] at hg
 simp at hg
 exact hte hg.2
theorem lay261 (m : Nat) (vn : Bool) (x : Int) (vo : Option Addr) (vc : Nat) (lo : Option Addr) (L lc : Nat) (xs : List Value) (W : World) (hm : W.heap[m]? = some (.cells #[.int .i64 1, .slice lo L lc] 340)) (ho : W.ownsRow 0 2 1 (.slice lo L lc) L xs) (hL : L ≤ 5000) :
  Calls Tryz.prog 390 #[.pointer (some ⟨m, 0, none⟩), .agg #[.bool vn, .int .i64 x, .string ⟨#[]⟩, .slice vo 0 vc]] W fun e w' => ∃ uo uc, e = .returned (.int .i64 16) ∧ Push W w' m 1 340 2 #[.int .i64 1, .slice lo L lc] lo L lc xs (.int .i64 x) uo uc := by
 obtain ⟨A, hA, gA, hb⟩ := nw W (.cells #[.bool vn, .int .i64 x, .string ⟨#[]⟩, .slice vo 0 vc] 108)
 have hmA := (gA.block m (lt_of_heap hm) id).trans hm
 have HNE := hidM (own_ne hm ho (by decide))
 obtain ⟨m0, m1⟩ := cell2 hmA
 have q1 : A.cell? ⟨W.heap.size, 1, none⟩ = some (.int .i64 x) := by simp [World.cell?, hb]
 have HNM : Hid (W.heap.size ≠ m) := fun e => by have := lt_of_heap hm; omega
 have hq : ∀ u, Gr A u → u.cell? ⟨W.heap.size, 1, none⟩ = some (.int .i64 x) := fun u g => g.cell' q1 id
 have HQ0 := hidM (hq A.drew gr_drew)
 obtain ⟨A2, hA2⟩ := ex (A.alloc (.cells #[.int .i64 x] 2))
 have gA2 := gr_al hA2
 have g2 : Gr A A2.drew := gA2.tr gr_drew
 have HQ1 := hidM (hq A2.drew g2)
 have HOw : Hid (A2.drew.ownsRow 0 2 1 (.slice lo L lc) L xs) := row_kp ho fun g e => ((gA.tr g2).block g (own_lt ho g e) id)
 have HSr : Hid (Src Tryz.prog 1 338 (.slice (some ⟨A.heap.size, 0, none⟩) 1 1) 1 [.int .i64 x] A2.drew) := by
  have h := heap_alloc_new A (.cells #[.int .i64 x] 2)
  rw [hA2] at h
  refine Src.ofSlice (w := A2.drew) Tryz.underlying338 ⟨A.heap.size, 0, none⟩ 1 1 [.int .i64 x] rfl (fun j v hj => ?_) (fun v hv => by simp at hv; subst hv; rfl)
  cases j with
  | zero => cases hj; exact gr_drew.cell' (w := A2) (show A2.cell? ⟨A.heap.size, 0, none⟩ = some (.int .i64 x) by simp [World.cell?, h]) id
  | succ j => simp at hj
 have HAt : Hid (∀ w7, A2.drew.grownBy w7 (Value.slice lo L lc).ownBlock → w7.heap[m]? = some (.cells #[.int .i64 1, .slice lo L lc] 340) ∧ w7.cell? ⟨W.heap.size, 1, none⟩ = some (.int .i64 x)) := fun w7 h => by
  have hk := Keeps.ofGrown h
  refine ⟨(hk.block m (Nat.lt_of_lt_of_le (lt_of_heap hmA) gA2.size) (fun e => HNE.out e)).trans ((g2.block m (lt_of_heap hmA) id).trans hmA), hk.cell' HQ1.out (fun e => ?_)⟩
  have := own_lt ho _ e
  exact absurd this (Nat.lt_irrefl _)
 have HEnd : Hid (∀ uo uc w7, w7.ownsRow 0 2 1 (.slice uo (L + 1) uc) (L + 1) (xs ++ [.int .i64 x]) → A2.drew.grownBy w7 (Value.slice lo L lc).ownBlock → ((Value.slice uo (L + 1) uc).ownBlock = (Value.slice lo L lc).ownBlock ∨ ∀ g, (Value.slice uo (L + 1) uc).ownBlock = some g → A2.drew.heap.size ≤ g) → Push W (w7.setCell ⟨m, 1, none⟩ (.slice uo (L + 1) uc)) m 1 340 2 #[.int .i64 1, .slice lo L lc] lo L lc xs (.int .i64 x) uo uc) := fun uo uc w7 h1 h2 h3 => by
  have hm7 := (HAt.out w7 h2).1
  have hk : Keeps W w7 (fun z => (Value.slice lo L lc).ownBlock = some z) := ((gA.tr g2).mono (fun _ _ h => h.elim)).tr (Keeps.ofGrown h2)
  refine ⟨heap_setCell_same w7 m 1 _ _ _ hm7, row_kp h1 fun g e => heap_setCell_other _ _ _ _ (fun e' => own_ne hm7 h1 (by decide) (by rw [e, e'])), ?_, ?_⟩
  ·exact (hk.mono (fun _ _ h => .inr h)).setCell (p := ⟨m, 1, none⟩) (fun _ => .inl rfl) _
  exact h3.imp id (fun h g e => Nat.le_trans (gA.tr g2).size (h g e))
 have m1b : A2.cell? ⟨m, 1, none⟩ = some (.slice lo L lc) := gA2.cell' m1 id
 clear hm ho hb hmA gA g2 gA2 hq
 go_enter Tryz.func390, Tryz.ntmps390
 go_wp2_with fail
 refine wp_region_held_drew (S := fun w' => w'.cell? ⟨W.heap.size, 1, none⟩ = some (.int .i64 x)) (by kernel_rfl) (HQ0.out) (fun hHeld => ?_)
 refine tk 0 ?_
 refine tk 1 ?_
 refine tk 2 ?_
 refine tk 3 ?_
 refine tk 5 ?_
 refine tk 6 ?_
 refine rd2 4 7 (fun Kc hK => ?_) fun Kc hK => ?_
 ·go_simp
  refine hK.out _ _ HQ0.out (fun hHeld => ?_)
  clear hK Kc
  try simp only [Act.put, lA, lB, lC]
  refine rd1 7 fun Kc hK => ?_
  go_simp
  refine hK.out _ _ (HQ1.out) (fun hHeld => ?_)
  clear hK Kc
  try simp only [Act.put, lA, lB, lC]
  refine rd1 8 fun Kc hK => ?_
  refine step_append_any (P := Tryz.prog) _ rfl (.tmp 9) (.tmp 12) 338 338 rfl 2 (.int .i64 0) 8 Tryz.underlying338 info2 rfl (.slice lo L lc) L xs rfl HOw.out (.slice (some ⟨A.heap.size, 0, none⟩) 1 1) 1 [.int .i64 x] rfl HSr.out (by omega) (by omega) ?_
  intro v' w7 ha1 ha2 ha3
  obtain ⟨uo, uc, rfl⟩ := own_formN ha1
  obtain ⟨hm7, hq7⟩ := HAt.out w7 ha2
  obtain ⟨c0, c1⟩ := cell2 hm7
  have z1 := frz hm7 1
  have HQ7 := hidM hq7
  have HQ8 : Hid (∀ y, (w7.setCell ⟨m, 1, none⟩ y).cell? ⟨W.heap.size, 1, none⟩ = some (.int .i64 x)) := fun y => (World.cell?_of_block (heap_setCell_other _ _ _ _ HNM.out)).trans hq7
  have HE := hidM (HEnd.out _ _ _ ha1 ha2 ha3)
  clear ha1 ha2 ha3 hm7 hq7
  refine hK.out _ _ HQ7.out (fun hHeld => ?_)
  clear hK Kc
  try simp only [Act.put, lA, lB, lC]
  refine tk 9 ?_
  refine tk 10 ?_
  refine rd1 11 fun Kc hK => ?_
  go_simp
  refine hK.out _ _ (HQ8.out _) (fun hHeld => ?_)
  clear hK Kc
  try simp only [Act.put, lA, lB, lC]
  refine wpAnyH_done (by kernel_rfl) ?_ _
  clear hHeld c0 c1 z1
  go_wp2_with fail
  go_ret
  exact ⟨uo, uc, rfl, HE.out⟩
 go_simp
 refine hK.out _ _ HQ1.out (fun hHeld => ?_)
 clear hK Kc
 try simp only [Act.put, lA, lB, lC]
 refine rd1 4 fun Kc hK => ?_
 go_simp
 refine hK.out _ _ HQ1.out (fun hHeld => ?_)
 clear hK Kc
 try simp only [Act.put, lA, lB, lC]
 refine rd1 8 fun Kc hK => ?_
 refine step_append_any (P := Tryz.prog) _ rfl (.tmp 9) (.tmp 12) 338 338 rfl 2 (.int .i64 0) 8 Tryz.underlying338 info2 rfl (.slice lo L lc) L xs rfl HOw.out (.slice (some ⟨A.heap.size, 0, none⟩) 1 1) 1 [.int .i64 x] rfl HSr.out (by omega) (by omega) ?_
 intro v' w7 ha1 ha2 ha3
 obtain ⟨uo, uc, rfl⟩ := own_formN ha1
 obtain ⟨hm7, hq7⟩ := HAt.out w7 ha2
 obtain ⟨c0, c1⟩ := cell2 hm7
 have z1 := frz hm7 1
 have HQ7 := hidM hq7
 have HQ8 : Hid (∀ y, (w7.setCell ⟨m, 1, none⟩ y).cell? ⟨W.heap.size, 1, none⟩ = some (.int .i64 x)) := fun y => (World.cell?_of_block (heap_setCell_other _ _ _ _ HNM.out)).trans hq7
 have HE := hidM (HEnd.out _ _ _ ha1 ha2 ha3)
 clear ha1 ha2 ha3 hm7 hq7
 refine hK.out _ _ HQ7.out (fun hHeld => ?_)
 clear hK Kc
 try simp only [Act.put, lA, lB, lC]
 refine tk 9 ?_
 refine tk 10 ?_
 refine rd1 11 fun Kc hK => ?_
 go_simp
 refine hK.out _ _ (HQ8.out _) (fun hHeld => ?_)
 clear hK Kc
 try simp only [Act.put, lA, lB, lC]
 refine wpAnyH_done (by kernel_rfl) ?_ _
 clear hHeld c0 c1 z1
 go_wp2_with fail
 go_ret
 exact ⟨uo, uc, rfl, HE.out⟩
theorem cell6 {W : World} {B t : Nat} {x0 x1 x2 x3 x4 x5 : Value} (h : W.heap[B]? = some (.cells #[x0, x1, x2, x3, x4, x5] t)) : W.cell? ⟨B, 0, none⟩ = some x0 ∧ W.cell? ⟨B, 1, none⟩ = some x1 ∧ W.cell? ⟨B, 2, none⟩ = some x2 ∧ W.cell? ⟨B, 3, none⟩ = some x3 ∧ W.cell? ⟨B, 4, none⟩ = some x4 ∧ W.cell? ⟨B, 5, none⟩ = some x5 := by simp [World.cell?, h]
theorem rows59 (n m t : Nat) (nu : Bool) (wt : Int) (vo : Option Addr) (L vc : Nat) (W : World) (h : W.heap[n]? = some (.cells #[.bool nu, .iface 319 (.pointer (some ⟨m, 0, none⟩)), .pointer (some ⟨t, 0, none⟩), .int .i64 0, .slice vo L vc, .int .i64 wt] 275)) : Calls Tryz.prog 191 #[.pointer (some ⟨n, 0, none⟩)] W fun e w' => e = .returned (.int .i64 L) ∧ W = w' := by
 obtain ⟨c0, c1, c2, c3, c4, c5⟩ := cell6 h
 go_enter Tryz.func191, Tryz.ntmps191
 go_wp2
 go_ret
 exact ⟨rfl, rfl⟩
theorem enter61 (n m t : Nat) (nu : Bool) (wt : Int) (vo : Option Addr) (L vc : Nat) (W : World) (h : W.heap[n]? = some (.cells #[.bool nu, .iface 319 (.pointer (some ⟨m, 0, none⟩)), .pointer (some ⟨t, 0, none⟩), .int .i64 0, .slice vo L vc, .int .i64 wt] 275)) (h2 : W.heap[t]? = some (.cells #[.int .i64 0, .slice none 0 0] 227)) : Calls Tryz.prog 193 #[.pointer (some ⟨t, 0, none⟩), .pointer (some ⟨n, 0, none⟩)] W fun e w' => e = .returned (.tuple #[]) ∧ Gr W w' := by
 obtain ⟨c0, c1, c2, c3, c4, c5⟩ := cell6 h
 obtain ⟨t0, t1⟩ := cell2 h2
 go_enter Tryz.func193, Tryz.ntmps193
 go_wp2
 go_region
 go_wp2
 refine bodyPost_ret (results_none rfl _ _ _) rfl ⟨rfl, gr_drew⟩
theorem Push.gr {W W1 w' : World} {m j t e : Nat} {c : Array Value} {lo : Option Addr} {L lc : Nat} {xs : List Value} {y : Value} {uo : Option Addr} {uc : Nat} (g : Gr W W1) (h : Push W1 w' m j t e c lo L lc xs y uo uc) : Push W w' m j t e c lo L lc xs y uo uc :=
 ⟨h.box, h.own, (g.mono (fun _ _ h => h.elim)).tr h.kp, h.blk.imp id (fun h g' e => Nat.le_trans g.size (h g' e))⟩
theorem Push.oth {W w' : World} {m j t e : Nat} {c : Array Value} {lo : Option Addr} {L lc : Nat} {xs : List Value} {y : Value} {uo : Option Addr} {uc : Nat} (h : Push W w' m j t e c lo L lc xs y uo uc) (hm : W.heap[m]? = some (.cells c t)) (ho : W.ownsRow 0 e 1 (.slice lo L lc) L xs) {b t2 : Nat} {d : Array Value} (hb : W.heap[b]? = some (.cells d t2)) (h1 : t2 ≠ t) (h2 : t2 ≠ e) : w'.heap[b]? = some (.cells d t2) :=
 (h.kp.block b (lt_of_heap hb) (fun q => by
  rcases q with rfl | q
  ·rw [hb] at hm; simp at hm; exact h1 hm.2
  exact own_ne hb ho h2 q)).trans hb
theorem cell4 {W : World} {B t : Nat} {x0 x1 x2 x3 : Value} (h : W.heap[B]? = some (.cells #[x0, x1, x2, x3] t)) : W.cell? ⟨B, 0, none⟩ = some x0 ∧ W.cell? ⟨B, 1, none⟩ = some x1 ∧ W.cell? ⟨B, 2, none⟩ = some x2 ∧ W.cell? ⟨B, 3, none⟩ = some x3 := by simp [World.cell?, h]
theorem method_lay (m : Nat) (w : World) : (method 565 319 (.pointer (some ⟨m, 0, none⟩)) "colonnade/build.lay").run Tryz.prog w = .ok (390, .pointer (some ⟨m, 0, none⟩)) w := by kernel_rfl
theorem take43 (n m t : Nat) (nu : Bool) (wt : Int) (vo : Option Addr) (L vc : Nat) (vn : Bool) (x : Int) (xo : Option Addr) (xc : Nat) (lo : Option Addr) (M lc : Nat) (xs : List Value) (bn bv : Nat) (W : World) (h : W.heap[n]? = some (.cells #[.bool nu, .iface 319 (.pointer (some ⟨m, 0, none⟩)), .pointer (some ⟨t, 0, none⟩), .int .i64 0, .slice vo L vc, .int .i64 wt] 275)) (hbn : W.heap[bn]? = some (.cells #[.pointer (some ⟨n, 0, none⟩)] 228)) (hbv : W.heap[bv]? = some (.cells #[.bool vn, .int .i64 x, .string ⟨#[]⟩, .slice xo 0 xc] 108)) (hm : W.heap[m]? = some (.cells #[.int .i64 1, .slice lo M lc] 340)) (ho : W.ownsRow 0 2 1 (.slice lo M lc) M xs) (hL : M ≤ 5000) :
  Calls Tryz.prog 180 #[.pointer (some ⟨bn, 0, none⟩), .pointer (some ⟨bv, 0, none⟩)] W fun e w' => ∃ uo uc, e = .returned (.int .i64 16) ∧ Push W w' m 1 340 2 #[.int .i64 1, .slice lo M lc] lo M lc xs (.int .i64 x) uo uc := by
 have hS : ∀ u : World, u.heap[n]? = some (.cells #[.bool nu, .iface 319 (.pointer (some ⟨m, 0, none⟩)), .pointer (some ⟨t, 0, none⟩), .int .i64 0, .slice vo L vc, .int .i64 wt] 275) → u.heap[bn]? = some (.cells #[.pointer (some ⟨n, 0, none⟩)] 228) → u.heap[bv]? = some (.cells #[.bool vn, .int .i64 x, .string ⟨#[]⟩, .slice xo 0 xc] 108) → u.cell? ⟨bn, 0, none⟩ = some (.pointer (some ⟨n, 0, none⟩)) ∧ u.cell? ⟨n, 1, none⟩ = some (.iface 319 (.pointer (some ⟨m, 0, none⟩))) ∧ u.cell? ⟨bv, 0, none⟩ = some (.bool vn) ∧ u.cell? ⟨bv, 1, none⟩ = some (.int .i64 x) ∧ u.cell? ⟨bv, 2, none⟩ = some (.string ⟨#[]⟩) ∧ u.cell? ⟨bv, 3, none⟩ = some (.slice xo 0 xc) := fun u a1 a2 a3 => by
  obtain ⟨-, n1, -⟩ := cell6 a1
  obtain ⟨q0, q1, q2, q3⟩ := cell4 a3
  exact ⟨by simp [World.cell?, a2], n1, q0, q1, q2, q3⟩
 have HS := hidM hS
 have HS0 := hidM (hS W.drew h hbn hbv)
 have HL := hidM (lay261 m vn x xo xc lo M lc xs W.drew hm ho hL)
 have HP : Hid (∀ (w' : World) uo uc, Push W.drew w' m 1 340 2 #[.int .i64 1, .slice lo M lc] lo M lc xs (.int .i64 x) uo uc → w'.heap[n]? = some (.cells #[.bool nu, .iface 319 (.pointer (some ⟨m, 0, none⟩)), .pointer (some ⟨t, 0, none⟩), .int .i64 0, .slice vo L vc, .int .i64 wt] 275) ∧ w'.heap[bn]? = some (.cells #[.pointer (some ⟨n, 0, none⟩)] 228) ∧ w'.heap[bv]? = some (.cells #[.bool vn, .int .i64 x, .string ⟨#[]⟩, .slice xo 0 xc] 108)) := fun w' uo uc hp => ⟨hp.oth (W := W.drew) hm ho h (by decide) (by decide), hp.oth (W := W.drew) hm ho hbn (by decide) (by decide), hp.oth (W := W.drew) hm ho hbv (by decide) (by decide)⟩
 clear hS h hbn hbv hm ho
 have hmeth := method_lay m
 go_enter Tryz.func180, Tryz.ntmps180
 go_wp2_with fail
 go_region_held3 (fun w' => w'.cell? ⟨bn, 0, none⟩ = some (.pointer (some ⟨n, 0, none⟩)) ∧ w'.cell? ⟨n, 1, none⟩ = some (.iface 319 (.pointer (some ⟨m, 0, none⟩))) ∧ w'.cell? ⟨bv, 0, none⟩ = some (.bool vn) ∧ w'.cell? ⟨bv, 1, none⟩ = some (.int .i64 x) ∧ w'.cell? ⟨bv, 2, none⟩ = some (.string ⟨#[]⟩) ∧ w'.cell? ⟨bv, 3, none⟩ = some (.slice xo 0 xc)) (first | with_reducible exact HS0.out | with_reducible exact HS1.out) ((go_at_call 390; refine HL.out.mono ?_; rintro e w1 ⟨uo, uc, rfl, hp⟩; have HPS := hidM hp; obtain ⟨a1, a2, a3⟩ := HP.out w1 uo uc hp; have HS1 := hidM (HS.out w1 a1 a2 a3); clear hp a1 a2 a3))
 go_wp2_with fail
 go_ret
 exact ⟨uo, uc, rfl, HPS.out.gr gr_drew⟩
theorem info4 : (Tryz.prog.info? 4).map (fun i => (i.zero, i.size, i.bytes)) = some (some (.bool false), 1, 1) := by kernel_rfl
def IsN (B : Nat) (w : World) (k : Nat) : Prop := B ≤ k ∧ ∃ cs ty fz, w.heap[k]? = some (.cells cs ty fz) ∧ (ty = 275 ∨ ty = 340 ∨ ty = 4 ∨ ty = 2)
def FrN (B : Nat) (w W : World) : Prop := Keeps w W (IsN B w)
theorem Gr.frN {B : Nat} {w W : World} (g : Gr w W) : FrN B w W := g.mono (fun _ _ h => h.elim)
theorem FrN.trans {B : Nat} {u v w : World} (h : FrN B u v) (g : FrN B v w) : FrN B u w := by
 refine Keeps.trans h g (fun k hk ⟨hl, cs, ty, fz, e, ht⟩ => ?_)
 by_cases hi : IsN B u k
 ·exact hi
 exact ⟨hl, cs, ty, fz, (h.block k hk hi) ▸ e, ht⟩
theorem FrN.oth {B : Nat} {w W : World} (h : FrN B w W) {b ty : Nat} {c : Array Value} (hb : w.heap[b]? = some (.cells c ty)) (h1 : ty ≠ 275) (h2 : ty ≠ 340) (h3 : ty ≠ 4) (h4 : ty ≠ 2) : W.heap[b]? = some (.cells c ty) := by
 refine (h.block b (lt_of_heap hb) (fun q => ?_)).trans hb
 obtain ⟨-, cs, ty', fz, e, ht⟩ := q
 rw [hb] at e
 cases e
 rcases ht with e | e | e | e
 ·exact h1 e
 ·exact h2 e
 ·exact h3 e
 exact h4 e
structure Nd (B : Nat) (W : World) (n m t : Nat) (nu : Bool) (wt : Int) (vo : Option Addr) (L vc : Nat) (bs : List Value) (lo : Option Addr) (lc : Nat) (xs : List Value) : Prop where
 hn : W.heap[n]? = some (.cells #[.bool nu, .iface 319 (.pointer (some ⟨m, 0, none⟩)), .pointer (some ⟨t, 0, none⟩), .int .i64 0, .slice vo L vc, .int .i64 wt] 275)
 hm : W.heap[m]? = some (.cells #[.int .i64 1, .slice lo L lc] 340)
 ht : W.heap[t]? = some (.cells #[.int .i64 0, .slice none 0 0] 227)
 rv : W.ownsRow 0 4 1 (.slice vo L vc) L bs
 rl : W.ownsRow 0 2 1 (.slice lo L lc) L xs
 low : B ≤ n ∧ B ≤ m ∧ B ≤ t
 bv : ∀ g, (Value.slice vo L vc).ownBlock = some g → B ≤ g
 bl : ∀ g, (Value.slice lo L lc).ownBlock = some g → B ≤ g
theorem Nd.gr {B : Nat} {W W' : World} {n m t : Nat} {nu : Bool} {wt : Int} {vo : Option Addr} {L vc : Nat} {bs : List Value} {lo : Option Addr} {lc : Nat} {xs : List Value} (h : Nd B W n m t nu wt vo L vc bs lo lc xs) (g : Gr W W') : Nd B W' n m t nu wt vo L vc bs lo lc xs :=
 ⟨(g.block _ (lt_of_heap h.hn) id).trans h.hn, (g.block _ (lt_of_heap h.hm) id).trans h.hm, (g.block _ (lt_of_heap h.ht) id).trans h.ht, row_kp h.rv fun q e => g.block q (own_lt h.rv q e) id, row_kp h.rl fun q e => g.block q (own_lt h.rl q e) id, h.low, h.bv, h.bl⟩
theorem own_type {W : World} {e n g : Nat} {v : Value} {xs : List Value} (ho : W.ownsRow 0 e 1 v n xs) (h : v.ownBlock = some g) : ∃ cs fz, W.heap[g]? = some (.cells cs e fz) := by
 rcases ho.2 with ⟨rfl, _⟩ | ⟨b, cap, cur, rfl, _, hg, _⟩
 ·simp [Value.ownBlock] at h
 have : b = g := by simpa [Value.ownBlock] using h
 subst this
 exact ⟨_, _, hg⟩
theorem row42 (B n m t : Nat) (nu ok : Bool) (wt : Int) (vo : Option Addr) (L vc : Nat) (bs : List Value) (lo : Option Addr) (lc : Nat) (xs : List Value) (vn : Bool) (x : Int) (xo : Option Addr) (xc : Nat) (bn bv : Nat) (W : World) (h : Nd B W n m t nu wt vo L vc bs lo lc xs) (hB : B ≤ W.heap.size) (hbn : W.heap[bn]? = some (.cells #[.pointer (some ⟨n, 0, none⟩)] 228)) (hbv : W.heap[bv]? = some (.cells #[.bool vn, .int .i64 x, .string ⟨#[]⟩, .slice xo 0 xc] 108)) (hL : L ≤ 4000) (hw : 0 ≤ wt ∧ wt ≤ 1000000) :
  Calls Tryz.prog 179 #[.pointer (some ⟨n, 0, none⟩), .bool ok, .func (.func 180) #[] #[.pointer (some ⟨bn, 0, none⟩), .pointer (some ⟨bv, 0, none⟩)]] W fun e w' => e = .returned (.int .i64 16) ∧ FrN B W w' ∧ ∃ vo' vc' lo' lc', Nd B w' n m t nu (wt + 16) vo' (L + 1) vc' (bs ++ [.bool ok]) lo' lc' (xs ++ [.int .i64 x]) := by
 have H := hidM h
 have HBN := hidM hbn
 have HBV := hidM hbv
 obtain ⟨c0, c1, c2, c3, c4, c5⟩ := cell6 h.hn
 have hl : ((L : Int) == 4096) = false := by simp; omega
 have HW := hidM hw
 clear h hbn hbv hw
 go_enter Tryz.func179, Tryz.ntmps179
 go_wp2_with (first
  | (go_at_call 191; refine (rows59 n m t nu wt vo L vc _ H.out.hn).mono ?_; rintro e w1 ⟨rfl, rfl⟩)
  | (go_at_call 193; refine (enter61 n m t nu wt vo L vc _ H.out.hn H.out.ht).mono ?_; rintro e w2 ⟨rfl, g2⟩; have HG2 := hidM g2; clear c0 c1 c2 c3 c4 c5; obtain ⟨c0, c1, c2, c3, c4, c5⟩ := cell6 ((g2.block _ (lt_of_heap H.out.hn) id).trans H.out.hn); clear g2)
  | (at_builtin; refine Hid.out ?_))
 unfold Hid
 have gA : Gr W (w2.alloc (.cells #[.bool ok] 4)) := HG2.out.alloc _
 have hA := H.out.gr gA
 have hsr : Src Tryz.prog 1 106 (.slice (some ⟨w2.heap.size, 0, none⟩) 1 1) 1 [.bool ok] (w2.alloc (.cells #[.bool ok] 4)) := by
  refine Src.ofSlice (w := w2.alloc (.cells #[.bool ok] 4)) Tryz.underlying106 ⟨w2.heap.size, 0, none⟩ 1 1 [.bool ok] rfl (fun j v hj => ?_) (fun v hv => by simp at hv; subst hv; rfl)
  cases j with
  | zero => cases hj; have hh := heap_alloc_new w2 (.cells #[.bool ok] 4); show (w2.alloc (.cells #[.bool ok] 4)).cell? ⟨w2.heap.size, 0, none⟩ = some (.bool ok); unfold World.cell?; rw [hh]; rfl
  | succ j => simp at hj
 refine wpList_append_any _ rfl (.tmp 22) (.tmp 24) 106 106 rfl 4 (.bool false) 1 Tryz.underlying106 info4 rfl (.slice vo L vc) L bs rfl hA.rv (.slice (some ⟨w2.heap.size, 0, none⟩) 1 1) 1 [.bool ok] rfl hsr (by omega) (by omega) ?_
 intro v' w3 ha1 ha2 ha3
 obtain ⟨uo, uc, rfl⟩ := own_formN ha1
 have hk3 := Keeps.ofGrown ha2
 have hne : ∀ {b ty : Nat} {c : Array Value}, (w2.alloc (.cells #[.bool ok] 4)).heap[b]? = some (.cells c ty) → ty ≠ 4 → w3.heap[b]? = some (.cells c ty) := fun hb ht => (hk3.block _ (lt_of_heap hb) (fun e => own_ne hb hA.rv ht e)).trans hb
 have hn3 := hne hA.hn (by decide)
 have hm3 := hne hA.hm (by decide)
 have ht3 := hne hA.ht (by decide)
 have hbn3 := hne ((gA.block _ (lt_of_heap HBN.out) id).trans HBN.out) (by decide)
 have hbv3 := hne ((gA.block _ (lt_of_heap HBV.out) id).trans HBV.out) (by decide)
 have hrl3 : w3.ownsRow 0 2 1 (.slice lo L lc) L xs := row_kp hA.rl fun q e => hk3.block q (own_lt hA.rl q e) (fun e2 => by
  obtain ⟨c1, f1, k1⟩ := own_type hA.rl e
  obtain ⟨c2, f2, k2⟩ := own_type hA.rv e2
  rw [k1] at k2
  simp at k2)
 have hfr3 : FrN B W w3 := (Gr.frN gA).trans (hk3.mono fun k hk e => by
  obtain ⟨c1, f1, k1⟩ := own_type hA.rv e
  exact ⟨hA.bv k e, c1, 4, f1, k1, .inr (.inr (.inl rfl))⟩)
 have hbl3 : ∀ g, (Value.slice uo (L + 1) uc).ownBlock = some g → B ≤ g := fun g e => by
  rcases ha3 with e2 | e2
  ·exact hA.bv g (e2 ▸ e)
  exact Nat.le_trans (Nat.le_trans hB gA.size) (e2 g e)
 obtain ⟨w4, hw4⟩ := ex (w3.setCell ⟨n, 4, none⟩ (.slice uo (L + 1) uc))
 have hk4 : Keeps w3 w4 (fun z => z = n) := by rw [← hw4]; exact Keeps.setCell (S := fun z => z = n) (p := ⟨n, 4, none⟩) (Keeps.refl w3 _) (fun _ => rfl) _
 have hn4 : w4.heap[n]? = some (.cells #[.bool nu, .iface 319 (.pointer (some ⟨m, 0, none⟩)), .pointer (some ⟨t, 0, none⟩), .int .i64 0, .slice uo (L + 1) uc, .int .i64 wt] 275) := by rw [← hw4, heap_setCell_same w3 n 4 _ _ _ hn3]; rfl
 have hot : ∀ {b ty : Nat} {c : Array Value}, w3.heap[b]? = some (.cells c ty) → ty ≠ 275 → w4.heap[b]? = some (.cells c ty) := fun hb ht => (hk4.block _ (lt_of_heap hb) (fun e => by subst e; rw [hn3] at hb; simp at hb; exact ht hb.2.symm)).trans hb
 have hrow : ∀ {e N : Nat} {v : Value} {ys : List Value}, w3.ownsRow 0 e 1 v N ys → e ≠ 275 → w4.ownsRow 0 e 1 v N ys := fun hr he => row_kp hr fun q e2 => hk4.block q (own_lt hr q e2) (fun e3 => by subst e3; exact own_ne hn3 hr (Ne.symm he) e2)
 have HF4 : Hid (FrN B W w4) := hfr3.trans (hk4.mono fun k hk e => by subst e; exact ⟨hA.low.1, _, 275, _, hn3, .inl rfl⟩)
 have hm4 := hot hm3 (by decide)
 have ht4 := hot ht3 (by decide)
 have hbn4 := hot hbn3 (by decide)
 have hbv4 := hot hbv3 (by decide)
 have hrv4 := hrow ha1 (by decide)
 have hrl4 := hrow hrl3 (by decide)
 have HC := hidM (take43 n m t nu wt uo (L + 1) uc vn x xo xc lo L lc xs bn bv w4 hn4 hbn4 hbv4 hm4 hrl4 (by omega))
 have HEnd : Hid (∀ w5 yo yc, Push w4 w5 m 1 340 2 #[.int .i64 1, .slice lo L lc] lo L lc xs (.int .i64 x) yo yc → w5.heap[n]? = some (.cells #[.bool nu, .iface 319 (.pointer (some ⟨m, 0, none⟩)), .pointer (some ⟨t, 0, none⟩), .int .i64 0, .slice uo (L + 1) uc, .int .i64 wt] 275) ∧ FrN B W (w5.setCell ⟨n, 5, none⟩ (.int .i64 (wt + 16))) ∧ Nd B (w5.setCell ⟨n, 5, none⟩ (.int .i64 (wt + 16))) n m t nu (wt + 16) uo (L + 1) uc (bs ++ [.bool ok]) yo yc (xs ++ [.int .i64 x])) := fun w5 yo yc hp => by
  have hn5 := hp.oth hm4 hrl4 hn4 (by decide) (by decide)
  have ht5 := hp.oth hm4 hrl4 ht4 (by decide) (by decide)
  have hrv5 : w5.ownsRow 0 4 1 (.slice uo (L + 1) uc) (L + 1) (bs ++ [.bool ok]) := row_kp hrv4 fun q e => hp.kp.block q (own_lt hrv4 q e) (fun e2 => by
   obtain ⟨c1, f1, k1⟩ := own_type hrv4 e
   rcases e2 with rfl | e2
   ·rw [hm4] at k1; simp at k1
   obtain ⟨c2, f2, k2⟩ := own_type hrl4 e2
   rw [k1] at k2
   simp at k2)
  have hfr5 : FrN B W w5 := HF4.out.trans (hp.kp.mono fun k hk e => by
   rcases e with rfl | e
   ·exact ⟨hA.low.2.1, _, 340, _, hm4, .inr (.inl rfl)⟩
   obtain ⟨c1, f1, k1⟩ := own_type hrl4 e
   exact ⟨hA.bl k e, c1, 2, f1, k1, .inr (.inr (.inr rfl))⟩)
  have hk6 : Keeps w5 (w5.setCell ⟨n, 5, none⟩ (.int .i64 (wt + 16))) (fun z => z = n) := Keeps.setCell (S := fun z => z = n) (p := ⟨n, 5, none⟩) (Keeps.refl w5 _) (fun _ => rfl) _
  have hot6 : ∀ {b ty : Nat} {c : Array Value}, w5.heap[b]? = some (.cells c ty) → ty ≠ 275 → (w5.setCell ⟨n, 5, none⟩ (.int .i64 (wt + 16))).heap[b]? = some (.cells c ty) := fun hb ht => (hk6.block _ (lt_of_heap hb) (fun e => by subst e; rw [hn5] at hb; simp at hb; exact ht hb.2.symm)).trans hb
  have hrow6 : ∀ {e N : Nat} {v : Value} {ys : List Value}, w5.ownsRow 0 e 1 v N ys → e ≠ 275 → (w5.setCell ⟨n, 5, none⟩ (.int .i64 (wt + 16))).ownsRow 0 e 1 v N ys := fun hr he => row_kp hr fun q e2 => hk6.block q (own_lt hr q e2) (fun e3 => by subst e3; exact own_ne hn5 hr (Ne.symm he) e2)
  refine ⟨hn5, hfr5.trans (hk6.mono fun k hk e => by subst e; exact ⟨hA.low.1, _, 275, _, hn5, .inl rfl⟩), ?_⟩
  refine ⟨by rw [heap_setCell_same w5 n 5 _ _ _ hn5]; rfl, hot6 hp.box (by decide), hot6 ht5 (by decide), hrow6 hrv5 (by decide), hrow6 hp.own (by decide), hA.low, hbl3, fun g e => ?_⟩
  rcases hp.blk with e2 | e2
  ·exact hA.bl g (e2 ▸ e)
  exact Nat.le_trans (Nat.le_trans hB (Keeps.size HF4.out)) (e2 g e)
 have hwr : IntKind.i64.wrap (wt + 16) = wt + 16 := by have := HW.out; rw [IntKind.wrap_i64]; omega
 have hgt : ¬ (4194304 : Int) < wt + 16 := by have := HW.out; omega
 obtain ⟨d0, d1, d2, d3, d4, d5⟩ := cell6 hn3
 have z4 := frz hn3 4
 clear c0 c1 c2 c3 c4 c5 hsr hA gA ha1 ha2 ha3 hk3 hne hn3 hm3 ht3 hbn3 hbv3 hrl3 hfr3 hbl3 hk4 hn4 hot hrow hm4 ht4 hbn4 hbv4 hrv4 hrl4 HF4
 go_wp2_with (go_at_call 180; refine HC.out.mono ?_; rintro e w5 ⟨yo, yc, rfl, hp⟩; obtain ⟨hn5, hfr, hnd⟩ := HEnd.out w5 yo yc hp; have HFR := hidM hfr; have HND := hidM hnd; clear d0 d1 d2 d3 d4 d5 z4 hw4; obtain ⟨d0, d1, d2, d3, d4, d5⟩ := cell6 hn5; have z5 := frz hn5 5; clear hp hn5 hfr hnd)
 go_ret
 exact ⟨rfl, HFR.out, uo, uc, yo, yc, HND.out⟩
theorem take33 (B n m t : Nat) (nu : Bool) (wt : Int) (vo : Option Addr) (L vc : Nat) (bs : List Value) (lo : Option Addr) (lc : Nat) (xs : List Value) (vn : Bool) (x : Int) (xo : Option Addr) (xc : Nat) (W : World) (h : Nd B W n m t nu wt vo L vc bs lo lc xs) (hB : B ≤ W.heap.size) (hL : L ≤ 4000) (hw : 0 ≤ wt ∧ wt ≤ 1000000) :
  Calls Tryz.prog 166 #[.pointer (some ⟨n, 0, none⟩), .agg #[.bool vn, .int .i64 x, .string ⟨#[]⟩, .slice xo 0 xc]] W fun e w' => e = .returned (.int .i64 16) ∧ FrN B W w' ∧ ∃ vo' vc' lo' lc', Nd B w' n m t nu (wt + 16) vo' (L + 1) vc' (bs ++ [.bool !vn]) lo' lc' (xs ++ [.int .i64 x]) := by
 obtain ⟨A, hA⟩ := ex ((W.alloc (.cells #[.pointer (some ⟨n, 0, none⟩)] 228)).alloc (.cells #[.bool vn, .int .i64 x, .string ⟨#[]⟩, .slice xo 0 xc] 108))
 have gA : Gr W A := by rw [← hA]; exact (gr_alloc W _).tr (gr_alloc _ _)
 have hb2 : A.heap[W.heap.size + 1]? = some (.cells #[.bool vn, .int .i64 x, .string ⟨#[]⟩, .slice xo 0 xc] 108) := by
  have e2 := heap_alloc_new (W.alloc (.cells #[.pointer (some ⟨n, 0, none⟩)] 228)) (.cells #[.bool vn, .int .i64 x, .string ⟨#[]⟩, .slice xo 0 xc] 108)
  rw [show (W.alloc (.cells #[.pointer (some ⟨n, 0, none⟩)] 228)).heap.size = W.heap.size + 1 by simp, hA] at e2
  exact e2
 have hb1 : A.heap[W.heap.size]? = some (.cells #[.pointer (some ⟨n, 0, none⟩)] 228) := by
  have e1 := heap_alloc_new W (.cells #[.pointer (some ⟨n, 0, none⟩)] 228)
  rw [← hA]
  exact ((gr_alloc _ _).block _ (lt_of_heap e1) id).trans e1
 have HR := hidM (row42 B n m t nu (!vn) wt vo L vc bs lo lc xs vn x xo xc W.heap.size (W.heap.size + 1) A (h.gr gA) (Nat.le_trans hB gA.size) hb1 hb2 hL hw)
 have HG := hidM gA
 obtain ⟨q0, q1, q2, q3⟩ := cell4 hb2
 have q4 : A.cell? ⟨W.heap.size, 0, none⟩ = some (.pointer (some ⟨n, 0, none⟩)) := by simp [World.cell?, hb1]
 clear h hb1 hb2 gA
 go_enter Tryz.func166, Tryz.ntmps166
 go_wp2_with (go_at_call 179; refine HR.out.mono ?_; rintro e w1 ⟨rfl, hf, hn⟩; have HF := hidM hf; have HN := hidM hn; clear hf hn)
 go_ret
 exact ⟨rfl, (Gr.frN HG.out).trans HF.out, HN.out⟩
attribute [local go_sem] run_store_func
theorem wp_hid {P : Program} {c : Code} {Q : Exit → Act → World → Prop} {a : Act} {w : World} (h : c.wp P (fun e a w => Hid (Q e a w)) a w) : c.wp P Q a w := Code.wp_mono (fun e a w h => h.out) h
theorem same_set {W : World} {b ty j : Nat} {c : Array Value} {v : Value} (h : W.heap[b]? = some (.cells c ty)) (hv : c.setIfInBounds j v = c) : Gr W (W.setCell ⟨b, j, none⟩ v) := by
 have k : Keeps W (W.setCell ⟨b, j, none⟩ v) (fun z => z = b) := Keeps.setCell (S := fun z => z = b) (p := ⟨b, j, none⟩) (Keeps.refl W _) (fun _ => rfl) _
 refine ⟨k.os, k.tape, k.output, k.size, fun z hz _ => ?_⟩
 by_cases e : z = b
 ·subst e
  rw [heap_setCell_same W z j _ _ v h, h, hv]
 exact k.block z hz e
theorem end32 (t : Nat) (W : World) (h : W.heap[t]? = some (.cells #[.int .i64 0, .slice none 0 0] 227)) : Calls Tryz.prog 165 #[.pointer (some ⟨t, 0, none⟩)] W fun e w' => e = .returned (.tuple #[]) ∧ Gr W w' := by
 obtain ⟨c0, c1⟩ := cell2 h
 have z1 := frz h 1
 have HG := hidM (same_set (j := 1) (v := .slice none 0 0) h rfl)
 go_enter Tryz.func165, Tryz.ntmps165
 go_wp2
 go_end0
 exact ⟨rfl, HG.out⟩
def bdC (nx : Bool) (nu : Bool) (fo : Option Addr) (fc n t : Nat) (rows : Int) : Array Value := #[.string (nmB nx), .bool nu, .int .i64 3, .int .i64 0, .int .i64 0, .int .i64 0, .slice fo 0 fc, .pointer (some ⟨n, 0, none⟩), .pointer (some ⟨t, 0, none⟩), .int .i64 rows]
theorem take30 (bb : Nat) (r : Addr) (p n t : Nat) (nu : Bool) (fo : Option Addr) (fc : Nat) (rows : Int) (w : World) (hr : 0 ≤ rows ∧ rows ≤ 100000) (hb : w.heap[bb]? = some (.cells #[.pointer (some ⟨p, 0, none⟩)] 199)) (hp : w.heap[p]? = some (.cells (bdC nx nu fo fc n t rows) 231)) (ht : w.heap[t]? = some (.cells #[.int .i64 0, .slice none 0 0] 227)) :
  CallsD Tryz.prog 163 #[.pointer (some ⟨bb, 0, none⟩), .pointer (some r)] .returning w fun e u' w' => e = .returned (.tuple #[]) ∧ u' = .returning ∧ Keeps w w' (fun z => z = p) ∧ w'.heap[p]? = some (.cells (bdC nx nu fo fc n t (rows + 1)) 231) := by
 have q0 : w.cell? ⟨bb, 0, none⟩ = some (.pointer (some ⟨p, 0, none⟩)) := by simp [World.cell?, hb]
 have p9 : w.cell? ⟨p, 9, none⟩ = some (.int .i64 rows) := by simp [World.cell?, hp, bdC]
 have z9 := frz hp 9
 have hwr : IntKind.i64.wrap (rows + 1) = rows + 1 := by rw [IntKind.wrap_i64]; omega
 obtain ⟨U, hU⟩ := ex (w.setCell ⟨p, 9, none⟩ (.int .i64 (rows + 1)))
 have kU : Keeps w U (fun z => z = p) := by rw [← hU]; exact Keeps.setCell (S := fun z => z = p) (p := ⟨p, 9, none⟩) (Keeps.refl w _) (fun _ => rfl) _
 have hpU : U.heap[p]? = some (.cells (bdC nx nu fo fc n t (rows + 1)) 231) := by rw [← hU, heap_setCell_same w p 9 _ _ _ hp]; rfl
 have hbp : bb ≠ p := fun e => by rw [e, hp] at hb; simp at hb
 have htp : t ≠ p := fun e => by rw [e, hp] at ht; simp at ht
 have q0U : U.cell? ⟨bb, 0, none⟩ = some (.pointer (some ⟨p, 0, none⟩)) := kU.cell' q0 hbp
 have p8U : U.cell? ⟨p, 8, none⟩ = some (.pointer (some ⟨t, 0, none⟩)) := by simp [World.cell?, hpU, bdC]
 have HE := hidM (end32 t U ((kU.block t (lt_of_heap ht) htp).trans ht))
 have HK := hidM kU
 have HP := hidM hpU
 clear hb hp ht kU hpU hbp htp hr
 refine callsD_of_wpS Tryz.func163 rfl fun c₀ cs hu => ?_
 apply wpS_seq
 apply wpS_seq
 apply wpS_region
 simp [wpOpsS, go_sem, recoverD, hu, Tryz.ntmps163, Exit.thenS]
 have HHU := hidM hu
 clear hu
 have htm : (#[Value.pointer (some ⟨bb, 0, none⟩), Value.pointer (some r)] ++ (Array.replicate 28 undef).setIfInBounds 3 Value.nilIface : Array Value) = #[Value.pointer (some ⟨bb, 0, none⟩), .pointer (some r), undef, undef, undef, .nilIface, undef, undef, undef, undef, undef, undef, undef, undef, undef, undef, undef, undef, undef, undef, undef, undef, undef, undef, undef, undef, undef, undef, undef, undef] := by kernel_rfl
 rw [htm]
 clear htm
 refine wpS_of_wp ?_
 refine wp_hid ?_
 go_wp2_with fail
 unfold Hid
 show Code.wpS _ _ _ _ _ _
 refine wpS_of_wp ?_
 refine wp_hid ?_
 go_wp2_with (go_at_call 165; refine HE.out.mono ?_; rintro e w2 ⟨rfl, g⟩; have HG := hidM g; clear g)
 unfold Hid
 have hk : Keeps w w2 (fun z => z = p) := HK.out.trans HG.out (fun _ _ h => h.elim)
 have hp : w2.heap[p]? = some (.cells (bdC nx nu fo fc n t (rows + 1)) 231) := (HG.out.block p (lt_of_heap HP.out) id).trans HP.out
 have hu := HHU.out
 cases c₀
 simp_all [bodyPostS, results, Tryz.results163]
def IsD (B : Nat) (w : World) (k : Nat) : Prop := B ≤ k ∧ ∃ cs ty fz, w.heap[k]? = some (.cells cs ty fz) ∧ (ty = 231 ∨ ty = 275 ∨ ty = 340 ∨ ty = 4 ∨ ty = 2)
def FrD (B : Nat) (w W : World) : Prop := Keeps w W (IsD B w)
theorem Gr.frD {B : Nat} {w W : World} (g : Gr w W) : FrD B w W := g.mono (fun _ _ h => h.elim)
theorem FrN.frD {B : Nat} {w W : World} (g : FrN B w W) : FrD B w W := g.mono (fun k _ h => by
 obtain ⟨h1, cs, ty, fz, h2, h3⟩ := h
 exact ⟨h1, cs, ty, fz, h2, .inr h3⟩)
theorem FrD.trans {B : Nat} {u v w : World} (h : FrD B u v) (g : FrD B v w) : FrD B u w := by
 refine Keeps.trans h g (fun k hk ⟨hl, cs, ty, fz, e, ht⟩ => ?_)
 by_cases hi : IsD B u k
 ·exact hi
 exact ⟨hl, cs, ty, fz, (h.block k hk hi) ▸ e, ht⟩
theorem FrD.low {B : Nat} {w W : World} (h : FrD B w W) {a : World} (g : Gr a w) (hB : a.heap.size ≤ B) : Gr a W := g.trans h (fun k hk q => by have := q.1; omega)
theorem take16 (B p n m t : Nat) (nu : Bool) (fo : Option Addr) (fc : Nat) (rows : Int) (wt : Int) (vo : Option Addr) (L vc : Nat) (bs : List Value) (lo : Option Addr) (lc : Nat) (xs : List Value) (vn : Bool) (x : Int) (xo : Option Addr) (xc : Nat) (W : World) (hp : W.heap[p]? = some (.cells (bdC nx nu fo fc n t rows) 231)) (h : Nd B W n m t nu wt vo L vc bs lo lc xs) (hB : B ≤ W.heap.size) (hBp : B ≤ p) (hL : L ≤ 4000) (hw : 0 ≤ wt ∧ wt ≤ 1000000) (hr : 0 ≤ rows ∧ rows ≤ 100000) :
  Calls Tryz.prog 141 #[.pointer (some ⟨p, 0, none⟩), .agg #[.bool vn, .int .i64 x, .string ⟨#[]⟩, .slice xo 0 xc]] W fun e w' => e = .returned (.int .i64 0) ∧ FrD B W w' ∧ w'.heap[p]? = some (.cells (bdC nx nu fo fc n t (rows + 1)) 231) ∧ ∃ vo' vc' lo' lc', Nd B w' n m t nu (wt + 16) vo' (L + 1) vc' (bs ++ [.bool !vn]) lo' lc' (xs ++ [.int .i64 x]) := by
 have hmf := mkf
 obtain ⟨A, hA⟩ := ex (((W.alloc (.cells #[.pointer (some ⟨p, 0, none⟩)] 199)).alloc (.cells #[.bool vn, .int .i64 x, .string ⟨#[]⟩, .slice xo 0 xc] 108)).alloc (.cells #[.int .i64 0] 33))
 have gA : Gr W A := by rw [← hA]; exact ((gr_alloc W _).tr (gr_alloc _ _)).tr (gr_alloc _ _)
 have s1 : (W.alloc (.cells #[.pointer (some ⟨p, 0, none⟩)] 199)).heap.size = W.heap.size + 1 := by simp
 have s2 : ((W.alloc (.cells #[.pointer (some ⟨p, 0, none⟩)] 199)).alloc (.cells #[.bool vn, .int .i64 x, .string ⟨#[]⟩, .slice xo 0 xc] 108)).heap.size = W.heap.size + 1 + 1 := by simp
 have hb1 : A.heap[W.heap.size]? = some (.cells #[.pointer (some ⟨p, 0, none⟩)] 199) := by
  have e1 := heap_alloc_new W (.cells #[.pointer (some ⟨p, 0, none⟩)] 199)
  rw [← hA]
  exact ((((gr_alloc _ _).tr (gr_alloc _ _)) : Gr (W.alloc (.cells #[.pointer (some ⟨p, 0, none⟩)] 199)) _).block _ (lt_of_heap e1) id).trans e1
 have hb2 : A.heap[W.heap.size + 1]? = some (.cells #[.bool vn, .int .i64 x, .string ⟨#[]⟩, .slice xo 0 xc] 108) := by
  have e2 := heap_alloc_new (W.alloc (.cells #[.pointer (some ⟨p, 0, none⟩)] 199)) (.cells #[.bool vn, .int .i64 x, .string ⟨#[]⟩, .slice xo 0 xc] 108)
  rw [s1] at e2
  rw [← hA]
  exact ((gr_alloc _ _).block _ (lt_of_heap e2) id).trans e2
 have hb3 : A.heap[W.heap.size + 1 + 1]? = some (.cells #[.int .i64 0] 33) := by
  have e3 := heap_alloc_new ((W.alloc (.cells #[.pointer (some ⟨p, 0, none⟩)] 199)).alloc (.cells #[.bool vn, .int .i64 x, .string ⟨#[]⟩, .slice xo 0 xc] 108)) (.cells #[.int .i64 0] 33)
  rw [s2] at e3
  rw [← hA]
  exact e3
 have hpA := (gA.block p (lt_of_heap hp) id).trans hp
 have hS : ∀ u : World, u.heap[W.heap.size]? = some (.cells #[.pointer (some ⟨p, 0, none⟩)] 199) → u.heap[W.heap.size + 1]? = some (.cells #[.bool vn, .int .i64 x, .string ⟨#[]⟩, .slice xo 0 xc] 108) → u.heap[p]? = some (.cells (bdC nx nu fo fc n t rows) 231) → u.cell? ⟨W.heap.size, 0, none⟩ = some (.pointer (some ⟨p, 0, none⟩)) ∧ u.cell? ⟨p, 7, none⟩ = some (.pointer (some ⟨n, 0, none⟩)) ∧ u.cell? ⟨W.heap.size + 1, 0, none⟩ = some (.bool vn) ∧ u.cell? ⟨W.heap.size + 1, 1, none⟩ = some (.int .i64 x) ∧ u.cell? ⟨W.heap.size + 1, 2, none⟩ = some (.string ⟨#[]⟩) ∧ u.cell? ⟨W.heap.size + 1, 3, none⟩ = some (.slice xo 0 xc) := fun u a1 a2 a3 => by
  obtain ⟨q0, q1, q2, q3⟩ := cell4 a2
  exact ⟨by simp [World.cell?, a1], by simp [World.cell?, a3, bdC], q0, q1, q2, q3⟩
 have HS0 := hidM (hS A.drew hb1 hb2 hpA)
 have HT := hidM (take33 B n m t nu wt vo L vc bs lo lc xs vn x xo xc A.drew ((h.gr gA).gr gr_drew) (Nat.le_trans hB gA.size) hL hw)
 have HAf : Hid (∀ w1, FrN B A.drew w1 → (w1.heap[W.heap.size]? = some (.cells #[.pointer (some ⟨p, 0, none⟩)] 199) ∧ w1.heap[W.heap.size + 1]? = some (.cells #[.bool vn, .int .i64 x, .string ⟨#[]⟩, .slice xo 0 xc] 108) ∧ w1.heap[p]? = some (.cells (bdC nx nu fo fc n t rows) 231)) ∧ w1.heap[W.heap.size + 1 + 1]? = some (.cells #[.int .i64 0] 33)) := fun w1 f => ⟨⟨f.oth hb1 (by decide) (by decide) (by decide) (by decide), f.oth hb2 (by decide) (by decide) (by decide) (by decide), f.oth hpA (by decide) (by decide) (by decide) (by decide)⟩, f.oth hb3 (by decide) (by decide) (by decide) (by decide)⟩
 have HSS := hidM hS
 have HG := hidM gA
 clear h hp hb1 hb2 hb3 hpA gA hS s1 s2
 go_enter_defers Tryz.func141, Tryz.ntmps141
 go_wp2_with fail
 go_region_held3 (fun w' => w'.cell? ⟨W.heap.size, 0, none⟩ = some (.pointer (some ⟨p, 0, none⟩)) ∧ w'.cell? ⟨p, 7, none⟩ = some (.pointer (some ⟨n, 0, none⟩)) ∧ w'.cell? ⟨W.heap.size + 1, 0, none⟩ = some (.bool vn) ∧ w'.cell? ⟨W.heap.size + 1, 1, none⟩ = some (.int .i64 x) ∧ w'.cell? ⟨W.heap.size + 1, 2, none⟩ = some (.string ⟨#[]⟩) ∧ w'.cell? ⟨W.heap.size + 1, 3, none⟩ = some (.slice xo 0 xc)) (first | with_reducible exact HS0.out | with_reducible exact HS1.out) ((go_at_call 166; refine HT.out.mono ?_; rintro e w1 ⟨rfl, hf, hn⟩; have HF := hidM hf; have HN := hidM hn; obtain ⟨⟨a1, a2, a3⟩, a4⟩ := HAf.out w1 hf; have HS1 := hidM (HSS.out w1 a1 a2 a3); have HB4 := hidM (And.intro a1 (And.intro a3 a4)); have y0 : w1.cell? ⟨W.heap.size + 1 + 1, 0, none⟩ = some (.int .i64 0) := (by simp [World.cell?, a4]); have zz := frz a4 0; clear hf hn a1 a2 a3 a4))
 go_wp2_with fail
 have g2 : Gr w1 (w1.setCell ⟨W.heap.size + 1 + 1, 0, none⟩ (.int .i64 0)) := same_set HB4.out.2.2 rfl
 generalize w1.setCell ⟨W.heap.size + 1 + 1, 0, none⟩ (.int .i64 0) = U at g2 ⊢
 obtain ⟨hb1, hb3, hb4⟩ := HB4.out
 obtain ⟨vo', vc', lo', lc', hnd⟩ := HN.out
 have hU1 := (g2.block _ (lt_of_heap hb1) id).trans hb1
 have hU3 := (g2.block _ (lt_of_heap hb3) id).trans hb3
 have hU4 := (g2.block _ (lt_of_heap hb4) id).trans hb4
 have hnU := hnd.gr g2
 refine leaves_cons (f := 163) (args := #[.pointer (some ⟨W.heap.size, 0, none⟩), .pointer (some ⟨W.heap.size + 1 + 1, 0, none⟩)]) (by simp) (by simp [go_sem]) ?_
 refine (take30 W.heap.size ⟨W.heap.size + 1 + 1, 0, none⟩ p n t nu fo fc rows U hr hU1 hU3 hnU.ht).mono ?_
 rintro e u' w' ⟨rfl, rfl, k, hp'⟩
 have h4' : w'.heap[W.heap.size + 1 + 1]? = some (.cells #[.int .i64 0] 33) := (k.block _ (lt_of_heap hU4) (fun e => by rw [e, hU3] at hU4; simp at hU4)).trans hU4
 have y4 : w'.cell? ⟨W.heap.size + 1 + 1, 0, none⟩ = some (.int .i64 0) := by simp [World.cell?, h4']
 have hoth : ∀ {b ty : Nat} {c : Array Value}, U.heap[b]? = some (.cells c ty) → ty ≠ 231 → w'.heap[b]? = some (.cells c ty) := fun hb ht => (k.block _ (lt_of_heap hb) (fun e => by subst e; rw [hU3] at hb; simp at hb; exact ht hb.2.symm)).trans hb
 have hrow : ∀ {e N : Nat} {v : Value} {ys : List Value}, U.ownsRow 0 e 1 v N ys → e ≠ 231 → w'.ownsRow 0 e 1 v N ys := fun hr he => row_kp hr fun q e2 => k.block q (own_lt hr q e2) (fun e3 => by subst e3; exact own_ne hU3 hr (Ne.symm he) e2)
 have hfr : FrD B W w' := (((Gr.frD HG.out).trans (Gr.frD gr_drew)).trans HF.out.frD).trans ((Gr.frD g2).trans (k.mono fun z hz e => by subst e; exact ⟨hBp, _, 231, _, hU3, .inl rfl⟩))
 refine ⟨.int .i64 0, ?_, rfl, hfr, hp', vo', vc', lo', lc', hoth hnU.hn (by decide), hoth hnU.hm (by decide), hoth hnU.ht (by decide), hrow hnU.rv (by decide), hrow hnU.rl (by decide), hnU.low, hnU.bv, hnU.bl⟩
 simp [results, Tryz.f141, go_sem, y4]
def C8 (nx : Bool) (u : World) (p b : Nat) (nu : Bool) (fo : Option Addr) (fc : Nat) (vn : Bool) (x : Int) (xo : Option Addr) (xc : Nat) : Prop := u.cell? ⟨p, 0, none⟩ = some (.string (nmB nx)) ∧ u.cell? ⟨p, 1, none⟩ = some (.bool nu) ∧ u.cell? ⟨p, 2, none⟩ = some (.int .i64 3) ∧ u.cell? ⟨p, 3, none⟩ = some (.int .i64 0) ∧ u.cell? ⟨p, 4, none⟩ = some (.int .i64 0) ∧ u.cell? ⟨p, 5, none⟩ = some (.int .i64 0) ∧ u.cell? ⟨p, 6, none⟩ = some (.slice fo 0 fc) ∧ u.cell? ⟨b, 0, none⟩ = some (.bool vn) ∧ u.cell? ⟨b, 1, none⟩ = some (.int .i64 x) ∧ u.cell? ⟨b, 2, none⟩ = some (.string ⟨#[]⟩) ∧ u.cell? ⟨b, 3, none⟩ = some (.slice xo 0 xc)
theorem c8 {u : World} {p b : Nat} {nu : Bool} {fo : Option Addr} {fc n t : Nat} {rows : Int} {vn : Bool} {x : Int} {xo : Option Addr} {xc : Nat} (hp : u.heap[p]? = some (.cells (bdC nx nu fo fc n t rows) 231)) (hb : u.heap[b]? = some (.cells #[.bool vn, .int .i64 x, .string ⟨#[]⟩, .slice xo 0 xc] 108)) : C8 nx u p b nu fo fc vn x xo xc := by
 obtain ⟨q0, q1, q2, q3⟩ := cell4 hb
 refine ⟨?_, ?_, ?_, ?_, ?_, ?_, ?_, q0, q1, q2, q3⟩ <;> simp [World.cell?, hp, bdC]
def AddA (nx : Bool) (B : Nat) (W : World) (p n m t : Nat) (nu : Bool) (fo : Option Addr) (fc : Nat) (rows wt : Int) (L : Nat) (bs xs : List Value) (vn : Bool) (x : Int) (e : Ending) (w' : World) : Prop :=
 if fitN nu 3 vn x = true then e = .returned (.int .i64 0) ∧ FrD B W w' ∧ w'.heap[p]? = some (.cells (bdC nx nu fo fc n t (rows + 1)) 231) ∧ ∃ vo' vc' lo' lc', Nd B w' n m t nu (wt + 16) vo' (L + 1) vc' (bs ++ [.bool !vn]) lo' lc' (xs ++ [.int .i64 x])
 else e = .returned (.int .i64 7) ∧ Gr W w'
theorem add8 (B p n m t : Nat) (nu : Bool) (fo : Option Addr) (fc : Nat) (rows : Int) (wt : Int) (vo : Option Addr) (L vc : Nat) (bs : List Value) (lo : Option Addr) (lc : Nat) (xs : List Value) (vn : Bool) (x : Int) (xo : Option Addr) (xc : Nat) (W : World) (hT : Tab W) (hp : W.heap[p]? = some (.cells (bdC nx nu fo fc n t rows) 231)) (h : Nd B W n m t nu wt vo L vc bs lo lc xs) (hB : B ≤ W.heap.size) (hBp : B ≤ p) (hL : L ≤ 4000) (hw : 0 ≤ wt ∧ wt ≤ 1000000) (hr : 0 ≤ rows ∧ rows ≤ 100000) :
  Calls Tryz.prog 120 #[.pointer (some ⟨p, 0, none⟩), .agg #[.bool vn, .int .i64 x, .string ⟨#[]⟩, .slice xo 0 xc]] W (AddA nx B W p n m t nu fo fc rows wt L bs xs vn x) := by
 obtain ⟨A, hA, gA, hb⟩ := nw W (.cells #[.bool vn, .int .i64 x, .string ⟨#[]⟩, .slice xo 0 xc] 108)
 have hpA := (gA.block p (lt_of_heap hp) id).trans hp
 have HS0 : Hid (C8 nx A.drew p W.heap.size nu fo fc vn x xo xc) := c8 hpA hb
 have HF := hidM (leaf_fits (w := W) (ao := fo) (ca := fc) hT (allR (nx := nx) nu) (by decide) vn x xo xc A.drew (gA.tr gr_drew))
 have HK : Hid (∀ w1, Gr A.drew w1 → C8 nx w1 p W.heap.size nu fo fc vn x xo xc ∧ Calls Tryz.prog 141 #[.pointer (some ⟨p, 0, none⟩), .agg #[.bool vn, .int .i64 x, .string ⟨#[]⟩, .slice xo 0 xc]] w1 fun e w' => e = .returned (.int .i64 0) ∧ FrD B W w' ∧ w'.heap[p]? = some (.cells (bdC nx nu fo fc n t (rows + 1)) 231) ∧ ∃ vo' vc' lo' lc', Nd B w' n m t nu (wt + 16) vo' (L + 1) vc' (bs ++ [.bool !vn]) lo' lc' (xs ++ [.int .i64 x])) := fun w1 g => by
  have g1 : Gr A w1 := Keeps.trans gr_drew g (fun _ _ h => h)
  have g2 : Gr W w1 := gA.tr g1
  have hp1 := (g1.block p (lt_of_heap hpA) id).trans hpA
  refine ⟨c8 hp1 ((g1.block _ (lt_of_heap hb) id).trans hb), ?_⟩
  refine (take16 B p n m t nu fo fc rows wt vo L vc bs lo lc xs vn x xo xc w1 hp1 (h.gr g2) (Nat.le_trans hB g2.size) hBp hL hw hr).mono ?_
  rintro e w' ⟨rfl, hf, hp', hn⟩
  exact ⟨rfl, (Gr.frD g2).trans hf, hp', hn⟩
 have HG := hidM gA
 obtain ⟨fb, hfb⟩ := ex (fitE true (fitN nu 3 vn x))
 rw [hfb] at HF
 unfold C8 at HS0 HK
 by_cases hfit : fitN nu 3 vn x = true
 ·have hz : fb = 0 := by rw [← hfb, hfit]; rfl
  subst hz
  have HFit := hidM hfit
  clear h hp hb hpA gA hT hfit hfb
  go_enter Tryz.func120, Tryz.ntmps120
  go_wp2_with fail
  go_region_held3 (fun w' => w'.cell? ⟨p, 0, none⟩ = some (.string (nmB nx)) ∧ w'.cell? ⟨p, 1, none⟩ = some (.bool nu) ∧ w'.cell? ⟨p, 2, none⟩ = some (.int .i64 3) ∧ w'.cell? ⟨p, 3, none⟩ = some (.int .i64 0) ∧ w'.cell? ⟨p, 4, none⟩ = some (.int .i64 0) ∧ w'.cell? ⟨p, 5, none⟩ = some (.int .i64 0) ∧ w'.cell? ⟨p, 6, none⟩ = some (.slice fo 0 fc) ∧ w'.cell? ⟨W.heap.size, 0, none⟩ = some (.bool vn) ∧ w'.cell? ⟨W.heap.size, 1, none⟩ = some (.int .i64 x) ∧ w'.cell? ⟨W.heap.size, 2, none⟩ = some (.string ⟨#[]⟩) ∧ w'.cell? ⟨W.heap.size, 3, none⟩ = some (.slice xo 0 xc)) (first | with_reducible exact HS0.out | with_reducible exact HS1.out) ((go_at_call 140; refine HF.out.mono ?_; rintro e w1 ⟨rfl, g1⟩; have HG1 := hidM g1; obtain ⟨a1, a2⟩ := HK.out w1 g1; have HS1 := hidM a1; have HC := hidM a2; obtain ⟨-, -, -, -, -, -, -, y0, y1, y2, y3⟩ := a1; clear g1 a2))
  go_wp2_with (go_at_call 141; refine HC.out.mono ?_; rintro e w2 ⟨rfl, hq⟩; have HQ := hidM hq; clear hq)
  go_ret
  unfold AddA
  rw [if_pos HFit.out]
  exact ⟨rfl, HQ.out⟩
 have hz : fb = 7 := by
  rw [← hfb]
  have : fitN nu 3 vn x = false := by simpa using hfit
  rw [this]
  rfl
 subst hz
 have HFit := hidM hfit
 clear h hp hb hpA gA hT hfit hfb
 go_enter Tryz.func120, Tryz.ntmps120
 go_wp2_with fail
 go_region_held3 (fun w' => w'.cell? ⟨p, 0, none⟩ = some (.string (nmB nx)) ∧ w'.cell? ⟨p, 1, none⟩ = some (.bool nu) ∧ w'.cell? ⟨p, 2, none⟩ = some (.int .i64 3) ∧ w'.cell? ⟨p, 3, none⟩ = some (.int .i64 0) ∧ w'.cell? ⟨p, 4, none⟩ = some (.int .i64 0) ∧ w'.cell? ⟨p, 5, none⟩ = some (.int .i64 0) ∧ w'.cell? ⟨p, 6, none⟩ = some (.slice fo 0 fc) ∧ w'.cell? ⟨W.heap.size, 0, none⟩ = some (.bool vn) ∧ w'.cell? ⟨W.heap.size, 1, none⟩ = some (.int .i64 x) ∧ w'.cell? ⟨W.heap.size, 2, none⟩ = some (.string ⟨#[]⟩) ∧ w'.cell? ⟨W.heap.size, 3, none⟩ = some (.slice xo 0 xc)) (first | with_reducible exact HS0.out | with_reducible exact HS1.out) ((go_at_call 140; refine HF.out.mono ?_; rintro e w1 ⟨rfl, g1⟩; have HG1 := hidM g1; obtain ⟨a1, a2⟩ := HK.out w1 g1; have HS1 := hidM a1; have HC := hidM a2; obtain ⟨-, -, -, -, -, -, -, y0, y1, y2, y3⟩ := a1; clear g1 a2))
 go_wp2_with fail
 go_ret
 unfold AddA
 rw [if_neg HFit.out]
 exact ⟨rfl, (HG.out.tr gr_drew).tr HG1.out⟩
end Go.Proofs.YthhpamhfnpacpaaGreatDoor.Kit
