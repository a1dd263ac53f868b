import Derived.Test.YtcfdkadhclickaaDoorVN
import Derived.Test.YtcfdkadhclickaaDoorVC
import Derived.Test.YtcfdkadhclickaaDoorVE
import Derived.Test.YtcfdkadhclickaaDoorWE
namespace Go.Proofs.YtcfdkadhclickaaDoor.Kit
open Go.RowKit Go.Shelf Go.Deep
set_option linter.unusedVariables false
attribute [local go_sem] run_store_func

/-! ### fits 25, Fits 6 -/
theorem gr_past {W V w' : World} {sb : Nat} (g : Gr W V) (k : Keeps V w' (fun k => k = sb)) (h : W.heap.size ≤ sb) : Gr W w' := g.trans k (fun j hj e => by omega)
set_option maxRecDepth 100000 in
set_option maxHeartbeats 2000000 in
theorem fits25_walk (f0 : ByteArray) (f1 : Bool) (f2 f3 f4 f5 : Int) (ao : Option Addr) (n ca : Nat) (v0 : Bool) (v1 : Int) (v2 : ByteArray) (vo : Option Addr) (m vc : Nat) (w : World) (r : Int → Option Int)
    (hF : ∀ (V : World) (sb : Nat), Gr w V → w.heap.size ≤ sb → sb < V.heap.size → FitC V sb 47 (.agg #[.string f0, .bool f1, .int .i64 f2, .int .i64 f3, .int .i64 f4, .int .i64 f5, .slice ao n ca]) (.agg #[.bool v0, .int .i64 v1, .string v2, .slice vo m vc]) r) :
    ∀ W, Gr w W → Calls Tryd.prog 25 #[.agg #[.string f0, .bool f1, .int .i64 f2, .int .i64 f3, .int .i64 f4, .int .i64 f5, .slice ao n ca], .agg #[.bool v0, .int .i64 v1, .string v2, .slice vo m vc]] W fun e w' => e = .returned (.bool (r 4194304).isSome) ∧ Gr W w' := by
  intro W g
  obtain ⟨V, hV⟩ : ∃ V, ((W.alloc (.cells #[.string f0, .bool f1, .int .i64 f2, .int .i64 f3, .int .i64 f4, .int .i64 f5, .slice ao n ca] 26)).alloc (.cells #[.bool v0, .int .i64 v1, .string v2, .slice vo m vc] 29)).alloc (.cells #[.int .i64 4194304] 75) = V := ⟨_, rfl⟩
  have gv : Gr W V := by rw [← hV]; exact (((Keeps.refl W _).alloc _).alloc _).alloc _
  have hbx : V.heap[W.heap.size + 1 + 1]? = some (.cells #[.int .i64 4194304] 75) := by
    have h := (alloc3 W (.cells #[.string f0, .bool f1, .int .i64 f2, .int .i64 f3, .int .i64 f4, .int .i64 f5, .slice ao n ca] 26) (.cells #[.bool v0, .int .i64 v1, .string v2, .slice vo m vc] 29) (.cells #[.int .i64 4194304] 75)).2.2.1
    rw [← hV]; exact h
  have HC := hidM (hF V (W.heap.size + 1 + 1) (g.trans gv (fun _ _ h => h)) (by have := g.size; omega) (lt_of_heap hbx) V 4194304 ⟨Keeps.refl _ _, hbx⟩ (by decide) (by decide))
  have HG := hidM gv
  obtain ⟨q, hq⟩ : ∃ q, q = r 4194304 := ⟨_, rfl⟩
  rw [← hq] at HC ⊢
  have HV := hidM hV
  clear hF g gv hbx hq hV
  go_enter Tryd.func25, Tryd.ntmps25
  go_wp2_with (go_at_call 47; refine Hid.out ?_)
  unfold Hid
  rw [HV.out]
  refine Calls.mono HC.out ?_
  rintro e w' ⟨l', rfl, hs, -⟩
  have HE := hidM (gr_past HG.out hs.kp (by omega))
  clear hs
  go_wp2_with fail
  go_ret
  exact ⟨rfl, HE.out⟩
def fitE (mb fb : Bool) : Int := if mb = false then 5 else if fb = false then 7 else 0
set_option maxRecDepth 100000 in
set_option maxHeartbeats 2000000 in
theorem fits6_walk (f0 : ByteArray) (f1 : Bool) (f2 f3 f4 f5 : Int) (ao : Option Addr) (n ca : Nat) (v0 : Bool) (v1 : Int) (v2 : ByteArray) (vo : Option Addr) (m vc : Nat) (w : World) (mb fb : Bool)
    (h24 : ∀ W, Gr w W → Calls Tryd.prog 24 #[.agg #[.string f0, .bool f1, .int .i64 f2, .int .i64 f3, .int .i64 f4, .int .i64 f5, .slice ao n ca]] W fun e w' => e = .returned (.bool mb) ∧ Gr W w')
    (h25 : mb = true → ∀ W, Gr w W → Calls Tryd.prog 25 #[.agg #[.string f0, .bool f1, .int .i64 f2, .int .i64 f3, .int .i64 f4, .int .i64 f5, .slice ao n ca], .agg #[.bool v0, .int .i64 v1, .string v2, .slice vo m vc]] W fun e w' => e = .returned (.bool fb) ∧ Gr W w') :
    ∀ W, Gr w W → Calls Tryd.prog 6 #[.agg #[.string f0, .bool f1, .int .i64 f2, .int .i64 f3, .int .i64 f4, .int .i64 f5, .slice ao n ca], .agg #[.bool v0, .int .i64 v1, .string v2, .slice vo m vc]] W fun e w' => e = .returned (.int .i64 (fitE mb fb)) ∧ Gr W w' := by
  intro W g
  have HG := hidM g
  have H24 := hidM h24
  have H25 := hidM h25
  obtain ⟨R, hR⟩ : ∃ R, R = fitE mb fb := ⟨_, rfl⟩
  rw [← hR]
  have HR := hidM hR
  obtain ⟨V, hV⟩ : ∃ V, (W.alloc (.cells #[.string f0, .bool f1, .int .i64 f2, .int .i64 f3, .int .i64 f4, .int .i64 f5, .slice ao n ca] 26)).alloc (.cells #[.bool v0, .int .i64 v1, .string v2, .slice vo m vc] 29) = V := ⟨_, rfl⟩
  have gv : Gr W V := by rw [← hV]; exact ((Keeps.refl W _).alloc _).alloc _
  have hA := alloc3 W (.cells #[.string f0, .bool f1, .int .i64 f2, .int .i64 f3, .int .i64 f4, .int .i64 f5, .slice ao n ca] 26) (.cells #[.bool v0, .int .i64 v1, .string v2, .slice vo m vc] 29) (.cells #[] 29)
  have hb7 : B7 V W.heap.size f0 f1 f2 f3 f4 f5 ao n ca := by
    unfold B7
    rw [← hV]
    exact (Below.heap_alloc (W.alloc _) _ W.heap.size (by simp)).trans (heap_alloc_new W _)
  have hb4 : B4 V (W.heap.size + 1) v0 v1 v2 vo m vc := by
    unfold B4
    rw [← hV]
    have e := heap_alloc_new (W.alloc (.cells #[.string f0, .bool f1, .int .i64 f2, .int .i64 f3, .int .i64 f4, .int .i64 f5, .slice ao n ca] 26)) (.cells #[.bool v0, .int .i64 v1, .string v2, .slice vo m vc] 29)
    rw [show (W.alloc (.cells #[.string f0, .bool f1, .int .i64 f2, .int .i64 f3, .int .i64 f4, .int .i64 f5, .slice ao n ca] 26)).heap.size = W.heap.size + 1 by simp] at e
    exact e
  have H7 := hidM hb7
  have H4 := hidM hb4
  have HV := hidM hV
  have HGv := hidM gv
  clear h24 h25 g hR hV gv hA hb7 hb4
  go_enter Tryd.func6, Tryd.ntmps6
  go_wp2_with (go_at_call 24; refine Hid.out ?_)
  unfold Hid
  rw [HV.out]
  refine Calls.mono (H24.out _ (HG.out.trans HGv.out (fun _ _ h => h))) ?_
  rintro e V1 ⟨rfl, hg1⟩
  obtain ⟨p0, p1, p2, p3, p4, p5, p6⟩ := B7.cells ((hg1.block _ (lt_of_heap H7.out) id).trans H7.out)
  obtain ⟨q0, q1, q2, q3⟩ := B4.cells ((hg1.block _ (lt_of_heap H4.out) id).trans H4.out)
  have HG1 := hidM (HGv.out.trans hg1 (fun _ _ h => h))
  clear hg1
  cases mb with
  | false =>
    have HX : Hid (R = 5) := HR.out
    go_wp2_with fail
    go_ret
    exact ⟨by rw [HX.out]; rfl, HG1.out⟩
  | true =>
    go_wp2_with (go_at_call 25; refine Hid.out ?_)
    unfold Hid
    refine Calls.mono (H25.out (by trivial) _ (HG.out.trans HG1.out (fun _ _ h => h))) ?_
    rintro e V2 ⟨rfl, hg2⟩
    have HG2 := hidM (HG1.out.trans hg2 (fun _ _ h => h))
    clear hg2 p0 p1 p2 p3 p4 p5 p6 q0 q1 q2 q3
    cases fb with
    | false =>
      have HX : Hid (R = 7) := HR.out
      go_wp2_with fail
      go_ret
      exact ⟨by rw [HX.out]; rfl, HG2.out⟩
    | true =>
      have HX : Hid (R = 0) := HR.out
      go_wp2_with fail
      go_ret
      exact ⟨by rw [HX.out]; rfl, HG2.out⟩
end Go.Proofs.YtcfdkadhclickaaDoor.Kit
namespace Go.Proofs.YtcfdkadhclickaaDoor.Kit
open Go.RowKit Go.Shelf Go.Deep
set_option linter.unusedVariables false

/-! ### compare 41 of values that fit, all depths -/
/-- it fits, with whatever weight -/
def Fit (n : Nat) (f : FT) (v : VT) : Prop := ∃ l l', fitsT n f v l = some l'
def shapeR (sh : FT → VT → Prop) (f : FT) (v : VT) : Prop :=
  if f.kind = 15 ∨ f.kind = 16 then ∀ x ∈ v.list, sh f.kids.head! x
  else if f.kind = 17 then Parts (f.kids.map sh) v.list
  else if f.kind = 18 then 0 ≤ v.num ∧ v.num < (f.kids.length : Int) ∧ ∃ x, v.list = [x] ∧ sh (f.kids.getD v.num.toNat default) x
  else if f.kind = 19 ∨ f.kind = 20 then sh f.kids.head! v
  else True
theorem fit_shape {n : Nat} {f : FT} {v : VT} (h : Fit (n + 1) f v) (hn : v.nul = false) : shapeR (Fit n) f v := by
  obtain ⟨l, l', e⟩ := h
  have some_of : ∀ {p : Prop} [Decidable p] {o : Option Int}, (if p then o else none) = some l' → p ∧ o = some l' := fun {p} _ o h => by
    split at h
    · rename_i c; exact ⟨c, h⟩
    · cases h
  have ih : ∀ g u l l', fitsT n g u l = some l' → Fit n g u := fun g u l l' h => ⟨l, l', h⟩
  rw [fitsT, fitsB, if_neg (by rw [hn]; exact Bool.false_ne_true)] at e
  unfold shapeR
  by_cases k15 : f.kind = 15
  · rw [if_neg (by omega), if_neg (by omega), if_neg (by omega), if_pos k15] at e
    rw [if_pos (.inl k15)]
    exact fitsL_all (weigh_all (ih _)) _ _ _ (some_of e).2
  by_cases k16 : f.kind = 16
  · rw [if_neg (by omega), if_neg (by omega), if_neg (by omega), if_neg k15, if_pos k16] at e
    rw [if_pos (.inr k16)]
    exact fitsL_all (weigh_all (ih _)) _ _ _ (some_of e).2
  rw [if_neg (by omega)]
  by_cases k17 : f.kind = 17
  · rw [if_neg (by omega), if_neg (by omega), if_neg (by omega), if_neg k15, if_neg k16, if_pos k17] at e
    rw [if_pos k17]
    exact fitsP_all (fun f => weigh_all (ih f)) _ _ _ _ (some_of e).1.2.2 (some_of e).2
  rw [if_neg k17]
  by_cases k18 : f.kind = 18
  · rw [if_neg (by omega), if_neg (by omega), if_neg (by omega), if_neg k15, if_neg k16, if_neg k17, if_pos k18] at e
    rw [if_pos k18]
    obtain ⟨⟨h1, h2, h4, h5⟩, h3⟩ := some_of e
    obtain ⟨x, hx⟩ := List.length_eq_one_iff.1 h5
    rw [hx] at h3
    exact ⟨h2, h4, x, hx, weigh_all (ih _) _ _ _ h3⟩
  rw [if_neg k18]
  by_cases k19 : f.kind = 19 ∨ f.kind = 20
  · rw [if_neg (by omega), if_neg (by omega), if_neg (by omega), if_neg k15, if_neg k16, if_neg k17, if_neg k18, if_pos k19] at e
    rw [if_pos k19]
    exact ih _ _ _ _ e
  rw [if_neg k19]
  trivial
theorem parts_get {sh : FT → VT → Prop} : ∀ {fs : List FT} {l : List VT}, Parts (fs.map sh) l → l.length = fs.length ∧ ∀ k (h : k < fs.length) (h' : k < l.length), sh fs[k] l[k]
  | [], l, h => by
    have : l = [] := h
    subst this
    exact ⟨rfl, fun k h => by simp at h⟩
  | f :: fs, l, h => by
    obtain ⟨x, xs, rfl, h1, h2⟩ := h
    obtain ⟨h3, h4⟩ := parts_get h2
    refine ⟨by simp [h3], fun k hk hk' => ?_⟩
    cases k with
    | zero => exact h1
    | succ k => exact h4 k (by simpa using hk) (by simpa using hk')
theorem u64_wrap {n : Int} (h : is64 n) : IntKind.u64.wrap n = u64Of n := by
  unfold is64 at h
  unfold u64Of
  simp [IntKind.wrap, IntKind.bits, IntKind.signed]
  split <;> omega
theorem cmp_step (S : Nat → Prop) (D d : Nat) (w : World) (hS : ∀ b, S b → b < w.heap.size)
    (h55 : ∀ (a b : ByteArray) (W : World), Calls Tryd.prog 55 #[.string a, .string b] W fun e w' => e = .returned (.int .i64 (cmpT a.data.toList b.data.toList)) ∧ w' = W)
    (f : FT) (ao : Option Addr) (ca : Nat) (c : FT → VT → VT → Int) (sh : FT → VT → Prop) (hf : RowAt S w (D + 1) ao f.kids) (hT : tableB f = true)
    (hkid : ∀ (g : FT) (go : Option Addr) (gc : Nat), g ∈ f.kids → g.kids.length ≤ gc → RowAt S w D go g.kids → ∀ (a b : VT) (uo vo : Option Addr) (uc vc : Nat), VOk a → VOk b → VRow S w d uo a.list → VRow S w d vo b.list → sh g a → sh g b → IAns 41 #[.agg #[.string g.name, .bool g.nul, .int .i64 g.kind, .int .i64 g.width, .int .i64 g.id, .int .i64 g.index, .slice go g.kids.length gc], .agg #[.bool a.nul, .int .i64 a.num, .string a.text, .slice uo a.list.length uc], .agg #[.bool b.nul, .int .i64 b.num, .string b.text, .slice vo b.list.length vc]] (c g a b) w)
    (a b : VT) (uo vo : Option Addr) (uc vc : Nat) (hoa : VOk a) (hob : VOk b) (ha : VRow S w d uo a.list) (hb : VRow S w d vo b.list) (sa : a.nul = false → shapeR sh f a) (sb : b.nul = false → shapeR sh f b) :
    IAns 41 #[.agg #[.string f.name, .bool f.nul, .int .i64 f.kind, .int .i64 f.width, .int .i64 f.id, .int .i64 f.index, .slice ao f.kids.length ca], .agg #[.bool a.nul, .int .i64 a.num, .string a.text, .slice uo a.list.length uc], .agg #[.bool b.nul, .int .i64 b.num, .string b.text, .slice vo b.list.length vc]] (cmpN VT.nul (cmpB c f) a b) w := by
  have hfl : f.kids.length ≤ 1000000000000 := hf.len
  have kid : f.kids ≠ [] → ∃ kb ko, ao = some ⟨kb, ko, none⟩ ∧ ∃ go gc, CellsAt w kb ko f.kids.head! go gc ∧ f.kids.head!.kids.length ≤ gc ∧ RowAt S w D go f.kids.head!.kids := by
    intro hne
    obtain ⟨h0, he⟩ := head_get hne
    obtain ⟨kb, ko, rfl, hb, hi⟩ := hf.2 hne
    obtain ⟨go, gc, hc, hle, hrow⟩ := hi 0 h0
    rw [he h0] at hc hle hrow
    simp only [Nat.zero_mul, Nat.add_zero] at hc
    exact ⟨kb, ko, rfl, go, gc, hc, hle, hrow⟩
  have hmem : f.kids ≠ [] → f.kids.head! ∈ f.kids := fun h => by
    cases hk : f.kids with
    | nil => exact absurd hk h
    | cons a b => exact List.mem_cons_self
  have num59 : ∀ x y : Int, IAns 59 #[.int .i64 x, .int .i64 y] (cmpI x y) w := fun x y W g => by
    refine (cmp64_any x y W).mono ?_
    rintro e w' ⟨rfl, rfl⟩
    exact ⟨rfl, Keeps.refl _ _⟩
  have txt : IAns 55 #[.string a.text, .string b.text] (cmpT a.text.data.toList b.text.data.toList) w := fun W g => by
    refine (h55 a.text b.text W).mono ?_
    rintro e w' ⟨rfl, rfl⟩
    exact ⟨rfl, Keeps.refl _ _⟩
  unfold cmpN
  by_cases hn : a.nul = true ∨ b.nul = true
  · rw [if_pos hn]
    exact cmp_null _ _ _ _ _ _ _ _ _ _ _ _ _ _ _ _ _ _ _ w _ _ _ (by rcases hn with h | h <;> simp [h]) rfl
  · rw [if_neg hn]
    have na : a.nul = false := by cases h : a.nul with | false => rfl | true => exact absurd (.inl h) hn
    have nb : b.nul = false := by cases h : b.nul with | false => rfl | true => exact absurd (.inr h) hn
    have sa := sa na
    have sb := sb nb
    have hk := tab_kind hT
    rw [na, nb]
    unfold cmpB
    unfold shapeR at sa sb
    by_cases k12 : f.kind = 12
    · rw [if_pos (.inl k12), k12]
      exact cmp12 _ _ _ _ _ _ _ _ _ _ _ _ _ _ _ _ _ _ w _ txt
    by_cases k13 : f.kind = 13
    · rw [if_pos (.inr (.inl k13)), k13]
      exact cmp13 _ _ _ _ _ _ _ _ _ _ _ _ _ _ _ _ _ _ w _ txt
    by_cases k14 : f.kind = 14
    · rw [if_pos (.inr (.inr k14)), k14]
      exact cmp14 _ _ _ _ _ _ _ _ _ _ _ _ _ _ _ _ _ _ w _ txt
    rw [if_neg (by omega)]
    by_cases k15 : f.kind = 15 ∨ f.kind = 16
    · rw [if_pos k15] at sa sb ⊢
      have hne := tab_kid hT (by omega)
      obtain ⟨kb, ko, rfl, go, gc, hc, hle, hrow⟩ := kid hne
      have hF := items56 f.kids.head!.name f.kids.head!.nul f.kids.head!.kind f.kids.head!.width f.kids.head!.id f.kids.head!.index go f.kids.head!.kids.length gc uo vo a.list.length uc b.list.length vc (cmpL (c f.kids.head!) a.list b.list) w (fun V X g hX => by
        have hk : KpOf S w V := fun b hb => g.block b (hS b hb) id
        refine compareFunc_any S d V X uo vo uc vc a.list b.list (c f.kids.head!) ((ha.kept hk).more (by omega)) ((hb.kept hk).more (by omega)) (fun b hb => Nat.lt_of_lt_of_le (hS b hb) g.size) (fun u v hu hv po qo pc qc h1 h2 r1 r2 => ?_)
        have r1' : VRow S w d po u.list := r1.kept (fun b hb => (g.block b (hS b hb) id).symm)
        have r2' : VRow S w d qo v.list := r2.kept (fun b hb => (g.block b (hS b hb) id).symm)
        exact func85 _ _ _ _ _ _ _ _ _ _ _ _ _ _ _ _ _ _ _ _ _ _ _ _ hX ((hkid _ _ _ (hmem hne) hle hrow u v po qo pc qc h1 h2 r1' r2' (sa u hu) (sb v hv)).gr g))
      rcases k15 with k | k
      · rw [k]
        exact cmp15 _ _ _ _ _ _ _ _ _ _ _ _ _ _ _ _ _ w _ _ _ _ _ _ _ _ _ _ _ _ (head_get hne).1 hc.c0 hc.c1 hc.c2 hc.c3 hc.c4 hc.c5 hc.c6 hF
      · rw [k]
        exact cmp16 _ _ _ _ _ _ _ _ _ _ _ _ _ _ _ _ _ w _ _ _ _ _ _ _ _ _ _ _ _ (head_get hne).1 hc.c0 hc.c1 hc.c2 hc.c3 hc.c4 hc.c5 hc.c6 hF
    rw [if_neg k15] at sa sb ⊢
    by_cases k17 : f.kind = 17
    · rw [if_pos k17] at sa sb ⊢
      rw [k17]
      obtain ⟨la, pa⟩ := parts_get sa
      obtain ⟨lb, pb⟩ := parts_get sb
      refine cmp17 _ _ _ _ _ _ _ _ _ _ _ _ _ _ _ _ _ _ w _ ?_
      exact parts57 S D d w ao uo vo ca uc vc f.kids a.list b.list c hf (ha.more (by omega)) (hb.more (by omega)) hS la lb (fun k hk ha hb go gc hle hrow uo vo uc vc h1 h2 r1 r2 => hkid _ _ _ (List.getElem_mem hk) hle hrow _ _ uo vo uc vc h1 h2 r1 r2 (pa k hk ha) (pb k hk hb))
    rw [if_neg k17] at sa sb ⊢
    by_cases k18 : f.kind = 18
    · rw [if_pos k18] at sa sb ⊢
      rw [k18]
      obtain ⟨a0, a1, x, hx, sx⟩ := sa
      obtain ⟨b0, b1, y, hy, sy⟩ := sb
      unfold cmpC
      by_cases he : a.num = b.num
      · rw [if_pos he]
        obtain ⟨j, hj⟩ : ∃ j : Nat, (j : Int) = a.num := ⟨a.num.toNat, by omega⟩
        have hjl : j < f.kids.length := by omega
        have hfne : f.kids ≠ [] := fun h => by rw [h] at hjl; simp at hjl
        obtain ⟨kb, ko, rfl, hkb, hi⟩ := hf.2 hfne
        obtain ⟨go, gc, hc, hle, hrow⟩ := hi j hjl
        have ha' := ha.more (e := d + 1) (by omega)
        have hb' := hb.more (e := d + 1) (by omega)
        obtain ⟨xb, xo, rfl, hxb, hxi⟩ := ha'.2 (by rw [hx]; simp)
        obtain ⟨yb, yo, rfl, hyb, hyi⟩ := hb'.2 (by rw [hy]; simp)
        obtain ⟨xp, xc, hxc, hxl, hxok, hxrow⟩ := hxi 0 (by rw [hx]; simp)
        obtain ⟨yp, yc, hyc, hyl, hyok, hyrow⟩ := hyi 0 (by rw [hy]; simp)
        have hx0 : a.list[0]'(by rw [hx]; simp) = x := by simp [hx]
        have hy0 : b.list[0]'(by rw [hy]; simp) = y := by simp [hy]
        rw [hx0] at hxc hxl hxok hxrow
        rw [hy0] at hyc hyl hyok hyrow
        simp only [Nat.zero_mul, Nat.add_zero] at hxc hyc
        have hgd : f.kids.getD a.num.toNat default = f.kids[j] := by
          rw [show a.num.toNat = j by omega, List.getD_eq_getElem?_getD, List.getElem?_eq_getElem hjl]
          rfl
        have hgd' : f.kids.getD b.num.toNat default = f.kids[j] := by rw [← he]; exact hgd
        show IAns 41 _ (c (f.kids.getD a.num.toNat default) a.list.head! b.list.head!) w
        rw [hgd] at sx ⊢
        rw [hgd'] at sy
        have e1 : a.list.head! = x := by rw [hx]; rfl
        have e2 : b.list.head! = y := by rw [hy]; rfl
        have l1 : a.list.length = 1 := by rw [hx]; rfl
        have l2 : b.list.length = 1 := by rw [hy]; rfl
        rw [e1, e2, l1, l2, ← he, ← hj]
        exact cmp18 _ _ _ _ _ _ _ 0 0 _ _ none none 0 _ 0 _ w _ kb ko _ _ _ _ _ _ _ _ _ j xb xo yb yo _ _ _ _ _ _ _ _ _ _ _ _ hjl hfl hc.c0 hc.c1 hc.c2 hc.c3 hc.c4 hc.c5 hc.c6 hxc.c0 hxc.c1 hxc.c2 hxc.c3 hyc.c0 hyc.c1 hyc.c2 hyc.c3 (hkid _ _ _ (List.getElem_mem hjl) hle hrow x y xp yp xc yc hxok hyok hxrow hyrow sx sy)
      · rw [if_neg he]
        exact cmp18_ne _ _ _ _ _ _ _ _ _ _ _ _ _ _ _ _ _ _ w _ (by simp [he]) (num59 _ _)
    rw [if_neg k18] at sa sb ⊢
    by_cases k19 : f.kind = 19 ∨ f.kind = 20
    · rw [if_pos k19] at sa sb ⊢
      have hne := tab_kid hT (by omega)
      obtain ⟨kb, ko, rfl, go, gc, hc, hle, hrow⟩ := kid hne
      have hF := hkid _ _ _ (hmem hne) hle hrow a b uo vo uc vc hoa hob ha hb sa sb
      rw [na, nb] at hF
      rcases k19 with k | k
      · rw [k]
        exact cmp19 _ _ _ _ _ _ _ _ _ _ _ _ _ _ _ _ _ w _ _ _ _ _ _ _ _ _ _ _ _ (head_get hne).1 hc.c0 hc.c1 hc.c2 hc.c3 hc.c4 hc.c5 hc.c6 hF
      · rw [k]
        exact cmp20 _ _ _ _ _ _ _ _ _ _ _ _ _ _ _ _ _ w _ _ _ _ _ _ _ _ _ _ _ _ (head_get hne).1 hc.c0 hc.c1 hc.c2 hc.c3 hc.c4 hc.c5 hc.c6 hF
    rw [if_neg k19]
    by_cases k10 : f.kind = 10
    · rw [if_pos k10, k10]
      refine cmp10 _ _ _ _ _ _ _ _ _ _ _ _ _ _ _ _ _ _ w _ ?_
      rw [u64_wrap hoa.1, u64_wrap hob.1]
      intro W g
      refine (cmpU_any _ _ W).mono ?_
      rintro e w' ⟨rfl, rfl⟩
      exact ⟨rfl, Keeps.refl _ _⟩
    rw [if_neg k10]
    by_cases k11 : f.kind = 11
    · rw [if_pos k11, k11]
      exact cmp11 _ _ _ _ _ _ _ _ _ _ _ _ _ _ _ _ _ _ w _ hoa.1 hob.1 rfl
    rw [if_neg k11]
    exact cmp_num _ _ _ _ _ _ _ _ _ _ _ _ _ _ _ _ _ _ _ w _ (by omega) (num59 _ _)
/-- all depths -/
theorem cmp_any (S : Nat → Prop) (d : Nat) (w : World) (hS : ∀ b, S b → b < w.heap.size)
    (h55 : ∀ (a b : ByteArray) (W : World), Calls Tryd.prog 55 #[.string a, .string b] W fun e w' => e = .returned (.int .i64 (cmpT a.data.toList b.data.toList)) ∧ w' = W) :
    ∀ (D : Nat) (f : FT) (ao : Option Addr) (ca : Nat), RowAt S w D ao f.kids → okF (D + 1) f → ∀ (a b : VT) (uo vo : Option Addr) (uc vc : Nat), VOk a → VOk b → VRow S w d uo a.list → VRow S w d vo b.list → Fit (D + 1) f a → Fit (D + 1) f b →
      IAns 41 #[.agg #[.string f.name, .bool f.nul, .int .i64 f.kind, .int .i64 f.width, .int .i64 f.id, .int .i64 f.index, .slice ao f.kids.length ca], .agg #[.bool a.nul, .int .i64 a.num, .string a.text, .slice uo a.list.length uc], .agg #[.bool b.nul, .int .i64 b.num, .string b.text, .slice vo b.list.length vc]] (cmpV (D + 1) f a b) w
  | 0, f, ao, ca, hf, ho, a, b, uo, vo, uc, vc, hoa, hob, ha, hb, fa, fb => by
    have hk : f.kids = [] := hf
    exact cmp_step S 0 d w hS h55 f ao ca (cmpV 0) (Fit 0) (hf.more (by omega)) ho.1 (fun g go gc hg => by rw [hk] at hg; cases hg) a b uo vo uc vc hoa hob ha hb (fit_shape fa) (fit_shape fb)
  | D + 1, f, ao, ca, hf, ho, a, b, uo, vo, uc, vc, hoa, hob, ha, hb, fa, fb =>
    cmp_step S D d w hS h55 f ao ca (cmpV (D + 1)) (Fit (D + 1)) hf ho.1 (fun g go gc hg hle hrow a b uo vo uc vc h1 h2 r1 r2 f1 f2 => cmp_any S d w hS h55 D g go gc hrow (ho.2 g hg) a b uo vo uc vc h1 h2 r1 r2 f1 f2) a b uo vo uc vc hoa hob ha hb (fit_shape fa) (fit_shape fb)
end Go.Proofs.YtcfdkadhclickaaDoor.Kit
namespace Go.Proofs.YtcfdkadhclickaaDoor.Kit
open Go.RowKit Go.Shelf Go.Deep
set_option linter.unusedVariables false
attribute [local go_sem] run_store_func

/-! ### Compare 18 -/
/-- what Compare answers: the order, the error -/
def cmpR (mb fa fb : Bool) (z : Int) : Int × Int := if mb = false then (0, 5) else if (fa && fb) = true then (z, 0) else (0, 7)
def CmpC (w : World) (a b c : Value) (r : Int × Int) : Prop := ∀ W, Gr w W → Calls Tryd.prog 18 #[a, b, c] W fun e w' => e = .returned (.tuple #[.int .i64 r.1, .int .i64 r.2]) ∧ Gr W w'
set_option maxRecDepth 100000 in
set_option maxHeartbeats 2000000 in
theorem compare18_walk (f0 : ByteArray) (f1 : Bool) (f2 f3 f4 f5 : Int) (ao : Option Addr) (n ca : Nat) (a0 b0 : Bool) (a1 b1 : Int) (a2 b2 : ByteArray) (uo vo : Option Addr) (un uc vn vc : Nat) (w : World) (mb fa fb : Bool) (z : Int)
    (h24 : ∀ W, Gr w W → Calls Tryd.prog 24 #[.agg #[.string f0, .bool f1, .int .i64 f2, .int .i64 f3, .int .i64 f4, .int .i64 f5, .slice ao n ca]] W fun e w' => e = .returned (.bool mb) ∧ Gr W w')
    (h25a : mb = true → ∀ W, Gr w W → Calls Tryd.prog 25 #[.agg #[.string f0, .bool f1, .int .i64 f2, .int .i64 f3, .int .i64 f4, .int .i64 f5, .slice ao n ca], .agg #[.bool a0, .int .i64 a1, .string a2, .slice uo un uc]] W fun e w' => e = .returned (.bool fa) ∧ Gr W w')
    (h25b : mb = true → ∀ W, Gr w W → Calls Tryd.prog 25 #[.agg #[.string f0, .bool f1, .int .i64 f2, .int .i64 f3, .int .i64 f4, .int .i64 f5, .slice ao n ca], .agg #[.bool b0, .int .i64 b1, .string b2, .slice vo vn vc]] W fun e w' => e = .returned (.bool fb) ∧ Gr W w')
    (h41 : mb = true → fa = true → fb = true → IAns 41 #[.agg #[.string f0, .bool f1, .int .i64 f2, .int .i64 f3, .int .i64 f4, .int .i64 f5, .slice ao n ca], .agg #[.bool a0, .int .i64 a1, .string a2, .slice uo un uc], .agg #[.bool b0, .int .i64 b1, .string b2, .slice vo vn vc]] z w) :
    CmpC w (.agg #[.string f0, .bool f1, .int .i64 f2, .int .i64 f3, .int .i64 f4, .int .i64 f5, .slice ao n ca]) (.agg #[.bool a0, .int .i64 a1, .string a2, .slice uo un uc]) (.agg #[.bool b0, .int .i64 b1, .string b2, .slice vo vn vc]) (cmpR mb fa fb z) := by
  intro W g
  obtain ⟨r1, hr1⟩ : ∃ r1, r1 = (cmpR mb fa fb z).1 := ⟨_, rfl⟩
  obtain ⟨r2, hr2⟩ : ∃ r2, r2 = (cmpR mb fa fb z).2 := ⟨_, rfl⟩
  rw [← hr1, ← hr2]
  have HR := hidM (And.intro hr1 hr2)
  have HG := hidM g
  have H24 := hidM h24
  have HA := hidM h25a
  have HB := hidM h25b
  have H41 := hidM h41
  obtain ⟨V, hV⟩ : ∃ V, ((W.alloc (.cells #[.string f0, .bool f1, .int .i64 f2, .int .i64 f3, .int .i64 f4, .int .i64 f5, .slice ao n ca] 26)).alloc (.cells #[.bool a0, .int .i64 a1, .string a2, .slice uo un uc] 29)).alloc (.cells #[.bool b0, .int .i64 b1, .string b2, .slice vo vn vc] 29) = V := ⟨_, rfl⟩
  have hA := alloc3 W (.cells #[.string f0, .bool f1, .int .i64 f2, .int .i64 f3, .int .i64 f4, .int .i64 f5, .slice ao n ca] 26) (.cells #[.bool a0, .int .i64 a1, .string a2, .slice uo un uc] 29) (.cells #[.bool b0, .int .i64 b1, .string b2, .slice vo vn vc] 29)
  have H7 : Hid (B7 V W.heap.size f0 f1 f2 f3 f4 f5 ao n ca) := by rw [← hV]; exact hA.1
  have Ha : Hid (B4 V (W.heap.size + 1) a0 a1 a2 uo un uc) := by rw [← hV]; exact hA.2.1
  have Hb : Hid (B4 V (W.heap.size + 1 + 1) b0 b1 b2 vo vn vc) := by rw [← hV]; exact hA.2.2.1
  have HGv : Hid (Gr W V) := by rw [← hV]; exact (((Keeps.refl W _).alloc _).alloc _).alloc _
  have HV := hidM hV
  clear hr1 hr2 g h24 h25a h25b h41 hV hA
  go_enter Tryd.func18, Tryd.ntmps18
  go_wp2_with (go_at_call 24; refine Hid.out ?_)
  unfold Hid
  rw [HV.out]
  refine Calls.mono (H24.out _ (HG.out.trans HGv.out (fun _ _ h => h))) ?_
  rintro e V1 ⟨rfl, hg1⟩
  have H71 : Hid (B7 V1 W.heap.size f0 f1 f2 f3 f4 f5 ao n ca) := (hg1.block _ (lt_of_heap H7.out) id).trans H7.out
  have Ha1 : Hid (B4 V1 (W.heap.size + 1) a0 a1 a2 uo un uc) := (hg1.block _ (lt_of_heap Ha.out) id).trans Ha.out
  have Hb1 : Hid (B4 V1 (W.heap.size + 1 + 1) b0 b1 b2 vo vn vc) := (hg1.block _ (lt_of_heap Hb.out) id).trans Hb.out
  have HG1 := hidM (HGv.out.trans hg1 (fun _ _ h => h))
  clear hg1 H7 Ha Hb HGv HV
  cases mb with
  | false =>
    have HX : Hid (r1 = 0 ∧ r2 = 5) := HR.out
    go_wp2_with fail
    go_ret2
    exact ⟨by rw [HX.out.1, HX.out.2]; rfl, HG1.out⟩
  | true =>
    obtain ⟨p0, p1, p2, p3, p4, p5, p6⟩ := B7.cells H71.out
    obtain ⟨q0, q1, q2, q3⟩ := B4.cells Ha1.out
    go_wp2_with (go_at_call 25; refine Hid.out ?_)
    unfold Hid
    refine Calls.mono (HA.out (by trivial) _ (HG.out.trans HG1.out (fun _ _ h => h))) ?_
    rintro e V2 ⟨rfl, hg2⟩
    have H72 : Hid (B7 V2 W.heap.size f0 f1 f2 f3 f4 f5 ao n ca) := (hg2.block _ (lt_of_heap H71.out) id).trans H71.out
    have Ha2 : Hid (B4 V2 (W.heap.size + 1) a0 a1 a2 uo un uc) := (hg2.block _ (lt_of_heap Ha1.out) id).trans Ha1.out
    have Hb2 : Hid (B4 V2 (W.heap.size + 1 + 1) b0 b1 b2 vo vn vc) := (hg2.block _ (lt_of_heap Hb1.out) id).trans Hb1.out
    have HG2 := hidM (HG1.out.trans hg2 (fun _ _ h => h))
    clear hg2 H71 Ha1 Hb1 HG1 p0 p1 p2 p3 p4 p5 p6 q0 q1 q2 q3
    cases fa with
    | false =>
      have HX : Hid (r1 = 0 ∧ r2 = 7) := HR.out
      go_wp2_with fail
      go_ret2
      exact ⟨by rw [HX.out.1, HX.out.2]; rfl, HG2.out⟩
    | true =>
      obtain ⟨p0, p1, p2, p3, p4, p5, p6⟩ := B7.cells H72.out
      obtain ⟨q0, q1, q2, q3⟩ := B4.cells Hb2.out
      go_wp2_with (go_at_call 25; refine Hid.out ?_)
      unfold Hid
      refine Calls.mono (HB.out (by trivial) _ (HG.out.trans HG2.out (fun _ _ h => h))) ?_
      rintro e V3 ⟨rfl, hg3⟩
      have H73 : Hid (B7 V3 W.heap.size f0 f1 f2 f3 f4 f5 ao n ca) := (hg3.block _ (lt_of_heap H72.out) id).trans H72.out
      have Ha3 : Hid (B4 V3 (W.heap.size + 1) a0 a1 a2 uo un uc) := (hg3.block _ (lt_of_heap Ha2.out) id).trans Ha2.out
      have Hb3 : Hid (B4 V3 (W.heap.size + 1 + 1) b0 b1 b2 vo vn vc) := (hg3.block _ (lt_of_heap Hb2.out) id).trans Hb2.out
      have HG3 := hidM (HG2.out.trans hg3 (fun _ _ h => h))
      clear hg3 H72 Ha2 Hb2 HG2 p0 p1 p2 p3 p4 p5 p6 q0 q1 q2 q3
      cases fb with
      | false =>
        have HX : Hid (r1 = 0 ∧ r2 = 7) := HR.out
        go_wp2_with fail
        go_ret2
        exact ⟨by rw [HX.out.1, HX.out.2]; rfl, HG3.out⟩
      | true =>
        have HX : Hid (r1 = z ∧ r2 = 0) := HR.out
        obtain ⟨p0, p1, p2, p3, p4, p5, p6⟩ := B7.cells H73.out
        obtain ⟨q0, q1, q2, q3⟩ := B4.cells Ha3.out
        obtain ⟨s0, s1, s2, s3⟩ := B4.cells Hb3.out
        go_wp2_with (go_at_call 41; refine Hid.out ?_)
        unfold Hid
        refine Calls.mono (H41.out (by trivial) (by trivial) (by trivial) _ (HG.out.trans HG3.out (fun _ _ h => h))) ?_
        rintro e V4 ⟨rfl, hg4⟩
        have HG4 := hidM (HG3.out.trans hg4 (fun _ _ h => h))
        clear hg4 p0 p1 p2 p3 p4 p5 p6 q0 q1 q2 q3 s0 s1 s2 s3
        go_wp2_with fail
        go_ret2
        exact ⟨by rw [HX.out.1, HX.out.2]; rfl, HG4.out⟩
end Go.Proofs.YtcfdkadhclickaaDoor.Kit
