import Derived.Test.YtcfdkadhclickaaDoorYC
import Derived.Test.YtcfdkadhclickaaDoorWG
import Derived.Test.YtcfdkadhclickaaDoorXJ
namespace Go.Proofs.YtcfdkadhclickaaDoor.Kit
open Go.RowKit Go.Shelf Go.Deep
set_option linter.unusedVariables false
attribute [local go_sem] run_store_func

/-! ### the document's Order 42 of values that fit, all depths -/
theorem ord_step (S : Nat → Prop) (D d : Nat) (w : World) (hS : ∀ b, S b → b < w.heap.size)
    (f : FT) (ao : Option Addr) (ca : Nat) (c : FT → VT → VT → Int) (sh : FT → VT → Prop) (hf : RowAt S w (D + 1) ao f.kids) (hT : tableB f = true)
    (hkid : ∀ (g : FT) (go : Option Addr) (gc : Nat), g ∈ f.kids → g.kids.length ≤ gc → RowAt S w D go g.kids → ∀ (a b : VT) (uo vo : Option Addr) (uc vc : Nat), VOk a → VOk b → VRow S w d uo a.list → VRow S w d vo b.list → sh g a → sh g b → IAns 42 #[.agg #[.string g.name, .bool g.nul, .int .i64 g.kind, .int .i64 g.width, .int .i64 g.id, .int .i64 g.index, .slice go g.kids.length gc], .agg #[.bool a.nul, .int .i64 a.num, .string a.text, .slice uo a.list.length uc], .agg #[.bool b.nul, .int .i64 b.num, .string b.text, .slice vo b.list.length vc]] (c g a b) w)
    (a b : VT) (uo vo : Option Addr) (uc vc : Nat) (hoa : VOk a) (hob : VOk b) (ha : VRow S w d uo a.list) (hb : VRow S w d vo b.list) (sa : a.nul = false → shapeR sh f a) (sb : b.nul = false → shapeR sh f b) :
    IAns 42 #[.agg #[.string f.name, .bool f.nul, .int .i64 f.kind, .int .i64 f.width, .int .i64 f.id, .int .i64 f.index, .slice ao f.kids.length ca], .agg #[.bool a.nul, .int .i64 a.num, .string a.text, .slice uo a.list.length uc], .agg #[.bool b.nul, .int .i64 b.num, .string b.text, .slice vo b.list.length vc]] (cmpN VT.nul (cmpB c f) a b) w := by
  have hfl : f.kids.length ≤ 1000000000000 := hf.len
  have kid : f.kids ≠ [] → ∃ kb ko, ao = some ⟨kb, ko, none⟩ ∧ ∃ go gc, CellsAt w kb ko f.kids.head! go gc ∧ f.kids.head!.kids.length ≤ gc ∧ RowAt S w D go f.kids.head!.kids := by
    intro hne
    obtain ⟨h0, he⟩ := head_get hne
    obtain ⟨kb, ko, rfl, hb, hi⟩ := hf.2 hne
    obtain ⟨go, gc, hc, hle, hrow⟩ := hi 0 h0
    rw [he h0] at hc hle hrow
    simp only [Nat.zero_mul, Nat.add_zero] at hc
    exact ⟨kb, ko, rfl, go, gc, hc, hle, hrow⟩
  have hmem : f.kids ≠ [] → f.kids.head! ∈ f.kids := fun h => by
    cases hk : f.kids with
    | nil => exact absurd hk h
    | cons a b => exact List.mem_cons_self
  have num : ∀ x y : Int, cmpI x y = sgn (decide (x < y)) (decide (y < x)) := fun x y => (sgn_int x y).symm
  have txt : cmpT a.text.data.toList b.text.data.toList = sgn (Op.bytesLess a.text.toList b.text.toList) (!Op.bytesLess a.text.toList b.text.toList && !(a.text.toList == b.text.toList)) := by
    rw [← Bool.not_or, sgn_text, ByteArray.toList_eq, ByteArray.toList_eq]
  unfold cmpN
  by_cases hn : a.nul = true ∨ b.nul = true
  · rw [if_pos hn]
    exact ord_null _ _ _ _ _ _ _ _ _ _ _ _ _ _ _ _ _ _ _ w _ _ _ (by rcases hn with h | h <;> simp [h]) (by
      rcases hn with h | h
      · rw [h]; cases b.nul <;> rfl
      · rw [h]; cases a.nul <;> rfl)
  · rw [if_neg hn]
    have na : a.nul = false := by cases h : a.nul with | false => rfl | true => exact absurd (.inl h) hn
    have nb : b.nul = false := by cases h : b.nul with | false => rfl | true => exact absurd (.inr h) hn
    have sa := sa na
    have sb := sb nb
    have hk := tab_kind hT
    rw [na, nb]
    unfold cmpB
    unfold shapeR at sa sb
    by_cases k12 : f.kind = 12
    · rw [if_pos (.inl k12), k12]
      exact ord12 _ _ _ _ _ _ _ _ _ _ _ _ _ _ _ _ _ _ w _ txt
    by_cases k13 : f.kind = 13
    · rw [if_pos (.inr (.inl k13)), k13]
      exact ord13 _ _ _ _ _ _ _ _ _ _ _ _ _ _ _ _ _ _ w _ txt
    by_cases k14 : f.kind = 14
    · rw [if_pos (.inr (.inr k14)), k14]
      exact ord14 _ _ _ _ _ _ _ _ _ _ _ _ _ _ _ _ _ _ w _ txt
    rw [if_neg (by omega)]
    by_cases k15 : f.kind = 15 ∨ f.kind = 16
    · rw [if_pos k15] at sa sb ⊢
      have hne := tab_kid hT (by omega)
      obtain ⟨kb, ko, rfl, go, gc, hc, hle, hrow⟩ := kid hne
      have h0 : 0 < f.kids.length := (head_get hne).1
      have hz : f.kids[0]'h0 = f.kids.head! := (head_get hne).2 h0
      have ha' := ha.more (e := d + 1) (by omega)
      have hb' := hb.more (e := d + 1) (by omega)
      have hF := fun (h17 : (f.kind == 17) = false) => items63 S D d w f.kind h17 f.width f.id f.index (some ⟨kb, ko, none⟩) uo vo ca uc vc f.kids a.list b.list c hf ha' hb' hS h0 (fun _ u v hu hv go gc hle hrow uo vo uc vc h1 h2 r1 r2 => by
        rw [hz] at hle hrow ⊢
        exact hkid _ _ _ (hmem hne) hle hrow u v uo vo uc vc h1 h2 r1 r2 (sa u hu) (sb v hv))
      rcases k15 with k | k
      · rw [k] at hF ⊢
        exact ord15 _ _ _ _ _ _ _ _ _ _ _ _ _ _ _ _ _ _ w _ (hF rfl)
      · rw [k] at hF ⊢
        exact ord16 _ _ _ _ _ _ _ _ _ _ _ _ _ _ _ _ _ _ w _ (hF rfl)
    rw [if_neg k15] at sa sb ⊢
    by_cases k17 : f.kind = 17
    · rw [if_pos k17] at sa sb ⊢
      rw [k17]
      obtain ⟨la, pa⟩ := parts_get sa
      obtain ⟨lb, pb⟩ := parts_get sb
      refine ord17 _ _ _ _ _ _ _ _ _ _ _ _ _ _ _ _ _ _ w _ ?_
      exact parts63 S D d w f.width f.id f.index ao uo vo ca uc vc f.kids a.list b.list c hf (ha.more (by omega)) (hb.more (by omega)) hS la lb (fun k hk ha hb go gc hle hrow uo vo uc vc h1 h2 r1 r2 => hkid _ _ _ (List.getElem_mem hk) hle hrow _ _ uo vo uc vc h1 h2 r1 r2 (pa k hk ha) (pb k hk hb))
    rw [if_neg k17] at sa sb ⊢
    by_cases k18 : f.kind = 18
    · rw [if_pos k18] at sa sb ⊢
      rw [k18]
      obtain ⟨a0, a1, x, hx, sx⟩ := sa
      obtain ⟨b0, b1, y, hy, sy⟩ := sb
      unfold cmpC
      by_cases he : a.num = b.num
      · rw [if_pos he]
        obtain ⟨j, hj⟩ : ∃ j : Nat, (j : Int) = a.num := ⟨a.num.toNat, by omega⟩
        have hjl : j < f.kids.length := by omega
        have hfne : f.kids ≠ [] := fun h => by rw [h] at hjl; simp at hjl
        obtain ⟨kb, ko, rfl, hkb, hi⟩ := hf.2 hfne
        obtain ⟨go, gc, hc, hle, hrow⟩ := hi j hjl
        have ha' := ha.more (e := d + 1) (by omega)
        have hb' := hb.more (e := d + 1) (by omega)
        obtain ⟨xb, xo, rfl, hxb, hxi⟩ := ha'.2 (by rw [hx]; simp)
        obtain ⟨yb, yo, rfl, hyb, hyi⟩ := hb'.2 (by rw [hy]; simp)
        obtain ⟨xp, xc, hxc, hxl, hxok, hxrow⟩ := hxi 0 (by rw [hx]; simp)
        obtain ⟨yp, yc, hyc, hyl, hyok, hyrow⟩ := hyi 0 (by rw [hy]; simp)
        have hx0 : a.list[0]'(by rw [hx]; simp) = x := by simp [hx]
        have hy0 : b.list[0]'(by rw [hy]; simp) = y := by simp [hy]
        rw [hx0] at hxc hxl hxok hxrow
        rw [hy0] at hyc hyl hyok hyrow
        simp only [Nat.zero_mul, Nat.add_zero] at hxc hyc
        have hgd : f.kids.getD a.num.toNat default = f.kids[j] := by
          rw [show a.num.toNat = j by omega, List.getD_eq_getElem?_getD, List.getElem?_eq_getElem hjl]
          rfl
        have hgd' : f.kids.getD b.num.toNat default = f.kids[j] := by rw [← he]; exact hgd
        show IAns 42 _ (c (f.kids.getD a.num.toNat default) a.list.head! b.list.head!) w
        rw [hgd] at sx ⊢
        rw [hgd'] at sy
        have e1 : a.list.head! = x := by rw [hx]; rfl
        have e2 : b.list.head! = y := by rw [hy]; rfl
        have l1 : a.list.length = 1 := by rw [hx]; rfl
        have l2 : b.list.length = 1 := by rw [hy]; rfl
        rw [e1, e2, l1, l2, ← he, ← hj]
        exact ord18 _ _ _ _ _ _ _ 0 0 _ _ none none 0 _ 0 _ w _ kb ko _ _ _ _ _ _ _ _ _ j xb xo yb yo _ _ _ _ _ _ _ _ _ _ _ _ hjl hfl hc.c0 hc.c1 hc.c2 hc.c3 hc.c4 hc.c5 hc.c6 hxc.c0 hxc.c1 hxc.c2 hxc.c3 hyc.c0 hyc.c1 hyc.c2 hyc.c3 (hkid _ _ _ (List.getElem_mem hjl) hle hrow x y xp yp xc yc hxok hyok hxrow hyrow sx sy)
      · rw [if_neg he]
        exact ord18_ne _ _ _ _ _ _ _ _ _ _ _ _ _ _ _ _ _ _ w _ (by simp [he]) (num _ _)
    rw [if_neg k18] at sa sb ⊢
    by_cases k19 : f.kind = 19 ∨ f.kind = 20
    · rw [if_pos k19] at sa sb ⊢
      have hne := tab_kid hT (by omega)
      obtain ⟨kb, ko, rfl, go, gc, hc, hle, hrow⟩ := kid hne
      have hF := hkid _ _ _ (hmem hne) hle hrow a b uo vo uc vc hoa hob ha hb sa sb
      rw [na, nb] at hF
      rcases k19 with k | k
      · rw [k]
        exact ord19 _ _ _ _ _ _ _ _ _ _ _ _ _ _ _ _ _ w _ _ _ _ _ _ _ _ _ _ _ _ (head_get hne).1 hc.c0 hc.c1 hc.c2 hc.c3 hc.c4 hc.c5 hc.c6 hF
      · rw [k]
        exact ord20 _ _ _ _ _ _ _ _ _ _ _ _ _ _ _ _ _ w _ _ _ _ _ _ _ _ _ _ _ _ (head_get hne).1 hc.c0 hc.c1 hc.c2 hc.c3 hc.c4 hc.c5 hc.c6 hF
    rw [if_neg k19]
    by_cases k10 : f.kind = 10
    · rw [if_pos k10, k10]
      exact ord10 _ _ _ _ _ _ _ _ _ _ _ _ _ _ _ _ _ _ w _ (by rw [u64_wrap hoa.1, u64_wrap hob.1]; exact num _ _)
    rw [if_neg k10]
    by_cases k11 : f.kind = 11
    · rw [if_pos k11, k11]
      exact ord11 _ _ _ _ _ _ _ _ _ _ _ _ _ _ _ _ _ _ w _ hoa.1 hob.1 (by rw [← rank_place]; exact num _ _)
    rw [if_neg k11]
    exact ord_num _ _ _ _ _ _ _ _ _ _ _ _ _ _ _ _ _ _ _ w _ (by omega) (num _ _)
/-- all depths -/
theorem ord_any (S : Nat → Prop) (d : Nat) (w : World) (hS : ∀ b, S b → b < w.heap.size) :
    ∀ (D : Nat) (f : FT) (ao : Option Addr) (ca : Nat), RowAt S w D ao f.kids → okF (D + 1) f → ∀ (a b : VT) (uo vo : Option Addr) (uc vc : Nat), VOk a → VOk b → VRow S w d uo a.list → VRow S w d vo b.list → Fit (D + 1) f a → Fit (D + 1) f b →
      IAns 42 #[.agg #[.string f.name, .bool f.nul, .int .i64 f.kind, .int .i64 f.width, .int .i64 f.id, .int .i64 f.index, .slice ao f.kids.length ca], .agg #[.bool a.nul, .int .i64 a.num, .string a.text, .slice uo a.list.length uc], .agg #[.bool b.nul, .int .i64 b.num, .string b.text, .slice vo b.list.length vc]] (cmpV (D + 1) f a b) w
  | 0, f, ao, ca, hf, ho, a, b, uo, vo, uc, vc, hoa, hob, ha, hb, fa, fb => by
    have hk : f.kids = [] := hf
    exact ord_step S 0 d w hS f ao ca (cmpV 0) (Fit 0) (hf.more (by omega)) ho.1 (fun g go gc hg => by rw [hk] at hg; cases hg) a b uo vo uc vc hoa hob ha hb (fit_shape fa) (fit_shape fb)
  | D + 1, f, ao, ca, hf, ho, a, b, uo, vo, uc, vc, hoa, hob, ha, hb, fa, fb =>
    ord_step S D d w hS f ao ca (cmpV (D + 1)) (Fit (D + 1)) hf ho.1 (fun g go gc hg hle hrow a b uo vo uc vc h1 h2 r1 r2 f1 f2 => ord_any S d w hS D g go gc hrow (ho.2 g hg) a b uo vo uc vc h1 h2 r1 r2 f1 f2) a b uo vo uc vc hoa hob ha hb (fit_shape fa) (fit_shape fb)

/-! ### its Compare 19 -/
def CmpD (w : World) (a b c : Value) (r : Int × Int) : Prop := ∀ W, Gr w W → Calls Tryd.prog 19 #[a, b, c] W fun e w' => e = .returned (.tuple #[.int .i64 r.1, .int .i64 r.2]) ∧ Gr W w'
set_option maxRecDepth 100000 in
set_option maxHeartbeats 2000000 in
theorem compare19_walk (f0 : ByteArray) (f1 : Bool) (f2 f3 f4 f5 : Int) (ao : Option Addr) (n ca : Nat) (a0 b0 : Bool) (a1 b1 : Int) (a2 b2 : ByteArray) (uo vo : Option Addr) (un uc vn vc : Nat) (w : World) (mb fa fb : Bool) (z : Int)
    (h7a : ∀ W, Gr w W → Calls Tryd.prog 7 #[.agg #[.string f0, .bool f1, .int .i64 f2, .int .i64 f3, .int .i64 f4, .int .i64 f5, .slice ao n ca], .agg #[.bool a0, .int .i64 a1, .string a2, .slice uo un uc]] W fun e w' => e = .returned (.int .i64 (fitE mb fa)) ∧ Gr W w')
    (h7b : ∀ W, Gr w W → Calls Tryd.prog 7 #[.agg #[.string f0, .bool f1, .int .i64 f2, .int .i64 f3, .int .i64 f4, .int .i64 f5, .slice ao n ca], .agg #[.bool b0, .int .i64 b1, .string b2, .slice vo vn vc]] W fun e w' => e = .returned (.int .i64 (fitE mb fb)) ∧ Gr W w')
    (h42 : mb = true → fa = true → fb = true → IAns 42 #[.agg #[.string f0, .bool f1, .int .i64 f2, .int .i64 f3, .int .i64 f4, .int .i64 f5, .slice ao n ca], .agg #[.bool a0, .int .i64 a1, .string a2, .slice uo un uc], .agg #[.bool b0, .int .i64 b1, .string b2, .slice vo vn vc]] z w) :
    CmpD w (.agg #[.string f0, .bool f1, .int .i64 f2, .int .i64 f3, .int .i64 f4, .int .i64 f5, .slice ao n ca]) (.agg #[.bool a0, .int .i64 a1, .string a2, .slice uo un uc]) (.agg #[.bool b0, .int .i64 b1, .string b2, .slice vo vn vc]) (cmpR mb fa fb z) := by
  intro W g
  obtain ⟨r1, hr1⟩ : ∃ r1, r1 = (cmpR mb fa fb z).1 := ⟨_, rfl⟩
  obtain ⟨r2, hr2⟩ : ∃ r2, r2 = (cmpR mb fa fb z).2 := ⟨_, rfl⟩
  rw [← hr1, ← hr2]
  have HR := hidM (And.intro hr1 hr2)
  have HG := hidM g
  have HA := hidM h7a
  have HB := hidM h7b
  have H42 := hidM h42
  obtain ⟨V, hV⟩ : ∃ V, ((W.alloc (.cells #[.string f0, .bool f1, .int .i64 f2, .int .i64 f3, .int .i64 f4, .int .i64 f5, .slice ao n ca] 26)).alloc (.cells #[.bool a0, .int .i64 a1, .string a2, .slice uo un uc] 29)).alloc (.cells #[.bool b0, .int .i64 b1, .string b2, .slice vo vn vc] 29) = V := ⟨_, rfl⟩
  have hA := alloc3 W (.cells #[.string f0, .bool f1, .int .i64 f2, .int .i64 f3, .int .i64 f4, .int .i64 f5, .slice ao n ca] 26) (.cells #[.bool a0, .int .i64 a1, .string a2, .slice uo un uc] 29) (.cells #[.bool b0, .int .i64 b1, .string b2, .slice vo vn vc] 29)
  have H7 : Hid (B7 V W.heap.size f0 f1 f2 f3 f4 f5 ao n ca) := by rw [← hV]; exact hA.1
  have Ha : Hid (B4 V (W.heap.size + 1) a0 a1 a2 uo un uc) := by rw [← hV]; exact hA.2.1
  have Hb : Hid (B4 V (W.heap.size + 1 + 1) b0 b1 b2 vo vn vc) := by rw [← hV]; exact hA.2.2.1
  have HGv : Hid (Gr W V) := by rw [← hV]; exact (((Keeps.refl W _).alloc _).alloc _).alloc _
  have HV := hidM hV
  clear hr1 hr2 g h7a h7b h42 hV hA
  go_enter Tryd.func19, Tryd.ntmps19
  go_wp2_with (go_at_call 7; refine Hid.out ?_)
  unfold Hid
  rw [HV.out]
  refine Calls.mono (HA.out _ (HG.out.trans HGv.out (fun _ _ h => h))) ?_
  rintro e V1 ⟨rfl, hg1⟩
  have H71 : Hid (B7 V1 W.heap.size f0 f1 f2 f3 f4 f5 ao n ca) := (hg1.block _ (lt_of_heap H7.out) id).trans H7.out
  have Ha1 : Hid (B4 V1 (W.heap.size + 1) a0 a1 a2 uo un uc) := (hg1.block _ (lt_of_heap Ha.out) id).trans Ha.out
  have Hb1 : Hid (B4 V1 (W.heap.size + 1 + 1) b0 b1 b2 vo vn vc) := (hg1.block _ (lt_of_heap Hb.out) id).trans Hb.out
  have HG1 := hidM (HGv.out.trans hg1 (fun _ _ h => h))
  clear hg1 H7 Ha Hb HGv HV
  cases mb with
  | false =>
    have HX : Hid (r1 = 0 ∧ r2 = 5) := HR.out
    rw [show fitE false fa = 5 from rfl]
    go_wp2_with fail
    go_ret2
    exact ⟨by rw [HX.out.1, HX.out.2]; rfl, HG1.out⟩
  | true =>
    cases fa with
    | false =>
      have HX : Hid (r1 = 0 ∧ r2 = 7) := HR.out
      rw [show fitE true false = 7 from rfl]
      go_wp2_with fail
      go_ret2
      exact ⟨by rw [HX.out.1, HX.out.2]; rfl, HG1.out⟩
    | true =>
      rw [show fitE true true = 0 from rfl]
      obtain ⟨p0, p1, p2, p3, p4, p5, p6⟩ := B7.cells H71.out
      obtain ⟨q0, q1, q2, q3⟩ := B4.cells Hb1.out
      go_wp2_with (go_at_call 7; refine Hid.out ?_)
      unfold Hid
      refine Calls.mono (HB.out _ (HG.out.trans HG1.out (fun _ _ h => h))) ?_
      rintro e V3 ⟨rfl, hg3⟩
      have H73 : Hid (B7 V3 W.heap.size f0 f1 f2 f3 f4 f5 ao n ca) := (hg3.block _ (lt_of_heap H71.out) id).trans H71.out
      have Ha3 : Hid (B4 V3 (W.heap.size + 1) a0 a1 a2 uo un uc) := (hg3.block _ (lt_of_heap Ha1.out) id).trans Ha1.out
      have Hb3 : Hid (B4 V3 (W.heap.size + 1 + 1) b0 b1 b2 vo vn vc) := (hg3.block _ (lt_of_heap Hb1.out) id).trans Hb1.out
      have HG3 := hidM (HG1.out.trans hg3 (fun _ _ h => h))
      clear hg3 H71 Ha1 Hb1 HG1 p0 p1 p2 p3 p4 p5 p6 q0 q1 q2 q3
      cases fb with
      | false =>
        have HX : Hid (r1 = 0 ∧ r2 = 7) := HR.out
        rw [show fitE true false = 7 from rfl]
        go_wp2_with fail
        go_ret2
        exact ⟨by rw [HX.out.1, HX.out.2]; rfl, HG3.out⟩
      | true =>
        have HX : Hid (r1 = z ∧ r2 = 0) := HR.out
        rw [show fitE true true = 0 from rfl]
        obtain ⟨p0, p1, p2, p3, p4, p5, p6⟩ := B7.cells H73.out
        obtain ⟨q0, q1, q2, q3⟩ := B4.cells Ha3.out
        obtain ⟨s0, s1, s2, s3⟩ := B4.cells Hb3.out
        go_wp2_with (go_at_call 42; refine Hid.out ?_)
        unfold Hid
        refine Calls.mono (H42.out (by trivial) (by trivial) (by trivial) _ (HG.out.trans HG3.out (fun _ _ h => h))) ?_
        rintro e V4 ⟨rfl, hg4⟩
        have HG4 := hidM (HG3.out.trans hg4 (fun _ _ h => h))
        clear hg4 p0 p1 p2 p3 p4 p5 p6 q0 q1 q2 q3 s0 s1 s2 s3
        go_wp2_with fail
        go_ret2
        exact ⟨by rw [HX.out.1, HX.out.2]; rfl, HG4.out⟩
/-! ### heavy 8 -/
set_option maxRecDepth 100000 in
theorem heavy8 (v0 : Bool) (v1 : Int) (v2 : ByteArray) (vo : Option Addr) (m vc : Nat) (w : World) (z : Int) (h28 : IAns 28 #[.agg #[.bool v0, .int .i64 v1, .string v2, .slice vo m vc], .int .i64 2147483647] z w) :
    Ans 8 #[.agg #[.bool v0, .int .i64 v1, .string v2, .slice vo m vc]] (decide (2147483647 < z)) w := by
  intro W g
  have HC := hidM h28
  have HGw := hidM g
  have HG : Hid (∀ o, Gr W (W.alloc o)) := fun o => gr_alloc W o
  clear g h28
  go_enter Tryd.func8, Tryd.ntmps8
  go_wp2_with (go_at_call 28; refine Hid.out ?_)
  unfold Hid
  refine Calls.mono (HC.out _ (HGw.out.trans (HG.out _) (fun _ _ h => h))) ?_
  rintro e w2 ⟨rfl, hg2⟩
  have HE := hidM ((HG.out _).trans hg2 (fun _ _ h => h))
  clear hg2
  go_wp2_with fail
  go_ret
  exact ⟨rfl, HE.out⟩
end Go.Proofs.YtcfdkadhclickaaDoor.Kit
