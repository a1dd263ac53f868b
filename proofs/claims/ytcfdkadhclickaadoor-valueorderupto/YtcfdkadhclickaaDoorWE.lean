import Derived.Test.YtcfdkadhclickaaDoorWB
import Derived.Deep.RegionHeld3
namespace Go.Proofs.YtcfdkadhclickaaDoor.Kit
open Go.RowKit Go.Shelf Go.Deep
set_option linter.unusedVariables false
attribute [local go_sem] run_store_func

theorem gr_c {w w' : World} (g : Gr w w') {b o : Nat} {v : Value} (h : w.cell? ⟨b, o, none⟩ = some v) : w'.cell? ⟨b, o, none⟩ = some v := g.cell' h id
theorem alloc4 (W : World) (a b c d : Obj) : ((((W.alloc a).alloc b).alloc c).alloc d).heap[W.heap.size]? = some a ∧ ((((W.alloc a).alloc b).alloc c).alloc d).heap[W.heap.size + 1]? = some b ∧ ((((W.alloc a).alloc b).alloc c).alloc d).heap[W.heap.size + 1 + 1]? = some c ∧ ((((W.alloc a).alloc b).alloc c).alloc d).heap[W.heap.size + 1 + 1 + 1]? = some d ∧ Gr W ((((W.alloc a).alloc b).alloc c).alloc d) := by
  obtain ⟨h1, h2, h3, h4⟩ := alloc3 W a b c
  have s3 : (((W.alloc a).alloc b).alloc c).heap.size = W.heap.size + 1 + 1 + 1 := by simp
  refine ⟨?_, ?_, ?_, ?_, ((((Keeps.refl W _).alloc a).alloc b).alloc c).alloc d⟩
  · exact (Below.heap_alloc (((W.alloc a).alloc b).alloc c) d _ (by omega)).trans h1
  · exact (Below.heap_alloc (((W.alloc a).alloc b).alloc c) d _ (by omega)).trans h2
  · exact (Below.heap_alloc (((W.alloc a).alloc b).alloc c) d _ (by omega)).trans h3
  · have := heap_alloc_new (((W.alloc a).alloc b).alloc c) d
    rw [s3] at this
    exact this

/-! ### compareParts 57 -/
theorem cmpP_drop {c : FT → VT → VT → Int} {fs : List FT} {a b : List VT} {k : Nat} (hf : k < fs.length) (ha : k < a.length) (hb : k < b.length) : cmpP ((fs.drop k).map c) (a.drop k) (b.drop k) = if c fs[k] a[k] b[k] ≠ 0 then c fs[k] a[k] b[k] else cmpP ((fs.drop (k + 1)).map c) (a.drop (k + 1)) (b.drop (k + 1)) := by
  rw [List.drop_eq_getElem_cons ha, List.drop_eq_getElem_cons hb, List.drop_eq_getElem_cons hf, List.map_cons, cmpP]
set_option maxRecDepth 100000 in
set_option maxHeartbeats 2000000 in
theorem parts57 (S : Nat → Prop) (D d : Nat) (w : World) (fo ao bo : Option Addr) (fc ca cb : Nat) (fs : List FT) (a b : List VT) (c : FT → VT → VT → Int) (hf : RowAt S w (D + 1) fo fs) (ha : VRow S w (d + 1) ao a) (hb : VRow S w (d + 1) bo b) (hS : ∀ b, S b → b < w.heap.size) (hla : a.length = fs.length) (hlb : b.length = fs.length)
    (h41 : ∀ (k : Nat) (hk : k < fs.length) (ha : k < a.length) (hb : k < b.length) (go : Option Addr) (gc : Nat), fs[k].kids.length ≤ gc → RowAt S w D go fs[k].kids → ∀ (uo vo : Option Addr) (uc vc : Nat), VOk a[k] → VOk b[k] → VRow S w d uo a[k].list → VRow S w d vo b[k].list → IAns 41 #[.agg #[.string fs[k].name, .bool fs[k].nul, .int .i64 fs[k].kind, .int .i64 fs[k].width, .int .i64 fs[k].id, .int .i64 fs[k].index, .slice go fs[k].kids.length gc], .agg #[.bool a[k].nul, .int .i64 a[k].num, .string a[k].text, .slice uo a[k].list.length uc], .agg #[.bool b[k].nul, .int .i64 b[k].num, .string b[k].text, .slice vo b[k].list.length vc]] (c fs[k] a[k] b[k]) w) :
    IAns 57 #[.slice fo fs.length fc, .slice ao a.length ca, .slice bo b.length cb] (cmpP (fs.map c) a b) w := by
  intro W g0
  have hlf : fs.length ≤ 1000000000000 := hf.len
  have HF := hidM hf
  have HA := hidM ha
  have HB := hidM hb
  have HS := hidM hS
  have H41 := hidM h41
  have HG0 := hidM g0
  obtain ⟨R, hR⟩ : ∃ R, R = cmpP (fs.map c) a b := ⟨_, rfl⟩
  rw [← hR]
  have HR := hidM hR
  rw [hla, hlb]
  obtain ⟨L, hL⟩ : ∃ L, L = fs.length := ⟨_, rfl⟩
  have HL := hidM (And.intro hL (And.intro hla hlb))
  rw [← hL] at hlf ⊢
  clear hf ha hb hS h41 hR hL g0 hla hlb
  go_enter Tryd.func57, Tryd.ntmps57
  go_wp2
  go_loopw [12] (fun p wr => ∃ k : Nat, k ≤ L ∧ p = .int .i64 (k : Int) ∧ Hid (Gr W wr ∧ R = cmpP ((fs.drop k).map c) (a.drop k) (b.drop k))) (fun p _ => L - (intOf p).toNat)
  case atStart => exact ⟨0, by omega, rfl, Keeps.refl _ _, HR.out⟩
  case round =>
    obtain ⟨k, hk, rfl, HK⟩ := hrel
    by_cases hlt : k < L
    · have hkf : k < fs.length := by have := HL.out; omega
      have hka : k < a.length := by have := HL.out; omega
      have hkb : k < b.length := by have := HL.out; omega
      obtain ⟨fb, fp, rfl, hfb, hfs⟩ := HF.out.2 (fun e => by subst e; simp at hkf)
      obtain ⟨go, gc, hg, hgle, hgrow⟩ := hfs k hkf
      obtain ⟨ab, ap, rfl, hab, has⟩ := HA.out.2 (fun e => by subst e; simp at hka)
      obtain ⟨uo, uc, hu, hule, huok, hurow⟩ := has k hka
      obtain ⟨bb, bp, rfl, hbb, hbs⟩ := HB.out.2 (fun e => by subst e; simp at hkb)
      obtain ⟨vo, vc, hv, hvle, hvok, hvrow⟩ := hbs k hkb
      have hcall := H41.out k hkf hka hkb go gc hgle hgrow uo vo uc vc huok hvok hurow hvrow
      have hx' := HK.out.2
      rw [cmpP_drop hkf hka hkb] at hx'
      obtain ⟨g, hge⟩ : ∃ g, g = fs[k]'hkf := ⟨_, rfl⟩
      obtain ⟨u, hue⟩ : ∃ u, u = a[k]'hka := ⟨_, rfl⟩
      obtain ⟨v, hve⟩ : ∃ v, v = b[k]'hkb := ⟨_, rfl⟩
      rw [← hge, ← hue, ← hve] at hcall hx'
      rw [← hge] at hg
      rw [← hue] at hu
      rw [← hve] at hv
      have gw : Gr w wr := HG0.out.trans HK.out.1 (fun _ _ h => h)
      have hgw := hg.kept (gw.block fb (HS.out fb hfb) id)
      have huw := hu.kept (gw.block ab (HS.out ab hab) id)
      have hvw := hv.kept (gw.block bb (HS.out bb hbb) id)
      obtain ⟨V, hV⟩ : ∃ V, wr.alloc (.cells #[.string g.name, .bool g.nul, .int .i64 g.kind, .int .i64 g.width, .int .i64 g.id, .int .i64 g.index, .slice go g.kids.length gc] 26) = V := ⟨_, rfl⟩
      have gv : Gr wr V := by rw [← hV]; exact gr_alloc wr _
      have b7 : B7 V wr.heap.size g.name g.nul g.kind g.width g.id g.index go g.kids.length gc := by unfold B7; rw [← hV]; exact heap_alloc_new wr _
      obtain ⟨e0, e1, e2, e3, e4, e5, e6⟩ := b7.cells
      obtain ⟨c0, c1, c2, c3, c4, c5, c6⟩ := hgw
      have HC : Hid (V.drew.cell? ⟨wr.heap.size, 0, none⟩ = some (.string g.name) ∧ V.drew.cell? ⟨wr.heap.size, 1, none⟩ = some (.bool g.nul) ∧ V.drew.cell? ⟨wr.heap.size, 2, none⟩ = some (.int .i64 g.kind) ∧ V.drew.cell? ⟨wr.heap.size, 3, none⟩ = some (.int .i64 g.width) ∧ V.drew.cell? ⟨wr.heap.size, 4, none⟩ = some (.int .i64 g.id) ∧ V.drew.cell? ⟨wr.heap.size, 5, none⟩ = some (.int .i64 g.index) ∧ V.drew.cell? ⟨wr.heap.size, 6, none⟩ = some (.slice go g.kids.length gc) ∧ V.drew.cell? ⟨ab, ap + k * 4, none⟩ = some (.bool u.nul) ∧ V.drew.cell? ⟨ab, ap + k * 4 + 1, none⟩ = some (.int .i64 u.num) ∧ V.drew.cell? ⟨ab, ap + k * 4 + 2, none⟩ = some (.string u.text) ∧ V.drew.cell? ⟨ab, ap + k * 4 + 3, none⟩ = some (.slice uo u.list.length uc) ∧ V.drew.cell? ⟨bb, bp + k * 4, none⟩ = some (.bool v.nul) ∧ V.drew.cell? ⟨bb, bp + k * 4 + 1, none⟩ = some (.int .i64 v.num) ∧ V.drew.cell? ⟨bb, bp + k * 4 + 2, none⟩ = some (.string v.text) ∧ V.drew.cell? ⟨bb, bp + k * 4 + 3, none⟩ = some (.slice vo v.list.length vc)) := ⟨e0, e1, e2, e3, e4, e5, e6, gr_c gv huw.c0, gr_c gv huw.c1, gr_c gv huw.c2, gr_c gv huw.c3, gr_c gv hvw.c0, gr_c gv hvw.c1, gr_c gv hvw.c2, gr_c gv hvw.c3⟩
      have H2 := hidM hcall
      have HG := hidM (HK.out.1.trans gv (fun _ _ h => h))
      have HGd : Hid (Gr w V.drew) := (HG0.out.trans HG.out (fun _ _ h => h)).drew
      have hltI : (k : Int) < (L : Int) := by omega
      obtain ⟨z, hz⟩ : ∃ z, z = c g u v := ⟨_, rfl⟩
      rw [← hz] at H2 hx'
      clear hfs hg hgle hgrow has hu hule huok hurow hbs hv hvle hvok hvrow hcall hge hue hve gw huw hvw gv b7 e0 e1 e2 e3 e4 e5 e6 HK hz
      go_wp2
      clear hV c0 c1 c2 c3 c4 c5 c6
      by_cases hz0 : z = 0
      · have HX : Hid (R = cmpP ((fs.drop (k + 1)).map c) (a.drop (k + 1)) (b.drop (k + 1))) := by rw [if_neg (by omega)] at hx'; exact hx'
        subst hz0
        clear hx'
        go_region_held3 (fun w' => w'.cell? ⟨wr.heap.size, 0, none⟩ = some (.string g.name) ∧ w'.cell? ⟨wr.heap.size, 1, none⟩ = some (.bool g.nul) ∧ w'.cell? ⟨wr.heap.size, 2, none⟩ = some (.int .i64 g.kind) ∧ w'.cell? ⟨wr.heap.size, 3, none⟩ = some (.int .i64 g.width) ∧ w'.cell? ⟨wr.heap.size, 4, none⟩ = some (.int .i64 g.id) ∧ w'.cell? ⟨wr.heap.size, 5, none⟩ = some (.int .i64 g.index) ∧ w'.cell? ⟨wr.heap.size, 6, none⟩ = some (.slice go g.kids.length gc) ∧ w'.cell? ⟨ab, ap + k * 4, none⟩ = some (.bool u.nul) ∧ w'.cell? ⟨ab, ap + k * 4 + 1, none⟩ = some (.int .i64 u.num) ∧ w'.cell? ⟨ab, ap + k * 4 + 2, none⟩ = some (.string u.text) ∧ w'.cell? ⟨ab, ap + k * 4 + 3, none⟩ = some (.slice uo u.list.length uc) ∧ w'.cell? ⟨bb, bp + k * 4, none⟩ = some (.bool v.nul) ∧ w'.cell? ⟨bb, bp + k * 4 + 1, none⟩ = some (.int .i64 v.num) ∧ w'.cell? ⟨bb, bp + k * 4 + 2, none⟩ = some (.string v.text) ∧ w'.cell? ⟨bb, bp + k * 4 + 3, none⟩ = some (.slice vo v.list.length vc)) (first | with_reducible exact HC.out | with_reducible exact ⟨gr_c HE.out (HC.out.1), gr_c HE.out (HC.out.2.1), gr_c HE.out (HC.out.2.2.1), gr_c HE.out (HC.out.2.2.2.1), gr_c HE.out (HC.out.2.2.2.2.1), gr_c HE.out (HC.out.2.2.2.2.2.1), gr_c HE.out (HC.out.2.2.2.2.2.2.1), gr_c HE.out (HC.out.2.2.2.2.2.2.2.1), gr_c HE.out (HC.out.2.2.2.2.2.2.2.2.1), gr_c HE.out (HC.out.2.2.2.2.2.2.2.2.2.1), gr_c HE.out (HC.out.2.2.2.2.2.2.2.2.2.2.1), gr_c HE.out (HC.out.2.2.2.2.2.2.2.2.2.2.2.1), gr_c HE.out (HC.out.2.2.2.2.2.2.2.2.2.2.2.2.1), gr_c HE.out (HC.out.2.2.2.2.2.2.2.2.2.2.2.2.2.1), gr_c HE.out (HC.out.2.2.2.2.2.2.2.2.2.2.2.2.2.2)⟩) ((go_at_call 41; refine Calls.mono (H2.out _ HGd.out) ?_; rintro e w2 ⟨rfl, hg2⟩; have HE := hidM hg2; clear hg2))
        all_goals
          go_wp2_with fail
          go_roundw
          case rel => exact ⟨k + 1, by omega, by simp, HG.out.drew.trans HE.out (fun _ _ h => h), HX.out⟩
          case measure => simp [intOf]; omega
      · have HX : Hid (R = z) := by rw [if_pos hz0] at hx'; exact hx'
        have hzb : (z == 0) = false := by simp [hz0]
        clear hx' hz0
        go_region_held3 (fun w' => w'.cell? ⟨wr.heap.size, 0, none⟩ = some (.string g.name) ∧ w'.cell? ⟨wr.heap.size, 1, none⟩ = some (.bool g.nul) ∧ w'.cell? ⟨wr.heap.size, 2, none⟩ = some (.int .i64 g.kind) ∧ w'.cell? ⟨wr.heap.size, 3, none⟩ = some (.int .i64 g.width) ∧ w'.cell? ⟨wr.heap.size, 4, none⟩ = some (.int .i64 g.id) ∧ w'.cell? ⟨wr.heap.size, 5, none⟩ = some (.int .i64 g.index) ∧ w'.cell? ⟨wr.heap.size, 6, none⟩ = some (.slice go g.kids.length gc) ∧ w'.cell? ⟨ab, ap + k * 4, none⟩ = some (.bool u.nul) ∧ w'.cell? ⟨ab, ap + k * 4 + 1, none⟩ = some (.int .i64 u.num) ∧ w'.cell? ⟨ab, ap + k * 4 + 2, none⟩ = some (.string u.text) ∧ w'.cell? ⟨ab, ap + k * 4 + 3, none⟩ = some (.slice uo u.list.length uc) ∧ w'.cell? ⟨bb, bp + k * 4, none⟩ = some (.bool v.nul) ∧ w'.cell? ⟨bb, bp + k * 4 + 1, none⟩ = some (.int .i64 v.num) ∧ w'.cell? ⟨bb, bp + k * 4 + 2, none⟩ = some (.string v.text) ∧ w'.cell? ⟨bb, bp + k * 4 + 3, none⟩ = some (.slice vo v.list.length vc)) (first | with_reducible exact HC.out | with_reducible exact ⟨gr_c HE.out (HC.out.1), gr_c HE.out (HC.out.2.1), gr_c HE.out (HC.out.2.2.1), gr_c HE.out (HC.out.2.2.2.1), gr_c HE.out (HC.out.2.2.2.2.1), gr_c HE.out (HC.out.2.2.2.2.2.1), gr_c HE.out (HC.out.2.2.2.2.2.2.1), gr_c HE.out (HC.out.2.2.2.2.2.2.2.1), gr_c HE.out (HC.out.2.2.2.2.2.2.2.2.1), gr_c HE.out (HC.out.2.2.2.2.2.2.2.2.2.1), gr_c HE.out (HC.out.2.2.2.2.2.2.2.2.2.2.1), gr_c HE.out (HC.out.2.2.2.2.2.2.2.2.2.2.2.1), gr_c HE.out (HC.out.2.2.2.2.2.2.2.2.2.2.2.2.1), gr_c HE.out (HC.out.2.2.2.2.2.2.2.2.2.2.2.2.2.1), gr_c HE.out (HC.out.2.2.2.2.2.2.2.2.2.2.2.2.2.2)⟩) ((go_at_call 41; refine Calls.mono (H2.out _ HGd.out) ?_; rintro e w2 ⟨rfl, hg2⟩; have HE := hidM hg2; clear hg2))
        all_goals
          go_wp2_with fail
          go_ret
          exact ⟨by rw [HX.out]; rfl, HG.out.drew.trans HE.out (fun _ _ h => h)⟩
    · have hkL : k = L := by omega
      have HX : Hid (R = 0) := by
        have h := HK.out.2
        rw [show fs.drop k = [] from List.drop_eq_nil_of_le (by have := HL.out; omega)] at h
        exact h
      have HG := hidM HK.out.1
      clear HK
      subst hkL
      go_wp2_with fail
      go_ret
      exact ⟨by rw [HX.out]; rfl, HG.out⟩
set_option maxRecDepth 100000 in
set_option maxHeartbeats 2000000 in
theorem cmp_null (f0 : ByteArray) (f1 : Bool) (f2 : Int) (f3 f4 f5 : Int) (ao : Option Addr) (n ca : Nat) (a1 b1 : Int) (a2 b2 : ByteArray) (uo vo : Option Addr) (un uc vn vc : Nat) (w : World) (z : Int) (a0 b0 : Bool) (h : (a0 || b0) = true) (hz : z = if b0 = false then -1 else if a0 = false then 1 else 0) :
    IAns 41 #[.agg #[.string f0, .bool f1, .int .i64 f2, .int .i64 f3, .int .i64 f4, .int .i64 f5, .slice ao n ca], .agg #[.bool a0, .int .i64 a1, .string a2, .slice uo un uc], .agg #[.bool b0, .int .i64 b1, .string b2, .slice vo vn vc]] z w := by
  intro W g
  have H54 := hidM (null54 a0 b0 a1 b1 a2 b2 uo vo un uc vn vc W)
  rw [← hz] at H54
  have HG : Hid (∀ o o' o'', Gr W (((W.alloc o).alloc o').alloc o'')) := fun o o' o'' => ((gr_alloc W o).alloc o').alloc o''
  clear g hz
  cases a0 <;> cases b0
  case false.false => exact absurd h (by decide)
  all_goals
    clear h
    go_enter Tryd.func41, Tryd.ntmps41
    go_wp2_with (go_at_call 54; refine Hid.out ?_)
    unfold Hid
    refine Calls.mono (H54.out _ (HG.out _ _ _)) ?_
    rintro e w2 ⟨rfl, hg2⟩
    have HE := hidM ((HG.out _ _ _).trans hg2 (fun _ _ h => h))
    clear hg2
    go_wp2_with fail
    go_ret
    exact ⟨rfl, HE.out⟩
set_option maxRecDepth 100000 in
set_option maxHeartbeats 2000000 in
theorem cmp12 (f0 : ByteArray) (f1 : Bool) (f3 f4 f5 : Int) (ao : Option Addr) (n ca : Nat) (a1 b1 : Int) (a2 b2 : ByteArray) (uo vo : Option Addr) (un uc vn vc : Nat) (w : World) (z : Int) (hF : IAns 55 #[.string a2, .string b2] z w) :
    IAns 41 #[.agg #[.string f0, .bool f1, .int .i64 12, .int .i64 f3, .int .i64 f4, .int .i64 f5, .slice ao n ca], .agg #[.bool false, .int .i64 a1, .string a2, .slice uo un uc], .agg #[.bool false, .int .i64 b1, .string b2, .slice vo vn vc]] z w := by
  intro W g
  have HC := hidM hF
  have HGw := hidM g
  have HG : Hid (∀ o o' o'' o''', Gr W ((((W.alloc o).alloc o').alloc o'').alloc o''')) := fun o o' o'' o''' => (((gr_alloc W o).alloc o').alloc o'').alloc o'''
  clear g hF
  go_enter Tryd.func41, Tryd.ntmps41
  go_wp2_with (go_at_call 55; refine Hid.out ?_)
  unfold Hid
  refine Calls.mono (HC.out _ (HGw.out.trans (HG.out _ _ _ _) (fun _ _ h => h))) ?_
  rintro e w2 ⟨rfl, hg2⟩
  have HE := hidM ((HG.out _ _ _ _).trans hg2 (fun _ _ h => h))
  clear hg2
  go_wp2_with fail
  go_ret
  exact ⟨rfl, HE.out⟩
set_option maxRecDepth 100000 in
set_option maxHeartbeats 2000000 in
theorem cmp13 (f0 : ByteArray) (f1 : Bool) (f3 f4 f5 : Int) (ao : Option Addr) (n ca : Nat) (a1 b1 : Int) (a2 b2 : ByteArray) (uo vo : Option Addr) (un uc vn vc : Nat) (w : World) (z : Int) (hF : IAns 55 #[.string a2, .string b2] z w) :
    IAns 41 #[.agg #[.string f0, .bool f1, .int .i64 13, .int .i64 f3, .int .i64 f4, .int .i64 f5, .slice ao n ca], .agg #[.bool false, .int .i64 a1, .string a2, .slice uo un uc], .agg #[.bool false, .int .i64 b1, .string b2, .slice vo vn vc]] z w := by
  intro W g
  have HC := hidM hF
  have HGw := hidM g
  have HG : Hid (∀ o o' o'' o''', Gr W ((((W.alloc o).alloc o').alloc o'').alloc o''')) := fun o o' o'' o''' => (((gr_alloc W o).alloc o').alloc o'').alloc o'''
  clear g hF
  go_enter Tryd.func41, Tryd.ntmps41
  go_wp2_with (go_at_call 55; refine Hid.out ?_)
  unfold Hid
  refine Calls.mono (HC.out _ (HGw.out.trans (HG.out _ _ _ _) (fun _ _ h => h))) ?_
  rintro e w2 ⟨rfl, hg2⟩
  have HE := hidM ((HG.out _ _ _ _).trans hg2 (fun _ _ h => h))
  clear hg2
  go_wp2_with fail
  go_ret
  exact ⟨rfl, HE.out⟩
set_option maxRecDepth 100000 in
set_option maxHeartbeats 2000000 in
theorem cmp14 (f0 : ByteArray) (f1 : Bool) (f3 f4 f5 : Int) (ao : Option Addr) (n ca : Nat) (a1 b1 : Int) (a2 b2 : ByteArray) (uo vo : Option Addr) (un uc vn vc : Nat) (w : World) (z : Int) (hF : IAns 55 #[.string a2, .string b2] z w) :
    IAns 41 #[.agg #[.string f0, .bool f1, .int .i64 14, .int .i64 f3, .int .i64 f4, .int .i64 f5, .slice ao n ca], .agg #[.bool false, .int .i64 a1, .string a2, .slice uo un uc], .agg #[.bool false, .int .i64 b1, .string b2, .slice vo vn vc]] z w := by
  intro W g
  have HC := hidM hF
  have HGw := hidM g
  have HG : Hid (∀ o o' o'' o''', Gr W ((((W.alloc o).alloc o').alloc o'').alloc o''')) := fun o o' o'' o''' => (((gr_alloc W o).alloc o').alloc o'').alloc o'''
  clear g hF
  go_enter Tryd.func41, Tryd.ntmps41
  go_wp2_with (go_at_call 55; refine Hid.out ?_)
  unfold Hid
  refine Calls.mono (HC.out _ (HGw.out.trans (HG.out _ _ _ _) (fun _ _ h => h))) ?_
  rintro e w2 ⟨rfl, hg2⟩
  have HE := hidM ((HG.out _ _ _ _).trans hg2 (fun _ _ h => h))
  clear hg2
  go_wp2_with fail
  go_ret
  exact ⟨rfl, HE.out⟩
set_option maxRecDepth 100000 in
set_option maxHeartbeats 2000000 in
theorem cmp17 (f0 : ByteArray) (f1 : Bool) (f3 f4 f5 : Int) (ao : Option Addr) (n ca : Nat) (a1 b1 : Int) (a2 b2 : ByteArray) (uo vo : Option Addr) (un uc vn vc : Nat) (w : World) (z : Int) (hF : IAns 57 #[.slice ao n ca, .slice uo un uc, .slice vo vn vc] z w) :
    IAns 41 #[.agg #[.string f0, .bool f1, .int .i64 17, .int .i64 f3, .int .i64 f4, .int .i64 f5, .slice ao n ca], .agg #[.bool false, .int .i64 a1, .string a2, .slice uo un uc], .agg #[.bool false, .int .i64 b1, .string b2, .slice vo vn vc]] z w := by
  intro W g
  have HC := hidM hF
  have HGw := hidM g
  have HG : Hid (∀ o o' o'' o''', Gr W ((((W.alloc o).alloc o').alloc o'').alloc o''')) := fun o o' o'' o''' => (((gr_alloc W o).alloc o').alloc o'').alloc o'''
  clear g hF
  go_enter Tryd.func41, Tryd.ntmps41
  go_wp2_with (go_at_call 57; refine Hid.out ?_)
  unfold Hid
  refine Calls.mono (HC.out _ (HGw.out.trans (HG.out _ _ _ _) (fun _ _ h => h))) ?_
  rintro e w2 ⟨rfl, hg2⟩
  have HE := hidM ((HG.out _ _ _ _).trans hg2 (fun _ _ h => h))
  clear hg2
  go_wp2_with fail
  go_ret
  exact ⟨rfl, HE.out⟩
set_option maxRecDepth 100000 in
set_option maxHeartbeats 2000000 in
theorem cmp18_ne (f0 : ByteArray) (f1 : Bool) (f3 f4 f5 : Int) (ao : Option Addr) (n ca : Nat) (a1 b1 : Int) (a2 b2 : ByteArray) (uo vo : Option Addr) (un uc vn vc : Nat) (w : World) (z : Int) (hne : (a1 == b1) = false) (hF : IAns 59 #[.int .i64 a1, .int .i64 b1] z w) :
    IAns 41 #[.agg #[.string f0, .bool f1, .int .i64 18, .int .i64 f3, .int .i64 f4, .int .i64 f5, .slice ao n ca], .agg #[.bool false, .int .i64 a1, .string a2, .slice uo un uc], .agg #[.bool false, .int .i64 b1, .string b2, .slice vo vn vc]] z w := by
  intro W g
  have HC := hidM hF
  have HGw := hidM g
  have HG : Hid (∀ o o' o'' o''', Gr W ((((W.alloc o).alloc o').alloc o'').alloc o''')) := fun o o' o'' o''' => (((gr_alloc W o).alloc o').alloc o'').alloc o'''
  clear g hF
  go_enter Tryd.func41, Tryd.ntmps41
  go_wp2_with (go_at_call 59; refine Hid.out ?_)
  unfold Hid
  refine Calls.mono (HC.out _ (HGw.out.trans (HG.out _ _ _ _) (fun _ _ h => h))) ?_
  rintro e w2 ⟨rfl, hg2⟩
  have HE := hidM ((HG.out _ _ _ _).trans hg2 (fun _ _ h => h))
  clear hg2
  go_wp2_with fail
  go_ret
  exact ⟨rfl, HE.out⟩
set_option maxRecDepth 100000 in
set_option maxHeartbeats 2000000 in
theorem cmp10 (f0 : ByteArray) (f1 : Bool) (f3 f4 f5 : Int) (ao : Option Addr) (n ca : Nat) (a1 b1 : Int) (a2 b2 : ByteArray) (uo vo : Option Addr) (un uc vn vc : Nat) (w : World) (z : Int) (hF : IAns 58 #[.int .u64 (IntKind.u64.wrap a1), .int .u64 (IntKind.u64.wrap b1)] z w) :
    IAns 41 #[.agg #[.string f0, .bool f1, .int .i64 10, .int .i64 f3, .int .i64 f4, .int .i64 f5, .slice ao n ca], .agg #[.bool false, .int .i64 a1, .string a2, .slice uo un uc], .agg #[.bool false, .int .i64 b1, .string b2, .slice vo vn vc]] z w := by
  intro W g
  have HC := hidM hF
  have HGw := hidM g
  have HG : Hid (∀ o o' o'' o''', Gr W ((((W.alloc o).alloc o').alloc o'').alloc o''')) := fun o o' o'' o''' => (((gr_alloc W o).alloc o').alloc o'').alloc o'''
  clear g hF
  go_enter Tryd.func41, Tryd.ntmps41
  go_wp2_with (go_at_call 58; refine Hid.out ?_)
  unfold Hid
  refine Calls.mono (HC.out _ (HGw.out.trans (HG.out _ _ _ _) (fun _ _ h => h))) ?_
  rintro e w2 ⟨rfl, hg2⟩
  have HE := hidM ((HG.out _ _ _ _).trans hg2 (fun _ _ h => h))
  clear hg2
  go_wp2_with fail
  go_ret
  exact ⟨rfl, HE.out⟩
set_option maxRecDepth 100000 in
set_option maxHeartbeats 2000000 in
theorem cmp_num (f0 : ByteArray) (f1 : Bool) (f2 : Int) (f3 f4 f5 : Int) (ao : Option Addr) (n ca : Nat) (a1 b1 : Int) (a2 b2 : ByteArray) (uo vo : Option Addr) (un uc vn vc : Nat) (w : World) (z : Int) (hk : 1 ≤ f2 ∧ f2 ≤ 9) (hF : IAns 59 #[.int .i64 a1, .int .i64 b1] z w) :
    IAns 41 #[.agg #[.string f0, .bool f1, .int .i64 f2, .int .i64 f3, .int .i64 f4, .int .i64 f5, .slice ao n ca], .agg #[.bool false, .int .i64 a1, .string a2, .slice uo un uc], .agg #[.bool false, .int .i64 b1, .string b2, .slice vo vn vc]] z w := by
  intro W g
  have HC := hidM hF
  have HGw := hidM g
  have HG : Hid (∀ o o' o'' o''', Gr W ((((W.alloc o).alloc o').alloc o'').alloc o''')) := fun o o' o'' o''' => (((gr_alloc W o).alloc o').alloc o'').alloc o'''
  have e10 : (f2 == 10) = false := by simp; omega
  have e11 : (f2 == 11) = false := by simp; omega
  have e12 : (f2 == 12) = false := by simp; omega
  have e13 : (f2 == 13) = false := by simp; omega
  have e14 : (f2 == 14) = false := by simp; omega
  have e15 : (f2 == 15) = false := by simp; omega
  have e16 : (f2 == 16) = false := by simp; omega
  have e17 : (f2 == 17) = false := by simp; omega
  have e18 : (f2 == 18) = false := by simp; omega
  have e19 : (f2 == 19) = false := by simp; omega
  have e20 : (f2 == 20) = false := by simp; omega
  clear hk
  clear g hF
  go_enter Tryd.func41, Tryd.ntmps41
  go_wp2_with (go_at_call 59; refine Hid.out ?_)
  unfold Hid
  refine Calls.mono (HC.out _ (HGw.out.trans (HG.out _ _ _ _) (fun _ _ h => h))) ?_
  rintro e w2 ⟨rfl, hg2⟩
  have HE := hidM ((HG.out _ _ _ _).trans hg2 (fun _ _ h => h))
  clear hg2
  go_wp2_with fail
  go_ret
  exact ⟨rfl, HE.out⟩
set_option maxRecDepth 100000 in
set_option maxHeartbeats 2000000 in
theorem cmp15 (f0 : ByteArray) (f1 : Bool) (f3 f4 f5 : Int) (n ca : Nat) (a1 b1 : Int) (a2 b2 : ByteArray) (uo vo : Option Addr) (un uc vn vc : Nat) (w : World) (z : Int) (kb ko : Nat) (k0 : ByteArray) (k1 : Bool) (k2 k3 k4 k5 : Int) (kp : Option Addr) (kn kc : Nat) (hn : 0 < n) (g0 : w.cell? ⟨kb, ko, none⟩ = some (.string k0)) (g1 : w.cell? ⟨kb, ko + 1, none⟩ = some (.bool k1)) (g2 : w.cell? ⟨kb, ko + 2, none⟩ = some (.int .i64 k2)) (g3 : w.cell? ⟨kb, ko + 3, none⟩ = some (.int .i64 k3)) (g4 : w.cell? ⟨kb, ko + 4, none⟩ = some (.int .i64 k4)) (g5 : w.cell? ⟨kb, ko + 5, none⟩ = some (.int .i64 k5)) (g6 : w.cell? ⟨kb, ko + 6, none⟩ = some (.slice kp kn kc)) (hF : IAns 56 #[.agg #[.string k0, .bool k1, .int .i64 k2, .int .i64 k3, .int .i64 k4, .int .i64 k5, .slice kp kn kc], .slice uo un uc, .slice vo vn vc] z w) :
    IAns 41 #[.agg #[.string f0, .bool f1, .int .i64 15, .int .i64 f3, .int .i64 f4, .int .i64 f5, .slice (some ⟨kb, ko, none⟩) n ca], .agg #[.bool false, .int .i64 a1, .string a2, .slice uo un uc], .agg #[.bool false, .int .i64 b1, .string b2, .slice vo vn vc]] z w := by
  intro W g
  obtain ⟨V, hV⟩ : ∃ V, (((W.alloc (.cells #[.string f0, .bool f1, .int .i64 15, .int .i64 f3, .int .i64 f4, .int .i64 f5, .slice (some ⟨kb, ko, none⟩) n ca] 26)).alloc (.cells #[.bool false, .int .i64 a1, .string a2, .slice uo un uc] 29)).alloc (.cells #[.bool false, .int .i64 b1, .string b2, .slice vo vn vc] 29)).alloc (.cells #[.int .i64 15, .int .i64 f3, .int .i64 f4, .int .i64 f5, .slice (some ⟨kb, ko, none⟩) n ca] 24) = V := ⟨_, rfl⟩
  have hA := alloc4 W (.cells #[.string f0, .bool f1, .int .i64 15, .int .i64 f3, .int .i64 f4, .int .i64 f5, .slice (some ⟨kb, ko, none⟩) n ca] 26) (.cells #[.bool false, .int .i64 a1, .string a2, .slice uo un uc] 29) (.cells #[.bool false, .int .i64 b1, .string b2, .slice vo vn vc] 29) (.cells #[.int .i64 15, .int .i64 f3, .int .i64 f4, .int .i64 f5, .slice (some ⟨kb, ko, none⟩) n ca] 24)
  rw [hV] at hA
  obtain ⟨_, ba, bb, bt, gr⟩ := hA
  obtain ⟨p0, p1, p2, p3⟩ := B4.cells ba
  obtain ⟨r0, r1, r2, r3⟩ := B4.cells bb
  obtain ⟨q0, q1, q2, q3, q4⟩ := B5.cells bt
  have gg : Gr w V := g.trans gr (fun _ _ h => h)
  have hn' : (0 : Int) < (n : Int) := by omega
  have HF := hidM hF
  have HG := hidM gr
  have HGd : Hid (Gr w V.drew) := gg.drew
  have HC : Hid (V.drew.cell? ⟨W.heap.size + 1 + 1 + 1, 4, none⟩ = some (.slice (some ⟨kb, ko, none⟩) n ca) ∧ V.drew.cell? ⟨W.heap.size + 1, 3, none⟩ = some (.slice uo un uc) ∧ V.drew.cell? ⟨W.heap.size + 1 + 1, 3, none⟩ = some (.slice vo vn vc) ∧ V.drew.cell? ⟨kb, ko, none⟩ = some (.string k0) ∧ V.drew.cell? ⟨kb, ko + 1, none⟩ = some (.bool k1) ∧ V.drew.cell? ⟨kb, ko + 2, none⟩ = some (.int .i64 k2) ∧ V.drew.cell? ⟨kb, ko + 3, none⟩ = some (.int .i64 k3) ∧ V.drew.cell? ⟨kb, ko + 4, none⟩ = some (.int .i64 k4) ∧ V.drew.cell? ⟨kb, ko + 5, none⟩ = some (.int .i64 k5) ∧ V.drew.cell? ⟨kb, ko + 6, none⟩ = some (.slice kp kn kc)) := ⟨q4, p3, r3, gr_c gg g0, gr_c gg g1, gr_c gg g2, gr_c gg g3, gr_c gg g4, gr_c gg g5, gr_c gg g6⟩
  clear ba bb bt gr g hF gg
  go_enter Tryd.func41, Tryd.ntmps41
  go_wp2
  clear hV p0 p1 p2 p3 q0 q1 q2 q3 q4 r0 r1 r2 r3
  go_region_held3 (fun w' => w'.cell? ⟨W.heap.size + 1 + 1 + 1, 4, none⟩ = some (.slice (some ⟨kb, ko, none⟩) n ca) ∧ w'.cell? ⟨W.heap.size + 1, 3, none⟩ = some (.slice uo un uc) ∧ w'.cell? ⟨W.heap.size + 1 + 1, 3, none⟩ = some (.slice vo vn vc) ∧ w'.cell? ⟨kb, ko, none⟩ = some (.string k0) ∧ w'.cell? ⟨kb, ko + 1, none⟩ = some (.bool k1) ∧ w'.cell? ⟨kb, ko + 2, none⟩ = some (.int .i64 k2) ∧ w'.cell? ⟨kb, ko + 3, none⟩ = some (.int .i64 k3) ∧ w'.cell? ⟨kb, ko + 4, none⟩ = some (.int .i64 k4) ∧ w'.cell? ⟨kb, ko + 5, none⟩ = some (.int .i64 k5) ∧ w'.cell? ⟨kb, ko + 6, none⟩ = some (.slice kp kn kc)) (first | with_reducible exact HC.out | with_reducible exact ⟨gr_c HE.out (HC.out.1), gr_c HE.out (HC.out.2.1), gr_c HE.out (HC.out.2.2.1), gr_c HE.out (HC.out.2.2.2.1), gr_c HE.out (HC.out.2.2.2.2.1), gr_c HE.out (HC.out.2.2.2.2.2.1), gr_c HE.out (HC.out.2.2.2.2.2.2.1), gr_c HE.out (HC.out.2.2.2.2.2.2.2.1), gr_c HE.out (HC.out.2.2.2.2.2.2.2.2.1), gr_c HE.out (HC.out.2.2.2.2.2.2.2.2.2)⟩) ((go_at_call 56; refine Calls.mono (HF.out _ HGd.out) ?_; rintro e w2 ⟨rfl, hg2⟩; have HE := hidM hg2; clear hg2))
  all_goals
    go_wp2_with fail
    go_ret
    exact ⟨rfl, HG.out.drew.trans HE.out (fun _ _ h => h)⟩
set_option maxRecDepth 100000 in
set_option maxHeartbeats 2000000 in
theorem cmp16 (f0 : ByteArray) (f1 : Bool) (f3 f4 f5 : Int) (n ca : Nat) (a1 b1 : Int) (a2 b2 : ByteArray) (uo vo : Option Addr) (un uc vn vc : Nat) (w : World) (z : Int) (kb ko : Nat) (k0 : ByteArray) (k1 : Bool) (k2 k3 k4 k5 : Int) (kp : Option Addr) (kn kc : Nat) (hn : 0 < n) (g0 : w.cell? ⟨kb, ko, none⟩ = some (.string k0)) (g1 : w.cell? ⟨kb, ko + 1, none⟩ = some (.bool k1)) (g2 : w.cell? ⟨kb, ko + 2, none⟩ = some (.int .i64 k2)) (g3 : w.cell? ⟨kb, ko + 3, none⟩ = some (.int .i64 k3)) (g4 : w.cell? ⟨kb, ko + 4, none⟩ = some (.int .i64 k4)) (g5 : w.cell? ⟨kb, ko + 5, none⟩ = some (.int .i64 k5)) (g6 : w.cell? ⟨kb, ko + 6, none⟩ = some (.slice kp kn kc)) (hF : IAns 56 #[.agg #[.string k0, .bool k1, .int .i64 k2, .int .i64 k3, .int .i64 k4, .int .i64 k5, .slice kp kn kc], .slice uo un uc, .slice vo vn vc] z w) :
    IAns 41 #[.agg #[.string f0, .bool f1, .int .i64 16, .int .i64 f3, .int .i64 f4, .int .i64 f5, .slice (some ⟨kb, ko, none⟩) n ca], .agg #[.bool false, .int .i64 a1, .string a2, .slice uo un uc], .agg #[.bool false, .int .i64 b1, .string b2, .slice vo vn vc]] z w := by
  intro W g
  obtain ⟨V, hV⟩ : ∃ V, (((W.alloc (.cells #[.string f0, .bool f1, .int .i64 16, .int .i64 f3, .int .i64 f4, .int .i64 f5, .slice (some ⟨kb, ko, none⟩) n ca] 26)).alloc (.cells #[.bool false, .int .i64 a1, .string a2, .slice uo un uc] 29)).alloc (.cells #[.bool false, .int .i64 b1, .string b2, .slice vo vn vc] 29)).alloc (.cells #[.int .i64 16, .int .i64 f3, .int .i64 f4, .int .i64 f5, .slice (some ⟨kb, ko, none⟩) n ca] 24) = V := ⟨_, rfl⟩
  have hA := alloc4 W (.cells #[.string f0, .bool f1, .int .i64 16, .int .i64 f3, .int .i64 f4, .int .i64 f5, .slice (some ⟨kb, ko, none⟩) n ca] 26) (.cells #[.bool false, .int .i64 a1, .string a2, .slice uo un uc] 29) (.cells #[.bool false, .int .i64 b1, .string b2, .slice vo vn vc] 29) (.cells #[.int .i64 16, .int .i64 f3, .int .i64 f4, .int .i64 f5, .slice (some ⟨kb, ko, none⟩) n ca] 24)
  rw [hV] at hA
  obtain ⟨_, ba, bb, bt, gr⟩ := hA
  obtain ⟨p0, p1, p2, p3⟩ := B4.cells ba
  obtain ⟨r0, r1, r2, r3⟩ := B4.cells bb
  obtain ⟨q0, q1, q2, q3, q4⟩ := B5.cells bt
  have gg : Gr w V := g.trans gr (fun _ _ h => h)
  have hn' : (0 : Int) < (n : Int) := by omega
  have HF := hidM hF
  have HG := hidM gr
  have HGd : Hid (Gr w V.drew) := gg.drew
  have HC : Hid (V.drew.cell? ⟨W.heap.size + 1 + 1 + 1, 4, none⟩ = some (.slice (some ⟨kb, ko, none⟩) n ca) ∧ V.drew.cell? ⟨W.heap.size + 1, 3, none⟩ = some (.slice uo un uc) ∧ V.drew.cell? ⟨W.heap.size + 1 + 1, 3, none⟩ = some (.slice vo vn vc) ∧ V.drew.cell? ⟨kb, ko, none⟩ = some (.string k0) ∧ V.drew.cell? ⟨kb, ko + 1, none⟩ = some (.bool k1) ∧ V.drew.cell? ⟨kb, ko + 2, none⟩ = some (.int .i64 k2) ∧ V.drew.cell? ⟨kb, ko + 3, none⟩ = some (.int .i64 k3) ∧ V.drew.cell? ⟨kb, ko + 4, none⟩ = some (.int .i64 k4) ∧ V.drew.cell? ⟨kb, ko + 5, none⟩ = some (.int .i64 k5) ∧ V.drew.cell? ⟨kb, ko + 6, none⟩ = some (.slice kp kn kc)) := ⟨q4, p3, r3, gr_c gg g0, gr_c gg g1, gr_c gg g2, gr_c gg g3, gr_c gg g4, gr_c gg g5, gr_c gg g6⟩
  clear ba bb bt gr g hF gg
  go_enter Tryd.func41, Tryd.ntmps41
  go_wp2
  clear hV p0 p1 p2 p3 q0 q1 q2 q3 q4 r0 r1 r2 r3
  go_region_held3 (fun w' => w'.cell? ⟨W.heap.size + 1 + 1 + 1, 4, none⟩ = some (.slice (some ⟨kb, ko, none⟩) n ca) ∧ w'.cell? ⟨W.heap.size + 1, 3, none⟩ = some (.slice uo un uc) ∧ w'.cell? ⟨W.heap.size + 1 + 1, 3, none⟩ = some (.slice vo vn vc) ∧ w'.cell? ⟨kb, ko, none⟩ = some (.string k0) ∧ w'.cell? ⟨kb, ko + 1, none⟩ = some (.bool k1) ∧ w'.cell? ⟨kb, ko + 2, none⟩ = some (.int .i64 k2) ∧ w'.cell? ⟨kb, ko + 3, none⟩ = some (.int .i64 k3) ∧ w'.cell? ⟨kb, ko + 4, none⟩ = some (.int .i64 k4) ∧ w'.cell? ⟨kb, ko + 5, none⟩ = some (.int .i64 k5) ∧ w'.cell? ⟨kb, ko + 6, none⟩ = some (.slice kp kn kc)) (first | with_reducible exact HC.out | with_reducible exact ⟨gr_c HE.out (HC.out.1), gr_c HE.out (HC.out.2.1), gr_c HE.out (HC.out.2.2.1), gr_c HE.out (HC.out.2.2.2.1), gr_c HE.out (HC.out.2.2.2.2.1), gr_c HE.out (HC.out.2.2.2.2.2.1), gr_c HE.out (HC.out.2.2.2.2.2.2.1), gr_c HE.out (HC.out.2.2.2.2.2.2.2.1), gr_c HE.out (HC.out.2.2.2.2.2.2.2.2.1), gr_c HE.out (HC.out.2.2.2.2.2.2.2.2.2)⟩) ((go_at_call 56; refine Calls.mono (HF.out _ HGd.out) ?_; rintro e w2 ⟨rfl, hg2⟩; have HE := hidM hg2; clear hg2))
  all_goals
    go_wp2_with fail
    go_ret
    exact ⟨rfl, HG.out.drew.trans HE.out (fun _ _ h => h)⟩
set_option maxRecDepth 100000 in
set_option maxHeartbeats 2000000 in
theorem cmp19 (f0 : ByteArray) (f1 : Bool) (f3 f4 f5 : Int) (n ca : Nat) (a1 b1 : Int) (a2 b2 : ByteArray) (uo vo : Option Addr) (un uc vn vc : Nat) (w : World) (z : Int) (kb ko : Nat) (k0 : ByteArray) (k1 : Bool) (k2 k3 k4 k5 : Int) (kp : Option Addr) (kn kc : Nat) (hn : 0 < n) (g0 : w.cell? ⟨kb, ko, none⟩ = some (.string k0)) (g1 : w.cell? ⟨kb, ko + 1, none⟩ = some (.bool k1)) (g2 : w.cell? ⟨kb, ko + 2, none⟩ = some (.int .i64 k2)) (g3 : w.cell? ⟨kb, ko + 3, none⟩ = some (.int .i64 k3)) (g4 : w.cell? ⟨kb, ko + 4, none⟩ = some (.int .i64 k4)) (g5 : w.cell? ⟨kb, ko + 5, none⟩ = some (.int .i64 k5)) (g6 : w.cell? ⟨kb, ko + 6, none⟩ = some (.slice kp kn kc)) (hF : IAns 41 #[.agg #[.string k0, .bool k1, .int .i64 k2, .int .i64 k3, .int .i64 k4, .int .i64 k5, .slice kp kn kc], .agg #[.bool false, .int .i64 a1, .string a2, .slice uo un uc], .agg #[.bool false, .int .i64 b1, .string b2, .slice vo vn vc]] z w) :
    IAns 41 #[.agg #[.string f0, .bool f1, .int .i64 19, .int .i64 f3, .int .i64 f4, .int .i64 f5, .slice (some ⟨kb, ko, none⟩) n ca], .agg #[.bool false, .int .i64 a1, .string a2, .slice uo un uc], .agg #[.bool false, .int .i64 b1, .string b2, .slice vo vn vc]] z w := by
  intro W g
  obtain ⟨V, hV⟩ : ∃ V, (((W.alloc (.cells #[.string f0, .bool f1, .int .i64 19, .int .i64 f3, .int .i64 f4, .int .i64 f5, .slice (some ⟨kb, ko, none⟩) n ca] 26)).alloc (.cells #[.bool false, .int .i64 a1, .string a2, .slice uo un uc] 29)).alloc (.cells #[.bool false, .int .i64 b1, .string b2, .slice vo vn vc] 29)).alloc (.cells #[.int .i64 19, .int .i64 f3, .int .i64 f4, .int .i64 f5, .slice (some ⟨kb, ko, none⟩) n ca] 24) = V := ⟨_, rfl⟩
  have hA := alloc4 W (.cells #[.string f0, .bool f1, .int .i64 19, .int .i64 f3, .int .i64 f4, .int .i64 f5, .slice (some ⟨kb, ko, none⟩) n ca] 26) (.cells #[.bool false, .int .i64 a1, .string a2, .slice uo un uc] 29) (.cells #[.bool false, .int .i64 b1, .string b2, .slice vo vn vc] 29) (.cells #[.int .i64 19, .int .i64 f3, .int .i64 f4, .int .i64 f5, .slice (some ⟨kb, ko, none⟩) n ca] 24)
  rw [hV] at hA
  obtain ⟨_, ba, bb, bt, gr⟩ := hA
  obtain ⟨p0, p1, p2, p3⟩ := B4.cells ba
  obtain ⟨r0, r1, r2, r3⟩ := B4.cells bb
  obtain ⟨q0, q1, q2, q3, q4⟩ := B5.cells bt
  have gg : Gr w V := g.trans gr (fun _ _ h => h)
  have hn' : (0 : Int) < (n : Int) := by omega
  have HF := hidM hF
  have HG := hidM gr
  have HGd : Hid (Gr w V.drew) := gg.drew
  have HC : Hid (V.drew.cell? ⟨W.heap.size + 1 + 1 + 1, 4, none⟩ = some (.slice (some ⟨kb, ko, none⟩) n ca) ∧ V.drew.cell? ⟨W.heap.size + 1, 0, none⟩ = some (.bool false) ∧ V.drew.cell? ⟨W.heap.size + 1, 1, none⟩ = some (.int .i64 a1) ∧ V.drew.cell? ⟨W.heap.size + 1, 2, none⟩ = some (.string a2) ∧ V.drew.cell? ⟨W.heap.size + 1, 3, none⟩ = some (.slice uo un uc) ∧ V.drew.cell? ⟨W.heap.size + 1 + 1, 0, none⟩ = some (.bool false) ∧ V.drew.cell? ⟨W.heap.size + 1 + 1, 1, none⟩ = some (.int .i64 b1) ∧ V.drew.cell? ⟨W.heap.size + 1 + 1, 2, none⟩ = some (.string b2) ∧ V.drew.cell? ⟨W.heap.size + 1 + 1, 3, none⟩ = some (.slice vo vn vc) ∧ V.drew.cell? ⟨kb, ko, none⟩ = some (.string k0) ∧ V.drew.cell? ⟨kb, ko + 1, none⟩ = some (.bool k1) ∧ V.drew.cell? ⟨kb, ko + 2, none⟩ = some (.int .i64 k2) ∧ V.drew.cell? ⟨kb, ko + 3, none⟩ = some (.int .i64 k3) ∧ V.drew.cell? ⟨kb, ko + 4, none⟩ = some (.int .i64 k4) ∧ V.drew.cell? ⟨kb, ko + 5, none⟩ = some (.int .i64 k5) ∧ V.drew.cell? ⟨kb, ko + 6, none⟩ = some (.slice kp kn kc)) := ⟨q4, p0, p1, p2, p3, r0, r1, r2, r3, gr_c gg g0, gr_c gg g1, gr_c gg g2, gr_c gg g3, gr_c gg g4, gr_c gg g5, gr_c gg g6⟩
  clear ba bb bt gr g hF gg
  go_enter Tryd.func41, Tryd.ntmps41
  go_wp2
  clear hV p0 p1 p2 p3 q0 q1 q2 q3 q4 r0 r1 r2 r3
  go_region_held3 (fun w' => w'.cell? ⟨W.heap.size + 1 + 1 + 1, 4, none⟩ = some (.slice (some ⟨kb, ko, none⟩) n ca) ∧ w'.cell? ⟨W.heap.size + 1, 0, none⟩ = some (.bool false) ∧ w'.cell? ⟨W.heap.size + 1, 1, none⟩ = some (.int .i64 a1) ∧ w'.cell? ⟨W.heap.size + 1, 2, none⟩ = some (.string a2) ∧ w'.cell? ⟨W.heap.size + 1, 3, none⟩ = some (.slice uo un uc) ∧ w'.cell? ⟨W.heap.size + 1 + 1, 0, none⟩ = some (.bool false) ∧ w'.cell? ⟨W.heap.size + 1 + 1, 1, none⟩ = some (.int .i64 b1) ∧ w'.cell? ⟨W.heap.size + 1 + 1, 2, none⟩ = some (.string b2) ∧ w'.cell? ⟨W.heap.size + 1 + 1, 3, none⟩ = some (.slice vo vn vc) ∧ w'.cell? ⟨kb, ko, none⟩ = some (.string k0) ∧ w'.cell? ⟨kb, ko + 1, none⟩ = some (.bool k1) ∧ w'.cell? ⟨kb, ko + 2, none⟩ = some (.int .i64 k2) ∧ w'.cell? ⟨kb, ko + 3, none⟩ = some (.int .i64 k3) ∧ w'.cell? ⟨kb, ko + 4, none⟩ = some (.int .i64 k4) ∧ w'.cell? ⟨kb, ko + 5, none⟩ = some (.int .i64 k5) ∧ w'.cell? ⟨kb, ko + 6, none⟩ = some (.slice kp kn kc)) (first | with_reducible exact HC.out | with_reducible exact ⟨gr_c HE.out (HC.out.1), gr_c HE.out (HC.out.2.1), gr_c HE.out (HC.out.2.2.1), gr_c HE.out (HC.out.2.2.2.1), gr_c HE.out (HC.out.2.2.2.2.1), gr_c HE.out (HC.out.2.2.2.2.2.1), gr_c HE.out (HC.out.2.2.2.2.2.2.1), gr_c HE.out (HC.out.2.2.2.2.2.2.2.1), gr_c HE.out (HC.out.2.2.2.2.2.2.2.2.1), gr_c HE.out (HC.out.2.2.2.2.2.2.2.2.2.1), gr_c HE.out (HC.out.2.2.2.2.2.2.2.2.2.2.1), gr_c HE.out (HC.out.2.2.2.2.2.2.2.2.2.2.2.1), gr_c HE.out (HC.out.2.2.2.2.2.2.2.2.2.2.2.2.1), gr_c HE.out (HC.out.2.2.2.2.2.2.2.2.2.2.2.2.2.1), gr_c HE.out (HC.out.2.2.2.2.2.2.2.2.2.2.2.2.2.2.1), gr_c HE.out (HC.out.2.2.2.2.2.2.2.2.2.2.2.2.2.2.2)⟩) ((go_at_call 41; refine Calls.mono (HF.out _ HGd.out) ?_; rintro e w2 ⟨rfl, hg2⟩; have HE := hidM hg2; clear hg2))
  all_goals
    go_wp2_with fail
    go_ret
    exact ⟨rfl, HG.out.drew.trans HE.out (fun _ _ h => h)⟩
set_option maxRecDepth 100000 in
set_option maxHeartbeats 2000000 in
theorem cmp20 (f0 : ByteArray) (f1 : Bool) (f3 f4 f5 : Int) (n ca : Nat) (a1 b1 : Int) (a2 b2 : ByteArray) (uo vo : Option Addr) (un uc vn vc : Nat) (w : World) (z : Int) (kb ko : Nat) (k0 : ByteArray) (k1 : Bool) (k2 k3 k4 k5 : Int) (kp : Option Addr) (kn kc : Nat) (hn : 0 < n) (g0 : w.cell? ⟨kb, ko, none⟩ = some (.string k0)) (g1 : w.cell? ⟨kb, ko + 1, none⟩ = some (.bool k1)) (g2 : w.cell? ⟨kb, ko + 2, none⟩ = some (.int .i64 k2)) (g3 : w.cell? ⟨kb, ko + 3, none⟩ = some (.int .i64 k3)) (g4 : w.cell? ⟨kb, ko + 4, none⟩ = some (.int .i64 k4)) (g5 : w.cell? ⟨kb, ko + 5, none⟩ = some (.int .i64 k5)) (g6 : w.cell? ⟨kb, ko + 6, none⟩ = some (.slice kp kn kc)) (hF : IAns 41 #[.agg #[.string k0, .bool k1, .int .i64 k2, .int .i64 k3, .int .i64 k4, .int .i64 k5, .slice kp kn kc], .agg #[.bool false, .int .i64 a1, .string a2, .slice uo un uc], .agg #[.bool false, .int .i64 b1, .string b2, .slice vo vn vc]] z w) :
    IAns 41 #[.agg #[.string f0, .bool f1, .int .i64 20, .int .i64 f3, .int .i64 f4, .int .i64 f5, .slice (some ⟨kb, ko, none⟩) n ca], .agg #[.bool false, .int .i64 a1, .string a2, .slice uo un uc], .agg #[.bool false, .int .i64 b1, .string b2, .slice vo vn vc]] z w := by
  intro W g
  obtain ⟨V, hV⟩ : ∃ V, (((W.alloc (.cells #[.string f0, .bool f1, .int .i64 20, .int .i64 f3, .int .i64 f4, .int .i64 f5, .slice (some ⟨kb, ko, none⟩) n ca] 26)).alloc (.cells #[.bool false, .int .i64 a1, .string a2, .slice uo un uc] 29)).alloc (.cells #[.bool false, .int .i64 b1, .string b2, .slice vo vn vc] 29)).alloc (.cells #[.int .i64 20, .int .i64 f3, .int .i64 f4, .int .i64 f5, .slice (some ⟨kb, ko, none⟩) n ca] 24) = V := ⟨_, rfl⟩
  have hA := alloc4 W (.cells #[.string f0, .bool f1, .int .i64 20, .int .i64 f3, .int .i64 f4, .int .i64 f5, .slice (some ⟨kb, ko, none⟩) n ca] 26) (.cells #[.bool false, .int .i64 a1, .string a2, .slice uo un uc] 29) (.cells #[.bool false, .int .i64 b1, .string b2, .slice vo vn vc] 29) (.cells #[.int .i64 20, .int .i64 f3, .int .i64 f4, .int .i64 f5, .slice (some ⟨kb, ko, none⟩) n ca] 24)
  rw [hV] at hA
  obtain ⟨_, ba, bb, bt, gr⟩ := hA
  obtain ⟨p0, p1, p2, p3⟩ := B4.cells ba
  obtain ⟨r0, r1, r2, r3⟩ := B4.cells bb
  obtain ⟨q0, q1, q2, q3, q4⟩ := B5.cells bt
  have gg : Gr w V := g.trans gr (fun _ _ h => h)
  have hn' : (0 : Int) < (n : Int) := by omega
  have HF := hidM hF
  have HG := hidM gr
  have HGd : Hid (Gr w V.drew) := gg.drew
  have HC : Hid (V.drew.cell? ⟨W.heap.size + 1 + 1 + 1, 4, none⟩ = some (.slice (some ⟨kb, ko, none⟩) n ca) ∧ V.drew.cell? ⟨W.heap.size + 1, 0, none⟩ = some (.bool false) ∧ V.drew.cell? ⟨W.heap.size + 1, 1, none⟩ = some (.int .i64 a1) ∧ V.drew.cell? ⟨W.heap.size + 1, 2, none⟩ = some (.string a2) ∧ V.drew.cell? ⟨W.heap.size + 1, 3, none⟩ = some (.slice uo un uc) ∧ V.drew.cell? ⟨W.heap.size + 1 + 1, 0, none⟩ = some (.bool false) ∧ V.drew.cell? ⟨W.heap.size + 1 + 1, 1, none⟩ = some (.int .i64 b1) ∧ V.drew.cell? ⟨W.heap.size + 1 + 1, 2, none⟩ = some (.string b2) ∧ V.drew.cell? ⟨W.heap.size + 1 + 1, 3, none⟩ = some (.slice vo vn vc) ∧ V.drew.cell? ⟨kb, ko, none⟩ = some (.string k0) ∧ V.drew.cell? ⟨kb, ko + 1, none⟩ = some (.bool k1) ∧ V.drew.cell? ⟨kb, ko + 2, none⟩ = some (.int .i64 k2) ∧ V.drew.cell? ⟨kb, ko + 3, none⟩ = some (.int .i64 k3) ∧ V.drew.cell? ⟨kb, ko + 4, none⟩ = some (.int .i64 k4) ∧ V.drew.cell? ⟨kb, ko + 5, none⟩ = some (.int .i64 k5) ∧ V.drew.cell? ⟨kb, ko + 6, none⟩ = some (.slice kp kn kc)) := ⟨q4, p0, p1, p2, p3, r0, r1, r2, r3, gr_c gg g0, gr_c gg g1, gr_c gg g2, gr_c gg g3, gr_c gg g4, gr_c gg g5, gr_c gg g6⟩
  clear ba bb bt gr g hF gg
  go_enter Tryd.func41, Tryd.ntmps41
  go_wp2
  clear hV p0 p1 p2 p3 q0 q1 q2 q3 q4 r0 r1 r2 r3
  go_region_held3 (fun w' => w'.cell? ⟨W.heap.size + 1 + 1 + 1, 4, none⟩ = some (.slice (some ⟨kb, ko, none⟩) n ca) ∧ w'.cell? ⟨W.heap.size + 1, 0, none⟩ = some (.bool false) ∧ w'.cell? ⟨W.heap.size + 1, 1, none⟩ = some (.int .i64 a1) ∧ w'.cell? ⟨W.heap.size + 1, 2, none⟩ = some (.string a2) ∧ w'.cell? ⟨W.heap.size + 1, 3, none⟩ = some (.slice uo un uc) ∧ w'.cell? ⟨W.heap.size + 1 + 1, 0, none⟩ = some (.bool false) ∧ w'.cell? ⟨W.heap.size + 1 + 1, 1, none⟩ = some (.int .i64 b1) ∧ w'.cell? ⟨W.heap.size + 1 + 1, 2, none⟩ = some (.string b2) ∧ w'.cell? ⟨W.heap.size + 1 + 1, 3, none⟩ = some (.slice vo vn vc) ∧ w'.cell? ⟨kb, ko, none⟩ = some (.string k0) ∧ w'.cell? ⟨kb, ko + 1, none⟩ = some (.bool k1) ∧ w'.cell? ⟨kb, ko + 2, none⟩ = some (.int .i64 k2) ∧ w'.cell? ⟨kb, ko + 3, none⟩ = some (.int .i64 k3) ∧ w'.cell? ⟨kb, ko + 4, none⟩ = some (.int .i64 k4) ∧ w'.cell? ⟨kb, ko + 5, none⟩ = some (.int .i64 k5) ∧ w'.cell? ⟨kb, ko + 6, none⟩ = some (.slice kp kn kc)) (first | with_reducible exact HC.out | with_reducible exact ⟨gr_c HE.out (HC.out.1), gr_c HE.out (HC.out.2.1), gr_c HE.out (HC.out.2.2.1), gr_c HE.out (HC.out.2.2.2.1), gr_c HE.out (HC.out.2.2.2.2.1), gr_c HE.out (HC.out.2.2.2.2.2.1), gr_c HE.out (HC.out.2.2.2.2.2.2.1), gr_c HE.out (HC.out.2.2.2.2.2.2.2.1), gr_c HE.out (HC.out.2.2.2.2.2.2.2.2.1), gr_c HE.out (HC.out.2.2.2.2.2.2.2.2.2.1), gr_c HE.out (HC.out.2.2.2.2.2.2.2.2.2.2.1), gr_c HE.out (HC.out.2.2.2.2.2.2.2.2.2.2.2.1), gr_c HE.out (HC.out.2.2.2.2.2.2.2.2.2.2.2.2.1), gr_c HE.out (HC.out.2.2.2.2.2.2.2.2.2.2.2.2.2.1), gr_c HE.out (HC.out.2.2.2.2.2.2.2.2.2.2.2.2.2.2.1), gr_c HE.out (HC.out.2.2.2.2.2.2.2.2.2.2.2.2.2.2.2)⟩) ((go_at_call 41; refine Calls.mono (HF.out _ HGd.out) ?_; rintro e w2 ⟨rfl, hg2⟩; have HE := hidM hg2; clear hg2))
  all_goals
    go_wp2_with fail
    go_ret
    exact ⟨rfl, HG.out.drew.trans HE.out (fun _ _ h => h)⟩
set_option maxRecDepth 100000 in
set_option maxHeartbeats 2000000 in
theorem cmp18 (f0 : ByteArray) (f1 : Bool) (f3 f4 f5 : Int) (n ca : Nat) (a1 b1 : Int) (a2 b2 : ByteArray) (uo vo : Option Addr) (un uc vn vc : Nat) (w : World) (z : Int) (kb ko : Nat) (k0 : ByteArray) (k1 : Bool) (k2 k3 k4 k5 : Int) (kp : Option Addr) (kn kc : Nat) (j xb xo yb yo : Nat) (x0 y0 : Bool) (x1 y1 : Int) (x2 y2 : ByteArray) (xp yp : Option Addr) (xn xc yn yc : Nat) (hj : j < n) (hn : n ≤ 1000000000000) (g0 : w.cell? ⟨kb, ko + j * 7, none⟩ = some (.string k0)) (g1 : w.cell? ⟨kb, ko + j * 7 + 1, none⟩ = some (.bool k1)) (g2 : w.cell? ⟨kb, ko + j * 7 + 2, none⟩ = some (.int .i64 k2)) (g3 : w.cell? ⟨kb, ko + j * 7 + 3, none⟩ = some (.int .i64 k3)) (g4 : w.cell? ⟨kb, ko + j * 7 + 4, none⟩ = some (.int .i64 k4)) (g5 : w.cell? ⟨kb, ko + j * 7 + 5, none⟩ = some (.int .i64 k5)) (g6 : w.cell? ⟨kb, ko + j * 7 + 6, none⟩ = some (.slice kp kn kc)) (x0c : w.cell? ⟨xb, xo, none⟩ = some (.bool x0)) (x1c : w.cell? ⟨xb, xo + 1, none⟩ = some (.int .i64 x1)) (x2c : w.cell? ⟨xb, xo + 2, none⟩ = some (.string x2)) (x3c : w.cell? ⟨xb, xo + 3, none⟩ = some (.slice xp xn xc)) (y0c : w.cell? ⟨yb, yo, none⟩ = some (.bool y0)) (y1c : w.cell? ⟨yb, yo + 1, none⟩ = some (.int .i64 y1)) (y2c : w.cell? ⟨yb, yo + 2, none⟩ = some (.string y2)) (y3c : w.cell? ⟨yb, yo + 3, none⟩ = some (.slice yp yn yc)) (hF : IAns 41 #[.agg #[.string k0, .bool k1, .int .i64 k2, .int .i64 k3, .int .i64 k4, .int .i64 k5, .slice kp kn kc], .agg #[.bool x0, .int .i64 x1, .string x2, .slice xp xn xc], .agg #[.bool y0, .int .i64 y1, .string y2, .slice yp yn yc]] z w) :
    IAns 41 #[.agg #[.string f0, .bool f1, .int .i64 18, .int .i64 f3, .int .i64 f4, .int .i64 f5, .slice (some ⟨kb, ko, none⟩) n ca], .agg #[.bool false, .int .i64 (j : Int), .string a2, .slice (some ⟨xb, xo, none⟩) 1 uc], .agg #[.bool false, .int .i64 (j : Int), .string b2, .slice (some ⟨yb, yo, none⟩) 1 vc]] z w := by
  intro W g
  obtain ⟨V, hV⟩ : ∃ V, (((W.alloc (.cells #[.string f0, .bool f1, .int .i64 18, .int .i64 f3, .int .i64 f4, .int .i64 f5, .slice (some ⟨kb, ko, none⟩) n ca] 26)).alloc (.cells #[.bool false, .int .i64 (j : Int), .string a2, .slice (some ⟨xb, xo, none⟩) 1 uc] 29)).alloc (.cells #[.bool false, .int .i64 (j : Int), .string b2, .slice (some ⟨yb, yo, none⟩) 1 vc] 29)).alloc (.cells #[.int .i64 18, .int .i64 f3, .int .i64 f4, .int .i64 f5, .slice (some ⟨kb, ko, none⟩) n ca] 24) = V := ⟨_, rfl⟩
  have hA := alloc4 W (.cells #[.string f0, .bool f1, .int .i64 18, .int .i64 f3, .int .i64 f4, .int .i64 f5, .slice (some ⟨kb, ko, none⟩) n ca] 26) (.cells #[.bool false, .int .i64 (j : Int), .string a2, .slice (some ⟨xb, xo, none⟩) 1 uc] 29) (.cells #[.bool false, .int .i64 (j : Int), .string b2, .slice (some ⟨yb, yo, none⟩) 1 vc] 29) (.cells #[.int .i64 18, .int .i64 f3, .int .i64 f4, .int .i64 f5, .slice (some ⟨kb, ko, none⟩) n ca] 24)
  rw [hV] at hA
  obtain ⟨_, ba, bb, bt, gr⟩ := hA
  obtain ⟨p0, p1, p2, p3⟩ := B4.cells ba
  obtain ⟨r0, r1, r2, r3⟩ := B4.cells bb
  obtain ⟨q0, q1, q2, q3, q4⟩ := B5.cells bt
  have gg : Gr w V := g.trans gr (fun _ _ h => h)
  have hjI : (j : Int) < (n : Int) := by omega
  have hj0 : (0 : Int) ≤ (j : Int) := by omega
  have HF := hidM hF
  have HG := hidM gr
  have HGd : Hid (Gr w V.drew) := gg.drew
  have HC : Hid (V.drew.cell? ⟨W.heap.size + 1 + 1 + 1, 4, none⟩ = some (.slice (some ⟨kb, ko, none⟩) n ca) ∧ V.drew.cell? ⟨W.heap.size + 1, 1, none⟩ = some (.int .i64 (j : Int)) ∧ V.drew.cell? ⟨W.heap.size + 1, 3, none⟩ = some (.slice (some ⟨xb, xo, none⟩) 1 uc) ∧ V.drew.cell? ⟨W.heap.size + 1 + 1, 3, none⟩ = some (.slice (some ⟨yb, yo, none⟩) 1 vc) ∧ V.drew.cell? ⟨kb, ko + j * 7, none⟩ = some (.string k0) ∧ V.drew.cell? ⟨kb, ko + j * 7 + 1, none⟩ = some (.bool k1) ∧ V.drew.cell? ⟨kb, ko + j * 7 + 2, none⟩ = some (.int .i64 k2) ∧ V.drew.cell? ⟨kb, ko + j * 7 + 3, none⟩ = some (.int .i64 k3) ∧ V.drew.cell? ⟨kb, ko + j * 7 + 4, none⟩ = some (.int .i64 k4) ∧ V.drew.cell? ⟨kb, ko + j * 7 + 5, none⟩ = some (.int .i64 k5) ∧ V.drew.cell? ⟨kb, ko + j * 7 + 6, none⟩ = some (.slice kp kn kc) ∧ V.drew.cell? ⟨xb, xo, none⟩ = some (.bool x0) ∧ V.drew.cell? ⟨xb, xo + 1, none⟩ = some (.int .i64 x1) ∧ V.drew.cell? ⟨xb, xo + 2, none⟩ = some (.string x2) ∧ V.drew.cell? ⟨xb, xo + 3, none⟩ = some (.slice xp xn xc) ∧ V.drew.cell? ⟨yb, yo, none⟩ = some (.bool y0) ∧ V.drew.cell? ⟨yb, yo + 1, none⟩ = some (.int .i64 y1) ∧ V.drew.cell? ⟨yb, yo + 2, none⟩ = some (.string y2) ∧ V.drew.cell? ⟨yb, yo + 3, none⟩ = some (.slice yp yn yc)) := ⟨q4, p1, p3, r3, gr_c gg g0, gr_c gg g1, gr_c gg g2, gr_c gg g3, gr_c gg g4, gr_c gg g5, gr_c gg g6, gr_c gg x0c, gr_c gg x1c, gr_c gg x2c, gr_c gg x3c, gr_c gg y0c, gr_c gg y1c, gr_c gg y2c, gr_c gg y3c⟩
  clear ba bb bt gr g hF gg
  go_enter Tryd.func41, Tryd.ntmps41
  go_wp2
  clear hV p0 p1 p2 p3 q0 q1 q2 q3 q4 r0 r1 r2 r3
  go_region_held3 (fun w' => w'.cell? ⟨W.heap.size + 1 + 1 + 1, 4, none⟩ = some (.slice (some ⟨kb, ko, none⟩) n ca) ∧ w'.cell? ⟨W.heap.size + 1, 1, none⟩ = some (.int .i64 (j : Int)) ∧ w'.cell? ⟨W.heap.size + 1, 3, none⟩ = some (.slice (some ⟨xb, xo, none⟩) 1 uc) ∧ w'.cell? ⟨W.heap.size + 1 + 1, 3, none⟩ = some (.slice (some ⟨yb, yo, none⟩) 1 vc) ∧ w'.cell? ⟨kb, ko + j * 7, none⟩ = some (.string k0) ∧ w'.cell? ⟨kb, ko + j * 7 + 1, none⟩ = some (.bool k1) ∧ w'.cell? ⟨kb, ko + j * 7 + 2, none⟩ = some (.int .i64 k2) ∧ w'.cell? ⟨kb, ko + j * 7 + 3, none⟩ = some (.int .i64 k3) ∧ w'.cell? ⟨kb, ko + j * 7 + 4, none⟩ = some (.int .i64 k4) ∧ w'.cell? ⟨kb, ko + j * 7 + 5, none⟩ = some (.int .i64 k5) ∧ w'.cell? ⟨kb, ko + j * 7 + 6, none⟩ = some (.slice kp kn kc) ∧ w'.cell? ⟨xb, xo, none⟩ = some (.bool x0) ∧ w'.cell? ⟨xb, xo + 1, none⟩ = some (.int .i64 x1) ∧ w'.cell? ⟨xb, xo + 2, none⟩ = some (.string x2) ∧ w'.cell? ⟨xb, xo + 3, none⟩ = some (.slice xp xn xc) ∧ w'.cell? ⟨yb, yo, none⟩ = some (.bool y0) ∧ w'.cell? ⟨yb, yo + 1, none⟩ = some (.int .i64 y1) ∧ w'.cell? ⟨yb, yo + 2, none⟩ = some (.string y2) ∧ w'.cell? ⟨yb, yo + 3, none⟩ = some (.slice yp yn yc)) (first | with_reducible exact HC.out | with_reducible exact ⟨gr_c HE.out (HC.out.1), gr_c HE.out (HC.out.2.1), gr_c HE.out (HC.out.2.2.1), gr_c HE.out (HC.out.2.2.2.1), gr_c HE.out (HC.out.2.2.2.2.1), gr_c HE.out (HC.out.2.2.2.2.2.1), gr_c HE.out (HC.out.2.2.2.2.2.2.1), gr_c HE.out (HC.out.2.2.2.2.2.2.2.1), gr_c HE.out (HC.out.2.2.2.2.2.2.2.2.1), gr_c HE.out (HC.out.2.2.2.2.2.2.2.2.2.1), gr_c HE.out (HC.out.2.2.2.2.2.2.2.2.2.2.1), gr_c HE.out (HC.out.2.2.2.2.2.2.2.2.2.2.2.1), gr_c HE.out (HC.out.2.2.2.2.2.2.2.2.2.2.2.2.1), gr_c HE.out (HC.out.2.2.2.2.2.2.2.2.2.2.2.2.2.1), gr_c HE.out (HC.out.2.2.2.2.2.2.2.2.2.2.2.2.2.2.1), gr_c HE.out (HC.out.2.2.2.2.2.2.2.2.2.2.2.2.2.2.2.1), gr_c HE.out (HC.out.2.2.2.2.2.2.2.2.2.2.2.2.2.2.2.2.1), gr_c HE.out (HC.out.2.2.2.2.2.2.2.2.2.2.2.2.2.2.2.2.2.1), gr_c HE.out (HC.out.2.2.2.2.2.2.2.2.2.2.2.2.2.2.2.2.2.2)⟩) ((go_at_call 41; refine Calls.mono (HF.out _ HGd.out) ?_; rintro e w2 ⟨rfl, hg2⟩; have HE := hidM hg2; clear hg2))
  all_goals
    go_wp2_with fail
    go_ret
    exact ⟨rfl, HG.out.drew.trans HE.out (fun _ _ h => h)⟩
set_option maxRecDepth 100000 in
set_option maxHeartbeats 2000000 in
theorem cmp11 (f0 : ByteArray) (f1 : Bool) (f3 f4 f5 : Int) (ao : Option Addr) (n ca : Nat) (a1 b1 : Int) (a2 b2 : ByteArray) (uo vo : Option Addr) (un uc vn vc : Nat) (w : World) (z : Int) (ha : is64 a1) (hb : is64 b1) (hz : z = cmpI (rankOf a1) (rankOf b1)) :
    IAns 41 #[.agg #[.string f0, .bool f1, .int .i64 11, .int .i64 f3, .int .i64 f4, .int .i64 f5, .slice ao n ca], .agg #[.bool false, .int .i64 a1, .string a2, .slice uo un uc], .agg #[.bool false, .int .i64 b1, .string b2, .slice vo vn vc]] z w := by
  intro W g
  obtain ⟨V, hV⟩ : ∃ V, (((W.alloc (.cells #[.string f0, .bool f1, .int .i64 11, .int .i64 f3, .int .i64 f4, .int .i64 f5, .slice ao n ca] 26)).alloc (.cells #[.bool false, .int .i64 a1, .string a2, .slice uo un uc] 29)).alloc (.cells #[.bool false, .int .i64 b1, .string b2, .slice vo vn vc] 29)).alloc (.cells #[.int .i64 11, .int .i64 f3, .int .i64 f4, .int .i64 f5, .slice ao n ca] 24) = V := ⟨_, rfl⟩
  have hA := alloc4 W (.cells #[.string f0, .bool f1, .int .i64 11, .int .i64 f3, .int .i64 f4, .int .i64 f5, .slice ao n ca] 26) (.cells #[.bool false, .int .i64 a1, .string a2, .slice uo un uc] 29) (.cells #[.bool false, .int .i64 b1, .string b2, .slice vo vn vc] 29) (.cells #[.int .i64 11, .int .i64 f3, .int .i64 f4, .int .i64 f5, .slice ao n ca] 24)
  rw [hV] at hA
  obtain ⟨_, ba, bb, bt, gr⟩ := hA
  obtain ⟨p0, p1, p2, p3⟩ := B4.cells ba
  obtain ⟨r0, r1, r2, r3⟩ := B4.cells bb
  obtain ⟨q0, q1, q2, q3, q4⟩ := B5.cells bt
  have HG := hidM gr
  have HA := hidM (fun W => rank_any a1 ha W)
  have HB := hidM (fun W => rank_any b1 hb W)
  have H59 : Hid (∀ W, Calls Tryd.prog 59 #[.int .i64 (rankOf a1), .int .i64 (rankOf b1)] W fun e w' => e = .returned (.int .i64 z) ∧ W = w') := fun W => by rw [hz]; exact cmp64_any _ _ W
  obtain ⟨ra, hra⟩ : ∃ ra, ra = rankOf a1 := ⟨_, rfl⟩
  obtain ⟨rb, hrb⟩ : ∃ rb, rb = rankOf b1 := ⟨_, rfl⟩
  rw [← hra] at HA H59
  rw [← hrb] at HB H59
  clear ba bb bt gr g hz ha hb hra hrb
  go_enter Tryd.func41, Tryd.ntmps41
  go_wp2
  clear hV p0 p2 p3 q0 q1 q2 q3 q4 r0 r2 r3
  go_region_held3 (fun w' => w'.cell? ⟨W.heap.size + 1, 1, none⟩ = some (.int .i64 a1) ∧ w'.cell? ⟨W.heap.size + 1 + 1, 1, none⟩ = some (.int .i64 b1)) (first | with_reducible exact ⟨p1, r1⟩ | go_keep) (first | ((with_reducible show Calls _ _ #[.int .i64 a1] _ _); refine Calls.mono (HA.out _) ?_; rintro e w2 ⟨rfl, rfl⟩) | ((with_reducible show Calls _ _ #[.int .i64 b1] _ _); refine Calls.mono (HB.out _) ?_; rintro e w2 ⟨rfl, rfl⟩) | (go_at_call 59; refine Calls.mono (H59.out _) ?_; rintro e w2 ⟨rfl, rfl⟩))
  all_goals
    go_wp2_with fail
    go_ret
    exact ⟨rfl, HG.out.drew⟩
end Go.Proofs.YtcfdkadhclickaaDoor.Kit
