import Derived.Test.YtcfdkadhclickaaDoorZR
import Derived.Test.YtcfdkadhclickaaDoorZP
namespace Go.Proofs.YtcfdkadhclickaaDoor.Kit
open Go.RowKit Go.Shelf Go.Deep
set_option linter.unusedVariables false
attribute [local go_sem] run_store_func

/-! ### ValueFits: what the calls answer behind own and Twin -/
structure FaQ (V : World) (base : Nat) (F G T U : Value) (D : Nat) (zv : VT) (er e : Int) (few : Bool) : Prop where
  six : IAns 6 #[G, T] e V
  stay : Ans 11 #[T, U] true V
  z12 : ZeR 12 V F D zv er
  z13 : ZeR 13 V G D zv er
  fit : er = 0 → ∀ W lo hi o c, Gr V W → hi ≤ W.heap.size → ZRow W D lo hi o c zv.list → IAns 6 #[G, .agg #[.bool zv.nul, .int .i64 zv.num, .string zv.text, .slice o zv.list.length c]] 0 W
  cnt : cnt D zv.list ≤ 400000000
  again : few = true → ∀ W, Gr V W → Calls Tryd.prog 17 #[G, T, F] W fun e w' => e = .returned (.bool true) ∧ Keeps W w' (fun z => base ≤ z)
/-- the law's boxes -/
structure BxF (V : World) (X Cg Ct N : Nat) (f : FT) (v : VT) (ao uo go : Option Addr) (ca uc gc tb : Nat) : Prop where
  bf : B7 V X f.name f.nul f.kind f.width f.id f.index ao f.kids.length ca
  bv : B4 V (X + 1) v.nul v.num v.text uo v.list.length uc
  bg : B7 V Cg f.name f.nul f.kind f.width f.id f.index go f.kids.length gc
  bt : B4 V Ct v.nul v.num v.text (some ⟨tb, 0, none⟩) v.list.length (v.list.length + 2)
  lt : X + 1 < N ∧ Cg < N ∧ Ct < N
theorem BxF.kp {V V' : World} {X Cg Ct N : Nat} {S : Nat → Prop} {f : FT} {v : VT} {ao uo go : Option Addr} {ca uc gc tb : Nat} (h : BxF V X Cg Ct N f v ao uo go ca uc gc tb) (k : Keeps V V' S) (hS : ∀ z, z < N → ¬ S z) : BxF V' X Cg Ct N f v ao uo go ca uc gc tb :=
  ⟨(k.block _ (lt_of_heap h.bf) (hS _ (by have := h.lt; omega))).trans h.bf, (k.block _ (lt_of_heap h.bv) (hS _ (by have := h.lt; omega))).trans h.bv, (k.block _ (lt_of_heap h.bg) (hS _ (by have := h.lt; omega))).trans h.bg, (k.block _ (lt_of_heap h.bt) (hS _ (by have := h.lt; omega))).trans h.bt, h.lt⟩
theorem B4.gr {V V' : World} {C : Nat} {v0 : Bool} {v1 : Int} {v2 : ByteArray} {vo : Option Addr} {m vc : Nat} (h : B4 V C v0 v1 v2 vo m vc) (k : Gr V V') : B4 V' C v0 v1 v2 vo m vc := (k.block _ (lt_of_heap h) id).trans h
theorem ZRow.gr {W W' : World} {d lo hi ca : Nat} {ao : Option Addr} {l : List VT} (h : ZRow W d lo hi ao ca l) (g : Gr W W') (hh : hi ≤ W.heap.size) : ZRow W' d lo hi ao ca l := h.kept fun b _ h2 => g.block b (by omega) id
theorem book_new (W : World) : BkV (W.alloc (.cells #[.slice none 0 0, .slice none 0 0, .slice none 0 0, .slice none 0 0] 43)) W.heap.size none 0 [] none 0 0 :=
  ⟨heap_alloc_new W _, rfl, .inl ⟨rfl, rfl⟩⟩
theorem s12_gr {W W' : World} {Cx Cy Cz : Nat} {zv : VT} {ox oy oz : Option Addr} {cx cy cz : Nat} (g : Gr W W') (h : W.cell? ⟨Cx, 0, none⟩ = some (.bool zv.nul) ∧ W.cell? ⟨Cx, 1, none⟩ = some (.int .i64 zv.num) ∧ W.cell? ⟨Cx, 2, none⟩ = some (.string zv.text) ∧ W.cell? ⟨Cx, 3, none⟩ = some (.slice ox zv.list.length cx) ∧ W.cell? ⟨Cy, 0, none⟩ = some (.bool zv.nul) ∧ W.cell? ⟨Cy, 1, none⟩ = some (.int .i64 zv.num) ∧ W.cell? ⟨Cy, 2, none⟩ = some (.string zv.text) ∧ W.cell? ⟨Cy, 3, none⟩ = some (.slice oy zv.list.length cy) ∧ W.cell? ⟨Cz, 0, none⟩ = some (.bool zv.nul) ∧ W.cell? ⟨Cz, 1, none⟩ = some (.int .i64 zv.num) ∧ W.cell? ⟨Cz, 2, none⟩ = some (.string zv.text) ∧ W.cell? ⟨Cz, 3, none⟩ = some (.slice oz zv.list.length cz)) : W'.cell? ⟨Cx, 0, none⟩ = some (.bool zv.nul) ∧ W'.cell? ⟨Cx, 1, none⟩ = some (.int .i64 zv.num) ∧ W'.cell? ⟨Cx, 2, none⟩ = some (.string zv.text) ∧ W'.cell? ⟨Cx, 3, none⟩ = some (.slice ox zv.list.length cx) ∧ W'.cell? ⟨Cy, 0, none⟩ = some (.bool zv.nul) ∧ W'.cell? ⟨Cy, 1, none⟩ = some (.int .i64 zv.num) ∧ W'.cell? ⟨Cy, 2, none⟩ = some (.string zv.text) ∧ W'.cell? ⟨Cy, 3, none⟩ = some (.slice oy zv.list.length cy) ∧ W'.cell? ⟨Cz, 0, none⟩ = some (.bool zv.nul) ∧ W'.cell? ⟨Cz, 1, none⟩ = some (.int .i64 zv.num) ∧ W'.cell? ⟨Cz, 2, none⟩ = some (.string zv.text) ∧ W'.cell? ⟨Cz, 3, none⟩ = some (.slice oz zv.list.length cz) :=
  ⟨gr_c g (h.1), gr_c g (h.2.1), gr_c g (h.2.2.1), gr_c g (h.2.2.2.1), gr_c g (h.2.2.2.2.1), gr_c g (h.2.2.2.2.2.1), gr_c g (h.2.2.2.2.2.2.1), gr_c g (h.2.2.2.2.2.2.2.1), gr_c g (h.2.2.2.2.2.2.2.2.1), gr_c g (h.2.2.2.2.2.2.2.2.2.1), gr_c g (h.2.2.2.2.2.2.2.2.2.2.1), gr_c g (h.2.2.2.2.2.2.2.2.2.2.2)⟩
set_option maxRecDepth 100000 in
set_option maxHeartbeats 16000000 in
theorem law3_walk (f : FT) (v zv : VT) (ao uo : Option Addr) (ca uc : Nat) (w : World) (DD DC DT : Nat) (e0 er : Int) (hv : Bool)
    (hK : IAns 6 #[.agg #[.string ⟨#[97]⟩, .bool false, .int .i64 2, .int .i64 0, .int .i64 0, .int .i64 0, .slice none 0 0], .agg #[.bool false, .int .i64 2, .string ⟨#[]⟩, .slice none 0 0]] 7 w) (h7 : IAns 7 #[.agg #[.string f.name, .bool f.nul, .int .i64 f.kind, .int .i64 f.width, .int .i64 f.id, .int .i64 f.index, .slice ao f.kids.length ca], .agg #[.bool v.nul, .int .i64 v.num, .string v.text, .slice uo v.list.length uc]] e0 w) (h6 : IAns 6 #[.agg #[.string f.name, .bool f.nul, .int .i64 f.kind, .int .i64 f.width, .int .i64 f.id, .int .i64 f.index, .slice ao f.kids.length ca], .agg #[.bool v.nul, .int .i64 v.num, .string v.text, .slice uo v.list.length uc]] e0 w) (h8 : Ans 8 #[.agg #[.bool v.nul, .int .i64 v.num, .string v.text, .slice uo v.list.length uc]] hv w)
    (h9 : ∀ W, Gr w W → Calls Tryd.prog 9 #[.agg #[.string f.name, .bool f.nul, .int .i64 f.kind, .int .i64 f.width, .int .i64 f.id, .int .i64 f.index, .slice ao f.kids.length ca]] W (OwnQ W f ao ca DC)) (h10 : TwC w v uo uc DT)
    (hph : ∀ V go gc few tb lo hi lo' hi', Gr w V → w.heap.size ≤ lo → hi ≤ lo' → hi' ≤ V.heap.size → (few = false ∧ go = ao ∧ gc = ca ∨ few = true ∧ gc = f.kids.length ∧ CRow V DC lo hi go f.kids) → TRow V DT lo' hi' (some ⟨tb, 0, none⟩) v.list →
      FaQ V w.heap.size (.agg #[.string f.name, .bool f.nul, .int .i64 f.kind, .int .i64 f.width, .int .i64 f.id, .int .i64 f.index, .slice ao f.kids.length ca]) (.agg #[.string f.name, .bool f.nul, .int .i64 f.kind, .int .i64 f.width, .int .i64 f.id, .int .i64 f.index, .slice go f.kids.length gc]) (.agg #[.bool v.nul, .int .i64 v.num, .string v.text, .slice (some ⟨tb, 0, none⟩) v.list.length (v.list.length + 2)]) (.agg #[.bool v.nul, .int .i64 v.num, .string v.text, .slice uo v.list.length uc]) DD zv er e0 few) :
    Calls Tryd.prog 3 #[.agg #[.string f.name, .bool f.nul, .int .i64 f.kind, .int .i64 f.width, .int .i64 f.id, .int .i64 f.index, .slice ao f.kids.length ca], .agg #[.bool v.nul, .int .i64 v.num, .string v.text, .slice uo v.list.length uc]] w fun e w' => e = .returned (.bool true) ∧ Gr w w' := by
  have HK := hidM hK
  have H7 := hidM h7
  have H6 := hidM h6
  have H8 := hidM h8
  have H9 := hidM h9
  have H10 := hidM h10
  have Hph := hidM hph
  obtain ⟨V, hV⟩ : ∃ V, (w.alloc (.cells #[.string f.name, .bool f.nul, .int .i64 f.kind, .int .i64 f.width, .int .i64 f.id, .int .i64 f.index, .slice ao f.kids.length ca] 26)).alloc (.cells #[.bool v.nul, .int .i64 v.num, .string v.text, .slice uo v.list.length uc] 29) = V := ⟨_, rfl⟩
  have hA := alloc2 w (.cells #[.string f.name, .bool f.nul, .int .i64 f.kind, .int .i64 f.width, .int .i64 f.id, .int .i64 f.index, .slice ao f.kids.length ca] 26) (.cells #[.bool v.nul, .int .i64 v.num, .string v.text, .slice uo v.list.length uc] 29)
  rw [hV] at hA
  have HBf : Hid (B7 V w.heap.size f.name f.nul f.kind f.width f.id f.index ao f.kids.length ca) := hA.1
  have HBv : Hid (B4 V (w.heap.size + 1) v.nul v.num v.text uo v.list.length uc) := hA.2.1
  have HG := hidM hA.2.2
  have HV := hidM hV
  obtain ⟨X, hX⟩ : ∃ X, X = w.heap.size := ⟨_, rfl⟩
  clear hK h7 h6 h8 h9 h10 hph hV hA
  go_enter Tryd.func3, Tryd.ntmps3
  go_wp2_with (go_at_call 6; refine Hid.out ?_)
  unfold Hid
  rw [HV.out]
  refine Calls.mono (HK.out _ HG.out) ?_
  rintro e' V1 ⟨rfl, hg⟩
  replace HBf := hidM ((hg.block _ (lt_of_heap HBf.out) id).trans HBf.out)
  replace HBv := hidM ((hg.block _ (lt_of_heap HBv.out) id).trans HBv.out)
  replace HG := hidM (HG.out.trans hg (fun _ _ h => h))
  clear hg HV 
  rw [← hX] at HBf HBv ⊢
  have HX := hidM hX
  clear hX
  obtain ⟨p0, p1, p2, p3, p4, p5, p6⟩ := B7.cells HBf.out
  obtain ⟨q0, q1, q2, q3⟩ := B4.cells HBv.out
  go_wp2_with (go_at_call 7; refine Hid.out ?_)
  unfold Hid
  refine Calls.mono (H7.out _ HG.out) ?_
  rintro e' V2 ⟨rfl, hg⟩
  replace HBf := hidM ((hg.block _ (lt_of_heap HBf.out) id).trans HBf.out)
  replace HBv := hidM ((hg.block _ (lt_of_heap HBv.out) id).trans HBv.out)
  replace HG := hidM (HG.out.trans hg (fun _ _ h => h))
  clear hg p0 p1 p2 p3 p4 p5 p6 q0 q1 q2 q3
  obtain ⟨q0, q1, q2, q3⟩ := B4.cells HBv.out
  go_wp2_with (go_at_call 8; refine Hid.out ?_)
  unfold Hid
  refine Calls.mono (H8.out _ HG.out) ?_
  rintro e' V3 ⟨rfl, hg⟩
  replace HBf := hidM ((hg.block _ (lt_of_heap HBf.out) id).trans HBf.out)
  replace HBv := hidM ((hg.block _ (lt_of_heap HBv.out) id).trans HBv.out)
  replace HG := hidM (HG.out.trans hg (fun _ _ h => h))
  clear hg q0 q1 q2 q3
  cases hv with
  | true =>
    obtain ⟨p0, p1, p2, p3, p4, p5, p6⟩ := B7.cells HBf.out
    obtain ⟨q0, q1, q2, q3⟩ := B4.cells HBv.out
    go_wp2_with (go_at_call 6; refine Hid.out ?_)
    unfold Hid
    refine Calls.mono (H6.out _ HG.out) ?_
    rintro e' Z1 ⟨rfl, hg⟩
    replace HBf := hidM ((hg.block _ (lt_of_heap HBf.out) id).trans HBf.out)
    replace HBv := hidM ((hg.block _ (lt_of_heap HBv.out) id).trans HBv.out)
    replace HG := hidM (HG.out.trans hg (fun _ _ h => h))
    clear hg p0 p1 p2 p3 p4 p5 p6 q0 q1 q2 q3
    go_wp2_with fail
    all_goals go_ret
    all_goals exact ⟨by first | rfl | simp, HG.out⟩
  | false =>
    obtain ⟨p0, p1, p2, p3, p4, p5, p6⟩ := B7.cells HBf.out
    go_wp2_with (go_at_call 9; refine Hid.out ?_)
    unfold Hid
    refine Calls.mono (H9.out _ HG.out) ?_
    rintro e' V4 ⟨go, gc, few, rfl, hg, hfew⟩
    have HN0 : Hid (X + 1 < V3.heap.size ∧ w.heap.size ≤ V3.heap.size) := ⟨lt_of_heap HBv.out, HG.out.size⟩
    replace HBf := hidM ((hg.block _ (lt_of_heap HBf.out) id).trans HBf.out)
    replace HBv := hidM ((hg.block _ (lt_of_heap HBv.out) id).trans HBv.out)
    replace HG := hidM (HG.out.trans hg (fun _ _ h => h))
    obtain ⟨V5, hV5⟩ : ∃ V5, V4.alloc (.cells #[.string f.name, .bool f.nul, .int .i64 f.kind, .int .i64 f.width, .int .i64 f.id, .int .i64 f.index, .slice go f.kids.length gc] 26) = V5 := ⟨_, rfl⟩
    have g5 : Gr V4 V5 := by rw [← hV5]; exact gr_alloc V4 _
    have hbg : B7 V5 V4.heap.size f.name f.nul f.kind f.width f.id f.index go f.kids.length gc := by unfold B7; rw [← hV5]; exact heap_alloc_new V4 _
    have hs5 : V5.heap.size = V4.heap.size + 1 := by rw [← hV5]; simp
    obtain ⟨Cg, hCg⟩ : ∃ Cg, Cg = V4.heap.size := ⟨_, rfl⟩
    rw [← hCg] at hbg hs5
    have HFe : Hid (few = false ∧ go = ao ∧ gc = ca ∨ few = true ∧ gc = f.kids.length ∧ CRow V5 DC V3.heap.size Cg go f.kids) := hfew.imp id fun h => ⟨h.1, h.2.1, by rw [hCg]; exact h.2.2.kept fun c _ h2 => g5.block c h2 id⟩
    have hs34 := hg.size
    have HN1 : Hid (X + 1 < V3.heap.size ∧ w.heap.size ≤ V3.heap.size ∧ V3.heap.size ≤ Cg ∧ V5.heap.size = Cg + 1) := ⟨HN0.out.1, HN0.out.2, by omega, hs5⟩
    have HBg := hidM hbg
    replace HBf := hidM ((g5.block _ (lt_of_heap HBf.out) id).trans HBf.out)
    replace HBv := hidM ((g5.block _ (lt_of_heap HBv.out) id).trans HBv.out)
    replace HG := hidM (HG.out.trans g5 (fun _ _ h => h))
    clear hg hfew g5 hbg hs5 hs34 HN0 p0 p1 p2 p3 p4 p5 p6
    obtain ⟨q0, q1, q2, q3⟩ := B4.cells HBv.out
    go_wp2_with (go_at_call 10; refine Hid.out ?_)
    unfold Hid
    clear hV5
    rw [← hCg]
    clear hCg
    refine Calls.mono (H10.out _ HG.out) ?_
    rintro e' V6 ⟨tb, rfl, hg, hT⟩
    obtain ⟨V7, hV7⟩ : ∃ V7, V6.alloc (.cells #[.bool v.nul, .int .i64 v.num, .string v.text, .slice (some ⟨tb, 0, none⟩) v.list.length (v.list.length + 2)] 29) = V7 := ⟨_, rfl⟩
    have g7 : Gr V6 V7 := by rw [← hV7]; exact gr_alloc V6 _
    have hbt : B4 V7 V6.heap.size v.nul v.num v.text (some ⟨tb, 0, none⟩) v.list.length (v.list.length + 2) := by unfold B4; rw [← hV7]; exact heap_alloc_new V6 _
    have hs7 : V7.heap.size = V6.heap.size + 1 := by rw [← hV7]; simp
    obtain ⟨Ct, hCt⟩ : ∃ Ct, Ct = V6.heap.size := ⟨_, rfl⟩
    obtain ⟨s0, s1, s2, s3⟩ := B4.cells hbt
    rw [← hCt] at hbt hs7
    have hs56 := hg.size
    have g57 := hg.trans g7 (fun _ _ h => h)
    obtain ⟨N, hN⟩ : ∃ N, N = V7.heap.size := ⟨_, rfl⟩
    have HB : Hid (BxF V7 X Cg Ct N f v ao uo go ca uc gc tb) := ⟨(g57.block _ (lt_of_heap HBf.out) id).trans HBf.out, (g57.block _ (lt_of_heap HBv.out) id).trans HBv.out, (g57.block _ (lt_of_heap HBg.out) id).trans HBg.out, hbt, by have := HN1.out; omega⟩
    replace HG := hidM (HG.out.trans g57 (fun _ _ h => h))
    have HPh := hidM (Hph.out V7 go gc few tb V3.heap.size Cg V5.heap.size Ct HG.out (by have := HN1.out; omega) (by have := HN1.out; omega) (by omega) (HFe.out.imp id fun h => ⟨h.1, h.2.1, h.2.2.kept fun c _ h2 => g57.block c (by have := HN1.out; omega) id⟩) (by rw [hCt]; exact hT.kept fun c _ h2 => g7.block c h2 id))
    have HNN : Hid (N = V7.heap.size ∧ w.heap.size ≤ N) := ⟨hN, by have := HN1.out; omega⟩
    clear hg hT g7 hbt hs7 hs56 g57 hN HBf HBv HBg HFe HN1 H7 H6 H8 H9 H10 Hph HK q0 q1 q2 q3
    have HQ : Hid (Gr V7 V7) := Keeps.refl _ _
    have H6 := hidM HPh.out.six
    have H11 := hidM HPh.out.stay
    have H12 := hidM HPh.out.z12
    have H13 := hidM HPh.out.z13
    obtain ⟨r0, r1, r2, r3, r4, r5, r6⟩ := B7.cells HB.out.bg
    go_wp2_with (go_at_call 6; refine Hid.out ?_)
    unfold Hid
    clear hV7
    rw [← hCt]
    clear hCt
    refine Calls.mono (H6.out _ HQ.out) ?_
    rintro e' V8 ⟨rfl, hg⟩
    replace HB := hidM (HB.out.kp hg (fun _ _ h => h))
    replace HQ := hidM (HQ.out.trans hg (fun _ _ h => h))
    clear hg r0 r1 r2 r3 r4 r5 r6 s0 s1 s2 s3
    obtain ⟨s0, s1, s2, s3⟩ := B4.cells HB.out.bt
    obtain ⟨q0, q1, q2, q3⟩ := B4.cells HB.out.bv
    go_wp2_with (go_at_call 11; refine Hid.out ?_)
    unfold Hid
    refine Calls.mono (H11.out _ HQ.out) ?_
    rintro e' V9 ⟨rfl, hg⟩
    replace HB := hidM (HB.out.kp hg (fun _ _ h => h))
    replace HQ := hidM (HQ.out.trans hg (fun _ _ h => h))
    clear hg s0 s1 s2 s3 q0 q1 q2 q3
    obtain ⟨p0, p1, p2, p3, p4, p5, p6⟩ := B7.cells HB.out.bf
    go_wp2_with (go_at_call 12; refine Hid.out ?_)
    unfold Hid
    refine Calls.mono (H12.out _ HQ.out) ?_
    rintro e' VBa ⟨ox, cx, rfl, hg, hz⟩
    have hq0 := HQ.out.size
    replace HB := hidM (HB.out.kp hg (fun _ _ h => h))
    replace HQ := hidM (HQ.out.trans hg (fun _ _ h => h))
    obtain ⟨VB, hVB⟩ : ∃ Y, VBa.alloc (.cells #[.bool zv.nul, .int .i64 zv.num, .string zv.text, .slice ox zv.list.length cx] 29) = Y := ⟨_, rfl⟩
    have ga : Gr VBa VB := by rw [← hVB]; exact gr_alloc VBa _
    have hb : B4 VB VBa.heap.size zv.nul zv.num zv.text ox zv.list.length cx := by unfold B4; rw [← hVB]; exact heap_alloc_new VBa _
    have hs : VB.heap.size = VBa.heap.size + 1 := by rw [← hVB]; simp
    obtain ⟨Cx, hCx⟩ : ∃ C, C = VBa.heap.size := ⟨_, rfl⟩
    rw [← hCx] at hb hs
    have hs0 := hg.size
    obtain ⟨Lx, hLx⟩ : ∃ l, l = V9.heap.size := ⟨_, rfl⟩
    have HZx : Hid (ZRow VB DD Lx Cx ox cx zv.list) := by show ZRow _ _ _ _ _ _ _; rw [hLx, hCx]; exact hz.kept fun b _ h2 => ga.block b h2 id
    have HSx : Hid (N ≤ Lx ∧ Lx ≤ Cx ∧ VB.heap.size = Cx + 1 ∧ Lx = V9.heap.size) := ⟨by have := HNN.out; omega, by omega, hs, hLx⟩
    replace HB := hidM (HB.out.kp ga (fun _ _ h => h))
    replace HQ := hidM (HQ.out.trans ga (fun _ _ h => h))
    have HBx := hidM hb
    clear hg hz ga hb hs hs0 hq0 hLx p0 p1 p2 p3 p4 p5 p6
    obtain ⟨r0, r1, r2, r3, r4, r5, r6⟩ := B7.cells HB.out.bg
    go_wp2_with (go_at_call 13; refine Hid.out ?_)
    unfold Hid
    clear hVB
    rw [← hCx]
    clear hCx
    refine Calls.mono (H13.out _ HQ.out) ?_
    rintro e' VDa ⟨oy, cy, rfl, hg, hz⟩
    have hq0 := HQ.out.size
    replace HB := hidM (HB.out.kp hg (fun _ _ h => h))
    replace HZx := hidM (HZx.out.gr hg (Nat.le_of_lt (lt_of_heap HBx.out)))
    replace HBx := hidM (HBx.out.gr hg)
    replace HQ := hidM (HQ.out.trans hg (fun _ _ h => h))
    obtain ⟨VD, hVD⟩ : ∃ Y, VDa.alloc (.cells #[.bool zv.nul, .int .i64 zv.num, .string zv.text, .slice oy zv.list.length cy] 29) = Y := ⟨_, rfl⟩
    have ga : Gr VDa VD := by rw [← hVD]; exact gr_alloc VDa _
    have hb : B4 VD VDa.heap.size zv.nul zv.num zv.text oy zv.list.length cy := by unfold B4; rw [← hVD]; exact heap_alloc_new VDa _
    have hs : VD.heap.size = VDa.heap.size + 1 := by rw [← hVD]; simp
    obtain ⟨Cy, hCy⟩ : ∃ C, C = VDa.heap.size := ⟨_, rfl⟩
    rw [← hCy] at hb hs
    have hs0 := hg.size
    obtain ⟨Ly, hLy⟩ : ∃ l, l = VB.heap.size := ⟨_, rfl⟩
    have HZy : Hid (ZRow VD DD Ly Cy oy cy zv.list) := by show ZRow _ _ _ _ _ _ _; rw [hLy, hCy]; exact hz.kept fun b _ h2 => ga.block b h2 id
    have HSy : Hid (N ≤ Ly ∧ Ly ≤ Cy ∧ VD.heap.size = Cy + 1 ∧ Ly = VB.heap.size) := ⟨by have := HNN.out; omega, by omega, hs, hLy⟩
    replace HB := hidM (HB.out.kp ga (fun _ _ h => h))
    replace HZx := hidM (HZx.out.gr ga (Nat.le_of_lt (lt_of_heap HBx.out)))
    replace HBx := hidM (HBx.out.gr ga)
    replace HQ := hidM (HQ.out.trans ga (fun _ _ h => h))
    have HBy := hidM hb
    clear hg hz ga hb hs hs0 hq0 hLy r0 r1 r2 r3 r4 r5 r6
    obtain ⟨r0, r1, r2, r3, r4, r5, r6⟩ := B7.cells HB.out.bg
    go_wp2_with (go_at_call 13; refine Hid.out ?_)
    unfold Hid
    clear hVD
    rw [← hCy]
    clear hCy
    refine Calls.mono (H13.out _ HQ.out) ?_
    rintro e' VFa ⟨oz, cz, rfl, hg, hz⟩
    have hq0 := HQ.out.size
    replace HB := hidM (HB.out.kp hg (fun _ _ h => h))
    replace HZx := hidM (HZx.out.gr hg (Nat.le_of_lt (lt_of_heap HBx.out)))
    replace HBx := hidM (HBx.out.gr hg)
    replace HZy := hidM (HZy.out.gr hg (Nat.le_of_lt (lt_of_heap HBy.out)))
    replace HBy := hidM (HBy.out.gr hg)
    replace HQ := hidM (HQ.out.trans hg (fun _ _ h => h))
    obtain ⟨VF, hVF⟩ : ∃ Y, VFa.alloc (.cells #[.bool zv.nul, .int .i64 zv.num, .string zv.text, .slice oz zv.list.length cz] 29) = Y := ⟨_, rfl⟩
    have ga : Gr VFa VF := by rw [← hVF]; exact gr_alloc VFa _
    have hb : B4 VF VFa.heap.size zv.nul zv.num zv.text oz zv.list.length cz := by unfold B4; rw [← hVF]; exact heap_alloc_new VFa _
    have hs : VF.heap.size = VFa.heap.size + 1 := by rw [← hVF]; simp
    obtain ⟨Cz, hCz⟩ : ∃ C, C = VFa.heap.size := ⟨_, rfl⟩
    rw [← hCz] at hb hs
    have hs0 := hg.size
    obtain ⟨Lz, hLz⟩ : ∃ l, l = VD.heap.size := ⟨_, rfl⟩
    have HZz : Hid (ZRow VF DD Lz Cz oz cz zv.list) := by show ZRow _ _ _ _ _ _ _; rw [hLz, hCz]; exact hz.kept fun b _ h2 => ga.block b h2 id
    have HSz : Hid (N ≤ Lz ∧ Lz ≤ Cz ∧ VF.heap.size = Cz + 1 ∧ Lz = VD.heap.size) := ⟨by have := HNN.out; omega, by omega, hs, hLz⟩
    replace HB := hidM (HB.out.kp ga (fun _ _ h => h))
    replace HZx := hidM (HZx.out.gr ga (Nat.le_of_lt (lt_of_heap HBx.out)))
    replace HBx := hidM (HBx.out.gr ga)
    replace HZy := hidM (HZy.out.gr ga (Nat.le_of_lt (lt_of_heap HBy.out)))
    replace HBy := hidM (HBy.out.gr ga)
    replace HQ := hidM (HQ.out.trans ga (fun _ _ h => h))
    have HBz := hidM hb
    clear hg hz ga hb hs hs0 hq0 hLz r0 r1 r2 r3 r4 r5 r6
    have HSxy : Hid (Ans 14 #[.agg #[.bool zv.nul, .int .i64 zv.num, .string zv.text, .slice ox zv.list.length cx], .agg #[.bool zv.nul, .int .i64 zv.num, .string zv.text, .slice oy zv.list.length cy]] true VF) := zsame HZx.out (Nat.le_of_lt (lt_of_heap HBx.out)) HZy.out (Nat.le_of_lt (lt_of_heap HBy.out))
    have HSxz : Hid (Ans 14 #[.agg #[.bool zv.nul, .int .i64 zv.num, .string zv.text, .slice ox zv.list.length cx], .agg #[.bool zv.nul, .int .i64 zv.num, .string zv.text, .slice oz zv.list.length cz]] true VF) := zsame HZx.out (Nat.le_of_lt (lt_of_heap HBx.out)) HZz.out (Nat.le_of_lt (lt_of_heap HBz.out))
    obtain ⟨x0, x1, x2, x3⟩ := B4.cells HBx.out
    obtain ⟨y0, y1, y2, y3⟩ := B4.cells HBy.out
    go_wp2_with (go_at_call 14; refine Hid.out ?_)
    unfold Hid
    clear hVF
    rw [← hCz]
    clear hCz
    refine Calls.mono (HSxy.out _ (Keeps.refl _ _)) ?_
    rintro e' u1 ⟨rfl, hg⟩
    replace HB := hidM (HB.out.kp hg (fun _ _ h => h))
    replace HZx := hidM (HZx.out.gr hg (Nat.le_of_lt (lt_of_heap HBx.out)))
    replace HBx := hidM (HBx.out.gr hg)
    replace HZy := hidM (HZy.out.gr hg (Nat.le_of_lt (lt_of_heap HBy.out)))
    replace HBy := hidM (HBy.out.gr hg)
    replace HZz := hidM (HZz.out.gr hg (Nat.le_of_lt (lt_of_heap HBz.out)))
    replace HBz := hidM (HBz.out.gr hg)
    replace HQ := hidM (HQ.out.trans hg (fun _ _ h => h))
    have HE1 := hidM hg
    clear hg x0 x1 x2 x3 y0 y1 y2 y3
    obtain ⟨x0, x1, x2, x3⟩ := B4.cells HBx.out
    obtain ⟨z0, z1, z2, z3⟩ := B4.cells HBz.out
    go_wp2_with (go_at_call 14; refine Hid.out ?_)
    unfold Hid
    refine Calls.mono (HSxz.out _ HE1.out) ?_
    rintro e' u2 ⟨rfl, hg⟩
    replace HB := hidM (HB.out.kp hg (fun _ _ h => h))
    replace HZx := hidM (HZx.out.gr hg (Nat.le_of_lt (lt_of_heap HBx.out)))
    replace HBx := hidM (HBx.out.gr hg)
    replace HZy := hidM (HZy.out.gr hg (Nat.le_of_lt (lt_of_heap HBy.out)))
    replace HBy := hidM (HBy.out.gr hg)
    replace HZz := hidM (HZz.out.gr hg (Nat.le_of_lt (lt_of_heap HBz.out)))
    replace HBz := hidM (HBz.out.gr hg)
    replace HQ := hidM (HQ.out.trans hg (fun _ _ h => h))
    clear hg x0 x1 x2 x3 z0 z1 z2 z3
    clear HE1 HSxy HSxz H6 H11 H12
    by_cases her : er = 0
    · subst her
      have H6y := hidM (HPh.out.fit rfl u2 Ly Cy oy cy HQ.out (Nat.le_of_lt (lt_of_heap HBy.out)) HZy.out)
      obtain ⟨r0, r1, r2, r3, r4, r5, r6⟩ := B7.cells HB.out.bg
      obtain ⟨y0, y1, y2, y3⟩ := B4.cells HBy.out
      go_wp2_with (go_at_call 6; refine Hid.out ?_)
      unfold Hid
      refine Calls.mono (H6y.out _ (Keeps.refl _ _)) ?_
      rintro e' VG ⟨rfl, hg⟩
      replace HB := hidM (HB.out.kp hg (fun _ _ h => h))
      replace HZx := hidM (HZx.out.gr hg (Nat.le_of_lt (lt_of_heap HBx.out)))
      replace HBx := hidM (HBx.out.gr hg)
      replace HZy := hidM (HZy.out.gr hg (Nat.le_of_lt (lt_of_heap HBy.out)))
      replace HBy := hidM (HBy.out.gr hg)
      replace HZz := hidM (HZz.out.gr hg (Nat.le_of_lt (lt_of_heap HBz.out)))
      replace HBz := hidM (HBz.out.gr hg)
      replace HQ := hidM (HQ.out.trans hg (fun _ _ h => h))
      clear hg H6y r0 r1 r2 r3 r4 r5 r6 y0 y1 y2 y3
      obtain ⟨VK, hVK⟩ : ∃ VK, VG.alloc (.cells #[.slice none 0 0, .slice none 0 0, .slice none 0 0, .slice none 0 0] 43) = VK := ⟨_, rfl⟩
      have ga : Gr VG VK := by rw [← hVK]; exact gr_alloc VG _
      have hbk : BkV VK VG.heap.size none 0 [] none 0 0 := by rw [← hVK]; exact book_new _
      have hs : VK.heap.size = VG.heap.size + 1 := by rw [← hVK]; simp
      obtain ⟨K, hK⟩ : ∃ K, K = VG.heap.size := ⟨_, rfl⟩
      rw [← hK] at hbk hs
      have hcz : Cz < K := by rw [hK]; exact lt_of_heap HBz.out
      replace HB := hidM (HB.out.kp ga (fun _ _ h => h))
      replace HZx := hidM (HZx.out.gr ga (Nat.le_of_lt (lt_of_heap HBx.out)))
      replace HBx := hidM (HBx.out.gr ga)
      replace HZy := hidM (HZy.out.gr ga (Nat.le_of_lt (lt_of_heap HBy.out)))
      replace HBy := hidM (HBy.out.gr ga)
      replace HZz := hidM (HZz.out.gr ga (Nat.le_of_lt (lt_of_heap HBz.out)))
      replace HBz := hidM (HBz.out.gr ga)
      replace HQ := hidM (HQ.out.trans ga (fun _ _ h => h))
      have HNK : Hid (N ≤ Lx ∧ Lx ≤ Cx ∧ Ly = Cx + 1 ∧ Ly ≤ Cy ∧ Lz = Cy + 1 ∧ Lz ≤ Cz ∧ Cz < K ∧ VK.heap.size = K + 1 ∧ N = V7.heap.size ∧ w.heap.size ≤ N) := by have := HSx.out; have := HSy.out; have := HSz.out; have := HNN.out; exact ⟨by omega, by omega, by omega, by omega, by omega, by omega, hcz, hs, by omega, by omega⟩
      have H15 := hidM (value15 HZy.out hbk (by have := HNK.out; omega) (fun g h => by simp [Value.ownBlock] at h) (by have := HNK.out; omega) (by have := HPh.out.cnt; simp; omega))
      have HBk := hidM hbk
      clear ga hbk hs hcz HSx HSy HSz HNN
      obtain ⟨y0, y1, y2, y3⟩ := B4.cells HBy.out
      go_wp2_with (go_at_call 15; refine Hid.out ?_)
      unfold Hid
      clear hVK
      rw [← hK]
      clear hK
      refine Calls.mono H15.out ?_
      rintro e' W1 ⟨rfl, vo1, vc1, rs1, q1⟩
      have hnw := q1.new
      have hn1 : ∀ z, z < K → ¬ (z = K ∨ (Value.slice none ([] : List ZR).length 0).ownBlock = some z) := fun z hz h => h.elim (fun h => by omega) (fun h => by simp [Value.ownBlock] at h)
      have hbz : B4 W1 Cz zv.nul zv.num zv.text oz zv.list.length cz := (q1.kp.block _ (lt_of_heap HBz.out) (hn1 _ (by have := HNK.out; omega))).trans HBz.out
      have hzz : ZRow W1 DD Lz Cz oz cz zv.list := HZz.out.kept fun b _ h2 => q1.kp.block b (by have := HNK.out; omega) (hn1 _ (by have := HNK.out; omega))
      have hbk1 : BkV W1 K vo1 vc1 rs1 none 0 0 := q1.bk
      have hs1 := q1.kp.size
      have H15b := hidM (value15 hzz hbk1 (by have := HNK.out; omega) (fun g h => by have := hnw g h; have := HNK.out; omega) (by have := HNK.out; omega) (by have := HPh.out.cnt; have := q1.len; omega))
      have HQ1 := hidM q1
      have HBzz := hidM hbz
      clear q1 hnw hn1 hbz hzz hbk1 hs1 H15 HBk y0 y1 y2 y3
      obtain ⟨z0, z1, z2, z3⟩ := B4.cells HBzz.out
      go_wp2_with (go_at_call 15; refine Hid.out ?_)
      unfold Hid
      refine Calls.mono H15b.out ?_
      rintro e' W2 ⟨rfl, vo2, vc2, rs2, q2⟩
      obtain ⟨k12, hap⟩ := book_apart HQ1.out q2 (by have := HNK.out; omega) (by have := HNK.out; omega) (by have := HNK.out; omega) (by have := HNK.out; omega) (by have := HNK.out; omega) (by have := HPh.out.cnt; omega)
      have H16 := hidM hap
      have HK12 := hidM k12
      clear q2 k12 hap HQ1 H15b HBzz z0 z1 z2 z3
      go_wp2_with (go_at_call 16; refine Hid.out ?_)
      unfold Hid
      refine Calls.mono H16.out ?_
      rintro e' W3 ⟨rfl, hk⟩
      have k3 : Keeps VK W3 (fun z => Ly ≤ z ∧ z < Cz ∨ z = K) := (HK12.out.mono fun _ _ h => .inr h).trans hk (fun _ _ h => h)
      replace HB := hidM (HB.out.kp k3 (fun z hz h => by have := HNK.out; omega))
      replace HBx := hidM ((k3.block _ (lt_of_heap HBx.out) (fun h => by have := HNK.out; omega)).trans HBx.out)
      replace HZx := hidM (HZx.out.kept fun b _ h2 => k3.block b (by have := HNK.out; omega) (fun h => by have := HNK.out; omega))
      replace HQ := hidM (HQ.out.trans k3 (fun j hj h => by have := HNK.out; omega))
      clear hk k3 HK12 H16 HBy HBz HZy HZz
      replace HBx : Hid (B4 W3 Cx zv.nul zv.num zv.text ox zv.list.length cx) := HBx.out
      have HNN : Hid (N = V7.heap.size ∧ w.heap.size ≤ N) := by have := HNK.out; exact ⟨by omega, by omega⟩
      obtain ⟨r0, r1, r2, r3, r4, r5, r6⟩ := B7.cells HB.out.bg
      go_wp2_with (go_at_call 13; refine Hid.out ?_)
      unfold Hid
      refine Calls.mono (H13.out _ HQ.out) ?_
      rintro e' VUa ⟨ou, cu, rfl, hg, hz⟩
      have hq0 := HQ.out.size
      replace HB := hidM (HB.out.kp hg (fun _ _ h => h))
      replace HZx := hidM (HZx.out.gr hg (Nat.le_of_lt (lt_of_heap HBx.out)))
      replace HBx := hidM (HBx.out.gr hg)
      replace HQ := hidM (HQ.out.trans hg (fun _ _ h => h))
      obtain ⟨VU, hVU⟩ : ∃ Y, VUa.alloc (.cells #[.bool zv.nul, .int .i64 zv.num, .string zv.text, .slice ou zv.list.length cu] 29) = Y := ⟨_, rfl⟩
      have ga : Gr VUa VU := by rw [← hVU]; exact gr_alloc VUa _
      have hb : B4 VU VUa.heap.size zv.nul zv.num zv.text ou zv.list.length cu := by unfold B4; rw [← hVU]; exact heap_alloc_new VUa _
      have hs : VU.heap.size = VUa.heap.size + 1 := by rw [← hVU]; simp
      obtain ⟨Cu, hCu⟩ : ∃ C, C = VUa.heap.size := ⟨_, rfl⟩
      obtain ⟨u0, u1, u2, u3⟩ := B4.cells hb
      rw [← hCu] at hb hs
      have hs0 := hg.size
      obtain ⟨Lu, hLu⟩ : ∃ l, l = W3.heap.size := ⟨_, rfl⟩
      have HZu : Hid (ZRow VU DD Lu Cu ou cu zv.list) := by show ZRow _ _ _ _ _ _ _; rw [hLu, hCu]; exact hz.kept fun b _ h2 => ga.block b h2 id
      have HSu : Hid (N ≤ Lu ∧ Lu ≤ Cu ∧ VU.heap.size = Cu + 1 ∧ Lu = W3.heap.size) := ⟨by have := HNN.out; omega, by omega, hs, hLu⟩
      replace HB := hidM (HB.out.kp ga (fun _ _ h => h))
      replace HZx := hidM (HZx.out.gr ga (Nat.le_of_lt (lt_of_heap HBx.out)))
      replace HBx := hidM (HBx.out.gr ga)
      replace HQ := hidM (HQ.out.trans ga (fun _ _ h => h))
      have HBu := hidM hb
      clear hg hz ga hb hs hs0 hq0 hLu r0 r1 r2 r3 r4 r5 r6
      have HSxu : Hid (Ans 14 #[.agg #[.bool zv.nul, .int .i64 zv.num, .string zv.text, .slice ox zv.list.length cx], .agg #[.bool zv.nul, .int .i64 zv.num, .string zv.text, .slice ou zv.list.length cu]] true VU) := zsame HZx.out (Nat.le_of_lt (lt_of_heap HBx.out)) HZu.out (Nat.le_of_lt (lt_of_heap HBu.out))
      obtain ⟨x0, x1, x2, x3⟩ := B4.cells HBx.out
      go_wp2_with (go_at_call 14; refine Hid.out ?_)
      unfold Hid
      clear hVU
      rw [← hCu]
      clear hCu
      refine Calls.mono (HSxu.out _ (Keeps.refl _ _)) ?_
      rintro e' W4 ⟨rfl, hg⟩
      replace HB := hidM (HB.out.kp hg (fun _ _ h => h))
      replace HZx := hidM (HZx.out.gr hg (Nat.le_of_lt (lt_of_heap HBx.out)))
      replace HBx := hidM (HBx.out.gr hg)
      replace HZu := hidM (HZu.out.gr hg (Nat.le_of_lt (lt_of_heap HBu.out)))
      replace HBu := hidM (HBu.out.gr hg)
      replace HQ := hidM (HQ.out.trans hg (fun _ _ h => h))
      clear hg HSxu H13 x0 x1 x2 x3 u0 u1 u2 u3
      cases few with
      | false =>
        go_wp2_with fail
        all_goals go_ret
        all_goals exact ⟨by first | rfl | simp, HG.out.trans HQ.out (fun _ _ h => h)⟩
      | true =>
        have H17 := hidM (HPh.out.again rfl)
        obtain ⟨p0, p1, p2, p3, p4, p5, p6⟩ := B7.cells HB.out.bf
        obtain ⟨r0, r1, r2, r3, r4, r5, r6⟩ := B7.cells HB.out.bg
        obtain ⟨s0, s1, s2, s3⟩ := B4.cells HB.out.bt
        go_wp2_with (go_at_call 17; refine Hid.out ?_)
        unfold Hid
        refine Calls.mono (H17.out _ HQ.out) ?_
        rintro e' W5 ⟨rfl, hk⟩
        have HGF := hidM ((HG.out.trans HQ.out (fun _ _ h => h)).trans hk (fun j hj h => by omega))
        clear hk p0 p1 p2 p3 p4 p5 p6 r0 r1 r2 r3 r4 r5 r6 s0 s1 s2 s3
        go_wp2_with fail
        all_goals go_ret
        all_goals exact ⟨by first | rfl | simp, HGF.out⟩
    · have her2 : (er == 0) = false := by simpa using her
      obtain ⟨VK, hVK⟩ : ∃ VK, u2.alloc (.cells #[.slice none 0 0, .slice none 0 0, .slice none 0 0, .slice none 0 0] 43) = VK := ⟨_, rfl⟩
      have ga : Gr u2 VK := by rw [← hVK]; exact gr_alloc u2 _
      have hbk : BkV VK u2.heap.size none 0 [] none 0 0 := by rw [← hVK]; exact book_new _
      have hs : VK.heap.size = u2.heap.size + 1 := by rw [← hVK]; simp
      obtain ⟨K, hK⟩ : ∃ K, K = u2.heap.size := ⟨_, rfl⟩
      rw [← hK] at hbk hs
      have hcz : Cz < K := by rw [hK]; exact lt_of_heap HBz.out
      replace HB := hidM (HB.out.kp ga (fun _ _ h => h))
      replace HZx := hidM (HZx.out.gr ga (Nat.le_of_lt (lt_of_heap HBx.out)))
      replace HBx := hidM (HBx.out.gr ga)
      replace HZy := hidM (HZy.out.gr ga (Nat.le_of_lt (lt_of_heap HBy.out)))
      replace HBy := hidM (HBy.out.gr ga)
      replace HZz := hidM (HZz.out.gr ga (Nat.le_of_lt (lt_of_heap HBz.out)))
      replace HBz := hidM (HBz.out.gr ga)
      replace HQ := hidM (HQ.out.trans ga (fun _ _ h => h))
      have HNK : Hid (N ≤ Lx ∧ Lx ≤ Cx ∧ Ly = Cx + 1 ∧ Ly ≤ Cy ∧ Lz = Cy + 1 ∧ Lz ≤ Cz ∧ Cz < K ∧ VK.heap.size = K + 1 ∧ N = V7.heap.size ∧ w.heap.size ≤ N) := by have := HSx.out; have := HSy.out; have := HSz.out; have := HNN.out; exact ⟨by omega, by omega, by omega, by omega, by omega, by omega, hcz, hs, by omega, by omega⟩
      have H15 := hidM (value15 HZy.out hbk (by have := HNK.out; omega) (fun g h => by simp [Value.ownBlock] at h) (by have := HNK.out; omega) (by have := HPh.out.cnt; simp; omega))
      have HBk := hidM hbk
      clear ga hbk hs hcz HSx HSy HSz HNN
      obtain ⟨y0, y1, y2, y3⟩ := B4.cells HBy.out
      go_wp2_with (go_at_call 15; refine Hid.out ?_)
      unfold Hid
      clear hVK
      rw [← hK]
      clear hK
      refine Calls.mono H15.out ?_
      rintro e' W1 ⟨rfl, vo1, vc1, rs1, q1⟩
      have hnw := q1.new
      have hn1 : ∀ z, z < K → ¬ (z = K ∨ (Value.slice none ([] : List ZR).length 0).ownBlock = some z) := fun z hz h => h.elim (fun h => by omega) (fun h => by simp [Value.ownBlock] at h)
      have hbz : B4 W1 Cz zv.nul zv.num zv.text oz zv.list.length cz := (q1.kp.block _ (lt_of_heap HBz.out) (hn1 _ (by have := HNK.out; omega))).trans HBz.out
      have hzz : ZRow W1 DD Lz Cz oz cz zv.list := HZz.out.kept fun b _ h2 => q1.kp.block b (by have := HNK.out; omega) (hn1 _ (by have := HNK.out; omega))
      have hbk1 : BkV W1 K vo1 vc1 rs1 none 0 0 := q1.bk
      have hs1 := q1.kp.size
      have H15b := hidM (value15 hzz hbk1 (by have := HNK.out; omega) (fun g h => by have := hnw g h; have := HNK.out; omega) (by have := HNK.out; omega) (by have := HPh.out.cnt; have := q1.len; omega))
      have HQ1 := hidM q1
      have HBzz := hidM hbz
      clear q1 hnw hn1 hbz hzz hbk1 hs1 H15 HBk y0 y1 y2 y3
      obtain ⟨z0, z1, z2, z3⟩ := B4.cells HBzz.out
      go_wp2_with (go_at_call 15; refine Hid.out ?_)
      unfold Hid
      refine Calls.mono H15b.out ?_
      rintro e' W2 ⟨rfl, vo2, vc2, rs2, q2⟩
      obtain ⟨k12, hap⟩ := book_apart HQ1.out q2 (by have := HNK.out; omega) (by have := HNK.out; omega) (by have := HNK.out; omega) (by have := HNK.out; omega) (by have := HNK.out; omega) (by have := HPh.out.cnt; omega)
      have H16 := hidM hap
      have HK12 := hidM k12
      clear q2 k12 hap HQ1 H15b HBzz z0 z1 z2 z3
      go_wp2_with (go_at_call 16; refine Hid.out ?_)
      unfold Hid
      refine Calls.mono H16.out ?_
      rintro e' W3 ⟨rfl, hk⟩
      have k3 : Keeps VK W3 (fun z => Ly ≤ z ∧ z < Cz ∨ z = K) := (HK12.out.mono fun _ _ h => .inr h).trans hk (fun _ _ h => h)
      replace HB := hidM (HB.out.kp k3 (fun z hz h => by have := HNK.out; omega))
      replace HBx := hidM ((k3.block _ (lt_of_heap HBx.out) (fun h => by have := HNK.out; omega)).trans HBx.out)
      replace HZx := hidM (HZx.out.kept fun b _ h2 => k3.block b (by have := HNK.out; omega) (fun h => by have := HNK.out; omega))
      replace HQ := hidM (HQ.out.trans k3 (fun j hj h => by have := HNK.out; omega))
      clear hk k3 HK12 H16 HBy HBz HZy HZz
      replace HBx : Hid (B4 W3 Cx zv.nul zv.num zv.text ox zv.list.length cx) := HBx.out
      have HNN : Hid (N = V7.heap.size ∧ w.heap.size ≤ N) := by have := HNK.out; exact ⟨by omega, by omega⟩
      obtain ⟨r0, r1, r2, r3, r4, r5, r6⟩ := B7.cells HB.out.bg
      go_wp2_with (go_at_call 13; refine Hid.out ?_)
      unfold Hid
      refine Calls.mono (H13.out _ HQ.out) ?_
      rintro e' VUa ⟨ou, cu, rfl, hg, hz⟩
      have hq0 := HQ.out.size
      replace HB := hidM (HB.out.kp hg (fun _ _ h => h))
      replace HZx := hidM (HZx.out.gr hg (Nat.le_of_lt (lt_of_heap HBx.out)))
      replace HBx := hidM (HBx.out.gr hg)
      replace HQ := hidM (HQ.out.trans hg (fun _ _ h => h))
      obtain ⟨VU, hVU⟩ : ∃ Y, VUa.alloc (.cells #[.bool zv.nul, .int .i64 zv.num, .string zv.text, .slice ou zv.list.length cu] 29) = Y := ⟨_, rfl⟩
      have ga : Gr VUa VU := by rw [← hVU]; exact gr_alloc VUa _
      have hb : B4 VU VUa.heap.size zv.nul zv.num zv.text ou zv.list.length cu := by unfold B4; rw [← hVU]; exact heap_alloc_new VUa _
      have hs : VU.heap.size = VUa.heap.size + 1 := by rw [← hVU]; simp
      obtain ⟨Cu, hCu⟩ : ∃ C, C = VUa.heap.size := ⟨_, rfl⟩
      obtain ⟨u0, u1, u2, u3⟩ := B4.cells hb
      rw [← hCu] at hb hs
      have hs0 := hg.size
      obtain ⟨Lu, hLu⟩ : ∃ l, l = W3.heap.size := ⟨_, rfl⟩
      have HZu : Hid (ZRow VU DD Lu Cu ou cu zv.list) := by show ZRow _ _ _ _ _ _ _; rw [hLu, hCu]; exact hz.kept fun b _ h2 => ga.block b h2 id
      have HSu : Hid (N ≤ Lu ∧ Lu ≤ Cu ∧ VU.heap.size = Cu + 1 ∧ Lu = W3.heap.size) := ⟨by have := HNN.out; omega, by omega, hs, hLu⟩
      replace HB := hidM (HB.out.kp ga (fun _ _ h => h))
      replace HZx := hidM (HZx.out.gr ga (Nat.le_of_lt (lt_of_heap HBx.out)))
      replace HBx := hidM (HBx.out.gr ga)
      replace HQ := hidM (HQ.out.trans ga (fun _ _ h => h))
      have HBu := hidM hb
      clear hg hz ga hb hs hs0 hq0 hLu r0 r1 r2 r3 r4 r5 r6
      have HSxu : Hid (Ans 14 #[.agg #[.bool zv.nul, .int .i64 zv.num, .string zv.text, .slice ox zv.list.length cx], .agg #[.bool zv.nul, .int .i64 zv.num, .string zv.text, .slice ou zv.list.length cu]] true VU) := zsame HZx.out (Nat.le_of_lt (lt_of_heap HBx.out)) HZu.out (Nat.le_of_lt (lt_of_heap HBu.out))
      obtain ⟨x0, x1, x2, x3⟩ := B4.cells HBx.out
      go_wp2_with (go_at_call 14; refine Hid.out ?_)
      unfold Hid
      clear hVU
      rw [← hCu]
      clear hCu
      refine Calls.mono (HSxu.out _ (Keeps.refl _ _)) ?_
      rintro e' W4 ⟨rfl, hg⟩
      replace HB := hidM (HB.out.kp hg (fun _ _ h => h))
      replace HZx := hidM (HZx.out.gr hg (Nat.le_of_lt (lt_of_heap HBx.out)))
      replace HBx := hidM (HBx.out.gr hg)
      replace HZu := hidM (HZu.out.gr hg (Nat.le_of_lt (lt_of_heap HBu.out)))
      replace HBu := hidM (HBu.out.gr hg)
      replace HQ := hidM (HQ.out.trans hg (fun _ _ h => h))
      clear hg HSxu H13 x0 x1 x2 x3 u0 u1 u2 u3
      cases few with
      | false =>
        go_wp2_with fail
        all_goals go_ret
        all_goals exact ⟨by first | rfl | simp, HG.out.trans HQ.out (fun _ _ h => h)⟩
      | true =>
        have H17 := hidM (HPh.out.again rfl)
        obtain ⟨p0, p1, p2, p3, p4, p5, p6⟩ := B7.cells HB.out.bf
        obtain ⟨r0, r1, r2, r3, r4, r5, r6⟩ := B7.cells HB.out.bg
        obtain ⟨s0, s1, s2, s3⟩ := B4.cells HB.out.bt
        go_wp2_with (go_at_call 17; refine Hid.out ?_)
        unfold Hid
        refine Calls.mono (H17.out _ HQ.out) ?_
        rintro e' W5 ⟨rfl, hk⟩
        have HGF := hidM ((HG.out.trans HQ.out (fun _ _ h => h)).trans hk (fun j hj h => by omega))
        clear hk p0 p1 p2 p3 p4 p5 p6 r0 r1 r2 r3 r4 r5 r6 s0 s1 s2 s3
        go_wp2_with fail
        all_goals go_ret
        all_goals exact ⟨by first | rfl | simp, HGF.out⟩
end Go.Proofs.YtcfdkadhclickaaDoor.Kit
