import Derived.Test.YthhpamhfnpacpaaGreatDoorPG
set_option linter.unusedVariables false
set_option linter.unusedSimpArgs false
set_option maxRecDepth 100000
set_option maxHeartbeats 8000000
namespace Go.Proofs.YthhpamhfnpacpaaGreatDoor.Kit
open Go.RowKit Go.Shelf Go.Deep
open Kd (Ans cell5 cell2)
attribute [local go_sem] run_store_func
open Kd (NewB z37 info37 c37 row7 row7_len)
theorem FsI.start (W : World) (d : Nat) : FsI W (W.alloc (.cells #[] 58)) d [] (some ⟨W.heap.size, 0, Option.none⟩) 0 :=
 ⟨gr_alloc W _, fun g e => by have e' : W.heap.size = g := by simpa [Value.ownBlock] using e
                              subst e'; exact ⟨Nat.le_refl _, by simp⟩,
  fun _ => (none, 0), ⟨rfl, .inr ⟨W.heap.size, 0, #[], rfl, Nat.zero_le _, heap_alloc_new W _, Nat.le_refl _, Nat.zero_le _, rfl, rfl⟩⟩, fun i h => absurd h (by simp)⟩
theorem bare17_list (d : Nat) (T : Nat → Prop) (f : FT) (ao : Option Addr) (ca : Nat) (W : World) (hrow : RowAt T W (d + 1) ao f.kids) (hT : ∀ b, T b → b < W.heap.size) (hle : f.kids.length ≤ ca)
  (h17 : ∀ g ∈ f.kids, ∀ (a : ByteArray) (b : Bool) (ko : Option Addr) (kc : Nat) (u : World), RowAt T u d ko g.kids → (∀ b, T b → b < u.heap.size) → g.kids.length ≤ kc → Calls Tryz.prog 17 #[.agg #[.string a, .bool b, .int .i64 g.kind, .int .i64 g.width, .int .i64 g.id, .int .i64 g.index, .slice ko g.kids.length kc]] u fun e w' => ∃ v, e = .returned v ∧ Gr u w' ∧ FVx d u w' (ren a b (bareF d g)) v) (c1 : ¬ (f.kind = 19 ∨ f.kind = 20)) :
  Calls Tryz.prog 17 #[.agg #[.string f.name, .bool f.nul, .int .i64 f.kind, .int .i64 f.width, .int .i64 f.id, .int .i64 f.index, .slice ao f.kids.length ca]] W fun e w' => ∃ v, e = .returned v ∧ Gr W w' ∧ FVx (d + 1) W w' (bareF (d + 1) f) v := by
 obtain ⟨n, hn⟩ : ∃ n, n = f.kids.length := ⟨_, rfl⟩
 have hlen : n ≤ 1000000000000 := by rw [hn]; exact hrow.1
 obtain ⟨A0, hA0, g0, b0⟩ := nw W (.cells #[.string f.name, .bool f.nul, .int .i64 f.kind, .int .i64 f.width, .int .i64 f.id, .int .i64 f.index, .slice ao n ca] 58)
 obtain ⟨A1, hA1, g1, b1⟩ := nw A0 (.cells #[.string ⟨#[]⟩, .bool false, .int .i64 0, .int .i64 0, .int .i64 0, .int .i64 0, .slice none 0 0] 58)
 have s0 := sz_al hA0
 have s1 := sz_al hA1
 obtain ⟨A2, hA2, g2, b2⟩ := nw A1 (.cells #[.int .i64 0, .int .i64 0, .int .i64 0, .int .i64 0, .slice none 0 0] 56)
 have s2 := sz_al hA2
 obtain ⟨A3, hA3⟩ := ex (setAll A2 A1.heap.size [(0, .int .i64 f.kind), (1, .int .i64 f.width), (2, .int .i64 f.id), (3, .int .i64 f.index), (4, .slice ao n ca)])
 have k3 : Keeps A2 A3 (fun z => z = A1.heap.size) := by rw [← hA3]; exact setAll_kp _ _ _
 have b3 : A3.heap[A1.heap.size]? = some (.cells #[.int .i64 f.kind, .int .i64 f.width, .int .i64 f.id, .int .i64 f.index, .slice ao n ca] 56) := by rw [← hA3, setAll_blk A1.heap.size 56 _ _ _ b2]; simp [setsA]
 have s3 := k3.size
 have gW1 : Gr W A1 := g0.tr g1
 have gW3 : Gr W A3 := (gW1.tr g2).trans k3 (fun j hj (e : j = A1.heap.size) => by omega)
 have b01 := (g1.block _ (lt_of_heap b0) id).trans b0
 have b02 := (g2.block _ (lt_of_heap b01) id).trans b01
 have b03 := (k3.block _ (lt_of_heap b02) (by omega)).trans b02
 have b12 := (g2.block _ (lt_of_heap b1) id).trans b1
 have b13 := (k3.block _ (lt_of_heap b12) (by omega)).trans b12
 obtain ⟨e0, e1, e2, e3, e4, e5, e6⟩ := cell7 b01
 obtain ⟨i0, i1, i2, i3, i4, i5, i6⟩ := cell7 b02
 obtain ⟨j0, j1, j2, j3, j4⟩ := cell5 b2
 have fz2 := frz b2
 obtain ⟨t0, t1, t2, t3, t4⟩ := cell5 b3
 obtain ⟨p0, p1, p2, p3, p4, p5, p6⟩ := cell7 b03
 have hbar : bareF (d + 1) f = .mk f.name f.nul f.kind f.width f.id f.index (f.kids.map (bareF d)) := by rw [bareF, if_neg c1]
 have k1 : (f.kind == 19) = false := by simp; omega
 have k2 : (f.kind == 20) = false := by simp; omega
 obtain ⟨A4, hA4⟩ := ex (A3.alloc (.cells #[] 58))
 have hst := FsI.start A3 d
 rw [hA4] at hst
 have HB := hidM (And.intro b03 (And.intro b13 (And.intro gW3 (And.intro s0 s1))))
 have HS := hidM (And.intro s2 s3)
 have HF := hidM hbar
 have HR := hidM hrow
 have HT := hidM hT
 have H17 := hidM h17
 have HST := hidM hst
 have hb3 : ∀ u, Gr A3 u → u.heap[A1.heap.size]? = some (.cells #[.int .i64 f.kind, .int .i64 f.width, .int .i64 f.id, .int .i64 f.index, .slice ao n ca] 56) := fun u g => (g.block _ (lt_of_heap b3) id).trans b3
 have HB3 := hidM hb3
 rw [← hn]
 have HN := hidM hn
 have HLn := hidM hlen
 simp only [setAll] at hA3
 clear hrow hT h17 hle g0 g1 g2 b0 b1 b01 b02 b03 b12 b13 b2 b3 k3 gW1 gW3 s0 s1 s2 s3 hbar c1 hst hb3 hn p0 p1 p2 p3 p4 p5 p6
 go_enter Tryz.func17, Tryz.ntmps17
 go_wp2_with fail
 clear k1 k2 e0 e1 e2 e3 e4 e5 e6 i0 i1 i2 i3 i4 i5 i6 j0 j1 j2 j3 j4 fz2 t0 t1 t2 t3 t4 hA0 hA1 hA2 hA3 hA4
 go_loopw [6, 5] (fun p s wr => ∃ (k : Nat) (vo : Option Addr) (vc : Nat), k ≤ n ∧ p = .int .i64 (k : Int) ∧ s = .slice vo k vc ∧ Hid (FsI A3 wr d ((f.kids.take k).map (bareF d)) vo vc)) (fun p _ _ => n - (intOf p).toNat)
 case atStart => exact ⟨0, _, _, by omega, rfl, rfl, by simpa using HST⟩
 case round =>
  obtain ⟨k, vo, vc, hk, rfl, rfl, HK⟩ := hrel
  have hb3 := HB3.out wr HK.out.gr
  obtain ⟨t0, t1, t2, t3, t4⟩ := cell5 hb3
  clear hb3
  by_cases hlt : k < n
  ·have hkl : k < f.kids.length := by have := HN.out; omega
   obtain ⟨b, o, rfl, hb, hi⟩ := HR.out.2 (fun h => by rw [h] at hkl; simp at hkl)
   obtain ⟨ko, kc, hc, hle0, hr⟩ := hi k hkl
   obtain ⟨x, hx⟩ : ∃ x, x = f.kids[k]'hkl := ⟨_, rfl⟩
   rw [← hx] at hc hle0 hr
   have gWr : Gr W wr := HB.out.2.2.1.tr HK.out.gr
   have hcw := hc.kept (gWr.block b (HT.out b hb) id)
   obtain ⟨x0, x1, x2, x3, x4, x5, x6⟩ := hcw
   have HQ := hidM (H17.out x (by rw [hx]; exact List.getElem_mem hkl) x.name x.nul ko kc wr (hr.kept fun z hz => gWr.block z (HT.out z hz) id) (fun z hz => Nat.lt_of_lt_of_le (HT.out z hz) gWr.size) hle0)
   have HX := hidM hx
   have hltI : (k : Int) < (n : Int) := by omega
   clear gWr hb hi hc hle0 hr
   clear hx
   go_wp2_with (go_at_call 17; refine Hid.out ?_)
   unfold Hid
   refine Calls.mono HQ.out ?_
   rintro e V ⟨v, rfl, gV, hv⟩
   obtain ⟨xo, xc, rfl, hxl, hxr⟩ := hv
   have hre : ren x.name x.nul (bareF d x) = bareF d x := by rw [← bareF_ren, ren_self]
   rw [hre] at hxl hxr ⊢
   obtain ⟨r, hrr⟩ : ∃ r, r = bareF d x := ⟨_, rfl⟩
   rw [← hrr] at hxl hxr ⊢
   have hlst : (f.kids.take (k + 1)).map (bareF d) = (f.kids.take k).map (bareF d) ++ [r] := by
    rw [List.take_succ_eq_append_getElem hkl, List.map_append, hrr, HX.out]; rfl
   obtain ⟨l, hl⟩ : ∃ l, l = (f.kids.take k).map (bareF d) := ⟨_, rfl⟩
   have hL : l.length = k := by rw [hl]; simp; omega
   have HK' := HK.out
   rw [← hl] at hlst HK'
   obtain ⟨F, hF⟩ := HK'.own
   have hF1 := hF.1
   rw [hL] at hF1
   obtain ⟨Z, hZ⟩ := ex (V.alloc (.cells #[.string r.name, .bool r.nul, .int .i64 r.kind, .int .i64 r.width, .int .i64 r.id, .int .i64 r.index, .slice xo r.kids.length xc] 58))
   have gZ := gr_al hZ
   have HSr : Hid (Src Tryz.prog 7 22 (.slice (some ⟨V.heap.size, 0, none⟩) 1 1) 1 [.string r.name, .bool r.nul, .int .i64 r.kind, .int .i64 r.width, .int .i64 r.id, .int .i64 r.index, .slice xo r.kids.length xc] Z) := by
    rw [← hZ]
    exact src58 (heap_alloc_new V _) (by intro v hv; simp at hv; rcases hv with rfl | rfl | rfl | rfl | rfl | rfl | rfl <;> rfl)
   have HO : Hid (Z.ownsRow 0 58 7 (.slice vo k vc) k (row7 l F)) := by
    have h := (HK'.gr' (gV.tr gZ))
    rcases hF1 with ⟨h1, h2 | ⟨g0, cap, cur, e1, e2, e3, e4⟩⟩
    ·exact ⟨h1, .inl h2⟩
    exact ⟨h1, .inr ⟨g0, cap, cur, e1, e2, ((gV.tr gZ).block _ (lt_of_heap e3) id).trans e3, e4⟩⟩
   have HP : Hid (∀ (w4 : World) (vo' : Option Addr) (vc' : Nat), w4.ownsRow 0 58 7 (.slice vo' (k + 1) vc') (k + 1) (row7 l F ++ [.string r.name, .bool r.nul, .int .i64 r.kind, .int .i64 r.width, .int .i64 r.id, .int .i64 r.index, .slice xo r.kids.length xc]) → Z.grownBy w4 (Value.slice vo k vc).ownBlock → ((Value.slice vo' (k + 1) vc').ownBlock = (Value.slice vo k vc).ownBlock ∨ ∀ g, (Value.slice vo' (k + 1) vc').ownBlock = some g → Z.heap.size ≤ g) → FsI A3 w4 d ((f.kids.take (k + 1)).map (bareF d)) vo' vc') := by
    intro w4 vo' vc' h1 h2 h3
    rw [hlst]
    refine HK'.push hF (Keeps.refl _ _) gV gZ hxl hxr ?_ ?_ ?_
    ·rw [hL]; exact h1
    ·rw [hL]; exact h2
    rw [hL]; exact h3
   have H63 : Hid (k + 1 ≤ 9223372036854775807) := by show _ ≤ _; have := HLn.out; omega
   have H80 : Hid ((k + 1) * 80 ≤ 140737488355328) := by show _ ≤ _; have := HLn.out; omega
   clear HK' hF hF1 hl hL hlst hre hrr gV gZ hxl hxr HK x0 x1 x2 x3 x4 x5 x6 t0 t1 t2 t3 t4
   go_wp2_with (with_reducible show wpList Tryz.prog _ _ (Oper.mk (some 45) _ _ _ _ _ :: _) _ _; refine wpList_append_anyN (P := Tryz.prog) Z rfl (.tmp 37) (.tmp 44) 22 22 rfl 58 z37 7 80 Tryz.underlying22 Kd.info37 c37 (.slice vo k vc) k (row7 l F) rfl HO.out (.slice (some ⟨V.heap.size, 0, none⟩) 1 1) 1 [.string r.name, .bool r.nul, .int .i64 r.kind, .int .i64 r.width, .int .i64 r.id, .int .i64 r.index, .slice xo r.kids.length xc] rfl HSr.out H63.out H80.out ?_; intro v' w4 hown hgrow hblk; obtain ⟨vo', vc', rfl⟩ := own_formN hown; replace hown := hidM hown; replace hgrow := hidM hgrow; replace hblk := hidM hblk)
   have HN2 := hidM (HP.out w4 vo' vc' hown.out hgrow.out hblk.out)
   clear hown hgrow hblk HP HO HSr hZ
   (try go_wp2_with fail)
   go_roundw
   case rel => exact ⟨k + 1, vo', vc', by omega, by simp, rfl, HN2⟩
   case measure => simp [intOf]; omega
  have hkn : k = n := by omega
  subst hkn
  have hI := HK.out
  have htk : f.kids.take k = f.kids := List.take_of_length_le (by have := HN.out; omega)
  rw [htk] at hI
  have hLm : (f.kids.map (bareF d)).length = k := by rw [List.length_map]; exact HN.out.symm
  obtain ⟨hvc, hIr⟩ := hI.row (by rw [hLm]; have := HLn.out; exact this)
  rw [hLm] at hvc
  obtain ⟨b03, b13, gW, s0, s1⟩ := HB.out
  have hs23 := HS.out
  have p0 := (hI.gr.block _ (lt_of_heap b03) id).trans b03
  have q0 := (hI.gr.block _ (lt_of_heap b13) id).trans b13
  have fp := frz p0
  obtain ⟨u0, u1, u2, u3, u4, u5, u6⟩ := cell7 p0
  obtain ⟨V1, hV1⟩ := ex (wr.setCell ⟨W.heap.size, 6, none⟩ (.slice vo k vc))
  have kp : Keeps wr V1 (fun z => z = W.heap.size) := by rw [← hV1]; exact Keeps.setCell (S := fun z => z = W.heap.size) (p := ⟨W.heap.size, 6, none⟩) (Keeps.refl wr _) (fun _ => rfl) _
  have p1 : V1.heap[W.heap.size]? = some (.cells #[.string f.name, .bool f.nul, .int .i64 f.kind, .int .i64 f.width, .int .i64 f.id, .int .i64 f.index, .slice vo k vc] 58) := by rw [← hV1, heap_setCell_same wr W.heap.size 6 _ _ _ p0]; rfl
  have q1 := (kp.block A0.heap.size (lt_of_heap q0) (by omega)).trans q0
  obtain ⟨y0, y1, y2, y3, y4, y5, y6⟩ := cell7 p1
  obtain ⟨r0, r1, r2, r3, r4, r5, r6⟩ := cell7 q1
  have fq := frz q1
  obtain ⟨U, hU⟩ := ex (setAll V1 A0.heap.size [(0, .string f.name), (1, .bool f.nul), (2, .int .i64 f.kind), (3, .int .i64 f.width), (4, .int .i64 f.id), (5, .int .i64 f.index), (6, .slice vo k vc)])
  have ku : Keeps V1 U (fun z => z = A0.heap.size) := by rw [← hU]; exact setAll_kp _ _ _
  have hu : U.heap[A0.heap.size]? = some (.cells #[.string f.name, .bool f.nul, .int .i64 f.kind, .int .i64 f.width, .int .i64 f.id, .int .i64 f.index, .slice vo k vc] 58) := by rw [← hU, setAll_blk A0.heap.size 58 _ _ _ q1]; simp [setsA]
  have HU := hidM hu
  have HE : Hid (Gr W U ∧ FVx (d + 1) W U (bareF (d + 1) f) (.agg #[.string f.name, .bool f.nul, .int .i64 f.kind, .int .i64 f.width, .int .i64 f.id, .int .i64 f.index, .slice vo k vc])) := by
   have hs := hI.gr.size
   have hs1 := kp.size
   have hs2 := ku.size
   refine ⟨((gW.tr hI.gr).trans kp (fun j hj (e : j = W.heap.size) => by omega)).trans ku (fun j hj (e : j = A0.heap.size) => by omega), vo, vc, ?_, ?_, ?_⟩
   ·rw [HF.out]
    show _ = Value.agg #[.string f.name, .bool f.nul, .int .i64 f.kind, .int .i64 f.width, .int .i64 f.id, .int .i64 f.index, .slice vo (f.kids.map (bareF d)).length vc]
    rw [hLm]
   ·rw [HF.out]; show (f.kids.map (bareF d)).length ≤ vc; rw [hLm]; exact hvc
   rw [HF.out]
   exact ((hIr.kept fun z hz => kp.block z hz.2 (by have := hz.1; omega)).kept fun z hz => ku.block z (by have := hz.2; omega) (by have := hz.1; omega)).mono fun z hz => ⟨by have := hz.1; omega, by have := hz.2; omega⟩
  simp only [setAll] at hU
  clear p0 q0 kp p1 q1 ku hu hIr hI gW b03 b13 s0 s1 htk hLm hvc HK
  go_wp2_with fail
  (try simp only [Exit.inBlock, Exit.then])
  refine bodyPost_ret (results_cell58 rfl rfl (by with_reducible exact HU.out) (by kernel_rfl)) rfl ?_
  exact ⟨_, rfl, HE.out⟩
theorem okB_ren {a : ByteArray} {b : Bool} : ∀ {d : Nat} {f : FT}, okB d f → okB d (ren a b f)
 | 0, f, h => h
 | d + 1, f, h => h
theorem bare17 : ∀ (d : Nat) (T : Nat → Prop) (f : FT) (ao : Option Addr) (ca : Nat) (W : World), RowAt T W d ao f.kids → (∀ b, T b → b < W.heap.size) → f.kids.length ≤ ca → okB d f →
  Calls Tryz.prog 17 #[.agg #[.string f.name, .bool f.nul, .int .i64 f.kind, .int .i64 f.width, .int .i64 f.id, .int .i64 f.index, .slice ao f.kids.length ca]] W fun e w' => ∃ v, e = .returned v ∧ Gr W w' ∧ FVx d W w' (bareF d f) v
 | 0, T, f, ao, ca, W, hrow, hT, hle, hok => by
  have hk : f.kids = [] := hok.2
  refine Calls.mono (bare17_list 0 T f ao ca W hrow.up hT hle (fun g hg => by rw [hk] at hg; cases hg) hok.1) ?_
  rintro e w' ⟨v, rfl, g, ko, kc, hv, hl, hr⟩
  have hb : bareF (0 + 1) f = f := by
   rw [bareF, if_neg hok.1, hk]
   cases f with | mk a b c d e g l => cases hk; rfl
  rw [hb] at hv hl hr
  exact ⟨v, rfl, g, ko, kc, hv, hl, hk⟩
 | d + 1, T, f, ao, ca, W, hrow, hT, hle, hok => by
  have h17 : ∀ g ∈ f.kids, ∀ (a : ByteArray) (b : Bool) (ko : Option Addr) (kc : Nat) (u : World), RowAt T u d ko g.kids → (∀ b, T b → b < u.heap.size) → g.kids.length ≤ kc → Calls Tryz.prog 17 #[.agg #[.string a, .bool b, .int .i64 g.kind, .int .i64 g.width, .int .i64 g.id, .int .i64 g.index, .slice ko g.kids.length kc]] u fun e w' => ∃ v, e = .returned v ∧ Gr u w' ∧ FVx d u w' (ren a b (bareF d g)) v := by
   intro g hg a b ko kc u hr ht hl
   rw [← bareF_ren]
   exact bare17 d T (ren a b g) ko kc u hr ht hl (okB_ren (hok.2 g hg))
  by_cases c : f.kind = 19 ∨ f.kind = 20
  ·exact bare17_in d T f ao ca W hrow hT hle h17 c (hok.1 c)
  exact bare17_list d T f ao ca W hrow hT hle h17 c
open Kd (NewB)
theorem fieldOf25_r (d : Nat) (T : Nat → Prop) (join : Int) (fs : List FT) (k : Nat) (fo no go mo : Option Addr) (n cf nn cn m cg mm cm : Nat) (W : World) (hm : m = fs.length) (hrow : RowAt T W (d + 1) go fs) (hT : ∀ b, T b → b < W.heap.size) (hk : k < fs.length) (hok : okB d fs[k]) :
  Calls Tryz.prog 25 #[.int .i64 join, .agg #[.slice fo n cf, .slice no nn cn], .agg #[.slice go m cg, .slice mo mm cm], .agg #[.int .i64 (-1), .int .i64 (k : Int)]] W fun e w' => ∃ v, e = .returned v ∧ Gr W w' ∧ FVx d W w' (ren (bareF d fs[k]).name ((bareF d fs[k]).nul || decide (join ≠ 1)) (bareF d fs[k])) v := by
 obtain ⟨A0, hA0, g0, b0⟩ := nw W (.cells #[.slice fo n cf, .slice no nn cn] 25)
 obtain ⟨A1, hA1, g1, b1⟩ := nw A0 (.cells #[.slice go m cg, .slice mo mm cm] 25)
 obtain ⟨A2, hA2, g2, b2⟩ := nw A1 (.cells #[.int .i64 (-1), .int .i64 (k : Int)] 72)
 obtain ⟨A3, hA3, g3, b3⟩ := nw A2 (.cells #[.string ⟨#[]⟩, .bool false, .int .i64 0, .int .i64 0, .int .i64 0, .int .i64 0, .slice none 0 0] 58)
 have s0 := sz_al hA0
 have s1 := sz_al hA1
 have s2 := sz_al hA2
 have s3 := sz_al hA3
 have g23 := g2.tr g3
 have gW : Gr W A3 := (g0.tr g1).tr g23
 obtain ⟨p0, p1⟩ := cell2 ((g23.block _ (lt_of_heap b1) id).trans b1)
 obtain ⟨q0, q1⟩ := cell2 ((g3.block _ (lt_of_heap b2) id).trans b2)
 obtain ⟨b, o, rfl, hb, hi⟩ := hrow.2 (fun e => by rw [e] at hk; simp at hk)
 obtain ⟨ko, kc, hc, hle, hr⟩ := hi k hk
 obtain ⟨f, hf⟩ : ∃ f, f = fs[k]'hk := ⟨_, rfl⟩
 rw [← hf] at hc hle hr hok ⊢
 have hcw := hc.kept (gW.block b (hT b hb) id)
 obtain ⟨x0, x1, x2, x3, x4, x5, x6⟩ := hcw
 have hkI : (k : Int) < (m : Int) := by omega
 have HQ := hidM (bare24 d T f ko kc A3 (hr.kept fun z hz => gW.block z (hT z hz) id) (fun z hz => Nat.lt_of_lt_of_le (hT z hz) gW.size) hle hok)
 have HB := hidM (And.intro b3 (And.intro gW (And.intro s0 (And.intro s1 (And.intro s2 s3)))))
 clear g0 g1 g2 g3 g23 b0 b1 b2 b3 gW s0 s1 s2 s3 hrow hT hi hc hb hr hle hok hm
 clear hf
 go_enter Tryz.func25, Tryz.ntmps25
 go_wp2_with (go_at_call 24; refine Hid.out ?_)
 unfold Hid
 refine Calls.mono HQ.out ?_
 rintro e V ⟨v, rfl, gV, hv⟩
 obtain ⟨xo, xc, rfl, hxl, hxr⟩ := hv
 obtain ⟨r, hrr⟩ : ∃ r, r = bareF d f := ⟨_, rfl⟩
 rw [← hrr] at hxl hxr
 have HRR := hidM hrr
 rw [← hrr]
 obtain ⟨b3, gW, s0, s1, s2, s3⟩ := HB.out
 have c3 := (gV.block _ (lt_of_heap b3) id).trans b3
 obtain ⟨X, hX, gX, bX⟩ := nw V (.cells #[.string ⟨#[]⟩, .bool false, .int .i64 0, .int .i64 0, .int .i64 0, .int .i64 0, .slice none 0 0] 58)
 obtain ⟨z0, z1, z2, z3, z4, z5, z6⟩ := cell7 bX
 have fX := frz bX
 obtain ⟨Y, hY⟩ := ex (setAll X V.heap.size [(0, .string r.name), (1, .bool r.nul), (2, .int .i64 r.kind), (3, .int .i64 r.width), (4, .int .i64 r.id), (5, .int .i64 r.index), (6, .slice xo r.kids.length xc)])
 have kY : Keeps X Y (fun z => z = V.heap.size) := by rw [← hY]; exact setAll_kp _ _ _
 have bY : Y.heap[V.heap.size]? = some (.cells #[.string r.name, .bool r.nul, .int .i64 r.kind, .int .i64 r.width, .int .i64 r.id, .int .i64 r.index, .slice xo r.kids.length xc] 58) := by rw [← hY, setAll_blk V.heap.size 58 _ _ _ bX]; simp [setsA]
 have gY : Gr V Y := gX.trans kY (fun j hj (e : j = V.heap.size) => by omega)
 obtain ⟨t0, t1, t2, t3, t4, t5, t6⟩ := cell7 bY
 have fY := frz bY
 obtain ⟨nb, hnb⟩ : ∃ nb, nb = (r.nul || decide (join ≠ 1)) := ⟨_, rfl⟩
 obtain ⟨Y2, hY2⟩ := ex (Y.setCell ⟨V.heap.size, 1, none⟩ (.bool nb))
 have kY2 : Keeps Y Y2 (fun z => z = V.heap.size) := by rw [← hY2]; exact Keeps.setCell (S := fun z => z = V.heap.size) (p := ⟨V.heap.size, 1, none⟩) (Keeps.refl Y _) (fun _ => rfl) _
 have bY2 : Y2.heap[V.heap.size]? = some (.cells #[.string r.name, .bool nb, .int .i64 r.kind, .int .i64 r.width, .int .i64 r.id, .int .i64 r.index, .slice xo r.kids.length xc] 58) := by rw [← hY2, heap_setCell_same Y V.heap.size 1 _ _ _ bY]; rfl
 obtain ⟨u0, u1, u2, u3, u4, u5, u6⟩ := cell7 bY2
 have gY2 : Gr V Y2 := gY.trans kY2 (fun j hj (e : j = V.heap.size) => by omega)
 have d3 := (gY2.block _ (lt_of_heap c3) id).trans c3
 obtain ⟨y0, y1, y2, y3, y4, y5, y6⟩ := cell7 d3
 have fd := frz d3
 obtain ⟨U, hU⟩ := ex (setAll Y2 A2.heap.size [(0, .string r.name), (1, .bool nb), (2, .int .i64 r.kind), (3, .int .i64 r.width), (4, .int .i64 r.id), (5, .int .i64 r.index), (6, .slice xo r.kids.length xc)])
 have kU : Keeps Y2 U (fun z => z = A2.heap.size) := by rw [← hU]; exact setAll_kp _ _ _
 have bU : U.heap[A2.heap.size]? = some (.cells #[.string r.name, .bool nb, .int .i64 r.kind, .int .i64 r.width, .int .i64 r.id, .int .i64 r.index, .slice xo r.kids.length xc] 58) := by rw [← hU, setAll_blk A2.heap.size 58 _ _ _ d3]; simp [setsA]
 have HU := hidM bU
 have HE : Hid (Gr W U ∧ FVx d W U (ren r.name (r.nul || decide (join ≠ 1)) r) (.agg #[.string r.name, .bool nb, .int .i64 r.kind, .int .i64 r.width, .int .i64 r.id, .int .i64 r.index, .slice xo r.kids.length xc])) := by
  have sV := gV.size
  have sW := gW.size
  have sY := gY2.size
  have sU := kU.size
  have gVU : Keeps V U (fun z => z = A2.heap.size) := (gY2.mono fun _ _ h => h.elim).tr kU
  refine ⟨(gW.tr gV).trans gVU (fun j hj (e : j = A2.heap.size) => by omega), xo, xc, ?_, hxl, ?_⟩
  ·rw [← hnb]; rfl
  exact (hxr.kept fun z hz => gVU.block z hz.2 (by have := hz.1; omega)).mono fun z hz => ⟨by have := hz.1; omega, by have := hz.2; omega⟩
 have hcs : (r.nul = true ∧ nb = true) ∨ (r.nul = false ∧ (join != 1) = false ∧ nb = false) ∨ (r.nul = false ∧ (join != 1) = true ∧ nb = true) := by
  rw [hnb]
  cases r.nul with
  | true => exact .inl ⟨rfl, rfl⟩
  | false =>
   by_cases e : join = 1
   ·exact .inr (.inl ⟨rfl, by simp [e], by simp [e]⟩)
   exact .inr (.inr ⟨rfl, by simp [e], by simp [e]⟩)
 simp only [setAll] at hY hU
 clear hnb hrr gX bX kY bY gY kY2 bY2 gY2 d3 c3 b3 gW s0 s1 s2 s3 kU bU gV hxl hxr
 rcases hcs with ⟨h1, rfl⟩ | ⟨h1, h2, rfl⟩ | ⟨h1, h2, rfl⟩
 all_goals
  rw [h1] at t1 hY
  rw [h1]
  go_wp2_with fail
  (try simp only [Exit.inBlock, Exit.then])
  refine bodyPost_ret (results_cell58 rfl rfl (by with_reducible exact HU.out) (by kernel_rfl)) rfl ?_
  exact ⟨_, rfl, by rw [← HRR.out]; exact HE.out⟩
theorem fieldOf25_l (d : Nat) (T : Nat → Prop) (join : Int) (fs : List FT) (k : Nat) (fo no go mo : Option Addr) (n cf nn cn m cg mm cm : Nat) (W : World) (hm : n = fs.length) (hrow : RowAt T W (d + 1) fo fs) (hT : ∀ b, T b → b < W.heap.size) (hk : k < fs.length) (hok : okB d fs[k]) (hj : ¬ join = 4 ∧ ¬ join = 5) (h3 : ¬ join = 3) (x : Int) :
  Calls Tryz.prog 25 #[.int .i64 join, .agg #[.slice fo n cf, .slice no nn cn], .agg #[.slice go m cg, .slice mo mm cm], .agg #[.int .i64 (k : Int), .int .i64 x]] W fun e w' => ∃ v, e = .returned v ∧ Gr W w' ∧ FVx d W w' (bareF d fs[k]) v := by
 obtain ⟨A0, hA0, g0, b0⟩ := nw W (.cells #[.slice fo n cf, .slice no nn cn] 25)
 obtain ⟨A1, hA1, g1, b1⟩ := nw A0 (.cells #[.slice go m cg, .slice mo mm cm] 25)
 obtain ⟨A2, hA2, g2, b2⟩ := nw A1 (.cells #[.int .i64 (k : Int), .int .i64 x] 72)
 obtain ⟨A3, hA3, g3, b3⟩ := nw A2 (.cells #[.string ⟨#[]⟩, .bool false, .int .i64 0, .int .i64 0, .int .i64 0, .int .i64 0, .slice none 0 0] 58)
 have s0 := sz_al hA0
 have s1 := sz_al hA1
 have s2 := sz_al hA2
 have s3 := sz_al hA3
 have g23 := g2.tr g3
 have gW : Gr W A3 := (g0.tr g1).tr g23
 obtain ⟨o0, o1⟩ := cell2 (((g1.tr g23).block _ (lt_of_heap b0) id).trans b0)
 obtain ⟨p0, p1⟩ := cell2 ((g23.block _ (lt_of_heap b1) id).trans b1)
 obtain ⟨q0, q1⟩ := cell2 ((g3.block _ (lt_of_heap b2) id).trans b2)
 obtain ⟨b, o, rfl, hb, hi⟩ := hrow.2 (fun e => by rw [e] at hk; simp at hk)
 obtain ⟨ko, kc, hc, hle, hr⟩ := hi k hk
 obtain ⟨f, hf⟩ : ∃ f, f = fs[k]'hk := ⟨_, rfl⟩
 rw [← hf] at hc hle hr hok ⊢
 have hcw := hc.kept (gW.block b (hT b hb) id)
 obtain ⟨x0, x1, x2, x3, x4, x5, x6⟩ := hcw
 have hkI : (k : Int) < (n : Int) := by omega
 have HQ := hidM (bare24 d T f ko kc A3 (hr.kept fun z hz => gW.block z (hT z hz) id) (fun z hz => Nat.lt_of_lt_of_le (hT z hz) gW.size) hle hok)
 have HB := hidM (And.intro b3 (And.intro gW (And.intro s0 (And.intro s1 (And.intro s2 s3)))))
 clear g0 g1 g2 g3 g23 b0 b1 b2 b3 gW s0 s1 s2 s3 hrow hT hi hc hb hr hle hok hm
 have hk1 : ((k : Int) == -1) = false := by simp
 have HKL := hidM (keepsLeft27 join A3)
 rw [show decide (join = 4 ∨ join = 5) = false by simp; exact hj] at HKL
 clear hf
 go_enter Tryz.func25, Tryz.ntmps25
 go_wp2_with (first | (go_at_call 27; refine HKL.out.mono ?_; rintro e w1 ⟨rfl, hw⟩; subst w1) | (go_at_call 24; refine Hid.out ?_))
 unfold Hid
 refine Calls.mono HQ.out ?_
 rintro e V ⟨v, rfl, gV, hv⟩
 obtain ⟨xo, xc, rfl, hxl, hxr⟩ := hv
 obtain ⟨r, hrr⟩ : ∃ r, r = bareF d f := ⟨_, rfl⟩
 rw [← hrr] at hxl hxr
 have HRR := hidM hrr
 rw [← hrr]
 obtain ⟨b3, gW, s0, s1, s2, s3⟩ := HB.out
 have c3 := (gV.block _ (lt_of_heap b3) id).trans b3
 obtain ⟨X, hX, gX, bX⟩ := nw V (.cells #[.string ⟨#[]⟩, .bool false, .int .i64 0, .int .i64 0, .int .i64 0, .int .i64 0, .slice none 0 0] 58)
 obtain ⟨z0, z1, z2, z3, z4, z5, z6⟩ := cell7 bX
 have fX := frz bX
 obtain ⟨Y, hY⟩ := ex (setAll X V.heap.size [(0, .string r.name), (1, .bool r.nul), (2, .int .i64 r.kind), (3, .int .i64 r.width), (4, .int .i64 r.id), (5, .int .i64 r.index), (6, .slice xo r.kids.length xc)])
 have kY : Keeps X Y (fun z => z = V.heap.size) := by rw [← hY]; exact setAll_kp _ _ _
 have bY : Y.heap[V.heap.size]? = some (.cells #[.string r.name, .bool r.nul, .int .i64 r.kind, .int .i64 r.width, .int .i64 r.id, .int .i64 r.index, .slice xo r.kids.length xc] 58) := by rw [← hY, setAll_blk V.heap.size 58 _ _ _ bX]; simp [setsA]
 have gY : Gr V Y := gX.trans kY (fun j hj (e : j = V.heap.size) => by omega)
 obtain ⟨t0, t1, t2, t3, t4, t5, t6⟩ := cell7 bY
 have fY := frz bY
 have d3 := (gY.block _ (lt_of_heap c3) id).trans c3
 obtain ⟨y0, y1, y2, y3, y4, y5, y6⟩ := cell7 d3
 have fd := frz d3
 obtain ⟨U, hU⟩ := ex (setAll Y A2.heap.size [(0, .string r.name), (1, .bool r.nul), (2, .int .i64 r.kind), (3, .int .i64 r.width), (4, .int .i64 r.id), (5, .int .i64 r.index), (6, .slice xo r.kids.length xc)])
 have kU : Keeps Y U (fun z => z = A2.heap.size) := by rw [← hU]; exact setAll_kp _ _ _
 have bU : U.heap[A2.heap.size]? = some (.cells #[.string r.name, .bool r.nul, .int .i64 r.kind, .int .i64 r.width, .int .i64 r.id, .int .i64 r.index, .slice xo r.kids.length xc] 58) := by rw [← hU, setAll_blk A2.heap.size 58 _ _ _ d3]; simp [setsA]
 have HU := hidM bU
 have HE : Hid (Gr W U ∧ FVx d W U (ren r.name r.nul r) (.agg #[.string r.name, .bool r.nul, .int .i64 r.kind, .int .i64 r.width, .int .i64 r.id, .int .i64 r.index, .slice xo r.kids.length xc])) := by
  have sV := gV.size
  have sW := gW.size
  have sY := gY.size
  have sU := kU.size
  have gVU : Keeps V U (fun z => z = A2.heap.size) := (gY.mono fun _ _ h => h.elim).tr kU
  refine ⟨(gW.tr gV).trans gVU (fun j hj (e : j = A2.heap.size) => by omega), xo, xc, ?_, hxl, ?_⟩
  ·rw [ren_self]
  exact (hxr.kept fun z hz => gVU.block z hz.2 (by have := hz.1; omega)).mono fun z hz => ⟨by have := hz.1; omega, by have := hz.2; omega⟩
 simp only [setAll] at hY hU
 clear hrr gX bX kY bY gY d3 c3 b3 gW s0 s1 s2 s3 kU bU gV hxl hxr
 have hj3 : (join == 3) = false := by simp; exact h3
 clear h3
 go_wp2_with fail
 (try simp only [Exit.inBlock, Exit.then])
 refine bodyPost_ret (results_cell58 rfl rfl (by with_reducible exact HU.out) (by kernel_rfl)) rfl ?_
 exact ⟨_, rfl, by rw [← HRR.out, ← ren_self r]; exact HE.out⟩
theorem fieldOf25_f0 (d : Nat) (T : Nat → Prop) (fs : List FT) (k : Nat) (fo no go mo : Option Addr) (n cf nn cn m cg mm cm : Nat) (W : World) (hm : n = fs.length) (hrow : RowAt T W (d + 1) fo fs) (hT : ∀ b, T b → b < W.heap.size) (hk : k < fs.length) (hok : okB d fs[k])  :
  Calls Tryz.prog 25 #[.int .i64 3, .agg #[.slice fo n cf, .slice no nn cn], .agg #[.slice go m cg, .slice mo mm cm], .agg #[.int .i64 (k : Int), .int .i64 (-1)]] W fun e w' => ∃ v, e = .returned v ∧ Gr W w' ∧ FVx d W w' (ren (bareF d fs[k]).name ((bareF d fs[k]).nul || true) (bareF d fs[k])) v := by
 obtain ⟨A0, hA0, g0, b0⟩ := nw W (.cells #[.slice fo n cf, .slice no nn cn] 25)
 obtain ⟨A1, hA1, g1, b1⟩ := nw A0 (.cells #[.slice go m cg, .slice mo mm cm] 25)
 obtain ⟨A2, hA2⟩ := ex (A1.alloc (.cells #[.int .i64 (k : Int), .int .i64 (-1)] 72))
 have g2 := gr_al hA2
 have b2 : A2.heap[A1.heap.size]? = some (.cells #[.int .i64 (k : Int), .int .i64 (-1)] 72) := by rw [← hA2]; exact heap_alloc_new A1 _
 obtain ⟨A3, hA3, g3, b3⟩ := nw A2 (.cells #[.string ⟨#[]⟩, .bool false, .int .i64 0, .int .i64 0, .int .i64 0, .int .i64 0, .slice none 0 0] 58)
 have s0 := sz_al hA0
 have s1 := sz_al hA1
 have s2 := sz_al hA2
 have s3 := sz_al hA3
 have g23 := g2.tr g3
 have gW : Gr W A3 := (g0.tr g1).tr g23
 obtain ⟨o0, o1⟩ := cell2 (((g1.tr g23).block _ (lt_of_heap b0) id).trans b0)
 obtain ⟨p0, p1⟩ := cell2 ((g23.block _ (lt_of_heap b1) id).trans b1)
 obtain ⟨q0, q1⟩ := cell2 ((g3.block _ (lt_of_heap b2) id).trans b2)
 obtain ⟨b, o, rfl, hb, hi⟩ := hrow.2 (fun e => by rw [e] at hk; simp at hk)
 obtain ⟨ko, kc, hc, hle, hr⟩ := hi k hk
 obtain ⟨f, hf⟩ : ∃ f, f = fs[k]'hk := ⟨_, rfl⟩
 rw [← hf] at hc hle hr hok ⊢
 have hcw := hc.kept (gW.block b (hT b hb) id)
 obtain ⟨x0, x1, x2, x3, x4, x5, x6⟩ := hcw
 have hkI : (k : Int) < (n : Int) := by omega
 have HQ := hidM (bare24 d T f ko kc A3 (hr.kept fun z hz => gW.block z (hT z hz) id) (fun z hz => Nat.lt_of_lt_of_le (hT z hz) gW.size) hle hok)
 have HO1 := hidM ((g3.block _ (lt_of_heap b2) id).trans b2)
 have HO2 := hidM ((g23.block _ (lt_of_heap b1) id).trans b1)
 have HB := hidM (And.intro b3 (And.intro gW (And.intro s0 (And.intro s1 (And.intro s2 s3)))))
 clear g0 g1 g2 g3 g23 b0 b1 b2 b3 gW s0 s1 s2 s3 hrow hT hi hc hb hr hle hok hm
 have hk1 : ((k : Int) == -1) = false := by simp
 have HKL := hidM (keepsLeft27 3 A3)
 rw [show decide ((3 : Int) = 4 ∨ (3 : Int) = 5) = false by decide] at HKL
 clear hf
 go_enter Tryz.func25, Tryz.ntmps25
 go_wp2_with (first | (go_at_call 27; refine HKL.out.mono ?_; rintro e w1 ⟨rfl, hw⟩; subst w1) | (go_at_call 24; refine Hid.out ?_))
 unfold Hid
 refine Calls.mono HQ.out ?_
 rintro e V ⟨v, rfl, gV, hv⟩
 obtain ⟨xo, xc, rfl, hxl, hxr⟩ := hv
 obtain ⟨r, hrr⟩ : ∃ r, r = bareF d f := ⟨_, rfl⟩
 rw [← hrr] at hxl hxr
 have HRR := hidM hrr
 rw [← hrr]
 obtain ⟨b3, gW, s0, s1, s2, s3⟩ := HB.out
 have c3 := (gV.block _ (lt_of_heap b3) id).trans b3
 obtain ⟨X, hX, gX, bX⟩ := nw V (.cells #[.string ⟨#[]⟩, .bool false, .int .i64 0, .int .i64 0, .int .i64 0, .int .i64 0, .slice none 0 0] 58)
 obtain ⟨z0, z1, z2, z3, z4, z5, z6⟩ := cell7 bX
 have fX := frz bX
 obtain ⟨Y, hY⟩ := ex (setAll X V.heap.size [(0, .string r.name), (1, .bool r.nul), (2, .int .i64 r.kind), (3, .int .i64 r.width), (4, .int .i64 r.id), (5, .int .i64 r.index), (6, .slice xo r.kids.length xc)])
 have kY : Keeps X Y (fun z => z = V.heap.size) := by rw [← hY]; exact setAll_kp _ _ _
 have bY : Y.heap[V.heap.size]? = some (.cells #[.string r.name, .bool r.nul, .int .i64 r.kind, .int .i64 r.width, .int .i64 r.id, .int .i64 r.index, .slice xo r.kids.length xc] 58) := by rw [← hY, setAll_blk V.heap.size 58 _ _ _ bX]; simp [setsA]
 have gY : Gr V Y := gX.trans kY (fun j hj (e : j = V.heap.size) => by omega)
 obtain ⟨t0, t1, t2, t3, t4, t5, t6⟩ := cell7 bY
 have fY := frz bY
 have gAY : Gr A3 Y := gV.tr gY
 obtain ⟨o2, o3⟩ := cell2 ((gAY.block _ (lt_of_heap HO1.out) id).trans HO1.out)
 obtain ⟨o4, o5⟩ := cell2 ((gAY.block _ (lt_of_heap HO2.out) id).trans HO2.out)
 clear gAY
 obtain ⟨nb, hnb⟩ : ∃ nb, nb = (r.nul || true) := ⟨_, rfl⟩
 obtain ⟨Y2, hY2⟩ := ex (Y.setCell ⟨V.heap.size, 1, none⟩ (.bool nb))
 have kY2 : Keeps Y Y2 (fun z => z = V.heap.size) := by rw [← hY2]; exact Keeps.setCell (S := fun z => z = V.heap.size) (p := ⟨V.heap.size, 1, none⟩) (Keeps.refl Y _) (fun _ => rfl) _
 have bY2 : Y2.heap[V.heap.size]? = some (.cells #[.string r.name, .bool nb, .int .i64 r.kind, .int .i64 r.width, .int .i64 r.id, .int .i64 r.index, .slice xo r.kids.length xc] 58) := by rw [← hY2, heap_setCell_same Y V.heap.size 1 _ _ _ bY]; rfl
 obtain ⟨u0, u1, u2, u3, u4, u5, u6⟩ := cell7 bY2
 have gY2 : Gr V Y2 := gY.trans kY2 (fun j hj (e : j = V.heap.size) => by omega)
 have d3 := (gY2.block _ (lt_of_heap c3) id).trans c3
 obtain ⟨y0, y1, y2, y3, y4, y5, y6⟩ := cell7 d3
 have fd := frz d3
 obtain ⟨U, hU⟩ := ex (setAll Y2 A2.heap.size [(0, .string r.name), (1, .bool nb), (2, .int .i64 r.kind), (3, .int .i64 r.width), (4, .int .i64 r.id), (5, .int .i64 r.index), (6, .slice xo r.kids.length xc)])
 have kU : Keeps Y2 U (fun z => z = A2.heap.size) := by rw [← hU]; exact setAll_kp _ _ _
 have bU : U.heap[A2.heap.size]? = some (.cells #[.string r.name, .bool nb, .int .i64 r.kind, .int .i64 r.width, .int .i64 r.id, .int .i64 r.index, .slice xo r.kids.length xc] 58) := by rw [← hU, setAll_blk A2.heap.size 58 _ _ _ d3]; simp [setsA]
 have HU := hidM bU
 have HE : Hid (Gr W U ∧ FVx d W U (ren r.name (r.nul || true) r) (.agg #[.string r.name, .bool nb, .int .i64 r.kind, .int .i64 r.width, .int .i64 r.id, .int .i64 r.index, .slice xo r.kids.length xc])) := by
  have sV := gV.size
  have sW := gW.size
  have sY := gY2.size
  have sU := kU.size
  have gVU : Keeps V U (fun z => z = A2.heap.size) := (gY2.mono fun _ _ h => h.elim).tr kU
  refine ⟨(gW.tr gV).trans gVU (fun j hj (e : j = A2.heap.size) => by omega), xo, xc, ?_, hxl, ?_⟩
  ·rw [← hnb]; rfl
  exact (hxr.kept fun z hz => gVU.block z hz.2 (by have := hz.1; omega)).mono fun z hz => ⟨by have := hz.1; omega, by have := hz.2; omega⟩
 have hcs : (r.nul = true ∧ nb = true) ∨ (r.nul = false ∧ nb = true) := by
  rw [hnb]
  cases r.nul <;> simp
 simp only [setAll] at hY hU
 clear hnb hrr gX bX kY bY gY kY2 bY2 gY2 d3 c3 b3 gW s0 s1 s2 s3 kU bU gV hxl hxr
 rcases hcs with ⟨h1, rfl⟩ | ⟨h1, rfl⟩
 all_goals
  rw [h1] at t1 hY
  rw [h1]
 all_goals
  go_wp2_with fail
  (try simp only [Exit.inBlock, Exit.then])
  refine bodyPost_ret (results_cell58 rfl rfl (by with_reducible exact HU.out) (by kernel_rfl)) rfl ?_
  exact ⟨_, rfl, by rw [← HRR.out]; exact HE.out⟩
theorem fieldOf25_f1 (d : Nat) (T : Nat → Prop) (fs : List FT) (k : Nat) (fo no go mo : Option Addr) (n cf nn cn m cg mm cm : Nat) (W : World) (hm : n = fs.length) (hrow : RowAt T W (d + 1) fo fs) (hT : ∀ b, T b → b < W.heap.size) (hk : k < fs.length) (fs2 : List FT) (i : Nat) (hm2 : m = fs2.length) (hrow2 : RowAt T W (d + 1) go fs2) (hi2 : i < fs2.length) (hok : okB d fs[k])  :
  Calls Tryz.prog 25 #[.int .i64 3, .agg #[.slice fo n cf, .slice no nn cn], .agg #[.slice go m cg, .slice mo mm cm], .agg #[.int .i64 (k : Int), .int .i64 (i : Int)]] W fun e w' => ∃ v, e = .returned v ∧ Gr W w' ∧ FVx d W w' (ren (bareF d fs[k]).name ((bareF d fs[k]).nul || fs2[i].nul) (bareF d fs[k])) v := by
 obtain ⟨A0, hA0, g0, b0⟩ := nw W (.cells #[.slice fo n cf, .slice no nn cn] 25)
 obtain ⟨A1, hA1, g1, b1⟩ := nw A0 (.cells #[.slice go m cg, .slice mo mm cm] 25)
 obtain ⟨A2, hA2⟩ := ex (A1.alloc (.cells #[.int .i64 (k : Int), .int .i64 (i : Int)] 72))
 have g2 := gr_al hA2
 have b2 : A2.heap[A1.heap.size]? = some (.cells #[.int .i64 (k : Int), .int .i64 (i : Int)] 72) := by rw [← hA2]; exact heap_alloc_new A1 _
 obtain ⟨A3, hA3, g3, b3⟩ := nw A2 (.cells #[.string ⟨#[]⟩, .bool false, .int .i64 0, .int .i64 0, .int .i64 0, .int .i64 0, .slice none 0 0] 58)
 have s0 := sz_al hA0
 have s1 := sz_al hA1
 have s2 := sz_al hA2
 have s3 := sz_al hA3
 have g23 := g2.tr g3
 have gW : Gr W A3 := (g0.tr g1).tr g23
 obtain ⟨o0, o1⟩ := cell2 (((g1.tr g23).block _ (lt_of_heap b0) id).trans b0)
 obtain ⟨p0, p1⟩ := cell2 ((g23.block _ (lt_of_heap b1) id).trans b1)
 obtain ⟨q0, q1⟩ := cell2 ((g3.block _ (lt_of_heap b2) id).trans b2)
 obtain ⟨b, o, rfl, hb, hi⟩ := hrow.2 (fun e => by rw [e] at hk; simp at hk)
 obtain ⟨ko, kc, hc, hle, hr⟩ := hi k hk
 obtain ⟨f, hf⟩ : ∃ f, f = fs[k]'hk := ⟨_, rfl⟩
 rw [← hf] at hc hle hr hok ⊢
 have hcw := hc.kept (gW.block b (hT b hb) id)
 obtain ⟨x0, x1, x2, x3, x4, x5, x6⟩ := hcw
 have hkI : (k : Int) < (n : Int) := by omega
 have HQ := hidM (bare24 d T f ko kc A3 (hr.kept fun z hz => gW.block z (hT z hz) id) (fun z hz => Nat.lt_of_lt_of_le (hT z hz) gW.size) hle hok)
 have HO1 := hidM ((g3.block _ (lt_of_heap b2) id).trans b2)
 have HO2 := hidM ((g23.block _ (lt_of_heap b1) id).trans b1)
 obtain ⟨b', o', rfl, hb', hi'⟩ := hrow2.2 (fun e => by rw [e] at hi2; simp at hi2)
 obtain ⟨ko', kc', hc', -, -⟩ := hi' i hi2
 obtain ⟨f', hf'⟩ : ∃ f', f' = fs2[i]'hi2 := ⟨_, rfl⟩
 rw [← hf'] at hc' ⊢
 have hiI : (i : Int) < (m : Int) := by omega
 have hi1 : ((i : Int) == -1) = false := by simp
 have HC' : Hid (∀ u, Gr A3 u → u.cell? ⟨b', o' + i * 7 + 1, none⟩ = some (.bool f'.nul)) := fun u g => g.cell' (gW.cell' hc'.c1 id) id
 have HB := hidM (And.intro b3 (And.intro gW (And.intro s0 (And.intro s1 (And.intro s2 s3)))))
 clear g0 g1 g2 g3 g23 b0 b1 b2 b3 gW s0 s1 s2 s3 hrow hT hi hc hb hr hle hok hm hrow2 hm2 hb' hi' hc' hf'
 have hk1 : ((k : Int) == -1) = false := by simp
 have HKL := hidM (keepsLeft27 3 A3)
 rw [show decide ((3 : Int) = 4 ∨ (3 : Int) = 5) = false by decide] at HKL
 clear hf
 go_enter Tryz.func25, Tryz.ntmps25
 go_wp2_with (first | (go_at_call 27; refine HKL.out.mono ?_; rintro e w1 ⟨rfl, hw⟩; subst w1) | (go_at_call 24; refine Hid.out ?_))
 unfold Hid
 refine Calls.mono HQ.out ?_
 rintro e V ⟨v, rfl, gV, hv⟩
 obtain ⟨xo, xc, rfl, hxl, hxr⟩ := hv
 obtain ⟨r, hrr⟩ : ∃ r, r = bareF d f := ⟨_, rfl⟩
 rw [← hrr] at hxl hxr
 have HRR := hidM hrr
 rw [← hrr]
 obtain ⟨b3, gW, s0, s1, s2, s3⟩ := HB.out
 have c3 := (gV.block _ (lt_of_heap b3) id).trans b3
 obtain ⟨X, hX, gX, bX⟩ := nw V (.cells #[.string ⟨#[]⟩, .bool false, .int .i64 0, .int .i64 0, .int .i64 0, .int .i64 0, .slice none 0 0] 58)
 obtain ⟨z0, z1, z2, z3, z4, z5, z6⟩ := cell7 bX
 have fX := frz bX
 obtain ⟨Y, hY⟩ := ex (setAll X V.heap.size [(0, .string r.name), (1, .bool r.nul), (2, .int .i64 r.kind), (3, .int .i64 r.width), (4, .int .i64 r.id), (5, .int .i64 r.index), (6, .slice xo r.kids.length xc)])
 have kY : Keeps X Y (fun z => z = V.heap.size) := by rw [← hY]; exact setAll_kp _ _ _
 have bY : Y.heap[V.heap.size]? = some (.cells #[.string r.name, .bool r.nul, .int .i64 r.kind, .int .i64 r.width, .int .i64 r.id, .int .i64 r.index, .slice xo r.kids.length xc] 58) := by rw [← hY, setAll_blk V.heap.size 58 _ _ _ bX]; simp [setsA]
 have gY : Gr V Y := gX.trans kY (fun j hj (e : j = V.heap.size) => by omega)
 obtain ⟨t0, t1, t2, t3, t4, t5, t6⟩ := cell7 bY
 have fY := frz bY
 have gAY : Gr A3 Y := gV.tr gY
 obtain ⟨o2, o3⟩ := cell2 ((gAY.block _ (lt_of_heap HO1.out) id).trans HO1.out)
 obtain ⟨o4, o5⟩ := cell2 ((gAY.block _ (lt_of_heap HO2.out) id).trans HO2.out)
 have cn' := HC'.out Y gAY
 clear gAY
 obtain ⟨nb, hnb⟩ : ∃ nb, nb = (r.nul || f'.nul) := ⟨_, rfl⟩
 obtain ⟨Y2, hY2⟩ := ex (Y.setCell ⟨V.heap.size, 1, none⟩ (.bool nb))
 have kY2 : Keeps Y Y2 (fun z => z = V.heap.size) := by rw [← hY2]; exact Keeps.setCell (S := fun z => z = V.heap.size) (p := ⟨V.heap.size, 1, none⟩) (Keeps.refl Y _) (fun _ => rfl) _
 have bY2 : Y2.heap[V.heap.size]? = some (.cells #[.string r.name, .bool nb, .int .i64 r.kind, .int .i64 r.width, .int .i64 r.id, .int .i64 r.index, .slice xo r.kids.length xc] 58) := by rw [← hY2, heap_setCell_same Y V.heap.size 1 _ _ _ bY]; rfl
 obtain ⟨u0, u1, u2, u3, u4, u5, u6⟩ := cell7 bY2
 have gY2 : Gr V Y2 := gY.trans kY2 (fun j hj (e : j = V.heap.size) => by omega)
 have d3 := (gY2.block _ (lt_of_heap c3) id).trans c3
 obtain ⟨y0, y1, y2, y3, y4, y5, y6⟩ := cell7 d3
 have fd := frz d3
 obtain ⟨U, hU⟩ := ex (setAll Y2 A2.heap.size [(0, .string r.name), (1, .bool nb), (2, .int .i64 r.kind), (3, .int .i64 r.width), (4, .int .i64 r.id), (5, .int .i64 r.index), (6, .slice xo r.kids.length xc)])
 have kU : Keeps Y2 U (fun z => z = A2.heap.size) := by rw [← hU]; exact setAll_kp _ _ _
 have bU : U.heap[A2.heap.size]? = some (.cells #[.string r.name, .bool nb, .int .i64 r.kind, .int .i64 r.width, .int .i64 r.id, .int .i64 r.index, .slice xo r.kids.length xc] 58) := by rw [← hU, setAll_blk A2.heap.size 58 _ _ _ d3]; simp [setsA]
 have HU := hidM bU
 have HE : Hid (Gr W U ∧ FVx d W U (ren r.name (r.nul || f'.nul) r) (.agg #[.string r.name, .bool nb, .int .i64 r.kind, .int .i64 r.width, .int .i64 r.id, .int .i64 r.index, .slice xo r.kids.length xc])) := by
  have sV := gV.size
  have sW := gW.size
  have sY := gY2.size
  have sU := kU.size
  have gVU : Keeps V U (fun z => z = A2.heap.size) := (gY2.mono fun _ _ h => h.elim).tr kU
  refine ⟨(gW.tr gV).trans gVU (fun j hj (e : j = A2.heap.size) => by omega), xo, xc, ?_, hxl, ?_⟩
  ·rw [← hnb]; rfl
  exact (hxr.kept fun z hz => gVU.block z hz.2 (by have := hz.1; omega)).mono fun z hz => ⟨by have := hz.1; omega, by have := hz.2; omega⟩
 have hcs : (r.nul = true ∧ nb = true) ∨ (r.nul = false ∧ f'.nul = nb) := by
  rw [hnb]
  cases r.nul <;> simp
 simp only [setAll] at hY hU
 clear hnb hrr gX bX kY bY gY kY2 bY2 gY2 d3 c3 b3 gW s0 s1 s2 s3 kU bU gV hxl hxr
 rcases hcs with ⟨h1, rfl⟩ | ⟨h1, h2⟩
 ·rw [h1] at t1 hY
  rw [h1]
  go_wp2_with fail
  (try simp only [Exit.inBlock, Exit.then])
  refine bodyPost_ret (results_cell58 rfl rfl (by with_reducible exact HU.out) (by kernel_rfl)) rfl ?_
  exact ⟨_, rfl, by rw [← HRR.out]; exact HE.out⟩
 rw [h1] at t1 hY
 rw [h1]
 rw [h2] at cn'
 go_wp2_with fail
 (try simp only [Exit.inBlock, Exit.then])
 refine bodyPost_ret (results_cell58 rfl rfl (by with_reducible exact HU.out) (by kernel_rfl)) rfl ?_
 exact ⟨_, rfl, by rw [← HRR.out]; exact HE.out⟩
open Kd (NewB ZsAt ZsAt.gr atR atGo at_gen AtQ)
theorem fieldOf25_s (d : Nat) (T : Nat → Prop) (join : Int) (fs : List FT) (k : Nat) (fo no go mo : Option Addr) (n cf nn cn m cg mm cm : Nat) (W : World) (hm : n = fs.length) (hrow : RowAt T W (d + 1) fo fs) (hle : fs.length ≤ cf) (hT : ∀ b, T b → b < W.heap.size) (hk : k < fs.length) (hMB : Ans 55 #[.agg #[.slice fo n cf, .slice no nn cn]] true W) (hj : join = 4 ∨ join = 5) (x : Int) :
  Calls Tryz.prog 25 #[.int .i64 join, .agg #[.slice fo n cf, .slice no nn cn], .agg #[.slice go m cg, .slice mo mm cm], .agg #[.int .i64 (k : Int), .int .i64 x]] W fun e w' => ∃ v, e = .returned v ∧ Gr W w' ∧ FVx (d + 1) W w' fs[k] v := by
 obtain ⟨A0, hA0, g0, b0⟩ := nw W (.cells #[.slice fo n cf, .slice no nn cn] 25)
 obtain ⟨A1, hA1, g1, b1⟩ := nw A0 (.cells #[.slice go m cg, .slice mo mm cm] 25)
 obtain ⟨A2, hA2, g2, b2⟩ := nw A1 (.cells #[.int .i64 (k : Int), .int .i64 x] 72)
 obtain ⟨A3, hA3, g3, b3⟩ := nw A2 (.cells #[.string ⟨#[]⟩, .bool false, .int .i64 0, .int .i64 0, .int .i64 0, .int .i64 0, .slice none 0 0] 58)
 have s0 := sz_al hA0
 have s1 := sz_al hA1
 have s2 := sz_al hA2
 have s3 := sz_al hA3
 have g23 := g2.tr g3
 have gW : Gr W A3 := (g0.tr g1).tr g23
 obtain ⟨o0, o1⟩ := cell2 (((g1.tr g23).block _ (lt_of_heap b0) id).trans b0)
 obtain ⟨p0, p1⟩ := cell2 ((g23.block _ (lt_of_heap b1) id).trans b1)
 obtain ⟨q0, q1⟩ := cell2 ((g3.block _ (lt_of_heap b2) id).trans b2)
 obtain ⟨A4, hA4, g4, b4⟩ := nw A3 (.cells #[.int .i64 (k : Int)] 3)
 have hzs : ZsAt A4 (some ⟨A3.heap.size, 0, Option.none⟩) [(k : Int)] := fun _ => ⟨A3.heap.size, 0, rfl, fun j hj => by
  obtain rfl : j = 0 := by simpa using hj
  simp [World.cell?, b4]⟩
 obtain ⟨r, hrr⟩ : ∃ r, r = fs[k]'hk := ⟨_, rfl⟩
 have hat : atR 0 fs [(k : Int)] = (0, r) := by
  have e1 : fs[k]! = r := by rw [hrr, getElem!_pos fs k hk]
  have e2 : (0 : Int) ≤ (k : Int) ∧ (k : Int) < (fs.length : Int) := by omega
  simp [atR, atGo, e2, e1]
  try omega
 have gW4 := gW.tr g4
 have hq := at_gen (er := 0) (path := [(k : Int)]) (pc := 1) (po := some ⟨A3.heap.size, 0, Option.none⟩) (no := no) (nn := nn) (cn := cn) (by rw [← hm]; exact hMB.gr gW4) (hrow.kept fun z hz => gW4.block z (hT z hz) id) hle (fun z hz => Nat.lt_of_lt_of_le (hT z hz) gW4.size) hzs (by simp [big]) A4 (Keeps.refl _ _)
 rw [hat, ← hm] at hq
 have HQ := hidM hq
 have s4 := g4.size
 have hkI : (k : Int) < (n : Int) := by omega
 have HB := hidM (And.intro b3 (And.intro gW (And.intro s0 (And.intro s1 (And.intro s2 (And.intro s3 (And.intro s4 g4)))))))
 clear g0 g1 g2 g3 g4 gW4 g23 b0 b1 b2 b3 b4 gW s0 s1 s2 s3 s4 hrow hT hle hm hzs hq hat hMB
 have hk1 : ((k : Int) == -1) = false := by simp
 have HKL := hidM (keepsLeft27 join A3)
 rw [show decide (join = 4 ∨ join = 5) = true by simp; exact hj] at HKL
 rw [← hrr]
 clear hrr
 go_enter Tryz.func25, Tryz.ntmps25
 go_wp2_with (first | (go_at_call 27; refine HKL.out.mono ?_; rintro e w1 ⟨rfl, hw⟩; subst w1) | (go_at_call 40; refine Hid.out ?_))
 unfold Hid
 refine Calls.mono HQ.out ?_
 rintro e V ⟨xo, xc, rfl, gV0, hxl, hxr⟩
 obtain ⟨b3, gW, s0, s1, s2, s3, s4, g4⟩ := HB.out
 have gV : Gr A3 V := g4.tr gV0
 have c3 := (gV.block _ (lt_of_heap b3) id).trans b3
 obtain ⟨X, hX, gX, bX⟩ := nw V (.cells #[.string ⟨#[]⟩, .bool false, .int .i64 0, .int .i64 0, .int .i64 0, .int .i64 0, .slice none 0 0] 58)
 obtain ⟨z0, z1, z2, z3, z4, z5, z6⟩ := cell7 bX
 have fX := frz bX
 obtain ⟨Y, hY⟩ := ex (setAll X V.heap.size [(0, .string r.name), (1, .bool r.nul), (2, .int .i64 r.kind), (3, .int .i64 r.width), (4, .int .i64 r.id), (5, .int .i64 r.index), (6, .slice xo r.kids.length xc)])
 have kY : Keeps X Y (fun z => z = V.heap.size) := by rw [← hY]; exact setAll_kp _ _ _
 have bY : Y.heap[V.heap.size]? = some (.cells #[.string r.name, .bool r.nul, .int .i64 r.kind, .int .i64 r.width, .int .i64 r.id, .int .i64 r.index, .slice xo r.kids.length xc] 58) := by rw [← hY, setAll_blk V.heap.size 58 _ _ _ bX]; simp [setsA]
 have gY : Gr V Y := gX.trans kY (fun j hj (e : j = V.heap.size) => by omega)
 obtain ⟨t0, t1, t2, t3, t4, t5, t6⟩ := cell7 bY
 have fY := frz bY
 have d3 := (gY.block _ (lt_of_heap c3) id).trans c3
 obtain ⟨y0, y1, y2, y3, y4, y5, y6⟩ := cell7 d3
 have fd := frz d3
 obtain ⟨U, hU⟩ := ex (setAll Y A2.heap.size [(0, .string r.name), (1, .bool r.nul), (2, .int .i64 r.kind), (3, .int .i64 r.width), (4, .int .i64 r.id), (5, .int .i64 r.index), (6, .slice xo r.kids.length xc)])
 have kU : Keeps Y U (fun z => z = A2.heap.size) := by rw [← hU]; exact setAll_kp _ _ _
 have bU : U.heap[A2.heap.size]? = some (.cells #[.string r.name, .bool r.nul, .int .i64 r.kind, .int .i64 r.width, .int .i64 r.id, .int .i64 r.index, .slice xo r.kids.length xc] 58) := by rw [← hU, setAll_blk A2.heap.size 58 _ _ _ d3]; simp [setsA]
 have HU := hidM bU
 have HE : Hid (Gr W U ∧ FVx (d + 1) W U r (.agg #[.string r.name, .bool r.nul, .int .i64 r.kind, .int .i64 r.width, .int .i64 r.id, .int .i64 r.index, .slice xo r.kids.length xc])) := by
  have sV := gV.size
  have sW := gW.size
  have sY := gY.size
  have sU := kU.size
  have gVU : Keeps V U (fun z => z = A2.heap.size) := (gY.mono fun _ _ h => h.elim).tr kU
  refine ⟨(gW.tr gV).trans gVU (fun j hj (e : j = A2.heap.size) => by omega), xo, xc, ?_, hxl, ?_⟩
  ·rfl
  exact (hxr.kept fun z hz => gVU.block z hz.2 (by have := hz.1; omega)).mono fun z hz => ⟨by have := hz.1; omega, by have := hz.2; omega⟩
 simp only [setAll] at hY hU
 clear gX bX kY bY gY d3 c3 b3 gW s0 s1 s2 s3 s4 g4 gV0 kU bU gV hxl hxr
 go_wp2_with fail
 (try simp only [Exit.inBlock, Exit.then])
 refine bodyPost_ret (results_cell58 rfl rfl (by with_reducible exact HU.out) (by kernel_rfl)) rfl ?_
 exact ⟨_, rfl, HE.out⟩
def OutAt (S : Nat → Prop) (W : World) (v : Value) (out : List LS) : Prop :=
 ∃ cs, W.ownsRow 0 80 10 v out.length cs ∧ ∀ j (h : j < out.length), ∃ wb wc fo fc ao ca, (cs.drop (j * 10)).take 10 = nodeCells out[j] wb wc fo fc ao ca ∧ NodeIn S W out[j] wb wc fo fc ao ca
theorem way_kp {W W' : World} {v u : Value} {n m : Nat} {cs xs : List Value} (hv : W.ownsRow 0 80 10 v n cs) (hu : W.ownsRow 0 3 1 u m xs) (k : Keeps W W' (fun b => v.ownBlock = some b)) : W'.ownsRow 0 3 1 u m xs :=
 row_kp hu fun g e => k.block g (own_lt hu g e) (row_apart hu hv (by decide) e)
theorem NodeIn.keeps {S : Nat → Prop} {W W' : World} {x : LS} {wb wc : Nat} {fo : Option Addr} {fc : Nat} {ao : Option Addr} {ca : Nat} (h : NodeIn S W x wb wc fo fc ao ca) {v : Value} {n : Nat} {cs : List Value} (hv : W.ownsRow 0 80 10 v n cs)
  (k : Keeps W W' (fun b => v.ownBlock = some b)) (hS : ∀ b, S b → b < W.heap.size ∧ v.ownBlock ≠ some b) : NodeIn S W' x wb wc fo fc ao ca := by
 have hk : KpOf S W W' := fun b hb => k.block b (hS b hb).1 (hS b hb).2
 obtain ⟨D, hD⟩ := h.row
 obtain ⟨E, hE⟩ := h.kids
 exact ⟨way_kp hv h.way k, ⟨D, hD.kept hk⟩, ⟨E, hE.kept hk⟩, h.le, h.kle, h.ix⟩
theorem OutAt.keeps {S : Nat → Prop} {W W' : World} {v : Value} {out : List LS} (h : OutAt S W v out) (k : Keeps W W' (fun _ => False)) (hS : ∀ b, S b → b < W.heap.size ∧ v.ownBlock ≠ some b) : OutAt S W' v out := by
 obtain ⟨cs, hown, hc⟩ := h
 refine ⟨cs, row_kp hown fun g e => k.block g (own_lt hown g e) id, fun j hj => ?_⟩
 obtain ⟨wb, wc, fo, fc, ao, ca, h1, h2⟩ := hc j hj
 exact ⟨wb, wc, fo, fc, ao, ca, h1, h2.keeps hown (k.mono fun _ _ h => h.elim) hS⟩
theorem out_snoc {S : Nat → Prop} {W W' : World} {v v' : Value} {out : List LS} {cs : List Value} (hown : W.ownsRow 0 80 10 v out.length cs)
  (hc : ∀ j (h : j < out.length), ∃ wb wc fo fc ao ca, (cs.drop (j * 10)).take 10 = nodeCells out[j] wb wc fo fc ao ca ∧ NodeIn S W out[j] wb wc fo fc ao ca)
  (k : Keeps W W' (fun b => v.ownBlock = some b)) (hS : ∀ b, S b → b < W.heap.size ∧ v.ownBlock ≠ some b) {x : LS} {wb wc : Nat} {fo : Option Addr} {fc : Nat} {ao : Option Addr} {ca : Nat}
  (hown' : W'.ownsRow 0 80 10 v' (out.length + 1) (cs ++ nodeCells x wb wc fo fc ao ca)) (hx : NodeIn S W' x wb wc fo fc ao ca) : OutAt S W' v' (out ++ [x]) := by
 have hl : cs.length = out.length * 10 := hown.1
 refine ⟨_, by rw [List.length_append]; exact hown', fun j hj => ?_⟩
 by_cases hlt : j < out.length
 ·obtain ⟨wb, wc, fo, fc, ao, ca, h1, h2⟩ := hc j hlt
  refine ⟨wb, wc, fo, fc, ao, ca, ?_, ?_⟩
  ·rw [List.getElem_append_left hlt, ← h1, List.drop_append_of_le_length (by omega), List.take_append_of_le_length (by simp; omega)]
  rw [List.getElem_append_left hlt]; exact h2.keeps hown k hS
 obtain rfl : j = out.length := by simp at hj; omega
 refine ⟨wb, wc, fo, fc, ao, ca, ?_, ?_⟩
 ·rw [List.getElem_append_right (by omega), ← hl, List.drop_left]
  simp [nodeCells]
 rw [List.getElem_append_right (by omega)]; simpa using hx
theorem src_node (w : World) (G : Nat) (hG : w.heap.size = G) (a b c d e f g h i j : Value) (hone : ∀ v ∈ [a, b, c, d, e, f, g, h, i, j], v.oneCell' = true) :
  Src Tryz.prog 10 76 (.slice (some ⟨G, 0, none⟩) 1 1) 1 [a, b, c, d, e, f, g, h, i, j] (w.alloc (.cells #[a, b, c, d, e, f, g, h, i, j] 80)).drew := by
 subst hG
 refine Src.ofSlice _ Tryz.underlying76 _ _ _ _ rfl ?_ (by simpa using hone)
 intro k v hk
 match k, hk with
 | 0, hk => simp at hk; subst hk; simp [Addr.add]
 | 1, hk => simp at hk; subst hk; simp [Addr.add]
 | 2, hk => simp at hk; subst hk; simp [Addr.add]
 | 3, hk => simp at hk; subst hk; simp [Addr.add]
 | 4, hk => simp at hk; subst hk; simp [Addr.add]
 | 5, hk => simp at hk; subst hk; simp [Addr.add]
 | 6, hk => simp at hk; subst hk; simp [Addr.add]
 | 7, hk => simp at hk; subst hk; simp [Addr.add]
 | 8, hk => simp at hk; subst hk; simp [Addr.add]
 | 9, hk => simp at hk; subst hk; simp [Addr.add]
 | k + 10, hk => simp at hk
noncomputable def z61 : Value := ((Tryz.prog.info? 80).bind (·.zero)).getD default
theorem c61 : z61.cells.size = 10 := by kernel_rfl
theorem info80z : (Tryz.prog.info? 80).map (fun i => (i.zero, i.size, i.bytes)) = some (some z61, 10, 136) := by kernel_rfl
structure GrowI (S : Nat → Prop) (W wr : World) (v0 v : Value) (out : List LS) : Prop where
 at_ : OutAt S wr v out
 k : Keeps W wr (fun b => v0.ownBlock = some b)
 own : v.ownBlock = v0.ownBlock ∨ ∀ g, v.ownBlock = some g → W.heap.size ≤ g
theorem GrowI.trans {S : Nat → Prop} {W w3 w4 : World} {v0 v3 v4 : Value} {o3 o4 : List LS} (h : GrowI S W w3 v0 v3 o3) (k : GrowI S w3 w4 v3 v4 o4) : GrowI S W w4 v0 v4 o4 := by
 refine ⟨k.at_, h.k.trans k.k fun j hj e => ?_, ?_⟩
 ·rcases h.own with h1 | h1
  ·exact h1 ▸ e
  have := h1 j e; omega
 have hs := h.k.size
 rcases k.own with h1 | h1
 ·rw [h1]; exact h.own
 exact .inr fun g e => by have := h1 g e; omega
theorem grow_join {S : Nat → Prop} {W wr W2 Wx w3 : World} {v0 : Value} {xo yo : Option Addr} {xc yc n : Nat} {o : List LS} {cs : List Value} {x : LS} {G wc : Nat} {fo : Option Addr} {fc : Nat} {ao : Option Addr} {ca D : Nat}
  (hI : GrowI S W wr v0 (.slice xo n xc) o) (hn : n = o.length) (hSX : ∀ b, S b → b < wr.heap.size ∧ (Value.slice xo n xc).ownBlock ≠ some b)
  (hcs : wr.ownsRow 0 80 10 (.slice xo n xc) n cs ∧ ∀ j (h : j < o.length), ∃ wb wc fo fc ao ca, (cs.drop (j * 10)).take 10 = nodeCells o[j] wb wc fo fc ao ca ∧ NodeIn S wr o[j] wb wc fo fc ao ca)
  (k2 : Keeps wr W2 (fun _ => False)) (kx : Keeps W2 Wx (fun _ => False)) (way : W2.ownsRow 0 3 1 (.slice (some ⟨G, 0, none⟩) x.path.length wc) x.path.length (ints x.path))
  (hown' : w3.ownsRow 0 80 10 (.slice yo (n + 1) yc) (n + 1) (cs ++ nodeCells x G wc fo fc ao ca)) (hg : Wx.grownBy w3 (Value.slice xo n xc).ownBlock) (hor : (Value.slice yo (n + 1) yc).ownBlock = (Value.slice xo n xc).ownBlock ∨ ∀ g, (Value.slice yo (n + 1) yc).ownBlock = some g → Wx.heap.size ≤ g)
  (hrow : RowAt S wr (D + 1) ao x.list) (hkids : RowAt S wr D fo x.fld.kids) (hle : x.list.length ≤ ca) (hkle : x.fld.kids.length ≤ fc) (hix : x.idx < x.list.length) :
  GrowI S W w3 v0 (.slice yo (n + 1) yc) (o ++ [x]) ∧ Keeps W2 w3 (fun b => (Value.slice xo n xc).ownBlock = some b) ∧ w3.ownsRow 0 3 1 (.slice (some ⟨G, 0, none⟩) x.path.length wc) x.path.length (ints x.path) ∧ RowAt S w3 D fo x.fld.kids ∧
   (∀ b, S b → b < w3.heap.size ∧ (Value.slice yo (n + 1) yc).ownBlock ≠ some b) := by
 have k3 : Keeps W2 w3 (fun b => (Value.slice xo n xc).ownBlock = some b) := (kx.mono fun _ _ h => h.elim).trans (Keeps.ofGrown hg) fun _ _ h => h
 have kr : Keeps wr w3 (fun b => (Value.slice xo n xc).ownBlock = some b) := (k2.mono fun _ _ h => h.elim).trans k3 fun _ _ h => h
 have hv2 : W2.ownsRow 0 80 10 (.slice xo n xc) n cs := row_kp hcs.1 fun g e => k2.block g (own_lt hcs.1 g e) id
 have way3 := way_kp hv2 way k3
 have kS : KpOf S wr w3 := fun b hb => kr.block b (hSX b hb).1 (hSX b hb).2
 have hI3 : GrowI S wr w3 (.slice xo n xc) (.slice yo (n + 1) yc) (o ++ [x]) := by
  refine ⟨?_, kr, ?_⟩
  ·have h1 := hcs.1
   rw [hn] at h1 hown' kr hSX
   rw [hn]
   exact out_snoc h1 hcs.2 kr hSX hown' ⟨way3, ⟨D, hrow.kept kS⟩, ⟨D, hkids.kept kS⟩, hle, hkle, hix⟩
  rcases hor with h | h
  ·exact .inl h
  exact .inr fun g e => by have := h g e; have := kx.size; have := k2.size; omega
 refine ⟨hI.trans hI3, k3, way3, hkids.kept kS, fun b hb => ?_⟩
 have h1 := hSX b hb
 have h2 := kr.size
 refine ⟨by omega, fun e => ?_⟩
 rcases hI3.own with h | h
 ·exact h1.2 (h ▸ e)
 have := h b e; omega
def GrowR (S : Nat → Prop) (W : World) (v0 : Value) (out : List LS) (e : Ending) (w' : World) : Prop := ∃ vo vc, e = .returned (.slice vo out.length vc) ∧ GrowI S W w' v0 (.slice vo out.length vc) out
theorem grow_any (S : Nat → Prop) (d : Nat) : ∀ (W : World) (ao po vo : Option Addr) (ca pc vc : Nat) (list : List FT) (path : List Nat) (inD : Bool) (out : List LS),
  RowAt S W d ao list → list.length ≤ ca → path.length ≤ 64 → W.ownsRow 0 3 1 (.slice po path.length pc) path.length (ints path) → OutAt S W (.slice vo out.length vc) out → out.length ≤ 257 →
  (∀ b, S b → b < W.heap.size ∧ (Value.slice vo out.length vc).ownBlock ≠ some b) →
  Calls Tryz.prog 29 #[.slice ao list.length ca, .slice po path.length pc, .bool inD, .slice vo out.length vc] W (GrowR S W (.slice vo out.length vc) (grown out (nodesC d list path inD))) := by
 induction d with
 | zero =>
  intro W ao po vo ca pc vc list path inD out hr hca hp hpath ho hol hS
  obtain rfl : list = [] := hr
  have e : grown out (nodesC 0 [] path inD) = out := by simp only [nodesC, grown, List.append_nil]; exact List.take_of_length_le hol
  rw [e]
  have HO : Hid (GrowI S W W (.slice vo out.length vc) (.slice vo out.length vc) out) := ⟨ho, Keeps.refl _ _, .inl rfl⟩
  clear ho hpath hS e
  go_enter Tryz.func29, Tryz.ntmps29
  go_wp2
  go_loopw [3, 14] (fun v p wr => v = .slice vo out.length vc ∧ p = .int .i64 0 ∧ wr = W) (fun _ p _ => 0)
  case atStart => exact ⟨rfl, rfl, rfl⟩
  case round =>
   obtain ⟨rfl, rfl, rfl⟩ := hrel
   go_wp2
   go_ret
   exact ⟨vo, vc, rfl, HO.out⟩
 | succ d ih =>
  intro W ao po vo ca pc vc list path inD out hr hca hp hpath ho hol hS
  have hlen : list.length ≤ 1000000000000 := hr.1
  have HR : Hid (RowAt S W (d + 1) ao list) := hr
  have HP : Hid (W.ownsRow 0 3 1 (.slice po path.length pc) path.length (ints path)) := hpath
  have HO : Hid (OutAt S W (.slice vo out.length vc) out) := ho
  have HS : Hid (∀ b, S b → b < W.heap.size ∧ (Value.slice vo out.length vc).ownBlock ≠ some b) := hS
  have HOL : Hid (out.length ≤ 257) := hol
  have IH : Hid _ := ih
  obtain ⟨L, hL⟩ : ∃ L, L = list.length := ⟨_, rfl⟩
  rw [← hL] at hlen hca ⊢
  have HL : Hid (L = list.length) := hL
  obtain ⟨P, hP⟩ : ∃ P, P = path.length := ⟨_, rfl⟩
  rw [← hP] at hp ⊢
  have HPl : Hid (P = path.length) := hP
  obtain ⟨N, hN⟩ : ∃ N, N = out.length := ⟨_, rfl⟩
  rw [← hN] at hol ⊢
  have HN : Hid (N = out.length) := hN
  obtain ⟨R, hR⟩ : ∃ R, R = grown out (nodesC (d + 1) list path inD) := ⟨_, rfl⟩
  rw [← hR]
  have HRR : Hid (R = grown out (nodesC (d + 1) list path inD)) := hR
  clear hr hpath ho hS ih hL hP hN hR
  go_enter Tryz.func29, Tryz.ntmps29
  go_wp2
  go_loopw [3, 14] (fun v p wr => ∃ (k n : Nat) (xo : Option Addr) (xc : Nat), k ≤ L ∧ n ≤ 257 ∧ p = .int .i64 (k : Int) ∧ v = .slice xo n xc ∧ Hid (n = (grown out (uptoC d list path inD k)).length ∧ GrowI S W wr (.slice vo N vc) (.slice xo n xc) (grown out (uptoC d list path inD k)))) (fun v p _ => L - (intOf p).toNat)
  case atStart =>
   have e : grown out (uptoC d list path inD 0) = out := by rw [uptoC_zero]; simp only [grown, List.append_nil]; exact List.take_of_length_le HOL.out
   refine ⟨0, N, vo, vc, Nat.zero_le _, hol, rfl, rfl, by rw [e]; exact HN.out, ?_⟩
   rw [e]
   have h := HO.out
   rw [← HN.out] at h
   exact ⟨h, Keeps.refl _ _, .inl rfl⟩
  case round =>
   obtain ⟨k, n, xo, xc, hk, hn, rfl, rfl, HX⟩ := hrel
   by_cases hlt : k < L
   ·have hl := HL.out
    obtain ⟨b, o, rfl, hSb, hcs⟩ := HR.out.2 (by intro e; rw [e] at hl; simp at hl; omega)
    have hkl : k < list.length := by omega
    obtain ⟨ao', ca', hc, hle', hr'⟩ := hcs k hkl
    have hSS : ∀ b, S b → b < W.heap.size ∧ (Value.slice vo N vc).ownBlock ≠ some b := fun b hb => by have := HS.out b hb; rw [← HN.out] at this; exact this
    have hKS : KpOf S W wr := fun b hb => HX.out.2.k.block b (hSS b hb).1 (hSS b hb).2
    have hc2 := hc.kept (hKS b hSb)
    obtain ⟨f, hf⟩ : ∃ f, f = list[k]'hkl := ⟨_, rfl⟩
    rw [← hf] at hc hc2 hle' hr'
    have HR' : Hid (RowAt S wr d ao' f.kids) := hr'.kept hKS
    have HF : Hid (f = list[k]'hkl) := hf
    obtain ⟨g0, g1, g2, g3, g4, g5, g6⟩ := hc2
    have hltI : (k : Int) < (L : Int) := by omega
    have HSX : Hid (∀ b, S b → b < wr.heap.size ∧ (Value.slice xo n xc).ownBlock ≠ some b) := fun b hb => by
     have h1 := hSS b hb
     have h2 := HX.out.2.k.size
     refine ⟨by omega, fun e => ?_⟩
     rcases HX.out.2.own with h | h
     ·exact h1.2 (h ▸ e)
     have := h b e; omega
    have HPw : Hid (wr.ownsRow 0 3 1 (.slice po P pc) P (ints path)) := by
     have h := HO.out
     obtain ⟨cs, hown, _⟩ := h
     have h2 := HP.out
     rw [← HPl.out] at h2
     rw [← HN.out] at hown
     exact way_kp hown h2 HX.out.2.k
    clear hcs hc hr' hKS hf hl hSS
    by_cases hfull : 256 < n
    ·have HE : Hid (GrowR S W (.slice vo N vc) R (.returned (.slice xo n xc)) (wr.alloc (.cells #[.string f.name, .bool f.nul, .int .i64 f.kind, .int .i64 f.width, .int .i64 f.id, .int .i64 f.index, .slice ao' f.kids.length ca'] 58))) := by
      have h := HX.out
      have e : R = grown out (uptoC d list path inD k) := by
       rw [HRR.out, nodesC_succ]
       exact grown_full (by rw [← h.1]; exact hfull) (uptoC_prefix d list path inD (by omega))
      refine ⟨xo, xc, by rw [e, ← h.1], ?_⟩
      rw [e, ← h.1]
      exact ⟨h.2.at_.keeps ((Keeps.refl _ _).alloc _) HSX.out, h.2.k.alloc _, h.2.own⟩
     go_wp2
     go_ret
     exact HE.out
    have hmk := run_make_row' (P := Tryz.prog) 29 3 (.int .i64 0) 8 Tryz.underlying29 info3 rfl .i64 .i64 (P + 1) (by omega) (by omega)
    rw [show ((P + 1 : Nat) : Int) = (P : Int) + 1 by omega] at hmk
    obtain ⟨cs, hcs⟩ : ∃ cs : List Value, cs = ints path := ⟨_, rfl⟩
    have HC : Hid (cs = ints path) := hcs
    have hcl : cs.length = P := by rw [hcs, HPl.out]; simp [ints]
    obtain ⟨cur, hcur⟩ : ∃ cur : List Value, cur = (madeCells #[.int .i64 0] (P + 1)).toList := ⟨_, rfl⟩
    have HCur : Hid (cur = (madeCells #[.int .i64 0] (P + 1)).toList) := hcur
    clear hcs hcur
    obtain ⟨F, hF⟩ : ∃ F : Obj, F = .cells #[.string f.name, .bool f.nul, .int .i64 f.kind, .int .i64 f.width, .int .i64 f.id, .int .i64 f.index, .slice ao' f.kids.length ca'] 58 := ⟨_, rfl⟩
    have HFF : Hid (F = .cells #[.string f.name, .bool f.nul, .int .i64 f.kind, .int .i64 f.width, .int .i64 f.id, .int .i64 f.index, .slice ao' f.kids.length ca'] 58) := hF
    clear hF
    go_wp2_with (with_reducible show wpList Tryz.prog _ _ (Oper.mk (some 29) _ _ _ _ _ :: _) _ _; refine wpList_copy_splice rfl (.tmp 27) (.tmp 28) 29 29 rfl 3 Tryz.underlying29 size3 _ _ _ _ _ _ rfl rfl (wr.heap.size + 1) 0 cur 3 ?hg cs ?hn ?hpos ?hfit ?h1 (wr.heap.size + 1) (wr.alloc F) ?hb (Nat.le_refl _) ?_)
    case hg =>
     have h := heap_alloc_new (wr.alloc F) (.cells (madeCells #[.int .i64 0] (P + 1)) 3)
     rw [HFF.out] at h
     rw [HCur.out]; simpa using h
    case hn => rw [hcl]; show P = min _ _; omega
    case hpos =>
     intro hp0
     have hown := HPw.out
     rcases hown.2 with ⟨h, h'⟩ | ⟨g, cap', cur', h, _⟩
     ·omega
     simp only [Value.slice.injEq] at h
     refine ⟨⟨g, 0, none⟩, h.1, fun j v hj => ?_⟩
     rw [HC.out] at hj
     have hc := hown.cells (g := g) (by simp [Value.ownBlock, h.1]) j v hj
     exact (((Keeps.refl wr (fun _ => False)).alloc _).alloc _).cell' hc id
    case hfit => rw [hcl, HCur.out]; simp [size_madeCells]
    case h1 =>
     intro v hv
     rw [HC.out] at hv
     obtain ⟨z, _, rfl⟩ := List.mem_map.1 hv
     rfl
    case hb => rw [HFF.out]; exact (Below.refl _ _).alloc (by simp) _
    intro w1 HG1 hB1
    obtain ⟨W2, hW2⟩ := ex (w1.setCell ⟨wr.heap.size + 1, P, none⟩ (.int .i64 (k : Int)))
    have hcul : cur.length = cs.length + 1 := by rw [hcl, HCur.out]; simp [size_madeCells]
    have hown1 : w1.ownsRow 0 3 1 (.slice (some ⟨wr.heap.size + 1, 0, none⟩) (P + 1) (P + 1)) (P + 1) (splice cur 0 cs) := by
     have hsl : (splice cur 0 cs).length = P + 1 := by rw [length_splice _ _ _ (by omega)]; omega
     exact ⟨by omega, .inr ⟨wr.heap.size + 1, P + 1, _, rfl, Nat.zero_le _, HG1.out, Nat.le_refl _, by unfold maxLen; omega, by simp [hsl], by rw [Nat.mul_one]; exact List.take_of_length_le (by simp [hsl])⟩⟩
    have q1 : w1.cell? ⟨wr.heap.size + 1, P, none⟩ ≠ none := by
     rw [hown1.cellAt P (by omega)]
     have hsl : (splice cur 0 cs).length = P + 1 := by rw [length_splice _ _ _ (by omega)]; omega
     simp [hsl]
    obtain ⟨y, q1⟩ := Option.ne_none_iff_exists'.1 q1
    have q2 : w1.frozen? ⟨wr.heap.size + 1, P, none⟩ = false := hown1.frozenAt P
    have k1 : Keeps wr w1 (fun _ => False) := ((Keeps.refl wr _).alloc F).trans (T := fun k => wr.heap.size + 1 ≤ k) (Keeps.ofBelow hB1) (fun j hj h => by omega)
    have k2 : Keeps wr W2 (fun _ => False) := by rw [← hW2]; exact k1.setCell (fun h => absurd h (by simp)) _
    have way : W2.ownsRow 0 3 1 (.slice (some ⟨wr.heap.size + 1, 0, none⟩) (path ++ [k]).length (P + 1)) (path ++ [k]).length (ints (path ++ [k])) := by
     have h := hown1.stored P (.int .i64 (k : Int))
     rw [hW2, show P = cs.length from hcl.symm, splice_front _ _ hcul, hcl, HC.out, ← ints_snoc] at h
     have e : (path ++ [k]).length = P + 1 := by rw [List.length_append, ← HPl.out]; rfl
     rw [e]
     exact h.1
    have hbox : W2.heap[wr.heap.size]? = some F := by
     rw [← hW2, heap_setCell_other w1 _ _ _ (by simp), hB1.block _ (by omega)]
     exact heap_alloc_new wr F
    rw [HFF.out] at hbox
    have f0 : W2.cell? ⟨wr.heap.size, 0, none⟩ = some (.string f.name) := by simp [World.cell?, hbox]
    have f1 : W2.cell? ⟨wr.heap.size, 1, none⟩ = some (.bool f.nul) := by simp [World.cell?, hbox]
    have f2 : W2.cell? ⟨wr.heap.size, 2, none⟩ = some (.int .i64 f.kind) := by simp [World.cell?, hbox]
    have f3 : W2.cell? ⟨wr.heap.size, 3, none⟩ = some (.int .i64 f.width) := by simp [World.cell?, hbox]
    have f4 : W2.cell? ⟨wr.heap.size, 4, none⟩ = some (.int .i64 f.id) := by simp [World.cell?, hbox]
    have f5 : W2.cell? ⟨wr.heap.size, 5, none⟩ = some (.int .i64 f.index) := by simp [World.cell?, hbox]
    have f6 : W2.cell? ⟨wr.heap.size, 6, none⟩ = some (.slice ao' f.kids.length ca') := by simp [World.cell?, hbox]
    have hkca : (k : Int) ≤ (ca : Int) := by omega
    obtain ⟨cs0, hown0, hc0⟩ := HX.out.2.at_
    rw [← HX.out.1] at hown0
    have hxi : LS.idx ⟨list, path ++ [k], inD⟩ = k := by simp [LS.idx]
    have hxf : LS.fld ⟨list, path ++ [k], inD⟩ = f := by unfold LS.fld; rw [hxi, HF.out]; simp [hkl]
    have hcells : nodeCells ⟨list, path ++ [k], inD⟩ (wr.heap.size + 1) (P + 1) ao' ca' (some ⟨b, o, none⟩) ca = [.slice (some ⟨wr.heap.size + 1, 0, none⟩) (P + 1) (P + 1), .string f.name, .bool f.nul, .int .i64 f.kind, .int .i64 f.width, .int .i64 f.id, .int .i64 f.index, .slice ao' f.kids.length ca', .slice (some ⟨b, o, none⟩) k ca, .bool inD] := by
     unfold nodeCells
     rw [hxf, hxi]
     simp [← HPl.out]
    have hown2 : W2.ownsRow 0 80 10 (.slice xo n xc) n cs0 := row_kp hown0 fun g e => k2.block g (own_lt hown0 g e) id
    have HO2 : Hid (W2.ownsRow 0 80 10 (.slice xo n xc) n cs0) := hown2
    have hrw : RowAt S wr (d + 1) (some ⟨b, o, none⟩) list := HR.out.kept (fun b hb => by
     have h := HS.out b hb
     rw [← HN.out] at h
     exact HX.out.2.k.block b h.1 h.2)
    have HJ : Hid (∀ Wx w3 yo yc, Keeps W2 Wx (fun _ => False) → w3.ownsRow 0 80 10 (.slice yo (n + 1) yc) (n + 1) (cs0 ++ [.slice (some ⟨wr.heap.size + 1, 0, none⟩) (P + 1) (P + 1), .string f.name, .bool f.nul, .int .i64 f.kind, .int .i64 f.width, .int .i64 f.id, .int .i64 f.index, .slice ao' f.kids.length ca', .slice (some ⟨b, o, none⟩) k ca, .bool inD]) → Wx.grownBy w3 (Value.slice xo n xc).ownBlock → ((Value.slice yo (n + 1) yc).ownBlock = (Value.slice xo n xc).ownBlock ∨ ∀ g, (Value.slice yo (n + 1) yc).ownBlock = some g → Wx.heap.size ≤ g) →
      (w3.cell? ⟨wr.heap.size, 2, none⟩ = some (.int .i64 f.kind) ∧ w3.cell? ⟨wr.heap.size, 6, none⟩ = some (.slice ao' f.kids.length ca')) ∧ (GrowI S W w3 (.slice vo N vc) (.slice yo (n + 1) yc) (grown out (uptoC d list path inD k) ++ [(⟨list, path ++ [k], inD⟩ : LS)]) ∧ w3.ownsRow 0 3 1 (.slice (some ⟨wr.heap.size + 1, 0, none⟩) (path ++ [k]).length (P + 1)) (path ++ [k]).length (ints (path ++ [k])) ∧ RowAt S w3 d ao' f.kids ∧ (∀ b, S b → b < w3.heap.size ∧ (Value.slice yo (n + 1) yc).ownBlock ≠ some b))) := by
     intro Wx w3 yo yc kx h1 h2 h3
     rw [← hcells] at h1
     have hkl2 : list.length ≤ ca := by have := HL.out; omega
     obtain ⟨j1, j2, j3, j4, j5⟩ := grow_join (x := ⟨list, path ++ [k], inD⟩) HX.out.2 HX.out.1 HSX.out ⟨hown0, hc0⟩ k2 kx way h1 h2 h3 hrw (by rw [hxf]; exact HR'.out) hkl2 (by rw [hxf]; exact hle') (by rw [hxi]; exact hkl)
     rw [hxf] at j4
     have hng : (Value.slice xo n xc).ownBlock ≠ some wr.heap.size := fun e => by have := own_lt hown0 _ e; omega
     exact ⟨⟨j2.cell' f2 hng, j2.cell' f6 hng⟩, j1, j3, j4, j5⟩
    clear hbox way k1 k2 hown1 hcul HG1 hB1 hmk hc0 hown0 hown2 hrw hcells hxf hxi
    go_wp2
    go_region_law (refine step_append_anyN _ rfl (.tmp 35) (.tmp 43) 76 76 rfl 80 z61 10 136 Tryz.underlying76 info80z c61 _ n cs0 rfl (row_kp HO2.out fun g e => (((Keeps.refl W2 (fun _ => False)).alloc _).drew).block g (own_lt HO2.out g e) id) _ 1 _ rfl (src_node W2 _ rfl _ _ _ _ _ _ _ _ _ _ (by simp [Value.oneCell'])) (by omega) (by omega) ?_; intro v' w3 hown' hgrow hblk; obtain ⟨yo, yc, rfl⟩ := own_formN hown'; obtain ⟨⟨p1, p2⟩, HI3⟩ := HJ.out _ w3 yo yc (((Keeps.refl W2 (fun _ => False)).alloc _).drew) hown' hgrow hblk; replace HI3 := hidM HI3; clear hown' hgrow hblk)
    all_goals
     have hroom : (grown out (uptoC d list path inD k)).length ≤ 256 := by rw [← HX.out.1]; omega
     have hlf : list[k]! = f := by rw [HF.out]; exact getElem!_pos list k hkl
     have hpl : (path ++ [k]).length = P + 1 := by rw [List.length_append, ← HPl.out]; rfl
     have hol1 : (grown out (uptoC d list path inD k) ++ [(⟨list, path ++ [k], inD⟩ : LS)]).length = n + 1 := by rw [List.length_append, ← HX.out.1]; rfl
     clear HJ f0 f1 f3 f4 f5 hW2 q1 q2
     by_cases hdeep : P + 1 ≤ 64
     ·have hup : grown out (uptoC d list path inD (k + 1)) = grown (grown out (uptoC d list path inD k) ++ [(⟨list, path ++ [k], inD⟩ : LS)]) (nodesC d f.kids (path ++ [k]) (inD || decide (f.kind = 19))) := by
       rw [grown_step hroom, uptoC_succ, hlf, ← HPl.out, if_pos hdeep]
      have HI2 : Hid (∀ X, X = (inD || decide (f.kind = 19)) → Calls Tryz.prog 29 #[.slice ao' f.kids.length ca', .slice (some ⟨wr.heap.size + 1, 0, none⟩) (P + 1) (P + 1), .bool X, .slice yo (n + 1) yc] w3 (fun e w' => ∃ n' zo zc, n' ≤ 257 ∧ e = .returned (.slice zo n' zc) ∧ Hid (n' = (grown out (uptoC d list path inD (k + 1))).length ∧ GrowI S W w' (.slice vo N vc) (.slice zo n' zc) (grown out (uptoC d list path inD (k + 1)))))) := by
       rintro X rfl
       obtain ⟨i1, i2, i3, i4⟩ := HI3.out
       have h := IH.out w3 ao' (some ⟨wr.heap.size + 1, 0, none⟩) yo ca' (P + 1) yc f.kids (path ++ [k]) (inD || decide (f.kind = 19)) (grown out (uptoC d list path inD k) ++ [(⟨list, path ++ [k], inD⟩ : LS)]) i3 hle' (by rw [hpl]; exact hdeep) i2 (by rw [hol1]; exact i1.at_) (by rw [hol1]; omega) (by rw [hol1]; exact i4)
       rw [hol1, hpl, ← hup] at h
       refine h.mono ?_
       rintro e w' ⟨zo, zc, rfl, hI⟩
       exact ⟨_, zo, zc, grown_le _ _, rfl, rfl, i1.trans hI⟩
      have hdI : (P : Int) + 1 ≤ 64 := by omega
      clear hup hroom hlf hpl hol1 HI3
      go_wp2_with (go_at_call 29; refine Hid.out ?_)
      all_goals
       unfold Hid
       first
        | (have hi := ‹inD = true›; subst hi)
        | (have hi : inD = false := (by simpa using ‹¬ inD = true›); subst hi)
       refine Calls.mono (HI2.out _ (by first | (simp; done) | (simp; rfl))) ?_
       rintro e w4 ⟨n', zo, zc, hn', rfl, H4⟩
       clear HI2 p1 p2 f2 f6
       go_wp2
       go_roundw
       case rel => exact ⟨k + 1, n', zo, zc, by omega, hn', by simp, rfl, H4⟩
       case measure => simp [intOf]; omega
     have HE : Hid (n + 1 = (grown out (uptoC d list path inD (k + 1))).length ∧ GrowI S W w3 (.slice vo N vc) (.slice yo (n + 1) yc) (grown out (uptoC d list path inD (k + 1)))) := by
      have e : grown out (uptoC d list path inD (k + 1)) = grown out (uptoC d list path inD k) ++ [(⟨list, path ++ [k], inD⟩ : LS)] := by
       rw [uptoC_succ, ← HPl.out, if_neg hdeep, grown_one hroom]
      rw [e]
      exact ⟨hol1.symm, HI3.out.1⟩
     have hdI : ¬ ((P : Int) + 1 ≤ 64) := by omega
     clear hroom hlf hpl hol1 HI3
     go_wp2
     go_roundw
     case rel => exact ⟨k + 1, n + 1, yo, yc, by omega, by omega, by simp, rfl, HE.out⟩
     case measure => simp [intOf]; omega
   have hkL : k = L := by omega
   subst hkL
   have HE : Hid (GrowR S W (.slice vo N vc) R (.returned (.slice xo n xc)) wr) := by
    have h := HX.out
    have e : R = grown out (uptoC d list path inD k) := by rw [HRR.out, nodesC_succ, HL.out]
    refine ⟨xo, xc, by rw [e, ← h.1], ?_⟩
    rw [e, ← h.1]
    exact h.2
   go_wp2
   go_ret
   exact HE.out
theorem letter_any (c : Nat) (w : World) : Calls Tryz.prog 57 #[.int .u8 (c : Int)] w fun e w' => e = .returned (.bool (wordB c)) ∧ w' = w := by
 go_enter Tryz.func57, Tryz.ntmps57
 go_wp2
 all_goals
  go_ret
  refine ⟨congrArg (fun b => Ending.returned (.bool b)) ?_, rfl⟩
  rw [Bool.eq_iff_iff]
  simp [wordB, digitB]
  try omega
theorem nulls_any (f : FT) (ao : Option Addr) (ca : Nat) (S : Nat → Prop) (d : Nat) (w : World) (hr : RowAt S w d ao f.kids) (hk : f.kind = 20 → f.kids ≠ []) :
  Calls Tryz.prog 43 #[fldV f ao ca] w fun e w' => e = .returned (.bool (nullB f)) ∧ Gr w w' := by
 obtain ⟨nm, nu, kd, wd, di, ix, ks⟩ := f
 show Calls Tryz.prog 43 #[.agg #[.string nm, .bool nu, .int .i64 kd, .int .i64 wd, .int .i64 di, .int .i64 ix, .slice ao ks.length ca]] w _
 obtain ⟨nb, hnb⟩ := ex (nullB ⟨nm, nu, kd, wd, di, ix, ks⟩)
 rw [hnb]
 simp only [FT.kind, FT.kids] at hr hk
 by_cases h1 : kd = 1
 ·have e : nb = nu := by rw [← hnb]; simp [nullB, FT.kind, FT.nul, h1]
  subst e
  clear hr hk hnb
  go_enter Tryz.func43, Tryz.ntmps43
  go_wp2
  go_ret
  exact ⟨rfl, gr_alloc _ _⟩
 have q1 := beqF h1
 by_cases h2 : kd = 18
 ·have e : nb = !nu := by rw [← hnb]; simp [nullB, FT.kind, FT.nul, h2]
  subst e
  clear hr hk hnb
  go_enter Tryz.func43, Tryz.ntmps43
  go_wp2
  go_ret
  exact ⟨rfl, gr_alloc _ _⟩
 have q2 := beqF h2
 by_cases h3 : kd = 20
 ·have hne := hk h3
  cases d with
  | zero => exact absurd hr hne
  | succ d =>
   obtain ⟨b, o, rfl, hSb, hcs⟩ := hr.2 hne
   have hpos : 0 < ks.length := List.length_pos_iff.2 hne
   obtain ⟨ao', ca', hc, _, _⟩ := hcs 0 hpos
   have hn : ks[0]? = some ks[0] := List.getElem?_eq_getElem hpos
   have e : nb = (nu == (ks[0]).nul) := by rw [← hnb]; simp [nullB, FT.kind, FT.nul, FT.kids, h3, hn]
   have c1 : ∀ o', (w.alloc o').cell? ⟨b, o + 1, none⟩ = some (.bool (ks[0]).nul) := fun o' => (gr_alloc w o').cell' (by have := hc.c1; simpa using this) (fun h => h)
   have hposI : (0 : Int) < (ks.length : Int) := by omega
   generalize (ks[0]).nul = kn at c1 e
   subst e
   clear hr hk hcs hc hn hne hnb
   go_enter Tryz.func43, Tryz.ntmps43
   go_wp2
   go_region
   go_wp2
   go_ret
   exact ⟨rfl, by first | exact (gr_alloc _ _) | exact (gr_alloc _ _).drew⟩
 have q3 := beqF h3
 have e : nb = true := by rw [← hnb]; simp [nullB, FT.kind, h1, h2, h3]
 subst e
 clear hr hk hnb
 go_enter Tryz.func43, Tryz.ntmps43
 go_wp2
 go_ret
 exact ⟨rfl, gr_alloc _ _⟩
theorem widthB_mk (nm : ByteArray) (nu : Bool) (kd wd di ix : Int) (ks : List FT) : widthB ⟨nm, nu, kd, wd, di, ix, ks⟩ = if kd = 14 then decide (1 ≤ wd) && decide (wd ≤ 16) else if kd = 16 then decide (1 ≤ wd) && decide (wd ≤ 64) else decide (wd = 0) := rfl
theorem dictB_mk (nm : ByteArray) (nu : Bool) (kd wd di ix : Int) (ks : List FT) : dictB ⟨nm, nu, kd, wd, di, ix, ks⟩ = if kd = 19 then (decide (0 ≤ di) && decide (di < 32)) && (decide (3 ≤ ix) && decide (ix ≤ 10)) else decide (di = 0) && decide (ix = 0) := rfl
theorem shaped_any (f : FT) (ao : Option Addr) (ca : Nat) (w : World) (hl : f.kids.length ≤ big) : Calls Tryz.prog 42 #[typV f ao ca] w fun e w' => e = .returned (.bool (tableB f)) ∧ Gr w w' := by
 obtain ⟨nm, nu, kd, wd, di, ix, ks⟩ := f
 show Calls Tryz.prog 42 #[.agg #[.int .i64 kd, .int .i64 wd, .int .i64 di, .int .i64 ix, .slice ao ks.length ca]] w _
 have hll : ks.length ≤ 1000000000000 := hl
 obtain ⟨tb, htb⟩ := ex (tableB ⟨nm, nu, kd, wd, di, ix, ks⟩)
 rw [htb]
 obtain ⟨L, hL⟩ := ex (ks.length)
 rw [hL] at hll ⊢
 have HB : Hid (tb = (kindB kd && (decide (leastK kd.toNat ≤ (L : Int)) && decide ((L : Int) ≤ mostK kd.toNat) && widthB ⟨nm, nu, kd, wd, di, ix, ks⟩ && dictB ⟨nm, nu, kd, wd, di, ix, ks⟩))) := by rw [← htb, ← hL]; rfl
 clear hl htb hL
 by_cases h14 : kd = 14
 ·subst h14
  replace HB : Hid (tb = (decide (L = 0) && (decide (1 ≤ wd) && decide (wd ≤ 16)) && (decide (di = 0) && decide (ix = 0)))) := HB.out.trans (by rw [Bool.eq_iff_iff, widthB_mk, dictB_mk]; simp [kindB, leastK, mostK])
  clear hll
  go_enter Tryz.func42, Tryz.ntmps42
  go_wp2
  go_region
  go_wp2
  all_goals
   go_ret
   refine ⟨congrArg (fun b => Ending.returned (.bool b)) ?_, (gr_alloc _ _).drew⟩
   rw [HB.out, Bool.eq_iff_iff]
   simp
   omega
 have q14 := beqF h14
 by_cases h15 : kd = 15
 ·subst h15
  replace HB : Hid (tb = (decide (L = 1) && decide (wd = 0) && (decide (di = 0) && decide (ix = 0)))) := HB.out.trans (by rw [Bool.eq_iff_iff, widthB_mk, dictB_mk]; simp [kindB, leastK, mostK]; omega)
  clear hll
  go_enter Tryz.func42, Tryz.ntmps42
  go_wp2
  go_region
  go_wp2
  all_goals
   go_ret
   refine ⟨congrArg (fun b => Ending.returned (.bool b)) ?_, (gr_alloc _ _).drew⟩
   rw [HB.out, Bool.eq_iff_iff]
   simp
   omega
 have q15 := beqF h15
 by_cases h16 : kd = 16
 ·subst h16
  replace HB : Hid (tb = (decide (L = 1) && (decide (1 ≤ wd) && decide (wd ≤ 64)) && (decide (di = 0) && decide (ix = 0)))) := HB.out.trans (by rw [Bool.eq_iff_iff, widthB_mk, dictB_mk]; simp [kindB, leastK, mostK]; omega)
  clear hll
  go_enter Tryz.func42, Tryz.ntmps42
  go_wp2
  go_region
  go_wp2
  all_goals
   go_ret
   refine ⟨congrArg (fun b => Ending.returned (.bool b)) ?_, (gr_alloc _ _).drew⟩
   rw [HB.out, Bool.eq_iff_iff]
   simp
   omega
 have q16 := beqF h16
 by_cases h17 : kd = 17
 ·subst h17
  replace HB : Hid (tb = (decide (L ≤ 32) && decide (wd = 0) && (decide (di = 0) && decide (ix = 0)))) := HB.out.trans (by rw [Bool.eq_iff_iff, widthB_mk, dictB_mk]; simp [kindB, leastK, mostK]; omega)
  clear hll
  go_enter Tryz.func42, Tryz.ntmps42
  go_wp2
  go_region
  go_wp2
  all_goals
   go_ret
   refine ⟨congrArg (fun b => Ending.returned (.bool b)) ?_, (gr_alloc _ _).drew⟩
   rw [HB.out, Bool.eq_iff_iff]
   simp
   omega
 have q17 := beqF h17
 by_cases h18 : kd = 18
 ·subst h18
  replace HB : Hid (tb = ((decide (1 ≤ L) && decide (L ≤ 32)) && decide (wd = 0) && (decide (di = 0) && decide (ix = 0)))) := HB.out.trans (by rw [Bool.eq_iff_iff, widthB_mk, dictB_mk]; simp [kindB, leastK, mostK]; omega)
  clear hll
  go_enter Tryz.func42, Tryz.ntmps42
  go_wp2
  go_region
  go_wp2
  all_goals
   go_ret
   refine ⟨congrArg (fun b => Ending.returned (.bool b)) ?_, (gr_alloc _ _).drew⟩
   rw [HB.out, Bool.eq_iff_iff]
   simp
   omega
 have q18 := beqF h18
 by_cases h19 : kd = 19
 ·subst h19
  replace HB : Hid (tb = (decide (L = 1) && decide (wd = 0) && ((decide (0 ≤ di) && decide (di < 32)) && (decide (3 ≤ ix) && decide (ix ≤ 10))))) := HB.out.trans (by rw [Bool.eq_iff_iff, widthB_mk, dictB_mk]; simp [kindB, leastK, mostK]; omega)
  clear hll
  go_enter Tryz.func42, Tryz.ntmps42
  go_wp2
  go_region
  go_wp2
  all_goals
   go_ret
   refine ⟨congrArg (fun b => Ending.returned (.bool b)) ?_, (gr_alloc _ _).drew⟩
   rw [HB.out, Bool.eq_iff_iff]
   simp
   omega
 have q19 := beqF h19
 by_cases h20 : kd = 20
 ·subst h20
  replace HB : Hid (tb = (decide (L = 1) && decide (wd = 0) && (decide (di = 0) && decide (ix = 0)))) := HB.out.trans (by rw [Bool.eq_iff_iff, widthB_mk, dictB_mk]; simp [kindB, leastK, mostK]; omega)
  clear hll
  go_enter Tryz.func42, Tryz.ntmps42
  go_wp2
  go_region
  go_wp2
  all_goals
   go_ret
   refine ⟨congrArg (fun b => Ending.returned (.bool b)) ?_, (gr_alloc _ _).drew⟩
   rw [HB.out, Bool.eq_iff_iff]
   simp
   omega
 have q20 := beqF h20
 have hlk : leastK kd.toNat = 0 ∧ mostK kd.toNat = 0 := by
  have e : ∀ n : Nat, n ≠ 15 → n ≠ 16 → n ≠ 17 → n ≠ 18 → n ≠ 19 → n ≠ 20 → leastK n = 0 ∧ mostK n = 0 := fun n a b c d e f => ⟨by unfold leastK; split <;> first | rfl | contradiction, by unfold mostK; split <;> first | rfl | contradiction⟩
  exact e _ (by omega) (by omega) (by omega) (by omega) (by omega) (by omega)
 replace HB : Hid (tb = ((decide (1 ≤ kd) && decide (kd ≤ 20)) && decide (L = 0) && decide (wd = 0) && (decide (di = 0) && decide (ix = 0)))) := HB.out.trans (by rw [Bool.eq_iff_iff, hlk.1, hlk.2, widthB_mk, dictB_mk]; simp [kindB, h14, h16, h19]; omega)
 clear hlk h14 h15 h16 h17 h18 h19 h20
 clear hll
 go_enter Tryz.func42, Tryz.ntmps42
 go_wp2
 go_region
 go_wp2
 all_goals
  go_ret
  refine ⟨congrArg (fun b => Ending.returned (.bool b)) ?_, (gr_alloc _ _).drew⟩
  rw [HB.out, Bool.eq_iff_iff]
  simp
  omega
theorem isNameR_any (s : ByteArray) (w : World) : Calls Tryz.prog 41 #[.string s] w fun e w' => e = .returned (.bool (nameB s)) ∧ w' = w := by
 go_enter Tryz.func41, Tryz.ntmps41
 by_cases h0 : s.size = 0
 ·go_wp2_with fail
  go_ret
  exact ⟨congrArg (fun b => Ending.returned (.bool b)) (by simp [nameB, h0]), rfl⟩
 by_cases h48 : 48 < s.size
 ·go_wp2_with fail
  go_ret
  exact ⟨congrArg (fun b => Ending.returned (.bool b)) (by simp [nameB]; omega), rfl⟩
 have h0' : 0 < s.size := by omega
 have hb : s.data.toList[0]! = s[0]'h0' := by
  rw [getElem!_pos s.data.toList 0 (by simpa using h0')]
  rfl
 have hi0 : ¬ ((s.size : Int) < 1) := by omega
 have hi1 : ¬ ((48 : Int) < (s.size : Int)) := by omega
 have hn : nameB s = ((!(digitB (s[0]'h0').toNat)) && s.data.toList.all fun b => wordB b.toNat) := by
  unfold nameB
  rw [hb]
  simp [h0', show s.size ≤ 48 by omega]
 have HN : Hid _ := hn
 have HD : Hid (digitB (s[0]'h0').toNat = (decide (48 ≤ (s[0]'h0').toNat) && decide ((s[0]'h0').toNat ≤ 57))) := rfl
 clear hb hn
 by_cases d1 : 48 ≤ (s[0]'h0').toNat ∧ (s[0]'h0').toNat ≤ 57
 ·have d2 : (48 : Int) ≤ ((s[0]'h0').toNat : Int) := by omega
  have d3 : ((s[0]'h0').toNat : Int) ≤ 57 := by omega
  have HZ : Hid (nameB s = false) := by show _ = _; rw [HN.out, HD.out, decide_eq_true d1.1, decide_eq_true d1.2]; rfl
  clear d1
  go_wp2_with fail
  go_ret
  exact ⟨congrArg (fun b => Ending.returned (.bool b)) HZ.out.symm, rfl⟩
 have HN2 : Hid (nameB s = (s.data.toList.all fun b => wordB b.toNat)) := by
  show _ = _
  rw [HN.out, HD.out]
  have : (decide (48 ≤ (s[0]'h0').toNat) && decide ((s[0]'h0').toNat ≤ 57)) = false := by
   rw [Bool.eq_false_iff]; intro h; simp at h; exact d1 ⟨h.1, h.2⟩
  rw [this]; rfl
 have hpart : ((s[0]'h0').toNat : Int) < 48 ∨ (48 ≤ ((s[0]'h0').toNat : Int) ∧ 57 < ((s[0]'h0').toNat : Int)) := by omega
 clear HN HD d1
 rcases hpart with d2 | ⟨d2, d3⟩
 all_goals
  go_wp2_with fail
  go_loop [3] (fun i => ∃ k : Nat, k ≤ s.size ∧ i = .int .i64 (k : Int) ∧ Hid ((s.data.toList.take k).all (fun b => wordB b.toNat) = true)) (fun i => s.size - (intOf i).toNat)
  case atStart => exact ⟨0, by omega, rfl, by simp [Hid]⟩
  case round =>
   obtain ⟨k, hk, rfl, HK⟩ := hrel
   by_cases hlt : k < s.size
   ·have hb : s.data.toList[k]? = some (s[k]'hlt) := by
     rw [Array.getElem?_toList]
     exact Array.getElem?_eq_getElem hlt
    have hw := fun w => letter_any (s[k]'hlt).toNat w
    have hA := all_succ (p := fun b => wordB b.toNat) hb HK.out
    have HB : Hid _ := hb
    clear hb
    have HW : Hid ((s.data.toList.all fun b => wordB b.toNat) = true → wordB (s[k]'hlt).toNat = true) := fun h => by
     rw [List.all_eq_true] at h
     exact h _ (List.mem_of_getElem? HB.out)
    generalize wordB (s[k]'hlt).toNat = wb at hw hA HW
    have HA : Hid _ := hA
    clear hA HB
    cases wb with
    | true =>
     go_wp2_with (go_at_call 57; refine (hw _).mono ?_; rintro e w' ⟨rfl, rfl⟩)
     go_round
     case rel => exact ⟨k + 1, by omega, by simp, HA.out⟩
     case measure => simp [intOf]; omega
    | false =>
     go_wp2_with (go_at_call 57; refine (hw _).mono ?_; rintro e w' ⟨rfl, rfl⟩)
     go_ret
     refine ⟨congrArg (fun b => Ending.returned (.bool b)) ?_, rfl⟩
     rw [HN2.out]
     cases hx : (s.data.toList.all fun b => wordB b.toNat) with
     | true => exact absurd (HW.out hx) (by decide)
     | false => rfl
   obtain rfl : k = s.size := by omega
   have hall := HK.out
   rw [List.take_of_length_le (by simp)] at hall
   have HM : Hid (nameB s = true) := by show _ = _; rw [HN2.out, hall]
   clear hall
   go_wp2_with fail
   go_ret
   exact ⟨congrArg (fun b => Ending.returned (.bool b)) HM.out.symm, rfl⟩
structure TenAt (W : World) (g o : Nat) (x : LS) (wb wc : Nat) (fo : Option Addr) (fc : Nat) (ao : Option Addr) (ca : Nat) : Prop where
 c0 : W.cell? ⟨g, o, none⟩ = some (.slice (some ⟨wb, 0, none⟩) x.path.length wc)
 c1 : W.cell? ⟨g, o + 1, none⟩ = some (.string x.fld.name)
 c2 : W.cell? ⟨g, o + 2, none⟩ = some (.bool x.fld.nul)
 c3 : W.cell? ⟨g, o + 3, none⟩ = some (.int .i64 x.fld.kind)
 c4 : W.cell? ⟨g, o + 4, none⟩ = some (.int .i64 x.fld.width)
 c5 : W.cell? ⟨g, o + 5, none⟩ = some (.int .i64 x.fld.id)
 c6 : W.cell? ⟨g, o + 6, none⟩ = some (.int .i64 x.fld.index)
 c7 : W.cell? ⟨g, o + 7, none⟩ = some (.slice fo x.fld.kids.length fc)
 c8 : W.cell? ⟨g, o + 8, none⟩ = some (.slice ao x.idx ca)
 c9 : W.cell? ⟨g, o + 9, none⟩ = some (.bool x.inD)
theorem TenAt.gr {W W' : World} {g o : Nat} {x : LS} {wb wc : Nat} {fo : Option Addr} {fc : Nat} {ao : Option Addr} {ca : Nat} (h : TenAt W g o x wb wc fo fc ao ca) (k : Gr W W') : TenAt W' g o x wb wc fo fc ao ca :=
 ⟨k.cell' h.c0 id, k.cell' h.c1 id, k.cell' h.c2 id, k.cell' h.c3 id, k.cell' h.c4 id, k.cell' h.c5 id, k.cell' h.c6 id, k.cell' h.c7 id, k.cell' h.c8 id, k.cell' h.c9 id⟩
theorem OutAt.ten {S : Nat → Prop} {W : World} {vo : Option Addr} {vc : Nat} {out : List LS} (h : OutAt S W (.slice vo out.length vc) out) (hne : 0 < out.length) :
  ∃ g, vo = some ⟨g, 0, none⟩ ∧ out.length ≤ vc ∧ ∀ j (hj : j < out.length), ∃ wb wc fo fc ao ca, TenAt W g (j * 10) out[j] wb wc fo fc ao ca ∧ NodeIn S W out[j] wb wc fo fc ao ca := by
 obtain ⟨cs, hown, hc⟩ := h
 have hl : cs.length = out.length * 10 := hown.1
 rcases hown.2 with ⟨e, h0⟩ | ⟨g, cap, cur, e, h1, h2, h3, _⟩
 ·omega
 cases e
 refine ⟨g, rfl, h3, fun j hj => ?_⟩
 obtain ⟨wb, wc, fo, fc, ao, ca, h1, h2⟩ := hc j hj
 have key : ∀ t, t < 10 → W.cell? ⟨g, j * 10 + t, none⟩ = (nodeCells out[j] wb wc fo fc ao ca)[t]? := fun t ht => by
  rw [hown.cellAt (j * 10 + t) (by omega), ← h1, List.getElem?_take, if_pos ht, List.getElem?_drop]
 exact ⟨wb, wc, fo, fc, ao, ca, ⟨key 0 (by omega), key 1 (by omega), key 2 (by omega), key 3 (by omega), key 4 (by omega), key 5 (by omega), key 6 (by omega), key 7 (by omega), key 8 (by omega), key 9 (by omega)⟩, h2⟩
structure NB (W : World) (B : Nat) (x0 x1 x2 x3 x4 x5 x6 x7 x8 x9 : Value) : Prop where
 hb : W.heap[B]? = some (.cells #[x0, x1, x2, x3, x4, x5, x6, x7, x8, x9] 80)
 hf : W.heap[B + 1]? = some (.cells #[x1, x2, x3, x4, x5, x6, x7] 58)
theorem NB.gr {W W' : World} {B : Nat} {x0 x1 x2 x3 x4 x5 x6 x7 x8 x9 : Value} (h : NB W B x0 x1 x2 x3 x4 x5 x6 x7 x8 x9) (g : Gr W W') : NB W' B x0 x1 x2 x3 x4 x5 x6 x7 x8 x9 :=
 ⟨(g.block _ (lt_of_heap h.hb) id).trans h.hb, (g.block _ (lt_of_heap h.hf) id).trans h.hf⟩
theorem NB.cells {W : World} {B : Nat} {x0 x1 x2 x3 x4 x5 x6 x7 x8 x9 : Value} (h : NB W B x0 x1 x2 x3 x4 x5 x6 x7 x8 x9) :
  W.cell? ⟨B, 0, none⟩ = some x0 ∧ W.cell? ⟨B, 8, none⟩ = some x8 ∧ W.cell? ⟨B, 9, none⟩ = some x9 ∧ W.cell? ⟨B + 1, 0, none⟩ = some x1 ∧ W.cell? ⟨B + 1, 1, none⟩ = some x2 ∧ W.cell? ⟨B + 1, 2, none⟩ = some x3 ∧ W.cell? ⟨B + 1, 3, none⟩ = some x4 ∧ W.cell? ⟨B + 1, 4, none⟩ = some x5 ∧ W.cell? ⟨B + 1, 5, none⟩ = some x6 ∧ W.cell? ⟨B + 1, 6, none⟩ = some x7 := by
 obtain ⟨hb, hf⟩ := h
 refine ⟨?_, ?_, ?_, ?_, ?_, ?_, ?_, ?_, ?_, ?_⟩ <;> simp [World.cell?, hb, hf]
theorem NB.new (w : World) (x0 x1 x2 x3 x4 x5 x6 x7 x8 x9 : Value) : NB ((w.alloc (.cells #[x0, x1, x2, x3, x4, x5, x6, x7, x8, x9] 80)).alloc (.cells #[x1, x2, x3, x4, x5, x6, x7] 58)) w.heap.size x0 x1 x2 x3 x4 x5 x6 x7 x8 x9 := by
 refine ⟨(Below.heap_alloc _ _ _ (by simp)).trans (World.alloc_heap_new w _), ?_⟩
 have := World.alloc_heap_new (w.alloc (.cells #[x0, x1, x2, x3, x4, x5, x6, x7, x8, x9] 80)) (.cells #[x1, x2, x3, x4, x5, x6, x7] 58)
 rw [World.size_alloc] at this
 exact this
theorem kids_cell {S : Nat → Prop} {W : World} {D : Nat} {fo : Option Addr} {l : List FT} (h : RowAt S W D fo l) (hne : l ≠ []) : ∃ b o, fo = some ⟨b, o, none⟩ ∧ W.cell? ⟨b, o + 1, none⟩ = some (.bool ((l[0]?.map FT.nul).getD false)) := by
 cases D with
 | zero => exact absurd h hne
 | succ D =>
  obtain ⟨b, o, e, _, hc⟩ := h.2 hne
  obtain ⟨f, t, rfl⟩ := List.exists_cons_of_ne_nil hne
  obtain ⟨ao', ca', h1, _⟩ := hc 0 (by simp)
  refine ⟨b, o, e, ?_⟩
  have := h1.c1
  simpa using this
theorem wrongR_walk (g n vc k m wb wc : Nat) (f : FT) (fo : Option Addr) (fc : Nat) (ao : Option Addr) (i ca : Nat) (inD : Bool) (lst : List FT) (ids : Nat → Int × Int) (tk : Bool) (idx : Int) (w : World) (hk : k < n) (hn : n ≤ 257) (hvc : n ≤ vc) (hi : i ≤ 1000000000000) (hica : i ≤ ca) (hkl : f.kids.length ≤ big)
  (h0 : w.cell? ⟨g, k * 10, none⟩ = some (.slice (some ⟨wb, 0, none⟩) m wc)) (h1 : w.cell? ⟨g, k * 10 + 1, none⟩ = some (.string f.name)) (h2 : w.cell? ⟨g, k * 10 + 2, none⟩ = some (.bool f.nul)) (h3 : w.cell? ⟨g, k * 10 + 3, none⟩ = some (.int .i64 f.kind)) (h4 : w.cell? ⟨g, k * 10 + 4, none⟩ = some (.int .i64 f.width)) (h5 : w.cell? ⟨g, k * 10 + 5, none⟩ = some (.int .i64 f.id)) (h6 : w.cell? ⟨g, k * 10 + 6, none⟩ = some (.int .i64 f.index)) (h7 : w.cell? ⟨g, k * 10 + 7, none⟩ = some (.slice fo f.kids.length fc)) (h8 : w.cell? ⟨g, k * 10 + 8, none⟩ = some (.slice ao i ca)) (h9 : w.cell? ⟨g, k * 10 + 9, none⟩ = some (.bool inD))
  (hlst : ∀ j, j < i → ∃ b o fj aj cj, ao = some ⟨b, o, none⟩ ∧ CellsAt w b (o + j * 7) fj aj cj ∧ lst[j]? = some fj)
  (hx1 : (∃ j fj, j < i ∧ lst[j]? = some fj ∧ sEq fj.name f.name = true) → idx ≠ i) (hx2 : (∀ j fj, j < i → lst[j]? = some fj → sEq fj.name f.name = false) → idx = i)
  (hprev : ∀ j, j < k → ∃ x wb wc fo fc ao ca, TenAt w g (j * 10) x wb wc fo fc ao ca ∧ ids j = (x.fld.kind, x.fld.id))
  (htk1 : tableB f = true → f.kind = 19 → (∃ j, j < k ∧ (ids j).1 = 19 ∧ (ids j).2 = f.id) → tk = true) (htk2 : tableB f = true → f.kind = 19 → (∀ j, j < k → ¬ ((ids j).1 = 19 ∧ (ids j).2 = f.id)) → tk = false)
  (hsh : ∀ W, Gr w W → Calls Tryz.prog 42 #[typV f fo fc] W fun e w' => e = .returned (.bool (tableB f)) ∧ Gr W w')
  (hnu : tableB f = true → ∀ W, Gr w W → Calls Tryz.prog 43 #[fldV f fo fc] W fun e w' => e = .returned (.bool (nullB f)) ∧ Gr W w')
  (hkid : tableB f = true → f.kind = 19 → ∃ b o, fo = some ⟨b, o, none⟩ ∧ 0 < f.kids.length ∧ w.cell? ⟨b, o + 1, none⟩ = some (.bool (kid0 f))) :
  Calls Tryz.prog 30 #[.slice (some ⟨g, 0, none⟩) n vc, .int .i64 (k : Int)] w fun e w' => e = .returned (.int .i64 (wr m k (nameB f.name) idx i (tableB f) (nullB f) inD f.kind (kid0 f) tk)) ∧ Gr w w' := by
 have HL := hidM hlst
 have HX1 := hidM hx1
 have HX2 := hidM hx2
 have HP := hidM hprev
 have HT1 := hidM htk1
 have HT2 := hidM htk2
 have HSh := hidM hsh
 have HNu := hidM hnu
 have HKid := hidM hkid
 clear hlst hx1 hx2 hprev htk1 htk2 hsh hnu hkid
 obtain ⟨R, hR⟩ : ∃ R, R = wr m k (nameB f.name) idx i (tableB f) (nullB f) inD f.kind (kid0 f) tk := ⟨_, rfl⟩
 rw [← hR]
 have HR := hidM hR
 clear hR
 have hkI : (k : Int) < (n : Int) := by omega
 obtain ⟨W0, hW0⟩ := ex ((w.alloc (.cells #[.slice (some ⟨wb, 0, none⟩) m wc, .string f.name, .bool f.nul, .int .i64 f.kind, .int .i64 f.width, .int .i64 f.id, .int .i64 f.index, .slice fo f.kids.length fc, .slice ao i ca, .bool inD] 80)).alloc (.cells #[.string f.name, .bool f.nul, .int .i64 f.kind, .int .i64 f.width, .int .i64 f.id, .int .i64 f.index, .slice fo f.kids.length fc] 58))
 have HN : Hid (Gr w W0 ∧ NB W0 w.heap.size (.slice (some ⟨wb, 0, none⟩) m wc) (.string f.name) (.bool f.nul) (.int .i64 f.kind) (.int .i64 f.width) (.int .i64 f.id) (.int .i64 f.index) (.slice fo f.kids.length fc) (.slice ao i ca) (.bool inD)) := by
  rw [← hW0]
  exact ⟨((Keeps.refl w _).alloc _).alloc _, NB.new ..⟩
 obtain ⟨b0, b8, b9, e0, e1, e2, e3, e4, e5, e6⟩ := HN.out.2.cells
 by_cases hm64 : 64 < m
 ·have hmI : (64 : Int) < (m : Int) := by omega
  have HE : Hid (R = 33) := by show _ = _; rw [HR.out]; unfold wr; rw [if_pos hm64]
  go_enter Tryz.func30, Tryz.ntmps30
  go_wp2
  go_ret
  exact ⟨by rw [HE.out]; rfl, HN.out.1⟩
 have hmI : ¬ (64 : Int) < (m : Int) := by omega
 by_cases hk256 : 256 ≤ k
 ·have hkk : (256 : Int) ≤ (k : Int) := by omega
  have HE : Hid (R = 34) := by show _ = _; rw [HR.out]; unfold wr; rw [if_neg hm64, if_pos (by omega)]
  go_enter Tryz.func30, Tryz.ntmps30
  go_wp2
  go_ret
  exact ⟨by rw [HE.out]; rfl, HN.out.1⟩
 have hkk : ¬ (256 : Int) ≤ (k : Int) := by omega
 have hnm := isNameR_any f.name W0
 obtain ⟨nameR, hnameR⟩ : ∃ z, z = nameB f.name := ⟨_, rfl⟩
 rw [← hnameR] at hnm HR
 cases nameR with
 | false =>
  have HE : Hid (R = 30) := by show _ = _; rw [HR.out]; unfold wr; rw [if_neg hm64, if_neg (by omega), if_pos rfl]
  clear hnameR
  go_enter Tryz.func30, Tryz.ntmps30
  go_wp2_with (go_at_call 41; refine Calls.mono hnm ?_; rintro e w2 ⟨rfl, rfl⟩)
  go_ret
  exact ⟨by rw [HE.out]; rfl, HN.out.1⟩
 | true =>
  have HR2 : Hid (R = if idx ≠ i then 31 else if tableB f = false then 32 else if nullB f = false then 35
   else if inD = true ∧ (f.kind = 19 ∨ f.kind = 20) then 36 else if f.kind = 19 ∧ (kid0 f = true ∨ tk = true) then 36 else 0) := by
   show _ = _
   rw [HR.out]; unfold wr; rw [if_neg hm64, if_neg (by omega), if_neg (by simp)]
  clear HR hnameR
  have hiI : (i : Int) ≤ 1000000000000 := by omega
  go_enter Tryz.func30, Tryz.ntmps30
  go_wp2_with (go_at_call 41; refine Calls.mono hnm ?_; rintro e w2 ⟨rfl, rfl⟩)
  clear hnm
  go_loopw [30] (fun p wr => ∃ j : Nat, j ≤ i ∧ p = .int .i64 (j : Int) ∧ Hid (Gr w2 wr ∧ ∀ j' fj, j' < j → lst[j']? = some fj → sEq fj.name f.name = false)) (fun p _ => i - (intOf p).toNat)
  case atStart => exact ⟨0, by omega, rfl, Keeps.refl _ _, fun j fj h => by omega⟩
  case round =>
   obtain ⟨j, hj, rfl, HJ⟩ := hrel
   by_cases hlt : j < i
   ·obtain ⟨b, o, fj, aj, cj, rfl, hc, hl⟩ := HL.out j hlt
    obtain ⟨g0, g1, g2, g3, g4, g5, g6⟩ := hc.kept ((HN.out.1.tr HJ.out.1).block b (block_lt_of_cell hc.c0) id)
    have hltI : (j : Int) < (i : Int) := by omega
    have n1 : ∀ x, (wr.alloc x).cell? ⟨w.heap.size + 1, 0, none⟩ = some (.string f.name) := fun x => ((HJ.out.1).alloc x).cell' e0 id
    clear hc
    by_cases hq : sEq fj.name f.name = true
    ·have hq' : (fj.name.toList == f.name.toList) = true := hq
     have HE : Hid (R = 31) := by show _ = _; rw [HR2.out, if_pos (HX1.out ⟨j, fj, hlt, hl, hq⟩)]
     have HG := hidM (HN.out.1.tr HJ.out.1)
     clear hq hl
     go_wp2
     go_ret
     exact ⟨by rw [HE.out]; rfl, HG.out.alloc _⟩
    have hq1 : sEq fj.name f.name = false := by simpa using hq
    have hq' : (fj.name.toList == f.name.toList) = false := hq1
    have HM : Hid (∀ j' fj, j' < j + 1 → lst[j']? = some fj → sEq fj.name f.name = false) := fun j' f' h1 h2 => by
     by_cases e : j' = j
     ·subst e; rw [hl] at h2; cases h2; exact hq1
     exact HJ.out.2 j' f' (by omega) h2
    have HG := hidM HJ.out.1
    clear hq hq1 hl
    go_wp2
    go_roundw
    case rel => exact ⟨j + 1, by omega, by simp, HG.out.alloc _, HM.out⟩
    case measure => simp [intOf]; omega
   have hjI : ¬ (j : Int) < (i : Int) := by omega
   have hidx := HX2.out (fun j' fj h h2 => HJ.out.2 j' fj (by omega) h2)
   have HG := hidM (HN.out.1.tr HJ.out.1)
   obtain ⟨b0, b8, b9, e0, e1, e2, e3, e4, e5, e6⟩ := (HN.out.2.gr HJ.out.1).cells
   have HR3 : Hid (R = if tableB f = false then 32 else if nullB f = false then 35
    else if inD = true ∧ (f.kind = 19 ∨ f.kind = 20) then 36 else if f.kind = 19 ∧ (kid0 f = true ∨ tk = true) then 36 else 0) := by
    show _ = _
    rw [HR2.out, if_neg (by simp [hidx])]
   have hcs := HSh.out wr HG.out
   unfold typV at hcs
   have HU : Hid (tableB f = true → ∀ W, Gr w W → Calls Tryz.prog 43 #[.agg #[.string f.name, .bool f.nul, .int .i64 f.kind, .int .i64 f.width, .int .i64 f.id, .int .i64 f.index, .slice fo f.kids.length fc]] W fun e w' => e = .returned (.bool (nullB f)) ∧ Gr W w') := HNu.out
   have HK2 := hidM HKid.out
   have HQ1 := hidM HT1.out
   have HQ2 := hidM HT2.out
   have HNB : Hid (NB wr w.heap.size (.slice (some ⟨wb, 0, none⟩) m wc) (.string f.name) (.bool f.nul) (.int .i64 f.kind) (.int .i64 f.width) (.int .i64 f.id) (.int .i64 f.index) (.slice fo f.kids.length fc) (.slice ao i ca) (.bool inD)) := HN.out.2.gr HJ.out.1
   obtain ⟨tabR, htabR⟩ := ex (tableB f)
   rw [htabR] at hcs HR3 HU HK2 HQ1 HQ2
   obtain ⟨nulR, hnulR⟩ := ex (nullB f)
   rw [hnulR] at HR3 HU
   clear HR2 HJ HN HL HX1 HX2 HSh HNu HKid HT1 HT2 hidx htabR hnulR h0 h1 h2 h3 h4 h5 h6 h7 h8 h9
   cases tabR with
   | false =>
    have HE : Hid (R = 32) := by show _ = _; rw [HR3.out, if_pos rfl]
    go_wp2_with (go_at_call 42; refine Calls.mono hcs ?_; rintro e w3 ⟨rfl, hg3⟩)
    go_ret
    exact ⟨by rw [HE.out]; rfl, HG.out.tr hg3⟩
   | true =>
    go_wp2_with (go_at_call 42; refine Calls.mono hcs ?_; rintro e w3 ⟨rfl, hg3⟩; have HG3 := hidM (HG.out.tr hg3); have HNB3 := hidM (HNB.out.gr hg3); obtain ⟨b0, b8, b9, e0, e1, e2, e3, e4, e5, e6⟩ := HNB3.out.cells; have hcn := HU.out rfl w3 HG3.out)
    clear hcs hg3
    refine Calls.mono hcn ?_
    rintro e w4 ⟨rfl, hg4⟩
    have HG4 := hidM (HG3.out.tr hg4)
    have HNB4 := hidM (HNB3.out.gr hg4)
    obtain ⟨b0, b8, b9, e0, e1, e2, e3, e4, e5, e6⟩ := HNB4.out.cells
    clear hcn HU HG3 HNB3 HNB HG
    cases nulR with
    | false =>
     have HE : Hid (R = 35) := by show _ = _; rw [HR3.out, if_neg (by simp), if_pos rfl]
     clear hg4
     go_wp2
     go_ret
     exact ⟨by rw [HE.out]; rfl, HG4.out⟩
    | true =>
     have HR4 : Hid (R = if inD = true ∧ (f.kind = 19 ∨ f.kind = 20) then 36 else if f.kind = 19 ∧ (kid0 f = true ∨ tk = true) then 36 else 0) := by
      show _ = _
      rw [HR3.out, if_neg (by simp), if_neg (by simp)]
     clear HR3 hg4
     by_cases q : f.kind = 19
     ·rw [q] at e2
      cases inD with
      | true =>
       have HE : Hid (R = 36) := by show _ = _; rw [HR4.out, if_pos ⟨rfl, .inl q⟩]
       go_wp2
       go_ret
       exact ⟨by rw [HE.out]; rfl, HG4.out⟩
      | false =>
       obtain ⟨b, o, rfl, hkp, hkc⟩ := HK2.out (by trivial) q
       have hkc4 := HG4.out.cell' hkc id
       have hkpI : (0 : Int) < (f.kids.length : Int) := by omega
       obtain ⟨kid, hkid⟩ := ex (kid0 f)
       rw [hkid] at hkc4 HR4
       clear hkc hkid
       cases kid with
       | true =>
        have HE : Hid (R = 36) := by show _ = _; rw [HR4.out, if_neg (by simp), if_pos ⟨q, .inl rfl⟩]
        go_wp2
        go_ret
        exact ⟨by rw [HE.out]; rfl, HG4.out⟩
       | false =>
        have HR5 : Hid (R = if tk = true then 36 else 0) := by
         show _ = _
         rw [HR4.out, if_neg (by simp)]
         simp [q]
        have hkvI : (k : Int) ≤ (vc : Int) := by omega
        have HQ1' := hidM (HQ1.out (by trivial) q)
        have HQ2' := hidM (HQ2.out (by trivial) q)
        clear HR4 HQ1 HQ2 HK2
        go_wp2
        go_loopw [75] (fun p wr => ∃ j : Nat, j ≤ k ∧ p = .int .i64 (j : Int) ∧ Hid (Gr w4 wr ∧ ∀ j', j' < j → ¬ ((ids j').1 = 19 ∧ (ids j').2 = f.id))) (fun p _ => k - (intOf p).toNat)
        case atStart => exact ⟨0, by omega, rfl, Keeps.refl _ _, fun j h => by omega⟩
        case round =>
         obtain ⟨j, hj, rfl, HJ⟩ := hrel
         by_cases hlt : j < k
         ·obtain ⟨x, wb', wc', fo', fc', ao', ca', hten, hids⟩ := HP.out j hlt
          obtain ⟨t0, t1, t2, t3, t4, t5, t6, t7, t8, t9⟩ := hten.gr (HG4.out.tr HJ.out.1)
          have hltI : (j : Int) < (k : Int) := by omega
          have n1 : ∀ x, (wr.alloc x).cell? ⟨w.heap.size + 1, 4, none⟩ = some (.int .i64 f.id) := fun x => ((HJ.out.1).alloc x).cell' e4 id
          clear hten
          have HG5 := hidM (HG4.out.tr HJ.out.1)
          have HM : Hid (¬ (x.fld.kind = 19 ∧ x.fld.id = f.id) → ∀ j', j' < j + 1 → ¬ ((ids j').1 = 19 ∧ (ids j').2 = f.id)) := fun h0 j' h1 => by
           by_cases e : j' = j
           ·subst e; rw [hids]; exact h0
           exact HJ.out.2 j' (by omega)
          have HJ2 := hidM HJ.out.1
          by_cases r1 : x.fld.kind = 19
          ·rw [r1] at t3
           by_cases r2 : x.fld.id = f.id
           ·rw [r2] at t5
            have HE : Hid (R = 36) := by show _ = _; rw [HR5.out, if_pos (HQ1'.out ⟨j, hlt, by rw [hids]; exact r1, by rw [hids]; exact r2⟩)]
            clear r1 r2 hids HM
            go_wp2
            go_ret
            exact ⟨by rw [HE.out]; rfl, HG5.out.alloc _⟩
           have r3 := beqF r2
           have HM2 := hidM (HM.out fun h => r2 h.2)
           clear r1 r2 hids HM
           go_wp2
           go_roundw
           case rel => exact ⟨j + 1, by omega, by simp, HJ2.out.alloc _, HM2.out⟩
           case measure => simp [intOf]; omega
          have r3 := beqF r1
          have HM2 := hidM (HM.out fun h => r1 h.1)
          clear r1 hids HM
          go_wp2
          go_roundw
          case rel => exact ⟨j + 1, by omega, by simp, HJ2.out.alloc _, HM2.out⟩
          case measure => simp [intOf]; omega
         have hjI : ¬ (j : Int) < (k : Int) := by omega
         have HE : Hid (R = 0) := by show _ = _; rw [HR5.out, if_neg (by simp [HQ2'.out fun j' h => HJ.out.2 j' (by omega)])]
         have HG5 := hidM (HG4.out.tr HJ.out.1)
         go_wp2
         go_ret
         exact ⟨by rw [HE.out]; rfl, HG5.out⟩
     have q1 := beqF q
     by_cases q2 : f.kind = 20
     ·rw [q2] at e2 q1
      cases inD with
      | true =>
       have HE : Hid (R = 36) := by show _ = _; rw [HR4.out, if_pos ⟨rfl, .inr q2⟩]
       go_wp2
       go_ret
       exact ⟨by rw [HE.out]; rfl, HG4.out⟩
      | false =>
       have HE : Hid (R = 0) := by show _ = _; rw [HR4.out, if_neg (by simp), if_neg (by simp [q])]
       go_wp2
       go_ret
       exact ⟨by rw [HE.out]; rfl, HG4.out⟩
     have q3 := beqF q2
     have HE : Hid (R = 0) := by show _ = _; rw [HR4.out, if_neg (by simp [q, q2]), if_neg (by simp [q])]
     go_wp2
     go_ret
     exact ⟨by rw [HE.out]; rfl, HG4.out⟩
theorem idx_early {l : List FT} {nm : ByteArray} {i : Nat} (h : ∃ j fj, j < i ∧ l[j]? = some fj ∧ sEq fj.name nm = true) : idxOf l nm ≠ i := by
 obtain ⟨j, fj, hj, hl, hq⟩ := h
 intro e
 obtain ⟨hjl, rfl⟩ := List.getElem?_eq_some_iff.1 hl
 unfold idxOf at e
 split at e
 ·rename_i hlt
  have e2 : l.findIdx (fun f => sEq f.name nm) = i := by omega
  have := List.not_of_lt_findIdx (p := fun f : FT => sEq f.name nm) (xs := l) (i := j) (by omega)
  simp [hq] at this
 omega
theorem sEq_self (a : ByteArray) : sEq a a = true := by simp [sEq]
theorem wrongR_any (S : Nat → Prop) (vo : Option Addr) (vc : Nat) (out : List LS) (k : Nat) (hk : k < out.length) (hlen : out.length ≤ 257) (w : World) (hO : OutAt S w (.slice vo out.length vc) out) (hA : AllR (out.take k)) (hS : ∀ b, S b → b < w.heap.size) :
  Calls Tryz.prog 30 #[.slice vo out.length vc, .int .i64 (k : Int)] w fun e w' => e = .returned (.int .i64 (wrongE out[k] k (tkL (out.take k)))) ∧ Gr w w' := by
 obtain ⟨g, rfl, hvc, hall⟩ := hO.ten (by omega)
 obtain ⟨wb, wc, fo, fc, ao, ca, ht, hn⟩ := hall k hk
 obtain ⟨D, hrow⟩ := hn.row
 obtain ⟨E, hkids⟩ := hn.kids
 have hix := hn.ix
 have hle := hn.le
 have hfe : out[k].list[out[k].idx]'hix = out[k].fld := by
  unfold LS.fld
  rw [List.getElem?_eq_getElem hix]
  rfl
 have hbig : out[k].list.length ≤ 1000000000000 := hrow.len
 unfold wrongE
 refine wrongR_walk g out.length vc k out[k].path.length wb wc out[k].fld fo fc ao out[k].idx ca out[k].inD out[k].list (fun j => (((out[j]?).map fun s => s.fld.kind).getD 0, ((out[j]?).map fun s => s.fld.id).getD 0)) _ _ w hk hlen hvc (by omega) (by omega) hkids.len ht.c0 ht.c1 ht.c2 ht.c3 ht.c4 ht.c5 ht.c6 ht.c7 ht.c8 ht.c9 ?_ idx_early ?_ ?_ ?_ ?_ ?_ ?_ ?_
 ·intro j hj
  obtain ⟨b, o, e, _, hc⟩ := hrow.2 (fun e => by rw [e] at hix; simp at hix)
  obtain ⟨ao', ca', h1, _⟩ := hc j (by omega)
  exact ⟨b, o, _, ao', ca', e, h1, List.getElem?_eq_getElem (by omega)⟩
 ·intro h
  refine idxOf_some hix (fun j hj hlt => h j _ hlt (List.getElem?_eq_getElem hj)) ?_
  rw [hfe]
  exact sEq_self _
 ·intro j hj
  obtain ⟨wb', wc', fo', fc', ao', ca', h1, h2⟩ := hall j (by omega)
  exact ⟨out[j], wb', wc', fo', fc', ao', ca', h1, by simp [List.getElem?_eq_getElem (show j < out.length by omega)]⟩
 ·rintro - - ⟨j, hj, h1, h2⟩
  have hjl : j < out.length := by omega
  simp only [List.getElem?_eq_getElem hjl, Option.map_some, Option.getD_some] at h1 h2
  unfold tkL
  rw [List.any_eq_true]
  refine ⟨out[j], ?_, by simp [h1, h2]⟩
  rw [List.mem_take_iff_getElem]
  exact ⟨j, by omega, rfl⟩
 ·intro htab h19 h
  rw [Bool.eq_false_iff]
  intro ht
  unfold tkL at ht
  rw [List.any_eq_true] at ht
  obtain ⟨s, hs, hq⟩ := ht
  rw [List.mem_take_iff_getElem] at hs
  obtain ⟨j, hj, rfl⟩ := hs
  have hjl : j < out.length := by omega
  have hjk : j < k := by omega
  simp only [Bool.and_eq_true, decide_eq_true_eq] at hq
  refine h j hjk ?_
  simp only [List.getElem?_eq_getElem hjl, Option.map_some, Option.getD_some]
  refine ⟨hq.1, ?_⟩
  have h1 := hA j (by simp; omega)
  have h2 : wrongE out[j] j (tkL ((out.take k).take j)) = 0 := by simpa using h1
  unfold wrongE at h2
  have h3 := (tab_kids (wr_tab h2)).1 hq.1
  have h4 := (tab_kids htab).1 h19
  omega
 ·exact fun W g' => shaped_any out[k].fld fo fc W hkids.len
 ·exact fun htab W g' => nulls_any out[k].fld fo fc S E W (hkids.kept fun b hb => g'.block b (hS b hb) id) (tab_kids htab).2
 intro htab h19
 have hne := ((tab_kids htab).1 h19).1
 obtain ⟨b, o, e, hc⟩ := kids_cell hkids hne
 exact ⟨b, o, e, List.length_pos_iff.2 hne, hc⟩
end Go.Proofs.YthhpamhfnpacpaaGreatDoor.Kit
