import Derived.Test.YthhpamhfnpacpaaGreatDoorPZ
set_option linter.unusedVariables false
set_option linter.unusedSimpArgs false
set_option maxRecDepth 100000
set_option maxHeartbeats 8000000
namespace Go.Proofs.YthhpamhfnpacpaaGreatDoor.Kit
open Go.RowKit Go.Shelf Go.Deep
open Kd (Ans cell5 cell2)
attribute [local go_sem] run_store_func
open Kd (NewB row7)
def PuQ (A wr A6 : World) (B d k vc : Nat) (vo : Option Addr) (l : List FT) (f : FT) (R : List Value) (F : Nat → Option Addr × Nat) : Prop :=
 ∀ (w7 : World) (vo' : Option Addr) (vc' : Nat), w7.ownsRow 0 58 7 (.slice vo' (k + 1) vc') (k + 1) (row7 l F ++ R) → A6.grownBy w7 (Value.slice vo k vc).ownBlock → ((Value.slice vo' (k + 1) vc').ownBlock = (Value.slice vo k vc).ownBlock ∨ ∀ g, (Value.slice vo' (k + 1) vc').ownBlock = some g → A6.heap.size ≤ g) →
  FsI (A.setCell ⟨B, 0, none⟩ (.slice vo k vc)) w7 d (l ++ [f]) vo' vc' ∧ FsI (A.setCell ⟨B, 0, none⟩ (.slice vo' (k + 1) vc')) (w7.setCell ⟨B, 0, none⟩ (.slice vo' (k + 1) vc')) d (l ++ [f]) vo' vc' ∧ Keeps A6 w7 (fun z => A.heap.size ≤ z ∧ z < wr.heap.size)
theorem out_step {A wr D w1 A6 : World} {B d k vc xc : Nat} {vo xo : Option Addr} {x y : Value} {l : List FT} {f : FT} (hB : A.heap[B]? = some (.cells #[x, y] 25)) (h : FsI (A.setCell ⟨B, 0, none⟩ (.slice vo k vc)) wr d l vo vc) (hk : l.length = k) (g1 : Gr wr D) (g2 : Gr D w1) (hl : f.kids.length ≤ xc) (hr : RowAt (fun b => D.heap.size ≤ b ∧ b < w1.heap.size) w1 d xo f.kids) (hA : w1.alloc (.cells #[.string f.name, .bool f.nul, .int .i64 f.kind, .int .i64 f.width, .int .i64 f.id, .int .i64 f.index, .slice xo f.kids.length xc] 58) = A6) :
  ∃ F : Nat → Option Addr × Nat, Src Tryz.prog 7 22 (.slice (some ⟨w1.heap.size, 0, none⟩) 1 1) 1 [.string f.name, .bool f.nul, .int .i64 f.kind, .int .i64 f.width, .int .i64 f.id, .int .i64 f.index, .slice xo f.kids.length xc] A6 ∧ A6.ownsRow 0 58 7 (.slice vo k vc) k (row7 l F) ∧ PuQ A wr A6 B d k vc vo l f [.string f.name, .bool f.nul, .int .i64 f.kind, .int .i64 f.width, .int .i64 f.id, .int .i64 f.index, .slice xo f.kids.length xc] F := by
 subst hk
 obtain ⟨F, hF⟩ := h.own
 have gA := gr_al hA
 have gwA := (g1.tr g2).tr gA
 have sA : (A.setCell ⟨B, 0, none⟩ (.slice vo l.length vc)).heap.size = A.heap.size := by simp [World.setCell]
 refine ⟨F, ?_, row_kp hF.1 fun g e => gwA.block g (own_lt hF.1 g e) id, fun w7 vo' vc' h1 h2 h3 => ?_⟩
 ·rw [← hA]
  exact src58 (heap_alloc_new w1 _) (by intro v hv; simp at hv; rcases hv with rfl | rfl | rfl | rfl | rfl | rfl | rfl <;> rfl)
 have hp := h.push hF g1 g2 gA hl hr h1 h2 h3
 exact ⟨hp, hp.box hB, (Keeps.ofGrown h2).mono fun z _ e => by have := h.new z e; omega⟩
def PuH (A wr Z : World) (B d k vc bs : Nat) (vo : Option Addr) (l : List FT) (f : FT) (R : List Value) : Prop :=
 k ≤ 2000 ∧ A.heap[B]? = some (.cells #[.slice none 0 0, .slice none 0 0] 25) ∧ ∃ F, Src Tryz.prog 7 22 (.slice (some ⟨bs, 0, none⟩) 1 1) 1 R Z ∧ Z.ownsRow 0 58 7 (.slice vo k vc) k (row7 l F) ∧ PuQ A wr Z B d k vc vo l f R F
theorem wpList_push {A wr Z : World} {B d k vc bs : Nat} {vo : Option Addr} {l : List FT} {f : FT} {R : List Value} {ops : Array Oper} {rest : List Oper} {o : Oper} {a : Act} {Q : Exit → Act → World → Prop} (hgd : o.guard = none) (s x : Operand) (ho : o.op = .call { callee := .builtin .append, args := #[s, x], argTypes := #[22, 22] }) (hv : a.eval s = .slice vo k vc) (hx : a.eval x = .slice (some ⟨bs, 0, none⟩) 1 1) (hp : PuH A wr Z B d k vc bs vo l f R)
  (h : ∀ vo' vc' w7, w7.heap[B]? = some (.cells #[.slice vo k vc, .slice none 0 0] 25) → FsI (A.setCell ⟨B, 0, none⟩ (.slice vo' (k + 1) vc')) (w7.setCell ⟨B, 0, none⟩ (.slice vo' (k + 1) vc')) d (l ++ [f]) vo' vc' → wpList Tryz.prog ops Q rest (a.put o.dst (.slice vo' (k + 1) vc')) w7) : wpList Tryz.prog ops Q (o :: rest) a Z := by
 obtain ⟨hk, hB, F, h1, h2, h3⟩ := hp
 refine wpList_append_anyN (P := Tryz.prog) Z hgd s x 22 22 ho 58 Kd.z37 7 80 Tryz.underlying22 Kd.info37 Kd.c37 (.slice vo k vc) k (row7 l F) hv h2 _ 1 R hx h1 (by omega) (by omega) ?_
 intro v' w7 a1 a2 a3
 obtain ⟨vo', vc', rfl⟩ := own_formN a1
 obtain ⟨p1, p2, -⟩ := h3 w7 vo' vc' a1 a2 a3
 exact h vo' vc' w7 (p1.at_ hB) p2
theorem step_push {A wr Z : World} {B d k vc bs : Nat} {vo : Option Addr} {l : List FT} {f : FT} {R : List Value} {ops : Array Oper} {o : Oper} {a : Act} {K : Act → World → Prop} {Q : Exit → Act → World → Prop} {E : Prop} (hgd : o.guard = none) (s x : Operand) (ho : o.op = .call { callee := .builtin .append, args := #[s, x], argTypes := #[22, 22] }) (hv : a.eval s = .slice vo k vc) (hx : a.eval x = .slice (some ⟨bs, 0, none⟩) 1 1) (hp : PuH A wr Z B d k vc bs vo l f R)
  (h : ∀ vo' vc' w7, w7.heap[B]? = some (.cells #[.slice vo k vc, .slice none 0 0] 25) → Keeps Z w7 (fun z => A.heap.size ≤ z ∧ z < wr.heap.size) → FsI (A.setCell ⟨B, 0, none⟩ (.slice vo' (k + 1) vc')) (w7.setCell ⟨B, 0, none⟩ (.slice vo' (k + 1) vc')) d (l ++ [f]) vo' vc' → K (a.put o.dst (.slice vo' (k + 1) vc')) w7) : if Region.wanted o (yielded ops a.tmps) = true then Oper.wp Tryz.prog o a Z K Q else E := by
 obtain ⟨hk, hB, F, h1, h2, h3⟩ := hp
 refine step_append_anyN (P := Tryz.prog) Z hgd s x 22 22 ho 58 Kd.z37 7 80 Tryz.underlying22 Kd.info37 Kd.c37 (.slice vo k vc) k (row7 l F) hv h2 _ 1 R hx h1 (by omega) (by omega) ?_
 intro v' w7 a1 a2 a3
 obtain ⟨vo', vc', rfl⟩ := own_formN a1
 obtain ⟨p1, p2, p3⟩ := h3 w7 vo' vc' a1 a2 a3
 exact h vo' vc' w7 (p1.at_ hB) p3 p2
theorem outcome13 (d : Nat) (join : Int) (l : List (Int × Int)) (G : Nat → FT) (fo no go mo oo : Option Addr) (n cf nn cn m cg mm cm oc : Nat) (er : Int) (W : World) (hlen : l.length ≤ 1000) (hO : OrAt W oo l)
  (h25 : ∀ i (hi : i < l.length) (u : World), Gr W u → Calls Tryz.prog 25 #[.int .i64 join, .agg #[.slice fo n cf, .slice no nn cn], .agg #[.slice go m cg, .slice mo mm cm], .agg #[.int .i64 l[i].1, .int .i64 l[i].2]] u fun e w' => ∃ v, e = .returned v ∧ Gr u w' ∧ FVx d u w' (G i) v)
  (hC : ∀ (u : World) (vo : Option Addr) (vc : Nat), Gr W u → RowAt (fun b => b < u.heap.size) u (d + 1) vo ((List.range l.length).map G) → l.length ≤ vc → Calls Tryz.prog 21 #[.agg #[.slice vo l.length vc, .slice none 0 0]] u fun e w' => ∃ xo xn xc tt, e = .returned (.agg #[.int .i64 er, .slice xo xn xc, .int .i64 tt]) ∧ Gr u w') :
  Calls Tryz.prog 13 #[.int .i64 join, .agg #[.slice fo n cf, .slice no nn cn], .agg #[.slice go m cg, .slice mo mm cm], .slice oo l.length oc] W fun e w' => ∃ vo vc, e = .returned (.tuple #[.agg #[.slice vo (if er = 0 then l.length else 0) vc, .slice none 0 0], .int .i64 er]) ∧ Gr W w' ∧ (er = 0 → l.length ≤ vc ∧ RowAt (NewB W w') w' (d + 1) vo ((List.range l.length).map G)) := by
 obtain ⟨L, hL⟩ : ∃ L, L = l.length := ⟨_, rfl⟩
 rw [← hL]
 have HL := hidM hL
 have hLb : L ≤ 1000 := by omega
 obtain ⟨A0, hA0, g0, b0⟩ := nw W (.cells #[.slice fo n cf, .slice no nn cn] 25)
 obtain ⟨A1, hA1, g1, b1⟩ := nw A0 (.cells #[.slice go m cg, .slice mo mm cm] 25)
 obtain ⟨A2, hA2, g2, b2⟩ := nw A1 (.cells #[.slice none 0 0, .slice none 0 0] 25)
 obtain ⟨A3, hA3, g3, b3⟩ := nw A2 (.cells #[.slice none 0 0, .slice none 0 0] 25)
 have gW3 : Gr W A3 := ((g0.tr g1).tr g2).tr g3
 have s0 := sz_al hA0
 have s1 := sz_al hA1
 have s2 := sz_al hA2
 have s3 := sz_al hA3
 have x0 := ((g1.tr g2).tr g3).block _ (lt_of_heap b0) id |>.trans b0
 have x1 := (g2.tr g3).block _ (lt_of_heap b1) id |>.trans b1
 have x2 := (g3.block _ (lt_of_heap b2) id).trans b2
 have HB3 := hidM b3
 have HX0 := hidM x0
 have HX1 := hidM x1
 have HX2 := hidM x2
 have HGW := hidM gW3
 have HSz : Hid (A0.heap.size = W.heap.size + 1 ∧ A1.heap.size = A0.heap.size + 1 ∧ A2.heap.size = A1.heap.size + 1 ∧ A3.heap.size = A2.heap.size + 1) := ⟨s0, s1, s2, s3⟩
 have HST := hidM (FsI.start_box (d := d) b3)
 have HOR := hidM hO
 have H25 := hidM h25
 have HCK := hidM hC
 have hfl := fld52
 clear g0 b0 g1 b1 g2 b2 g3 b3 gW3 s0 s1 s2 s3 x0 x1 x2 hO h25 hC hL hlen
 go_enter Tryz.func13, Tryz.ntmps13
 go_wp2_with fail
 clear hA0 hA1 hA2 hA3
 go_loopw [16] (fun i wr => ∃ (k : Nat) (vo : Option Addr) (vc : Nat), k ≤ L ∧ i = .int .i64 (k : Int) ∧ Hid (FsI (A3.setCell ⟨A2.heap.size, 0, none⟩ (.slice vo k vc)) wr d ((List.range k).map G) vo vc)) (fun i _ => L - (intOf i).toNat)
 case atStart => exact ⟨0, none, 0, by omega, rfl, HST.out⟩
 case round =>
  obtain ⟨k, vo, vc, hk, rfl, HK⟩ := hrel
  by_cases hlt : k < L
  ·have hkl : k < l.length := by have := HL.out; omega
   obtain ⟨og, oy, rfl, hog, hoc⟩ := HOR.out (fun e => by rw [e] at hkl; simp at hkl)
   have kA3 := HK.out.kp
   obtain ⟨z0, z1, z2, z3⟩ := HSz.out
   have hsz := kA3.size
   have gWr : Gr W wr := HGW.out.trans kA3 (fun j hj (e : j = A2.heap.size) => by omega)
   obtain ⟨oa, hoa⟩ : ∃ x, x = (l[k]'hkl).1 := ⟨_, rfl⟩
   obtain ⟨ob, hob⟩ : ∃ x, x = (l[k]'hkl).2 := ⟨_, rfl⟩
   have y0 := gWr.cell' (hoc k hkl).1 id
   have y1 := gWr.cell' (hoc k hkl).2 id
   rw [← hoa] at y0
   rw [← hob] at y1
   obtain ⟨Z0, hZ0, gZ0, bZ0⟩ := nw wr (.cells #[.int .i64 0, .int .i64 0] 72)
   obtain ⟨i0, i1⟩ := cell2 bZ0
   have iz := frzA bZ0
   obtain ⟨Z1, hZ1⟩ := ex (setAll Z0 wr.heap.size [(0, .int .i64 oa), (1, .int .i64 ob)])
   have kZ1 : Keeps Z0 Z1 (fun z => z = wr.heap.size) := by rw [← hZ1]; exact setAll_kp _ _ _
   have bZ1 : Z1.heap[wr.heap.size]? = some (.cells #[.int .i64 oa, .int .i64 ob] 72) := by rw [← hZ1, setAll_blk wr.heap.size 72 _ _ _ bZ0]; simp [setsA]
   have gZ : Gr wr Z1 := gZ0.trans kZ1 (fun j hj (e : j = wr.heap.size) => by omega)
   have HSS : Hid (∀ u, Keeps Z1 u (fun z => z ≠ W.heap.size ∧ z ≠ A0.heap.size ∧ z ≠ wr.heap.size) → u.cell? ⟨W.heap.size, 0, none⟩ = some (.slice fo n cf) ∧ u.cell? ⟨W.heap.size, 1, none⟩ = some (.slice no nn cn) ∧ u.cell? ⟨A0.heap.size, 0, none⟩ = some (.slice go m cg) ∧ u.cell? ⟨A0.heap.size, 1, none⟩ = some (.slice mo mm cm) ∧ u.cell? ⟨wr.heap.size, 0, none⟩ = some (.int .i64 oa) ∧ u.cell? ⟨wr.heap.size, 1, none⟩ = some (.int .i64 ob)) := fun u g => by
    have e0 := (gZ.block W.heap.size (by omega) id).trans ((kA3.block W.heap.size (by omega) (by omega)).trans HX0.out)
    have e1 := (gZ.block A0.heap.size (by omega) id).trans ((kA3.block A0.heap.size (by omega) (by omega)).trans HX1.out)
    obtain ⟨a0, a1⟩ := cell2 ((g.block _ (lt_of_heap e0) (by simp)).trans e0)
    obtain ⟨a2, a3⟩ := cell2 ((g.block _ (lt_of_heap e1) (by simp)).trans e1)
    obtain ⟨a4, a5⟩ := cell2 ((g.block _ (lt_of_heap bZ1) (by simp)).trans bZ1)
    exact ⟨a0, a1, a2, a3, a4, a5⟩
   have HSG : Hid (∀ u, Gr Z1 u → u.cell? ⟨W.heap.size, 0, none⟩ = some (.slice fo n cf) ∧ u.cell? ⟨W.heap.size, 1, none⟩ = some (.slice no nn cn) ∧ u.cell? ⟨A0.heap.size, 0, none⟩ = some (.slice go m cg) ∧ u.cell? ⟨A0.heap.size, 1, none⟩ = some (.slice mo mm cm) ∧ u.cell? ⟨wr.heap.size, 0, none⟩ = some (.int .i64 oa) ∧ u.cell? ⟨wr.heap.size, 1, none⟩ = some (.int .i64 ob)) := fun u g => HSS.out u (g.mono fun _ _ h => h.elim)
   have HGD : Hid (Gr Z1 Z1.drew) := gr_drew
   have HGr : Hid (Gr wr Z1) := gZ
   have HSD := hidM (HSG.out Z1.drew HGD.out)
   have HT : Hid (∀ u, Gr wr u → u.cell? ⟨A2.heap.size, 0, none⟩ = some (.slice vo k vc)) := fun u g => g.cell' (cell2 (HK.out.at_ HB3.out)).1 id
   have c10 := HT.out Z1.drew (HGr.out.tr HGD.out)
   have hc25 := H25.out k hkl Z1.drew ((gWr.tr gZ).tr HGD.out)
   rw [← hoa, ← hob] at hc25
   have HC := hidM hc25
   have HNe : Hid (∀ z, A3.heap.size ≤ z ∧ z < wr.heap.size → z ≠ W.heap.size ∧ z ≠ A0.heap.size ∧ z ≠ wr.heap.size) := fun z h => ⟨by omega, by omega, by omega⟩
   have HNb : Hid (∀ z, z = A2.heap.size → z ≠ W.heap.size ∧ z ≠ A0.heap.size ∧ z ≠ wr.heap.size) := fun z h => ⟨by omega, by omega, by omega⟩
   have hkI : (k : Int) < (L : Int) := by omega
   simp only [setAll] at hZ1
   clear hog hoc kA3 z0 z1 z2 z3 hsz gWr hoa hob kZ1 bZ1 gZ gZ0 bZ0 hc25
   go_wp2_with fail
   clear y0 y1 i0 i1 iz hZ0 hZ1
   obtain ⟨f, hf⟩ : ∃ f, f = G k := ⟨_, rfl⟩
   rw [← hf] at HC
   have HF := hidM hf
   clear hf
   refine wp_region_held_drew (S := fun w' => w'.cell? ⟨W.heap.size, 0, none⟩ = some (.slice fo n cf) ∧ w'.cell? ⟨W.heap.size, 1, none⟩ = some (.slice no nn cn) ∧ w'.cell? ⟨A0.heap.size, 0, none⟩ = some (.slice go m cg) ∧ w'.cell? ⟨A0.heap.size, 1, none⟩ = some (.slice mo mm cm) ∧ w'.cell? ⟨wr.heap.size, 0, none⟩ = some (.int .i64 oa) ∧ w'.cell? ⟨wr.heap.size, 1, none⟩ = some (.int .i64 ob)) (by kernel_rfl) (HSD.out) fun _ => ?_
   refine tk 0 ?_
   refine tk 2 ?_
   refine tk 3 ?_
   refine tk 4 ?_
   refine tk 5 ?_
   refine rd2 1 6 (fun Kc hK => ?_) fun Kc hK => ?_
   ·go_simp
    refine hK.out _ _ (HSD.out) fun _ => ?_
    clear hK Kc
    try simp only [Act.put, lA, lB, lC]
    refine rd1 6 fun Kc hK => ?_
    go_simp
    go_at_call 25
    refine Calls.mono HC.out ?_
    rintro e' w1 ⟨v, rfl, g1, xo, xc, rfl, hxl, hxr⟩
    have HG1 := hidM (HGD.out.tr g1)
    have HS1 := hidM (HSG.out w1 HG1.out)
    have c10b := HT.out w1 (HGr.out.tr HG1.out)
    obtain ⟨A6, hA6⟩ := ex (w1.alloc (.cells #[.string f.name, .bool f.nul, .int .i64 f.kind, .int .i64 f.width, .int .i64 f.id, .int .i64 f.index, .slice xo f.kids.length xc] 58))
    have HPu : Hid (PuH A3 wr A6 A2.heap.size d k vc w1.heap.size vo ((List.range k).map G) f [.string f.name, .bool f.nul, .int .i64 f.kind, .int .i64 f.width, .int .i64 f.id, .int .i64 f.index, .slice xo f.kids.length xc]) := ⟨by omega, HB3.out, out_step (wr := wr) (D := Z1.drew) HB3.out HK.out (by simp) (HGr.out.tr HGD.out) g1 hxl hxr hA6⟩
    have HG6 : Hid (Gr Z1 A6) := by rw [← hA6]; exact HG1.out.tr (gr_alloc _ _)
    have HS2 := hidM (HSG.out A6 HG6.out)
    have c10c := HT.out A6 (HGr.out.tr HG6.out)
    clear g1 hxl hxr
    go_wp2_with fail
    refine hK.out _ _ (HS1.out) fun _ => ?_
    clear hK Kc
    try simp only [Act.put, lA, lB, lC]
    refine rd1 7 fun Kc hK => ?_
    go_simp
    refine hK.out _ _ (HS2.out) fun _ => ?_
    clear hK Kc
    try simp only [Act.put, lA, lB, lC]
    refine rd1 8 fun Kc hK => ?_
    refine step_push rfl (.tmp 21) (.tmp 27) rfl rfl rfl HPu.out ?_
    intro vo' vc' w7 hb7 hp3 hp2
    have k7 := (HG6.out.mono fun _ _ h => h.elim).tr hp3
    have HS3 := hidM (HSS.out w7 (k7.mono fun z _ h => HNe.out z h))
    obtain ⟨c10d, c11d⟩ := cell2 hb7
    have zz := frzA hb7
    obtain ⟨U, hU⟩ := ex (w7.setCell ⟨A2.heap.size, 0, none⟩ (.slice vo' (k + 1) vc'))
    have HS4 : Hid (U.cell? ⟨W.heap.size, 0, none⟩ = some (.slice fo n cf) ∧ U.cell? ⟨W.heap.size, 1, none⟩ = some (.slice no nn cn) ∧ U.cell? ⟨A0.heap.size, 0, none⟩ = some (.slice go m cg) ∧ U.cell? ⟨A0.heap.size, 1, none⟩ = some (.slice mo mm cm) ∧ U.cell? ⟨wr.heap.size, 0, none⟩ = some (.int .i64 oa) ∧ U.cell? ⟨wr.heap.size, 1, none⟩ = some (.int .i64 ob)) := by
     rw [← hU]; exact HSS.out _ ((k7.mono fun z _ h => HNe.out z h).trans (Keeps.setCell (S := fun z => z = A2.heap.size) (p := ⟨A2.heap.size, 0, none⟩) (Keeps.refl w7 _) (fun _ => rfl) _) (fun z _ h => HNb.out z h))
    have HE : Hid (FsI (A3.setCell ⟨A2.heap.size, 0, none⟩ (.slice vo' (k + 1) vc')) U d ((List.range (k + 1)).map G) vo' vc') := by
     rw [hU] at hp2
     rw [List.range_succ, List.map_append, List.map_cons, List.map_nil, ← HF.out]
     exact hp2
    clear hp2 hp3 k7 hb7
    refine hK.out _ _ (HS3.out) fun _ => ?_
    clear hK Kc
    try simp only [Act.put, lA, lB, lC]
    refine tk 9 ?_
    refine rd1 10 fun Kc hK => ?_
    go_simp
    refine hK.out _ _ (HS4.out) fun _ => ?_
    clear hK Kc
    try simp only [Act.put, lA, lB, lC]
    refine wpAnyH_done (by kernel_rfl) ?_ _
    clear HS1 HS2 HS3 HS4 HPu HG6 c10b c10c c10d c11d zz hU
    go_wp2_with fail
    go_roundw
    case rel => exact ⟨k + 1, vo', vc', by omega, by first | go_num | (simp; omega), HE.out⟩
    case measure => simp [intOf]; omega
   go_simp
   go_at_call 25
   refine Calls.mono HC.out ?_
   rintro e' w1 ⟨v, rfl, g1, xo, xc, rfl, hxl, hxr⟩
   have HG1 := hidM (HGD.out.tr g1)
   have HS1 := hidM (HSG.out w1 HG1.out)
   have c10b := HT.out w1 (HGr.out.tr HG1.out)
   obtain ⟨A6, hA6⟩ := ex (w1.alloc (.cells #[.string f.name, .bool f.nul, .int .i64 f.kind, .int .i64 f.width, .int .i64 f.id, .int .i64 f.index, .slice xo f.kids.length xc] 58))
   have HPu : Hid (PuH A3 wr A6 A2.heap.size d k vc w1.heap.size vo ((List.range k).map G) f [.string f.name, .bool f.nul, .int .i64 f.kind, .int .i64 f.width, .int .i64 f.id, .int .i64 f.index, .slice xo f.kids.length xc]) := ⟨by omega, HB3.out, out_step (wr := wr) (D := Z1.drew) HB3.out HK.out (by simp) (HGr.out.tr HGD.out) g1 hxl hxr hA6⟩
   have HG6 : Hid (Gr Z1 A6) := by rw [← hA6]; exact HG1.out.tr (gr_alloc _ _)
   have HS2 := hidM (HSG.out A6 HG6.out)
   have c10c := HT.out A6 (HGr.out.tr HG6.out)
   clear g1 hxl hxr
   go_wp2_with fail
   refine hK.out _ _ (HS1.out) fun _ => ?_
   clear hK Kc
   try simp only [Act.put, lA, lB, lC]
   refine rd2 1 7 (fun Kc hK => ?_) fun Kc hK => ?_
   ·go_simp
    refine hK.out _ _ (HS1.out) fun _ => ?_
    clear hK Kc
    try simp only [Act.put, lA, lB, lC]
    refine rd1 7 fun Kc hK => ?_
    go_simp
    refine hK.out _ _ (HS2.out) fun _ => ?_
    clear hK Kc
    try simp only [Act.put, lA, lB, lC]
    refine rd1 8 fun Kc hK => ?_
    refine step_push rfl (.tmp 21) (.tmp 27) rfl rfl rfl HPu.out ?_
    intro vo' vc' w7 hb7 hp3 hp2
    have k7 := (HG6.out.mono fun _ _ h => h.elim).tr hp3
    have HS3 := hidM (HSS.out w7 (k7.mono fun z _ h => HNe.out z h))
    obtain ⟨c10d, c11d⟩ := cell2 hb7
    have zz := frzA hb7
    obtain ⟨U, hU⟩ := ex (w7.setCell ⟨A2.heap.size, 0, none⟩ (.slice vo' (k + 1) vc'))
    have HS4 : Hid (U.cell? ⟨W.heap.size, 0, none⟩ = some (.slice fo n cf) ∧ U.cell? ⟨W.heap.size, 1, none⟩ = some (.slice no nn cn) ∧ U.cell? ⟨A0.heap.size, 0, none⟩ = some (.slice go m cg) ∧ U.cell? ⟨A0.heap.size, 1, none⟩ = some (.slice mo mm cm) ∧ U.cell? ⟨wr.heap.size, 0, none⟩ = some (.int .i64 oa) ∧ U.cell? ⟨wr.heap.size, 1, none⟩ = some (.int .i64 ob)) := by
     rw [← hU]; exact HSS.out _ ((k7.mono fun z _ h => HNe.out z h).trans (Keeps.setCell (S := fun z => z = A2.heap.size) (p := ⟨A2.heap.size, 0, none⟩) (Keeps.refl w7 _) (fun _ => rfl) _) (fun z _ h => HNb.out z h))
    have HE : Hid (FsI (A3.setCell ⟨A2.heap.size, 0, none⟩ (.slice vo' (k + 1) vc')) U d ((List.range (k + 1)).map G) vo' vc') := by
     rw [hU] at hp2
     rw [List.range_succ, List.map_append, List.map_cons, List.map_nil, ← HF.out]
     exact hp2
    clear hp2 hp3 k7 hb7
    refine hK.out _ _ (HS3.out) fun _ => ?_
    clear hK Kc
    try simp only [Act.put, lA, lB, lC]
    refine tk 9 ?_
    refine rd1 10 fun Kc hK => ?_
    go_simp
    refine hK.out _ _ (HS4.out) fun _ => ?_
    clear hK Kc
    try simp only [Act.put, lA, lB, lC]
    refine wpAnyH_done (by kernel_rfl) ?_ _
    clear HS1 HS2 HS3 HS4 HPu HG6 c10b c10c c10d c11d zz hU
    go_wp2_with fail
    go_roundw
    case rel => exact ⟨k + 1, vo', vc', by omega, by first | go_num | (simp; omega), HE.out⟩
    case measure => simp [intOf]; omega
   go_simp
   refine hK.out _ _ (HS2.out) fun _ => ?_
   clear hK Kc
   try simp only [Act.put, lA, lB, lC]
   refine rd1 1 fun Kc hK => ?_
   go_simp
   refine hK.out _ _ (HS2.out) fun _ => ?_
   clear hK Kc
   try simp only [Act.put, lA, lB, lC]
   refine rd1 8 fun Kc hK => ?_
   refine step_push rfl (.tmp 21) (.tmp 27) rfl rfl rfl HPu.out ?_
   intro vo' vc' w7 hb7 hp3 hp2
   have k7 := (HG6.out.mono fun _ _ h => h.elim).tr hp3
   have HS3 := hidM (HSS.out w7 (k7.mono fun z _ h => HNe.out z h))
   obtain ⟨c10d, c11d⟩ := cell2 hb7
   have zz := frzA hb7
   obtain ⟨U, hU⟩ := ex (w7.setCell ⟨A2.heap.size, 0, none⟩ (.slice vo' (k + 1) vc'))
   have HS4 : Hid (U.cell? ⟨W.heap.size, 0, none⟩ = some (.slice fo n cf) ∧ U.cell? ⟨W.heap.size, 1, none⟩ = some (.slice no nn cn) ∧ U.cell? ⟨A0.heap.size, 0, none⟩ = some (.slice go m cg) ∧ U.cell? ⟨A0.heap.size, 1, none⟩ = some (.slice mo mm cm) ∧ U.cell? ⟨wr.heap.size, 0, none⟩ = some (.int .i64 oa) ∧ U.cell? ⟨wr.heap.size, 1, none⟩ = some (.int .i64 ob)) := by
    rw [← hU]; exact HSS.out _ ((k7.mono fun z _ h => HNe.out z h).trans (Keeps.setCell (S := fun z => z = A2.heap.size) (p := ⟨A2.heap.size, 0, none⟩) (Keeps.refl w7 _) (fun _ => rfl) _) (fun z _ h => HNb.out z h))
   have HE : Hid (FsI (A3.setCell ⟨A2.heap.size, 0, none⟩ (.slice vo' (k + 1) vc')) U d ((List.range (k + 1)).map G) vo' vc') := by
    rw [hU] at hp2
    rw [List.range_succ, List.map_append, List.map_cons, List.map_nil, ← HF.out]
    exact hp2
   clear hp2 hp3 k7 hb7
   refine hK.out _ _ (HS3.out) fun _ => ?_
   clear hK Kc
   try simp only [Act.put, lA, lB, lC]
   refine tk 9 ?_
   refine rd1 10 fun Kc hK => ?_
   go_simp
   refine hK.out _ _ (HS4.out) fun _ => ?_
   clear hK Kc
   try simp only [Act.put, lA, lB, lC]
   refine wpAnyH_done (by kernel_rfl) ?_ _
   clear HS1 HS2 HS3 HS4 HPu HG6 c10b c10c c10d c11d zz hU
   go_wp2_with fail
   go_roundw
   case rel => exact ⟨k + 1, vo', vc', by omega, by first | go_num | (simp; omega), HE.out⟩
   case measure => simp [intOf]; omega
  have hkl : k = L := by omega
  subst hkl
  have kA3 := HK.out.kp
  obtain ⟨z0, z1, z2, z3⟩ := HSz.out
  have hsz := kA3.size
  have gWr : Gr W wr := HGW.out.trans kA3 (fun j hj (e : j = A2.heap.size) => by omega)
  have ht := HK.out.at_ HB3.out
  have hr := (kA3.block A1.heap.size (by omega) (by omega)).trans HX2.out
  obtain ⟨hvc, hrow⟩ := HK.out.row (by simp [big]; omega)
  have hlk : ((List.range k).map G).length = k := by simp
  rw [hlk] at hvc
  have sA : (A3.setCell ⟨A2.heap.size, 0, none⟩ (.slice vo k vc)).heap.size = A3.heap.size := by simp [World.setCell]
  have hrowN : RowAt (fun b => A3.heap.size ≤ b ∧ b < wr.heap.size) wr (d + 1) vo ((List.range k).map G) := hrow.mono fun b hb => ⟨by have := hb.1; omega, hb.2⟩
  have hck := HCK.out wr vo vc gWr (by rw [← HL.out]; exact hrow.mono fun b hb => hb.2) (by rw [← HL.out]; exact hvc)
  rw [← HL.out] at hck
  have hlen0 : ∀ (V : World), Gr wr V → V.heap[A2.heap.size]? = some (.cells #[.slice vo k vc, .slice none 0 0] 25) ∧ V.heap[A1.heap.size]? = some (.cells #[.slice none 0 0, .slice none 0 0] 25) := fun V kV => ⟨(kV.block _ (lt_of_heap ht) id).trans ht, (kV.block _ (lt_of_heap hr) id).trans hr⟩
  have HC21 := hidM hck
  obtain ⟨t0, t1⟩ := cell2 ht
  have HLT : Hid (W.heap.size ≤ A1.heap.size ∧ A1.heap.size < A3.heap.size) := ⟨by omega, by omega⟩
  by_cases ce : er = 0
  ·subst ce
   have HX : Hid (∀ (w8 V : World) (xo : Option Addr) (xn xc : Nat) (tt : Int), Gr wr w8 → w8.alloc (.cells #[.int .i64 0, .slice xo xn xc, .int .i64 tt] 52) = V → V.heap[w8.heap.size]? = some (.cells #[.int .i64 0, .slice xo xn xc, .int .i64 tt] 52) ∧ V.heap[A2.heap.size]? = some (.cells #[.slice vo k vc, .slice none 0 0] 25) ∧ V.heap[A1.heap.size]? = some (.cells #[.slice none 0 0, .slice none 0 0] 25) ∧ (setAll V A1.heap.size [(0, .slice vo k vc), (1, .slice none 0 0)]).heap[A1.heap.size]? = some (.cells #[.slice vo k vc, .slice none 0 0] 25) ∧ Gr W (setAll V A1.heap.size [(0, .slice vo k vc), (1, .slice none 0 0)]) ∧ RowAt (NewB W (setAll V A1.heap.size [(0, .slice vo k vc), (1, .slice none 0 0)])) (setAll V A1.heap.size [(0, .slice vo k vc), (1, .slice none 0 0)]) (d + 1) vo ((List.range k).map G)) := fun w8 V xo xn xc tt g8 hV => by
    have kV : Gr wr V := g8.tr (by rw [← hV]; exact gr_alloc w8 _)
    obtain ⟨h2, h3⟩ := hlen0 V kV
    have ks := setAll_kp A1.heap.size [(0, .slice vo k vc), (1, .slice none 0 0)] V
    have hss := ks.size
    have hsv := kV.size
    refine ⟨by rw [← hV]; exact heap_alloc_new w8 _, h2, h3, ?_, (gWr.tr kV).trans ks (fun j hj (e : j = A1.heap.size) => by have := HLT.out; omega), ?_⟩
    ·rw [setAll_blk A1.heap.size 25 _ _ _ h3]; simp [setsA]
    exact ((hrowN.kept fun b hb => kV.block b hb.2 id).kept fun b hb => ks.block b (by have := hb.2; omega) (fun e => by have e' : b = A1.heap.size := e; have := HLT.out; have := hb.1; omega)).mono fun b hb => ⟨by have := hb.1; have := HLT.out; omega, by have := hb.2; omega⟩
   have HVC := hidM hvc
   clear kA3 z0 z1 z2 z3 hsz gWr ht hr hvc hrow hlk sA hrowN hck hlen0
   go_wp2_with (go_at_call 21; refine HC21.out.mono ?_; rintro e w8 ⟨xo, xn, xc, tt, rfl, g8⟩; clear t0 t1; obtain ⟨V, hV⟩ := ex (w8.alloc (.cells #[.int .i64 0, .slice xo xn xc, .int .i64 tt] 52)); obtain ⟨h1, h2, h3, h4, h5, h6⟩ := HX.out w8 V xo xn xc tt g8 hV; obtain ⟨X, hX⟩ := ex (setAll V A1.heap.size [(0, .slice vo k vc), (1, .slice none 0 0)]); rw [hX] at h4 h5 h6; have HU := hidM h4; have HKK := hidM h5; have HRR := hidM h6; simp only [setAll] at hX; obtain ⟨y0, y1, y2⟩ := cell3V h1; have yz := frzA h1; have i0 := set_id (j := 0) (v := .int .i64 0) h1 rfl; have i1 := set_id (j := 1) (v := .slice xo xn xc) h1 rfl; have i2 := set_id (j := 2) (v := .int .i64 tt) h1 rfl; obtain ⟨t0, t1⟩ := cell2 h2; obtain ⟨r0, r1⟩ := cell2 h3; have rz := frzA h3; clear g8 h1 h2 h3 h4 h5 h6)
   (try simp only [Exit.inBlock, Exit.then])
   refine bodyPost_ret (results_cell30t rfl rfl (by with_reducible exact HU.out) (by kernel_rfl)) rfl ?_
   exact ⟨vo, vc, rfl, HKK.out, HVC.out, HRR.out⟩
  have he : (er == 0) = false := by simp [ce]
  have HX : Hid (∀ (w8 V : World) (xo : Option Addr) (xn xc : Nat) (tt : Int), Gr wr w8 → w8.alloc (.cells #[.int .i64 er, .slice xo xn xc, .int .i64 tt] 52) = V → V.heap[w8.heap.size]? = some (.cells #[.int .i64 er, .slice xo xn xc, .int .i64 tt] 52) ∧ V.heap[A1.heap.size]? = some (.cells #[.slice none 0 0, .slice none 0 0] 25) ∧ Gr W V) := fun w8 V xo xn xc tt g8 hV => by
   have kV : Gr wr V := g8.tr (by rw [← hV]; exact gr_alloc w8 _)
   exact ⟨by rw [← hV]; exact heap_alloc_new w8 _, (hlen0 V kV).2, gWr.tr kV⟩
  clear kA3 z0 z1 z2 z3 hsz gWr ht hr hvc hrow hlk sA hrowN hck hlen0
  go_wp2_with (go_at_call 21; refine HC21.out.mono ?_; rintro e w8 ⟨xo, xn, xc, tt, rfl, g8⟩; clear t0 t1; obtain ⟨V, hV⟩ := ex (w8.alloc (.cells #[.int .i64 er, .slice xo xn xc, .int .i64 tt] 52)); obtain ⟨h1, h3, h5⟩ := HX.out w8 V xo xn xc tt g8 hV; have HU := hidM h3; have HY := hidM h1; have HKK := hidM h5; obtain ⟨y0, y1, y2⟩ := cell3V h1; have yz := frzA h1; have i0 := set_id (j := 0) (v := .int .i64 er) h1 rfl; have i1 := set_id (j := 1) (v := .slice xo xn xc) h1 rfl; have i2 := set_id (j := 2) (v := .int .i64 tt) h1 rfl; obtain ⟨r0, r1⟩ := cell2 h3; have rz := frzA h3; have r2 := set_id (j := 0) (v := .slice Option.none 0 0) h3 rfl; have r3 := set_id (j := 1) (v := .slice Option.none 0 0) h3 rfl; clear g8 h1 h3 h5)
  have HSV : Hid (∀ u, Gr V u → u.cell? ⟨w8.heap.size, 0, none⟩ = some (.int .i64 er)) := fun u g => g.cell' (cell3V HY.out).1 id
  have HGV : Hid (Gr V V.drew) := gr_drew
  refine wp_region_held_drew (S := fun w' => w'.cell? ⟨w8.heap.size, 0, none⟩ = some (.int .i64 er)) (by kernel_rfl) (HSV.out V.drew HGV.out) fun _ => ?_
  refine tk 0 ?_
  refine tk 1 ?_
  refine' wpAnyH_take (i := 2) (oi := { dst := some 38, op := Op.load 33 (Operand.tmp 37), type := 33, pos := "types.go:62", after := #[{ on := 1, ground := Ground.data }, { on := 3, ground := Ground.gcOnly Departure.lateStores }], guard := none }) rfl (by kernel_rfl) (by kernel_rfl) (by kernel_rfl) (fun _ _ _ h => h) (Or.inl ⟨by rfl, _⟩) (by assumption) _
  rotate_left 1
  ·(intro w hSw; have s0 := hSw; go_simp; (try with_reducible rfl))
  try simp only [Act.put, lA, lB, lC]
  refine rd1 3 fun Kc hK => ?_
  go_simp
  refine hK.out _ _ (HSV.out V.drew HGV.out) fun _ => ?_
  clear hK Kc
  try simp only [Act.put, lA, lB, lC]
  refine tk 4 ?_
  refine wpAnyH_done (by kernel_rfl) ?_ _
  have HUD := hidM ((HGV.out.block _ (lt_of_heap HU.out) id).trans HU.out)
  have HKD := hidM (HKK.out.tr HGV.out)
  go_wp2_with fail
  (try simp only [Exit.inBlock, Exit.then])
  refine bodyPost_ret (results_cell30t rfl rfl (by with_reducible exact HUD.out) (by kernel_rfl)) rfl ?_
  exact ⟨⟨none, 0, rfl⟩, HKD.out⟩
open Kd (NewB)
theorem type5_w (join : Int) (po qo fo no go mo : Option Addr) (pn pc qn qc n cf nn cn m cg mm cm : Nat) (W : World) (ec : Int) (hec : ¬ ec = 0) (h11 : ∀ u, Gr W u → Calls Tryz.prog 11 #[.agg #[.slice fo n cf, .slice no nn cn], .agg #[.slice go m cg, .slice mo mm cm]] u fun e w' => e = .returned (.int .i64 ec) ∧ Gr u w') : Calls Tryz.prog 5 #[.int .i64 join, .agg #[.slice fo n cf, .slice no nn cn], .slice po pn pc, .agg #[.slice go m cg, .slice mo mm cm], .slice qo qn qc] W fun e w' => e = .returned (.tuple #[.agg #[.slice none 0 0, .slice none 0 0], .int .i64 ec]) ∧ Gr W w' := by
 obtain ⟨A0, hA0, g0, b0⟩ := nw W (.cells #[.slice fo n cf, .slice no nn cn] 25)
 obtain ⟨A1, hA1, g1, b1⟩ := nw A0 (.cells #[.slice go m cg, .slice mo mm cm] 25)
 obtain ⟨A2, hA2, g2, b2⟩ := nw A1 (.cells #[.slice none 0 0, .slice none 0 0] 25)
 have g12 := g1.tr g2
 have gW : Gr W A2 := g0.tr g12
 obtain ⟨e0, e1⟩ := cell2 ((g12.block _ (lt_of_heap b0) id).trans b0)
 obtain ⟨f0, f1⟩ := cell2 ((g2.block _ (lt_of_heap b1) id).trans b1)
 have HC1 := hidM (h11 A2 gW)
 have HG := hidM gW
 have HX : Hid (∀ w, Gr A2 w → w.heap[A1.heap.size]? = some (.cells #[.slice none 0 0, .slice none 0 0] 25)) := fun w k => (k.block _ (lt_of_heap b2) id).trans b2
 have hne : (ec != 0) = true := by simp [hec]
 clear g0 b0 g1 b1 g2 b2 g12 gW h11
 go_enter Tryz.func5, Tryz.ntmps5
 go_wp2_with (go_at_call 11; refine HC1.out.mono ?_; rintro e w1 ⟨rfl, g1⟩; have HG1 := hidM (HG.out.tr g1); have hb := HX.out w1 g1; have HU := hidM hb; clear e0 e1 f0 f1 hA0 hA1 hA2 g1; obtain ⟨r0, r1⟩ := cell2 hb; have rz := frzA hb; have r2 := set_id (j := 0) (v := .slice Option.none 0 0) hb rfl; have r3 := set_id (j := 1) (v := .slice Option.none 0 0) hb rfl; clear hb)
 (try simp only [Exit.inBlock, Exit.then])
 refine bodyPost_ret (results_cell30t rfl rfl (by with_reducible exact HU.out) (by kernel_rfl)) rfl ?_
 exact ⟨rfl, HG1.out⟩
theorem type5_k (join : Int) (po qo fo no go mo : Option Addr) (pn pc qn qc n cf nn cn m cg mm cm : Nat) (W : World) (ec : Int) (hec : ¬ ec = 0) (h11 : ∀ u, Gr W u → Calls Tryz.prog 11 #[.agg #[.slice fo n cf, .slice no nn cn], .agg #[.slice go m cg, .slice mo mm cm]] u fun e w' => e = .returned (.int .i64 0) ∧ Gr u w') (h12 : ∀ u, Gr W u → Calls Tryz.prog 12 #[.int .i64 join, .agg #[.slice fo n cf, .slice no nn cn], .slice po pn pc, .agg #[.slice go m cg, .slice mo mm cm], .slice qo qn qc] u fun e w' => e = .returned (.int .i64 ec) ∧ Gr u w') : Calls Tryz.prog 5 #[.int .i64 join, .agg #[.slice fo n cf, .slice no nn cn], .slice po pn pc, .agg #[.slice go m cg, .slice mo mm cm], .slice qo qn qc] W fun e w' => e = .returned (.tuple #[.agg #[.slice none 0 0, .slice none 0 0], .int .i64 ec]) ∧ Gr W w' := by
 obtain ⟨A0, hA0, g0, b0⟩ := nw W (.cells #[.slice fo n cf, .slice no nn cn] 25)
 obtain ⟨A1, hA1, g1, b1⟩ := nw A0 (.cells #[.slice go m cg, .slice mo mm cm] 25)
 obtain ⟨A2, hA2, g2, b2⟩ := nw A1 (.cells #[.slice none 0 0, .slice none 0 0] 25)
 have g12 := g1.tr g2
 have gW : Gr W A2 := g0.tr g12
 obtain ⟨e0, e1⟩ := cell2 ((g12.block _ (lt_of_heap b0) id).trans b0)
 obtain ⟨f0, f1⟩ := cell2 ((g2.block _ (lt_of_heap b1) id).trans b1)
 have HSS : Hid (∀ u, Gr A2 u → u.cell? ⟨W.heap.size, 0, none⟩ = some (.slice fo n cf) ∧ u.cell? ⟨W.heap.size, 1, none⟩ = some (.slice no nn cn) ∧ u.cell? ⟨A0.heap.size, 0, none⟩ = some (.slice go m cg) ∧ u.cell? ⟨A0.heap.size, 1, none⟩ = some (.slice mo mm cm)) := fun u g => ⟨g.cell' e0 id, g.cell' e1 id, g.cell' f0 id, g.cell' f1 id⟩
 have HC1 := hidM (h11 A2 gW)
 have HC2 : Hid (∀ u, Gr A2 u → Calls Tryz.prog 12 #[.int .i64 join, .agg #[.slice fo n cf, .slice no nn cn], .slice po pn pc, .agg #[.slice go m cg, .slice mo mm cm], .slice qo qn qc] u fun e w' => e = .returned (.int .i64 ec) ∧ Gr u w') := fun u g => h12 u (gW.tr g)
 have HG := hidM gW
 have HX : Hid (∀ w, Gr A2 w → w.heap[A1.heap.size]? = some (.cells #[.slice none 0 0, .slice none 0 0] 25)) := fun w k => (k.block _ (lt_of_heap b2) id).trans b2
 have hne : (ec != 0) = true := by simp [hec]
 clear g0 b0 g1 b1 g2 b2 g12 gW h11 h12
 go_enter Tryz.func5, Tryz.ntmps5
 go_wp2_with (first
  | (go_at_call 11; refine HC1.out.mono ?_; rintro e w1 ⟨rfl, g1⟩; have HG1 := hidM g1; clear e0 e1 f0 f1 hA0 hA1 hA2; obtain ⟨e0, e1, f0, f1⟩ := HSS.out w1 g1; clear g1)
  | (go_at_call 12; refine (HC2.out w1 HG1.out).mono ?_; rintro e w2 ⟨rfl, g2⟩; have HG2 := hidM (HG.out.tr (HG1.out.tr g2)); have hb := HX.out w2 (HG1.out.tr g2); have HU := hidM hb; clear e0 e1 f0 f1 g2; obtain ⟨r0, r1⟩ := cell2 hb; have rz := frzA hb; have r2 := set_id (j := 0) (v := .slice Option.none 0 0) hb rfl; have r3 := set_id (j := 1) (v := .slice Option.none 0 0) hb rfl; clear hb))
 (try simp only [Exit.inBlock, Exit.then])
 refine bodyPost_ret (results_cell30t rfl rfl (by with_reducible exact HU.out) (by kernel_rfl)) rfl ?_
 exact ⟨rfl, HG2.out⟩
theorem type5_ok (join : Int) (po qo fo no go mo : Option Addr) (pn pc qn qc n cf nn cn m cg mm cm : Nat) (W : World) (l : List (Int × Int)) (oN xN D : Nat) (er : Int) (fs : List FT) (h11 : ∀ u, Gr W u → Calls Tryz.prog 11 #[.agg #[.slice fo n cf, .slice no nn cn], .agg #[.slice go m cg, .slice mo mm cm]] u fun e w' => e = .returned (.int .i64 0) ∧ Gr u w') (h12 : ∀ u, Gr W u → Calls Tryz.prog 12 #[.int .i64 join, .agg #[.slice fo n cf, .slice no nn cn], .slice po pn pc, .agg #[.slice go m cg, .slice mo mm cm], .slice qo qn qc] u fun e w' => e = .returned (.int .i64 0) ∧ Gr u w')
  (h14 : ∀ u, Gr W u → Calls Tryz.prog 14 #[.int .i64 join, .agg #[.slice fo n cf, .slice no nn cn], .slice po pn pc, .agg #[.slice go m cg, .slice mo mm cm], .slice qo qn qc] u fun e w' => ∃ vo vc, e = .returned (.slice vo oN vc) ∧ Gr u w' ∧ OrAt w' vo l)
  (h13 : ∀ u vo vc, Gr W u → OrAt u vo l → Calls Tryz.prog 13 #[.int .i64 join, .agg #[.slice fo n cf, .slice no nn cn], .agg #[.slice go m cg, .slice mo mm cm], .slice vo oN vc] u fun e w' => ∃ xo xc, e = .returned (.tuple #[.agg #[.slice xo xN xc, .slice none 0 0], .int .i64 er]) ∧ Gr u w' ∧ (er = 0 → xN ≤ xc ∧ RowAt (NewB u w') w' D xo fs)) :
  Calls Tryz.prog 5 #[.int .i64 join, .agg #[.slice fo n cf, .slice no nn cn], .slice po pn pc, .agg #[.slice go m cg, .slice mo mm cm], .slice qo qn qc] W fun e w' => ∃ xo xc, e = .returned (.tuple #[.agg #[.slice xo xN xc, .slice none 0 0], .int .i64 er]) ∧ Gr W w' ∧ (er = 0 → xN ≤ xc ∧ RowAt (NewB W w') w' D xo fs) := by
 obtain ⟨A0, hA0, g0, b0⟩ := nw W (.cells #[.slice fo n cf, .slice no nn cn] 25)
 obtain ⟨A1, hA1, g1, b1⟩ := nw A0 (.cells #[.slice go m cg, .slice mo mm cm] 25)
 obtain ⟨A2, hA2, g2, b2⟩ := nw A1 (.cells #[.slice none 0 0, .slice none 0 0] 25)
 have g12 := g1.tr g2
 have gW : Gr W A2 := g0.tr g12
 obtain ⟨e0, e1⟩ := cell2 ((g12.block _ (lt_of_heap b0) id).trans b0)
 obtain ⟨f0, f1⟩ := cell2 ((g2.block _ (lt_of_heap b1) id).trans b1)
 have HSS : Hid (∀ u, Gr A2 u → u.cell? ⟨W.heap.size, 0, none⟩ = some (.slice fo n cf) ∧ u.cell? ⟨W.heap.size, 1, none⟩ = some (.slice no nn cn) ∧ u.cell? ⟨A0.heap.size, 0, none⟩ = some (.slice go m cg) ∧ u.cell? ⟨A0.heap.size, 1, none⟩ = some (.slice mo mm cm)) := fun u g => ⟨g.cell' e0 id, g.cell' e1 id, g.cell' f0 id, g.cell' f1 id⟩
 have HC1 := hidM (h11 A2 gW)
 have HC2 : Hid (∀ u, Gr A2 u → Calls Tryz.prog 12 #[.int .i64 join, .agg #[.slice fo n cf, .slice no nn cn], .slice po pn pc, .agg #[.slice go m cg, .slice mo mm cm], .slice qo qn qc] u fun e w' => e = .returned (.int .i64 0) ∧ Gr u w') := fun u g => h12 u (gW.tr g)
 have HC3 : Hid (∀ u, Gr A2 u → Calls Tryz.prog 14 #[.int .i64 join, .agg #[.slice fo n cf, .slice no nn cn], .slice po pn pc, .agg #[.slice go m cg, .slice mo mm cm], .slice qo qn qc] u fun e w' => ∃ vo vc, e = .returned (.slice vo oN vc) ∧ Gr u w' ∧ OrAt w' vo l) := fun u g => h14 u (gW.tr g)
 have HC4 : Hid (∀ u vo vc, Gr A2 u → OrAt u vo l → Calls Tryz.prog 13 #[.int .i64 join, .agg #[.slice fo n cf, .slice no nn cn], .agg #[.slice go m cg, .slice mo mm cm], .slice vo oN vc] u fun e w' => ∃ xo xc, e = .returned (.tuple #[.agg #[.slice xo xN xc, .slice none 0 0], .int .i64 er]) ∧ Gr u w' ∧ (er = 0 → xN ≤ xc ∧ RowAt (NewB u w') w' D xo fs)) := fun u vo vc g h => h13 u vo vc (gW.tr g) h
 have HX : Hid (∀ (w3 w : World) (xo : Option Addr) (xc : Nat), Gr A2 w3 → Gr w3 w → (er = 0 → xN ≤ xc ∧ RowAt (NewB w3 w) w D xo fs) → w.heap[A1.heap.size]? = some (.cells #[.slice none 0 0, .slice none 0 0] 25) ∧ (setAll w A1.heap.size [(0, .slice xo xN xc), (1, .slice none 0 0)]).heap[A1.heap.size]? = some (.cells #[.slice xo xN xc, .slice none 0 0] 25) ∧ (Gr W (setAll w A1.heap.size [(0, .slice xo xN xc), (1, .slice none 0 0)]) ∧ (er = 0 → xN ≤ xc ∧ RowAt (NewB W (setAll w A1.heap.size [(0, .slice xo xN xc), (1, .slice none 0 0)])) (setAll w A1.heap.size [(0, .slice xo xN xc), (1, .slice none 0 0)]) D xo fs)) ∧ ((setAll w A1.heap.size [(0, .slice xo xN xc), (1, .slice none 0 0)]).cell? ⟨W.heap.size, 0, none⟩ = some (.slice fo n cf) ∧ (setAll w A1.heap.size [(0, .slice xo xN xc), (1, .slice none 0 0)]).cell? ⟨W.heap.size, 1, none⟩ = some (.slice no nn cn) ∧ (setAll w A1.heap.size [(0, .slice xo xN xc), (1, .slice none 0 0)]).cell? ⟨A0.heap.size, 0, none⟩ = some (.slice go m cg) ∧ (setAll w A1.heap.size [(0, .slice xo xN xc), (1, .slice none 0 0)]).cell? ⟨A0.heap.size, 1, none⟩ = some (.slice mo mm cm))) := fun w3 w xo xc k3 k4 hq => by
  have k := k3.tr k4
  have hr := (k.block _ (lt_of_heap b2) id).trans b2
  have k1 : Keeps w (setAll w A1.heap.size [(0, .slice xo xN xc), (1, .slice none 0 0)]) (fun z => z = A1.heap.size) := setAll_kp _ _ _
  have s1 := g0.size
  have l0 : W.heap.size < A0.heap.size := by have := lt_of_heap b0; omega
  have l1 : A0.heap.size < A1.heap.size := by have := lt_of_heap b1; omega
  have l2 : A1.heap.size < A2.heap.size := lt_of_heap b2
  have l3 := k3.size
  have l4 := k1.size
  obtain ⟨q0, q1, q2, q3⟩ := HSS.out w k
  refine ⟨hr, ?_, ⟨(gW.tr k).trans k1 (fun j hj (e : j = A1.heap.size) => by omega), fun e0 => ⟨(hq e0).1, ((hq e0).2.kept fun b hb => k1.block b hb.2 (fun e => by have e' : b = A1.heap.size := e; have := hb.1; omega)).mono fun b hb => ⟨by have := hb.1; omega, by have := hb.2; omega⟩⟩⟩, k1.cell' q0 (fun e => by have e' : W.heap.size = A1.heap.size := e; omega), k1.cell' q1 (fun e => by have e' : W.heap.size = A1.heap.size := e; omega), k1.cell' q2 (fun e => by have e' : A0.heap.size = A1.heap.size := e; omega), k1.cell' q3 (fun e => by have e' : A0.heap.size = A1.heap.size := e; omega)⟩
  rw [setAll_blk A1.heap.size 25 _ _ _ hr]
  simp [setsA]
 clear g0 b0 g1 b1 g2 b2 g12 gW h11 h12 h13 h14
 go_enter Tryz.func5, Tryz.ntmps5
 go_wp2_with (first
  | (go_at_call 11; refine HC1.out.mono ?_; rintro e w1 ⟨rfl, g1⟩; have HG1 := hidM g1; clear e0 e1 f0 f1 hA0 hA1 hA2; obtain ⟨e0, e1, f0, f1⟩ := HSS.out w1 g1; clear g1)
  | (go_at_call 12; refine (HC2.out w1 HG1.out).mono ?_; rintro e w2 ⟨rfl, g2⟩; have HG2 := hidM ((HG1.out.tr g2).tr (gr_drew (w := w2))); clear e0 e1 f0 f1; have HSd := hidM (HSS.out w2.drew HG2.out); clear g2))
 go_region_held3 (fun u => u.cell? ⟨W.heap.size, 0, none⟩ = some (.slice fo n cf) ∧ u.cell? ⟨W.heap.size, 1, none⟩ = some (.slice no nn cn) ∧ u.cell? ⟨A0.heap.size, 0, none⟩ = some (.slice go m cg) ∧ u.cell? ⟨A0.heap.size, 1, none⟩ = some (.slice mo mm cm)) (first | with_reducible exact HSd.out | with_reducible exact HS3.out | with_reducible exact HS4.out | with_reducible exact HS5.out) (first
  | (go_at_call 13; refine (HC4.out w3 _ _ HG3.out HO3.out).mono ?_; rintro e w4 ⟨xo, xc, rfl, k4, hq⟩; have HS4 := hidM (HSS.out w4 (HG3.out.tr k4)); obtain ⟨h1, h2, h3, h4⟩ := HX.out w3 w4 xo xc HG3.out k4 hq; obtain ⟨U, hU⟩ := ex (setAll w4 A1.heap.size [(0, .slice xo xN xc), (1, .slice none 0 0)]); rw [hU] at h2 h3 h4; have HU := hidM h2; have HK := hidM h3; have HS5 := hidM h4; simp only [setAll] at hU; obtain ⟨y0, y1⟩ := cell2 h1; have z0 := frz h1 0; have z1 := frz h1 1; clear k4 hq h1 h2 h3 h4)
  | (go_at_call 14; refine (HC3.out w2.drew HG2.out).mono ?_; rintro e w3 ⟨vo3, gc3, rfl, k3, ho3⟩; have HG3 := hidM (HG2.out.tr k3); have HO3 := hidM ho3; have HS3 := hidM (HSS.out w3 HG3.out); clear k3 ho3))
 go_wp2_with fail
 (try simp only [Exit.inBlock, Exit.then])
 refine bodyPost_ret (results_cell30t rfl rfl (by with_reducible exact HU.out) (by kernel_rfl)) rfl ?_
 exact ⟨_, _, rfl, HK.out⟩
theorem FVx.up {d : Nat} {W w' : World} {f : FT} {v : Value} (h : FVx d W w' f v) : FVx (d + 1) W w' f v := by
 obtain ⟨ko, kc, e, hl, hr⟩ := h
 exact ⟨ko, kc, e, hl, hr.up⟩
def lF (d : Nat) (join : Int) (fs1 fs2 : List FT) (k1 k2 : List Int) (i : Nat) : FT :=
 ren (bareF d (fs1[i]!)).name ((bareF d (fs1[i]!)).nul || (decide (join = 3) && (if 0 ≤ plc k1 (i : Int) then (fs2[((k2[(plc k1 (i : Int)).toNat]?).getD 0).toNat]!).nul else true))) (bareF d (fs1[i]!))
def rF (d : Nat) (join : Int) (fs2 : List FT) (i : Nat) : FT := ren (bareF d (fs2[i]!)).name ((bareF d (fs2[i]!)).nul || decide (join ≠ 1)) (bareF d (fs2[i]!))
def rIx (k2 : List Int) (m : Nat) : List Nat := (List.range m).filter fun (i : Nat) => !decide (0 ≤ plc k2 (i : Int))
def outFs (d : Nat) (join : Int) (fs1 fs2 : List FT) (k1 k2 : List Int) : List FT :=
 if join = 4 ∨ join = 5 then fs1 else (List.range fs1.length).map (lF d join fs1 fs2 k1 k2) ++ (rIx k2 fs2.length).map (rF d join fs2)
def orL (join : Int) (k1 k2 : List Int) (n m : Nat) : List (Int × Int) := (List.range n).map (orA (decide (join = 4 ∨ join = 5)) k1 k2) ++ orB (decide (join = 4 ∨ join = 5)) k2 m
theorem orB_sm (k2 : List Int) (m : Nat) : orB true k2 m = [] := by simp [orB]
theorem orB_ns (k2 : List Int) (m : Nat) : orB false k2 m = (rIx k2 m).map fun (i : Nat) => ((-1 : Int), (i : Int)) := by simp [orB, rIx]
theorem orL_len (d : Nat) (join : Int) (fs1 fs2 : List FT) (k1 k2 : List Int) : (orL join k1 k2 fs1.length fs2.length).length = (outFs d join fs1 fs2 k1 k2).length := by
 unfold orL outFs
 by_cases c : join = 4 ∨ join = 5
 ·rw [if_pos c, show decide (join = 4 ∨ join = 5) = true by simpa using c, orB_sm]; simp
 rw [if_neg c, show decide (join = 4 ∨ join = 5) = false by simpa using c, orB_ns]; simp
theorem rIx_le (k2 : List Int) (m : Nat) : (rIx k2 m).length ≤ m := by
 have := List.length_filter_le (fun (i : Nat) => !decide (0 ≤ plc k2 (i : Int))) (List.range m)
 simpa [rIx] using this
theorem outFs_le (d : Nat) (join : Int) (fs1 fs2 : List FT) (k1 k2 : List Int) : (outFs d join fs1 fs2 k1 k2).length ≤ fs1.length + fs2.length := by
 unfold outFs
 have := rIx_le k2 fs2.length
 split <;> simp <;> omega
theorem map_get (l : List FT) : (List.range l.length).map (fun i => l[i]!) = l := by
 apply List.ext_getElem
 ·simp
 intro i h1 h2
 simp only [List.getElem_map, List.getElem_range]
 exact getElem!_pos l i h2
theorem plc_key {n : Nat} {k1 k2 : List Int} {i m : Nat} (hk : k1.length = k2.length) (h2 : keysOk m k2) (h : 0 ≤ plc k1 (i : Int)) : ∃ j : Nat, j < m ∧ (k2[(plc k1 (i : Int)).toNat]?).getD 0 = (j : Int) := by
 have hl := plc_lt k1 (i : Int)
 have hp : (plc k1 (i : Int)).toNat < k2.length := by omega
 obtain ⟨a, b, -⟩ := h2 _ hp
 refine ⟨(k2[(plc k1 (i : Int)).toNat]).toNat, by omega, ?_⟩
 rw [List.getElem?_eq_getElem hp, Option.getD_some]
 omega
theorem fields25 (d : Nat) (T : Nat → Prop) (join : Int) (fs1 fs2 : List FT) (k1 k2 : List Int) (fo no go mo : Option Addr) (n cf nn cn m cg mm cm : Nat) (W : World) (hn : n = fs1.length) (hm : m = fs2.length)
  (hr1 : RowAt T W (d + 1) fo fs1) (hr2 : RowAt T W (d + 1) go fs2) (hle : fs1.length ≤ cf) (hT : ∀ b, T b → b < W.heap.size) (ho1 : ∀ f ∈ fs1, okB d f) (ho2 : ∀ f ∈ fs2, okB d f)
  (hMB : Ans 55 #[.agg #[.slice fo n cf, .slice no nn cn]] true W) (hk : k1.length = k2.length) (hk2 : keysOk m k2) (j1 : ¬ join < 1) (j5 : ¬ 5 < join)
  (i : Nat) (hi : i < (orL join k1 k2 n m).length) :
  Calls Tryz.prog 25 #[.int .i64 join, .agg #[.slice fo n cf, .slice no nn cn], .agg #[.slice go m cg, .slice mo mm cm], .agg #[.int .i64 ((orL join k1 k2 n m)[i]).1, .int .i64 ((orL join k1 k2 n m)[i]).2]] W fun e w' => ∃ v, e = .returned v ∧ Gr W w' ∧ FVx (d + 1) W w' ((outFs d join fs1 fs2 k1 k2)[i]!) v := by
 have hol := orL_len d join fs1 fs2 k1 k2
 rw [← hn, ← hm] at hol
 have hi' : i < (outFs d join fs1 fs2 k1 k2).length := by omega
 rw [getElem!_pos _ i hi']
 by_cases c : join = 4 ∨ join = 5
 ·have e1 : orL join k1 k2 n m = (List.range n).map (orA true k1 k2) := by
   unfold orL
   rw [show decide (join = 4 ∨ join = 5) = true by simpa using c, orB_sm, List.append_nil]
  have hin : i < fs1.length := by rw [e1] at hi; simpa [hn] using hi
  have e2 : (orL join k1 k2 n m)[i] = ((i : Int), -1) := by
   simp only [e1, List.getElem_map, List.getElem_range]
   simp [orA]
  have e3 : (outFs d join fs1 fs2 k1 k2)[i] = fs1[i] := by simp only [outFs, if_pos c]
  rw [e2, e3]
  exact fieldOf25_s d T join fs1 i fo no go mo n cf nn cn m cg mm cm W hn hr1 hle hT hin hMB c (-1)
 have e1 : orL join k1 k2 n m = (List.range n).map (orA false k1 k2) ++ (rIx k2 m).map fun (i : Nat) => ((-1 : Int), (i : Int)) := by
  unfold orL
  rw [show decide (join = 4 ∨ join = 5) = false by simpa using c, orB_ns]
 have e0 : outFs d join fs1 fs2 k1 k2 = (List.range n).map (lF d join fs1 fs2 k1 k2) ++ (rIx k2 m).map (rF d join fs2) := by
  unfold outFs
  rw [if_neg c, hn, hm]
 have hc : ¬ join = 4 ∧ ¬ join = 5 := ⟨fun h => c (.inl h), fun h => c (.inr h)⟩
 by_cases hin : i < n
 ·have hif : i < fs1.length := by omega
  have e3 : (outFs d join fs1 fs2 k1 k2)[i] = lF d join fs1 fs2 k1 k2 i := by
   simp only [e0]
   rw [List.getElem_append_left (by simpa using hin)]
   simp
  have e2 : (orL join k1 k2 n m)[i] = orA false k1 k2 i := by
   simp only [e1]
   rw [List.getElem_append_left (by simpa using hin)]
   simp
  have eb : fs1[i]! = fs1[i] := getElem!_pos fs1 i hif
  have hoi := ho1 _ (List.getElem_mem hif)
  rw [e2, e3]
  by_cases c3 : join = 3
  ·subst c3
   by_cases cp : 0 ≤ plc k1 (i : Int)
   ·obtain ⟨j, hj, ej⟩ := plc_key (n := n) hk hk2 cp
    have hj2 : j < fs2.length := by omega
    have ef : fs2[j]! = fs2[j] := getElem!_pos fs2 j hj2
    have el : lF d 3 fs1 fs2 k1 k2 i = ren (bareF d fs1[i]).name ((bareF d fs1[i]).nul || fs2[j].nul) (bareF d fs1[i]) := by
     unfold lF
     rw [eb, if_pos cp, ej, Int.toNat_natCast, ef]
     simp
    have eo : orA false k1 k2 i = ((i : Int), (j : Int)) := by
     unfold orA
     rw [if_pos ⟨cp, rfl⟩, ej]
    rw [el, eo]
    exact (fieldOf25_f1 d T fs1 i fo no go mo n cf nn cn m cg mm cm W hn hr1 hT hif fs2 j hm hr2 hj2 hoi).mono fun e w' ⟨v, a, b, h⟩ => ⟨v, a, b, h.up⟩
   have el : lF d 3 fs1 fs2 k1 k2 i = ren (bareF d fs1[i]).name ((bareF d fs1[i]).nul || true) (bareF d fs1[i]) := by
    unfold lF
    rw [eb, if_neg cp]
    simp
   have eo : orA false k1 k2 i = ((i : Int), -1) := by
    unfold orA
    rw [if_neg (fun h => cp h.1)]
   rw [el, eo]
   exact (fieldOf25_f0 d T fs1 i fo no go mo n cf nn cn m cg mm cm W hn hr1 hT hif hoi).mono fun e w' ⟨v, a, b, h⟩ => ⟨v, a, b, h.up⟩
  have el : lF d join fs1 fs2 k1 k2 i = bareF d fs1[i] := by
   unfold lF
   rw [eb, show decide (join = 3) = false by simpa using c3, Bool.false_and, Bool.or_false]
   exact ren_self _
  rw [el]
  exact (fieldOf25_l d T join fs1 i fo no go mo n cf nn cn m cg mm cm W hn hr1 hT hif hoi hc c3 _).mono fun e w' ⟨v, a, b, h⟩ => ⟨v, a, b, h.up⟩
 have hlen : i < n + (rIx k2 m).length := by rw [e1] at hi; simpa using hi
 have hx : i - n < (rIx k2 m).length := by omega
 obtain ⟨j, hj⟩ : ∃ j, j = (rIx k2 m)[i - n] := ⟨_, rfl⟩
 have hjm : j < fs2.length := by
  have := List.getElem_mem hx
  rw [← hj] at this
  unfold rIx at this
  have := List.mem_range.1 (List.mem_filter.1 this).1
  omega
 have e3 : (outFs d join fs1 fs2 k1 k2)[i] = rF d join fs2 j := by
  simp only [e0]
  rw [List.getElem_append_right (by simpa using Nat.le_of_not_lt hin)]
  simp [← hj]
 have e2 : (orL join k1 k2 n m)[i] = (-1, (j : Int)) := by
  simp only [e1]
  rw [List.getElem_append_right (by simpa using Nat.le_of_not_lt hin)]
  simp [← hj]
 have eb : fs2[j]! = fs2[j] := getElem!_pos fs2 j hjm
 rw [e2, e3]
 unfold rF
 rw [eb]
 exact (fieldOf25_r d T join fs2 j fo no go mo n cf nn cn m cg mm cm W hm hr2 hT hjm (ho2 _ (List.getElem_mem hjm))).mono fun e w' ⟨v, a, b, h⟩ => ⟨v, a, b, h.up⟩
open Kd (ZsAt ZsAt.gr)
def keyF (fs : List FT) (k : List Int) (i : Nat) : FT := fs[((k[i]?).getD 0).toNat]!
theorem keyF_at {fs : List FT} {k : List Int} (h : keysOk fs.length k) : ∀ i (hi : i < k.length), ∃ j : Nat, ∃ hj : j < fs.length, k[i] = (j : Int) ∧ keyF fs k i = fs[j] := by
 intro i hi
 obtain ⟨a, b, -⟩ := h i hi
 refine ⟨k[i].toNat, by omega, by omega, ?_⟩
 unfold keyF
 rw [List.getElem?_eq_getElem hi, Option.getD_some]
 exact getElem!_pos fs _ (by omega)
theorem keyF_mem {fs : List FT} {k : List Int} (h : keysOk fs.length k) {i : Nat} (hi : i < k.length) : keyF fs k i ∈ fs := by
 obtain ⟨j, hj, -, e⟩ := keyF_at h i hi
 rw [e]; exact List.getElem_mem hj
def keysGood (n m : Nat) (k1 k2 : List Int) : Prop := k1.length = k2.length ∧ k1.length ≠ 0 ∧ k1.length ≤ 8 ∧ keysOk n k1 ∧ keysOk m k2
def AskIs (d : Nat) (join : Int) (fs1 fs2 : List FT) (k1 k2 : List Int) (a : Int) : Prop :=
 ((join < 1 ∨ 5 < join) ∧ a = 1) ∨ ((¬ join < 1 ∧ ¬ 5 < join) ∧ ¬ keysGood fs1.length fs2.length k1 k2 ∧ a = 190) ∨
 ((¬ join < 1 ∧ ¬ 5 < join) ∧ keysGood fs1.length fs2.length k1 k2 ∧ (¬ ∀ i, i < k1.length → alk d (keyF fs1 k1 i) (keyF fs2 k2 i) = true) ∧ a = 6) ∨
 ((¬ join < 1 ∧ ¬ 5 < join) ∧ keysGood fs1.length fs2.length k1 k2 ∧ (∀ i, i < k1.length → alk d (keyF fs1 k1 i) (keyF fs2 k2 i) = true) ∧ a = 0)
theorem ask_ex (d : Nat) (join : Int) (fs1 fs2 : List FT) (k1 k2 : List Int) : ∃ a, AskIs d join fs1 fs2 k1 k2 a := by
 by_cases c : join < 1 ∨ 5 < join
 ·exact ⟨1, .inl ⟨c, rfl⟩⟩
 have c' : ¬ join < 1 ∧ ¬ 5 < join := ⟨fun h => c (.inl h), fun h => c (.inr h)⟩
 by_cases g : keysGood fs1.length fs2.length k1 k2
 ·by_cases q : ∀ i, i < k1.length → alk d (keyF fs1 k1 i) (keyF fs2 k2 i) = true
  ·exact ⟨0, .inr (.inr (.inr ⟨c', g, q, rfl⟩))⟩
  exact ⟨6, .inr (.inr (.inl ⟨c', g, q, rfl⟩))⟩
 exact ⟨190, .inr (.inl ⟨c', g, rfl⟩)⟩
theorem bool_of (p : Prop) : ∃ b : Bool, b = true ↔ p := by
 by_cases h : p
 ·exact ⟨true, by simp [h]⟩
 exact ⟨false, by simp [h]⟩
theorem alkD_alk {d : Nat} {f g : FT} (hf : clean d (bareF d f)) (hg : clean d (bareF d g)) : alkD d f g = alk d f g := by
 unfold alkD alk
 cases d with
 | zero =>
  have e1 := hf.2
  have e2 := hg.2
  rw [e1, e2, al_same 0 [] [] (by simp) (by simp)]
 | succ d => rw [al_same (d + 1) (bareF (d + 1) f).kids (bareF (d + 1) g).kids (fun x hx => clean_up (hf.2 x hx)) (fun x hx => clean_up (hg.2 x hx))]
theorem ask12 (d : Nat) (T : Nat → Prop) (join : Int) (fs1 fs2 : List FT) (k1 k2 : List Int) (po qo fo no go mo : Option Addr) (pc qc n cf nn cn m cg mm cm : Nat) (a : Int) (W : World) (hn : n = fs1.length) (hm : m = fs2.length) (hl1 : k1.length ≤ 1000000000000) (hl2 : k2.length ≤ 1000000000000) (hp1 : k1.length ≤ pc) (hp2 : k2.length ≤ qc) (hz1 : ZsAt W po k1) (hz2 : ZsAt W qo k2)
  (hr1 : RowAt T W (d + 1) fo fs1) (hr2 : RowAt T W (d + 1) go fs2) (hT : ∀ b, T b → b < W.heap.size)
  (ho1 : ∀ f ∈ fs1, okB d f) (ho2 : ∀ f ∈ fs2, okB d f) (h : AskIs d join fs1 fs2 k1 k2 a) :
  Calls Tryz.prog 12 #[.int .i64 join, .agg #[.slice fo n cf, .slice no nn cn], .slice po k1.length pc, .agg #[.slice go m cg, .slice mo mm cm], .slice qo k2.length qc] W fun e w' => e = .returned (.int .i64 a) ∧ Gr W w' := by
 rcases h with ⟨c | c, rfl⟩ | ⟨⟨c1, c5⟩, g, rfl⟩ | ⟨⟨c1, c5⟩, g, q, rfl⟩ | ⟨⟨c1, c5⟩, g, q, rfl⟩
 ·exact wrongKeys12_lo join k1 k2 po qo fo no go mo pc qc n cf nn cn m cg mm cm W _ _ c
 ·exact wrongKeys12_hi join k1 k2 po qo fo no go mo pc qc n cf nn cn m cg mm cm W _ _ c
 ·by_cases e : k1.length = k2.length
  ·obtain ⟨b1, hb1⟩ := bool_of (k1.length ≠ 0 ∧ k1.length ≤ 8 ∧ keysOk n k1)
   obtain ⟨b2, hb2⟩ := bool_of (k2.length ≠ 0 ∧ k2.length ≤ 8 ∧ keysOk m k2)
   cases hv1 : b1 with
   | false => exact wrongKeys12_k1 join k1 k2 po qo fo no go mo pc qc n cf nn cn m cg mm cm W hl1 hl2 hp1 hp2 hz1 hz2 c1 c5 b1 b2 hb1 hb2 e hv1
   | true =>
    cases hv2 : b2 with
    | false => exact wrongKeys12_k2 join k1 k2 po qo fo no go mo pc qc n cf nn cn m cg mm cm W hl1 hl2 hp1 hp2 hz1 hz2 c1 c5 b1 b2 hb1 hb2 e ⟨hv1, hv2⟩
    | true =>
     obtain ⟨x1, x2, x3⟩ := hb1.1 hv1
     obtain ⟨-, -, y3⟩ := hb2.1 hv2
     exact absurd ⟨e, x1, x2, by rw [← hn]; exact x3, by rw [← hm]; exact y3⟩ g
  exact wrongKeys12_len join k1 k2 po qo fo no go mo pc qc n cf nn cn m cg mm cm W _ _ c1 c5 e
 all_goals
  obtain ⟨e, e0, e8, g1, g2⟩ := g
  have hc1 : true = true ↔ k1.length ≠ 0 ∧ k1.length ≤ 8 ∧ keysOk n k1 := ⟨fun _ => ⟨e0, e8, by rw [hn]; exact g1⟩, fun _ => rfl⟩
  have hc2 : true = true ↔ k2.length ≠ 0 ∧ k2.length ≤ 8 ∧ keysOk m k2 := ⟨fun _ => ⟨by omega, by omega, by rw [hm]; exact g2⟩, fun _ => rfl⟩
  refine wrongKeys12_in d T fs1 fs2 (keyF fs1 k1) (keyF fs2 k2) _ join k1 k2 po qo fo no go mo pc qc n cf nn cn m cg mm cm W hl1 hl2 hp1 hp2 hz1 hz2 c1 c5 true true hc1 hc2 e ⟨rfl, rfl⟩ hn hm hr1 hr2 hT (keyF_at g1) (keyF_at g2) ho1 ho2 ?_ ?_
 ·exact fun _ _ _ => rfl
 ·exact fun h => absurd h q
 ·intro i hi hf; rw [q i hi] at hf; cases hf
 exact fun _ => rfl
theorem ask16 (d : Nat) (T : Nat → Prop) (join br er : Int) (fs1 fs2 : List FT) (k1 k2 : List Int) (po qo fo no go mo bo eo : Option Addr) (pc qc n cf nn cn m cg mm cm bn bc en ec : Nat) (a : Int) (W : World) (hn : n = fs1.length) (hm : m = fs2.length) (hl1 : k1.length ≤ 1000000000000) (hl2 : k2.length ≤ 1000000000000) (hp1 : k1.length ≤ pc) (hp2 : k2.length ≤ qc) (hz1 : ZsAt W po k1) (hz2 : ZsAt W qo k2)
  (hr1 : RowAt T W (d + 1) fo fs1) (hr2 : RowAt T W (d + 1) go fs2) (hT : ∀ b, T b → b < W.heap.size)
  (ho1 : ∀ f ∈ fs1, okB d f) (ho2 : ∀ f ∈ fs2, okB d f) (hx1 : ∀ f ∈ fs1, clean d (bareF d f)) (hx2 : ∀ f ∈ fs2, clean d (bareF d f)) (h : AskIs d join fs1 fs2 k1 k2 a) :
  Calls Tryz.prog 16 #[.int .i64 join, .agg #[.slice fo n cf, .slice no nn cn, .int .i64 br, .slice bo bn bc, .slice po k1.length pc], .agg #[.slice go m cg, .slice mo mm cm, .int .i64 er, .slice eo en ec, .slice qo k2.length qc]] W fun e w' => e = .returned (.int .i64 a) ∧ Gr W w' := by
 rcases h with ⟨c | c, rfl⟩ | ⟨⟨c1, c5⟩, g, rfl⟩ | ⟨⟨c1, c5⟩, g, q, rfl⟩ | ⟨⟨c1, c5⟩, g, q, rfl⟩
 ·exact asked16_lo join br er k1 k2 po qo fo no go mo bo eo pc qc n cf nn cn m cg mm cm bn bc en ec W _ _ c
 ·exact asked16_hi join br er k1 k2 po qo fo no go mo bo eo pc qc n cf nn cn m cg mm cm bn bc en ec W _ _ c
 ·by_cases e : k1.length = k2.length
  ·by_cases e0 : k1.length = 0
   ·exact asked16_none join br er k1 k2 po qo fo no go mo bo eo pc qc n cf nn cn m cg mm cm bn bc en ec W _ _ c1 c5 ⟨e, by omega⟩
   by_cases e8 : 8 < k1.length
   ·exact asked16_many join br er k1 k2 po qo fo no go mo bo eo pc qc n cf nn cn m cg mm cm bn bc en ec W _ _ c1 c5 ⟨e, by omega⟩
   obtain ⟨b1, hb1⟩ := bool_of (keysOk n k1)
   obtain ⟨b2, hb2⟩ := bool_of (keysOk m k2)
   cases hv1 : b1 with
   | false => exact asked16_k1 join br er k1 k2 po qo fo no go mo bo eo pc qc n cf nn cn m cg mm cm bn bc en ec W hl1 hl2 hz1 hz2 c1 c5 b1 b2 hb1 hb2 e e0 (by omega) hv1
   | true =>
    cases hv2 : b2 with
    | false => exact asked16_k2 join br er k1 k2 po qo fo no go mo bo eo pc qc n cf nn cn m cg mm cm bn bc en ec W hl1 hl2 hz1 hz2 c1 c5 b1 b2 hb1 hb2 e e0 (by omega) ⟨hv1, hv2⟩
    | true => exact absurd ⟨e, e0, by omega, by rw [← hn]; exact hb1.1 hv1, by rw [← hm]; exact hb2.1 hv2⟩ g
  exact asked16_len join br er k1 k2 po qo fo no go mo bo eo pc qc n cf nn cn m cg mm cm bn bc en ec W _ _ c1 c5 e
 all_goals
  obtain ⟨e, e0, e8, g1, g2⟩ := g
  have hc1 : true = true ↔ keysOk n k1 := ⟨fun _ => by rw [hn]; exact g1, fun _ => rfl⟩
  have hc2 : true = true ↔ keysOk m k2 := ⟨fun _ => by rw [hm]; exact g2, fun _ => rfl⟩
  have hal : ∀ i, i < k1.length → alkD d (keyF fs1 k1 i) (keyF fs2 k2 i) = alk d (keyF fs1 k1 i) (keyF fs2 k2 i) := fun i hi => alkD_alk (hx1 _ (keyF_mem g1 hi)) (hx2 _ (keyF_mem g2 (by omega)))
  refine asked16_in d T fs1 fs2 (keyF fs1 k1) (keyF fs2 k2) _ join br er k1 k2 po qo fo no go mo bo eo pc qc n cf nn cn m cg mm cm bn bc en ec W hl1 hl2 hz1 hz2 c1 c5 true true hc1 hc2 e e0 e8 ⟨rfl, rfl⟩ hn hm hr1 hr2 hT (keyF_at g1) (keyF_at g2) ho1 ho2 ?_ ?_
 ·exact fun _ _ _ => rfl
 ·exact fun h => absurd (fun i hi => by rw [← hal i hi]; exact h i hi) q
 ·intro i hi hf; rw [hal i hi, q i hi] at hf; cases hf
 exact fun _ => rfl
open Kd (NewB ZsAt ZsAt.gr maybe_gen)
structure MIn (T : Nat → Prop) (d : Nat) (fs1 fs2 : List FT) (ns1 ns2 : List (ByteArray × ByteArray)) (k1 k2 : List Int) (fo no go mo po qo : Option Addr) (cf cn cg cm pc qc : Nat) (W : World) : Prop where
 tab : Tab W
 r1 : RowAt T W (d + 1) fo fs1
 r2 : RowAt T W (d + 1) go fs2
 c1 : fs1.length ≤ cf
 c2 : fs2.length ≤ cg
 n1 : NotesAt W no ns1
 n2 : NotesAt W mo ns2
 z1 : ZsAt W po k1
 z2 : ZsAt W qo k2
 l1 : k1.length ≤ 1000000000000
 l2 : k2.length ≤ 1000000000000
 p1 : k1.length ≤ pc
 p2 : k2.length ≤ qc
 hT : ∀ b, T b → b < W.heap.size
 hD : d + 2 ≤ big
variable {T : Nat → Prop} {d : Nat} {fs1 fs2 : List FT} {ns1 ns2 : List (ByteArray × ByteArray)} {k1 k2 : List Int} {fo no go mo po qo : Option Addr} {cf cn cg cm pc qc : Nat} {W : World}
theorem MIn.gr {u : World} (h : MIn T d fs1 fs2 ns1 ns2 k1 k2 fo no go mo po qo cf cn cg cm pc qc W) (g : Gr W u) : MIn T d fs1 fs2 ns1 ns2 k1 k2 fo no go mo po qo cf cn cg cm pc qc u :=
 ⟨h.tab.gr g, h.r1.kept fun b hb => g.block b (h.hT b hb) id, h.r2.kept fun b hb => g.block b (h.hT b hb) id, h.c1, h.c2, h.n1.gr g, h.n2.gr g, h.z1.gr g, h.z2.gr g, h.l1, h.l2, h.p1, h.p2, fun b hb => Nat.lt_of_lt_of_le (h.hT b hb) g.size, h.hD⟩
def EndP (W : World) (D : Nat) (outs : List FT) (E : Int) (e : Ending) (w' : World) : Prop :=
 ∃ (xo : Option Addr) (xN xc : Nat), e = .returned (.tuple #[.agg #[.slice xo xN xc, .slice none 0 0], .int .i64 E]) ∧ Gr W w' ∧ (E = 0 → xN = outs.length ∧ xN ≤ xc ∧ RowAt (fun b => b < w'.heap.size) w' D xo outs) ∧ (¬ E = 0 → xN = 0)
theorem EndP.bad {W w' : World} {D : Nat} {outs : List FT} {E : Int} {e : Ending} (hE : ¬ E = 0) (h : e = .returned (.tuple #[.agg #[.slice none 0 0, .slice none 0 0], .int .i64 E]) ∧ Gr W w') : EndP W D outs E e w' :=
 ⟨none, 0, 0, h.1, h.2, fun e0 => absurd e0 hE, fun _ => rfl⟩
theorem MIn.t1 (h : MIn T d fs1 fs2 ns1 ns2 k1 k2 fo no go mo po qo cf cn cg cm pc qc W) {e1 : Int} {p1 : List Nat} {t1 : Int} (h1 : FaultIs (listsE fs1.length ns1) (nodes (d + 1) fs1 [] false) e1 p1 t1) : Tells W 21 (.agg #[.slice fo fs1.length cf, .slice no ns1.length cn]) e1 p1 t1 :=
 tells21 h.tab h.r1 h.c1 (by have := h.hD; omega) h.hT h.n1 h1
theorem MIn.t2 (h : MIn T d fs1 fs2 ns1 ns2 k1 k2 fo no go mo po qo cf cn cg cm pc qc W) {e2 : Int} {p2 : List Nat} {t2 : Int} (h2 : FaultIs (listsE fs2.length ns2) (nodes (d + 1) fs2 [] false) e2 p2 t2) : Tells W 21 (.agg #[.slice go fs2.length cg, .slice mo ns2.length cm]) e2 p2 t2 :=
 tells21 h.tab h.r2 h.c2 (by have := h.hD; omega) h.hT h.n2 h2
theorem MIn.fine (h : MIn T d fs1 fs2 ns1 ns2 k1 k2 fo no go mo po qo cf cn cg cm pc qc W) {p1 : List Nat} {t1 : Int} {p2 : List Nat} {t2 : Int} (h1 : FaultIs (listsE fs1.length ns1) (nodes (d + 1) fs1 [] false) 0 p1 t1) (h2 : FaultIs (listsE fs2.length ns2) (nodes (d + 1) fs2 [] false) 0 p2 t2) :
  ((∀ f ∈ fs1, okF (d + 1) f) ∧ (∀ f ∈ fs2, okF (d + 1) f)) ∧ fs1.length ≤ 32 ∧ fs2.length ≤ 32 := by
 obtain ⟨a1, b1, -⟩ := own_fine h1
 obtain ⟨a2, b2, -⟩ := own_fine h2
 exact ⟨⟨allR_okF a1 h.r1.deep, allR_okF a2 h.r2.deep⟩, b1, b2⟩
theorem prog_w (h : MIn T d fs1 fs2 ns1 ns2 k1 k2 fo no go mo po qo cf cn cg cm pc qc W) (join : Int) (D : Nat) (outs : List FT) {e1 e2 t1 t2 : Int} {p1 p2 : List Nat} (h1 : FaultIs (listsE fs1.length ns1) (nodes (d + 1) fs1 [] false) e1 p1 t1) (h2 : FaultIs (listsE fs2.length ns2) (nodes (d + 1) fs2 [] false) e2 p2 t2) (c : ¬ e1 = 0 ∨ (e1 = 0 ∧ ¬ e2 = 0)) :
  Calls Tryz.prog 5 #[.int .i64 join, .agg #[.slice fo fs1.length cf, .slice no ns1.length cn], .slice po k1.length pc, .agg #[.slice go fs2.length cg, .slice mo ns2.length cm], .slice qo k2.length qc] W (EndP W D outs 5) := by
 refine Calls.mono (type5_w join po qo fo no go mo k1.length pc k2.length qc fs1.length cf ns1.length cn fs2.length cg ns2.length cm W 5 (by decide) fun u g => ?_) fun e w' h => EndP.bad (by decide) h
 rcases c with c | ⟨c, c2⟩
 ·exact wrongSchemas11_1 fo no go mo _ _ _ _ _ _ _ _ e1 e2 t1 t2 p1 p2 u ((h.gr g).t1 h1) ((h.gr g).t2 h2) c
 exact wrongSchemas11_2 fo no go mo _ _ _ _ _ _ _ _ e1 e2 t1 t2 p1 p2 u ((h.gr g).t1 h1) ((h.gr g).t2 h2) c c2
theorem prog_k (h : MIn T d fs1 fs2 ns1 ns2 k1 k2 fo no go mo po qo cf cn cg cm pc qc W) (join : Int) (D : Nat) (outs : List FT) {t1 t2 : Int} {p1 p2 : List Nat} (h1 : FaultIs (listsE fs1.length ns1) (nodes (d + 1) fs1 [] false) 0 p1 t1) (h2 : FaultIs (listsE fs2.length ns2) (nodes (d + 1) fs2 [] false) 0 p2 t2) {a : Int} (ha : AskIs d join fs1 fs2 k1 k2 a) (hne : ¬ a = 0) :
  Calls Tryz.prog 5 #[.int .i64 join, .agg #[.slice fo fs1.length cf, .slice no ns1.length cn], .slice po k1.length pc, .agg #[.slice go fs2.length cg, .slice mo ns2.length cm], .slice qo k2.length qc] W (EndP W D outs a) := by
 obtain ⟨⟨o1, o2⟩, -, -⟩ := h.fine h1 h2
 refine Calls.mono (type5_k join po qo fo no go mo k1.length pc k2.length qc fs1.length cf ns1.length cn fs2.length cg ns2.length cm W a hne (fun u g => ?_) (fun u g => ?_)) fun e w' h => EndP.bad hne h
 ·exact wrongSchemas11_0 fo no go mo _ _ _ _ _ _ _ _ 0 0 t1 t2 p1 p2 u ((h.gr g).t1 h1) ((h.gr g).t2 h2) rfl rfl
 have q := h.gr g
 exact ask12 d T join fs1 fs2 k1 k2 po qo fo no go mo pc qc _ cf _ cn _ cg _ cm a u rfl rfl q.l1 q.l2 q.p1 q.p2 q.z1 q.z2 q.r1 q.r2 q.hT (fun f hf => okF_okB d f (o1 f hf)) (fun f hf => okF_okB d f (o2 f hf)) ha
theorem prog_ok (h : MIn T d fs1 fs2 ns1 ns2 k1 k2 fo no go mo po qo cf cn cg cm pc qc W) (join : Int) {t1 t2 t3 : Int} {p1 p2 p3 : List Nat} (h1 : FaultIs (listsE fs1.length ns1) (nodes (d + 1) fs1 [] false) 0 p1 t1) (h2 : FaultIs (listsE fs2.length ns2) (nodes (d + 1) fs2 [] false) 0 p2 t2) (ha : AskIs d join fs1 fs2 k1 k2 0)
  {e3 : Int} (h3 : FaultIs (listsE (outFs d join fs1 fs2 k1 k2).length []) (nodes (d + 2) (outFs d join fs1 fs2 k1 k2) [] false) e3 p3 t3) :
  Calls Tryz.prog 5 #[.int .i64 join, .agg #[.slice fo fs1.length cf, .slice no ns1.length cn], .slice po k1.length pc, .agg #[.slice go fs2.length cg, .slice mo ns2.length cm], .slice qo k2.length qc] W (EndP W (d + 2) (outFs d join fs1 fs2 k1 k2) e3) := by
 obtain ⟨⟨o1, o2⟩, n32, m32⟩ := h.fine h1 h2
 have hob1 : ∀ f ∈ fs1, okB d f := fun f hf => okF_okB d f (o1 f hf)
 have hob2 : ∀ f ∈ fs2, okB d f := fun f hf => okF_okB d f (o2 f hf)
 have hg : (¬ join < 1 ∧ ¬ 5 < join) ∧ keysGood fs1.length fs2.length k1 k2 := by
  rcases ha with ⟨-, e⟩ | ⟨-, -, e⟩ | ⟨-, -, -, e⟩ | ⟨a, b, -, -⟩
  ·exact absurd e (by decide)
  ·exact absurd e (by decide)
  ·exact absurd e (by decide)
  exact ⟨a, b⟩
 obtain ⟨⟨j1, j5⟩, ek, -, k8, g1, g2⟩ := hg
 have hol := orL_len d join fs1 fs2 k1 k2
 have hole := outFs_le d join fs1 fs2 k1 k2
 obtain ⟨L, hL⟩ : ∃ L, L = (orL join k1 k2 fs1.length fs2.length).length := ⟨_, rfl⟩
 have hmap : (List.range L).map (fun i => (outFs d join fs1 fs2 k1 k2)[i]!) = outFs d join fs1 fs2 k1 k2 := by rw [hL, hol]; exact map_get _
 refine Calls.mono (type5_ok join po qo fo no go mo k1.length pc k2.length qc fs1.length cf ns1.length cn fs2.length cg ns2.length cm W (orL join k1 k2 fs1.length fs2.length) L (if e3 = 0 then L else 0) (d + 2) e3 (outFs d join fs1 fs2 k1 k2) (fun u g => ?_) (fun u g => ?_) (fun u g => ?_) (fun u vo vc g ho => ?_)) ?_
 ·exact wrongSchemas11_0 fo no go mo _ _ _ _ _ _ _ _ 0 0 t1 t2 p1 p2 u ((h.gr g).t1 h1) ((h.gr g).t2 h2) rfl rfl
 ·have q := h.gr g
  exact ask12 d T join fs1 fs2 k1 k2 po qo fo no go mo pc qc _ cf _ cn _ cg _ cm 0 u rfl rfl q.l1 q.l2 q.p1 q.p2 q.z1 q.z2 q.r1 q.r2 q.hT hob1 hob2 ha
 ·have q := h.gr g
  refine Calls.mono (originsOf14 join k1 k2 po qo fo no go mo pc qc fs1.length cf ns1.length cn fs2.length cg ns2.length cm _ u rfl (by omega) (by omega) ek (by omega) q.z1 q.z2) ?_
  rintro e w' ⟨vo, vc, rfl, g', ho⟩
  refine ⟨vo, vc, ?_, g', ho.at_⟩
  rw [hL]
  simp [orL]
 ·have q := h.gr g
  have hMB := maybe_gen (q.t1 h1)
  have ho' := outcome13 (d + 1) join (orL join k1 k2 fs1.length fs2.length) (fun i => (outFs d join fs1 fs2 k1 k2)[i]!) fo no go mo vo fs1.length cf ns1.length cn fs2.length cg ns2.length cm vc e3 u (by omega) ho
   (fun i hi v gv => fields25 d T join fs1 fs2 k1 k2 fo no go mo fs1.length cf ns1.length cn fs2.length cg ns2.length cm v rfl rfl (q.gr gv).r1 (q.gr gv).r2 q.c1 (q.gr gv).hT hob1 hob2 (hMB.gr gv) ek g2 j1 j5 i hi)
   (fun v xo xc gv hr hx => by
    rw [← hL, hmap] at hr
    have ht := tells21 (S := fun b => b < v.heap.size) (fo := xo) (no := none) (cf := xc) (cn := 0) (fs := outFs d join fs1 fs2 k1 k2) (ns := []) (q.gr gv).tab hr (by omega) h.hD (fun b hb => hb) (notes_none v) h3
    rw [← hol] at ht
    refine Calls.mono (ht v (Keeps.refl _ _)) ?_
    rintro e w' ⟨ao, ac, rfl, g', -⟩
    exact ⟨ao, _, ac, _, rfl, g'⟩)
  rw [← hL, hmap] at ho'
  refine Calls.mono ho' ?_
  rintro e w' ⟨xo, xc, rfl, g', hq⟩
  refine ⟨xo, xc, rfl, g', fun e0 => ?_⟩
  rw [if_pos e0]
  exact hq e0
 rintro e w' ⟨xo, xc, rfl, g', hq⟩
 refine ⟨xo, _, xc, rfl, g', fun e0 => ?_, fun e0 => by rw [if_neg e0]⟩
 obtain ⟨q1, q2⟩ := hq e0
 refine ⟨by rw [if_pos e0, hL, hol], q1, q2.mono fun b hb => hb.2⟩
def two5 (u : World) (b c : Nat) (v0 v1 v2 v3 v4 w0 w1 w2 w3 w4 : Value) : Prop := (u.cell? ⟨b, 0, none⟩ = some v0 ∧ u.cell? ⟨b, 1, none⟩ = some v1 ∧ u.cell? ⟨b, 2, none⟩ = some v2 ∧ u.cell? ⟨b, 3, none⟩ = some v3 ∧ u.cell? ⟨b, 4, none⟩ = some v4) ∧ u.cell? ⟨c, 0, none⟩ = some w0 ∧ u.cell? ⟨c, 1, none⟩ = some w1 ∧ u.cell? ⟨c, 2, none⟩ = some w2 ∧ u.cell? ⟨c, 3, none⟩ = some w3 ∧ u.cell? ⟨c, 4, none⟩ = some w4
theorem two5.kp {W u : World} {S : Nat → Prop} {b c : Nat} {v0 v1 v2 v3 v4 w0 w1 w2 w3 w4 : Value} (h : two5 W b c v0 v1 v2 v3 v4 w0 w1 w2 w3 w4) (k : Keeps W u S) (hb : ¬ S b) (hc : ¬ S c) : two5 u b c v0 v1 v2 v3 v4 w0 w1 w2 w3 w4 := by
 obtain ⟨⟨a0, a1, a2, a3, a4⟩, c0, c1, c2, c3, c4⟩ := h
 exact And.intro ⟨k.cell' a0 hb, k.cell' a1 hb, k.cell' a2 hb, k.cell' a3 hb, k.cell' a4 hb⟩ ⟨k.cell' c0 hc, k.cell' c1 hc, k.cell' c2 hc, k.cell' c3 hc, k.cell' c4 hc⟩
theorem boxes6 (W : World) (v0 v1 v2 v3 v4 w0 w1 w2 w3 w4 : Value) : ∃ A0 A1 A2, W.alloc (.cells #[v0, v1, v2, v3, v4] 31) = A0 ∧ A0.alloc (.cells #[w0, w1, w2, w3, w4] 31) = A1 ∧ A1.alloc (.cells #[.slice none 0 0, .slice none 0 0] 25) = A2 ∧ Gr W A2 ∧ (W.heap.size < A0.heap.size ∧ A0.heap.size < A1.heap.size ∧ A1.heap.size < A2.heap.size) ∧ (∀ u, Gr A2 u → two5 u W.heap.size A0.heap.size v0 v1 v2 v3 v4 w0 w1 w2 w3 w4) ∧ ∀ w, Gr A2 w → w.heap[A1.heap.size]? = some (.cells #[.slice none 0 0, .slice none 0 0] 25) := by
 obtain ⟨A0, hA0, g0, b0⟩ := nw W (.cells #[v0, v1, v2, v3, v4] 31)
 obtain ⟨A1, hA1, g1, b1⟩ := nw A0 (.cells #[w0, w1, w2, w3, w4] 31)
 obtain ⟨A2, hA2, g2, b2⟩ := nw A1 (.cells #[.slice none 0 0, .slice none 0 0] 25)
 refine ⟨A0, A1, A2, hA0, hA1, hA2, (g0.tr g1).tr g2, ⟨by have := lt_of_heap b0; omega, by have := lt_of_heap b1; omega, by have := lt_of_heap b2; omega⟩, fun u g => ?_, fun w k => (k.block _ (lt_of_heap b2) id).trans b2⟩
 obtain ⟨a0, a1, a2, a3, a4⟩ := cell5 ((((g1.tr g2).tr g).block _ (lt_of_heap b0) id).trans b0)
 obtain ⟨c0, c1, c2, c3, c4⟩ := cell5 (((g2.tr g).block _ (lt_of_heap b1) id).trans b1)
 exact And.intro ⟨a0, a1, a2, a3, a4⟩ ⟨c0, c1, c2, c3, c4⟩
theorem type6_w1 (join br er : Int) (po qo fo no go mo bo eo : Option Addr) (pn pc qn qc n cf nn cn m cg mm cm bn bc en ec : Nat) (W : World) (x1 : Int) (hx : ¬ x1 = 0) (h15 : ∀ u, Gr W u → Calls Tryz.prog 15 #[.agg #[.slice fo n cf, .slice no nn cn]] u fun e w' => ∃ xo xn xc tt, e = .returned (.agg #[.int .i64 x1, .slice xo xn xc, .int .i64 tt]) ∧ Gr u w') : Calls Tryz.prog 6 #[.int .i64 join, .agg #[.slice fo n cf, .slice no nn cn, .int .i64 br, .slice bo bn bc, .slice po pn pc], .agg #[.slice go m cg, .slice mo mm cm, .int .i64 er, .slice eo en ec, .slice qo qn qc]] W fun e w' => e = .returned (.tuple #[.agg #[.slice none 0 0, .slice none 0 0], .int .i64 5]) ∧ Gr W w' := by
 obtain ⟨A0, A1, A2, hA0, hA1, hA2, gW, sz, hSS, hX⟩ := boxes6 W (.slice fo n cf) (.slice no nn cn) (.int .i64 br) (.slice bo bn bc) (.slice po pn pc) (.slice go m cg) (.slice mo mm cm) (.int .i64 er) (.slice eo en ec) (.slice qo qn qc)
 obtain ⟨⟨e0, e1, e2, e3, e4⟩, f0, f1, f2, f3, f4⟩ := hSS A2 (Keeps.refl _ _)
 have HG := hidM gW
 have HX := hidM hX
 clear hSS hX
 have HC1 := hidM (h15 A2 gW)
 have hne : (x1 != 0) = true := by simp [hx]
 have hfl := fld52
 clear sz gW h15
 go_enter Tryz.func6, Tryz.ntmps6
 go_wp2_with (go_at_call 15; refine HC1.out.mono ?_; rintro e w1 ⟨xo, xn, xc, tt, rfl, g1⟩; have HG1 := hidM (HG.out.tr g1); clear hA0 hA1 hA2; have hb := HX.out w1 g1; have HU := hidM hb; clear e0 e1 e2 e3 e4 f0 f1 f2 f3 f4; obtain ⟨r0, r1⟩ := cell2 hb; have rz := frzA hb; have r2 := set_id (j := 0) (v := .slice Option.none 0 0) hb rfl; have r3 := set_id (j := 1) (v := .slice Option.none 0 0) hb rfl; clear hb; clear g1)
 (try simp only [Exit.inBlock, Exit.then])
 refine bodyPost_ret (results_cell30t rfl rfl (by with_reducible exact HU.out) (by kernel_rfl)) rfl ?_
 exact ⟨rfl, HG1.out⟩
theorem type6_w2 (join br er : Int) (po qo fo no go mo bo eo : Option Addr) (pn pc qn qc n cf nn cn m cg mm cm bn bc en ec : Nat) (W : World) (x2 : Int) (hx : ¬ x2 = 0) (h15 : ∀ u, Gr W u → Calls Tryz.prog 15 #[.agg #[.slice fo n cf, .slice no nn cn]] u fun e w' => ∃ xo xn xc tt, e = .returned (.agg #[.int .i64 0, .slice xo xn xc, .int .i64 tt]) ∧ Gr u w') (h15b : ∀ u, Gr W u → Calls Tryz.prog 15 #[.agg #[.slice go m cg, .slice mo mm cm]] u fun e w' => ∃ xo xn xc tt, e = .returned (.agg #[.int .i64 x2, .slice xo xn xc, .int .i64 tt]) ∧ Gr u w') : Calls Tryz.prog 6 #[.int .i64 join, .agg #[.slice fo n cf, .slice no nn cn, .int .i64 br, .slice bo bn bc, .slice po pn pc], .agg #[.slice go m cg, .slice mo mm cm, .int .i64 er, .slice eo en ec, .slice qo qn qc]] W fun e w' => e = .returned (.tuple #[.agg #[.slice none 0 0, .slice none 0 0], .int .i64 5]) ∧ Gr W w' := by
 obtain ⟨A0, A1, A2, hA0, hA1, hA2, gW, sz, hSS, hX⟩ := boxes6 W (.slice fo n cf) (.slice no nn cn) (.int .i64 br) (.slice bo bn bc) (.slice po pn pc) (.slice go m cg) (.slice mo mm cm) (.int .i64 er) (.slice eo en ec) (.slice qo qn qc)
 have HSS := hidM hSS
 obtain ⟨⟨e0, e1, e2, e3, e4⟩, f0, f1, f2, f3, f4⟩ := hSS A2 (Keeps.refl _ _)
 have HG := hidM gW
 have HX := hidM hX
 clear hSS hX
 have HC1 := hidM (h15 A2 gW)
 have HC2 : Hid (∀ u, Gr A2 u → Calls Tryz.prog 15 #[.agg #[.slice go m cg, .slice mo mm cm]] u fun e w' => ∃ xo xn xc tt, e = .returned (.agg #[.int .i64 x2, .slice xo xn xc, .int .i64 tt]) ∧ Gr u w') := fun u g => h15b u (gW.tr g)
 have hne : (x2 != 0) = true := by simp [hx]
 have hfl := fld52
 clear sz gW h15 h15b
 go_enter Tryz.func6, Tryz.ntmps6
 go_wp2_with (first
  | (go_at_call 15; have _ := HG1; refine (HC2.out w1 HG1.out).mono ?_; rintro e w2 ⟨xo2, xn2, xc2, tt2, rfl, g2⟩; have g2' := HG1.out.tr g2; have HG2 := hidM (HG.out.tr g2'); have hb := HX.out w2 g2'; have HU := hidM hb; clear e0 e1 e2 e3 e4 f0 f1 f2 f3 f4; obtain ⟨r0, r1⟩ := cell2 hb; have rz := frzA hb; have r2 := set_id (j := 0) (v := .slice Option.none 0 0) hb rfl; have r3 := set_id (j := 1) (v := .slice Option.none 0 0) hb rfl; clear hb; clear g2 g2')
  | (go_at_call 15; refine HC1.out.mono ?_; rintro e w1 ⟨xo, xn, xc, tt, rfl, g1⟩; have HG1 := hidM g1; clear hA0 hA1 hA2; clear e0 e1 e2 e3 e4 f0 f1 f2 f3 f4; obtain ⟨⟨e0, e1, e2, e3, e4⟩, f0, f1, f2, f3, f4⟩ := HSS.out w1 g1; clear g1))
 (try simp only [Exit.inBlock, Exit.then])
 refine bodyPost_ret (results_cell30t rfl rfl (by with_reducible exact HU.out) (by kernel_rfl)) rfl ?_
 exact ⟨rfl, HG2.out⟩
theorem type6_k (join br er : Int) (po qo fo no go mo bo eo : Option Addr) (pn pc qn qc n cf nn cn m cg mm cm bn bc en ec : Nat) (W : World) (a : Int) (hx : ¬ a = 0) (h15 : ∀ u, Gr W u → Calls Tryz.prog 15 #[.agg #[.slice fo n cf, .slice no nn cn]] u fun e w' => ∃ xo xn xc tt, e = .returned (.agg #[.int .i64 0, .slice xo xn xc, .int .i64 tt]) ∧ Gr u w') (h15b : ∀ u, Gr W u → Calls Tryz.prog 15 #[.agg #[.slice go m cg, .slice mo mm cm]] u fun e w' => ∃ xo xn xc tt, e = .returned (.agg #[.int .i64 0, .slice xo xn xc, .int .i64 tt]) ∧ Gr u w') (h16 : ∀ u, Gr W u → Calls Tryz.prog 16 #[.int .i64 join, .agg #[.slice fo n cf, .slice no nn cn, .int .i64 br, .slice bo bn bc, .slice po pn pc], .agg #[.slice go m cg, .slice mo mm cm, .int .i64 er, .slice eo en ec, .slice qo qn qc]] u fun e w' => e = .returned (.int .i64 a) ∧ Gr u w') : Calls Tryz.prog 6 #[.int .i64 join, .agg #[.slice fo n cf, .slice no nn cn, .int .i64 br, .slice bo bn bc, .slice po pn pc], .agg #[.slice go m cg, .slice mo mm cm, .int .i64 er, .slice eo en ec, .slice qo qn qc]] W fun e w' => e = .returned (.tuple #[.agg #[.slice none 0 0, .slice none 0 0], .int .i64 a]) ∧ Gr W w' := by
 obtain ⟨A0, A1, A2, hA0, hA1, hA2, gW, sz, hSS, hX⟩ := boxes6 W (.slice fo n cf) (.slice no nn cn) (.int .i64 br) (.slice bo bn bc) (.slice po pn pc) (.slice go m cg) (.slice mo mm cm) (.int .i64 er) (.slice eo en ec) (.slice qo qn qc)
 have HSS := hidM hSS
 obtain ⟨⟨e0, e1, e2, e3, e4⟩, f0, f1, f2, f3, f4⟩ := hSS A2 (Keeps.refl _ _)
 have HG := hidM gW
 have HX := hidM hX
 clear hSS hX
 have HC1 := hidM (h15 A2 gW)
 have HC2 : Hid (∀ u, Gr A2 u → Calls Tryz.prog 15 #[.agg #[.slice go m cg, .slice mo mm cm]] u fun e w' => ∃ xo xn xc tt, e = .returned (.agg #[.int .i64 0, .slice xo xn xc, .int .i64 tt]) ∧ Gr u w') := fun u g => h15b u (gW.tr g)
 have HC3 : Hid (∀ u, Gr A2 u → Calls Tryz.prog 16 #[.int .i64 join, .agg #[.slice fo n cf, .slice no nn cn, .int .i64 br, .slice bo bn bc, .slice po pn pc], .agg #[.slice go m cg, .slice mo mm cm, .int .i64 er, .slice eo en ec, .slice qo qn qc]] u fun e w' => e = .returned (.int .i64 a) ∧ Gr u w') := fun u g => h16 u (gW.tr g)
 have hne : (a != 0) = true := by simp [hx]
 have hfl := fld52
 clear sz gW h15 h15b h16
 go_enter Tryz.func6, Tryz.ntmps6
 go_wp2_with (first
  | (go_at_call 16; refine (HC3.out w2 HG2.out).mono ?_; rintro e w3 ⟨rfl, g3⟩; have g3' := HG2.out.tr g3; have HG3 := hidM (HG.out.tr g3'); have hb := HX.out w3 g3'; have HU := hidM hb; clear e0 e1 e2 e3 e4 f0 f1 f2 f3 f4; obtain ⟨r0, r1⟩ := cell2 hb; have rz := frzA hb; have r2 := set_id (j := 0) (v := .slice Option.none 0 0) hb rfl; have r3 := set_id (j := 1) (v := .slice Option.none 0 0) hb rfl; clear hb; clear g3 g3')
  | (go_at_call 15; have _ := HG1; refine (HC2.out w1 HG1.out).mono ?_; rintro e w2 ⟨xo2, xn2, xc2, tt2, rfl, g2⟩; have g2' := HG1.out.tr g2; have HG2 := hidM g2'; clear e0 e1 e2 e3 e4 f0 f1 f2 f3 f4; obtain ⟨⟨e0, e1, e2, e3, e4⟩, f0, f1, f2, f3, f4⟩ := HSS.out w2 g2'; clear g2 g2')
  | (go_at_call 15; refine HC1.out.mono ?_; rintro e w1 ⟨xo, xn, xc, tt, rfl, g1⟩; have HG1 := hidM g1; clear hA0 hA1 hA2; clear e0 e1 e2 e3 e4 f0 f1 f2 f3 f4; obtain ⟨⟨e0, e1, e2, e3, e4⟩, f0, f1, f2, f3, f4⟩ := HSS.out w1 g1; clear g1))
 (try simp only [Exit.inBlock, Exit.then])
 refine bodyPost_ret (results_cell30t rfl rfl (by with_reducible exact HU.out) (by kernel_rfl)) rfl ?_
 exact ⟨rfl, HG3.out⟩
open Kd (NewB row7 row7_len row7_one row7_cell row7_own)
theorem srcRow {T : Nat → Prop} {W : World} {d ca : Nat} {ao : Option Addr} {l : List FT} (hr : RowAt T W (d + 1) ao l) :
  ∃ F : Nat → Option Addr × Nat, (∀ i (hi : i < l.length), l[i].kids.length ≤ (F i).2 ∧ RowAt T W d (F i).1 l[i].kids) ∧ Src Tryz.prog 7 22 (.slice ao l.length ca) l.length (row7 l F) W := by
 have hex : ∀ i, i < l.length → ∃ q : Option Addr × Nat, ∃ (hi : i < l.length), (∀ b o, ao = some ⟨b, o, none⟩ → CellsAt W b (o + i * 7) l[i] q.1 q.2) ∧ l[i].kids.length ≤ q.2 ∧ RowAt T W d q.1 l[i].kids := by
  intro i hi
  obtain ⟨b, o, rfl, _, hc⟩ := hr.2 (fun e => by subst e; simp at hi)
  obtain ⟨ao', ca', h1, h2, h3⟩ := hc i hi
  exact ⟨(ao', ca'), hi, fun b' o' e => by cases e; exact h1, h2, h3⟩
 obtain ⟨F, hF⟩ := choose_lt hex
 refine ⟨F, fun i hi => (hF i hi).2.2, .inl ⟨58, Tryz.underlying22⟩, fun _ => rfl, ?_, ?_, row7_len l F, row7_one⟩
 all_goals
  by_cases hne : l = []
  ·subst hne
   cases ao with
   | none => exact run_firstCells_none _ 7 0 0 ca
   | some a => exact run_firstCells_some _ 7 0 a 0 ca [] rfl (fun j u h => by simp at h)
  obtain ⟨b, o, rfl, _, _⟩ := hr.2 hne
  refine run_firstCells_some _ 7 l.length ⟨b, o, none⟩ l.length ca (row7 l F) (row7_len l F) (fun j u hu => ?_)
  have := row7_cell (fun i hi => (hF i hi).2.1 b o rfl) j u hu
  rw [show (⟨b, o, none⟩ : Addr).add j = ⟨b, o + j, none⟩ by simp [Addr.add]]
  simpa using this
theorem own_row {T : Nat → Prop} {W : World} {d vc : Nat} {vo : Option Addr} {l : List FT} {F : Nat → Option Addr × Nat} (ho : W.ownsRow 0 58 7 (.slice vo l.length vc) l.length (row7 l F)) (hk : ∀ i (hi : i < l.length), l[i].kids.length ≤ (F i).2 ∧ RowAt T W d (F i).1 l[i].kids) (hl : l.length ≤ big) :
  l.length ≤ vc ∧ RowAt (fun b => T b ∨ (Value.slice vo l.length vc).ownBlock = some b) W (d + 1) vo l := by
 have ho' := ho
 rcases ho with ⟨h1, ⟨e1, e2⟩ | ⟨g, cap, cur, e1, e2, e3, e4, e5⟩⟩
 ·simp only [Value.slice.injEq] at e1
  refine ⟨by omega, hl, fun hn => absurd (List.eq_nil_of_length_eq_zero e1.2.1) hn⟩
 simp only [Value.slice.injEq] at e1
 obtain ⟨rfl, -, rfl⟩ := e1
 refine ⟨by omega, hl, fun hn => ⟨g, 0, rfl, .inr (by simp [Value.ownBlock]), fun i hi => ⟨(F i).1, (F i).2, by rw [Nat.zero_add]; exact row7_own ho' i hi, (hk i hi).1, (hk i hi).2.mono fun b hb => .inl hb⟩⟩⟩
theorem semi_end {T : Nat → Prop} {W A1 A2 w3 V w5 : World} {d n vc : Nat} {F : Nat → Option Addr × Nat} {vo : Option Addr} {fs : List FT} (hn : n = fs.length) (hlb : fs.length ≤ big) (gW : Gr W A2) (sz : W.heap.size ≤ A1.heap.size ∧ A1.heap.size < A2.heap.size) (bX : A2.heap[A1.heap.size]? = some (.cells #[.slice none 0 0, .slice none 0 0] 25)) (hT : ∀ b, T b → b < W.heap.size)
  (g3 : Gr A2 w3) (hV : w3.alloc (.cells #[.slice none 0 0, .slice none 0 0] 25) = V) (hk : ∀ i (hi : i < fs.length), fs[i].kids.length ≤ (F i).2 ∧ RowAt T V d (F i).1 fs[i].kids) (ho : w5.ownsRow 0 58 7 (.slice vo n vc) n (row7 fs F)) (hg : V.grownBy w5 (Value.slice none 0 0).ownBlock) (hb : (Value.slice vo n vc).ownBlock = (Value.slice none 0 0).ownBlock ∨ ∀ g, (Value.slice vo n vc).ownBlock = some g → V.heap.size ≤ g) :
  w5.heap[w3.heap.size]? = some (.cells #[.slice none 0 0, .slice none 0 0] 25) ∧ (w5.setCell ⟨w3.heap.size, 0, none⟩ (.slice vo n vc)).heap[w3.heap.size]? = some (.cells #[.slice vo n vc, .slice none 0 0] 25) ∧ (w5.setCell ⟨w3.heap.size, 0, none⟩ (.slice vo n vc)).heap[A1.heap.size]? = some (.cells #[.slice none 0 0, .slice none 0 0] 25) ∧
   ∀ X, setAll (w5.setCell ⟨w3.heap.size, 0, none⟩ (.slice vo n vc)) A1.heap.size [(0, .slice vo n vc), (1, .slice none 0 0)] = X → X.heap[A1.heap.size]? = some (.cells #[.slice vo n vc, .slice none 0 0] 25) ∧ Gr W X ∧ n ≤ vc ∧ RowAt (fun b => b < X.heap.size) X (d + 1) vo fs := by
  have gV := gr_al hV
  have bV := al_new hV
  have k5 : Gr V w5 := (Keeps.ofGrown hg).mono fun z _ e => by simp [Value.ownBlock] at e
  have b5 := (k5.block _ (lt_of_heap bV) id).trans bV
  have gX5 := (g3.tr gV).tr k5
  have bA := (gX5.block _ (lt_of_heap bX) id).trans bX
  have kS : Keeps w5 (w5.setCell ⟨w3.heap.size, 0, none⟩ (.slice vo n vc)) (fun z => z = w3.heap.size) := Keeps.setCell (S := fun z => z = w3.heap.size) (p := ⟨w3.heap.size, 0, none⟩) (Keeps.refl w5 _) (fun _ => rfl) _
  have s3 := g3.size
  have sV := lt_of_heap bV
  have s5 := k5.size
  have bA2 := (kS.block A1.heap.size (lt_of_heap bA) (fun e => by have e' : A1.heap.size = w3.heap.size := e; omega)).trans bA
  refine ⟨b5, by rw [heap_setCell_same w5 w3.heap.size 0 _ _ _ b5]; rfl, bA2, fun X hX => ?_⟩
  have kX := setAll_kp A1.heap.size [(0, .slice vo n vc), (1, .slice none 0 0)] (w5.setCell ⟨w3.heap.size, 0, none⟩ (.slice vo n vc))
  rw [hX] at kX
  have sS := kS.size
  have sX := kX.size
  rw [hn] at ho hb
  obtain ⟨q1, q2⟩ := own_row (W := w5) (T := T) (d := d) ho (fun i hi => ⟨(hk i hi).1, (hk i hi).2.kept fun b hb => k5.block b (by have := hT b hb; have := gW.size; omega) id⟩) hlb
  have q3 : ∀ b, (T b ∨ (Value.slice vo fs.length vc).ownBlock = some b) → b < w5.heap.size ∧ b ≠ w3.heap.size ∧ b ≠ A1.heap.size := fun b hb' => by
   have := gW.size
   rcases hb' with h | h
   ·have := hT b h; omega
   have h1 := own_lt ho b h
   rcases hb with e | e
   ·rw [e] at h; simp [Value.ownBlock] at h
   have := e b h; omega
  refine ⟨?_, ?_, by omega, ((q2.kept fun b hb => kS.block b (q3 b hb).1 (q3 b hb).2.1).kept fun b hb => kX.block b (by have := (q3 b hb).1; omega) (q3 b hb).2.2).mono fun b hb => by have := (q3 b hb).1; omega⟩
  ·rw [← hX, setAll_blk A1.heap.size 25 _ _ _ bA2]; simp [setsA]
  exact ((gW.tr gX5).trans kS (fun z hz (e : z = w3.heap.size) => by have := gW.size; omega)).trans kX (fun z hz (e : z = A1.heap.size) => by omega)
theorem type6_s (join br er : Int) (po qo fo no go mo bo eo : Option Addr) (pn pc qn qc n cf nn cn m cg mm cm bn bc en ec : Nat) (W : World) (d : Nat) (T : Nat → Prop) (fs : List FT) (hn : n = fs.length) (hr : RowAt T W (d + 1) fo fs) (hT : ∀ b, T b → b < W.heap.size) (hj : 4 ≤ join) (h15 : ∀ u, Gr W u → Calls Tryz.prog 15 #[.agg #[.slice fo n cf, .slice no nn cn]] u fun e w' => ∃ xo xn xc tt, e = .returned (.agg #[.int .i64 0, .slice xo xn xc, .int .i64 tt]) ∧ Gr u w') (h15b : ∀ u, Gr W u → Calls Tryz.prog 15 #[.agg #[.slice go m cg, .slice mo mm cm]] u fun e w' => ∃ xo xn xc tt, e = .returned (.agg #[.int .i64 0, .slice xo xn xc, .int .i64 tt]) ∧ Gr u w') (h16 : ∀ u, Gr W u → Calls Tryz.prog 16 #[.int .i64 join, .agg #[.slice fo n cf, .slice no nn cn, .int .i64 br, .slice bo bn bc, .slice po pn pc], .agg #[.slice go m cg, .slice mo mm cm, .int .i64 er, .slice eo en ec, .slice qo qn qc]] u fun e w' => e = .returned (.int .i64 0) ∧ Gr u w') :
  Calls Tryz.prog 6 #[.int .i64 join, .agg #[.slice fo n cf, .slice no nn cn, .int .i64 br, .slice bo bn bc, .slice po pn pc], .agg #[.slice go m cg, .slice mo mm cm, .int .i64 er, .slice eo en ec, .slice qo qn qc]] W fun e w' => ∃ xo xc, e = .returned (.tuple #[.agg #[.slice xo n xc, .slice none 0 0], .int .i64 0]) ∧ Gr W w' ∧ n ≤ xc ∧ RowAt (fun b => b < w'.heap.size) w' (d + 1) xo fs := by
 obtain ⟨A0, A1, A2, hA0, hA1, hA2, gW, sz, hSS, hX⟩ := boxes6 W (.slice fo n cf) (.slice no nn cn) (.int .i64 br) (.slice bo bn bc) (.slice po pn pc) (.slice go m cg) (.slice mo mm cm) (.int .i64 er) (.slice eo en ec) (.slice qo qn qc)
 have HSS := hidM hSS
 obtain ⟨⟨e0, e1, e2, e3, e4⟩, f0, f1, f2, f3, f4⟩ := hSS A2 (Keeps.refl _ _)
 have HG := hidM gW
 have HX := hidM hX
 clear hSS hX
 have HC1 := hidM (h15 A2 gW)
 have HC2 : Hid (∀ u, Gr A2 u → Calls Tryz.prog 15 #[.agg #[.slice go m cg, .slice mo mm cm]] u fun e w' => ∃ xo xn xc tt, e = .returned (.agg #[.int .i64 0, .slice xo xn xc, .int .i64 tt]) ∧ Gr u w') := fun u g => h15b u (gW.tr g)
 have HC3 : Hid (∀ u, Gr A2 u → Calls Tryz.prog 16 #[.int .i64 join, .agg #[.slice fo n cf, .slice no nn cn, .int .i64 br, .slice bo bn bc, .slice po pn pc], .agg #[.slice go m cg, .slice mo mm cm, .int .i64 er, .slice eo en ec, .slice qo qn qc]] u fun e w' => e = .returned (.int .i64 0) ∧ Gr u w') := fun u g => h16 u (gW.tr g)
 obtain ⟨F0, hF0, hs0⟩ := srcRow (ca := cf) hr
 have hlb : fs.length ≤ 1000000000000 := hr.1
 have HRW : Hid (∀ u, Gr W u → ∃ F : Nat → Option Addr × Nat, (∀ i (hi : i < fs.length), fs[i].kids.length ≤ (F i).2 ∧ RowAt T u d (F i).1 fs[i].kids) ∧ Src Tryz.prog 7 22 (.slice fo n cf) n (row7 fs F) u) := fun u g => by
  rw [hn]; exact srcRow (hr.kept fun b hb => g.block b (hT b hb) id)
 have HB2 := hidM (HX.out A2 (Keeps.refl _ _))
 have HSZ : Hid (W.heap.size ≤ A1.heap.size ∧ A1.heap.size < A2.heap.size) := ⟨by omega, by omega⟩
 have HTT := hidM hT
 have HLb : Hid (fs.length ≤ big) := hlb
 have HN := hidM hn
 have hfl := fld52
 have H63 : Hid (0 + n ≤ 9223372036854775807) := by show _ ≤ _; omega
 have H80 : Hid ((0 + n) * 80 ≤ 140737488355328) := by show _ ≤ _; omega
 have hj4 : ¬ join < 4 := by omega
 clear sz gW h15 h15b h16 hF0 hs0 hr hT hlb hn
 go_enter Tryz.func6, Tryz.ntmps6
 go_wp2_with (first
  | (with_reducible show wpList Tryz.prog _ _ (Oper.mk (some 45) _ _ _ _ _ :: _) _ _; refine wpList_append_anyN (P := Tryz.prog) V rfl (.tmp 41) (.tmp 44) 22 22 rfl 58 Kd.z37 7 80 Tryz.underlying22 Kd.info37 Kd.c37 (.slice none 0 0) 0 [] rfl (World.ownsRow_nil V 0 58 7) (.slice fo n cf) n (row7 fs F) rfl HSs.out H63.out H80.out ?_; intro v' w5 hown hgrow hblk; rw [Nat.zero_add, List.nil_append] at hown; obtain ⟨vo, vc, rfl⟩ := own_formN hown; obtain ⟨b5, bU, bA, hE⟩ := semi_end HN.out HLb.out HG.out HSZ.out HB2.out HTT.out HG3.out HV.out HKs.out hown hgrow hblk; clear r0 r1 rz r2 r3 hV e0 e1 e2 e3 e4 f0 f1 f2 f3 f4; obtain ⟨t0, t1⟩ := cell2 b5; have tz := frzA b5; obtain ⟨U1, hU1⟩ := ex (w5.setCell ⟨w3.heap.size, 0, none⟩ (.slice vo n vc)); rw [hU1] at bU bA hE; obtain ⟨u0, u1⟩ := cell2 bU; obtain ⟨a0, a1⟩ := cell2 bA; have az := frzA bA; obtain ⟨X, hX⟩ := ex (setAll U1 A1.heap.size [(0, .slice vo n vc), (1, .slice none 0 0)]); have hh := hE X hX; have HU := hidM hh.1; have HE := hidM hh.2; simp only [setAll] at hX; clear b5 bU bA hE hh hown hgrow hblk)
  | (go_at_call 16; refine (HC3.out w2 HG2.out).mono ?_; rintro e w3 ⟨rfl, g3⟩; have g3' := HG2.out.tr g3; have HG3 := hidM g3'; clear e0 e1 e2 e3 e4 f0 f1 f2 f3 f4; obtain ⟨V, hV⟩ := ex (w3.alloc (.cells #[.slice none 0 0, .slice none 0 0] 25)); have gV : Gr A2 V := g3'.tr (by rw [← hV]; exact gr_alloc w3 _); obtain ⟨⟨e0, e1, e2, e3, e4⟩, f0, f1, f2, f3, f4⟩ := HSS.out V gV; have hb := al_new hV; obtain ⟨r0, r1⟩ := cell2 hb; have rz := frzA hb; have r2 := set_id (j := 0) (v := .slice Option.none 0 0) hb rfl; have r3 := set_id (j := 1) (v := .slice Option.none 0 0) hb rfl; obtain ⟨F, hk, hs⟩ := HRW.out V (HG.out.tr gV); have HKs := hidM hk; have HSs := hidM hs; have HV := hidM hV; clear hb g3 g3' gV hk hs)
  | (go_at_call 15; have _ := HG1; refine (HC2.out w1 HG1.out).mono ?_; rintro e w2 ⟨xo2, xn2, xc2, tt2, rfl, g2⟩; have g2' := HG1.out.tr g2; have HG2 := hidM g2'; clear e0 e1 e2 e3 e4 f0 f1 f2 f3 f4; obtain ⟨⟨e0, e1, e2, e3, e4⟩, f0, f1, f2, f3, f4⟩ := HSS.out w2 g2'; clear g2 g2')
  | (go_at_call 15; refine HC1.out.mono ?_; rintro e w1 ⟨xo, xn, xc, tt, rfl, g1⟩; have HG1 := hidM g1; clear hA0 hA1 hA2; clear e0 e1 e2 e3 e4 f0 f1 f2 f3 f4; obtain ⟨⟨e0, e1, e2, e3, e4⟩, f0, f1, f2, f3, f4⟩ := HSS.out w1 g1; clear g1))
 (try simp only [Exit.inBlock, Exit.then])
 refine bodyPost_ret (results_cell30t rfl rfl (by with_reducible exact HU.out) (by kernel_rfl)) rfl ?_
 exact ⟨_, _, rfl, HE.out⟩
end Go.Proofs.YthhpamhfnpacpaaGreatDoor.Kit
