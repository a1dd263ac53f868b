import Derived.Test.YtfepbpibhcfjdaaDoorQD
import Derived.Test.YtfepbpibhcfjdaaDoorRI
import Derived.Test.YtfepbpibhcfjdaaDoorPB
namespace Go.Proofs.YtfepbpibhcfjdaaDoor.Kit
open Go.RowKit Go.Shelf Go.Deep
set_option linter.unusedVariables false
attribute [local go_sem] Oper.semAt_some run_store_func

/-- the longest way -/
def mostW (pre : List WEl) : Nat := (pre.map fun x => x.path.length).foldl max 0
theorem mostW_snoc (pre : List WEl) (x : WEl) : mostW (pre ++ [x]) = max (mostW pre) x.path.length := by simp [mostW]
/-- the boxes of the law: the schema, the result, how many, how deep -/
structure WB4 (w V : World) (X Nb : Nat) (c : Array Value) (r : Bool) (n d : Nat) : Prop where
  x : V.heap[X]? = some (.cells c 25)
  r : V.heap[X + 1]? = some (.cells #[.bool r] 4)
  n : V.heap[Nb]? = some (.cells #[.int .i64 (n : Int)] 3)
  d : V.heap[Nb + 1]? = some (.cells #[.int .i64 (d : Int)] 3)

/-- a stretch that doesn't panic -/
theorem wp_calm {P : Program} {c : Code} {K : Act → World → Prop} {Q : Exit → Act → World → Prop} {a : Act} {w : World} (h : c.wp P (Exit.then K (fun _ _ _ => False)) a w) : c.wp P (Exit.then K Q) a w := Code.wp_mono (fun e a w h => by cases e <;> first | exact h | exact h.elim) h
/-- the depth of a field's type, whatever the field -/
theorem depth_fld {S : Nat → Prop} {d : Nat} {f : FT} {ao : Option Addr} {ca : Nat} {w : World} (hT : Tab w) (h : Fld S w d f ao ca) (hd : d + 1 ≤ big) (hS : ∀ b, S b → b < w.heap.size) :
    ∃ z : Int, AnsV 17 #[.agg #[.int .i64 f.kind, .int .i64 f.width, .int .i64 f.id, .int .i64 f.index, .slice ao f.kids.length ca]] (.int .i64 z) w ∧ (AllR (nodes (d + 1) [f] [] false) → z = (deepN (nodes d f.kids [] false) : Int)) := by
  obtain ⟨er, p, tt, hF⟩ := fault_is (0, 0) (nodes (d + 1) [holdA f] [] false)
  have h28 := fieldMayBe_gen (f := holdA f) hT ⟨h.row, h.le⟩ hd hS hF
  have h40 := type53_walk h hS h28
  by_cases he : er = 0
  · subst he
    exact ⟨_, depth_true S d f.kids f.kind f.width f.id f.index ao f.kids.length ca w rfl h.row h.le (by omega) hS h40, fun _ => rfl⟩
  · have hb : (er == 0) = false := by simpa using he
    rw [hb] at h40
    refine ⟨0, depth_false _ _ _ _ ao _ ca w h40, fun hA => ?_⟩
    exact absurd (FaultIs.of_ok (E := (0, 0)) rfl (hold_all hA) hF) he
theorem mostW_wm {xs : List WEl} {ls : List LS} (h : WM xs ls) : mostW xs = mostN ls ∧ xs.length = ls.length := by
  unfold WM at h
  have e1 : xs.map (fun x => x.path.length) = ls.map (fun s => s.path.length) := by
    have := congrArg (List.map fun (p : List Nat × FT) => p.1.length) h
    simpa [List.map_map, Function.comp_def] using this
  refine ⟨by rw [mostN_map, ← e1]; rfl, by have := congrArg List.length h; simpa using this⟩
/-- the fields one by one -/
theorem row_open1 {S : Nat → Prop} {w : World} {D : Nat} {fo : Option Addr} {fs : List FT} (h : RowAt S w D fo fs) (hne : fs ≠ []) :
    ∃ d b o, D = d + 1 ∧ fo = some ⟨b, o, none⟩ ∧ ∀ i (h : i < fs.length), ∃ ao' ca', CellsAt w b (o + i * 7) fs[i] ao' ca' ∧ Fld S w d fs[i] ao' ca' := by
  cases D with
  | zero => exact absurd h hne
  | succ d =>
    obtain ⟨b, o, e, _, h⟩ := h.2 hne
    exact ⟨d, b, o, rfl, e, fun i hi => by obtain ⟨a, c, h1, h2, h3⟩ := h i hi; exact ⟨a, c, h1, h3, h2⟩⟩

set_option maxRecDepth 100000 in
set_option maxHeartbeats 4000000 in
theorem ways_any (S : Nat → Prop) (D : Nat) (fo no : Option Addr) (cf cn : Nat) (fs : List FT) (ns : List (ByteArray × ByteArray)) (w : World) (hT : Tab w) (hD : D ≤ big) (hS : ∀ b, S b → b < w.heap.size) (ha : Sch S w D fo no cf cn fs ns) :
    Calls Tryd.prog 5 #[.agg #[.slice fo fs.length cf, .slice no ns.length cn]] w fun e w' => e = .returned (.bool true) ∧ Gr w w' := by
  have HAW := hidM (fun W (g : Gr w W) => awake_any W (hT.gr g))
  obtain ⟨er, p, tt, ta⟩ := ha.tells hT hD hS
  have HWk := hidM (walk_any S D fo no cf ns.length cn fs (er == 0) w (maybe_gen ta.t11) ha.row hS)
  have HTA := hidM ta
  have HA := hidM ha
  have HS := hidM hS
  have HT := hidM hT
  clear ta ha hS hT
  obtain ⟨X, hX⟩ : ∃ X, X = w.heap.size := ⟨_, rfl⟩
  obtain ⟨W0, hW0⟩ : ∃ W0, (w.alloc (.cells #[.slice fo fs.length cf, .slice no ns.length cn] 25)).alloc (.cells #[.bool false] 4) = W0 := ⟨_, rfl⟩
  have x1 : W0.heap[X]? = some (.cells #[.slice fo fs.length cf, .slice no ns.length cn] 25) := by
    rw [← hW0, hX]; exact (Below.heap_alloc _ _ _ (by simp)).trans (World.alloc_heap_new w _)
  have x2 : W0.heap[X + 1]? = some (.cells #[.bool false] 4) := by
    rw [← hW0, hX]
    have := World.alloc_heap_new (w.alloc (.cells #[.slice fo fs.length cf, .slice no ns.length cn] 25)) (.cells #[.bool false] 4)
    rwa [World.size_alloc] at this
  have hg0 : Gr w W0 := by rw [← hW0]; exact (gr_alloc w _).alloc _
  have HX := hidM (And.intro hg0 (And.intro x1 x2))
  have HXe := hidM hX
  clear x1 x2 hg0
  refine (callsIn_wide (n := 10)).1 ?_
  refine callsIn_of_wp_marks Tryd.func5 rfl trivial ?_ rfl
  simp only [Tryd.ntmps5, List.size_toArray, List.length_cons, List.length_nil, Nat.reduceAdd, Nat.reduceSub, Array.replicate_succ, Array.replicate_zero, List.push_toArray, List.append_toArray, List.nil_append, List.cons_append]
  refine wpIn_wide.2 ?_
  go_wp2_with (go_at_call 6; refine Hid.out ?_)
  unfold Hid
  try rw [← hX]
  refine Calls.mono (HAW.out _ HX.out.1) ?_
  rintro e W1 ⟨rfl, hg1⟩
  have y1 := (hg1.block _ (lt_of_heap HX.out.2.1) id).trans HX.out.2.1
  have y2 := (hg1.block _ (lt_of_heap HX.out.2.2) id).trans HX.out.2.2
  have hg2 : Gr W1 ((W1.alloc (.cells #[.int .i64 0] 3)).alloc (.cells #[.int .i64 0] 3)) := (gr_alloc W1 _).alloc _
  have z1 := (hg2.block _ (lt_of_heap y1) id).trans y1
  obtain ⟨p0, p1⟩ := cell2 z1
  have hgw2 : Gr w ((W1.alloc (.cells #[.int .i64 0] 3)).alloc (.cells #[.int .i64 0] 3)) := (HX.out.1.trans hg1 (fun _ _ h => h)).trans hg2 (fun _ _ h => h)
  have HG2 := hidM hgw2
  have HY1 := hidM y1
  clear hg1 y1 hX hg2 z1 hgw2
  go_wp2_with (go_at_call 14; refine Hid.out ?_)
  unfold Hid
  refine Calls.mono (HWk.out _ HG2.out) ?_
  rintro e W3 ⟨K, vo, vc, hq⟩
  obtain rfl := hq.e
  have HQ := hidM hq
  clear hq p0 p1
  have hnil : ∀ w, (binOp .eql 47 (.func (.func 34) #[] #[.pointer (some ⟨K, 0, none⟩)]) .nilFunc).run Tryd.prog w = .ok (.bool false) w := fun w => by kernel_rfl
  obtain ⟨Nb, hNb⟩ : ∃ Nb, Nb = W1.heap.size := ⟨_, rfl⟩
  have n0 : ((W1.alloc (.cells #[.int .i64 0] 3)).alloc (.cells #[.int .i64 0] 3)).heap[Nb]? = some (.cells #[.int .i64 0] 3) := by rw [hNb]; exact (Below.heap_alloc _ _ _ (by simp)).trans (World.alloc_heap_new W1 _)
  have n1 : ((W1.alloc (.cells #[.int .i64 0] 3)).alloc (.cells #[.int .i64 0] 3)).heap[Nb + 1]? = some (.cells #[.int .i64 0] 3) := by
    rw [hNb]
    have := World.alloc_heap_new (W1.alloc (.cells #[.int .i64 0] 3)) (.cells #[.int .i64 0] 3)
    rwa [World.size_alloc] at this
  have hXN : X + 1 < Nb := by rw [hNb]; exact lt_of_heap y2
  have hz2 : ((W1.alloc (.cells #[.int .i64 0] 3)).alloc (.cells #[.int .i64 0] 3)).heap.size = Nb + 2 := by rw [hNb]; simp
  have xx := (((gr_alloc W1 (.cells #[.int .i64 0] 3)).alloc (.cells #[.int .i64 0] 3)).block X (lt_of_heap HY1.out) id).trans HY1.out
  have xr := (((gr_alloc W1 (.cells #[.int .i64 0] 3)).alloc (.cells #[.int .i64 0] 3)).block (X + 1) (lt_of_heap y2) id).trans y2
  have hgw3 : Gr w W3 := HG2.out.trans HQ.out.g (fun _ _ h => h)
  obtain ⟨l', hl'⟩ : ∃ l', l' = if (er == 0) = true then fs else [] := ⟨_, rfl⟩
  rw [← hl'] at HQ
  have hseq := walk1_seq (10 - 1) K (by decide) (NewB ((W1.alloc (.cells #[.int .i64 0] 3)).alloc (.cells #[.int .i64 0] 3)) W3) D vo vc l' W3 (cell1 HQ.out.k) HQ.out.row HQ.out.le hD (fun b hb => hb.2)
  generalize hW2e : ((W1.alloc (.cells #[.int .i64 0] 3)).alloc (.cells #[.int .i64 0] 3)) = W2 at *
  have m0 : W3.heap[Nb]? = _ := (HQ.out.g.block Nb (lt_of_heap n0) id).trans n0
  have m1 : W3.heap[Nb + 1]? = _ := (HQ.out.g.block (Nb + 1) (lt_of_heap n1) id).trans n1
  rw [← hNb]
  have x3 : W3.heap[X]? = _ := (HQ.out.g.block X (lt_of_heap xx) id).trans xx
  have r3 : W3.heap[X + 1]? = _ := (HQ.out.g.block (X + 1) (lt_of_heap xr) id).trans xr
  have hN3 : Nb + 1 < W3.heap.size := lt_of_heap m1
  have HM := hidM (And.intro m0 (And.intro m1 hgw3))
  have HM2 := hidM (And.intro x3 r3)
  have HL' := hidM hl'
  have HZ2 := hidM hz2
  clear n0 n1 m0 m1 hNb hl' hz2 hgw3 xx hW2e xr x3 r3 y2
  go_wp2_with fail
  refine (wpIn_wide (n := 10)).1 ?_
  refine rangeY (by decide) (gf := 34) (lb := #[.pointer (some ⟨K, 0, none⟩)]) rfl (enters_of Tryd.func34 (by kernel_rfl) rfl) hseq (fun _ => rfl) (fun b hb => hb.2)
    (fun O pre x A B h hA hO k => h.kept k (fun b hb => .inl (by omega)))
    (fun O pre V => Keeps W3 V (fun b => b = Nb ∨ b = Nb + 1) ∧ pre.length ≤ 300 ∧ mostW pre ≤ big ∧ V.heap[Nb]? = some (.cells #[.int .i64 (pre.length : Int)] 3) ∧ V.heap[Nb + 1]? = some (.cells #[.int .i64 (mostW pre : Int)] 3))
    (fun O O' pre A B h hA hO k hO' => ⟨h.1.trans k (fun j hj hb => by have := (hO j hb).1; omega), h.2.1, h.2.2.1, (k.block Nb (lt_of_heap h.2.2.2.1) (fun hb => by have := (hO _ hb).1; omega)).trans h.2.2.2.1, (k.block (Nb + 1) (lt_of_heap h.2.2.2.2) (fun hb => by have := (hO _ hb).1; omega)).trans h.2.2.2.2⟩)
    (fun O pre A B h k => ⟨h.1.trans k (fun j hj hb => by omega), h.2.1, h.2.2.1, (k.block Nb (lt_of_heap h.2.2.2.1) (fun hb => by omega)).trans h.2.2.2.1, (k.block (Nb + 1) (lt_of_heap h.2.2.2.2) (fun hb => by omega)).trans h.2.2.2.2⟩)
    (fun O c pre V => ¬ ∃ ls, ls <+: nodes D l' [] false ∧ WM pre ls) (fun _ _ _ _ _ h _ => h)
    (fun V k hs => ⟨k.mono fun _ _ f => f.elim, by simp, by simp [mostW, big], (k.block Nb (lt_of_heap HM.out.1) id).trans HM.out.1, (k.block (Nb + 1) (lt_of_heap HM.out.2.1) id).trans HM.out.2.1⟩)
    (fun x a' V => ∃ Bx, V.heap[Bx]? = some (.cells #[.string x.f.name, .bool x.f.nul, .int .i64 x.f.kind, .int .i64 x.f.width, .int .i64 x.f.id, .int .i64 x.f.index, .slice x.fo x.f.kids.length x.fc] 35) ∧ W3.heap.size + 2 ≤ Bx ∧
      a' = { tmps := #[.agg #[.slice fo fs.length cf, .slice no ns.length cn], .pointer (some ⟨X, 0, none⟩), .pointer (some ⟨X + 1, 0, none⟩), .pointer (some ⟨Nb, 0, none⟩), .pointer (some ⟨Nb + 1, 0, none⟩), .func (.func 34) #[] #[.pointer (some ⟨K, 0, none⟩)], .slice x.wo x.path.length x.wc, .pointer (some ⟨Bx, 0, none⟩), undef, undef, undef, undef, undef, .bool true, .bool false, .agg #[.slice fo fs.length cf, .slice no ns.length cn], .func (.func 34) #[] #[.pointer (some ⟨K, 0, none⟩)], .func (.func 34) #[] #[.pointer (some ⟨K, 0, none⟩)], .bool false, .func (.func 34) #[] #[.pointer (some ⟨K, 0, none⟩)], .slice x.wo x.path.length x.wc, .agg #[.string x.f.name, .bool x.f.nul, .int .i64 x.f.kind, .int .i64 x.f.width, .int .i64 x.f.id, .int .i64 x.f.index, .slice x.fo x.f.kids.length x.fc], undef, undef, undef, undef, undef, undef, undef, undef, undef, undef, undef, undef, undef, undef, undef, undef, undef, undef, undef, undef, undef, undef, undef, undef, undef, undef, undef, undef, undef, undef, undef, undef, undef, undef, undef, undef, undef, undef, undef, undef, undef, undef, undef, undef, undef, undef, undef, undef, undef, undef, undef, undef, undef, undef, undef, undef, undef, undef, undef, undef, undef, undef, undef, undef, undef, undef, undef, undef, undef], defers := [] })
    (fun x a' Y Z h hk => by
      obtain ⟨Bx, h1, h3, h4⟩ := h
      exact ⟨Bx, (hk.block Bx (lt_of_heap h1) (fun e => by omega)).trans h1, h3, h4⟩)
    ?assign ?body ?done ?stop
  case assign =>
    intro l x V K' hz hK
    unfold encW
    gi_wp2
    refine hK _ _ (gr_alloc V _) ⟨V.heap.size, World.alloc_heap_new V _, hz, rfl⟩
  case body =>
    rintro ll O pre x a' V hi hat ⟨Bx, hbx, hBx, rfl⟩ hO hzV
    have gV : Gr w V := HM.out.2.2.trans hi.1 (fun j hj h => by have := HXe.out; omega)
    have hxV := (hi.1.block X (lt_of_heap HM2.out.1) (fun h => by omega)).trans HM2.out.1
    have hrV := (hi.1.block (X + 1) (lt_of_heap HM2.out.2) (fun h => by omega)).trans HM2.out.2
    obtain ⟨P, hP⟩ : ∃ P : List Int, P = x.path.map fun (n : Nat) => (n : Int) := ⟨_, rfl⟩
    have hPl : P.length = x.path.length := by rw [hP]; simp
    have hzs : ZsAt V x.wo P := by rw [hP]; exact zs_of_ints (ints_of_own hat.way)
    have hAt1 := at_gen (pc := x.wc) (D := D) ((maybe_gen HTA.out.t11).gr gV) (HA.out.row.kept fun b hb => gV.block b (HS.out b hb) id) HA.out.le (fun b hb => by have := HS.out b hb; have := gV.size; omega) hzs (by rw [hPl]; have := hat.deep; omega)
    rw [hPl] at hAt1
    obtain ⟨rr, hrr⟩ : ∃ rr, rr = atR er fs P := ⟨_, rfl⟩
    rw [← hrr] at hAt1
    have HA1 := hidM (hAt1 V (Keeps.refl _ _))
    obtain ⟨p0, p1⟩ := cell2 hxV
    have HI := hidM hi
    have HAT := hidM hat
    have HB := hidM hbx
    have HV := hidM (And.intro gV (And.intro hxV hrV))
    have HR := hidM hrr
    have HP := hidM hP
    clear hi hat hbx gV hxV hrV hAt1 hzs hrr hP hseq
    gi_wp2_with fail
    refine ⟨trivial, CallsIn.mono (CallsIn.inRound ll (callsIn_wide.2 HA1.out)) ?_⟩
    obtain ⟨r1, g⟩ := rr
    rintro e v1 ⟨go', gc, rfl, hg1, hgle, hgrow⟩
    simp only at hgle hgrow
    obtain ⟨v2, hv2⟩ : ∃ v2, v1.alloc (.cells #[.string g.name, .bool g.nul, .int .i64 g.kind, .int .i64 g.width, .int .i64 g.id, .int .i64 g.index, .slice go' g.kids.length gc] 35) = v2 := ⟨_, rfl⟩
    have hg12 : Gr v1 v2 := by rw [← hv2]; exact gr_alloc v1 _
    have hg2 : Gr V v2 := hg1.trans hg12 (fun _ _ h => h)
    have hG2 : v2.heap[v1.heap.size]? = some (.cells #[.string g.name, .bool g.nul, .int .i64 g.kind, .int .i64 g.width, .int .i64 g.id, .int .i64 g.index, .slice go' g.kids.length gc] 35) := by rw [← hv2]; exact World.alloc_heap_new v1 _
    have hF2 := (hg2.block Bx (lt_of_heap HB.out) id).trans HB.out
    have hR2 := (hg2.block (X + 1) (lt_of_heap HV.out.2.2) id).trans HV.out.2.2
    obtain ⟨_, d0, d1, d2, d3, d4, d5, d6⟩ := bx7 (w := V) ⟨hg2, hF2⟩
    obtain ⟨_, e0, e1, e2, e3, e4, e5, e6⟩ := bx7 (w := V) ⟨hg2, hG2⟩
    have q0 := cell1 hR2
    have q1 := frz hR2 0
    have hEq := eqField_any (fun b => b < v2.heap.size) (max x.d D) v2 x.f g x.fo go' x.fc gc (((HAT.out.row.mono (T := fun b => b < V.heap.size) fun b hb => hb.2.1).kept fun b hb => hg2.block b hb id).mono (fun b hb => by have := hg2.size; omega) |>.le (Nat.le_max_left _ _)) ((hgrow.kept fun b hb => hg12.block b hb id).mono (fun b hb => by have := hg12.size; omega) |>.le (Nat.le_max_right _ _)) HAT.out.le hgle (fun _ h => h) v2 (Keeps.refl _ _)
    have HEq := hidM hEq
    have HV2 := hidM (And.intro hg2 (And.intro hG2 hF2))
    have hnp : ∀ b : Bool, (r1 ≠ 0 ∨ b = false) → (r1 = 0 → b = sameFd (max x.d D) x.f g) → ¬ ∃ ls, ls <+: nodes D l' [] false ∧ WM (pre ++ [x]) ls := fun b h1 h2 h => by
      obtain ⟨he, hl, ha, -, -⟩ := wm_at HL'.out h
      have hr := HR.out
      rw [HP.out, ha, Prod.mk.injEq] at hr
      have := h2 hr.1
      rw [hr.2, sameFd_refl] at this
      rcases h1 with h1 | h1
      · exact h1 hr.1
      · rw [h1] at this; cases this
    have HNP := hidM hnp
    have HSl : Hid (∀ w, (Instr.slice 39 (.slice x.wo x.path.length x.wc) none (some (.int .i64 (x.path.length : Int))) (some (.int .i64 (x.path.length : Int)))).run Tryd.prog w = .ok (.slice x.wo x.path.length x.path.length) w) := fun w => by
      have hsz : ∀ w, (sizeOf (Tryd.prog.elem 39)).run Tryd.prog w = .ok 1 w := fun w => by kernel_rfl
      have hu : Tryd.prog.underlying 39 = some (.slice (Tryd.prog.elem 39)) := by kernel_rfl
      have hcap : x.path.length ≤ x.wc := (own_pos HAT.out.way).1
      rw [run_slice_hm w 39 _ _ _ hu .i64 .i64 (x.path.length : Int) (x.path.length : Int) (by omega) (by omega) (by omega), hsz]
      simp only [Result.andThen_ok, sliced, Int.toNat_natCast, Nat.sub_zero]
      congr 2
      split
      · rfl
      · cases x.wo with
        | none => rfl
        | some a => simp [Addr.add]
    have hleft : ∀ V', Keeps V V' (fun b => b = X + 1 ∨ b = Nb ∨ b = Nb + 1) → Left (NewB W2 W3) O W3.heap.size V V' := fun V' k => by
      have hz3 := HI.out.1.size
      have hz2 := HZ2.out
      refine ⟨fun b hb => k.block b ?_ ?_, k.size⟩
      · rcases hb with hb | hb | hb | hb
        · have := hb.2; omega
        · exact (hO b hb).2
        · omega
        · omega
      · intro h
        rcases hb with hb | hb | hb | hb
        · have := hb.1; omega
        · have := (hO b hb).1; omega
        · omega
        · omega
    have HLf := hidM hleft
    have HSk : Hid (∀ A B : World, (Hid (Gr V A ∧ V.heap.size ≤ A.heap.size) ∧ A.cell? ⟨X, 0, none⟩ = some (.slice fo fs.length cf) ∧ A.cell? ⟨X, 1, none⟩ = some (.slice no ns.length cn) ∧ A.cell? ⟨Bx, 6, none⟩ = some (.slice x.fo x.f.kids.length x.fc)) → Gr A B → (Hid (Gr V B ∧ V.heap.size ≤ B.heap.size) ∧ B.cell? ⟨X, 0, none⟩ = some (.slice fo fs.length cf) ∧ B.cell? ⟨X, 1, none⟩ = some (.slice no ns.length cn) ∧ B.cell? ⟨Bx, 6, none⟩ = some (.slice x.fo x.f.kids.length x.fc))) := fun A B h k => ⟨⟨h.1.out.1.trans k (fun _ _ h => h), Nat.le_trans h.1.out.2 k.size⟩, k.cell' h.2.1 id, k.cell' h.2.2.1 id, k.cell' h.2.2.2 id⟩
    have hpl0 : 0 < x.path.length := List.length_pos_iff.2 HAT.out.ne
    obtain ⟨wg, hwo⟩ : ∃ wg, x.wo = some ⟨wg, 0, none⟩ := by
      rcases HAT.out.way.2 with ⟨h1, h2⟩ | ⟨g', cap, cur, h1, _⟩
      · omega
      · simp only [Value.slice.injEq] at h1
        exact ⟨g', h1.1⟩
    have HWc : Hid (∀ U, Gr V U → ∀ j u, (ints x.path)[j]? = some u → U.cell? ((⟨wg, 0, none⟩ : Addr).add j) = some u) := fun U gU j u hu => by
      have h := HAT.out.way
      rw [hwo] at h
      exact gU.cell' (h.cells (g := wg) rfl j u hu) id
    have HLe : Hid (x.path.length + 1 ≤ 9223372036854775807 ∧ (x.path.length + 1) * 8 ≤ 140737488355328) := by
      have := HAT.out.deep
      unfold big at this
      exact ⟨by omega, by omega⟩
    obtain ⟨rr2, hrr2⟩ : ∃ rr2, rr2 = atR er fs (P ++ [(x.f.kids.length : Int)]) := ⟨_, rfl⟩
    have HA2 : Hid (∀ U zo zc, Gr V U → U.ownsRow 0 3 1 (.slice zo (x.path.length + 1) zc) (x.path.length + 1) (ints x.path ++ [.int .i64 (x.f.kids.length : Int)]) → Calls Tryd.prog 15 #[.agg #[.slice fo fs.length cf, .slice no ns.length cn], .slice zo (x.path.length + 1) zc] U (AtQ U D rr2)) := fun U zo zc gU hown => by
      have e : ints x.path ++ [.int .i64 (x.f.kids.length : Int)] = ints (x.path ++ [x.f.kids.length]) := by simp [ints]
      have eP : P ++ [(x.f.kids.length : Int)] = (x.path ++ [x.f.kids.length]).map fun (n : Nat) => (n : Int) := by rw [HP.out]; simp
      have el : x.path.length + 1 = (x.path ++ [x.f.kids.length]).length := by simp
      rw [e, el] at hown
      have gwU : Gr w U := HV.out.1.trans gU (fun _ _ h => h)
      have h := at_gen (pc := zc) (D := D) ((maybe_gen HTA.out.t11).gr gwU) (HA.out.row.kept fun b hb => gwU.block b (HS.out b hb) id) HA.out.le (fun b hb => by have := HS.out b hb; have := gwU.size; omega) (zs_of_ints (ints_of_own hown)) (by have := HAT.out.deep; simp; omega) U (Keeps.refl _ _)
      rw [← eP, ← hrr2] at h
      have el2 : (P ++ [(x.f.kids.length : Int)]).length = x.path.length + 1 := by rw [List.length_append, hPl]; rfl
      rw [el2] at h
      exact h
    have HR2 := hidM hrr2
    clear hrr2
    obtain ⟨r2, g2⟩ := rr2
    have HWo := hidM hwo
    clear hwo hpl0
    clear hg1 hg12 hg2 hG2 hF2 hR2 hEq hnp hgrow p0 p1 hleft
    by_cases h1 : r1 = 0
    · subst h1
      gi_wp2_with fail
      refine ⟨trivial, CallsIn.mono (CallsIn.inRound ll (callsIn_wide.2 HEq.out)) ?_⟩
      rintro e v3 ⟨rfl, hg3⟩
      have hV3 : Gr V v3 := HV2.out.1.trans hg3 (fun _ _ h => h)
      have s0 := hg3.cell' q0 id
      have hR3 : v3.heap[X + 1]? = some (.cells #[.bool false] 4) := (hV3.block (X + 1) (lt_of_heap HV.out.2.2) id).trans HV.out.2.2
      have s1 := frz hR3 0
      have hF3 := (hV3.block Bx (lt_of_heap HB.out) id).trans HB.out
      have hX3 := (hV3.block X (lt_of_heap HV.out.2.1) id).trans HV.out.2.1
      obtain ⟨t0, t1⟩ := cell2 hX3
      obtain ⟨_, _, _, _, _, _, _, u6⟩ := bx7 (w := V) ⟨hV3, hF3⟩
      have HV3 := hidM (And.intro hV3 (And.intro hR3 (And.intro hF3 hX3)))
      clear hg3 hV3 hR3 hF3 hX3 d0 d1 d2 d3 d4 d5 d6 e0 e1 e2 e3 e4 e5 e6 q0 q1 hv2
      obtain ⟨q, hq⟩ : ∃ q, q = sameFd (max x.d D) x.f g := ⟨_, rfl⟩
      rw [← hq]
      have HNq := hidM (fun h : q = false => HNP.out q (.inr h) (fun _ => hq))
      clear hq HEq
      cases q
      · have HN0 := hidM (HNq.out rfl)
        clear HNq
        gi_wp2
        refine ⟨HLf.out _ ((HV3.out.1.mono fun _ _ f => f.elim).trans (keep1 (j := 0) (Keeps.refl v3 (fun b => b = X + 1)) (.bool false)) (fun _ _ h => .inl h)), HN0.out⟩
      · gi_wp2_with fail
        have hs43 : ∀ w, (Instr.slice 39 (.slice x.wo x.path.length x.wc) none (some (.int .i64 (x.path.length : Int))) (some (.int .i64 (x.path.length : Int)))).run Tryd.prog w = .ok (.slice x.wo x.path.length x.path.length) w := HSl.out
        have hHeld : Hid (Gr V v3.drew ∧ V.heap.size ≤ v3.drew.heap.size) ∧ v3.drew.cell? ⟨X, 0, none⟩ = some (.slice fo fs.length cf) ∧ v3.drew.cell? ⟨X, 1, none⟩ = some (.slice no ns.length cn) ∧ v3.drew.cell? ⟨Bx, 6, none⟩ = some (.slice x.fo x.f.kids.length x.fc) := ⟨⟨HV3.out.1.trans gr_drew (fun _ _ h => h), HV3.out.1.size⟩, t0, t1, u6⟩
        clear t0 t1 u6 s0 s1
        refine region_round (S := fun w' => Hid (Gr V w' ∧ V.heap.size ≤ w'.heap.size) ∧ w'.cell? ⟨X, 0, none⟩ = some (.slice fo fs.length cf) ∧ w'.cell? ⟨X, 1, none⟩ = some (.slice no ns.length cn) ∧ w'.cell? ⟨Bx, 6, none⟩ = some (.slice x.fo x.f.kids.length x.fc)) (by kernel_rfl) (noDefer_spec (by kernel_rfl)) (fun ⟨_, _, h⟩ => h) ?_
        refine wpAnyH_take (i := 0) (oi := { dst := some 37, op := Op.load 25 (Operand.tmp 1), type := 25, pos := "keep.go:188", after := #[], guard := none }) (v := ?v0u1) rfl (by kernel_rfl) (by kernel_rfl) (by kernel_rfl) (fun _ _ _ h => h) (Or.inl ⟨by rfl, ?y0u1⟩) (by assumption) ?r0u1
        case y0u1 => (intro w hSw; obtain ⟨-, s1, s2, s3⟩ := hSw; go_simp; (try with_reducible rfl))
        (try simp only [Act.put]); (try simp only [List.setIfInBounds_toArray]); (try simp only [List.set_cons_succ]); (try simp only [List.set_cons_zero])
        refine wpAnyH_take (i := 1) (oi := { dst := some 38, op := Op.move (Operand.tmp 6), type := 39, pos := "keep.go:188", after := #[], guard := none }) (v := ?v1u2) rfl (by kernel_rfl) (by kernel_rfl) (by kernel_rfl) (fun _ _ _ h => h) (Or.inl ⟨by rfl, ?y1u2⟩) (by assumption) ?r1u2
        case y1u2 => (intro w hSw; obtain ⟨-, s1, s2, s3⟩ := hSw; go_simp; (try with_reducible rfl))
        (try simp only [Act.put]); (try simp only [List.setIfInBounds_toArray]); (try simp only [List.set_cons_succ]); (try simp only [List.set_cons_zero])
        refine wpAnyH_take (i := 2) (oi := { dst := some 39, op := Op.move (Operand.tmp 6), type := 39, pos := "keep.go:188", after := #[], guard := none }) (v := ?v2u3) rfl (by kernel_rfl) (by kernel_rfl) (by kernel_rfl) (fun _ _ _ h => h) (Or.inl ⟨by rfl, ?y2u3⟩) (by assumption) ?r2u3
        case y2u3 => (intro w hSw; obtain ⟨-, s1, s2, s3⟩ := hSw; go_simp; (try with_reducible rfl))
        (try simp only [Act.put]); (try simp only [List.setIfInBounds_toArray]); (try simp only [List.set_cons_succ]); (try simp only [List.set_cons_zero])
        refine wpAnyH_take (i := 3) (oi := { dst := some 40, op := Op.call { callee := Callee.builtin Builtin.len, args := #[Operand.tmp 39], argTypes := #[39] }, type := 3, pos := "keep.go:188", after := #[{ on := 2, ground := Ground.data }], guard := none }) (v := ?v3u4) rfl (by kernel_rfl) (by kernel_rfl) (by kernel_rfl) (fun _ _ _ h => h) (Or.inl ⟨by rfl, ?y3u4⟩) (by assumption) ?r3u4
        case y3u4 => (intro w hSw; obtain ⟨-, s1, s2, s3⟩ := hSw; go_simp; (try with_reducible rfl))
        (try simp only [Act.put]); (try simp only [List.setIfInBounds_toArray]); (try simp only [List.set_cons_succ]); (try simp only [List.set_cons_zero])
        refine wpAnyH_take (i := 4) (oi := { dst := some 41, op := Op.move (Operand.tmp 6), type := 39, pos := "keep.go:188", after := #[], guard := none }) (v := ?v4u5) rfl (by kernel_rfl) (by kernel_rfl) (by kernel_rfl) (fun _ _ _ h => h) (Or.inl ⟨by rfl, ?y4u5⟩) (by assumption) ?r4u5
        case y4u5 => (intro w hSw; obtain ⟨-, s1, s2, s3⟩ := hSw; go_simp; (try with_reducible rfl))
        (try simp only [Act.put]); (try simp only [List.setIfInBounds_toArray]); (try simp only [List.set_cons_succ]); (try simp only [List.set_cons_zero])
        refine wpAnyH_take (i := 5) (oi := { dst := some 42, op := Op.call { callee := Callee.builtin Builtin.len, args := #[Operand.tmp 41], argTypes := #[39] }, type := 3, pos := "keep.go:188", after := #[{ on := 4, ground := Ground.data }], guard := none }) (v := ?v5u6) rfl (by kernel_rfl) (by kernel_rfl) (by kernel_rfl) (fun _ _ _ h => h) (Or.inl ⟨by rfl, ?y5u6⟩) (by assumption) ?r5u6
        case y5u6 => (intro w hSw; obtain ⟨-, s1, s2, s3⟩ := hSw; go_simp; (try with_reducible rfl))
        (try simp only [Act.put]); (try simp only [List.setIfInBounds_toArray]); (try simp only [List.set_cons_succ]); (try simp only [List.set_cons_zero])
        refine wpAnyH_take (i := 6) (oi := { dst := some 43, op := Op.slice 39 (Operand.tmp 38) none (some (Operand.tmp 40)) (some (Operand.tmp 42)), type := 39, pos := "keep.go:188", after := #[{ on := 1, ground := Ground.data }, { on := 3, ground := Ground.data }, { on := 5, ground := Ground.data }], guard := none }) (v := ?v6u7) rfl (by kernel_rfl) (by kernel_rfl) (by kernel_rfl) (fun _ _ _ h => h) (Or.inl ⟨by rfl, ?y6u7⟩) (by assumption) ?r6u7
        case y6u7 => (intro w hSw; obtain ⟨-, s1, s2, s3⟩ := hSw; go_simp; (try with_reducible rfl))
        (try simp only [Act.put]); (try simp only [List.setIfInBounds_toArray]); (try simp only [List.set_cons_succ]); (try simp only [List.set_cons_zero])
        refine wpAnyH_take (i := 7) (oi := { dst := some 44, op := Op.fieldAddr 35 (Operand.tmp 7) 2, type := 0, pos := "keep.go:188", after := #[], guard := none }) (v := ?v7u8) rfl (by kernel_rfl) (by kernel_rfl) (by kernel_rfl) (fun _ _ _ h => h) (Or.inl ⟨by rfl, ?y7u8⟩) (by assumption) ?r7u8
        case y7u8 => (intro w hSw; obtain ⟨-, s1, s2, s3⟩ := hSw; go_simp; (try with_reducible rfl))
        (try simp only [Act.put]); (try simp only [List.setIfInBounds_toArray]); (try simp only [List.set_cons_succ]); (try simp only [List.set_cons_zero])
        refine wpAnyH_take (i := 8) (oi := { dst := some 45, op := Op.fieldAddr 33 (Operand.tmp 44) 4, type := 0, pos := "keep.go:188", after := #[{ on := 7, ground := Ground.data }], guard := none }) (v := ?v8u9) rfl (by kernel_rfl) (by kernel_rfl) (by kernel_rfl) (fun _ _ _ h => h) (Or.inl ⟨by rfl, ?y8u9⟩) (by assumption) ?r8u9
        case y8u9 => (intro w hSw; obtain ⟨-, s1, s2, s3⟩ := hSw; go_simp; (try with_reducible rfl))
        (try simp only [Act.put]); (try simp only [List.setIfInBounds_toArray]); (try simp only [List.set_cons_succ]); (try simp only [List.set_cons_zero])
        refine wpAnyH_take (i := 9) (oi := { dst := some 46, op := Op.load 22 (Operand.tmp 45), type := 22, pos := "keep.go:188", after := #[{ on := 8, ground := Ground.data }], guard := none }) (v := ?v9u10) rfl (by kernel_rfl) (by kernel_rfl) (by kernel_rfl) (fun _ _ _ h => h) (Or.inl ⟨by rfl, ?y9u10⟩) (by assumption) ?r9u10
        case y9u10 => (intro w hSw; obtain ⟨-, s1, s2, s3⟩ := hSw; go_simp; (try with_reducible rfl))
        (try simp only [Act.put]); (try simp only [List.setIfInBounds_toArray]); (try simp only [List.set_cons_succ]); (try simp only [List.set_cons_zero])
        refine wpAnyH_take (i := 10) (oi := { dst := some 47, op := Op.call { callee := Callee.builtin Builtin.len, args := #[Operand.tmp 46], argTypes := #[22] }, type := 3, pos := "keep.go:188", after := #[{ on := 9, ground := Ground.data }], guard := none }) (v := ?v10u11) rfl (by kernel_rfl) (by kernel_rfl) (by kernel_rfl) (fun _ _ _ h => h) (Or.inl ⟨by rfl, ?y10u11⟩) (by assumption) ?r10u11
        case y10u11 => (intro w hSw; obtain ⟨-, s1, s2, s3⟩ := hSw; go_simp; (try with_reducible rfl))
        (try simp only [Act.put]); (try simp only [List.setIfInBounds_toArray]); (try simp only [List.set_cons_succ]); (try simp only [List.set_cons_zero])
        refine wpAnyH_ready (rs := [11]) (by kernel_rfl) (by simp) ?_
        refine AllReadyH.cons (o := { dst := some 48, op := Op.buildSlice 39 1 #[(0, Operand.tmp 47)], type := 39, pos := "keep.go:188", after := #[{ on := 10, ground := Ground.data }], guard := none }) rfl (fun K hK => ?_) AllReadyH.nil
        go_simp
        refine hK.out _ _ (HSk.out _ _ hHeld (by first | exact gr_allocD2 _ _ | exact gr_alloc _ _)) (fun hHeld => ?_)
        clear hK K
        (try simp only [Act.put]); (try simp only [List.setIfInBounds_toArray]); (try simp only [List.set_cons_succ]); (try simp only [List.set_cons_zero])
        refine wpAnyH_ready (rs := [12]) (by kernel_rfl) (by simp) ?_
        refine AllReadyH.cons (o := { dst := some 49, op := Op.call { callee := Callee.builtin Builtin.append, args := #[Operand.tmp 43, Operand.tmp 48], argTypes := #[39, 39] }, type := 39, pos := "keep.go:188", after := #[{ on := 6, ground := Ground.data }, { on := 11, ground := Ground.data }], guard := none }) rfl (fun K hK => ?_) AllReadyH.nil
        refine step_append_full rfl (.tmp 43) (.tmp 48) rfl ⟨wg, 0, none⟩ x.path.length (ints x.path) (congrArg (fun o => Value.slice o x.path.length x.path.length) HWo.out) (by simp [ints]) (HWc.out _ hHeld.1.out.1) (.slice (some ⟨v3.heap.size, 0, none⟩) 1 1) 1 [.int .i64 (x.f.kids.length : Int)] rfl (src_int v3.drew _ rfl) (by omega) HLe.out.1 HLe.out.2 ?_
        intro v4 w4 hown4 hg4
        obtain ⟨zo, zc, rfl⟩ := own_formN hown4
        replace hown4 := hidM hown4
        replace hg4 := hidM hg4
        refine hK.out _ _ (HSk.out _ _ hHeld hg4.out) (fun hHeld => ?_)
        clear hK K
        (try simp only [Act.put]); (try simp only [List.setIfInBounds_toArray]); (try simp only [List.set_cons_succ]); (try simp only [List.set_cons_zero])
        refine wpAnyH_ready (rs := [13]) (by kernel_rfl) (by simp) ?_
        refine AllReadyH.cons (o := { dst := some 50, op := Op.call { callee := Callee.value (Operand.func 15), args := #[Operand.tmp 37, Operand.tmp 49], argTypes := #[25, 39] }, type := 49, pos := "keep.go:188", after := #[{ on := 0, ground := Ground.data }, { on := 12, ground := Ground.data }, { on := 12, ground := Ground.chain }], guard := none }) rfl (fun K hK => ?_) AllReadyH.nil
        go_simp
        go_at_call 15
        refine Calls.mono (HA2.out _ zo zc hHeld.1.out.1 hown4.out) ?_
        rintro e' v5 ⟨ho5, hc5, rfl, hk5, -, -⟩
        replace hk5 := hidM hk5
        go_wp2_with fail
        refine hK.out _ _ (HSk.out _ _ hHeld hk5.out) (fun hHeld => ?_)
        clear hK K
        (try simp only [Act.put]); (try simp only [List.setIfInBounds_toArray]); (try simp only [List.set_cons_succ]); (try simp only [List.set_cons_zero])
        refine wpAnyH_take (i := 14) (oi := { dst := some 36, op := Op.move (Operand.tmp 50), type := 49, pos := "keep.go:188", after := #[{ on := 13, ground := Ground.data }], guard := none }) (v := ?v14u12) rfl (by kernel_rfl) (by kernel_rfl) (by kernel_rfl) (fun _ _ _ h => h) (Or.inl ⟨by rfl, ?y14u12⟩) (by assumption) ?r14u12
        case y14u12 => (intro w hSw; obtain ⟨-, s1, s2, s3⟩ := hSw; go_simp; (try with_reducible rfl))
        (try simp only [Act.put]); (try simp only [List.setIfInBounds_toArray]); (try simp only [List.set_cons_succ]); (try simp only [List.set_cons_zero])
        refine wpAnyH_take (i := 15) (oi := { dst := some 51, op := Op.extract (Operand.tmp 36) 0, type := 35, pos := "keep.go:188", after := #[{ on := 14, ground := Ground.data }], guard := none }) (v := ?v15u13) rfl (by kernel_rfl) (by kernel_rfl) (by kernel_rfl) (fun _ _ _ h => h) (Or.inl ⟨by rfl, ?y15u13⟩) (by assumption) ?r15u13
        case y15u13 => (intro w hSw; obtain ⟨-, s1, s2, s3⟩ := hSw; go_simp; (try with_reducible rfl))
        (try simp only [Act.put]); (try simp only [List.setIfInBounds_toArray]); (try simp only [List.set_cons_succ]); (try simp only [List.set_cons_zero])
        refine wpAnyH_take (i := 16) (oi := { dst := some 52, op := Op.extract (Operand.tmp 36) 1, type := 27, pos := "keep.go:188", after := #[{ on := 14, ground := Ground.data }], guard := none }) (v := ?v16u14) rfl (by kernel_rfl) (by kernel_rfl) (by kernel_rfl) (fun _ _ _ h => h) (Or.inl ⟨by rfl, ?y16u14⟩) (by assumption) ?r16u14
        case y16u14 => (intro w hSw; obtain ⟨-, s1, s2, s3⟩ := hSw; go_simp; (try with_reducible rfl))
        (try simp only [Act.put]); (try simp only [List.setIfInBounds_toArray]); (try simp only [List.set_cons_succ]); (try simp only [List.set_cons_zero])
        refine wpAnyH_take (i := 17) (oi := { dst := some 9, op := Op.assign (Operand.tmp 52), type := 27, pos := "keep.go:188", after := #[{ on := 16, ground := Ground.data }, { on := 13, ground := Ground.chain }, { on := 0, ground := Ground.phase }, { on := 1, ground := Ground.phase }, { on := 2, ground := Ground.phase }, { on := 3, ground := Ground.phase }, { on := 4, ground := Ground.phase }, { on := 5, ground := Ground.phase }, { on := 6, ground := Ground.phase }, { on := 7, ground := Ground.phase }, { on := 8, ground := Ground.phase }, { on := 9, ground := Ground.phase }, { on := 10, ground := Ground.phase }, { on := 11, ground := Ground.phase }, { on := 12, ground := Ground.phase }, { on := 13, ground := Ground.phase }, { on := 14, ground := Ground.phase }, { on := 15, ground := Ground.phase }, { on := 16, ground := Ground.phase }], guard := none }) (v := ?v17u15) rfl (by kernel_rfl) (by kernel_rfl) (by kernel_rfl) (fun _ _ _ h => h) (Or.inl ⟨by rfl, ?y17u15⟩) (by assumption) ?r17u15
        case y17u15 => (intro w hSw; obtain ⟨-, s1, s2, s3⟩ := hSw; go_simp; (try with_reducible rfl))
        (try simp only [Act.put]); (try simp only [List.setIfInBounds_toArray]); (try simp only [List.set_cons_succ]); (try simp only [List.set_cons_zero])
        refine wpAnyH_done (by kernel_rfl) ?_ _
        have hV5 := hHeld.1.out.1
        have hR5 := (hV5.block (X + 1) (lt_of_heap HV.out.2.2) id).trans HV.out.2.2
        have hN5 := (hV5.block Nb (lt_of_heap HI.out.2.2.2.1) id).trans HI.out.2.2.2.1
        have hD5 := (hV5.block (Nb + 1) (lt_of_heap HI.out.2.2.2.2) id).trans HI.out.2.2.2.2
        have a0 := cell1 hR5
        have a1 := frz hR5 0
        have a2 := cell1 hN5
        have a3 := frz hN5 0
        have a4 := cell1 hD5
        have a5 := frz hD5 0
        have HV5 := hidM (And.intro hV5 (And.intro hN5 hD5))
        have HP5 := hidM (fun h : ∃ ls, ls <+: nodes D l' [] false ∧ WM (pre ++ [x]) ls => wm_at HL'.out h)
        clear hHeld hk5 hg4 hown4 hV5 hR5 hN5 hD5 hs43
        by_cases h2 : r2 = 2
        · subst h2
          have hmx : max (mostW pre : Int) (x.path.length : Int) = ((mostW (pre ++ [x]) : Nat) : Int) := by rw [mostW_snoc]; omega
          have hle : mostW (pre ++ [x]) ≤ big := by rw [mostW_snoc]; have := HI.out.2.2.1; have := HAT.out.deep; omega
          have hpn := HI.out.2.1
          have hwr : IntKind.i64.wrap ((pre.length : Int) + 1) = (pre.length : Int) + 1 := by rw [IntKind.wrap_i64]; omega
          have HE : Hid (Keeps V ((v5.setCell ⟨Nb + 1, 0, none⟩ (.int .i64 (mostW (pre ++ [x]) : Int))).setCell ⟨Nb, 0, none⟩ (.int .i64 ((pre.length : Int) + 1))) (fun b => b = Nb ∨ b = Nb + 1) ∧ ((v5.setCell ⟨Nb + 1, 0, none⟩ (.int .i64 (mostW (pre ++ [x]) : Int))).setCell ⟨Nb, 0, none⟩ (.int .i64 ((pre.length : Int) + 1))).heap[Nb]? = some (.cells #[.int .i64 (((pre ++ [x]).length : Nat) : Int)] 3) ∧ ((v5.setCell ⟨Nb + 1, 0, none⟩ (.int .i64 (mostW (pre ++ [x]) : Int))).setCell ⟨Nb, 0, none⟩ (.int .i64 ((pre.length : Int) + 1))).heap[Nb + 1]? = some (.cells #[.int .i64 (mostW (pre ++ [x]) : Int)] 3)) := by
            obtain ⟨hV5, hN5, hD5⟩ := HV5.out
            have k1 := keep1 (j := 0) (Keeps.refl v5 (fun b => b = Nb + 1)) (.int .i64 (mostW (pre ++ [x]) : Int))
            have hN6 : (v5.setCell ⟨Nb + 1, 0, none⟩ (.int .i64 (mostW (pre ++ [x]) : Int))).heap[Nb]? = _ := (heap_setCell_other v5 _ _ _ (by simp)).trans hN5
            have hD6 := setc (j := 0) hD5 (.int .i64 (mostW (pre ++ [x]) : Int))
            have k2 := keep1 (j := 0) (Keeps.refl (v5.setCell ⟨Nb + 1, 0, none⟩ (.int .i64 (mostW (pre ++ [x]) : Int))) (fun b => b = Nb)) (.int .i64 ((pre.length : Int) + 1))
            refine ⟨((hV5.mono fun _ _ f => f.elim).trans k1 (fun _ _ h => .inr h)).trans k2 (fun _ _ h => .inl h), (setc (j := 0) hN6 (.int .i64 ((pre.length : Int) + 1))).trans (by simp), ?_⟩
            exact (heap_setCell_other _ _ _ _ (by simp)).trans (hD6.trans (by simp))
          by_cases h3 : pre.length + 1 ≤ 300
          · have h3I : ¬ (300 : Int) < (pre.length : Int) + 1 := by omega
            have HF : Hid (Left (NewB W2 W3) O W3.heap.size V ((v5.setCell ⟨Nb + 1, 0, none⟩ (.int .i64 (mostW (pre ++ [x]) : Int))).setCell ⟨Nb, 0, none⟩ (.int .i64 ((pre.length : Int) + 1))) ∧ Keeps W3 ((v5.setCell ⟨Nb + 1, 0, none⟩ (.int .i64 (mostW (pre ++ [x]) : Int))).setCell ⟨Nb, 0, none⟩ (.int .i64 ((pre.length : Int) + 1))) (fun b => b = Nb ∨ b = Nb + 1) ∧ (pre ++ [x]).length ≤ 300 ∧ mostW (pre ++ [x]) ≤ big ∧ ((v5.setCell ⟨Nb + 1, 0, none⟩ (.int .i64 (mostW (pre ++ [x]) : Int))).setCell ⟨Nb, 0, none⟩ (.int .i64 ((pre.length : Int) + 1))).heap[Nb]? = some (.cells #[.int .i64 (((pre ++ [x]).length : Nat) : Int)] 3) ∧ ((v5.setCell ⟨Nb + 1, 0, none⟩ (.int .i64 (mostW (pre ++ [x]) : Int))).setCell ⟨Nb, 0, none⟩ (.int .i64 ((pre.length : Int) + 1))).heap[Nb + 1]? = some (.cells #[.int .i64 (mostW (pre ++ [x]) : Int)] 3)) :=
              ⟨HLf.out _ (HE.out.1.mono fun _ _ h => .inr h), HI.out.1.trans HE.out.1 (fun _ _ h => h), by simp; omega, hle, HE.out.2.1, HE.out.2.2⟩
            clear hle hpn h3
            gi_wp2
            exact HF.out
          · have h3I : (300 : Int) < (pre.length : Int) + 1 := by omega
            have HNo : Hid (¬ ∃ ls, ls <+: nodes D l' [] false ∧ WM (pre ++ [x]) ls) := fun h => by
              obtain ⟨he, hl, -, -, hlt⟩ := HP5.out h
              subst he
              have := HTA.out.is.zero.2.len
              rw [hl] at hlt
              omega
            have HF : Hid (∀ U, Keeps ((v5.setCell ⟨Nb + 1, 0, none⟩ (.int .i64 (mostW (pre ++ [x]) : Int))).setCell ⟨Nb, 0, none⟩ (.int .i64 ((pre.length : Int) + 1))) U (fun b => b = X + 1) → Left (NewB W2 W3) O W3.heap.size V U) := fun U k => HLf.out _ ((HE.out.1.mono fun _ _ h => .inr h).trans k (fun _ _ h => .inl h))
            clear hle hpn h3
            gi_wp2
            exact ⟨HF.out _ (keep1 (j := 0) (Keeps.refl _ (fun b => b = X + 1)) (.bool false)), HNo.out⟩
        · have h2' : (r2 != 2) = true := by simpa using h2
          have HNo : Hid (¬ ∃ ls, ls <+: nodes D l' [] false ∧ WM (pre ++ [x]) ls) := fun h => by
            obtain ⟨-, -, -, hb, -⟩ := HP5.out h
            have hr := HR2.out
            rw [HP.out, hb, Prod.mk.injEq] at hr
            exact h2 hr.1
          gi_wp2
          exact ⟨HLf.out _ ((HV5.out.1.mono fun _ _ f => f.elim).trans (keep1 (j := 0) (Keeps.refl v5 (fun b => b = X + 1)) (.bool false)) (fun _ _ h => .inl h)), HNo.out⟩
    · have h1' : (r1 != 0) = true := by simpa using h1
      have HN1 := hidM (HNP.out true (.inl h1) (fun h => absurd h h1))
      gi_wp2_with fail
      refine ⟨trivial, ?_⟩
      gi_wp2
      exact ⟨HLf.out _ ((HV2.out.1.mono fun _ _ f => f.elim).trans (keep1 (j := 0) (Keeps.refl v2 (fun b => b = X + 1)) (.bool false)) (fun _ _ h => .inl h)), HN1.out⟩
  case done =>
    rintro O xs V hx hi hzV hd
    have gV : Gr w V := HM.out.2.2.trans hi.1 (fun j hj h => by have := HXe.out; omega)
    have hxV := (hi.1.block X (lt_of_heap HM2.out.1) (fun h => by omega)).trans HM2.out.1
    have hrV := (hi.1.block (X + 1) (lt_of_heap HM2.out.2) (fun h => by omega)).trans HM2.out.2
    obtain ⟨p0, p1⟩ := cell2 hxV
    have hfl : fs.length ≤ 1000000000000 := HA.out.row.len
    have HI := hidM hi
    have HV := hidM (And.intro gV (And.intro hxV hrV))
    have HX' := hidM hx
    have HD' := hidM hd
    clear hi gV hxV hrV hx hd hseq
    generalize hL : fs.length = L
    rw [hL] at p0 hfl
    obtain ⟨n, hn⟩ : ∃ n, n = xs.length := ⟨_, rfl⟩
    obtain ⟨md, hmd⟩ : ∃ md, md = mostW xs := ⟨_, rfl⟩
    have HNN := hidM (And.intro hn hmd)
    have HL := hidM hL
    have hcN : V.heap[Nb]? = some (.cells #[.int .i64 (n : Int)] 3) := by rw [hn]; exact HI.out.2.2.2.1
    have hcD : V.heap[Nb + 1]? = some (.cells #[.int .i64 (md : Int)] 3) := by rw [hmd]; exact HI.out.2.2.2.2
    have HSt : Hid (∀ U : World, Gr V U → Hid (Keeps V U (fun b => b = X + 1) ∧ ∃ r, U.heap[X + 1]? = some (.cells #[.bool r] 4)) ∧ U.cell? ⟨Nb, 0, none⟩ = some (.int .i64 (n : Int)) ∧ U.cell? ⟨Nb + 1, 0, none⟩ = some (.int .i64 (md : Int)) ∧ U.cell? ⟨X, 0, none⟩ = some (.slice fo L cf) ∧ U.cell? ⟨X, 1, none⟩ = some (.slice no ns.length cn)) := fun U g => ⟨⟨g.mono fun _ _ f => f.elim, false, (g.block (X + 1) (lt_of_heap HV.out.2.2) id).trans HV.out.2.2⟩, g.cell' (cell1 hcN) id, g.cell' (cell1 hcD) id, by have := g.cell' p0 id; exact this, g.cell' p1 id⟩
    have HSk : Hid (∀ A B : World, (Hid (Keeps V A (fun b => b = X + 1) ∧ ∃ r, A.heap[X + 1]? = some (.cells #[.bool r] 4)) ∧ A.cell? ⟨Nb, 0, none⟩ = some (.int .i64 (n : Int)) ∧ A.cell? ⟨Nb + 1, 0, none⟩ = some (.int .i64 (md : Int)) ∧ A.cell? ⟨X, 0, none⟩ = some (.slice fo L cf) ∧ A.cell? ⟨X, 1, none⟩ = some (.slice no ns.length cn)) → Gr A B → (Hid (Keeps V B (fun b => b = X + 1) ∧ ∃ r, B.heap[X + 1]? = some (.cells #[.bool r] 4)) ∧ B.cell? ⟨Nb, 0, none⟩ = some (.int .i64 (n : Int)) ∧ B.cell? ⟨Nb + 1, 0, none⟩ = some (.int .i64 (md : Int)) ∧ B.cell? ⟨X, 0, none⟩ = some (.slice fo L cf) ∧ B.cell? ⟨X, 1, none⟩ = some (.slice no ns.length cn))) := fun A B h k => ⟨⟨h.1.out.1.trans k (fun _ _ f => f.elim), by obtain ⟨r, hr⟩ := h.1.out.2; exact ⟨r, (k.block (X + 1) (lt_of_heap hr) id).trans hr⟩⟩, k.cell' h.2.1 id, k.cell' h.2.2.1 id, k.cell' h.2.2.2.1 id, k.cell' h.2.2.2.2 id⟩
    have HCt : Hid (∀ U : World, Keeps V U (fun b => b = X + 1) → Calls Tryd.prog 12 #[.agg #[.slice fo L cf, .slice no ns.length cn]] U fun e w' => e = .returned (.int .i64 (n : Int)) ∧ Gr U w') := fun U k => by
      have h := count_gen HTA.out.look U (HV.out.1.trans k (fun j hj h => by have := HXe.out; omega))
      have e : (if er = 0 then ((nodes D fs [] false).length : Int) else 0) = (n : Int) := by
        have hl := HL'.out
        have h2 := (mostW_wm HX'.out).2
        rw [← hn] at h2
        by_cases he : er = 0
        · subst he
          have : l' = fs := by simpa using hl
          rw [if_pos rfl, h2, this]
        · rw [if_neg (by simpa using he)] at hl
          rw [if_neg he, h2, hl]
          cases D with
          | zero => rfl
          | succ D => simp [nodes]
      rw [e, hL] at h
      exact h
    have hzs : W3.heap.size + 2 ≤ V.heap.size := hzV
    have HSe : Hid (∀ U : World, (Hid (Keeps V U (fun b => b = X + 1) ∧ ∃ r, U.heap[X + 1]? = some (.cells #[.bool r] 4)) ∧ U.cell? ⟨Nb, 0, none⟩ = some (.int .i64 (n : Int)) ∧ U.cell? ⟨Nb + 1, 0, none⟩ = some (.int .i64 (md : Int)) ∧ U.cell? ⟨X, 0, none⟩ = some (.slice fo L cf) ∧ U.cell? ⟨X, 1, none⟩ = some (.slice no ns.length cn)) → (Hid (Keeps V (U.setCell ⟨X + 1, 0, none⟩ (.bool true)) (fun b => b = X + 1) ∧ ∃ r, (U.setCell ⟨X + 1, 0, none⟩ (.bool true)).heap[X + 1]? = some (.cells #[.bool r] 4)) ∧ (U.setCell ⟨X + 1, 0, none⟩ (.bool true)).cell? ⟨Nb, 0, none⟩ = some (.int .i64 (n : Int)) ∧ (U.setCell ⟨X + 1, 0, none⟩ (.bool true)).cell? ⟨Nb + 1, 0, none⟩ = some (.int .i64 (md : Int)) ∧ (U.setCell ⟨X + 1, 0, none⟩ (.bool true)).cell? ⟨X, 0, none⟩ = some (.slice fo L cf) ∧ (U.setCell ⟨X + 1, 0, none⟩ (.bool true)).cell? ⟨X, 1, none⟩ = some (.slice no ns.length cn)) ∧ (U.setCell ⟨X + 1, 0, none⟩ (.bool true)).heap[W3.heap.size]? = some (.deferred (some [])) ∧ Gr w ((U.setCell ⟨X + 1, 0, none⟩ (.bool true)).putObj W3.heap.size (.deferred none)) ∧ ((U.setCell ⟨X + 1, 0, none⟩ (.bool true)).putObj W3.heap.size (.deferred none)).cell? ⟨X + 1, 0, none⟩ = some (.bool true)) := fun U h => by
      obtain ⟨h1, h2, h3, h4, h5⟩ := h
      obtain ⟨k, r, hr⟩ := h1.out
      have hx := HXe.out
      have h3w := HM.out.2.2.size
      have hr' : (U.setCell ⟨X + 1, 0, none⟩ (.bool true)).heap[X + 1]? = some (.cells #[.bool true] 4) := (setc (j := 0) hr (.bool true)).trans (by simp)
      have k1 := keep1 (j := 0) (Keeps.refl U (fun b => b = X + 1)) (.bool true)
      have k2 := k.trans k1 (fun _ _ h => h)
      refine ⟨⟨⟨k2, true, hr'⟩, k1.cell' h2 (by simp; omega), k1.cell' h3 (by simp; omega), k1.cell' h4 (by simp), k1.cell' h5 (by simp)⟩, (k2.block _ (lt_of_heap HD'.out) (by omega)).trans HD'.out, ?_, ?_⟩
      · exact (HV.out.1.trans k2 (fun j hj h => by omega)).trans (T := fun k => k = W3.heap.size) (keeps_put _ _ _) (fun j hj h => by omega)
      · refine Eq.trans (World.cell?_of_block (World.putObj_heap_other (by simp; omega))) (cell1 hr')
    clear hcN hcD
    by_cases hn0 : n = 0
    · have hb0 : ((n : Int) == 0) = true := by simp [hn0]
      clear hn0 HNN hn hmd
      go_wp2_with fail
      go_loopw [10, 66] (fun m i wr => m = .int .i64 0 ∧ i = .int .i64 0 ∧ Hid (Gr V wr)) (fun _ _ _ => 0)
      case atStart => exact ⟨rfl, rfl, Keeps.refl _ _⟩
      case round =>
        obtain ⟨rfl, rfl, HG⟩ := hrel
        by_cases hlt : 0 < L
        · have hkl : 0 < fs.length := by rw [HL.out]; exact hlt
          obtain ⟨d, b, o, hDd, rfl, hcs⟩ := row_open1 HA.out.row (fun e => by rw [e] at hkl; simp at hkl)
          obtain ⟨ao', ca', hc, hfl'⟩ := hcs 0 hkl
          obtain ⟨g0, g1, g2, g3, g4, g5, g6⟩ := hc.kept ((HV.out.1.trans HG.out (fun _ _ h => h)).block b (block_lt_of_cell hc.c0) id)
          obtain ⟨z, hz, -⟩ := depth_fld HT.out hfl' (by omega) HS.out
          have HZ := hidM (hz.gr (HV.out.1.trans HG.out (fun _ _ h => h)))
          generalize fs[0].name = f0 at *
          generalize fs[0].nul = f1 at *
          generalize fs[0].kind = f2 at *
          generalize fs[0].width = f3 at *
          generalize fs[0].id = f4 at *
          generalize fs[0].index = f5 at *
          generalize fs[0].kids.length = f6 at *
          have hltI : (0 : Int) < (L : Int) := by omega
          unfold AnsV at HZ
          simp only [Nat.zero_mul, Nat.add_zero] at g0 g1 g2 g3 g4 g5 g6
          clear hc hcs hfl' hz hkl hlt
          go_wp2_with (go_at_call 17; refine Hid.out ?_)
          unfold Hid
          refine Calls.mono (HZ.out _ (gr_alloc _ _)) ?_
          rintro e w2 ⟨rfl, hg2⟩
          have HG0 := HG
          clear HG
          have HG : Hid (Gr V w2) := (HG0.out.alloc _).trans hg2 (fun _ _ h => h)
          have t1 : w2.cell? ⟨Nb, 0, none⟩ = some (.int .i64 (n : Int)) := (HSt.out w2 HG.out).2.1
          clear hg2 HZ HG0 g0 g1 g2 g3 g4 g5 g6
          go_wp2_with fail
          refine wp_calm ?_
          refine wp_region_held_drew (S := fun w' => Hid (Keeps V w' (fun b => b = X + 1) ∧ ∃ r, w'.heap[X + 1]? = some (.cells #[.bool r] 4)) ∧ w'.cell? ⟨Nb, 0, none⟩ = some (.int .i64 (n : Int)) ∧ w'.cell? ⟨Nb + 1, 0, none⟩ = some (.int .i64 (md : Int)) ∧ w'.cell? ⟨X, 0, none⟩ = some (.slice (some ⟨b, o, none⟩) L cf) ∧ w'.cell? ⟨X, 1, none⟩ = some (.slice no ns.length cn)) (by kernel_rfl) (HSt.out w2.drew (HG.out.trans gr_drew (fun _ _ h => h))) (fun hHeld => ?_)
          refine wpAnyH_take (i := 0) (oi := { dst := some 78, op := Op.load 3 (Operand.tmp 3), type := 3, pos := "keep.go:205", after := #[], guard := none }) (v := ?v0w1) rfl (by kernel_rfl) (by kernel_rfl) (by kernel_rfl) (fun _ _ _ h => h) (Or.inl ⟨by rfl, ?y0w1⟩) (by assumption) ?r0w1
          case y0w1 => (intro w hSw; obtain ⟨-, s1, s2, s3, s4⟩ := hSw; go_simp; (try with_reducible rfl))
          (try simp only [Act.put]); (try simp only [List.setIfInBounds_toArray]); (try simp only [List.set_cons_succ]); (try simp only [List.set_cons_zero])
          refine wpAnyH_take (i := 1) (oi := { dst := some 79, op := Op.load 25 (Operand.tmp 1), type := 25, pos := "keep.go:205", after := #[], guard := none }) (v := ?v1w2) rfl (by kernel_rfl) (by kernel_rfl) (by kernel_rfl) (fun _ _ _ h => h) (Or.inl ⟨by rfl, ?y1w2⟩) (by assumption) ?r1w2
          case y1w2 => (intro w hSw; obtain ⟨-, s1, s2, s3, s4⟩ := hSw; go_simp; (try with_reducible rfl))
          (try simp only [Act.put]); (try simp only [List.setIfInBounds_toArray]); (try simp only [List.set_cons_succ]); (try simp only [List.set_cons_zero])
          refine wpAnyH_ready (rs := [2]) (by kernel_rfl) (by simp) ?_
          refine AllReadyH.cons (o := { dst := some 80, op := Op.call { callee := Callee.value (Operand.func 12), args := #[Operand.tmp 79], argTypes := #[25] }, type := 3, pos := "keep.go:205", after := #[{ on := 1, ground := Ground.data }], guard := none }) rfl (fun K hK => ?_) AllReadyH.nil
          go_simp
          go_at_call 12
          refine Calls.mono (HCt.out _ hHeld.1.out.1) ?_
          rintro e' v5 ⟨rfl, hk5⟩
          replace hk5 := hidM hk5
          go_wp2_with fail
          refine hK.out _ _ (HSk.out _ _ hHeld hk5.out) (fun hHeld => ?_)
          clear hK K
          (try simp only [Act.put]); (try simp only [List.setIfInBounds_toArray]); (try simp only [List.set_cons_succ]); (try simp only [List.set_cons_zero])
          refine wpAnyH_take (i := 3) (oi := { dst := some 81, op := Op.binOp BinOp.eql 3 (Operand.tmp 78) (Operand.tmp 80) 3, type := 4, pos := "keep.go:205", after := #[{ on := 0, ground := Ground.data }, { on := 2, ground := Ground.data }], guard := none }) (v := ?v3w3) rfl (by kernel_rfl) (by kernel_rfl) (by kernel_rfl) (fun _ _ _ h => h) (Or.inl ⟨by rfl, ?y3w3⟩) (by assumption) ?r3w3
          case y3w3 => (intro w hSw; obtain ⟨-, s1, s2, s3, s4⟩ := hSw; go_simp; (try with_reducible rfl))
          (try simp only [Act.put]); (try simp only [List.setIfInBounds_toArray]); (try simp only [List.set_cons_succ]); (try simp only [List.set_cons_zero])
          refine wpAnyH_take (i := 4) (oi := { dst := some 82, op := Op.move (Operand.tmp 81), type := 4, pos := "keep.go:205", after := #[{ on := 3, ground := Ground.data }, { on := 2, ground := Ground.chain }], guard := none }) (v := ?v4w4) rfl (by kernel_rfl) (by kernel_rfl) (by kernel_rfl) (fun _ _ _ h => h) (Or.inl ⟨by rfl, ?y4w4⟩) (by assumption) ?r4w4
          case y4w4 => (intro w hSw; obtain ⟨-, s1, s2, s3, s4⟩ := hSw; go_simp; (try with_reducible rfl))
          (try simp only [Act.put]); (try simp only [List.setIfInBounds_toArray]); (try simp only [List.set_cons_succ]); (try simp only [List.set_cons_zero])
          refine wpAnyH_take (i := 5) (oi := { dst := some 83, op := Op.load 3 (Operand.tmp 3), type := 3, pos := "keep.go:205", after := #[{ on := 4, ground := Ground.guard }], guard := some (4, true) }) (v := ?v5w5) rfl (by kernel_rfl) (by kernel_rfl) (by kernel_rfl) (fun _ _ _ h => h) (Or.inl ⟨by rfl, ?y5w5⟩) (by assumption) ?r5w5
          case y5w5 => (intro w hSw; obtain ⟨-, s1, s2, s3, s4⟩ := hSw; go_simp; (try with_reducible rfl))
          (try simp only [Act.put]); (try simp only [List.setIfInBounds_toArray]); (try simp only [List.set_cons_succ]); (try simp only [List.set_cons_zero])
          refine wpAnyH_take (i := 6) (oi := { dst := some 84, op := Op.binOp BinOp.eql 3 (Operand.tmp 83) (Operand.const (Value.int IntKind.i64 0)) 3, type := 4, pos := "keep.go:205", after := #[{ on := 5, ground := Ground.data }, { on := 4, ground := Ground.guard }], guard := some (4, true) }) (v := ?v6w6) rfl (by kernel_rfl) (by kernel_rfl) (by kernel_rfl) (fun _ _ _ h => h) (Or.inl ⟨by rfl, ?y6w6⟩) (by assumption) ?r6w6
          case y6w6 => (intro w hSw; obtain ⟨-, s1, s2, s3, s4⟩ := hSw; go_simp; (try with_reducible rfl))
          (try simp only [Act.put]); (try simp only [List.setIfInBounds_toArray]); (try simp only [List.set_cons_succ]); (try simp only [List.set_cons_zero])
          refine wpAnyH_take (i := 7) (oi := { dst := some 85, op := Op.move (Operand.tmp 84), type := 4, pos := "keep.go:205", after := #[{ on := 6, ground := Ground.data }, { on := 4, ground := Ground.chain }, { on := 4, ground := Ground.guard }], guard := some (4, true) }) (v := ?v7w7) rfl (by kernel_rfl) (by kernel_rfl) (by kernel_rfl) (fun _ _ _ h => h) (Or.inl ⟨by rfl, ?y7w7⟩) (by assumption) ?r7w7
          case y7w7 => (intro w hSw; obtain ⟨-, s1, s2, s3, s4⟩ := hSw; go_simp; (try with_reducible rfl))
          (try simp only [Act.put]); (try simp only [List.setIfInBounds_toArray]); (try simp only [List.set_cons_succ]); (try simp only [List.set_cons_zero])
          refine wpAnyH_take (i := 8) (oi := { dst := some 86, op := Op.load 3 (Operand.tmp 4), type := 3, pos := "keep.go:205", after := #[{ on := 7, ground := Ground.guard }], guard := some (7, false) }) (v := undef) rfl (by kernel_rfl) (by kernel_rfl) (by kernel_rfl) (fun _ _ _ h => h) (Or.inr ⟨by kernel_rfl, rfl⟩) (by assumption) ?r8w8
          (try simp only [Act.put]); (try simp only [List.setIfInBounds_toArray]); (try simp only [List.set_cons_succ]); (try simp only [List.set_cons_zero])
          refine wpAnyH_take (i := 9) (oi := { dst := some 87, op := Op.move (Operand.tmp 10), type := 3, pos := "keep.go:205", after := #[{ on := 7, ground := Ground.guard }], guard := some (7, false) }) (v := undef) rfl (by kernel_rfl) (by kernel_rfl) (by kernel_rfl) (fun _ _ _ h => h) (Or.inr ⟨by kernel_rfl, rfl⟩) (by assumption) ?r9w9
          (try simp only [Act.put]); (try simp only [List.setIfInBounds_toArray]); (try simp only [List.set_cons_succ]); (try simp only [List.set_cons_zero])
          refine wpAnyH_take (i := 10) (oi := { dst := some 88, op := Op.binOp BinOp.eql 3 (Operand.tmp 86) (Operand.tmp 87) 3, type := 4, pos := "keep.go:205", after := #[{ on := 8, ground := Ground.data }, { on := 9, ground := Ground.data }, { on := 7, ground := Ground.guard }], guard := some (7, false) }) (v := undef) rfl (by kernel_rfl) (by kernel_rfl) (by kernel_rfl) (fun _ _ _ h => h) (Or.inr ⟨by kernel_rfl, rfl⟩) (by assumption) ?r10w10
          (try simp only [Act.put]); (try simp only [List.setIfInBounds_toArray]); (try simp only [List.set_cons_succ]); (try simp only [List.set_cons_zero])
          refine wpAnyH_take (i := 11) (oi := { dst := some 89, op := Op.pick (Operand.tmp 85) (Operand.const (Value.bool true)) (Operand.tmp 88), type := 4, pos := "keep.go:205", after := #[{ on := 7, ground := Ground.data }, { on := 10, ground := Ground.data }, { on := 4, ground := Ground.guard }], guard := some (4, true) }) (v := ?v11w11) rfl (by kernel_rfl) (by kernel_rfl) (by kernel_rfl) (fun _ _ _ h => h) (Or.inl ⟨by rfl, ?y11w11⟩) (by assumption) ?r11w11
          case y11w11 => (intro w hSw; obtain ⟨-, s1, s2, s3, s4⟩ := hSw; go_simp; (try with_reducible rfl))
          (try simp only [Act.put]); (try simp only [List.setIfInBounds_toArray]); (try simp only [List.set_cons_succ]); (try simp only [List.set_cons_zero])
          refine wpAnyH_take (i := 12) (oi := { dst := some 90, op := Op.pick (Operand.tmp 82) (Operand.tmp 89) (Operand.const (Value.bool false)), type := 4, pos := "keep.go:205", after := #[{ on := 4, ground := Ground.data }, { on := 11, ground := Ground.data }], guard := none }) (v := ?v12w12) rfl (by kernel_rfl) (by kernel_rfl) (by kernel_rfl) (fun _ _ _ h => h) (Or.inl ⟨by rfl, ?y12w12⟩) (by assumption) ?r12w12
          case y12w12 => (intro w hSw; obtain ⟨-, s1, s2, s3, s4⟩ := hSw; go_simp; (try with_reducible rfl))
          (try simp only [Act.put]); (try simp only [List.setIfInBounds_toArray]); (try simp only [List.set_cons_succ]); (try simp only [List.set_cons_zero])
          refine wpAnyH_ready (rs := [13]) (by kernel_rfl) (by simp) ?_
          refine AllReadyH.cons (o := { dst := none, op := Op.store 4 (Operand.tmp 2) (Operand.tmp 90), type := 0, pos := "keep.go:205", after := #[{ on := 12, ground := Ground.data }, { on := 7, ground := Ground.chain }, { on := 0, ground := Ground.phase }, { on := 1, ground := Ground.phase }, { on := 2, ground := Ground.phase }, { on := 3, ground := Ground.phase }, { on := 4, ground := Ground.phase }, { on := 5, ground := Ground.phase }, { on := 6, ground := Ground.phase }, { on := 7, ground := Ground.phase }, { on := 8, ground := Ground.phase }, { on := 9, ground := Ground.phase }, { on := 10, ground := Ground.phase }, { on := 11, ground := Ground.phase }, { on := 12, ground := Ground.phase }], guard := none }) rfl (fun K hK => ?_) AllReadyH.nil
          obtain ⟨r5, hr5⟩ := hHeld.1.out.2
          have z0 := cell1 hr5
          have z1 := frz hr5 0
          have HF5 := hidM (HSe.out _ hHeld)
          clear hr5
          go_simp
          refine hK.out _ _ HF5.out.1 (fun hHeld => ?_)
          clear hK K
          (try simp only [Act.put]); (try simp only [List.setIfInBounds_toArray]); (try simp only [List.set_cons_succ]); (try simp only [List.set_cons_zero])
          refine wpAnyH_done (by kernel_rfl) ?_ _
          clear hHeld
          obtain ⟨-, hd5, hg5, hr6⟩ := HF5.out
          clear z0 z1 HF5
          go_wp2_with fail
          refine ⟨by simp, .inl ⟨_, _, rfl, run_takeDeferred hd5, ?_⟩⟩
          refine ⟨.bool true, ?_, rfl, hg5⟩
          simp [results, Tryd.f5, go_sem, hr6]
        · have hltI : ¬ (0 : Int) < (L : Int) := by omega
          go_wp2_with fail
          refine wp_calm ?_
          refine wp_region_held_drew (S := fun w' => Hid (Keeps V w' (fun b => b = X + 1) ∧ ∃ r, w'.heap[X + 1]? = some (.cells #[.bool r] 4)) ∧ w'.cell? ⟨Nb, 0, none⟩ = some (.int .i64 (n : Int)) ∧ w'.cell? ⟨Nb + 1, 0, none⟩ = some (.int .i64 (md : Int)) ∧ w'.cell? ⟨X, 0, none⟩ = some (.slice fo L cf) ∧ w'.cell? ⟨X, 1, none⟩ = some (.slice no ns.length cn)) (by kernel_rfl) (HSt.out wr.drew (HG.out.trans gr_drew (fun _ _ h => h))) (fun hHeld => ?_)
          refine wpAnyH_take (i := 0) (oi := { dst := some 78, op := Op.load 3 (Operand.tmp 3), type := 3, pos := "keep.go:205", after := #[], guard := none }) (v := ?v0w13) rfl (by kernel_rfl) (by kernel_rfl) (by kernel_rfl) (fun _ _ _ h => h) (Or.inl ⟨by rfl, ?y0w13⟩) (by assumption) ?r0w13
          case y0w13 => (intro w hSw; obtain ⟨-, s1, s2, s3, s4⟩ := hSw; go_simp; (try with_reducible rfl))
          (try simp only [Act.put]); (try simp only [List.setIfInBounds_toArray]); (try simp only [List.set_cons_succ]); (try simp only [List.set_cons_zero])
          refine wpAnyH_take (i := 1) (oi := { dst := some 79, op := Op.load 25 (Operand.tmp 1), type := 25, pos := "keep.go:205", after := #[], guard := none }) (v := ?v1w14) rfl (by kernel_rfl) (by kernel_rfl) (by kernel_rfl) (fun _ _ _ h => h) (Or.inl ⟨by rfl, ?y1w14⟩) (by assumption) ?r1w14
          case y1w14 => (intro w hSw; obtain ⟨-, s1, s2, s3, s4⟩ := hSw; go_simp; (try with_reducible rfl))
          (try simp only [Act.put]); (try simp only [List.setIfInBounds_toArray]); (try simp only [List.set_cons_succ]); (try simp only [List.set_cons_zero])
          refine wpAnyH_ready (rs := [2]) (by kernel_rfl) (by simp) ?_
          refine AllReadyH.cons (o := { dst := some 80, op := Op.call { callee := Callee.value (Operand.func 12), args := #[Operand.tmp 79], argTypes := #[25] }, type := 3, pos := "keep.go:205", after := #[{ on := 1, ground := Ground.data }], guard := none }) rfl (fun K hK => ?_) AllReadyH.nil
          go_simp
          go_at_call 12
          refine Calls.mono (HCt.out _ hHeld.1.out.1) ?_
          rintro e' v5 ⟨rfl, hk5⟩
          replace hk5 := hidM hk5
          go_wp2_with fail
          refine hK.out _ _ (HSk.out _ _ hHeld hk5.out) (fun hHeld => ?_)
          clear hK K
          (try simp only [Act.put]); (try simp only [List.setIfInBounds_toArray]); (try simp only [List.set_cons_succ]); (try simp only [List.set_cons_zero])
          refine wpAnyH_take (i := 3) (oi := { dst := some 81, op := Op.binOp BinOp.eql 3 (Operand.tmp 78) (Operand.tmp 80) 3, type := 4, pos := "keep.go:205", after := #[{ on := 0, ground := Ground.data }, { on := 2, ground := Ground.data }], guard := none }) (v := ?v3w15) rfl (by kernel_rfl) (by kernel_rfl) (by kernel_rfl) (fun _ _ _ h => h) (Or.inl ⟨by rfl, ?y3w15⟩) (by assumption) ?r3w15
          case y3w15 => (intro w hSw; obtain ⟨-, s1, s2, s3, s4⟩ := hSw; go_simp; (try with_reducible rfl))
          (try simp only [Act.put]); (try simp only [List.setIfInBounds_toArray]); (try simp only [List.set_cons_succ]); (try simp only [List.set_cons_zero])
          refine wpAnyH_take (i := 4) (oi := { dst := some 82, op := Op.move (Operand.tmp 81), type := 4, pos := "keep.go:205", after := #[{ on := 3, ground := Ground.data }, { on := 2, ground := Ground.chain }], guard := none }) (v := ?v4w16) rfl (by kernel_rfl) (by kernel_rfl) (by kernel_rfl) (fun _ _ _ h => h) (Or.inl ⟨by rfl, ?y4w16⟩) (by assumption) ?r4w16
          case y4w16 => (intro w hSw; obtain ⟨-, s1, s2, s3, s4⟩ := hSw; go_simp; (try with_reducible rfl))
          (try simp only [Act.put]); (try simp only [List.setIfInBounds_toArray]); (try simp only [List.set_cons_succ]); (try simp only [List.set_cons_zero])
          refine wpAnyH_take (i := 5) (oi := { dst := some 83, op := Op.load 3 (Operand.tmp 3), type := 3, pos := "keep.go:205", after := #[{ on := 4, ground := Ground.guard }], guard := some (4, true) }) (v := ?v5w17) rfl (by kernel_rfl) (by kernel_rfl) (by kernel_rfl) (fun _ _ _ h => h) (Or.inl ⟨by rfl, ?y5w17⟩) (by assumption) ?r5w17
          case y5w17 => (intro w hSw; obtain ⟨-, s1, s2, s3, s4⟩ := hSw; go_simp; (try with_reducible rfl))
          (try simp only [Act.put]); (try simp only [List.setIfInBounds_toArray]); (try simp only [List.set_cons_succ]); (try simp only [List.set_cons_zero])
          refine wpAnyH_take (i := 6) (oi := { dst := some 84, op := Op.binOp BinOp.eql 3 (Operand.tmp 83) (Operand.const (Value.int IntKind.i64 0)) 3, type := 4, pos := "keep.go:205", after := #[{ on := 5, ground := Ground.data }, { on := 4, ground := Ground.guard }], guard := some (4, true) }) (v := ?v6w18) rfl (by kernel_rfl) (by kernel_rfl) (by kernel_rfl) (fun _ _ _ h => h) (Or.inl ⟨by rfl, ?y6w18⟩) (by assumption) ?r6w18
          case y6w18 => (intro w hSw; obtain ⟨-, s1, s2, s3, s4⟩ := hSw; go_simp; (try with_reducible rfl))
          (try simp only [Act.put]); (try simp only [List.setIfInBounds_toArray]); (try simp only [List.set_cons_succ]); (try simp only [List.set_cons_zero])
          refine wpAnyH_take (i := 7) (oi := { dst := some 85, op := Op.move (Operand.tmp 84), type := 4, pos := "keep.go:205", after := #[{ on := 6, ground := Ground.data }, { on := 4, ground := Ground.chain }, { on := 4, ground := Ground.guard }], guard := some (4, true) }) (v := ?v7w19) rfl (by kernel_rfl) (by kernel_rfl) (by kernel_rfl) (fun _ _ _ h => h) (Or.inl ⟨by rfl, ?y7w19⟩) (by assumption) ?r7w19
          case y7w19 => (intro w hSw; obtain ⟨-, s1, s2, s3, s4⟩ := hSw; go_simp; (try with_reducible rfl))
          (try simp only [Act.put]); (try simp only [List.setIfInBounds_toArray]); (try simp only [List.set_cons_succ]); (try simp only [List.set_cons_zero])
          refine wpAnyH_take (i := 8) (oi := { dst := some 86, op := Op.load 3 (Operand.tmp 4), type := 3, pos := "keep.go:205", after := #[{ on := 7, ground := Ground.guard }], guard := some (7, false) }) (v := undef) rfl (by kernel_rfl) (by kernel_rfl) (by kernel_rfl) (fun _ _ _ h => h) (Or.inr ⟨by kernel_rfl, rfl⟩) (by assumption) ?r8w20
          (try simp only [Act.put]); (try simp only [List.setIfInBounds_toArray]); (try simp only [List.set_cons_succ]); (try simp only [List.set_cons_zero])
          refine wpAnyH_take (i := 9) (oi := { dst := some 87, op := Op.move (Operand.tmp 10), type := 3, pos := "keep.go:205", after := #[{ on := 7, ground := Ground.guard }], guard := some (7, false) }) (v := undef) rfl (by kernel_rfl) (by kernel_rfl) (by kernel_rfl) (fun _ _ _ h => h) (Or.inr ⟨by kernel_rfl, rfl⟩) (by assumption) ?r9w21
          (try simp only [Act.put]); (try simp only [List.setIfInBounds_toArray]); (try simp only [List.set_cons_succ]); (try simp only [List.set_cons_zero])
          refine wpAnyH_take (i := 10) (oi := { dst := some 88, op := Op.binOp BinOp.eql 3 (Operand.tmp 86) (Operand.tmp 87) 3, type := 4, pos := "keep.go:205", after := #[{ on := 8, ground := Ground.data }, { on := 9, ground := Ground.data }, { on := 7, ground := Ground.guard }], guard := some (7, false) }) (v := undef) rfl (by kernel_rfl) (by kernel_rfl) (by kernel_rfl) (fun _ _ _ h => h) (Or.inr ⟨by kernel_rfl, rfl⟩) (by assumption) ?r10w22
          (try simp only [Act.put]); (try simp only [List.setIfInBounds_toArray]); (try simp only [List.set_cons_succ]); (try simp only [List.set_cons_zero])
          refine wpAnyH_take (i := 11) (oi := { dst := some 89, op := Op.pick (Operand.tmp 85) (Operand.const (Value.bool true)) (Operand.tmp 88), type := 4, pos := "keep.go:205", after := #[{ on := 7, ground := Ground.data }, { on := 10, ground := Ground.data }, { on := 4, ground := Ground.guard }], guard := some (4, true) }) (v := ?v11w23) rfl (by kernel_rfl) (by kernel_rfl) (by kernel_rfl) (fun _ _ _ h => h) (Or.inl ⟨by rfl, ?y11w23⟩) (by assumption) ?r11w23
          case y11w23 => (intro w hSw; obtain ⟨-, s1, s2, s3, s4⟩ := hSw; go_simp; (try with_reducible rfl))
          (try simp only [Act.put]); (try simp only [List.setIfInBounds_toArray]); (try simp only [List.set_cons_succ]); (try simp only [List.set_cons_zero])
          refine wpAnyH_take (i := 12) (oi := { dst := some 90, op := Op.pick (Operand.tmp 82) (Operand.tmp 89) (Operand.const (Value.bool false)), type := 4, pos := "keep.go:205", after := #[{ on := 4, ground := Ground.data }, { on := 11, ground := Ground.data }], guard := none }) (v := ?v12w24) rfl (by kernel_rfl) (by kernel_rfl) (by kernel_rfl) (fun _ _ _ h => h) (Or.inl ⟨by rfl, ?y12w24⟩) (by assumption) ?r12w24
          case y12w24 => (intro w hSw; obtain ⟨-, s1, s2, s3, s4⟩ := hSw; go_simp; (try with_reducible rfl))
          (try simp only [Act.put]); (try simp only [List.setIfInBounds_toArray]); (try simp only [List.set_cons_succ]); (try simp only [List.set_cons_zero])
          refine wpAnyH_ready (rs := [13]) (by kernel_rfl) (by simp) ?_
          refine AllReadyH.cons (o := { dst := none, op := Op.store 4 (Operand.tmp 2) (Operand.tmp 90), type := 0, pos := "keep.go:205", after := #[{ on := 12, ground := Ground.data }, { on := 7, ground := Ground.chain }, { on := 0, ground := Ground.phase }, { on := 1, ground := Ground.phase }, { on := 2, ground := Ground.phase }, { on := 3, ground := Ground.phase }, { on := 4, ground := Ground.phase }, { on := 5, ground := Ground.phase }, { on := 6, ground := Ground.phase }, { on := 7, ground := Ground.phase }, { on := 8, ground := Ground.phase }, { on := 9, ground := Ground.phase }, { on := 10, ground := Ground.phase }, { on := 11, ground := Ground.phase }, { on := 12, ground := Ground.phase }], guard := none }) rfl (fun K hK => ?_) AllReadyH.nil
          obtain ⟨r5, hr5⟩ := hHeld.1.out.2
          have z0 := cell1 hr5
          have z1 := frz hr5 0
          have HF5 := hidM (HSe.out _ hHeld)
          clear hr5
          go_simp
          refine hK.out _ _ HF5.out.1 (fun hHeld => ?_)
          clear hK K
          (try simp only [Act.put]); (try simp only [List.setIfInBounds_toArray]); (try simp only [List.set_cons_succ]); (try simp only [List.set_cons_zero])
          refine wpAnyH_done (by kernel_rfl) ?_ _
          clear hHeld
          obtain ⟨-, hd5, hg5, hr6⟩ := HF5.out
          clear z0 z1 HF5
          go_wp2_with fail
          refine ⟨by simp, .inl ⟨_, _, rfl, run_takeDeferred hd5, ?_⟩⟩
          refine ⟨.bool true, ?_, rfl, hg5⟩
          simp [results, Tryd.f5, go_sem, hr6]
    · have hb0 : ((n : Int) == 0) = false := by simp; omega
      have her : er = 0 ∧ l' = fs := by
        have hl := HL'.out
        have h2 := (mostW_wm HX'.out).2
        by_cases he : er = 0
        · subst he; exact ⟨rfl, by simpa using hl⟩
        · rw [if_neg (by simpa using he)] at hl
          exfalso
          rw [← hn, hl] at h2
          cases D with
          | zero => simp [nodes] at h2; exact hn0 h2
          | succ D => simp [nodes] at h2; exact hn0 h2
      have hAR : AllR (nodes D fs [] false) := by have := HTA.out.is; rw [her.1] at this; exact this.zero.2
      have hmdN : md = mostN (nodes D fs [] false) := by rw [hmd, (mostW_wm HX'.out).1, her.2]
      have HAR := hidM (And.intro hAR hmdN)
      clear hn0 HNN hn hmd her hAR hmdN
      go_wp2_with fail
      go_loopw [10, 66] (fun m i wr => ∃ (k : Nat) (z : Int), k ≤ L ∧ m = .int .i64 z ∧ i = .int .i64 (k : Int) ∧ Hid (Gr V wr ∧ z = (((fs.take k).map fun f => deepN (nodes (D - 1) f.kids [] false)).foldl max 0 : Nat))) (fun _ i _ => L - (intOf i).toNat)
      case atStart => exact ⟨0, 0, by omega, rfl, rfl, Keeps.refl _ _, rfl⟩
      case round =>
        obtain ⟨k, z, hk, rfl, rfl, HGK⟩ := hrel
        have HG := hidM HGK.out.1
        by_cases hlt : k < L
        · have hkl : k < fs.length := by rw [HL.out]; exact hlt
          obtain ⟨d, b, o, hDd, rfl, hcs⟩ := row_open1 HA.out.row (fun e => by rw [e] at hkl; simp at hkl)
          obtain ⟨ao', ca', hc, hfl'⟩ := hcs k hkl
          obtain ⟨g0, g1, g2, g3, g4, g5, g6⟩ := hc.kept ((HV.out.1.trans HG.out (fun _ _ h => h)).block b (block_lt_of_cell hc.c0) id)
          obtain ⟨z2, hz, hz2⟩ := depth_fld HT.out hfl' (by omega) HS.out
          have HZ := hidM (hz.gr (HV.out.1.trans HG.out (fun _ _ h => h)))
          have HNx : Hid (max z z2 = (((fs.take (k + 1)).map fun f => deepN (nodes (D - 1) f.kids [] false)).foldl max 0 : Nat)) := by
            show _ = _
            have hA := HAR.out.1
            have hD1 : D - 1 = d := by omega
            rw [hDd] at hA
            have e1 := HGK.out.2
            rw [hD1] at e1 ⊢
            have e2 := hz2 ((one_sub _ fs k hkl).allR hA)
            rw [e1, e2, List.take_add_one, List.getElem?_eq_getElem hkl]
            simp only [Option.toList_some, List.map_append, List.map_cons, List.map_nil, List.foldl_append, List.foldl_cons, List.foldl_nil]
            omega
          generalize fs[k].name = f0 at *
          generalize fs[k].nul = f1 at *
          generalize fs[k].kind = f2 at *
          generalize fs[k].width = f3 at *
          generalize fs[k].id = f4 at *
          generalize fs[k].index = f5 at *
          generalize fs[k].kids.length = f6 at *
          have hltI : (k : Int) < (L : Int) := by omega
          unfold AnsV at HZ
          have hkI : (0 : Int) ≤ (k : Int) := by omega
          clear hc hcs hfl' hz hz2 hkl HGK
          go_wp2_with (go_at_call 17; refine Hid.out ?_)
          unfold Hid
          refine Calls.mono (HZ.out _ (gr_alloc _ _)) ?_
          rintro e w2 ⟨rfl, hg2⟩
          have HG2 : Hid (Gr V w2) := (HG.out.alloc _).trans hg2 (fun _ _ h => h)
          have t1 : w2.cell? ⟨Nb, 0, none⟩ = some (.int .i64 (n : Int)) := (HSt.out w2 HG2.out).2.1
          clear hg2 HZ HG g0 g1 g2 g3 g4 g5 g6
          go_wp2_with fail
          go_roundw
          case rel => exact ⟨k + 1, max z z2, by omega, by simp, by simp, HG2.out, HNx.out⟩
          case measure => simp [intOf]; omega
        · have hltI : ¬ (k : Int) < (L : Int) := by omega
          obtain rfl : z = (md : Int) := by
            have hm := HAR.out.2
            have e : k = fs.length := by rw [HL.out]; omega
            cases D with
            | zero =>
              have hf : fs = [] := HA.out.row
              rw [HGK.out.2, hm, hf]; simp [nodes, mostN]
            | succ d => rw [HGK.out.2, Nat.add_sub_cancel, hm, e, nodes_succ, mostN_upto d fs _ (Nat.le_refl _)]
          clear HGK
          go_wp2_with fail
          refine wp_calm ?_
          refine wp_region_held_drew (S := fun w' => Hid (Keeps V w' (fun b => b = X + 1) ∧ ∃ r, w'.heap[X + 1]? = some (.cells #[.bool r] 4)) ∧ w'.cell? ⟨Nb, 0, none⟩ = some (.int .i64 (n : Int)) ∧ w'.cell? ⟨Nb + 1, 0, none⟩ = some (.int .i64 (md : Int)) ∧ w'.cell? ⟨X, 0, none⟩ = some (.slice fo L cf) ∧ w'.cell? ⟨X, 1, none⟩ = some (.slice no ns.length cn)) (by kernel_rfl) (HSt.out wr.drew (HG.out.trans gr_drew (fun _ _ h => h))) (fun hHeld => ?_)
          refine wpAnyH_take (i := 0) (oi := { dst := some 78, op := Op.load 3 (Operand.tmp 3), type := 3, pos := "keep.go:205", after := #[], guard := none }) (v := ?v0w25) rfl (by kernel_rfl) (by kernel_rfl) (by kernel_rfl) (fun _ _ _ h => h) (Or.inl ⟨by rfl, ?y0w25⟩) (by assumption) ?r0w25
          case y0w25 => (intro w hSw; obtain ⟨-, s1, s2, s3, s4⟩ := hSw; go_simp; (try with_reducible rfl))
          (try simp only [Act.put]); (try simp only [List.setIfInBounds_toArray]); (try simp only [List.set_cons_succ]); (try simp only [List.set_cons_zero])
          refine wpAnyH_take (i := 1) (oi := { dst := some 79, op := Op.load 25 (Operand.tmp 1), type := 25, pos := "keep.go:205", after := #[], guard := none }) (v := ?v1w26) rfl (by kernel_rfl) (by kernel_rfl) (by kernel_rfl) (fun _ _ _ h => h) (Or.inl ⟨by rfl, ?y1w26⟩) (by assumption) ?r1w26
          case y1w26 => (intro w hSw; obtain ⟨-, s1, s2, s3, s4⟩ := hSw; go_simp; (try with_reducible rfl))
          (try simp only [Act.put]); (try simp only [List.setIfInBounds_toArray]); (try simp only [List.set_cons_succ]); (try simp only [List.set_cons_zero])
          refine wpAnyH_ready (rs := [2]) (by kernel_rfl) (by simp) ?_
          refine AllReadyH.cons (o := { dst := some 80, op := Op.call { callee := Callee.value (Operand.func 12), args := #[Operand.tmp 79], argTypes := #[25] }, type := 3, pos := "keep.go:205", after := #[{ on := 1, ground := Ground.data }], guard := none }) rfl (fun K hK => ?_) AllReadyH.nil
          go_simp
          go_at_call 12
          refine Calls.mono (HCt.out _ hHeld.1.out.1) ?_
          rintro e' v5 ⟨rfl, hk5⟩
          replace hk5 := hidM hk5
          go_wp2_with fail
          refine hK.out _ _ (HSk.out _ _ hHeld hk5.out) (fun hHeld => ?_)
          clear hK K
          (try simp only [Act.put]); (try simp only [List.setIfInBounds_toArray]); (try simp only [List.set_cons_succ]); (try simp only [List.set_cons_zero])
          refine wpAnyH_take (i := 3) (oi := { dst := some 81, op := Op.binOp BinOp.eql 3 (Operand.tmp 78) (Operand.tmp 80) 3, type := 4, pos := "keep.go:205", after := #[{ on := 0, ground := Ground.data }, { on := 2, ground := Ground.data }], guard := none }) (v := ?v3w27) rfl (by kernel_rfl) (by kernel_rfl) (by kernel_rfl) (fun _ _ _ h => h) (Or.inl ⟨by rfl, ?y3w27⟩) (by assumption) ?r3w27
          case y3w27 => (intro w hSw; obtain ⟨-, s1, s2, s3, s4⟩ := hSw; go_simp; (try with_reducible rfl))
          (try simp only [Act.put]); (try simp only [List.setIfInBounds_toArray]); (try simp only [List.set_cons_succ]); (try simp only [List.set_cons_zero])
          refine wpAnyH_take (i := 4) (oi := { dst := some 82, op := Op.move (Operand.tmp 81), type := 4, pos := "keep.go:205", after := #[{ on := 3, ground := Ground.data }, { on := 2, ground := Ground.chain }], guard := none }) (v := ?v4w28) rfl (by kernel_rfl) (by kernel_rfl) (by kernel_rfl) (fun _ _ _ h => h) (Or.inl ⟨by rfl, ?y4w28⟩) (by assumption) ?r4w28
          case y4w28 => (intro w hSw; obtain ⟨-, s1, s2, s3, s4⟩ := hSw; go_simp; (try with_reducible rfl))
          (try simp only [Act.put]); (try simp only [List.setIfInBounds_toArray]); (try simp only [List.set_cons_succ]); (try simp only [List.set_cons_zero])
          refine wpAnyH_take (i := 5) (oi := { dst := some 83, op := Op.load 3 (Operand.tmp 3), type := 3, pos := "keep.go:205", after := #[{ on := 4, ground := Ground.guard }], guard := some (4, true) }) (v := ?v5w29) rfl (by kernel_rfl) (by kernel_rfl) (by kernel_rfl) (fun _ _ _ h => h) (Or.inl ⟨by rfl, ?y5w29⟩) (by assumption) ?r5w29
          case y5w29 => (intro w hSw; obtain ⟨-, s1, s2, s3, s4⟩ := hSw; go_simp; (try with_reducible rfl))
          (try simp only [Act.put]); (try simp only [List.setIfInBounds_toArray]); (try simp only [List.set_cons_succ]); (try simp only [List.set_cons_zero])
          refine wpAnyH_take (i := 6) (oi := { dst := some 84, op := Op.binOp BinOp.eql 3 (Operand.tmp 83) (Operand.const (Value.int IntKind.i64 0)) 3, type := 4, pos := "keep.go:205", after := #[{ on := 5, ground := Ground.data }, { on := 4, ground := Ground.guard }], guard := some (4, true) }) (v := ?v6w30) rfl (by kernel_rfl) (by kernel_rfl) (by kernel_rfl) (fun _ _ _ h => h) (Or.inl ⟨by rfl, ?y6w30⟩) (by assumption) ?r6w30
          case y6w30 => (intro w hSw; obtain ⟨-, s1, s2, s3, s4⟩ := hSw; go_simp; (try with_reducible rfl))
          (try simp only [Act.put]); (try simp only [List.setIfInBounds_toArray]); (try simp only [List.set_cons_succ]); (try simp only [List.set_cons_zero])
          refine wpAnyH_take (i := 7) (oi := { dst := some 85, op := Op.move (Operand.tmp 84), type := 4, pos := "keep.go:205", after := #[{ on := 6, ground := Ground.data }, { on := 4, ground := Ground.chain }, { on := 4, ground := Ground.guard }], guard := some (4, true) }) (v := ?v7w31) rfl (by kernel_rfl) (by kernel_rfl) (by kernel_rfl) (fun _ _ _ h => h) (Or.inl ⟨by rfl, ?y7w31⟩) (by assumption) ?r7w31
          case y7w31 => (intro w hSw; obtain ⟨-, s1, s2, s3, s4⟩ := hSw; go_simp; (try with_reducible rfl))
          (try simp only [Act.put]); (try simp only [List.setIfInBounds_toArray]); (try simp only [List.set_cons_succ]); (try simp only [List.set_cons_zero])
          refine wpAnyH_take (i := 8) (oi := { dst := some 86, op := Op.load 3 (Operand.tmp 4), type := 3, pos := "keep.go:205", after := #[{ on := 7, ground := Ground.guard }], guard := some (7, false) }) (v := ?v8w32) rfl (by kernel_rfl) (by kernel_rfl) (by kernel_rfl) (fun _ _ _ h => h) (Or.inl ⟨by rfl, ?y8w32⟩) (by assumption) ?r8w32
          case y8w32 => (intro w hSw; obtain ⟨-, s1, s2, s3, s4⟩ := hSw; go_simp; (try with_reducible rfl))
          (try simp only [Act.put]); (try simp only [List.setIfInBounds_toArray]); (try simp only [List.set_cons_succ]); (try simp only [List.set_cons_zero])
          refine wpAnyH_take (i := 9) (oi := { dst := some 87, op := Op.move (Operand.tmp 10), type := 3, pos := "keep.go:205", after := #[{ on := 7, ground := Ground.guard }], guard := some (7, false) }) (v := ?v9w33) rfl (by kernel_rfl) (by kernel_rfl) (by kernel_rfl) (fun _ _ _ h => h) (Or.inl ⟨by rfl, ?y9w33⟩) (by assumption) ?r9w33
          case y9w33 => (intro w hSw; obtain ⟨-, s1, s2, s3, s4⟩ := hSw; go_simp; (try with_reducible rfl))
          (try simp only [Act.put]); (try simp only [List.setIfInBounds_toArray]); (try simp only [List.set_cons_succ]); (try simp only [List.set_cons_zero])
          refine wpAnyH_take (i := 10) (oi := { dst := some 88, op := Op.binOp BinOp.eql 3 (Operand.tmp 86) (Operand.tmp 87) 3, type := 4, pos := "keep.go:205", after := #[{ on := 8, ground := Ground.data }, { on := 9, ground := Ground.data }, { on := 7, ground := Ground.guard }], guard := some (7, false) }) (v := ?v10w34) rfl (by kernel_rfl) (by kernel_rfl) (by kernel_rfl) (fun _ _ _ h => h) (Or.inl ⟨by rfl, ?y10w34⟩) (by assumption) ?r10w34
          case y10w34 => (intro w hSw; obtain ⟨-, s1, s2, s3, s4⟩ := hSw; go_simp; (try with_reducible rfl))
          (try simp only [Act.put]); (try simp only [List.setIfInBounds_toArray]); (try simp only [List.set_cons_succ]); (try simp only [List.set_cons_zero])
          refine wpAnyH_take (i := 11) (oi := { dst := some 89, op := Op.pick (Operand.tmp 85) (Operand.const (Value.bool true)) (Operand.tmp 88), type := 4, pos := "keep.go:205", after := #[{ on := 7, ground := Ground.data }, { on := 10, ground := Ground.data }, { on := 4, ground := Ground.guard }], guard := some (4, true) }) (v := ?v11w35) rfl (by kernel_rfl) (by kernel_rfl) (by kernel_rfl) (fun _ _ _ h => h) (Or.inl ⟨by rfl, ?y11w35⟩) (by assumption) ?r11w35
          case y11w35 => (intro w hSw; obtain ⟨-, s1, s2, s3, s4⟩ := hSw; go_simp; (try with_reducible rfl))
          (try simp only [Act.put]); (try simp only [List.setIfInBounds_toArray]); (try simp only [List.set_cons_succ]); (try simp only [List.set_cons_zero])
          refine wpAnyH_take (i := 12) (oi := { dst := some 90, op := Op.pick (Operand.tmp 82) (Operand.tmp 89) (Operand.const (Value.bool false)), type := 4, pos := "keep.go:205", after := #[{ on := 4, ground := Ground.data }, { on := 11, ground := Ground.data }], guard := none }) (v := ?v12w36) rfl (by kernel_rfl) (by kernel_rfl) (by kernel_rfl) (fun _ _ _ h => h) (Or.inl ⟨by rfl, ?y12w36⟩) (by assumption) ?r12w36
          case y12w36 => (intro w hSw; obtain ⟨-, s1, s2, s3, s4⟩ := hSw; go_simp; (try with_reducible rfl))
          (try simp only [Act.put]); (try simp only [List.setIfInBounds_toArray]); (try simp only [List.set_cons_succ]); (try simp only [List.set_cons_zero])
          refine wpAnyH_ready (rs := [13]) (by kernel_rfl) (by simp) ?_
          refine AllReadyH.cons (o := { dst := none, op := Op.store 4 (Operand.tmp 2) (Operand.tmp 90), type := 0, pos := "keep.go:205", after := #[{ on := 12, ground := Ground.data }, { on := 7, ground := Ground.chain }, { on := 0, ground := Ground.phase }, { on := 1, ground := Ground.phase }, { on := 2, ground := Ground.phase }, { on := 3, ground := Ground.phase }, { on := 4, ground := Ground.phase }, { on := 5, ground := Ground.phase }, { on := 6, ground := Ground.phase }, { on := 7, ground := Ground.phase }, { on := 8, ground := Ground.phase }, { on := 9, ground := Ground.phase }, { on := 10, ground := Ground.phase }, { on := 11, ground := Ground.phase }, { on := 12, ground := Ground.phase }], guard := none }) rfl (fun K hK => ?_) AllReadyH.nil
          obtain ⟨r5, hr5⟩ := hHeld.1.out.2
          have z0 := cell1 hr5
          have z1 := frz hr5 0
          have HF5 := hidM (HSe.out _ hHeld)
          clear hr5
          go_simp
          refine hK.out _ _ HF5.out.1 (fun hHeld => ?_)
          clear hK K
          (try simp only [Act.put]); (try simp only [List.setIfInBounds_toArray]); (try simp only [List.set_cons_succ]); (try simp only [List.set_cons_zero])
          refine wpAnyH_done (by kernel_rfl) ?_ _
          clear hHeld
          obtain ⟨-, hd5, hg5, hr6⟩ := HF5.out
          clear z0 z1 HF5
          go_wp2_with fail
          refine ⟨by simp, .inl ⟨_, _, rfl, run_takeDeferred hd5, ?_⟩⟩
          refine ⟨.bool true, ?_, rfl, hg5⟩
          simp [results, Tryd.f5, go_sem, hr6]
  case stop =>
    rintro O c pre V hp h hz hd
    exact absurd hp h
end Go.Proofs.YtfepbpibhcfjdaaDoor.Kit
