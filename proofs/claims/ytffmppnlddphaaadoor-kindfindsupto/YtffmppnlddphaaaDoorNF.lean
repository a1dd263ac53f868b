import Derived.Test.YtffmppnlddphaaaDoorND
import Derived.Test.YtffmppnlddphaaaDoorMF
import Derived.Test.YtffmppnlddphaaaDoorLR
namespace Go.Proofs.YtffmppnlddphaaaDoor.Kit
open Go.RowKit Go.Shelf Go.Deep
set_option linter.unusedVariables false
attribute [local go_sem] run_store_func

/-! ### ways of nodes lead to them -/
theorem node_way : ∀ (d : Nat) (l : List FT) (path : List Nat) (inD : Bool) (x : LS), x ∈ nodes d l path inD → ∃ r : List Nat, x.path = path ++ r ∧ r ≠ [] ∧ ∀ cur, atGo cur l (r.map fun (n : Nat) => (n : Int)) = some x.fld
  | 0, _, _, _, _, h => by simp [nodes] at h
  | d + 1, l, path, inD, x, h => by
    rw [nodes] at h
    obtain ⟨i, hi, hx⟩ := List.mem_flatMap.1 h
    have hil : i < l.length := List.mem_range.1 hi
    have hb : l[i]! = l[i] := getElem!_pos l i hil
    rcases List.mem_cons.1 hx with rfl | hx
    · refine ⟨[i], rfl, by simp, fun cur => ?_⟩
      have hf : LS.fld ⟨l, path ++ [i], inD⟩ = l[i] := by
        have hid : LS.idx ⟨l, path ++ [i], inD⟩ = i := by simp [LS.idx]
        unfold LS.fld
        rw [hid]
        simp [hil]
      rw [hf]
      simp [atGo, hil]
    · obtain ⟨r, h1, h2, h3⟩ := node_way d _ _ _ x hx
      refine ⟨i :: r, by rw [h1]; simp, by simp, fun cur => ?_⟩
      rw [List.map_cons, atGo, if_pos (by omega)]
      have e : ((i : Nat) : Int).toNat = i := by simp
      rw [e]
      exact h3 _
theorem node_at {D : Nat} {fs : List FT} {x : LS} (h : x ∈ nodes D fs [] false) : atR 0 fs (x.path.map fun (n : Nat) => (n : Int)) = (0, x.fld) := by
  obtain ⟨r, h1, h2, h3⟩ := node_way D fs [] false x h
  rw [List.nil_append] at h1
  rw [h1]
  have : (r.map fun (n : Nat) => (n : Int)) ≠ [] := by simpa using h2
  simp [atR, h2, h3]
theorem atR_bad {er : Int} {fs : List FT} {path : List Int} (h : (atR er fs path).1 ≠ 0) : (atR er fs path).2 = zFT := by
  unfold atR at *
  split
  · rfl
  · split
    · rfl
    · rename_i h1 h2
      rw [if_neg h1, if_neg h2] at h
      revert h
      cases atGo zFT fs path with
      | none => intro _; rfl
      | some f => intro h; exact absurd rfl h
theorem zs_of_ints {W : World} {ao : Option Addr} {l : List Nat} (h : IntsAt W ao l) : ZsAt W ao (l.map fun (n : Nat) => (n : Int)) := fun hn => by
  obtain ⟨b, o, e, hc⟩ := h (fun e => hn (by rw [e]; rfl))
  refine ⟨b, o, e, fun j hj => ?_⟩
  have hj' : j < l.length := by simpa using hj
  simpa using hc j hj'
/-- ways in memory -/
def WaysAt (W : World) (wo : Option Addr) (l : List (List Int)) : Prop := l ≠ [] → ∃ b o, wo = some ⟨b, o, none⟩ ∧ ∀ i (h : i < l.length), ∃ po pc, W.cell? ⟨b, o + i, none⟩ = some (.slice po l[i].length pc) ∧ l[i].length ≤ big ∧ ZsAt W po l[i]
/-- the same field in two places -/
theorem eq_self {W : World} {D E : Nat} {S T : Nat → Prop} {f : FT} {fo eo : Option Addr} {fc ec : Nat} (h1 : RowAt S W D fo f.kids) (h2 : RowAt T W E eo f.kids) (h3 : f.kids.length ≤ fc) (h4 : f.kids.length ≤ ec) (hS : ∀ b, S b → b < W.heap.size) (hT : ∀ b, T b → b < W.heap.size) :
    Ans 39 #[.agg #[.string f.name, .bool f.nul, .int .i64 f.kind, .int .i64 f.width, .int .i64 f.id, .int .i64 f.index, .slice fo f.kids.length fc], .agg #[.string f.name, .bool f.nul, .int .i64 f.kind, .int .i64 f.width, .int .i64 f.id, .int .i64 f.index, .slice eo f.kids.length ec]] true W := by
  have := eqField_any (fun b => b < W.heap.size) (D + E) W f f fo eo fc ec ((h1.le (by omega)).mono hS) ((h2.le (by omega)).mono hT) h3 h4 (fun _ h => h)
  rw [sameFd_refl] at this
  exact this

set_option maxRecDepth 100000 in
set_option maxHeartbeats 8000000 in
theorem finds_any (S : Nat → Prop) (D : Nat) (fo no wo : Option Addr) (cf cn wc : Nat) (fs : List FT) (ns : List (ByteArray × ByteArray)) (ways : List (List Int)) (w : World) (hT : Tab w) (hD : D ≤ big) (hS : ∀ b, S b → b < w.heap.size)
    (ha : Sch S w D fo no cf cn fs ns) (hw : WaysAt w wo ways) (hwl : ways.length ≤ big) (haw : ∀ W, Gr w W → Calls Tryd.prog 9 #[] W fun e w' => e = .returned (.bool true) ∧ Gr W w') :
    Calls Tryd.prog 8 #[.agg #[.slice fo fs.length cf, .slice no ns.length cn], .slice wo ways.length wc] w fun e w' => e = .returned (.bool true) ∧ Gr w w' := by
  obtain ⟨er, p, tt, ta⟩ := ha.tells hT hD hS
  have HAW := hidM haw
  have A41 : Hid (∀ W0, Gr w W0 → ∀ (path : List Int) (po : Option Addr) (pc : Nat), ZsAt W0 po path → path.length ≤ big → ∀ W, Gr W0 W → Calls Tryd.prog 41 #[.agg #[.slice fo fs.length cf, .slice no ns.length cn], .slice po path.length pc] W (AtQ W D (atR er fs path))) := fun W0 g path po pc hp hl =>
    at_gen ((maybe_gen ta.t11).gr g) (ha.row.kept fun b hb => g.block b (hS b hb) id) ha.le (fun b hb => by have := hS b hb; have := g.size; omega) hp hl
  have A42 : Hid (∀ W0, Gr w W0 → ∀ (path : List Int) (po : Option Addr) (pc : Nat), ZsAt W0 po path → path.length ≤ big → ∀ W, Gr W0 W → Calls Tryd.prog 42 #[.agg #[.slice fo fs.length cf, .slice no ns.length cn], .slice po path.length pc] W (AtQ W D (atR er fs path))) := fun W0 g path po pc hp hl =>
    atR_gen (ta.t12.gr g) (ha.row.kept fun b hb => g.block b (hS b hb) id) ha.le (fun b hb => by have := hS b hb; have := g.size; omega) hp hl
  have A34 := hidM (nodesR_gen ta.t12 ha.row ha.le hS)
  have HNs : Hid (er = 0 → grown [] (nodesC D fs [] false) = nodes D fs [] false) := fun h0 => by
    subst h0
    exact allr_cut ta.is.zero.2
  have HN65 : Hid (∀ x ∈ grown [] (nodesC D fs [] false), x.path.length ≤ 65) := fun x hx => nodesC_path D fs [] false x (by simp) (List.mem_of_mem_take hx)
  have hN := grown_le [] (nodesC D fs [] false)
  have HW := hidM hw
  have hwl' : ways.length ≤ 1000000000000 := hwl
  clear hT hD hS ha hw hwl ta haw
  obtain ⟨T, hTn⟩ : ∃ T, T = ways.length := ⟨_, rfl⟩
  rw [← hTn] at hwl' ⊢
  have HTn := hidM hTn
  clear hTn
  obtain ⟨L, hL⟩ : ∃ L, L = fs.length := ⟨_, rfl⟩
  rw [← hL] at A41 A42 A34 ⊢
  clear hL
  generalize ns.length = nn at *
  have hbx := World.alloc_heap_new w (.cells #[.slice fo L cf, .slice no nn cn] 27)
  obtain ⟨X, hX⟩ : ∃ X, X = w.heap.size := ⟨_, rfl⟩
  have HB0 : Hid (BX w (w.alloc (.cells #[.slice fo L cf, .slice no nn cn] 27)) X #[.slice fo L cf, .slice no nn cn] 27) := ⟨gr_alloc w _, by rw [hX]; exact hbx⟩
  clear hbx
  go_enter Tryd.func8, Tryd.ntmps8
  go_wp2_with (go_at_call 9; refine Hid.out ?_)
  unfold Hid
  refine Calls.mono (HAW.out _ HB0.out.g) ?_
  rintro e W1 ⟨rfl, hg1⟩
  rw [← hX]
  have HB1 := hidM (HB0.out.gr hg1)
  clear hg1 HB0 HAW hX
  go_wp2_with fail
  go_loopw [19] (fun p wr => ∃ k : Nat, k ≤ T ∧ p = .int .i64 (k : Int) ∧ Hid (BX w wr X #[.slice fo L cf, .slice no nn cn] 27)) (fun p _ => T - (intOf p).toNat)
  case atStart => exact ⟨0, by omega, rfl, HB1.out⟩
  case round =>
    obtain ⟨k, hk, rfl, HK⟩ := hrel
    obtain ⟨d0, d1⟩ := cell2 HK.out.b
    by_cases hlt : k < T
    · have hkl : k < ways.length := by have := HTn.out; omega
      obtain ⟨b, o, rfl, hcs⟩ := HW.out (fun e => by subst e; simp at hkl)
      obtain ⟨po, pc, hc, hpl, hz⟩ := hcs k hkl
      have g0 := HK.out.g.cell' hc id
      have C41 := A41.out w (Keeps.refl _ _) ways[k] po pc hz hpl
      have C42 := A42.out w (Keeps.refl _ _) ways[k] po pc hz hpl
      obtain ⟨r, hr⟩ : ∃ r, r = atR er fs ways[k] := ⟨_, rfl⟩
      have HBad : Hid (r.1 ≠ 0 → r.2 = zFT) := by rw [hr]; exact atR_bad
      rw [← hr] at C41 C42
      have H41 := hidM C41
      have H42 := hidM C42
      generalize ways[k].length = P at *
      have hltI : (k : Int) < (T : Int) := by omega
      clear hcs hc hpl hz C41 C42 hr
      unfold AtQ at H41 H42
      obtain ⟨c, f⟩ := r
      simp only at H41 H42 HBad
      go_wp2_with (go_at_call 41; refine Hid.out ?_)
      unfold Hid
      refine Calls.mono (H41.out _ HK.out.g) ?_
      rintro e w2 ⟨vo, vc, rfl, hg2, hle2, hrow2⟩
      have HK2 := hidM (HK.out.gr hg2)
      have HR2 := hidM (And.intro hle2 hrow2)
      clear d0 d1 hg2 hle2 hrow2 H41 HK g0
      obtain ⟨w3, hw3⟩ : ∃ w3, w2.alloc (.cells #[.string f.name, .bool f.nul, .int .i64 f.kind, .int .i64 f.width, .int .i64 f.id, .int .i64 f.index, .slice vo f.kids.length vc] 37) = w3 := ⟨_, rfl⟩
      have hg3 : Gr w2 w3 := by rw [← hw3]; exact gr_alloc w2 _
      have hb3 : w3.heap[w2.heap.size]? = some (.cells #[.string f.name, .bool f.nul, .int .i64 f.kind, .int .i64 f.width, .int .i64 f.id, .int .i64 f.index, .slice vo f.kids.length vc] 37) := by rw [← hw3]; exact World.alloc_heap_new w2 _
      have HK3 := hidM (HK2.out.gr hg3)
      have HX3 := hidM (And.intro hg3 hb3)
      obtain ⟨d0, d1⟩ := cell2 HK3.out.b
      clear hg3 hb3
      go_wp2_with (go_at_call 42; refine Hid.out ?_)
      unfold Hid
      try rw [hw3]
      refine Calls.mono (H42.out _ HK3.out.g) ?_
      rintro e w4 ⟨uo, uc, rfl, hg4, hle4, hrow4⟩
      obtain ⟨F, hF⟩ : ∃ F, F = w2.heap.size := ⟨_, rfl⟩
      rw [← hF] at HX3
      have hF2 := hF
      obtain ⟨w5, hw5⟩ : ∃ w5, w4.alloc (.cells #[.string f.name, .bool f.nul, .int .i64 f.kind, .int .i64 f.width, .int .i64 f.id, .int .i64 f.index, .slice uo f.kids.length uc] 37) = w5 := ⟨_, rfl⟩
      have hg5 : Gr w4 w5 := by rw [← hw5]; exact gr_alloc w4 _
      have hb5 : w5.heap[w4.heap.size]? = some (.cells #[.string f.name, .bool f.nul, .int .i64 f.kind, .int .i64 f.width, .int .i64 f.id, .int .i64 f.index, .slice uo f.kids.length uc] 37) := by rw [← hw5]; exact World.alloc_heap_new w4 _
      have hF5 : w5.heap[F]? = some (.cells #[.string f.name, .bool f.nul, .int .i64 f.kind, .int .i64 f.width, .int .i64 f.id, .int .i64 f.index, .slice vo f.kids.length vc] 37) := ((hg4.trans hg5 (fun _ _ h => h)).block _ (lt_of_heap HX3.out.2) id).trans HX3.out.2
      have hg25 : Gr w2 w5 := (HX3.out.1.trans hg4 (fun _ _ h => h)).trans hg5 (fun _ _ h => h)
      have HK5 := hidM ((HK3.out.gr hg4).gr hg5)
      have hrow2 : RowAt (fun b => b < w2.heap.size) w5 D vo f.kids := HR2.out.2.kept fun b hb => hg25.block b hb id
      have hrow4' : RowAt (fun b => b < w4.heap.size) w5 D uo f.kids := hrow4.kept fun b hb => hg5.block b hb id
      have HEq : Hid (Ans 39 #[.agg #[.string f.name, .bool f.nul, .int .i64 f.kind, .int .i64 f.width, .int .i64 f.id, .int .i64 f.index, .slice vo f.kids.length vc], .agg #[.string f.name, .bool f.nul, .int .i64 f.kind, .int .i64 f.width, .int .i64 f.id, .int .i64 f.index, .slice uo f.kids.length uc]] true w5) := eq_self hrow2 hrow4' HR2.out.1 hle4 (fun b hb => by have := hg25.size; omega) (fun b hb => by have := hg5.size; omega)
      have HEz : Hid (c ≠ 0 → Ans 39 #[.agg #[.string f.name, .bool f.nul, .int .i64 f.kind, .int .i64 f.width, .int .i64 f.id, .int .i64 f.index, .slice vo f.kids.length vc], .agg #[.string ⟨#[]⟩, .bool false, .int .i64 0, .int .i64 0, .int .i64 0, .int .i64 0, .slice none 0 0]] true w5) := fun hc => by
        have hf := HBad.out hc
        subst hf
        exact eq_self (f := zFT) (eo := none) (ec := 0) hrow2 (row_none (fun b => b < w4.heap.size) w5 D none) HR2.out.1 (by simp [zFT, FT.kids]) (fun b hb => by have := hg25.size; omega) (fun b hb => by have := hg5.size; omega)
      obtain ⟨a0, a1, a2, a3, a4, a5, a6⟩ := cell7 hF5
      obtain ⟨b0, b1, b2, b3, b4, b5, b6⟩ := cell7 hb5
      simp only [Nat.zero_add] at a1 a2 a3 a4 a5 a6 b1 b2 b3 b4 b5 b6
      clear d0 d1 hg4 hle4 hrow4 H42 hg5 hb5 hF5 hg25 hrow2 hrow4' HK2 HK3 HR2 HX3 HBad
      unfold Ans at HEq HEz
      rw [← hF2]
      clear hF hF2 hw3
      by_cases hc : c = 0
      · subst hc
        go_wp2_with (go_at_call 39; refine Hid.out ?_)
        unfold Hid
        try rw [hw5]
        refine Calls.mono (HEq.out _ (Keeps.refl _ _)) ?_
        rintro e w6 ⟨rfl, hg6⟩
        have HB6 := hidM (HK5.out.gr hg6)
        clear hg6 a0 a1 a2 a3 a4 a5 a6 b0 b1 b2 b3 b4 b5 b6 hw5 HEq HEz HK5
        go_wp2_with fail
        go_roundw
        case rel => exact ⟨k + 1, by omega, by simp, HB6.out⟩
        case measure => simp [intOf]; omega
      · have hcz := beqZ hc
        have HEz' := hidM (HEz.out hc)
        go_wp2_with (go_at_call 39; refine Hid.out ?_)
        unfold Hid
        try rw [hw5]
        refine Calls.mono (HEz'.out _ (Keeps.refl _ _)) ?_
        rintro e w6 ⟨rfl, hg6⟩
        have HB6 := hidM (HK5.out.gr hg6)
        clear hg6 a0 a1 a2 a3 a4 a5 a6 b0 b1 b2 b3 b4 b5 b6 hw5 HEq HEz HEz' HK5
        go_wp2_with fail
        go_roundw
        case rel => exact ⟨k + 1, by omega, by simp, HB6.out⟩
        case measure => simp [intOf]; omega
    · have hkT : k = T := by omega
      subst hkT
      have H34 := hidM (A34.out wr HK.out.g)
      unfold NodesQ at H34
      clear A34 A42 HW HTn HB1 hlt hk
      go_wp2_with (go_at_call 34; refine Hid.out ?_)
      unfold Hid
      refine Calls.mono H34.out ?_
      rintro e w2 ⟨n, vo, vc, rfl, hg2, hz, hok⟩
      have HK2 := hidM (HK.out.gr hg2)
      have HZ := hidM hz
      have HOk := hidM hok
      have hn : n ≤ 257 := by
        by_cases h0 : er = 0
        · rw [(hok h0).1]; exact hN
        · rw [hz h0]; omega
      clear d0 d1 hg2 hz hok H34 HK hN
      generalize grown [] (nodesC D fs [] false) = N at *
      go_wp2_with fail
      go_loopw [62] (fun p wr => ∃ j : Nat, j ≤ n ∧ p = .int .i64 (j : Int) ∧ Hid (Gr w2 wr)) (fun p _ => n - (intOf p).toNat)
      case atStart => exact ⟨0, by omega, rfl, Keeps.refl _ _⟩
      case round =>
        obtain ⟨j, hj, rfl, HJ⟩ := hrel
        by_cases hlt : j < n
        · have h0 : er = 0 := Classical.byContradiction fun h => by have := HZ.out h; omega
          obtain ⟨hnN, hout, hown⟩ := HOk.out h0
          have hjN : j < N.length := by omega
          have hBJ := HK2.out.gr HJ.out
          obtain ⟨g, e1, hnvc, hten⟩ := (hout.keeps HJ.out hown).ten (by omega)
          obtain ⟨wb, wc', xo, xc, ao, ca, t, hnode⟩ := hten j hjN
          have hmem : N[j] ∈ nodes D fs [] false := by rw [← HNs.out h0]; exact List.getElem_mem _
          have hat := node_at hmem
          have h65 := HN65.out N[j] (List.getElem_mem _)
          obtain ⟨x, hx⟩ : ∃ x, x = N[j]'hjN := ⟨_, rfl⟩
          rw [← hx] at t hnode hat h65
          have hzs := zs_of_ints (ints_of_own hnode.way)
          have C41 := A41.out wr hBJ.g (x.path.map fun (n : Nat) => (n : Int)) (some ⟨wb, 0, none⟩) wc' hzs (by rw [List.length_map]; unfold big; omega)
          rw [h0, hat, List.length_map] at C41
          obtain ⟨E, hE⟩ := hnode.kids
          have hSw : ∀ b, S b → b < w2.heap.size := fun b hb => (hown b hb).1
          have HNd : Hid (x.fld.kids.length ≤ xc ∧ RowAt S wr E xo x.fld.kids ∧ ∀ b, S b → b < wr.heap.size) := ⟨hnode.kle, hE, fun b hb => by have := hSw b hb; have := HJ.out.size; omega⟩
          obtain ⟨t0, t1, t2, t3, t4, t5, t6, t7, t8, t9⟩ := t
          have H41 := hidM C41
          have HBJ := hidM hBJ
          subst e1
          have hltI : (j : Int) < (n : Int) := by omega
          have h300 : (j : Int) < 300 := by omega
          have hgl : n ≤ vc := by rw [hnN]; exact hnvc
          obtain ⟨w3, hw3⟩ : ∃ w3, wr.alloc (.cells #[.slice (some ⟨wb, 0, none⟩) x.path.length wc', .string x.fld.name, .bool x.fld.nul, .int .i64 x.fld.kind, .int .i64 x.fld.width, .int .i64 x.fld.id, .int .i64 x.fld.index, .slice xo x.fld.kids.length xc, .slice ao x.idx ca, .bool x.inD] 61) = w3 := ⟨_, rfl⟩
          have hg3 : Gr wr w3 := by rw [← hw3]; exact gr_alloc wr _
          have hb3 : w3.heap[wr.heap.size]? = some (.cells #[.slice (some ⟨wb, 0, none⟩) x.path.length wc', .string x.fld.name, .bool x.fld.nul, .int .i64 x.fld.kind, .int .i64 x.fld.width, .int .i64 x.fld.id, .int .i64 x.fld.index, .slice xo x.fld.kids.length xc, .slice ao x.idx ca, .bool x.inD] 61) := by rw [← hw3]; exact World.alloc_heap_new wr _
          have HX3 := hidM (And.intro hg3 hb3)
          obtain ⟨d0, d1⟩ := cell2 (hBJ.gr hg3).b
          have m0 : w3.cell? ⟨wr.heap.size, 0, none⟩ = some (.slice (some ⟨wb, 0, none⟩) x.path.length wc') := by simp [World.cell?, hb3]
          unfold AtQ at H41
          simp only at H41
          clear hnN hout hown hten hnode hmem hat hx hzs C41 hE hSw hBJ hg3 hb3 hnvc
          go_wp2_with (go_at_call 41; refine Hid.out ?_)
          unfold Hid
          try rw [hw3]
          refine Calls.mono (H41.out _ HX3.out.1) ?_
          rintro e w4 ⟨yo, yc, rfl, hg4, hle4, hrow4⟩
          obtain ⟨w5, hw5⟩ : ∃ w5, w4.alloc (.cells #[.string x.fld.name, .bool x.fld.nul, .int .i64 x.fld.kind, .int .i64 x.fld.width, .int .i64 x.fld.id, .int .i64 x.fld.index, .slice yo x.fld.kids.length yc] 37) = w5 := ⟨_, rfl⟩
          have hg5 : Gr w4 w5 := by rw [← hw5]; exact gr_alloc w4 _
          have hb5 : w5.heap[w4.heap.size]? = some (.cells #[.string x.fld.name, .bool x.fld.nul, .int .i64 x.fld.kind, .int .i64 x.fld.width, .int .i64 x.fld.id, .int .i64 x.fld.index, .slice yo x.fld.kids.length yc] 37) := by rw [← hw5]; exact World.alloc_heap_new w4 _
          have hg35 : Gr w3 w5 := hg4.trans hg5 (fun _ _ h => h)
          have hgr5 : Gr wr w5 := HX3.out.1.trans hg35 (fun _ _ h => h)
          have hb35 := (hg35.block _ (lt_of_heap HX3.out.2) id).trans HX3.out.2
          have HEq : Hid (Ans 39 #[.agg #[.string x.fld.name, .bool x.fld.nul, .int .i64 x.fld.kind, .int .i64 x.fld.width, .int .i64 x.fld.id, .int .i64 x.fld.index, .slice yo x.fld.kids.length yc], .agg #[.string x.fld.name, .bool x.fld.nul, .int .i64 x.fld.kind, .int .i64 x.fld.width, .int .i64 x.fld.id, .int .i64 x.fld.index, .slice xo x.fld.kids.length xc]] true w5) := eq_self (S := fun b => b < w4.heap.size) (T := S) (hrow4.kept fun b hb => hg5.block b hb id) (HNd.out.2.1.kept fun b hb => hgr5.block b (HNd.out.2.2 b hb) id) hle4 HNd.out.1 (fun b hb => by have := hg5.size; omega) (fun b hb => by have := HNd.out.2.2 b hb; have := hgr5.size; omega)
          obtain ⟨a0, a1, a2, a3, a4, a5, a6⟩ := cell7 hb5
          simp only [Nat.zero_add] at a1 a2 a3 a4 a5 a6
          have m1 : w5.cell? ⟨wr.heap.size, 1, none⟩ = some (.string x.fld.name) := by simp [World.cell?, hb35]
          have m2 : w5.cell? ⟨wr.heap.size, 2, none⟩ = some (.bool x.fld.nul) := by simp [World.cell?, hb35]
          have m3 : w5.cell? ⟨wr.heap.size, 3, none⟩ = some (.int .i64 x.fld.kind) := by simp [World.cell?, hb35]
          have m4 : w5.cell? ⟨wr.heap.size, 4, none⟩ = some (.int .i64 x.fld.width) := by simp [World.cell?, hb35]
          have m5 : w5.cell? ⟨wr.heap.size, 5, none⟩ = some (.int .i64 x.fld.id) := by simp [World.cell?, hb35]
          have m6 : w5.cell? ⟨wr.heap.size, 6, none⟩ = some (.int .i64 x.fld.index) := by simp [World.cell?, hb35]
          have m7 : w5.cell? ⟨wr.heap.size, 7, none⟩ = some (.slice xo x.fld.kids.length xc) := by simp [World.cell?, hb35]
          have HG5 := hidM (HJ.out.trans hgr5 (fun _ _ h => h))
          clear t0 t1 t2 t3 t4 t5 t6 t7 t8 t9 d0 d1 m0 hg4 hle4 hrow4 hg5 hb5 hg35 hgr5 hb35 HX3 HNd H41 hw3
          unfold Ans at HEq
          go_wp2_with (go_at_call 39; refine Hid.out ?_)
          unfold Hid
          try rw [hw5]
          refine Calls.mono (HEq.out _ (Keeps.refl _ _)) ?_
          rintro e w6 ⟨rfl, hg6⟩
          have HB6 := hidM (HG5.out.trans hg6 (fun _ _ h => h))
          clear hg6 a0 a1 a2 a3 a4 a5 a6 m1 m2 m3 m4 m5 m6 m7 hw5 HEq HG5
          go_wp2_with fail
          go_roundw
          case rel => exact ⟨j + 1, by omega, by simp, HB6.out⟩
          case measure => simp [intOf]; omega
        · have hjn : j = n := by omega
          subst hjn
          have HE := hidM (HK2.out.g.trans HJ.out (fun _ _ h => h))
          go_wp2
          go_ret
          exact ⟨rfl, HE.out⟩
end Go.Proofs.YtffmppnlddphaaaDoor.Kit
namespace Go.Proofs.YtffmppnlddphaaaDoor.kindR
open Go.ChangeShapes Go.WideShapes Go.ChangeAt Go.RowKit Go.Deep
open Go.Proofs.YtffmppnlddphaaaDoor
set_option linter.unusedVariables false
theorem cells30 : Tryd.prog.cellsOf 30 = 1 := by kernel_rfl

set_option maxRecDepth 100000 in
/-- one schema, read -/
theorem sch_at' {H : Type} {enc : TypeId × Value → H} {W : World} {fuel : Nat} {cs : List Value} {d : DataW H} {p : List MemPlace} (hl : cs.length = 2)
    (h : DataW.trod enc Tryd.prog W 0 (fun _ => true) true fuel 27 cs = some (d, p)) (hb : Rows.uptoBulk d ≤ 1048576) :
    ∃ fo fs cf no ns cn, cs = [.slice fo (fs : List Kit.FT).length cf, .slice no (ns : List (ByteArray × ByteArray)).length cn] ∧ Kit.Sch (fun b => b < W.heap.size) W 1048576 fo no cf cn fs ns := by
  obtain ⟨xs, m2, _, hd, _, hxs, hf⟩ := DataW.trod_struct Tryd.underlying27 h
  obtain ⟨c0, c1, rfl⟩ := list2 cs hl
  obtain ⟨y0, y1, rfl⟩ := list2 xs (hxs.trans rfl)
  have f0 : DataW.trod enc Tryd.prog W 0 (fun _ => true) true m2 24 ((([c0, c1] : List Value).drop 0).take (Tryd.prog.cellsOf 24)) = some y0 := hf 0 _ rfl
  have f1 : DataW.trod enc Tryd.prog W 0 (fun _ => true) true m2 25 ((([c0, c1] : List Value).drop 1).take (Tryd.prog.cellsOf 25)) = some y1 := hf 1 _ rfl
  rw [cells24] at f0
  rw [cells25] at f1
  simp only [List.drop_zero, List.drop_succ_cons, List.take_succ_cons, List.take_zero] at f0 f1
  simp only [Prod.mk.injEq] at hd
  rw [hd.1] at hb
  simp only [Rows.uptoBulk] at hb
  have hy0 : Rows.uptoBulk y0.1 ≤ Rows.uptoBulkAll ([y0, y1].map fun x => x.1) := part_le (List.mem_map_of_mem (by simp))
  have hy1 : Rows.uptoBulk y1.1 ≤ Rows.uptoBulkAll ([y0, y1].map fun x => x.1) := part_le (List.mem_map_of_mem (by simp))
  obtain ⟨fo, l1, cf, rfl, h1, h2⟩ := fields_at 1048576 (Nat.le_refl _) (d := y0.1) (p := y0.2) f0 (by omega)
  obtain ⟨no, l2, cn, rfl, h3⟩ := notes_at (d := y1.1) (p := y1.2) f1 (by omega)
  exact ⟨fo, l1, cf, no, l2, cn, rfl, h2, h1, h3⟩
set_option maxRecDepth 100000 in
/-- whole numbers, read -/
theorem zs_at {H : Type} {enc : TypeId × Value → H} {W : World} {fuel : Nat} {v : Value} {d : DataW H} {p : List MemPlace}
    (h : DataW.trod enc Tryd.prog W 0 (fun _ => true) true fuel 30 [v] = some (d, p)) (hb : Rows.uptoBulk d ≤ 1048576) : ∃ ao l ca, v = .slice ao (l : List Int).length ca ∧ l.length ≤ Kit.big ∧ Kit.ZsAt W ao l := by
  rcases open_slice Tryd.underlying30 h with ⟨hcs, _⟩ | ⟨a, len, cap, m, n, D, Pl, hcs, _, hl, hm, hmm, hx, hc⟩
  · simp at hcs
    subst hcs
    exact ⟨none, [], 0, rfl, by simp [Kit.big], fun h => absurd rfl h⟩
  · simp at hcs
    subst hcs
    simp only [if_true] at hmm
    subst hmm
    simp only [Prod.mk.injEq] at hx
    have hlen : len ≤ 1048576 := by
      rw [hx.1] at hb
      simp only [Rows.uptoBulk] at hb
      have := length_le ((List.range len).map D)
      simp at this
      omega
    have hall : ∀ i, i < len → ∃ q : Int, W.cells? 0 (a.add (i * 1)) 1 = some [.int .i64 q] := by
      intro i hi
      obtain ⟨cs', hc', ht⟩ := hc i (by omega)
      rw [cells3] at hc'
      obtain ⟨_, hl', _⟩ := World.cells?_some hc'
      obtain ⟨c0, rfl⟩ := List.length_eq_one_iff.1 hl'
      obtain ⟨s0, e0, _⟩ := DataW.trod_int Tryd.underlying3 ht
      simp at e0
      subst e0
      exact ⟨s0, hc'⟩
    obtain ⟨F, hF⟩ := choose_lt hall
    refine ⟨some a, (List.range len).map F, m, by simp, by simp [Kit.big]; omega, fun h0 => ?_⟩
    have h0' : 0 < len := by cases len with | zero => simp at h0 | succ n => omega
    obtain ⟨b, off, spot⟩ := a
    have hsp : spot = none := by
      obtain ⟨_, hl', hcell'⟩ := World.cells?_some (hF 0 h0')
      have g0 := hcell' 0 (by omega)
      have hsp := World.cell?_spot (g0.trans rfl)
      simp [Addr.add] at hsp
      exact hsp
    subst hsp
    refine ⟨b, off, rfl, fun i hi => ?_⟩
    simp at hi
    have he : ((List.range len).map F)[i]'(by simpa using hi) = F i := by simp
    rw [he]
    obtain ⟨_, _, hcell⟩ := World.cells?_some (hF i hi)
    rw [add0] at hcell
    have g0 := hcell 0 (by omega)
    simp only [add0, Nat.add_zero, Nat.mul_one, List.getElem?_cons_zero] at g0
    exact g0
set_option maxRecDepth 100000 in
/-- ways, read -/
theorem ways_at {H : Type} {enc : TypeId × Value → H} {W : World} {fuel : Nat} {v : Value} {d : DataW H} {p : List MemPlace}
    (h : DataW.trod enc Tryd.prog W 0 (fun _ => true) true fuel 64 [v] = some (d, p)) (hb : Rows.uptoBulk d ≤ 1048576) : ∃ ao l ca, v = .slice ao (l : List (List Int)).length ca ∧ l.length ≤ Kit.big ∧ Kit.WaysAt W ao l := by
  rcases open_slice Tryd.underlying64 h with ⟨hcs, _⟩ | ⟨a, len, cap, m, n, D, Pl, hcs, _, hl, hm, hmm, hx, hc⟩
  · simp at hcs
    subst hcs
    exact ⟨none, [], 0, rfl, by simp [Kit.big], fun h => absurd rfl h⟩
  · simp at hcs
    subst hcs
    simp only [if_true] at hmm
    subst hmm
    simp only [Prod.mk.injEq] at hx
    have hb' : Rows.uptoBulkAll ((List.range len).map D) ≤ 1048576 := by
      rw [hx.1] at hb
      simp only [Rows.uptoBulk] at hb
      omega
    have hlen : len ≤ 1048576 := by
      have := length_le ((List.range len).map D)
      simp at this
      omega
    have hall : ∀ i, i < len → ∃ q : List Int, ∃ po pc, W.cells? 0 (a.add (i * 1)) 1 = some [.slice po q.length pc] ∧ q.length ≤ Kit.big ∧ Kit.ZsAt W po q := by
      intro i hi
      obtain ⟨cs', hc', ht⟩ := hc i (by omega)
      rw [cells30] at hc'
      obtain ⟨_, hl', _⟩ := World.cells?_some hc'
      obtain ⟨c0, rfl⟩ := List.length_eq_one_iff.1 hl'
      have hbi := part_le (List.mem_map_of_mem (f := D) (List.mem_range.2 hi))
      obtain ⟨po, q, pc, rfl, h1, h2⟩ := zs_at ht (by omega)
      exact ⟨q, po, pc, hc', h1, h2⟩
    obtain ⟨F, hF⟩ := choose_lt hall
    refine ⟨some a, (List.range len).map F, m, by simp, by simp [Kit.big]; omega, fun h0 => ?_⟩
    have h0' : 0 < len := by cases len with | zero => simp at h0 | succ n => omega
    obtain ⟨b, off, spot⟩ := a
    have hsp : spot = none := by
      obtain ⟨_, _, hc0, _⟩ := hF 0 h0'
      obtain ⟨_, hl', hcell'⟩ := World.cells?_some hc0
      have g0 := hcell' 0 (by omega)
      have hsp := World.cell?_spot (g0.trans rfl)
      simp [Addr.add] at hsp
      exact hsp
    subst hsp
    refine ⟨b, off, rfl, fun i hi => ?_⟩
    simp at hi
    have he : ((List.range len).map F)[i]'(by simpa using hi) = F i := by simp
    rw [he]
    obtain ⟨po, pc, hc', h1, h2⟩ := hF i hi
    obtain ⟨_, _, hcell⟩ := World.cells?_some hc'
    rw [add0] at hcell
    have g0 := hcell 0 (by omega)
    simp only [add0, Nat.add_zero, Nat.mul_one, List.getElem?_cons_zero] at g0
    exact ⟨po, pc, g0, h1, h2⟩
end Go.Proofs.YtffmppnlddphaaaDoor.kindR
