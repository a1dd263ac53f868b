import Derived.Test.YtfepbpibhcfjdaaDoorSL
namespace Go.Proofs.YtfepbpibhcfjdaaDoor.Kit
open Go.RowKit Go.Shelf Go.Deep
set_option linter.unusedVariables false
attribute [local go_sem] run_store_func

theorem lists_ok {nf : Nat} {l : List (ByteArray × ByteArray)} (h : (listsE nf l).1 = 0) : l.length ≤ 16 ∧ ∀ n ∈ l, n.1.size ≤ 256 ∧ n.2.size ≤ 256 := by
  unfold listsE at h
  split at h
  · simp at h
  split at h
  · simp at h
  split at h
  · simp at h
  rename_i h1 h2
  refine ⟨by omega, fun n hn => ?_⟩
  have hb : noteBad n = false := by
    cases hc : noteBad n with
    | false => rfl
    | true => exact absurd (List.findIdx_lt_length_of_exists ⟨n, hn, hc⟩) h2
  unfold noteBad at hb
  simp at hb
  omega
/-- both Prints tell the same -/
theorem both_print {S : Nat → Prop} {D : Nat} {fo no : Option Addr} {cf cn : Nat} {fs : List FT} {ns : List (ByteArray × ByteArray)} {w : World} (hT : Tab w) (hD : D ≤ big) (hS : ∀ b, S b → b < w.heap.size) (ha : Sch S w D fo no cf cn fs ns) :
    ∃ (t : ByteArray) (e : Int), AnsV 7 #[.agg #[.slice fo fs.length cf, .slice no ns.length cn]] (.tuple #[.string t, .int .i64 e]) w ∧ AnsV 8 #[.agg #[.slice fo fs.length cf, .slice no ns.length cn]] (.tuple #[.string t, .int .i64 e]) w := by
  obtain ⟨er, p, tt, ta⟩ := ha.tells hT hD hS
  by_cases he : er = 0
  · subst he
    obtain ⟨h1, h2⟩ := ta.is.zero
    obtain ⟨hn16, hb⟩ := lists_ok h1
    obtain ⟨hp, hl⟩ := allr_ok h2
    have hsum : ((fs.map (txF (D - 1))).map fun t => t.size + 2).sum ≤ 1000000 := by
      cases D with
      | zero => have : fs = [] := ha.row; simp [this]
      | succ d => have := tx_sum hp; show (((fs.map (txF d))).map fun t => t.size + 2).sum ≤ _; omega
    have hj : (joinB (fs.map (txF (D - 1)))).size ≤ 1000000 := by have := joinB_size (fs.map (txF (D - 1))); omega
    have hnl : (pre D fs).length ≤ 256 := hl
    have hfl : fs.length ≤ 1000000 := by
      have := ha.row.len
      cases D with
      | zero => have : fs = [] := ha.row; simp [this]
      | succ d =>
        have e : pre (d + 1) fs = fs.flatMap fun f => f :: pre d f.kids := rfl
        have hle : ∀ l : List FT, l.length ≤ (l.flatMap fun f => f :: pre d f.kids).length := fun l => by
          induction l with
          | nil => simp
          | cons x l ih => rw [List.flatMap_cons, List.length_append, List.length_cons, List.length_cons]; omega
        have := hle fs
        rw [← e] at this
        omega
    have hus : ((ns.map ntB).map fun t => t.size + 2).sum ≤ 3002 * ns.length := nts_sum hb
    have hju : (joinB (ns.map ntB)).size ≤ 1000000000 := by have := joinB_size (ns.map ntB); omega
    have h23 := fieldTexts_any S D fs fo cf w hT hS ha.row hp hl
    have h24 := noteTexts_any no cn ns w ha.notes hb
    have h26 := fieldsTextR_any S D fs fo cf w hS ha.row hp hl
    refine ⟨_, 0, print_true (ts := fs.map (txF (D - 1))) (us := ns.map ntB) (by simpa using hfl) (by simp) (by simp; omega) (by omega) hju (maybe_gen ta.t11) ?_ ?_, printR_true hj ha.notes hn16 hb ta.t12 h26⟩
    · intro W g
      have := h23 W g
      rw [List.length_map]
      exact this
    · intro W g
      have := h24 W g
      rw [List.length_map]
      exact this
  · have hb : (er == 0) = false := by simpa using he
    have hm := maybe_gen ta.t11
    rw [hb] at hm
    exact ⟨_, _, print_false hm, printR_false he ta.t12⟩
/-- both PrintFields tell the same -/
theorem both_printF {S : Nat → Prop} {d : Nat} {f : FT} {ao : Option Addr} {ca : Nat} {w : World} (hT : Tab w) (h : Fld S w d f ao ca) (hd : d + 1 ≤ big) (hS : ∀ b, S b → b < w.heap.size) :
    ∃ (t : ByteArray) (e : Int), AnsV 9 #[.agg #[.string f.name, .bool f.nul, .int .i64 f.kind, .int .i64 f.width, .int .i64 f.id, .int .i64 f.index, .slice ao f.kids.length ca]] (.tuple #[.string t, .int .i64 e]) w ∧ AnsV 10 #[.agg #[.string f.name, .bool f.nul, .int .i64 f.kind, .int .i64 f.width, .int .i64 f.id, .int .i64 f.index, .slice ao f.kids.length ca]] (.tuple #[.string t, .int .i64 e]) w := by
  obtain ⟨z, h28, h30, hz⟩ := both_field hT h hd hS
  have key : z = true → okF f ∧ (∀ g ∈ pre d f.kids, okF g) ∧ (pre d f.kids).length ≤ 256 := fun e => by
    obtain ⟨h1, h2⟩ := allr_ok (hz e)
    have e1 : pre (d + 1) [f] = f :: pre d f.kids := by
      show ([f].flatMap fun f => f :: pre d f.kids) = _
      simp
    rw [e1] at h1 h2
    refine ⟨h1 f (by simp), fun g hg => h1 g (by simp [hg]), ?_⟩
    simp at h2
    omega
  exact ⟨_, _, printField_any (t := txF d f) h28 fun e => by
      obtain ⟨k1, k2, k3⟩ := key e
      exact fieldText_any S d f ao ca w hT hS h.row k1 k2 k3, printFieldR_any (t := txF d f) h30 fun e => by
      obtain ⟨k1, k2, k3⟩ := key e
      exact fieldTextR_any S d f ao ca w hS h.row k1 k2 k3⟩
theorem row_each {S : Nat → Prop} {w : World} {D : Nat} {fo : Option Addr} {fs : List FT} (h : RowAt S w D fo fs) (hne : fs ≠ []) :
    ∃ d b o, D = d + 1 ∧ fo = some ⟨b, o, none⟩ ∧ ∀ i (h : i < fs.length), ∃ ao' ca', CellsAt w b (o + i * 7) fs[i] ao' ca' ∧ Fld S w d fs[i] ao' ca' := by
  cases D with
  | zero => exact absurd h hne
  | succ d =>
    obtain ⟨b, o, e, _, h⟩ := h.2 hne
    exact ⟨d, b, o, rfl, e, fun i hi => by obtain ⟨a, c, h1, h2, h3⟩ := h i hi; exact ⟨a, c, h1, h3, h2⟩⟩

set_option maxRecDepth 100000 in
set_option maxHeartbeats 4000000 in
theorem prints_any (S : Nat → Prop) (D : Nat) (fo no : Option Addr) (cf cn : Nat) (fs : List FT) (ns : List (ByteArray × ByteArray)) (w : World) (hT : Tab w) (hD : D ≤ big) (hS : ∀ b, S b → b < w.heap.size) (ha : Sch S w D fo no cf cn fs ns) :
    Calls Tryd.prog 3 #[.agg #[.slice fo fs.length cf, .slice no ns.length cn]] w fun e w' => e = .returned (.bool true) ∧ Gr w w' := by
  have HAW := hidM (fun W (g : Gr w W) => awake_any W (hT.gr g))
  obtain ⟨t, e, h7, h8⟩ := both_print hT hD hS ha
  have H7 := hidM h7
  have H8 := hidM h8
  unfold AnsV at H7 H8
  have hlen : fs.length ≤ 1000000000000 := ha.row.len
  have HR : Hid (fs ≠ [] → ∃ b o, fo = some ⟨b, o, none⟩ ∧ ∀ i (h : i < fs.length), ∃ ao' ca' t e, CellsAt w b (o + i * 7) fs[i] ao' ca' ∧ AnsV 9 #[.agg #[.string fs[i].name, .bool fs[i].nul, .int .i64 fs[i].kind, .int .i64 fs[i].width, .int .i64 fs[i].id, .int .i64 fs[i].index, .slice ao' fs[i].kids.length ca']] (.tuple #[.string t, .int .i64 e]) w ∧ AnsV 10 #[.agg #[.string fs[i].name, .bool fs[i].nul, .int .i64 fs[i].kind, .int .i64 fs[i].width, .int .i64 fs[i].id, .int .i64 fs[i].index, .slice ao' fs[i].kids.length ca']] (.tuple #[.string t, .int .i64 e]) w) := fun hne => by
    obtain ⟨d, b, o, hd, e, h⟩ := row_each ha.row hne
    refine ⟨b, o, e, fun i hi => ?_⟩
    obtain ⟨ao', ca', h1, h2⟩ := h i hi
    obtain ⟨t, e, k1, k2⟩ := both_printF hT h2 (by omega) hS
    exact ⟨ao', ca', t, e, h1, k1, k2⟩
  have x1 := World.alloc_heap_new w (.cells #[.slice fo fs.length cf, .slice no ns.length cn] 25)
  have HX := hidM x1
  obtain ⟨L, hL⟩ : ∃ L, L = fs.length := ⟨_, rfl⟩
  rw [← hL] at hlen ⊢
  rw [← hL] at H7 H8 HX
  have HL : Hid (L = fs.length) := hL
  clear h7 h8 x1 hL ha hT hD hS
  go_enter Tryd.func3, Tryd.ntmps3
  go_wp2_with (go_at_call 6; refine Hid.out ?_)
  unfold Hid
  refine Calls.mono (HAW.out _ (gr_alloc w _)) ?_
  rintro e' W1 ⟨rfl, hg1⟩
  have x1 := (hg1.block _ (lt_of_heap HX.out) id).trans HX.out
  obtain ⟨p0, p1⟩ := cell2 x1
  have HG1 := hidM (And.intro ((gr_alloc w _).trans hg1 (fun _ _ h => h)) x1)
  clear hg1 x1 HX HAW
  go_wp2_with (go_at_call 7; refine Hid.out ?_)
  unfold Hid
  refine Calls.mono (H7.out _ HG1.out.1) ?_
  rintro e' W2 ⟨rfl, hg2⟩
  have x1 := (hg2.block _ (lt_of_heap HG1.out.2) id).trans HG1.out.2
  obtain ⟨q0, q1⟩ := cell2 x1
  have HG2 := hidM (And.intro (HG1.out.1.trans hg2 (fun _ _ h => h)) x1)
  clear hg2 x1 p0 p1
  go_wp2_with (go_at_call 8; refine Hid.out ?_)
  unfold Hid
  refine Calls.mono (H8.out _ HG2.out.1) ?_
  rintro e' W3 ⟨rfl, hg3⟩
  have x1 := (hg3.block _ (lt_of_heap HG2.out.2) id).trans HG2.out.2
  obtain ⟨p0, p1⟩ := cell2 x1
  have HG3 := hidM (HG2.out.1.trans hg3 (fun _ _ h => h))
  clear hg3 x1 q0 q1 HG1 HG2 H7 H8
  go_wp2_with fail
  go_loopw [36] (fun i wr => ∃ k : Nat, k ≤ L ∧ i = .int .i64 (k : Int) ∧ Hid (Gr w wr)) (fun i _ => L - (intOf i).toNat)
  case atStart => exact ⟨0, by omega, rfl, HG3.out⟩
  case round =>
    obtain ⟨k, hk, rfl, HK⟩ := hrel
    by_cases hlt : k < L
    · have hkl : k < fs.length := by rw [← HL.out]; exact hlt
      obtain ⟨b, o, rfl, hcs⟩ := HR.out (fun e => by rw [e] at hkl; simp at hkl)
      obtain ⟨ao', ca', t2, e2, hc, h9, h10⟩ := hcs k hkl
      obtain ⟨g0, g1, g2, g3, g4, g5, g6⟩ := hc.kept (HK.out.block b (block_lt_of_cell hc.c0) id)
      have H9 := hidM h9
      have H10 := hidM h10
      unfold AnsV at H9 H10
      generalize fs[k].name = f0 at *
      generalize fs[k].nul = f1 at *
      generalize fs[k].kind = f2 at *
      generalize fs[k].width = f3 at *
      generalize fs[k].id = f4 at *
      generalize fs[k].index = f5 at *
      generalize fs[k].kids.length = f6 at *
      have hltI : (k : Int) < (L : Int) := by omega
      have hbx := World.alloc_heap_new wr (.cells #[.string f0, .bool f1, .int .i64 f2, .int .i64 f3, .int .i64 f4, .int .i64 f5, .slice ao' f6 ca'] 35)
      have HB := hidM hbx
      clear hc hcs h9 h10 hkl hbx
      go_wp2_with (go_at_call 9; refine Hid.out ?_)
      unfold Hid
      refine Calls.mono (H9.out _ (HK.out.alloc _)) ?_
      rintro e' v1 ⟨rfl, hg1⟩
      have x1 := (hg1.block _ (lt_of_heap HB.out) id).trans HB.out
      obtain ⟨y0, y1, y2, y3, y4, y5, y6⟩ := cell7 x1
      have HV1 := hidM ((HK.out.alloc _).trans hg1 (fun _ _ h => h))
      clear hg1 x1 g0 g1 g2 g3 g4 g5 g6
      go_wp2_with (go_at_call 10; refine Hid.out ?_)
      unfold Hid
      refine Calls.mono (H10.out _ HV1.out) ?_
      rintro e' v2 ⟨rfl, hg2⟩
      have HV2 := hidM (HV1.out.trans hg2 (fun _ _ h => h))
      clear hg2 y0 y1 y2 y3 y4 y5 y6 HB HV1
      by_cases h40 : k < 40
      · have h40I : (k : Int) < 40 := by omega
        go_wp2_with fail
        go_roundw
        case rel => exact ⟨k + 1, by omega, by simp, HV2.out⟩
        case measure => simp [intOf]; omega
      · have h40I : ¬ (k : Int) < 40 := by omega
        go_wp2_with fail
        go_roundw
        case rel => exact ⟨k + 1, by omega, by simp, HV2.out⟩
        case measure => simp [intOf]; omega
    · have hltI : ¬ (k : Int) < (L : Int) := by omega
      go_wp2_with fail
      go_ret
      exact ⟨rfl, HK.out⟩
end Go.Proofs.YtfepbpibhcfjdaaDoor.Kit
