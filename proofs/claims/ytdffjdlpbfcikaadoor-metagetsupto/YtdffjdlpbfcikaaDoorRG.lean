import Derived.Test.YtdffjdlpbfcikaaDoorRD
namespace Go.Proofs.YtdffjdlpbfcikaaDoor.Kit
open Go.RowKit Go.Shelf Go.Deep
set_option linter.unusedVariables false
attribute [local go_sem] run_store_func

/-! ### a list of fields that grows -/
abbrev FE := FT × Option Addr × Nat
def fcel (e : FE) : List Value := [.string e.1.name, .bool e.1.nul, .int .i64 e.1.kind, .int .i64 e.1.width, .int .i64 e.1.id, .int .i64 e.1.index, .slice e.2.1 e.1.kids.length e.2.2]
theorem flat7 : ∀ (l : List FE) (i : Nat) (h : i < l.length) (j : Nat), j < 7 → (l.flatMap fcel)[i * 7 + j]? = (fcel l[i])[j]?
  | e :: l, 0, h, j, hj => by
    rw [List.flatMap_cons, List.getElem?_append_left (by show _ < 7; omega)]
    simp
  | e :: l, i + 1, h, j, hj => by
    rw [List.flatMap_cons, List.getElem?_append_right (by show 7 ≤ _; omega)]
    have := flat7 l i (by simpa using h) j hj
    rw [show (i + 1) * 7 + j - (fcel e).length = i * 7 + j by show _ - 7 = _; omega, this]
    simp
/-- a field as a value; its children are new since W -/
def FV (d : Nat) (W w' : World) (f : FT) (v : Value) : Prop := ∃ ko kc, v = .agg #[.string f.name, .bool f.nul, .int .i64 f.kind, .int .i64 f.width, .int .i64 f.id, .int .i64 f.index, .slice ko f.kids.length kc] ∧ f.kids.length ≤ kc ∧ RowAt (fun b => W.heap.size ≤ b ∧ b < w'.heap.size) w' d ko f.kids
structure FL (W w' : World) (d : Nat) (l : List FE) (vo : Option Addr) (vc : Nat) : Prop where
  row : LAt W w' 80 7 fcel l vo vc
  kids : ∀ e ∈ l, e.1.kids.length ≤ e.2.2 ∧ RowAt (fun b => W.heap.size ≤ b ∧ b < w'.heap.size ∧ (Value.slice vo l.length vc).ownBlock ≠ some b) w' d e.2.1 e.1.kids
theorem FL.nil (W w' : World) (d : Nat) : FL W w' d [] none 0 := ⟨LAt.nil _ _ _ _ _, fun e h => by cases h⟩
theorem FL.kp {W U U' : World} {d : Nat} {l : List FE} {vo : Option Addr} {vc p : Nat} (h : FL W U d l vo vc) (k : Keeps U U' (fun z => z = p)) (hp : p < W.heap.size) : FL W U' d l vo vc :=
  ⟨h.row.kp k hp, fun e he => ⟨(h.kids e he).1, ((h.kids e he).2.kept fun b hb => k.block b hb.2.1 (by omega)).mono fun b hb => ⟨hb.1, Nat.lt_of_lt_of_le hb.2.1 k.size, hb.2.2⟩⟩⟩
/-- one more -/
theorem FL.push {W wr U w1 : World} {d : Nat} {l : List FE} {vo vo' : Option Addr} {vc vc' n : Nat} {x : FT} {ko : Option Addr} {kc : Nat} {ob : Obj} (hW : W.heap.size ≤ wr.heap.size) (hU : wr.heap.size ≤ U.heap.size) (h0 : FL W wr d l vo vc) (h : FL W U d l vo vc) (hl : l.length = n) (hk : x.kids.length ≤ kc) (hr : RowAt (fun b => wr.heap.size ≤ b ∧ b < U.heap.size) U d ko x.kids)
    (hown : w1.ownsRow 0 80 7 (.slice vo' (n + 1) vc') (n + 1) (l.flatMap fcel ++ fcel (x, ko, kc))) (hgrow : (U.alloc ob).grownBy w1 (Value.slice vo n vc).ownBlock) (hblk : (Value.slice vo' (n + 1) vc').ownBlock = (Value.slice vo n vc).ownBlock ∨ ∀ g, (Value.slice vo' (n + 1) vc').ownBlock = some g → (U.alloc ob).heap.size ≤ g) :
    FL W w1 d (l ++ [(x, ko, kc)]) vo' vc' := by
  subst hl
  have gA : Gr U (U.alloc ob) := gr_alloc U _
  have sA := gA.size
  have kA : Keeps U w1 (fun z => (Value.slice vo l.length vc).ownBlock = some z) := (gA.mono fun _ _ h => h.elim).trans (Keeps.ofGrown hgrow) (fun _ _ h => h)
  have hL : (l ++ [(x, ko, kc)]).length = l.length + 1 := by simp
  refine ⟨⟨?_, fun g e => ?_⟩, fun e he => ?_⟩
  · rw [hL, List.flatMap_append]; simpa using hown
  · rw [hL] at e
    refine hblk.elim (fun q => h.row.new g (q ▸ e)) fun q => ?_
    have a1 := q g e
    omega
  · rw [hL]
    have hne : ∀ b, (W.heap.size ≤ b ∧ b < U.heap.size) → (Value.slice vo l.length vc).ownBlock ≠ some b → (Value.slice vo' (l.length + 1) vc').ownBlock ≠ some b := fun b hb hb' e => by
      rcases hblk with q | q
      · exact hb' (q ▸ e)
      · have := q b e; omega
    rcases List.mem_append.1 he with he | he
    · refine ⟨(h.kids e he).1, ((h.kids e he).2.kept fun b hb => kA.block b hb.2.1 hb.2.2).mono fun b hb => ⟨hb.1, Nat.lt_of_lt_of_le hb.2.1 kA.size, hne b ⟨hb.1, hb.2.1⟩ hb.2.2⟩⟩
    · have e' : e = (x, ko, kc) := by simpa using he
      subst e'
      have hn0 : ∀ b, wr.heap.size ≤ b → (Value.slice vo l.length vc).ownBlock ≠ some b := fun b hb e => by have := own_lt h0.row.own b e; omega
      exact ⟨hk, (hr.kept fun b hb => kA.block b hb.2 (hn0 b hb.1)).mono fun b hb => ⟨by omega, Nat.lt_of_lt_of_le hb.2 kA.size, hne b ⟨by omega, hb.2⟩ (hn0 b hb.1)⟩⟩
/-- as a list of fields -/
theorem FL.rowAt {W w' : World} {d : Nat} {l : List FE} {vo : Option Addr} {vc : Nat} (h : FL W w' d l vo vc) (hb : l.length ≤ big) : l.length ≤ vc ∧ RowAt (fun b => W.heap.size ≤ b ∧ b < w'.heap.size) w' (d + 1) vo (l.map (·.1)) := by
  rcases h.row.own.2 with ⟨e, h0⟩ | ⟨g, cap, cur, e, h1, h2, h3, h4⟩
  · have : l = [] := List.length_eq_zero_iff.1 h0
    subst this
    exact ⟨Nat.zero_le _, by simp [big], fun hn => absurd rfl hn⟩
  · cases e
    refine ⟨by omega, by simpa using hb, fun hn => ⟨g, 0, rfl, ⟨h.row.new g rfl, own_lt h.row.own g rfl⟩, fun i hi => ?_⟩⟩
    have hil : i < l.length := by simpa using hi
    have hm := h.kids l[i] (List.getElem_mem hil)
    have hc : ∀ j, j < 7 → w'.cell? ⟨g, i * 7 + j, none⟩ = (fcel l[i])[j]? := fun j hj => by
      rw [h.row.own.cellAt (i * 7 + j) (by omega), flat7 l i hil j hj]
    refine ⟨l[i].2.1, l[i].2.2, ?_, by rw [List.getElem_map]; exact hm.1, by rw [List.getElem_map]; exact hm.2.mono fun b hb => ⟨hb.1, hb.2.1⟩⟩
    rw [Nat.zero_add, List.getElem_map]
    exact ⟨hc 0 (by omega), hc 1 (by omega), hc 2 (by omega), hc 3 (by omega), hc 4 (by omega), hc 5 (by omega), hc 6 (by omega)⟩
end Go.Proofs.YtdffjdlpbfcikaaDoor.Kit
namespace Go.Proofs.YtdffjdlpbfcikaaDoor.Kit
open Go.RowKit Go.Shelf Go.Deep
set_option linter.unusedVariables false
attribute [local go_sem] run_store_func

/-! ### several fields 74 -/
theorem info80 : (Tryd.prog.info? 80).map (fun i => (i.zero, i.size, i.bytes)) = some (some (.agg #[.string ⟨#[]⟩, .bool false, .int .i64 0, .int .i64 0, .int .i64 0, .int .i64 0, .slice none 0 0]), 7, 80) := by kernel_rfl
theorem src80 (w : World) (x : FT) (ko : Option Addr) (kc : Nat) : Src Tryd.prog 7 23 (.slice (some ⟨w.heap.size, 0, none⟩) 1 1) 1 (fcel (x, ko, kc)) (w.alloc (.cells #[Value.string x.name, .bool x.nul, .int .i64 x.kind, .int .i64 x.width, .int .i64 x.id, .int .i64 x.index, .slice ko x.kids.length kc] 80)) := by
  refine Src.ofSlice (w := w.alloc (.cells #[Value.string x.name, .bool x.nul, .int .i64 x.kind, .int .i64 x.width, .int .i64 x.id, .int .i64 x.index, .slice ko x.kids.length kc] 80)) Tryd.underlying23 ⟨w.heap.size, 0, none⟩ 1 1 (fcel (x, ko, kc)) (by simp [fcel]) (fun j v hj => ?_) (fun v hv => by simp [fcel] at hv; rcases hv with rfl | rfl | rfl | rfl | rfl | rfl | rfl <;> rfl)
  have hb' := heap_alloc_new w (.cells #[Value.string x.name, .bool x.nul, .int .i64 x.kind, .int .i64 x.width, .int .i64 x.id, .int .i64 x.index, .slice ko x.kids.length kc] 80)
  have e : (⟨w.heap.size, 0, none⟩ : Addr).add j = ⟨w.heap.size, j, none⟩ := by cases j <;> simp [Addr.add]
  rw [e]
  simp only [World.cell?, hb']
  simpa [fcel] using hj
set_option maxRecDepth 100000 in
set_option maxHeartbeats 4000000 in
theorem fields74 (p : Nat) (bo : Option Addr) (B : List UInt8) (bc n d rb lb : Nat) (lev : Int) (r : Rd FT) (hn : n ≤ 65535)
    (hone : ∀ W a g, RAt W p bo B bc a g → W.heap[rb]? = some (.cells #[.pointer (some ⟨p, 0, none⟩)] 72 (0, 0)) ∧ W.heap[lb]? = some (.cells #[.int .i64 lev] 3 (0, 0)) → Calls Tryd.prog 75 #[.pointer (some ⟨rb, 0, none⟩), .pointer (some ⟨lb, 0, none⟩)] W (RdQ W p bo B bc (r (a, g)) (FV d W))) :
    ∀ W a g, RAt W p bo B bc a g → W.heap[rb]? = some (.cells #[.pointer (some ⟨p, 0, none⟩)] 72 (0, 0)) ∧ W.heap[lb]? = some (.cells #[.int .i64 lev] 3 (0, 0)) → (rb ≠ p ∧ lb ≠ p) → Calls Tryd.prog 74 #[.int .i64 (n : Int), .func (.func 75) #[] #[.pointer (some ⟨rb, 0, none⟩), .pointer (some ⟨lb, 0, none⟩)]] W (RdQ W p bo B bc (sevR n r (a, g)) (fun w' l v => ∃ vo vc, v = .slice vo l.length vc ∧ l.length ≤ vc ∧ RowAt (fun b => W.heap.size ≤ b ∧ b < w'.heap.size) w' (d + 1) vo l)) := by
  intro W a0 g0 hR hbx hne
  obtain ⟨R, hRes⟩ : ∃ R, R = sevR n r (a0, g0) := ⟨_, rfl⟩
  rw [← hRes]
  have HP := hidM hR.lt
  have HN := hidM hone
  have HR0 := hidM hR
  have HX0 := hidM hbx
  have HNe := hidM hne
  have HS0 : Hid (sevK r (n - 0) (([] : List FE).map (·.1)) (a0, g0) = R) := by rw [hRes]; rfl
  clear hR hRes hone hbx hne
  go_enter Tryd.func74, Tryd.ntmps74
  go_wp2_with fail
  go_loopw [5, 7] (fun l i wr => ∃ (k : Nat) (acc : List FE) (a g : Nat) (vo : Option Addr) (vc : Nat), k ≤ n ∧ i = .int .i64 (k : Int) ∧ l = .slice vo k vc ∧ Hid (acc.length = k) ∧ Hid (FL W wr d acc vo vc) ∧ Hid (RAt wr p bo B bc a g) ∧ Hid (Keeps W wr (fun z => z = p)) ∧ Hid (sevK r (n - k) (acc.map (·.1)) (a, g) = R)) (fun _ i _ => n - (intOf i).toNat)
  case atStart => exact ⟨0, [], a0, g0, none, 0, Nat.zero_le _, rfl, rfl, rfl, FL.nil _ _ _, HR0.out, Keeps.refl _ _, HS0.out⟩
  case round =>
    obtain ⟨k, acc, a, g, vo, vc, hk, rfl, rfl, HL, HA, HR, HG, HS⟩ := hrel
    by_cases hlt : k < n
    · have hltI : (k : Int) < (n : Int) := by omega
      have HX : Hid (wr.heap[rb]? = some (.cells #[.pointer (some ⟨p, 0, none⟩)] 72 (0, 0)) ∧ wr.heap[lb]? = some (.cells #[.int .i64 lev] 3 (0, 0))) := ⟨(HG.out.block rb (lt_of_heap HX0.out.1) HNe.out.1).trans HX0.out.1, (HG.out.block lb (lt_of_heap HX0.out.2) HNe.out.2).trans HX0.out.2⟩
      go_wp2_with (go_at_call 75; refine Hid.out ?_)
      unfold Hid
      have hq := HN.out _ _ _ HR.out HX.out
      cases hr : r (a, g) with
      | error er =>
        rw [hr] at hq
        refine Calls.mono hq ?_
        rintro e' U ⟨hk', rfl⟩
        have HGe := hidM (HG.out.trans hk' (fun _ _ h => h))
        have Hr := hidM hr
        clear hk' hq hr
        go_wp2_with fail
        exact ⟨rfl, RdQ.err HGe.out (HS.out.symm.trans (sevK_err hlt Hr.out))⟩
      | ok q =>
        obtain ⟨x, a1, g1⟩ := q
        rw [hr] at hq
        refine Calls.mono hq ?_
        rintro e' U ⟨hk', v, rfl, ⟨ko, kc, rfl, hkc, hrow⟩, hR⟩
        have HA1 := hidM (HA.out.kp hk' HP.out)
        have HG1 := hidM (HG.out.trans hk' (fun _ _ h => h))
        have HR1 := hidM hR
        have HS1 : Hid (sevK r (n - (k + 1)) ((acc ++ [(x, ko, kc)]).map (·.1)) (a1, g1) = R) := by show _ = _; rw [List.map_append]; exact (sevK_ok hlt hr).symm.trans HS.out
        have HKd := hidM (And.intro hkc hrow)
        have HWs := hidM (And.intro HG.out.size hk'.size)
        have HSr := hidM (src80 U x ko kc)
        have HO : Hid ((U.alloc (.cells #[Value.string x.name, .bool x.nul, .int .i64 x.kind, .int .i64 x.width, .int .i64 x.id, .int .i64 x.index, .slice ko x.kids.length kc] 80)).ownsRow 0 80 7 (.slice vo k vc) k (acc.flatMap fcel)) := by have := HA1.out.row.own.alloc (.cells #[Value.string x.name, .bool x.nul, .int .i64 x.kind, .int .i64 x.width, .int .i64 x.id, .int .i64 x.index, .slice ko x.kids.length kc] 80); rwa [HL.out] at this
        clear hk' hq hr hR HR HG HS hkc hrow HX
        go_wp2_with (with_reducible show wpList Tryd.prog _ _ (Oper.mk (some 13) _ _ _ _ _ :: _) _ _; refine Hid.out ?_)
        unfold Hid
        refine wpList_append_anyN (P := Tryd.prog) _ rfl (.tmp 9) (.tmp 12) 23 23 rfl 80 (.agg #[.string ⟨#[]⟩, .bool false, .int .i64 0, .int .i64 0, .int .i64 0, .int .i64 0, .slice none 0 0]) 7 80 Tryd.underlying23 info80 rfl _ _ _ rfl HO.out _ _ _ rfl HSr.out (by omega) (by omega) ?_
        refine Hid.out ?_
        unfold Hid
        intro v' w1 hown hgrow hblk
        obtain ⟨vo', vc', rfl⟩ := own_formK hown
        have gA : Gr U (U.alloc (.cells #[Value.string x.name, .bool x.nul, .int .i64 x.kind, .int .i64 x.width, .int .i64 x.id, .int .i64 x.index, .slice ko x.kids.length kc] 80)) := gr_alloc U _
        have kA : Keeps U w1 (fun z => (Value.slice vo k vc).ownBlock = some z) := (gA.mono fun _ _ h => h.elim).trans (Keeps.ofGrown hgrow) (fun _ _ h => h)
        have hnew : ∀ g, (Value.slice vo k vc).ownBlock = some g → W.heap.size ≤ g := fun g e => HA1.out.row.new g (by rw [HL.out]; exact e)
        have kW : Keeps W w1 (fun z => z = p) := HG1.out.trans kA (fun j hj h => by have := hnew j h; omega)
        have HR2 := hidM (RAt.over HR0.out HR1.out kW (kA.block p (lt_of_heap HR1.out.box) (fun h => by have := hnew p h; have := HP.out; omega)))
        have HG2 := hidM kW
        have HL2 : Hid ((acc ++ [(x, ko, kc)]).length = k + 1) := by show _ = _; rw [List.length_append, HL.out]; rfl
        have HA2 := hidM (FL.push HWs.out.1 HWs.out.2 HA.out HA1.out HL.out HKd.out.1 HKd.out.2 hown hgrow hblk)
        clear hown hgrow hblk gA kA hnew kW HO HSr HA1 HA HKd HWs
        go_wp2_with fail
        go_roundw
        case rel => exact ⟨k + 1, acc ++ [(x, ko, kc)], a1, g1, vo', vc', by omega, by simp, rfl, HL2.out, HA2.out, HR2.out, HG2.out, HS1.out⟩
        case measure => simp [intOf]; omega
    · have hkn : k = n := by omega
      subst hkn
      have hltI : ¬ (k : Int) < (k : Int) := by omega
      go_wp2_with fail
      go_ret
      have hE : R = .ok (acc.map (·.1), (a, g)) := HS.out.symm.trans sevK_end
      have hv : Value.slice vo k vc = .slice vo (acc.map (·.1)).length vc := by rw [List.length_map, HL.out]
      have hrow := HA.out.rowAt (by rw [HL.out]; show _ ≤ 1000000000000; omega)
      exact RdQ.ok HG.out hE ⟨vo, vc, hv, by rw [List.length_map]; exact hrow.1, hrow.2⟩ HR.out
end Go.Proofs.YtdffjdlpbfcikaaDoor.Kit
namespace Go.Proofs.YtdffjdlpbfcikaaDoor.Kit
open Go.RowKit Go.Shelf Go.Deep
set_option linter.unusedVariables false
attribute [local go_sem] run_store_func

/-! ### the closure 75 and fields 59 -/
set_option maxHeartbeats 2000000 in
theorem put7_box {V : World} {Y t : Nat} {x0 x1 x2 x3 x4 x5 x6 : Value} (y0 y1 y2 y3 y4 y5 y6 : Value) (h : V.heap[Y]? = some (.cells #[x0, x1, x2, x3, x4, x5, x6] t (0, 0))) : (((((((V.setCell ⟨Y, 0, none⟩ y0).setCell ⟨Y, 1, none⟩ y1).setCell ⟨Y, 2, none⟩ y2).setCell ⟨Y, 3, none⟩ y3).setCell ⟨Y, 4, none⟩ y4).setCell ⟨Y, 5, none⟩ y5).setCell ⟨Y, 6, none⟩ y6).heap[Y]? = some (.cells #[y0, y1, y2, y3, y4, y5, y6] t (0, 0)) := by
  have h0 : (V.setCell ⟨Y, 0, none⟩ y0).heap[Y]? = some (.cells #[y0, x1, x2, x3, x4, x5, x6] t (0, 0)) := heap_setCell_same _ Y 0 _ _ y0 h
  have h1 : ((V.setCell ⟨Y, 0, none⟩ y0).setCell ⟨Y, 1, none⟩ y1).heap[Y]? = some (.cells #[y0, y1, x2, x3, x4, x5, x6] t (0, 0)) := heap_setCell_same _ Y 1 _ _ y1 h0
  have h2 : (((V.setCell ⟨Y, 0, none⟩ y0).setCell ⟨Y, 1, none⟩ y1).setCell ⟨Y, 2, none⟩ y2).heap[Y]? = some (.cells #[y0, y1, y2, x3, x4, x5, x6] t (0, 0)) := heap_setCell_same _ Y 2 _ _ y2 h1
  have h3 : ((((V.setCell ⟨Y, 0, none⟩ y0).setCell ⟨Y, 1, none⟩ y1).setCell ⟨Y, 2, none⟩ y2).setCell ⟨Y, 3, none⟩ y3).heap[Y]? = some (.cells #[y0, y1, y2, y3, x4, x5, x6] t (0, 0)) := heap_setCell_same _ Y 3 _ _ y3 h2
  have h4 : (((((V.setCell ⟨Y, 0, none⟩ y0).setCell ⟨Y, 1, none⟩ y1).setCell ⟨Y, 2, none⟩ y2).setCell ⟨Y, 3, none⟩ y3).setCell ⟨Y, 4, none⟩ y4).heap[Y]? = some (.cells #[y0, y1, y2, y3, y4, x5, x6] t (0, 0)) := heap_setCell_same _ Y 4 _ _ y4 h3
  have h5 : ((((((V.setCell ⟨Y, 0, none⟩ y0).setCell ⟨Y, 1, none⟩ y1).setCell ⟨Y, 2, none⟩ y2).setCell ⟨Y, 3, none⟩ y3).setCell ⟨Y, 4, none⟩ y4).setCell ⟨Y, 5, none⟩ y5).heap[Y]? = some (.cells #[y0, y1, y2, y3, y4, y5, x6] t (0, 0)) := heap_setCell_same _ Y 5 _ _ y5 h4
  have h6 : (((((((V.setCell ⟨Y, 0, none⟩ y0).setCell ⟨Y, 1, none⟩ y1).setCell ⟨Y, 2, none⟩ y2).setCell ⟨Y, 3, none⟩ y3).setCell ⟨Y, 4, none⟩ y4).setCell ⟨Y, 5, none⟩ y5).setCell ⟨Y, 6, none⟩ y6).heap[Y]? = some (.cells #[y0, y1, y2, y3, y4, y5, y6] t (0, 0)) := heap_setCell_same _ Y 6 _ _ y6 h5
  exact h6
theorem put7_keeps (V : World) (Y : Nat) (y0 y1 y2 y3 y4 y5 y6 : Value) : Keeps V (((((((V.setCell ⟨Y, 0, none⟩ y0).setCell ⟨Y, 1, none⟩ y1).setCell ⟨Y, 2, none⟩ y2).setCell ⟨Y, 3, none⟩ y3).setCell ⟨Y, 4, none⟩ y4).setCell ⟨Y, 5, none⟩ y5).setCell ⟨Y, 6, none⟩ y6) (fun z => z = Y) :=
  (((((((Keeps.refl V (fun z => z = Y)).setCell (p := ⟨Y, 0, none⟩) (fun _ => rfl) _).setCell (p := ⟨Y, 1, none⟩) (fun _ => rfl) _).setCell (p := ⟨Y, 2, none⟩) (fun _ => rfl) _).setCell (p := ⟨Y, 3, none⟩) (fun _ => rfl) _).setCell (p := ⟨Y, 4, none⟩) (fun _ => rfl) _).setCell (p := ⟨Y, 5, none⟩) (fun _ => rfl) _).setCell (p := ⟨Y, 6, none⟩) (fun _ => rfl) _
theorem results_cell80 {fn : Func} {t : Tmp} {tmps : Array Value} {g : Nat} {cs : Array Value} {w : World} (h : fn.results = #[.cell t 80]) (ht : tmps.getD t undef = .pointer (some ⟨g, 0, none⟩)) (hg : w.heap[g]? = some (.cells cs 80 (0, 0))) (hi : (Tryd.prog.info? 80).map (·.size) = some cs.size) :
    (results fn tmps).run Tryd.prog w = .ok (.agg cs) w := by
  have hl := run_loadVar_row (P := Tryd.prog) w g 80 80 cs (0, 0) _ hg Tryd.underlying80 rfl hi
  unfold results
  rw [h]
  simp only [Array.mapM_eq_mapM_toList, List.mapM_cons, List.mapM_nil, ht]
  simp [asAddr, hl]
set_option maxRecDepth 100000 in
set_option maxHeartbeats 4000000 in
theorem one75 (p : Nat) (bo : Option Addr) (B : List UInt8) (bc d rb lb : Nat) (lev : Int) (r : Rd FT) (h76 : RdC p bo B bc 76 #[.pointer (some ⟨p, 0, none⟩), .int .i64 lev] r (FV d)) :
    ∀ W a g, RAt W p bo B bc a g → W.heap[rb]? = some (.cells #[.pointer (some ⟨p, 0, none⟩)] 72 (0, 0)) ∧ W.heap[lb]? = some (.cells #[.int .i64 lev] 3 (0, 0)) → Calls Tryd.prog 75 #[.pointer (some ⟨rb, 0, none⟩), .pointer (some ⟨lb, 0, none⟩)] W (RdQ W p bo B bc (r (a, g)) (FV d W)) := by
  intro W a g hR hbx
  obtain ⟨R, hRes⟩ : ∃ R, R = r (a, g) := ⟨_, rfl⟩
  rw [← hRes]
  obtain ⟨V0, hV0⟩ : ∃ V0, W.alloc (.cells #[.string ⟨#[]⟩, .bool false, .int .i64 0, .int .i64 0, .int .i64 0, .int .i64 0, .slice none 0 0] 80) = V0 := ⟨_, rfl⟩
  have g0' : Gr W V0 := by rw [← hV0]; exact gr_alloc W _
  have HBx0 : Hid (V0.heap[W.heap.size]? = some (.cells #[.string ⟨#[]⟩, .bool false, .int .i64 0, .int .i64 0, .int .i64 0, .int .i64 0, .slice none 0 0] 80 (0, 0))) := by show _ = _; rw [← hV0]; exact heap_alloc_new W _
  have HR00 := hidM hR
  have HG0 : Hid (Keeps W V0 (fun z => z = p)) := g0'.mono fun _ _ h => h.elim
  have hq := h76 V0 a g (hR.gr g0')
  rw [← hRes] at hq
  have HQ := hidM hq
  have HNe : Hid (p < W.heap.size) := hR.lt
  have HSz : Hid (W.heap.size ≤ V0.heap.size) := g0'.size
  have c1 : V0.cell? ⟨rb, 0, none⟩ = some (.pointer (some ⟨p, 0, none⟩)) := g0'.cell' (by simp [World.cell?, hbx.1]) id
  have c2 : V0.cell? ⟨lb, 0, none⟩ = some (.int .i64 lev) := g0'.cell' (by simp [World.cell?, hbx.2]) id
  obtain ⟨b, hb⟩ : ∃ b, b = W.heap.size := ⟨_, rfl⟩
  have HV := hidM hV0
  clear hq hR hbx g0' hRes
  go_enter Tryd.func75, Tryd.ntmps75
  go_wp2_with (go_at_call 76; refine Hid.out ?_)
  unfold Hid
  try rw [HV.out]
  rw [← hb]
  rw [← hb] at HBx0 HNe
  have HB := hidM hb
  clear HV hb hV0 c1 c2
  cases R with
  | error er =>
    refine Calls.mono HQ.out ?_
    rintro e' U ⟨hk, rfl⟩
    have HGe := hidM (HG0.out.trans hk (fun _ _ h => h))
    clear hk
    go_wp2_with fail
    exact ⟨rfl, RdQ.err HGe.out rfl⟩
  | ok q =>
    obtain ⟨x, a1, g1⟩ := q
    refine Calls.mono HQ.out ?_
    rintro e' U ⟨hk, v, rfl, ⟨ko, kc, rfl, hkc, hrow⟩, hR⟩
    have HBx := hidM ((hk.block b (lt_of_heap HBx0.out) (by have := HNe.out; omega)).trans HBx0.out)
    have HG1 := hidM (HG0.out.trans hk (fun _ _ h => h))
    have HR1 := hidM hR
    have HK := hidM (And.intro hkc hrow)
    have HLt : Hid (b < V0.heap.size) := lt_of_heap HBx0.out
    clear hk hR hkc hrow HBx0 HQ
    have z0 := frz HBx.out 0
    have t0 : U.cell? ⟨b, 0, none⟩ = some (.string ⟨#[]⟩) := by simp [World.cell?, HBx.out]
    have z1 := frz HBx.out 1
    have t1 : U.cell? ⟨b, 1, none⟩ = some (.bool false) := by simp [World.cell?, HBx.out]
    have z2 := frz HBx.out 2
    have t2 : U.cell? ⟨b, 2, none⟩ = some (.int .i64 0) := by simp [World.cell?, HBx.out]
    have z3 := frz HBx.out 3
    have t3 : U.cell? ⟨b, 3, none⟩ = some (.int .i64 0) := by simp [World.cell?, HBx.out]
    have z4 := frz HBx.out 4
    have t4 : U.cell? ⟨b, 4, none⟩ = some (.int .i64 0) := by simp [World.cell?, HBx.out]
    have z5 := frz HBx.out 5
    have t5 : U.cell? ⟨b, 5, none⟩ = some (.int .i64 0) := by simp [World.cell?, HBx.out]
    have z6 := frz HBx.out 6
    have t6 : U.cell? ⟨b, 6, none⟩ = some (.slice none 0 0) := by simp [World.cell?, HBx.out]
    go_wp2_with fail
    have hb3 := put7_box (.string x.name) (.bool x.nul) (.int .i64 x.kind) (.int .i64 x.width) (.int .i64 x.id) (.int .i64 x.index) (.slice ko x.kids.length kc) HBx.out
    have k3 := put7_keeps U b (.string x.name) (.bool x.nul) (.int .i64 x.kind) (.int .i64 x.width) (.int .i64 x.id) (.int .i64 x.index) (.slice ko x.kids.length kc)
    have kW := HG1.out.trans k3 (fun j hj h => by have := HB.out; omega)
    have hrow' := (HK.out.2.kept fun z hz => k3.block z hz.2 (by have := HLt.out; omega)).mono (T := fun z => W.heap.size ≤ z ∧ z < ((((((( U.setCell ⟨b, 0, none⟩ (.string x.name)).setCell ⟨b, 1, none⟩ (.bool x.nul)).setCell ⟨b, 2, none⟩ (.int .i64 x.kind)).setCell ⟨b, 3, none⟩ (.int .i64 x.width)).setCell ⟨b, 4, none⟩ (.int .i64 x.id)).setCell ⟨b, 5, none⟩ (.int .i64 x.index)).setCell ⟨b, 6, none⟩ (.slice ko x.kids.length kc)).heap.size) fun z hz => ⟨by have := HSz.out; omega, Nat.lt_of_lt_of_le hz.2 k3.size⟩
    (try simp only [Exit.inBlock, Exit.then])
    exact bodyPost_ret (results_cell80 rfl rfl hb3 (by kernel_rfl)) rfl (RdQ.ok kW rfl ⟨ko, kc, rfl, HK.out.1, hrow'⟩ (RAt.over HR00.out HR1.out kW (k3.block p (lt_of_heap HR1.out.box) (by have := HNe.out; omega))))
set_option maxRecDepth 100000 in
set_option maxHeartbeats 4000000 in
theorem fields59 (p : Nat) (bo : Option Addr) (B : List UInt8) (bc n d : Nat) (lev : Int) (r : Rd FT) (hn : n ≤ 65535) (h76 : RdC p bo B bc 76 #[.pointer (some ⟨p, 0, none⟩), .int .i64 lev] r (FV d)) :
    RdC p bo B bc 59 #[.pointer (some ⟨p, 0, none⟩), .int .i64 (n : Int), .int .i64 lev] (sevR n r) (fun W w' l v => ∃ vo vc, v = .slice vo l.length vc ∧ l.length ≤ vc ∧ RowAt (fun b => W.heap.size ≤ b ∧ b < w'.heap.size) w' (d + 1) vo l) := by
  intro W a g hR
  obtain ⟨V0, hV0⟩ : ∃ V0, (W.alloc (.cells #[.pointer (some ⟨p, 0, none⟩)] 72)).alloc (.cells #[.int .i64 lev] 3) = V0 := ⟨_, rfl⟩
  have g1' : Gr W (W.alloc (.cells #[.pointer (some ⟨p, 0, none⟩)] 72)) := gr_alloc W _
  have g2' : Gr (W.alloc (.cells #[.pointer (some ⟨p, 0, none⟩)] 72)) V0 := by rw [← hV0]; exact gr_alloc _ _
  have g0' : Gr W V0 := g1'.trans g2' (fun _ _ h => h)
  have hs1 : (W.alloc (.cells #[.pointer (some ⟨p, 0, none⟩)] 72)).heap.size = W.heap.size + 1 := by simp
  have b1 : V0.heap[W.heap.size]? = some (.cells #[.pointer (some ⟨p, 0, none⟩)] 72 (0, 0)) := (g2'.block _ (by omega) id).trans (heap_alloc_new W _)
  have b2 : V0.heap[W.heap.size + 1]? = some (.cells #[.int .i64 lev] 3 (0, 0)) := by have := heap_alloc_new (W.alloc (.cells #[.pointer (some ⟨p, 0, none⟩)] 72)) (.cells #[.int .i64 lev] 3); rw [hs1, hV0] at this; exact this
  have hp := hR.lt
  have HQ := hidM (fields74 p bo B bc n d W.heap.size (W.heap.size + 1) lev r hn (one75 p bo B bc d _ _ lev r h76) V0 a g (hR.gr g0') ⟨b1, b2⟩ ⟨by omega, by omega⟩)
  have HG0 : Hid (Gr W V0) := g0'
  have HV := hidM hV0
  have hmf : ∀ (fn : Fn) (first cap : Array Value) (w : World), (Instr.makeFunc fn first cap).run Tryd.prog w = .ok (.func fn first cap) w := fun _ _ _ _ => rfl
  clear hR hV0 g1' g2' g0' b1 b2 hp hs1 h76
  go_enter Tryd.func59, Tryd.ntmps59
  go_wp2_with (go_at_call 74; refine Hid.out ?_)
  unfold Hid
  rw [HV.out]
  have hq := HQ.out
  cases hr : sevR n r (a, g) with
  | error er =>
    rw [hr] at hq
    refine Calls.mono hq ?_
    rintro e' U ⟨hk, rfl⟩
    have HGe := hidM ((HG0.out.mono fun _ _ h => h.elim).trans hk (fun _ _ h => h))
    have Hr := hidM hr
    clear hk hq hr HQ
    go_wp2_with fail
    exact ⟨rfl, RdQ.err HGe.out Hr.out⟩
  | ok q =>
    obtain ⟨l, a1, g1⟩ := q
    rw [hr] at hq
    refine Calls.mono hq ?_
    rintro e' U ⟨hk, v, rfl, ⟨vo, vc, rfl, hvc, hrow⟩, hR⟩
    have HGe := hidM ((HG0.out.mono fun _ _ h => h.elim).trans hk (fun _ _ h => h))
    have HK := hidM (And.intro hvc hrow)
    have HR1 := hidM hR
    have Hr := hidM hr
    clear hk hq hr HQ hR hvc hrow
    go_wp2_with fail
    go_ret
    exact RdQ.ok HGe.out Hr.out ⟨vo, vc, rfl, HK.out.1, HK.out.2.mono fun z hz => ⟨Nat.le_trans HG0.out.size hz.1, hz.2⟩⟩ HR1.out
end Go.Proofs.YtdffjdlpbfcikaaDoor.Kit
