import Derived.Test.YtkodgneneiledaaDoorUZ
import Derived.Test.YtkodgneneiledaaDoorKC
namespace Go.Proofs.YtkodgneneiledaaDoor.Kit
open Go.RowKit Go.Shelf Go.Deep
set_option linter.unusedVariables false
attribute [local go_sem] run_store_func

/-! ### there and back, of a schema that may be -/
def okN (g : FT) : Prop := Wd g.name.data.toList ∧ tableB g = true
theorem allr_okN {D : Nat} {l : List FT} {p : List Nat} {q : Bool} (h : AllR (nodes D l p q)) : ∀ g ∈ pre D l, okN g := by
  rw [← nodes_pre D l p q]
  intro g hg
  obtain ⟨s, hs, rfl⟩ := List.mem_map.1 hg
  obtain ⟨k, hk, rfl⟩ := List.mem_iff_getElem.1 hs
  obtain ⟨h1, h2, -⟩ := allr_nd h hk
  refine ⟨⟨fun e => ?_, fun b hb => ?_⟩, h2⟩
  · unfold nameB at h1
    simp only [Bool.and_eq_true, decide_eq_true_eq] at h1
    have h0 := h1.1.1.1
    have : (((nodes D l p q)[k]).fld.name.data.toList).length = 0 := by rw [e]; rfl
    have e2 : ((nodes D l p q)[k]).fld.name.size = (((nodes D l p q)[k]).fld.name.data.toList).length := by simp
    omega
  · unfold nameB at h1
    simp only [Bool.and_eq_true, List.all_eq_true] at h1
    exact h1.2 b hb
theorem okT_of : ∀ (d : Nat) (f : FT), Kit.deep d f.kids → okN f → (∀ g ∈ pre d f.kids, okN g) → OkT d f
  | 0, f, h, hf, _ => ⟨hf.1, hf.2, h⟩
  | d + 1, f, h, hf, hk => ⟨hf.1, hf.2, fun x hx => okT_of d x (h x hx) (hk x (List.mem_flatMap.2 ⟨x, hx, by simp⟩)) fun g hg => hk g (List.mem_flatMap.2 ⟨x, hx, by simp [hg]⟩)⟩
theorem May.okT {l : List FT} {ns : List (ByteArray × ByteArray)} (h : May l ns) : ∀ f ∈ l, OkT 256 f := fun f hf => by
  have hp := allr_okN h.all
  rw [pre_deep 257 (D0 + 1) l h.deep (by show 257 ≤ 65538; omega)] at hp
  exact okT_of 256 f (h.deep f hf) (hp f (List.mem_flatMap.2 ⟨f, hf, by simp⟩)) fun g hg => hp g (List.mem_flatMap.2 ⟨f, hf, by simp [hg]⟩)
theorem joinB_list (ts : List ByteArray) : (joinB ts).data.toList = Lib.join (ts.map (·.data.toList)) [44, 32] := by unfold joinB; simp
theorem May.text {l : List FT} {ns : List (ByteArray × ByteArray)} (h : May l ns) : (scT l ns).data.toList = schL 256 l ns := by
  have hj : (joinB (l.map (txF 256)) = ⟨#[]⟩) ↔ l = [] := by
    constructor
    · intro e
      cases l with
      | nil => rfl
      | cons f l =>
        obtain ⟨c, r, ec, _⟩ := tx_first (h.okT f (by simp))
        have := congrArg (fun b : ByteArray => b.data.toList) e
        rw [joinB_list] at this
        simp only [List.map_cons, Lib.join_cons, ec] at this
        cases this
    · intro e; subst e; rfl
  have em : (l.map (txF 256)).map (·.data.toList) = l.map fun f => (txF 256 f).data.toList := by simp
  have en : (ns.map ntB).map (·.data.toList) = ns.map fun n => (ntB n).data.toList := by simp
  unfold scT prB schL
  by_cases h0 : ns = []
  · subst h0
    simp [joinB_list, em]
  · have h1 : ¬ ns.map ntB = [] := by simpa using h0
    rw [if_neg h1, if_neg h0]
    by_cases h2 : l = []
    · have h3 := hj.2 h2
      rw [if_pos h3, if_pos h2, h3, h2]
      simp [ByteArray.data_append, joinB_list, Lib.join_nil]
      rfl
    · have h3 : ¬ joinB (l.map (txF 256)) = ⟨#[]⟩ := fun e => h2 (hj.1 e)
      rw [if_neg h3, if_neg h2]
      simp [ByteArray.data_append, joinB_list]
      rfl
theorem May.back {l : List FT} {ns : List (ByteArray × ByteArray)} (h : May l ns) : ∃ a g, parseP (scT l ns).data.toList (0, []) = .ok ((l, ns), (a, g)) := by
  rw [h.text]
  have h3 := lists_ok h.lists
  exact parse_back (by decide) l ns h.okT (Nat.lt_of_le_of_lt h.fl (by decide)) (fun n hn => by have := h3.2 n hn; exact ⟨Nat.lt_of_le_of_lt this.1 (by decide), Nat.lt_of_le_of_lt this.2 (by decide)⟩) (Nat.lt_of_le_of_lt h3.1 (by decide))
/-- what is printed is read as that -/
theorem May.reads {l : List FT} {ns : List (ByteArray × ByteArray)} (h : May l ns) {W w' : World} {e : Ending} (hq : ParQ W (scT l ns) e w') :
    Gr W w' ∧ ∃ fo fc no nc, e = .returned (.tuple #[.agg #[.slice fo l.length fc, .slice no ns.length nc], .int .i64 0, .int .i64 0]) ∧ l.length ≤ fc ∧ ns.length ≤ big ∧ RowAt (fun z => W.heap.size ≤ z ∧ z < w'.heap.size) w' (D0 + 1) fo l ∧ LAt W w' 59 2 ncel ns no nc := by
  obtain ⟨a, g, hb⟩ := h.back
  refine ⟨hq.1, ?_⟩
  rcases hq.2 with ⟨er, at_, hne, hbad, rfl⟩ | ⟨l', ns', a', g', fo, fc, no, nc, h1, h2, h3, h4, h5, h6, h7, h8, h9⟩
  · exfalso
    rcases hbad with ⟨h1, _⟩ | ⟨_, o, h1, _⟩ | ⟨_, l', ns', a', g', h1, h2⟩
    · have := h.size; omega
    · rw [hb] at h1; cases h1
    · rw [hb] at h1
      cases h1
      rcases h2 with ⟨h2, _⟩ | ⟨_, L, x, h2, _, h3, _⟩
      · exact h2 h.lists
      · exact h3 (h.all.pre h2)
  · rw [hb] at h2
    cases h2
    exact ⟨fo, fc, no, nc, h6, h7, h5, h8, h9⟩
/-- a schema that may be, in memory -/
structure MayAt (S : Nat → Prop) (w : World) (l : List FT) (ns : List (ByteArray × ByteArray)) (fo : Option Addr) (fc : Nat) (no : Option Addr) : Prop where
  may : May l ns
  cap : l.length ≤ fc
  row : RowAt S w (D0 + 1) fo l
  notes : NotesAt w no ns
  tab : Tab w
  low : ∀ b, S b → b < w.heap.size
theorem MayAt.gr {S : Nat → Prop} {w W : World} {l : List FT} {ns : List (ByteArray × ByteArray)} {fo : Option Addr} {fc : Nat} {no : Option Addr} (h : MayAt S w l ns fo fc no) (g : Gr w W) : MayAt S W l ns fo fc no :=
  ⟨h.may, h.cap, h.row.kept fun b hb => g.block b (h.low b hb) id, h.notes.gr g, h.tab.gr g, fun b hb => Nat.lt_of_lt_of_le (h.low b hb) g.size⟩
theorem MayAt.check {S : Nat → Prop} {w : World} {l : List FT} {ns : List (ByteArray × ByteArray)} {fo : Option Addr} {fc nc : Nat} {no : Option Addr} (h : MayAt S w l ns fo fc no) : ∀ W, Gr w W → Calls Tryd.prog 6 #[.agg #[.slice fo l.length fc, .slice no ns.length nc]] W fun e w' => ∃ vo vn vc, e = .returned (.agg #[.int .i64 0, .slice vo vn vc, .int .i64 0]) ∧ Gr W w' ∧ True :=
  check_walk fo no l.length fc ns.length nc 0 _ (fun _ _ _ _ => True) (fun _ _ _ _ _ _ _ h _ _ => h) w (look_ok h.tab h.row h.cap (by show 65538 ≤ 1000000000000; omega) h.low h.notes h.may.lists h.may.all)
theorem MayAt.maybe {S : Nat → Prop} {w : World} {l : List FT} {ns : List (ByteArray × ByteArray)} {fo : Option Addr} {fc nc : Nat} {no : Option Addr} (h : MayAt S w l ns fo fc no) : Ans 17 #[.agg #[.slice fo l.length fc, .slice no ns.length nc]] true w :=
  maybe_walk fo no l.length fc ns.length nc 0 _ w h.check
theorem MayAt.print {S : Nat → Prop} {w : World} {l : List FT} {ns : List (ByteArray × ByteArray)} {fo : Option Addr} {fc nc : Nat} {no : Option Addr} (h : MayAt S w l ns fo fc no) : AnsV 7 #[.agg #[.slice fo l.length fc, .slice no ns.length nc]] (.tuple #[.string (scT l ns), .int .i64 0]) w := by
  have h3 := lists_ok h.may.lists
  obtain ⟨a, b⟩ := h.may.sizes
  have hr := h.row.cut h.may.deep
  refine print_true (ts := l.map (txF 256)) (us := ns.map ntB) (by have := h.may.fl; simp; omega) (by simp) (by simp; omega) (by omega) (by omega) h.maybe ?_ ?_
  · intro W g
    have := fieldTexts_any S 257 l fo fc w h.tab h.low hr h.may.ok.1 h.may.ok.2 W g
    rw [List.length_map]
    exact this
  · intro W g
    have := noteTexts_any no nc ns w h.notes h3.2 W g
    rw [List.length_map]
    exact this
end Go.Proofs.YtkodgneneiledaaDoor.Kit
namespace Go.Proofs.YtkodgneneiledaaDoor.Kit
open Go.RowKit Go.Shelf Go.Deep
set_option linter.unusedVariables false
attribute [local go_sem] run_store_func

/-! ### EqSchema 8 of the same data -/
set_option maxRecDepth 100000 in
set_option maxHeartbeats 2000000 in
theorem eqSchema8 {fo eo no mo : Option Addr} {nf fc ec nc mc : Nat} {ns : List (ByteArray × ByteArray)} {w : World} (hF : Ans 21 #[.slice fo nf fc, .slice eo nf ec] true w) (h1 : NotesAt w no ns) (h2 : NotesAt w mo ns) :
    Ans 8 #[.agg #[.slice fo nf fc, .slice no ns.length nc], .agg #[.slice eo nf ec, .slice mo ns.length mc]] true w := by
  intro W g
  have hk := h1.1
  have hbig : ns.length ≤ 1000000000000 := hk
  have H1 := hidP (h1.gr g)
  have H2 := hidP (h2.gr g)
  have HF := hidP (hF.gr g)
  obtain ⟨m, hm⟩ : ∃ m, m = ns.length := ⟨_, rfl⟩
  rw [← hm] at hbig ⊢
  have Hm := hidP hm
  clear h1 h2 hF hk hm g
  have hbx := heap_alloc_new W (.cells #[.slice fo nf fc, .slice no m nc] 26)
  have hby := heap_alloc_new (W.alloc (.cells #[.slice fo nf fc, .slice no m nc] 26)) (.cells #[.slice eo nf ec, .slice mo m mc] 26)
  have hs1 : (W.alloc (.cells #[.slice fo nf fc, .slice no m nc] 26)).heap.size = W.heap.size + 1 := by simp
  have g1 := gr_alloc W (.cells #[.slice fo nf fc, .slice no m nc] 26)
  have g2 := gr_alloc (W.alloc (.cells #[.slice fo nf fc, .slice no m nc] 26)) (.cells #[.slice eo nf ec, .slice mo m mc] 26)
  obtain ⟨V, hV⟩ : ∃ V, (W.alloc (.cells #[.slice fo nf fc, .slice no m nc] 26)).alloc (.cells #[.slice eo nf ec, .slice mo m mc] 26) = V := ⟨_, rfl⟩
  rw [hs1] at hby
  rw [hV] at hby g2
  have hbx' := (g2.block _ (lt_of_heap hbx) id).trans hbx
  obtain ⟨b, hb⟩ : ∃ b, b = W.heap.size := ⟨_, rfl⟩
  rw [← hb] at hbx' hby
  have HG : Hid (Gr W V) := g1.trans g2 fun _ _ h => h
  have HX : Hid (V.heap[b]? = some (.cells #[.slice fo nf fc, .slice no m nc] 26 (0, 0)) ∧ V.heap[b + 1]? = some (.cells #[.slice eo nf ec, .slice mo m mc] 26 (0, 0))) := ⟨hbx', hby⟩
  have HV := hidP hV
  have Hb := hidP hb
  have x0 := (cell2 hbx').1
  have x1 := (cell2 hbx').2
  have y0 := (cell2 hby).1
  have y1 := (cell2 hby).2
  have HFV := hidP (HF.out V HG.out)
  clear hbx hby hs1 g1 g2 hV hb hbx' HF
  go_enter Tryd.func8, Tryd.ntmps8
  go_wp2_with (go_at_call 21; rw [HV.out, ← Hb.out]; refine Hid.out ?_)
  unfold Hid
  refine Calls.mono HFV.out ?_
  rintro e U ⟨rfl, gU⟩
  have HXU : Hid (U.heap[b]? = some (.cells #[.slice fo nf fc, .slice no m nc] 26 (0, 0)) ∧ U.heap[b + 1]? = some (.cells #[.slice eo nf ec, .slice mo m mc] 26 (0, 0))) := ⟨(gU.block _ (lt_of_heap HX.out.1) id).trans HX.out.1, (gU.block _ (lt_of_heap HX.out.2) id).trans HX.out.2⟩
  have HGU : Hid (Gr W U) := HG.out.trans gU fun _ _ h => h
  clear gU HX HG x0 x1 y0 y1 HFV HV
  have x1 := (cell2 HXU.out.1).2
  have y1 := (cell2 HXU.out.2).2
  go_wp2_with fail
  go_loopw [24] (fun i wr => ∃ k : Nat, k ≤ m ∧ i = .int .i64 (k : Int) ∧ Hid (Gr U wr)) (fun i _ => m - (intOf i).toNat)
  case atStart => exact ⟨0, Nat.zero_le _, rfl, Keeps.refl _ _⟩
  case round =>
    clear x1 y1
    obtain ⟨k, hk, rfl, HK⟩ := hrel
    by_cases hlt : k < m
    · have hltI : (k : Int) < (m : Int) := by omega
      have hne : ns ≠ [] := fun e => by have := Hm.out; rw [e] at this; simp at this; omega
      obtain ⟨c1, o1, rfl, hc1⟩ := H1.out.2 hne
      obtain ⟨c2, o2, rfl, hc2⟩ := H2.out.2 hne
      have hk' : k < ns.length := by rw [← Hm.out]; exact hlt
      have gW : Gr W wr := HGU.out.trans HK.out fun _ _ h => h
      have p0 := gW.cell' (hc1 k hk').1 id
      have p1 := gW.cell' (hc1 k hk').2 id
      have q0 := gW.cell' (hc2 k hk').1 id
      have q1 := gW.cell' (hc2 k hk').2 id
      have hx := (HK.out.block _ (lt_of_heap HXU.out.1) id).trans HXU.out.1
      have hy := (HK.out.block _ (lt_of_heap HXU.out.2) id).trans HXU.out.2
      have x1 := (cell2 hx).2
      have y1 := (cell2 hy).2
      generalize ns[k].1 = s1 at p0 q0
      generalize ns[k].2 = s2 at p1 q1
      have hadd : IntKind.i64.wrap ((k : Int) + 1) = ((k + 1 : Nat) : Int) := by rw [IntKind.wrap_i64]; omega
      clear hc1 hc2 hk' gW hx hy hne
      go_wp2_with fail
      go_region
      go_wp2_with fail
      go_roundw
      case rel => exact ⟨k + 1, by omega, by simp, HK.out.drew⟩
      case measure => simp [intOf]; omega
    · have hkm : k = m := by omega
      subst hkm
      have hltI : ¬ (k : Int) < (k : Int) := by omega
      go_wp2_with fail
      go_ret
      exact ⟨rfl, HGU.out.trans HK.out fun _ _ h => h⟩
end Go.Proofs.YtkodgneneiledaaDoor.Kit
namespace Go.Proofs.YtkodgneneiledaaDoor.Kit
open Go.RowKit Go.Shelf Go.Deep
set_option linter.unusedVariables false
attribute [local go_sem] run_store_func

/-! ### the law KindReads 3 -/
set_option maxRecDepth 100000 in
set_option maxHeartbeats 2000000 in
theorem reads_any (s : ByteArray) (w : World) (hT : Tab w) : Calls Tryd.prog 3 #[.string s] w fun e w' => e = .returned (.bool true) ∧ Gr w w' := by
  have HT := hidP hT
  have HA := hidP (awake_any w hT)
  clear hT
  go_enter Tryd.func3, Tryd.ntmps3
  go_wp2_with (first | (go_at_call 4; refine Calls.mono HA.out ?_; rintro e w1 ⟨rfl, hg⟩; have HG1 := hidP hg; clear hg) | (go_at_call 5; refine Hid.out ?_))
  unfold Hid
  have HT1 := hidP (HT.out.gr HG1.out)
  refine Calls.mono (parse5 s w1 HT1.out) ?_
  rintro e U ⟨gU, hq⟩
  have HGU : Hid (Gr w U) := HG1.out.trans gU fun _ _ h => h
  rcases hq with ⟨er, at_, hne, hbad, rfl⟩ | ⟨l, ns, a, g, fo, fc, no, nc, h1, h2, h3, h4, h5, rfl, h7, h8, h9⟩
  · have hb : (er != 0) = true := bne_iff_ne.2 hne
    clear hne hbad HT HT1 HA gU
    go_wp2_with fail
    go_ret
    exact ⟨rfl, HGU.out.alloc _⟩
  · have hM : MayAt (fun z => w1.heap.size ≤ z ∧ z < U.heap.size) U l ns fo fc no := ⟨may_of h3 h4 h8.deep, h7, h8, notes_of h9 h5, HT1.out.gr gU, fun b hb => hb.2⟩
    obtain ⟨V, hV⟩ : ∃ V, U.alloc (.cells #[.slice fo l.length fc, .slice no ns.length nc] 26) = V := ⟨_, rfl⟩
    have gV : Gr U V := by rw [← hV]; exact gr_alloc U _
    have hbx : V.heap[U.heap.size]? = some (.cells #[.slice fo l.length fc, .slice no ns.length nc] 26 (0, 0)) := by rw [← hV]; exact heap_alloc_new U _
    obtain ⟨b, hb⟩ : ∃ b, b = U.heap.size := ⟨_, rfl⟩
    rw [← hb] at hbx
    have HMV := hidP (hM.gr gV)
    have HGV : Hid (Gr w V) := HGU.out.trans gV fun _ _ h => h
    have HBx := hidP hbx
    have HV := hidP hV
    have Hb := hidP hb
    have x0 := (cell2 hbx).1
    have x1 := (cell2 hbx).2
    clear h1 h2 h3 h4 h5 h7 h8 h9 hM gV hbx hV hb gU HGU HT HT1 HA HG1
    go_wp2_with (go_at_call 6; rw [HV.out, ← Hb.out]; refine Hid.out ?_)
    unfold Hid
    clear HV
    refine Calls.mono (HMV.out.check V (Keeps.refl _ _)) ?_
    rintro e X1 ⟨vo, vn, vc, rfl, gX, _⟩
    have HM1 := hidP (HMV.out.gr gX)
    have HG1 : Hid (Gr w X1) := HGV.out.trans gX fun _ _ h => h
    have HB1 := hidP ((gX.block b (lt_of_heap HBx.out) id).trans HBx.out)
    have hfd : ∀ W : World, (Instr.field 32 (.agg #[.int .i64 0, .slice vo vn vc, .int .i64 0]) 0).run Tryd.prog W = .ok (.int .i64 0) W := fun W => by kernel_rfl
    clear gX HMV HGV HBx x0 x1
    have x0 := (cell2 HB1.out).1
    have x1 := (cell2 HB1.out).2
    go_wp2_with (go_at_call 7; refine Hid.out ?_)
    unfold Hid
    refine Calls.mono (HM1.out.print X1 (Keeps.refl _ _)) ?_
    rintro e X2 ⟨rfl, gX⟩
    have HM2 := hidP (HM1.out.gr gX)
    have HG2 : Hid (Gr w X2) := HG1.out.trans gX fun _ _ h => h
    have HB2 := hidP ((gX.block b (lt_of_heap HB1.out) id).trans HB1.out)
    clear gX HM1 HG1 HB1 x0 x1
    obtain ⟨t, ht⟩ : ∃ t, t = scT l ns := ⟨_, rfl⟩
    rw [← ht]
    have Ht := hidP ht
    clear ht
    go_wp2_with (go_at_call 5; refine Hid.out ?_)
    unfold Hid
    refine Calls.mono (parse5 t X2 HM2.out.tab) ?_
    intro e X3 hq
    rw [Ht.out] at hq
    obtain ⟨gX, eo, ec, mo, mc, rfl, k7, k5, k8, k9⟩ := HM2.out.may.reads hq
    have hN : MayAt (fun z => X2.heap.size ≤ z ∧ z < X3.heap.size) X3 l ns eo ec mo := ⟨HM2.out.may, k7, k8, notes_of k9 k5, HM2.out.tab.gr gX, fun b hb => hb.2⟩
    obtain ⟨Y, hY⟩ : ∃ Y, X3.alloc (.cells #[.slice eo l.length ec, .slice mo ns.length mc] 26) = Y := ⟨_, rfl⟩
    have gY : Gr X3 Y := by rw [← hY]; exact gr_alloc X3 _
    have hby : Y.heap[X3.heap.size]? = some (.cells #[.slice eo l.length ec, .slice mo ns.length mc] 26 (0, 0)) := by rw [← hY]; exact heap_alloc_new X3 _
    obtain ⟨c, hc⟩ : ∃ c, c = X3.heap.size := ⟨_, rfl⟩
    rw [← hc] at hby
    have gXY : Gr X2 Y := gX.trans gY fun _ _ h => h
    have HM3 := hidP (HM2.out.gr gXY)
    have HN3 := hidP (hN.gr gY)
    have HG3 : Hid (Gr w Y) := HG2.out.trans gXY fun _ _ h => h
    have HB3 := hidP (And.intro ((gXY.block b (lt_of_heap HB2.out) id).trans HB2.out) hby)
    have HY := hidP hY
    have Hc := hidP hc
    have y0 := (cell2 hby).1
    have y1 := (cell2 hby).2
    clear hq gX k7 k5 k8 k9 hN hY gY hby hc gXY HM2 HG2 HB2
    go_wp2_with (go_at_call 7; rw [HY.out, ← Hc.out]; refine Hid.out ?_)
    unfold Hid
    clear HY
    refine Calls.mono (HN3.out.print Y (Keeps.refl _ _)) ?_
    rintro e Z ⟨rfl, gZ⟩
    have HM4 := hidP (HM3.out.gr gZ)
    have HN4 := hidP (HN3.out.gr gZ)
    have HG4 : Hid (Gr w Z) := HG3.out.trans gZ fun _ _ h => h
    have HB4 := hidP (And.intro ((gZ.block b (lt_of_heap HB3.out.1) id).trans HB3.out.1) ((gZ.block c (lt_of_heap HB3.out.2) id).trans HB3.out.2))
    clear gZ HM3 HN3 HG3 HB3 y0 y1
    have HEq : Hid (Ans 8 #[.agg #[.slice fo l.length fc, .slice no ns.length nc], .agg #[.slice eo l.length ec, .slice mo ns.length mc]] true Z) := by
      refine eqSchema8 ?_ HM4.out.notes HN4.out.notes
      have := eqFields_any (fun z => z < Z.heap.size) (D0 + 1) Z fo eo fc ec l l (HM4.out.row.mono fun z hz => HM4.out.low z hz) (HN4.out.row.mono fun z hz => HN4.out.low z hz) HM4.out.cap HN4.out.cap (fun b h => h)
      rwa [sameLs_refl] at this
    rw [← Ht.out]
    have x0 := (cell2 HB4.out.1).1
    have x1 := (cell2 HB4.out.1).2
    have y0 := (cell2 HB4.out.2).1
    have y1 := (cell2 HB4.out.2).2
    go_wp2_with (go_at_call 8; refine Hid.out ?_)
    unfold Hid
    refine Calls.mono (HEq.out Z (Keeps.refl _ _)) ?_
    rintro e Z2 ⟨rfl, gZ⟩
    have HG5 : Hid (Gr w Z2) := HG4.out.trans gZ fun _ _ h => h
    clear gZ x0 x1 y0 y1
    go_wp2_with fail
    go_ret
    exact ⟨rfl, HG5.out⟩
end Go.Proofs.YtkodgneneiledaaDoor.Kit
