import Derived.Test.YtkodgneneiledaaGreatDoorVB
import Derived.Test.YtkodgneneiledaaGreatDoorPF
import Derived.Test.YtkodgneneiledaaGreatDoorZG
import Derived.Test.YtkodgneneiledaaGreatDoorKC
import Derived.Test.YtkodgneneiledaaGreatDoorPE
namespace Go.Proofs.YtkodgneneiledaaGreatDoor.Kit
open Go.RowKit Go.Shelf Go.Deep
set_option linter.unusedVariables false
attribute [local go_sem] run_store_func

/-! ### AlikeSchemas 14 of the same data -/
set_option maxRecDepth 100000 in
set_option maxHeartbeats 2000000 in
theorem alike14 {fo eo no mo : Option Addr} {nf fc ec nn nc mc : Nat} {w : World} (hA : Ans 38 #[.agg #[.slice fo nf fc, .slice no nn nc]] true w) (hB : Ans 38 #[.agg #[.slice eo nf ec, .slice mo nn mc]] true w) (hS : Ans 42 #[.slice fo nf fc, .slice eo nf ec, .func (.func 43) #[] #[]] true w) :
    Ans 14 #[.agg #[.slice fo nf fc, .slice no nn nc], .agg #[.slice eo nf ec, .slice mo nn mc]] true w := by
  intro W g
  have hbx := heap_alloc_new W (.cells #[.slice fo nf fc, .slice no nn nc] 27)
  have hby := heap_alloc_new (W.alloc (.cells #[.slice fo nf fc, .slice no nn nc] 27)) (.cells #[.slice eo nf ec, .slice mo nn mc] 27)
  have hs1 : (W.alloc (.cells #[.slice fo nf fc, .slice no nn nc] 27)).heap.size = W.heap.size + 1 := by simp
  have g1 := gr_alloc W (.cells #[.slice fo nf fc, .slice no nn nc] 27)
  have g2 := gr_alloc (W.alloc (.cells #[.slice fo nf fc, .slice no nn nc] 27)) (.cells #[.slice eo nf ec, .slice mo nn mc] 27)
  obtain ⟨V, hV⟩ : ∃ V, (W.alloc (.cells #[.slice fo nf fc, .slice no nn nc] 27)).alloc (.cells #[.slice eo nf ec, .slice mo nn mc] 27) = V := ⟨_, rfl⟩
  rw [hs1] at hby
  rw [hV] at hby g2
  have hbx' := (g2.block _ (lt_of_heap hbx) id).trans hbx
  obtain ⟨b, hb⟩ : ∃ b, b = W.heap.size := ⟨_, rfl⟩
  rw [← hb] at hbx' hby
  have gV : Gr W V := g1.trans g2 fun _ _ h => h
  have HG : Hid (Gr W V) := gV
  have HX : Hid (V.heap[b]? = some (.cells #[.slice fo nf fc, .slice no nn nc] 27 (0, 0)) ∧ V.heap[b + 1]? = some (.cells #[.slice eo nf ec, .slice mo nn mc] 27 (0, 0))) := ⟨hbx', hby⟩
  have HV := hidP hV
  have Hb := hidP hb
  have x0 := (cell2 hbx').1
  have x1 := (cell2 hbx').2
  have HA := hidP (hA.gr (g.trans gV fun _ _ h => h))
  have HB := hidP (hB.gr (g.trans gV fun _ _ h => h))
  have HS := hidP (hS.gr (g.trans gV fun _ _ h => h))
  clear hbx hby hs1 g1 g2 hV hb hbx' hA hB hS g gV
  go_enter Tryz.func14, Tryz.ntmps14
  go_wp2_with (go_at_call 38; rw [HV.out, ← Hb.out]; refine Hid.out ?_)
  unfold Hid
  refine Calls.mono (HA.out V (Keeps.refl _ _)) ?_
  rintro e U1 ⟨rfl, g1⟩
  have HX1 : Hid (U1.heap[b]? = some (.cells #[.slice fo nf fc, .slice no nn nc] 27 (0, 0)) ∧ U1.heap[b + 1]? = some (.cells #[.slice eo nf ec, .slice mo nn mc] 27 (0, 0))) := ⟨(g1.block _ (lt_of_heap HX.out.1) id).trans HX.out.1, (g1.block _ (lt_of_heap HX.out.2) id).trans HX.out.2⟩
  have HG1 := hidP g1
  clear g1 x0 x1 HV
  have y0 := (cell2 HX1.out.2).1
  have y1 := (cell2 HX1.out.2).2
  go_wp2_with (go_at_call 38; refine Hid.out ?_)
  unfold Hid
  refine Calls.mono (HB.out U1 HG1.out) ?_
  rintro e U2 ⟨rfl, g2⟩
  have HG2 : Hid (Gr V U2) := HG1.out.trans g2 fun _ _ h => h
  have hx := (g2.block _ (lt_of_heap HX1.out.1) id).trans HX1.out.1
  have hy := (g2.block _ (lt_of_heap HX1.out.2) id).trans HX1.out.2
  clear g2 y0 y1
  have x0 := (cell2 hx).1
  have y0 := (cell2 hy).1
  clear hx hy
  go_wp2_with (go_at_call 42; refine Hid.out ?_)
  unfold Hid
  refine Calls.mono (HS.out U2 HG2.out) ?_
  rintro e U3 ⟨rfl, g3⟩
  have HG3 : Hid (Gr W U3) := (HG.out.trans HG2.out fun _ _ h => h).trans g3 fun _ _ h => h
  clear g3 x0 y0
  go_wp2_with fail
  go_ret
  exact ⟨rfl, HG3.out⟩
/-! ### a field of a schema that may be, alone -/
structure FldAt (S : Nat → Prop) (w : World) (f : FT) (ao : Option Addr) (ca : Nat) : Prop where
  all : AllR (nodes (D0 + 1) [f] [] false)
  ok : OkT 256 f
  size : (txF 256 f).size ≤ 65536
  okF : okF f ∧ (∀ g ∈ pre 256 f.kids, Kit.okF g) ∧ (pre 256 f.kids).length ≤ 256
  deep : Kit.deep 256 f.kids
  cap : f.kids.length ≤ ca
  row : RowAt S w D0 ao f.kids
  tab : Tab w
  low : ∀ b, S b → b < w.heap.size
theorem FldAt.gr {S : Nat → Prop} {w W : World} {f : FT} {ao : Option Addr} {ca : Nat} (h : FldAt S w f ao ca) (g : Gr w W) : FldAt S W f ao ca :=
  ⟨h.all, h.ok, h.size, h.okF, h.deep, h.cap, h.row.kept fun b hb => g.block b (h.low b hb) id, h.tab.gr g, fun b hb => Nat.lt_of_lt_of_le (h.low b hb) g.size⟩
theorem FldAt.maybe {S : Nat → Prop} {w : World} {f : FT} {ao : Option Addr} {ca : Nat} (h : FldAt S w f ao ca) : Ans 44 #[.agg #[.string f.name, .bool f.nul, .int .i64 f.kind, .int .i64 f.width, .int .i64 f.id, .int .i64 f.index, .slice ao f.kids.length ca]] true w :=
  fieldMayBe_ok S D0 f ao ca w h.tab h.row h.cap (by show 65538 ≤ 1000000000000; omega) h.low h.all
theorem FldAt.print {S : Nat → Prop} {w : World} {f : FT} {ao : Option Addr} {ca : Nat} (h : FldAt S w f ao ca) : AnsV 15 #[.agg #[.string f.name, .bool f.nul, .int .i64 f.kind, .int .i64 f.width, .int .i64 f.id, .int .i64 f.index, .slice ao f.kids.length ca]] (.tuple #[.string (txF 256 f), .int .i64 0]) w := by
  have := printField_any (t := txF 256 f) h.maybe fun _ => fieldText_any S 256 f ao ca w h.tab h.low (h.row.cut h.deep) h.okF.1 h.okF.2.1 h.okF.2.2
  simpa using this
end Go.Proofs.YtkodgneneiledaaGreatDoor.Kit
namespace Go.Proofs.YtkodgneneiledaaGreatDoor.Kit
open Go.RowKit Go.Shelf Go.Deep
set_option linter.unusedVariables false
attribute [local go_sem] run_store_func

theorem flat_congr {α β : Type} {F K : α → List β} : ∀ (l : List α), (∀ i ∈ l, F i = K i) → l.flatMap F = l.flatMap K
  | [], _ => rfl
  | x :: l, h => by rw [List.flatMap_cons, List.flatMap_cons, h x (by simp), flat_congr l fun i hi => h i (by simp [hi])]
theorem flat_len (d : Nat) : ∀ (l : List FT) (f : FT), f ∈ l → (f :: pre d f.kids).length ≤ (pre (d + 1) l).length
  | x :: l, f, h => by
    have e : pre (d + 1) (x :: l) = (x :: pre d x.kids) ++ pre (d + 1) l := rfl
    rw [e, List.length_append]
    rcases List.mem_cons.1 h with rfl | h
    · omega
    · have := flat_len d l f h; omega
theorem nodes_deep : ∀ (e d : Nat) (l : List FT) (p : List Nat) (q : Bool), Kit.deep e l → e ≤ d → nodes d l p q = nodes e l p q
  | 0, d, l, p, q, h, _ => by
    have : l = [] := h
    subst this
    cases d <;> rfl
  | e + 1, 0, l, p, q, h, hd => absurd hd (by omega)
  | e + 1, d + 1, l, p, q, h, hd => by
    rw [nodes, nodes]
    refine flat_congr _ fun i hi => ?_
    have hi' : i < l.length := by simpa using hi
    have hm : l[i]! ∈ l := by rw [getElem!_pos l i hi']; exact List.getElem_mem hi'
    rw [nodes_deep e d _ _ _ (h _ hm) (by omega)]
theorem deep_le : ∀ (e d : Nat) (l : List FT), Kit.deep e l → e ≤ d → Kit.deep d l
  | 0, d, l, h, _ => by have : l = [] := h; subst this; exact deep_nil d
  | e + 1, 0, l, h, hd => absurd hd (by omega)
  | e + 1, d + 1, l, h, hd => fun f hf => deep_le e d f.kids (h f hf) (by omega)
/-- a schema of the arguments that may be -/
theorem may_at {S : Nat → Prop} {w : World} {D : Nat} {fo no : Option Addr} {cf : Nat} {fs : List FT} {ns : List (ByteArray × ByteArray)} (hD : 257 ≤ D) (hr : RowAt S w D fo fs) (hc : fs.length ≤ cf) (hn : NotesAt w no ns) (hT : Tab w) (hS : ∀ b, S b → b < w.heap.size) (h1 : (listsE fs.length ns).1 = 0) (h2 : AllR (nodes D fs [] false)) : MayAt S w fs ns fo cf no := by
  have hd := deep_few D fs 257 hr.deep (Nat.le_trans (allr_ok h2).2 (by omega))
  have e1 : nodes D fs [] false = nodes (D0 + 1) fs [] false := (nodes_deep 257 D fs [] false hd hD).trans (nodes_deep 257 (D0 + 1) fs [] false hd (by show 257 ≤ 65538; omega)).symm
  rw [e1] at h2
  exact ⟨⟨h1, h2, hd⟩, hc, hr.cut (deep_le 257 (D0 + 1) fs hd (by show 257 ≤ 65538; omega)), hn, hT, hS⟩
theorem MayAt.fld {S : Nat → Prop} {w : World} {l : List FT} {ns : List (ByteArray × ByteArray)} {fo : Option Addr} {fc : Nat} {no : Option Addr} (h : MayAt S w l ns fo fc no) {k : Nat} (hk : k < l.length) {ao : Option Addr} {ca : Nat} (hca : l[k].kids.length ≤ ca) (hr : RowAt S w D0 ao l[k].kids) : FldAt S w l[k] ao ca := by
  have hm : l[k] ∈ l := List.getElem_mem hk
  have hok := h.may.ok
  have hin : ∀ g, g ∈ l[k] :: pre 256 l[k].kids → g ∈ pre 257 l := fun g hg => List.mem_flatMap.2 ⟨l[k], hm, hg⟩
  have hlen : (pre 256 l[k].kids).length ≤ 256 := by
    have : (l[k] :: pre 256 l[k].kids).length ≤ (pre 257 l).length := flat_len 256 l l[k] hm
    have h2 := hok.2
    simp at this
    omega
  have hsz := tx_size1 256 l[k] (hok.1 _ (hin _ (by simp))) (fun g hg => hok.1 g (hin g (by simp [hg])))
  exact ⟨(one_sub D0 l k hk).allR h.may.all, h.may.okT _ hm, by omega, ⟨hok.1 _ (hin _ (by simp)), fun g hg => hok.1 g (hin g (by simp [hg])), hlen⟩, h.may.deep _ hm, hca, hr, h.tab, h.low⟩
/-! ### CheckField 16 of a field that may be -/
theorem notes_none (w : World) : NotesAt w none [] := ⟨by simp [big], fun h => absurd rfl h⟩
theorem results_cell46 {fn : Func} {t : Tmp} {tmps : Array Value} {g : Nat} {cs : Array Value} {w : World} (h : fn.results = #[.cell t 46]) (ht : tmps.getD t undef = .pointer (some ⟨g, 0, none⟩)) (hg : w.heap[g]? = some (.cells cs 46 (0, 0))) (hi : (Tryz.prog.info? 46).map (·.size) = some cs.size) :
    (results fn tmps).run Tryz.prog w = .ok (.agg cs) w := by
  have hl := run_loadVar_row (P := Tryz.prog) w g 46 46 cs (0, 0) _ hg Tryz.underlying46 rfl hi
  unfold results
  rw [h]
  simp only [Array.mapM_eq_mapM_toList, List.mapM_cons, List.mapM_nil, ht]
  simp [asAddr, hl]
theorem put3_box {V : World} {Y t : Nat} {x0 x1 x2 : Value} (y0 y1 y2 : Value) (h : V.heap[Y]? = some (.cells #[x0, x1, x2] t (0, 0))) : (((V.setCell ⟨Y, 0, none⟩ y0).setCell ⟨Y, 1, none⟩ y1).setCell ⟨Y, 2, none⟩ y2).heap[Y]? = some (.cells #[y0, y1, y2] t (0, 0)) := by
  have h0 : (V.setCell ⟨Y, 0, none⟩ y0).heap[Y]? = some (.cells #[y0, x1, x2] t (0, 0)) := heap_setCell_same _ Y 0 _ _ y0 h
  have h1 : ((V.setCell ⟨Y, 0, none⟩ y0).setCell ⟨Y, 1, none⟩ y1).heap[Y]? = some (.cells #[y0, y1, x2] t (0, 0)) := heap_setCell_same _ Y 1 _ _ y1 h0
  exact heap_setCell_same _ Y 2 _ _ y2 h1
theorem put3_keeps (V : World) (Y : Nat) (y0 y1 y2 : Value) : Keeps V (((V.setCell ⟨Y, 0, none⟩ y0).setCell ⟨Y, 1, none⟩ y1).setCell ⟨Y, 2, none⟩ y2) (fun z => z = Y) :=
  (((Keeps.refl V (fun z => z = Y)).setCell (p := ⟨Y, 0, none⟩) (fun _ => rfl) _).setCell (p := ⟨Y, 1, none⟩) (fun _ => rfl) _).setCell (p := ⟨Y, 2, none⟩) (fun _ => rfl) _
set_option maxRecDepth 100000 in
set_option maxHeartbeats 2000000 in
theorem FldAt.check {S : Nat → Prop} {w : World} {f : FT} {ao : Option Addr} {ca : Nat} (h : FldAt S w f ao ca) : ∀ W, Gr w W → Calls Tryz.prog 16 #[.agg #[.string f.name, .bool f.nul, .int .i64 f.kind, .int .i64 f.width, .int .i64 f.id, .int .i64 f.index, .slice ao f.kids.length ca]] W fun e w' => ∃ vo vn vc, e = .returned (.agg #[.int .i64 0, .slice vo vn vc, .int .i64 0]) ∧ Gr W w' := by
  intro W g
  have HF := hidP (h.gr g)
  have hck : ∀ U gb, Gr W U → U.heap[gb]? = some (.cells #[.string f.name, .bool f.nul, .int .i64 f.kind, .int .i64 f.width, .int .i64 f.id, .int .i64 f.index, .slice ao f.kids.length ca] 37) → Calls Tryz.prog 12 #[.agg #[.slice (some ⟨gb, 0, none⟩) 1 1, .slice none 0 0]] U fun e w' => ∃ vo vn vc, e = .returned (.agg #[.int .i64 0, .slice vo vn vc, .int .i64 0]) ∧ Gr U w' ∧ True := fun U gb gU hgb => by
    have hF := HF.out.gr gU
    have hrow := row_alone hgb hF.row hF.cap
    exact check_walk (some ⟨gb, 0, none⟩) none 1 1 0 0 0 _ (fun _ _ _ _ => True) (fun _ _ _ _ _ _ _ h _ _ => h) U (look_ok (fs := [f]) (ns := []) hF.tab hrow (Nat.le_refl _) (by show 65538 ≤ 1000000000000; omega) (fun b hb => hb.elim (hF.low b) fun e => by rw [e]; exact lt_of_heap hgb) (notes_none U) (by show (listsE 1 ([] : List (ByteArray × ByteArray))).1 = 0; decide) hF.all) U (Keeps.refl _ _)
  have HCk := hidP hck
  have hs1 : (W.alloc (.cells #[.string f.name, .bool f.nul, .int .i64 f.kind, .int .i64 f.width, .int .i64 f.id, .int .i64 f.index, .slice ao f.kids.length ca] 37)).heap.size = W.heap.size + 1 := by simp
  have c1 := heap_alloc_new W (.cells #[.string f.name, .bool f.nul, .int .i64 f.kind, .int .i64 f.width, .int .i64 f.id, .int .i64 f.index, .slice ao f.kids.length ca] 37)
  have c2 := heap_alloc_new (W.alloc (.cells #[.string f.name, .bool f.nul, .int .i64 f.kind, .int .i64 f.width, .int .i64 f.id, .int .i64 f.index, .slice ao f.kids.length ca] 37)) (.cells #[.int .i64 0, .slice none 0 0, .int .i64 0] 46)
  have g1 := gr_alloc W (.cells #[.string f.name, .bool f.nul, .int .i64 f.kind, .int .i64 f.width, .int .i64 f.id, .int .i64 f.index, .slice ao f.kids.length ca] 37)
  have g2 := gr_alloc (W.alloc (.cells #[.string f.name, .bool f.nul, .int .i64 f.kind, .int .i64 f.width, .int .i64 f.id, .int .i64 f.index, .slice ao f.kids.length ca] 37)) (.cells #[.int .i64 0, .slice none 0 0, .int .i64 0] 46)
  obtain ⟨V, hV⟩ : ∃ V, (W.alloc (.cells #[.string f.name, .bool f.nul, .int .i64 f.kind, .int .i64 f.width, .int .i64 f.id, .int .i64 f.index, .slice ao f.kids.length ca] 37)).alloc (.cells #[.int .i64 0, .slice none 0 0, .int .i64 0] 46) = V := ⟨_, rfl⟩
  rw [hs1] at c2
  rw [hV] at c2 g2
  have c1' := (g2.block _ (lt_of_heap c1) id).trans c1
  obtain ⟨b, hb⟩ : ∃ b, b = W.heap.size := ⟨_, rfl⟩
  rw [← hb] at c1' c2
  have HG : Hid (Gr W V) := g1.trans g2 fun _ _ h => h
  have HX : Hid (V.heap[b + 1]? = some (.cells #[.int .i64 0, .slice none 0 0, .int .i64 0] 46 (0, 0))) := c2
  have HV := hidP hV
  have Hb := hidP hb
  have q0 : V.cell? ⟨b, 0, none⟩ = some (.string f.name) := by simp [World.cell?, c1']
  have q1 : V.cell? ⟨b, 1, none⟩ = some (.bool f.nul) := by simp [World.cell?, c1']
  have q2 : V.cell? ⟨b, 2, none⟩ = some (.int .i64 f.kind) := by simp [World.cell?, c1']
  have q3 : V.cell? ⟨b, 3, none⟩ = some (.int .i64 f.width) := by simp [World.cell?, c1']
  have q4 : V.cell? ⟨b, 4, none⟩ = some (.int .i64 f.id) := by simp [World.cell?, c1']
  have q5 : V.cell? ⟨b, 5, none⟩ = some (.int .i64 f.index) := by simp [World.cell?, c1']
  have q6 : V.cell? ⟨b, 6, none⟩ = some (.slice ao f.kids.length ca) := by simp [World.cell?, c1']
  clear hck hs1 c1 c2 g1 g2 hV hb c1' g h HF
  go_enter Tryz.func16, Tryz.ntmps16
  go_wp2_with (go_at_call 33; rw [HV.out, ← Hb.out]; refine Hid.out ?_)
  unfold Hid
  clear HV q0 q1 q2 q3 q4 q5 q6
  refine Calls.mono (alone_any f.name f.nul f.kind f.width f.id f.index ao f.kids.length ca V) ?_
  rintro e U ⟨gb, rfl, gU, hgb, hcl⟩
  have HQ := hidP (HCk.out U gb (HG.out.trans gU fun _ _ h => h) hcl)
  have HGU := hidP gU
  clear gU hgb hcl
  go_wp2_with (go_at_call 12; refine Hid.out ?_)
  unfold Hid
  refine Calls.mono HQ.out ?_
  rintro e U2 ⟨vo, vn, vc, rfl, gU, _⟩
  have gA := gr_alloc U2 (.cells #[.int .i64 0, .slice vo vn vc, .int .i64 0] 46)
  have gX : Gr V (U2.alloc (.cells #[.int .i64 0, .slice vo vn vc, .int .i64 0] 46)) := (HGU.out.trans gU fun _ _ h => h).trans gA fun _ _ h => h
  have hx := (gX.block _ (lt_of_heap HX.out) id).trans HX.out
  have HX2 := hidP hx
  have HG2 : Hid (Gr W (U2.alloc (.cells #[.int .i64 0, .slice vo vn vc, .int .i64 0] 46))) := HG.out.trans gX fun _ _ h => h
  have t0 := (cell3 hx).1
  have t1 := (cell3 hx).2.1
  have t2 := (cell3 hx).2.2
  have z0 := frz hx 0
  have z1 := frz hx 1
  have z2 := frz hx 2
  have hq0 := (cell3 (heap_alloc_new U2 (.cells #[.int .i64 0, .slice vo vn vc, .int .i64 0] 46))).1
  have hq1 := (cell3 (heap_alloc_new U2 (.cells #[.int .i64 0, .slice vo vn vc, .int .i64 0] 46))).2.1
  have hq2 := (cell3 (heap_alloc_new U2 (.cells #[.int .i64 0, .slice vo vn vc, .int .i64 0] 46))).2.2
  have hlt : b + 1 < U2.heap.size := Nat.lt_of_lt_of_le (Nat.lt_of_lt_of_le (lt_of_heap HX.out) HGU.out.size) gU.size
  have n1 : ¬ U2.heap.size = b + 1 := by omega
  have n2 : ¬ b + 1 = U2.heap.size := by omega
  clear gU gA gX hx HGU HX HQ hlt
  go_wp2_with fail
  have hb3 := put3_box (.int .i64 0) (.slice vo vn vc) (.int .i64 0) HX2.out
  have k3 := put3_keeps (U2.alloc (.cells #[.int .i64 0, .slice vo vn vc, .int .i64 0] 46)) (b + 1) (.int .i64 0) (.slice vo vn vc) (.int .i64 0)
  (try simp only [Exit.inBlock, Exit.then])
  exact bodyPost_ret (results_cell46 rfl rfl hb3 (by kernel_rfl)) rfl ⟨vo, vn, vc, rfl, HG2.out.trans k3 fun j hj h => by have := Hb.out; omega⟩
end Go.Proofs.YtkodgneneiledaaGreatDoor.Kit
namespace Go.Proofs.YtkodgneneiledaaGreatDoor.Kit
open Go.RowKit Go.Shelf Go.Deep
set_option linter.unusedVariables false
attribute [local go_sem] run_store_func

theorem first_upto (N : List LS) (k : Nat) (hk : k ≤ N.length) : AllR (N.take k) ∨ ∃ L x, (L ++ [x]) <+: N ∧ AllR L ∧ wrongE x L.length (tkL L) ≠ 0 := by
  induction k with
  | zero => exact .inl (by simpa using AllR.nil)
  | succ k ih =>
    rcases ih (by omega) with h | h
    · have hkl : k < N.length := by omega
      have hl : (N.take k).length = k := by rw [List.length_take]; omega
      by_cases hx : wrongE N[k] k (tkL (N.take k)) = 0
      · exact .inl (AllR.next hkl h hx)
      · refine .inr ⟨N.take k, N[k], ?_, h, by rw [hl]; exact hx⟩
        rw [← List.take_succ_eq_append_getElem hkl]; exact List.take_prefix _ _
    · exact .inr h
theorem first_or (N : List LS) : AllR N ∨ ∃ L x, (L ++ [x]) <+: N ∧ AllR L ∧ wrongE x L.length (tkL L) ≠ 0 := by
  have h := first_upto N N.length (Nat.le_refl _)
  rwa [List.take_length] at h
theorem fault_is (E : Int × Int) (N : List LS) : ∃ er p k, FaultIs E N er p k := by
  by_cases h : E.1 = 0
  · rcases first_or N with h1 | ⟨L, x, h1, h2, h3⟩
    · exact ⟨0, [], 0, .inr (.inl ⟨h, h1, rfl, rfl, rfl⟩)⟩
    · exact ⟨_, _, 0, .inr (.inr ⟨h, L, x, h1, h2, h3, rfl, rfl, rfl⟩)⟩
  · exact ⟨_, [], _, .inl ⟨h, rfl, rfl, rfl⟩⟩
theorem FaultIs.zero {E : Int × Int} {N : List LS} {p : List Nat} {k : Int} (h : FaultIs E N 0 p k) : E.1 = 0 ∧ AllR N := by
  rcases h with ⟨a, e, _⟩ | ⟨a, b, _⟩ | ⟨a, L, x, _, _, h3, e, _⟩
  · exact absurd e.symm a
  · exact ⟨a, b⟩
  · exact absurd e.symm h3
set_option maxRecDepth 100000 in
theorem maybe_er {fo no : Option Addr} {nf cf nn cn : Nat} {er : Int} {w : World} (h : ∀ W, Gr w W → Calls Tryz.prog 12 #[.agg #[.slice fo nf cf, .slice no nn cn]] W fun e w' => ∃ vo vn vc tt, e = .returned (.agg #[.int .i64 er, .slice vo vn vc, .int .i64 tt]) ∧ Gr W w') : Ans 38 #[.agg #[.slice fo nf cf, .slice no nn cn]] (er == 0) w := by
  intro W g
  have HL : Hid (∀ W', Gr W W' → Calls Tryz.prog 12 #[.agg #[.slice fo nf cf, .slice no nn cn]] W' fun e w' => ∃ vo vn vc tt, e = .returned (.agg #[.int .i64 er, .slice vo vn vc, .int .i64 tt]) ∧ Gr W' w') := fun W' g' => h W' (g.trans g' (fun _ _ h => h))
  clear h g
  have hfl : ∀ vo vn vc tt w, (Instr.field 46 (.agg #[.int .i64 er, .slice vo vn vc, .int .i64 tt]) 0).run Tryz.prog w = .ok (.int .i64 er) w := fun vo vn vc tt w => by kernel_rfl
  go_enter Tryz.func38, Tryz.ntmps38
  go_wp2_with (go_at_call 12; refine Hid.out ?_)
  unfold Hid
  refine Calls.mono (HL.out _ (gr_alloc W _)) ?_
  rintro e W1 ⟨vo, vn, vc, tt, rfl, hg1⟩
  have HE := hidM hg1
  clear hg1
  go_wp2_with fail
  go_ret
  exact ⟨rfl, (gr_alloc W _).trans HE.out (fun _ _ h => h)⟩
/-- what Check tells of a schema that may not be -/
theorem check_bad {S : Nat → Prop} {D : Nat} {fo no : Option Addr} {cf cn : Nat} {fs : List FT} {ns : List (ByteArray × ByteArray)} {w : World} (hT : Tab w) (hD : D ≤ big) (hS : ∀ b, S b → b < w.heap.size) (h : Sch S w D fo no cf cn fs ns) (hb : ¬ ((listsE fs.length ns).1 = 0 ∧ AllR (nodes D fs [] false))) :
    ∃ er : Int, er ≠ 0 ∧ ∀ W, Gr w W → Calls Tryz.prog 12 #[.agg #[.slice fo fs.length cf, .slice no ns.length cn]] W fun e w' => ∃ vo vn vc tt, e = .returned (.agg #[.int .i64 er, .slice vo vn vc, .int .i64 tt]) ∧ Gr W w' := by
  obtain ⟨er, p, tt, hF⟩ := fault_is (listsE fs.length ns) (nodes D fs [] false)
  refine ⟨er, fun e => ?_, fun W g => ?_⟩
  · subst e
    exact hb hF.zero
  · refine Calls.mono (check_fault hT h.row h.le hD hS h.notes W g) ?_
    rintro e w' ⟨er', vo, vn, vc, tt', rfl, hg, p', rfl, h1, h2⟩
    obtain ⟨rfl, _⟩ := FaultIs.one hF h1
    exact ⟨vo, _, vc, tt', rfl, hg⟩
end Go.Proofs.YtkodgneneiledaaGreatDoor.Kit
namespace Go.Proofs.YtkodgneneiledaaGreatDoor.Kit
open Go.RowKit Go.Shelf Go.Deep
set_option linter.unusedVariables false
attribute [local go_sem] run_store_func

/-! ### the law KindReturns 4 -/
set_option maxRecDepth 100000 in
set_option maxHeartbeats 4000000 in
theorem returns_bad {S : Nat → Prop} {D : Nat} {fo no : Option Addr} {cf cn : Nat} {fs : List FT} {ns : List (ByteArray × ByteArray)} (w : World) (hT : Tab w) (hD : D ≤ big) (hS : ∀ b, S b → b < w.heap.size) (h : Sch S w D fo no cf cn fs ns) (hb : ¬ ((listsE fs.length ns).1 = 0 ∧ AllR (nodes D fs [] false))) :
    Calls Tryz.prog 4 #[.agg #[.slice fo fs.length cf, .slice no ns.length cn]] w fun e w' => e = .returned (.bool true) ∧ Gr w w' := by
  obtain ⟨er, hne, hck⟩ := check_bad hT hD hS h hb
  have hne' : (er == 0) = false := beq_eq_false_iff_ne.2 hne
  have hm := maybe_er hck
  rw [hne'] at hm
  have HP := hidP (print_false hm)
  have HCk := hidP hck
  have HT := hidP hT
  have hfl : ∀ vo vn vc tt w, (Instr.field 46 (.agg #[.int .i64 er, .slice vo vn vc, .int .i64 tt]) 0).run Tryz.prog w = .ok (.int .i64 er) w := fun vo vn vc tt w => by kernel_rfl
  obtain ⟨nf, hnf⟩ : ∃ n, n = fs.length := ⟨_, rfl⟩
  obtain ⟨nn, hnn⟩ : ∃ n, n = ns.length := ⟨_, rfl⟩
  rw [← hnf, ← hnn] at HP HCk
  rw [← hnf, ← hnn]
  obtain ⟨V, hV⟩ : ∃ V, w.alloc (.cells #[.slice fo nf cf, .slice no nn cn] 27) = V := ⟨_, rfl⟩
  have gV : Gr w V := by rw [← hV]; exact gr_alloc w _
  have hbx : V.heap[w.heap.size]? = some (.cells #[.slice fo nf cf, .slice no nn cn] 27 (0, 0)) := by rw [← hV]; exact heap_alloc_new w _
  obtain ⟨b, hb'⟩ : ∃ b, b = w.heap.size := ⟨_, rfl⟩
  rw [← hb'] at hbx
  have HBx := hidP hbx
  have HGV := hidP gV
  have HV := hidP hV
  have Hb := hidP hb'
  have HA := hidP (awake_any V (hT.gr gV))
  clear hT hD hS h hb hne hck hm hnf hnn gV hbx hV hb' HT
  go_enter Tryz.func4, Tryz.ntmps4
  go_wp2_with (go_at_call 5; rw [HV.out, ← Hb.out]; refine Hid.out ?_)
  unfold Hid
  refine Calls.mono HA.out ?_
  rintro e U ⟨rfl, gU⟩
  have HB1 := hidP ((gU.block b (lt_of_heap HBx.out) id).trans HBx.out)
  have HG1 : Hid (Gr w U) := HGV.out.trans gU fun _ _ h => h
  clear gU HBx HGV HV HA
  have x0 := (cell2 HB1.out).1
  have x1 := (cell2 HB1.out).2
  go_wp2_with (go_at_call 12; refine Hid.out ?_)
  unfold Hid
  refine Calls.mono (HCk.out U HG1.out) ?_
  rintro e U2 ⟨vo, vn, vc, tt, rfl, gU⟩
  have HB2 := hidP ((gU.block b (lt_of_heap HB1.out) id).trans HB1.out)
  have HG2 : Hid (Gr w U2) := HG1.out.trans gU fun _ _ h => h
  clear gU HB1 HG1 x0 x1
  have x0 := (cell2 HB2.out).1
  have x1 := (cell2 HB2.out).2
  go_wp2_with (go_at_call 13; refine Hid.out ?_)
  unfold Hid
  refine Calls.mono (HP.out U2 HG2.out) ?_
  rintro e U3 ⟨rfl, gU⟩
  have HG3 : Hid (Gr w U3) := HG2.out.trans gU fun _ _ h => h
  clear gU HB2 HG2 x0 x1
  go_wp2_with fail
  go_ret
  exact ⟨rfl, HG3.out⟩
set_option maxRecDepth 100000 in
set_option maxHeartbeats 4000000 in
theorem returns_ok {S : Nat → Prop} {fo no : Option Addr} {cf cn : Nat} {l : List FT} {ns : List (ByteArray × ByteArray)} (w : World) (h : MayAt S w l ns fo cf no) :
    Calls Tryz.prog 4 #[.agg #[.slice fo l.length cf, .slice no ns.length cn]] w fun e w' => e = .returned (.bool true) ∧ Gr w w' := by
  have HM := hidP h
  obtain ⟨V, hV⟩ : ∃ V, w.alloc (.cells #[.slice fo l.length cf, .slice no ns.length cn] 27) = V := ⟨_, rfl⟩
  have gV : Gr w V := by rw [← hV]; exact gr_alloc w _
  have hbx : V.heap[w.heap.size]? = some (.cells #[.slice fo l.length cf, .slice no ns.length cn] 27 (0, 0)) := by rw [← hV]; exact heap_alloc_new w _
  obtain ⟨b, hb'⟩ : ∃ b, b = w.heap.size := ⟨_, rfl⟩
  rw [← hb'] at hbx
  have HBx := hidP hbx
  have HGV := hidP gV
  have HV := hidP hV
  have Hb := hidP hb'
  have HA := hidP (awake_any V (h.tab.gr gV))
  have hbig : l.length ≤ 1000000000000 := Nat.le_trans h.may.fl (by decide)
  have hfl : ∀ vo vn vc w, (Instr.field 46 (.agg #[.int .i64 0, .slice vo vn vc, .int .i64 0]) 0).run Tryz.prog w = .ok (.int .i64 0) w := fun vo vn vc w => by kernel_rfl
  clear h gV hbx hV hb'
  go_enter Tryz.func4, Tryz.ntmps4
  go_wp2_with (go_at_call 5; rw [HV.out, ← Hb.out]; refine Hid.out ?_)
  unfold Hid
  refine Calls.mono HA.out ?_
  rintro e U ⟨rfl, gU⟩
  have HB1 := hidP ((gU.block b (lt_of_heap HBx.out) id).trans HBx.out)
  have HG1 : Hid (Gr w U) := HGV.out.trans gU fun _ _ h => h
  clear gU HBx HGV HV HA
  have x0 := (cell2 HB1.out).1
  have x1 := (cell2 HB1.out).2
  go_wp2_with (go_at_call 12; refine Hid.out ?_)
  unfold Hid
  refine Calls.mono (HM.out.check U HG1.out) ?_
  rintro e U2 ⟨vo, vn, vc, rfl, gU, _⟩
  have HB2 := hidP ((gU.block b (lt_of_heap HB1.out) id).trans HB1.out)
  have HG2 : Hid (Gr w U2) := HG1.out.trans gU fun _ _ h => h
  clear gU HB1 HG1 x0 x1
  have x0 := (cell2 HB2.out).1
  have x1 := (cell2 HB2.out).2
  go_wp2_with (go_at_call 13; refine Hid.out ?_)
  unfold Hid
  refine Calls.mono (HM.out.print U2 HG2.out) ?_
  rintro e U3 ⟨rfl, gU⟩
  have HB3 := hidP ((gU.block b (lt_of_heap HB2.out) id).trans HB2.out)
  have HG3 : Hid (Gr w U3) := HG2.out.trans gU fun _ _ h => h
  clear gU HB2 HG2 x0 x1
  obtain ⟨t, ht⟩ : ∃ t, t = scT l ns := ⟨_, rfl⟩
  rw [← ht]
  have Ht := hidP ht
  clear ht
  go_wp2_with (go_at_call 6; refine Hid.out ?_)
  unfold Hid
  refine Calls.mono (parse5 t U3 (HM.out.tab.gr HG3.out)) ?_
  intro e X3 hq
  rw [Ht.out] at hq
  obtain ⟨gX, eo, ec, mo, mc, rfl, k7, k5, k8, k9⟩ := HM.out.may.reads hq
  have hN : MayAt (fun z => U3.heap.size ≤ z ∧ z < X3.heap.size) X3 l ns eo ec mo := ⟨HM.out.may, k7, k8, notes_of k9 k5, (HM.out.tab.gr HG3.out).gr gX, fun b hb => hb.2⟩
  obtain ⟨Y, hY⟩ : ∃ Y, X3.alloc (.cells #[.slice eo l.length ec, .slice mo ns.length mc] 27) = Y := ⟨_, rfl⟩
  have gY : Gr X3 Y := by rw [← hY]; exact gr_alloc X3 _
  have hby : Y.heap[X3.heap.size]? = some (.cells #[.slice eo l.length ec, .slice mo ns.length mc] 27 (0, 0)) := by rw [← hY]; exact heap_alloc_new X3 _
  obtain ⟨c, hc⟩ : ∃ c, c = X3.heap.size := ⟨_, rfl⟩
  rw [← hc] at hby
  have gXY : Gr U3 Y := gX.trans gY fun _ _ h => h
  have HN3 := hidP (hN.gr gY)
  have HG4 : Hid (Gr w Y) := HG3.out.trans gXY fun _ _ h => h
  have HB4 := hidP (And.intro ((gXY.block b (lt_of_heap HB3.out) id).trans HB3.out) hby)
  have HM4 := hidP (HM.out.gr HG4.out)
  have HEq : Hid (Ans 8 #[.agg #[.slice fo l.length cf, .slice no ns.length cn], .agg #[.slice eo l.length ec, .slice mo ns.length mc]] true Y) := by
    refine eqSchema8 ?_ HM4.out.notes HN3.out.notes
    have := eqFields_any (fun z => z < Y.heap.size) (D0 + 1) Y fo eo cf ec l l (HM4.out.row.mono fun z hz => HM4.out.low z hz) (HN3.out.row.mono fun z hz => HN3.out.low z hz) HM4.out.cap HN3.out.cap (fun b h => h)
    rwa [sameLs_refl] at this
  have HAl : Hid (Ans 14 #[.agg #[.slice fo l.length cf, .slice no ns.length cn], .agg #[.slice eo l.length ec, .slice mo ns.length mc]] true Y) := by
    refine alike14 HM4.out.maybe HN3.out.maybe ?_
    have := same_any (fun z => z < Y.heap.size) (D0 + 1) Y fo eo cf ec l l (HM4.out.row.mono fun z hz => HM4.out.low z hz) (HN3.out.row.mono fun z hz => HN3.out.low z hz) (fun b h => h)
    rwa [sameLs_refl] at this
  have HY := hidP hY
  have Hc := hidP hc
  clear hq gX k7 k5 k8 k9 hN hY gY hby hc gXY HG3 HB3
  have x0 := (cell2 HB4.out.1).1
  have x1 := (cell2 HB4.out.1).2
  have y0 := (cell2 HB4.out.2).1
  have y1 := (cell2 HB4.out.2).2
  rw [← HY.out] at x0 x1 y0 y1
  rw [Hc.out] at y0 y1
  go_wp2_with (go_at_call 8; rw [HY.out, ← Hc.out]; refine Hid.out ?_)
  unfold Hid
  rw [HY.out] at x0 x1 y0 y1
  rw [← Hc.out] at y0 y1
  refine Calls.mono (HEq.out Y (Keeps.refl _ _)) ?_
  rintro e U5 ⟨rfl, g5⟩
  have HB5 := hidP (And.intro ((g5.block b (lt_of_heap HB4.out.1) id).trans HB4.out.1) ((g5.block c (lt_of_heap HB4.out.2) id).trans HB4.out.2))
  have HG5 : Hid (Gr w U5) := HG4.out.trans g5 fun _ _ h => h
  have HQ5 := hidP (HAl.out U5 g5)
  clear g5 HB4 x0 x1 y0 y1 HEq HAl HY HG4 HM4 HN3
  have x0 := (cell2 HB5.out.1).1
  have x1 := (cell2 HB5.out.1).2
  have y0 := (cell2 HB5.out.2).1
  have y1 := (cell2 HB5.out.2).2
  go_wp2_with (go_at_call 14; refine Hid.out ?_)
  unfold Hid
  refine Calls.mono HQ5.out ?_
  rintro e U6 ⟨rfl, g6⟩
  have hb6 := (g6.block b (lt_of_heap HB5.out.1) id).trans HB5.out.1
  have HG6 : Hid (Gr w U6) := HG5.out.trans g6 fun _ _ h => h
  clear g6 HB5 HG5 HQ5 x0 x1 y0 y1
  have x0 := (cell2 hb6).1
  clear hb6
  go_wp2_with fail
  go_loopw [62] (fun i wr => ∃ k : Nat, k ≤ l.length ∧ i = .int .i64 (k : Int) ∧ Hid (Gr w wr)) (fun i _ => l.length - (intOf i).toNat)
  case atStart => exact ⟨0, Nat.zero_le _, rfl, HG6.out⟩
  case round =>
    clear x0 HG6
    obtain ⟨k, hk, rfl, HK⟩ := hrel
    by_cases hlt : k < l.length
    · have hltI : (k : Int) < (l.length : Int) := by omega
      have hadd : IntKind.i64.wrap ((k : Int) + 1) = ((k + 1 : Nat) : Int) := by rw [IntKind.wrap_i64]; omega
      have hM := HM.out.gr HK.out
      obtain ⟨gb, o, efo, hgb, hi⟩ := hM.row.2 (fun e => by rw [e] at hlt; simp at hlt)
      obtain ⟨ao, ca, hc, hca, hkr⟩ := hi k hlt
      have hF := hM.fld hlt hca hkr
      obtain ⟨f, hf⟩ : ∃ f, f = l[k] := ⟨_, rfl⟩
      rw [← hf] at hF hc
      obtain ⟨q0, q1, q2, q3, q4, q5, q6⟩ := hc
      have HF := hidP hF
      subst efo
      obtain ⟨W1, hW1⟩ : ∃ W1, wr.alloc (.cells #[.string f.name, .bool f.nul, .int .i64 f.kind, .int .i64 f.width, .int .i64 f.id, .int .i64 f.index, .slice ao f.kids.length ca] 37) = W1 := ⟨_, rfl⟩
      have g1 : Gr wr W1 := by rw [← hW1]; exact gr_alloc wr _
      have hd1 : W1.heap[wr.heap.size]? = some (.cells #[.string f.name, .bool f.nul, .int .i64 f.kind, .int .i64 f.width, .int .i64 f.id, .int .i64 f.index, .slice ao f.kids.length ca] 37 (0, 0)) := by rw [← hW1]; exact heap_alloc_new wr _
      obtain ⟨d, hd⟩ : ∃ d, d = wr.heap.size := ⟨_, rfl⟩
      rw [← hd] at hd1
      have HD1 := hidP hd1
      have HF1 := hidP (hF.gr g1)
      have HG1 : Hid (Gr w W1) := HK.out.trans g1 fun _ _ h => h
      have HW1 := hidP hW1
      have Hd := hidP hd
      have r0 : W1.cell? ⟨d, 0, none⟩ = some (.string f.name) := by simp [World.cell?, hd1]
      have r1 : W1.cell? ⟨d, 1, none⟩ = some (.bool f.nul) := by simp [World.cell?, hd1]
      have r2 : W1.cell? ⟨d, 2, none⟩ = some (.int .i64 f.kind) := by simp [World.cell?, hd1]
      have r3 : W1.cell? ⟨d, 3, none⟩ = some (.int .i64 f.width) := by simp [World.cell?, hd1]
      have r4 : W1.cell? ⟨d, 4, none⟩ = some (.int .i64 f.id) := by simp [World.cell?, hd1]
      have r5 : W1.cell? ⟨d, 5, none⟩ = some (.int .i64 f.index) := by simp [World.cell?, hd1]
      have r6 : W1.cell? ⟨d, 6, none⟩ = some (.slice ao f.kids.length ca) := by simp [World.cell?, hd1]
      rw [← hW1, hd] at r0 r1 r2 r3 r4 r5 r6
      clear hM hgb hi hca hkr hF hf g1 hd1 hW1 hd HF
      go_wp2_with (go_at_call 15; rw [HW1.out, ← Hd.out]; refine Hid.out ?_)
      unfold Hid
      clear q0 q1 q2 q3 q4 q5 q6 r0 r1 r2 r3 r4 r5 r6 HW1 Hd
      refine Calls.mono (HF1.out.print W1 (Keeps.refl _ _)) ?_
      rintro e X1 ⟨rfl, gX⟩
      have HD2 := hidP ((gX.block d (lt_of_heap HD1.out) id).trans HD1.out)
      have HF2 := hidP (HF1.out.gr gX)
      have HG2 : Hid (Gr w X1) := HG1.out.trans gX fun _ _ h => h
      obtain ⟨tt, htt⟩ : ∃ tt, tt = txF 256 f := ⟨_, rfl⟩
      rw [← htt]
      have Htt := hidP htt
      clear gX HD1 HF1 HG1 htt
      go_wp2_with (go_at_call 9; refine Hid.out ?_)
      unfold Hid
      refine Calls.mono (parseField9 tt f X1 HF2.out.tab (by rw [Htt.out]; exact HF2.out.size) (by rw [Htt.out]; exact parseF_back (by decide) f HF2.out.ok) HF2.out.all) ?_
      rintro e X2 ⟨gX, ko, kc, rfl, hkc, hrow⟩
      obtain ⟨W2, hW2⟩ : ∃ W2, X2.alloc (.cells #[.string f.name, .bool f.nul, .int .i64 f.kind, .int .i64 f.width, .int .i64 f.id, .int .i64 f.index, .slice ko f.kids.length kc] 37) = W2 := ⟨_, rfl⟩
      have g2 : Gr X2 W2 := by rw [← hW2]; exact gr_alloc X2 _
      have hd2 : W2.heap[X2.heap.size]? = some (.cells #[.string f.name, .bool f.nul, .int .i64 f.kind, .int .i64 f.width, .int .i64 f.id, .int .i64 f.index, .slice ko f.kids.length kc] 37 (0, 0)) := by rw [← hW2]; exact heap_alloc_new X2 _
      obtain ⟨d2, hd'⟩ : ∃ d, d = X2.heap.size := ⟨_, rfl⟩
      rw [← hd'] at hd2
      have gXW : Gr X1 W2 := gX.trans g2 fun _ _ h => h
      have HD3 := hidP (And.intro ((gXW.block d (lt_of_heap HD2.out) id).trans HD2.out) hd2)
      have hF3 := HF2.out.gr gXW
      have HF3 := hidP hF3
      have HG3 : Hid (Gr w W2) := HG2.out.trans gXW fun _ _ h => h
      have hrow2 : RowAt (fun z => X1.heap.size ≤ z ∧ z < X2.heap.size) W2 D0 ko f.kids := hrow.kept fun z hz => g2.block z hz.2 id
      have HEq : Hid (Ans 11 #[.agg #[.string f.name, .bool f.nul, .int .i64 f.kind, .int .i64 f.width, .int .i64 f.id, .int .i64 f.index, .slice ao f.kids.length ca], .agg #[.string f.name, .bool f.nul, .int .i64 f.kind, .int .i64 f.width, .int .i64 f.id, .int .i64 f.index, .slice ko f.kids.length kc]] true W2) := by
        have := eqField_any (fun z => z < W2.heap.size) D0 W2 f f ao ko ca kc (hF3.row.mono fun z hz => hF3.low z hz) (hrow2.mono fun z hz => Nat.lt_of_lt_of_le hz.2 g2.size) hF3.cap hkc (fun b h => h)
        rwa [sameFd_refl] at this
      have HW2 := hidP hW2
      have Hd2 := hidP hd'
      have r0 : W2.cell? ⟨d, 0, none⟩ = some (.string f.name) := by simp [World.cell?, HD3.out.1]
      have r1 : W2.cell? ⟨d, 1, none⟩ = some (.bool f.nul) := by simp [World.cell?, HD3.out.1]
      have r2 : W2.cell? ⟨d, 2, none⟩ = some (.int .i64 f.kind) := by simp [World.cell?, HD3.out.1]
      have r3 : W2.cell? ⟨d, 3, none⟩ = some (.int .i64 f.width) := by simp [World.cell?, HD3.out.1]
      have r4 : W2.cell? ⟨d, 4, none⟩ = some (.int .i64 f.id) := by simp [World.cell?, HD3.out.1]
      have r5 : W2.cell? ⟨d, 5, none⟩ = some (.int .i64 f.index) := by simp [World.cell?, HD3.out.1]
      have r6 : W2.cell? ⟨d, 6, none⟩ = some (.slice ao f.kids.length ca) := by simp [World.cell?, HD3.out.1]
      have p0 : W2.cell? ⟨d2, 0, none⟩ = some (.string f.name) := by simp [World.cell?, hd2]
      have p1 : W2.cell? ⟨d2, 1, none⟩ = some (.bool f.nul) := by simp [World.cell?, hd2]
      have p2 : W2.cell? ⟨d2, 2, none⟩ = some (.int .i64 f.kind) := by simp [World.cell?, hd2]
      have p3 : W2.cell? ⟨d2, 3, none⟩ = some (.int .i64 f.width) := by simp [World.cell?, hd2]
      have p4 : W2.cell? ⟨d2, 4, none⟩ = some (.int .i64 f.id) := by simp [World.cell?, hd2]
      have p5 : W2.cell? ⟨d2, 5, none⟩ = some (.int .i64 f.index) := by simp [World.cell?, hd2]
      have p6 : W2.cell? ⟨d2, 6, none⟩ = some (.slice ko f.kids.length kc) := by simp [World.cell?, hd2]
      rw [← hW2] at r0 r1 r2 r3 r4 r5 r6 p0 p1 p2 p3 p4 p5 p6
      rw [hd'] at p0 p1 p2 p3 p4 p5 p6
      clear gX hkc hrow g2 hd2 gXW hF3 hrow2 hW2 hd' HD2 HF2 HG2
      go_wp2_with (go_at_call 11; rw [HW2.out, ← Hd2.out]; refine Hid.out ?_)
      unfold Hid
      clear r0 r1 r2 r3 r4 r5 r6 p0 p1 p2 p3 p4 p5 p6 HW2 Hd2
      refine Calls.mono (HEq.out W2 (Keeps.refl _ _)) ?_
      rintro e X4 ⟨rfl, gX⟩
      have HD4 := hidP ((gX.block d (lt_of_heap HD3.out.1) id).trans HD3.out.1)
      have HF4 := hidP (HF3.out.gr gX)
      have HG4 : Hid (Gr w X4) := HG3.out.trans gX fun _ _ h => h
      have r0 : X4.cell? ⟨d, 0, none⟩ = some (.string f.name) := by simp [World.cell?, HD4.out]
      have r1 : X4.cell? ⟨d, 1, none⟩ = some (.bool f.nul) := by simp [World.cell?, HD4.out]
      have r2 : X4.cell? ⟨d, 2, none⟩ = some (.int .i64 f.kind) := by simp [World.cell?, HD4.out]
      have r3 : X4.cell? ⟨d, 3, none⟩ = some (.int .i64 f.width) := by simp [World.cell?, HD4.out]
      have r4 : X4.cell? ⟨d, 4, none⟩ = some (.int .i64 f.id) := by simp [World.cell?, HD4.out]
      have r5 : X4.cell? ⟨d, 5, none⟩ = some (.int .i64 f.index) := by simp [World.cell?, HD4.out]
      have r6 : X4.cell? ⟨d, 6, none⟩ = some (.slice ao f.kids.length ca) := by simp [World.cell?, HD4.out]
      clear gX HD3 HF3 HG3 HEq
      go_wp2_with (go_at_call 16; refine Hid.out ?_)
      unfold Hid
      clear r0 r1 r2 r3 r4 r5 r6
      refine Calls.mono (HF4.out.check X4 (Keeps.refl _ _)) ?_
      rintro e X5 ⟨vo, vn, vc, rfl, gX⟩
      have HG5 : Hid (Gr w X5) := HG4.out.trans gX fun _ _ h => h
      clear gX HF4 HG4
      go_wp2_with fail
      go_roundw
      case rel => exact ⟨k + 1, by omega, by simp, HG5.out⟩
      case measure => simp [intOf]; omega
    · have hkm : k = l.length := by omega
      have hltI : ¬ (k : Int) < (l.length : Int) := by omega
      go_wp2_with fail
      go_ret
      exact ⟨rfl, HK.out⟩
end Go.Proofs.YtkodgneneiledaaGreatDoor.Kit
