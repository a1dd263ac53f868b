import Derived.Test.YtknnoiomdngmfaaGreatDoorUF
import Derived.Test.YtknnoiomdngmfaaGreatDoorUC
import Derived.Test.YtknnoiomdngmfaaGreatDoorND
import Derived.Test.YtknnoiomdngmfaaGreatDoorFE
set_option maxRecDepth 100000
set_option maxHeartbeats 4000000
namespace Go.Proofs.YtknnoiomdngmfaaGreatDoor.Kit
open Go.RowKit Go.Shelf Go.Deep
set_option linter.unusedVariables false
set_option linter.unusedSimpArgs false
attribute [local go_sem] run_store_func
theorem results_c24t {fn : Func} {t u : Tmp} {tmps : Array Value} {g : Nat} {cs : Array Value} {w : World} (h : fn.results = #[.cell t 24, .tmp u]) (ht : tmps.getD t undef = .pointer (some ⟨g, 0, none⟩)) (hg : w.heap[g]? = some (.cells cs 24 (0, 0))) (hi : (Tryz.prog.info? 24).map (·.size) = some cs.size) :
    (results fn tmps).run Tryz.prog w = .ok (.tuple #[.agg cs, tmps.getD u undef]) w := by
  have hl := run_loadVar_row (P := Tryz.prog) w g 24 24 cs (0, 0) _ hg Tryz.underlying24 rfl hi
  unfold results
  rw [h]
  simp only [Array.mapM_eq_mapM_toList, List.mapM_cons, List.mapM_nil, ht]
  simp [asAddr, hl]
structure OutW (W V : World) (x : Nat) : Prop where
  gr : Gr W V
  z : V.heap[x]? = some (.cells #[.int .i64 0, .int .i64 0, .int .i64 0, .int .i64 0, .slice none 0 0] 24)
  b : V.heap[x + 1]? = some (.cells #[.int .i64 2, .int .i64 0, .int .i64 0, .int .i64 0, .slice none 0 0] 24)
  n : W.heap.size ≤ x
def b5 : List (Nat × Value) := [(0, .int .i64 2), (1, .int .i64 0), (2, .int .i64 0), (3, .int .i64 0), (4, .slice none 0 0)]
theorem outW_new (W A0 A1 V : World) (h0 : W.alloc (.cells #[.int .i64 0, .int .i64 0, .int .i64 0, .int .i64 0, .slice none 0 0] 24) = A0) (h1 : A0.alloc (.cells #[.int .i64 0, .int .i64 0, .int .i64 0, .int .i64 0, .slice none 0 0] 24) = A1) (hV : stA A1 A0.heap.size b5 = V) :
    OutW W V W.heap.size ∧ Gr W A1 ∧ Gr W A0 ∧ A1.heap[A0.heap.size]? = some (.cells #[.int .i64 0, .int .i64 0, .int .i64 0, .int .i64 0, .slice none 0 0] 24) ∧ A0.heap.size = W.heap.size + 1 := by
  have g0 := gr_al h0
  have c0 : A0.heap[W.heap.size]? = some (.cells #[.int .i64 0, .int .i64 0, .int .i64 0, .int .i64 0, .slice none 0 0] 24) := by rw [← h0]; exact heap_alloc_new W _
  have z0 : A0.heap.size = W.heap.size + 1 := by rw [← h0]; simp
  have g1 := gr_al h1
  have c1 : A1.heap[A0.heap.size]? = some (.cells #[.int .i64 0, .int .i64 0, .int .i64 0, .int .i64 0, .slice none 0 0] 24) := by rw [← h1]; exact heap_alloc_new A0 _
  have k := stA_kp A0.heap.size b5 A1
  have gV : Gr A0 V := by rw [← hV]; exact g1.trans k (fun j hj (e : j = A0.heap.size) => by omega)
  refine ⟨⟨g0.tr gV, (gV.block _ (lt_of_heap c0) id).trans c0, ?_, Nat.le_refl _⟩, g0.tr g1, g0, c1, z0⟩
  rw [← z0, ← hV]
  exact st5 c1
theorem outT {W V : World} {x : Nat} (h : OutW W V x) (S : World → Prop) (hS : ∀ u, Gr W u → u.heap[x + 1]? = some (.cells #[.int .i64 2, .int .i64 0, .int .i64 0, .int .i64 0, .slice none 0 0] 24) → S u) (v0 v1 v2 v3 v4 : Value) (u : World) (g : Gr V.drew u) :
    S u ∧ u.heap[x]? = some (.cells #[.int .i64 0, .int .i64 0, .int .i64 0, .int .i64 0, .slice none 0 0] 24) ∧ (stA u x [(0, v0), (1, v1), (2, v2), (3, v3), (4, v4)]).heap[x]? = some (.cells #[v0, v1, v2, v3, v4] 24) ∧ Gr W (stA u x [(0, v0), (1, v1), (2, v2), (3, v3), (4, v4)]) ∧ S (stA u x [(0, v0), (1, v1), (2, v2), (3, v3), (4, v4)]) := by
  have gW : Gr W u := h.gr.drew.tr g
  have hz := (g.block x (lt_of_heap (W := V.drew) h.z) id).trans h.z
  have hb := (g.block (x + 1) (lt_of_heap (W := V.drew) h.b) id).trans h.b
  have k := stA_kp x [(0, v0), (1, v1), (2, v2), (3, v3), (4, v4)] u
  have gU : Gr W (stA u x [(0, v0), (1, v1), (2, v2), (3, v3), (4, v4)]) := gW.trans k (fun j hj (e : j = x) => by have := h.n; omega)
  exact ⟨hS u gW hb, hz, st5 hz, gU, hS _ gU ((k.block (x + 1) (lt_of_heap hb) (fun e => by have e' : x + 1 = x := e; omega)).trans hb)⟩
theorem whole28 (k : Int) (W : World) : Calls Tryz.prog 28 #[.int .i64 k] W fun e w' => e = .returned (.bool (decide (3 ≤ k) && decide (k ≤ 10))) ∧ W = w' := by
  go_enter Tryz.func28, Tryz.ntmps28
  go_wp2
  all_goals go_ret
  all_goals (refine ⟨?_, rfl⟩; first | rfl | (simp; omega) | (simp_all; done) | (simp_all; omega))
theorem letters29 (k : Int) (W : World) : Calls Tryz.prog 29 #[.int .i64 k] W fun e w' => e = .returned (.bool (k == 12 || k == 13)) ∧ W = w' := by
  go_enter Tryz.func29, Tryz.ntmps29
  go_wp2
  all_goals go_ret
  all_goals (refine ⟨?_, rfl⟩; first | rfl | (simp; omega) | (simp_all; done) | (simp_all; omega))
theorem null13_all (op : Int) (h1 : (op == 16) = false) (h2 : (op == 17) = false) (h3 : (op == 18) = false) (lo : Option Addr) (n lc : Nat) (r : Bool) (W : World) (hC : Calls Tryz.prog 9 #[.slice lo n lc, .func (.func 31) #[] #[]] W fun e w' => e = .returned (.bool r) ∧ Gr W w') :
    Calls Tryz.prog 13 #[.int .i64 op, .slice lo n lc] W fun e w' => e = .returned (.bool r) ∧ Gr W w' := by
  have HC := hidM hC
  clear hC
  go_enter Tryz.func13, Tryz.ntmps13
  go_wp2_with (go_at_call 9; refine HC.out.mono ?_; rintro e w1 ⟨rfl, gw⟩; have HG := hidM gw; clear gw)
  go_ret
  exact ⟨rfl, HG.out⟩
theorem null13_16 (lo : Option Addr) (n lc : Nat) (W : World) : Calls Tryz.prog 13 #[.int .i64 16, .slice lo n lc] W fun e w' => e = .returned (.bool false) ∧ Gr W w' := by
  go_enter Tryz.func13, Tryz.ntmps13
  go_wp2_with fail
  go_ret
  exact ⟨rfl, Keeps.refl _ _⟩
theorem null13_17 (b o lc : Nat) (f0 f1 : FT) (ao0 ao1 : Option Addr) (ca0 ca1 : Nat) (W : World) (hlc : 2 ≤ lc) (h0 : CellsAt W b o f0 ao0 ca0) (h1 : CellsAt W b (o + 7) f1 ao1 ca1) : Calls Tryz.prog 13 #[.int .i64 17, .slice (some ⟨b, o, none⟩) 2 lc] W fun e w' => e = .returned (.bool (f0.nul && f1.nul)) ∧ Gr W w' := by
  have c0 := h0.c1
  have c1 : W.cell? ⟨b, o + 8, none⟩ = some (.bool f1.nul) := h1.c1
  have hlc' : (2 : Int) ≤ (lc : Int) := by omega
  clear h0 h1
  generalize f0.nul = n0 at *
  generalize f1.nul = n1 at *
  cases n0
  all_goals
    (go_enter Tryz.func13, Tryz.ntmps13
     go_wp2_with fail
     go_ret
     exact ⟨rfl, Keeps.refl _ _⟩)
theorem null13_18 (b o lc : Nat) (r : Bool) (W : World) (hlc : 3 ≤ lc) (hC : Calls Tryz.prog 9 #[.slice (some ⟨b, o + 7, none⟩) 2 (lc - 1), .func (.func 31) #[] #[]] W fun e w' => e = .returned (.bool r) ∧ Gr W w') :
    Calls Tryz.prog 13 #[.int .i64 18, .slice (some ⟨b, o, none⟩) 3 lc] W fun e w' => e = .returned (.bool r) ∧ Gr W w' := by
  have HC := hidM hC
  have hlc' : (3 : Int) ≤ (lc : Int) := by omega
  clear hC
  go_enter Tryz.func13, Tryz.ntmps13
  go_wp2_with (go_at_call 9; refine HC.out.mono ?_; rintro e w1 ⟨rfl, gw⟩; have HG := hidM gw; clear gw)
  go_ret
  exact ⟨rfl, HG.out⟩
structure OkN (f : FT) (inD : Bool) : Prop where
  tab : tableB f = true
  nl : nullB f = true
  inn : inD = true → f.kind ≠ 19 ∧ f.kind ≠ 20
theorem AllR.okN {N : List LS} (h : AllR N) : ∀ s ∈ N, OkN s.fld s.inD := by
  intro s hs
  obtain ⟨k, hk, rfl⟩ := List.mem_iff_getElem.1 hs
  have h0 := h k hk
  unfold wrongE wr at h0
  split at h0
  · omega
  split at h0
  · omega
  split at h0
  · omega
  split at h0
  · omega
  split at h0
  · omega
  rename_i ht
  split at h0
  · omega
  rename_i hn
  split at h0
  · omega
  rename_i hi
  exact ⟨by simpa using ht, by simpa using hn, fun e => ⟨fun k => hi ⟨e, .inl k⟩, fun k => hi ⟨e, .inr k⟩⟩⟩
theorem nodes_one (d : Nat) (g : FT) (p : List Nat) (b : Bool) : nodes (d + 1) [g] p b = ⟨[g], p ++ [0], b⟩ :: nodes d g.kids (p ++ [0]) (b || decide (g.kind = 19)) := by simp [nodes]
theorem fld_one (g : FT) (p : List Nat) (b : Bool) : LS.fld ⟨[g], p ++ [0], b⟩ = g := by simp [LS.fld, LS.idx]
theorem tab_one {f : FT} (h : tableB f = true) (hk : f.kind = 19 ∨ f.kind = 20) : ∃ k, f.kids = [k] := by
  have hl : f.kids.length = 1 := by
    rcases hk with hk | hk <;> simp [tableB, hk, mostK, leastK] at h <;> omega
  match hf : f.kids, hl with
  | [k], _ => exact ⟨k, rfl⟩
theorem tab_leaf {f : FT} (h : tableB f = true) (h1 : 2 ≤ f.kind) (h2 : f.kind ≤ 13) : f.width = 0 ∧ f.id = 0 ∧ f.index = 0 ∧ f.kids = [] := by
  have hc : f.kind = 2 ∨ f.kind = 3 ∨ f.kind = 4 ∨ f.kind = 5 ∨ f.kind = 6 ∨ f.kind = 7 ∨ f.kind = 8 ∨ f.kind = 9 ∨ f.kind = 10 ∨ f.kind = 11 ∨ f.kind = 12 ∨ f.kind = 13 := by omega
  rcases hc with e | e | e | e | e | e | e | e | e | e | e | e <;> (simp [tableB, kindB, widthB, dictB, mostK, leastK, e] at h; refine ⟨h.1.2, h.2.1, h.2.2, ?_⟩; first | exact h.1.1 | exact List.eq_nil_of_length_eq_zero (by have := h.1.1; omega))
theorem plv_ex : ∀ (d : Nat) (f : FT) (p : List Nat) (b : Bool), Kit.deep d f.kids → (∀ s ∈ nodes (d + 1) [f] p b, OkN s.fld s.inD) → ∃ g, PlV d f g ∧ tableB g = true ∧ g.kind ≠ 19 ∧ g.kind ≠ 20
  | d, f, p, b, hd, h => by
    have h0 := h ⟨[f], p ++ [0], b⟩ (by rw [nodes_one]; exact List.mem_cons_self ..)
    rw [fld_one] at h0
    by_cases h1 : f.kind = 19
    · obtain ⟨k, hk⟩ := tab_one h0.tab (.inl h1)
      cases d with
      | zero => have e : f.kids = [] := hd; rw [hk] at e; cases e
      | succ d =>
        have hm := h ⟨[k], p ++ [0] ++ [0], true⟩ (by rw [nodes_one, hk, h1, nodes_one]; simp)
        rw [fld_one] at hm
        have hn := hm.inn rfl
        exact ⟨k, .inr (.inl ⟨h1, k, hk, hn, rfl⟩), hm.tab, hn.1, hn.2⟩
    by_cases h2 : f.kind = 20
    · obtain ⟨k, hk⟩ := tab_one h0.tab (.inr h2)
      cases d with
      | zero => have e : f.kids = [] := hd; rw [hk] at e; cases e
      | succ d =>
        have hdk : Kit.deep d k.kids := by
          have hd' : ∀ f' ∈ f.kids, Kit.deep d f'.kids := hd
          exact hd' k (by rw [hk]; simp)
        obtain ⟨g, hg, ht, hn⟩ := plv_ex d k (p ++ [0]) (b || decide (f.kind = 19)) hdk (fun s hs => h s (by rw [nodes_one, hk]; exact List.mem_cons_of_mem _ hs))
        have hv := h0.nl
        unfold nullB at hv
        rw [if_neg (by omega), if_neg (by omega), if_pos h2, hk] at hv
        have hv2 : f.nul = k.nul := by simpa using hv
        exact ⟨g, .inr (.inr ⟨h2, k, hk, hv2.symm, hg⟩), ht, hn⟩
    refine ⟨f, ?_, h0.tab, h1, h2⟩
    cases d with
    | zero => exact ⟨⟨h1, h2⟩, rfl⟩
    | succ d => exact .inl ⟨⟨h1, h2⟩, rfl⟩
theorem nodes_nil (d : Nat) (p : List Nat) (b : Bool) : nodes d [] p b = [] := by
  cases d <;> simp [nodes]
theorem leaf_allr {f : FT} (d : Nat) (h : tableB f = true) (h1 : 2 ≤ f.kind) (h2 : f.kind ≤ 13) : AllR (nodes (d + 1) [holdA f] [] false) := by
  obtain ⟨e1, e2, e3, e4⟩ := tab_leaf h h1 h2
  have hc : f.kind = 2 ∨ f.kind = 3 ∨ f.kind = 4 ∨ f.kind = 5 ∨ f.kind = 6 ∨ f.kind = 7 ∨ f.kind = 8 ∨ f.kind = 9 ∨ f.kind = 10 ∨ f.kind = 11 ∨ f.kind = 12 ∨ f.kind = 13 := by omega
  have hn : nulA f = false := by unfold nulA; rw [if_neg (by omega)]; simp; omega
  have he : holdA f = ⟨⟨#[97]⟩, false, f.kind, 0, 0, 0, []⟩ := by unfold holdA; rw [hn, e1, e2, e3, e4]
  rw [he, nodes_cons]
  show AllR (_ :: nodes d [] _ _)
  rw [nodes_nil]
  intro k hk
  obtain rfl : k = 0 := by simp at hk; omega
  rcases hc with e | e | e | e | e | e | e | e | e | e | e | e <;> (rw [e]; kernel_rfl)
theorem both_typeQ {S : Nat → Prop} {d : Nat} {f : FT} {ao : Option Addr} {ca : Nat} {w : World} (hT : Tab w) (h : Fld S w d f ao ca) (hd : d + 1 ≤ big) (hS : ∀ b, S b → b < w.heap.size) :
    ∃ z : Bool, Ans 74 #[.agg #[.int .i64 f.kind, .int .i64 f.width, .int .i64 f.id, .int .i64 f.index, .slice ao f.kids.length ca]] z w ∧ Ans 35 #[.agg #[.int .i64 f.kind, .int .i64 f.width, .int .i64 f.id, .int .i64 f.index, .slice ao f.kids.length ca]] z w ∧ (z = true → nulA f = nulR f ∧ AllR (nodes (d + 1) [holdA f] [] false)) ∧ (AllR (nodes (d + 1) [holdA f] [] false) → f.kind ≠ 20 → z = true) := by
  obtain ⟨er, p, tt, hA⟩ := fault_is (0, 0) (nodes (d + 1) [holdA f] [] false)
  obtain ⟨er', p', tt', hR⟩ := fault_is (0, 0) (nodes (d + 1) [holdR f] [] false)
  have a53 : Ans 74 #[.agg #[.int .i64 f.kind, .int .i64 f.width, .int .i64 f.id, .int .i64 f.index, .slice ao f.kids.length ca]] (er == 0) w := type53_walk h hS (fieldMayBe_gen (f := holdA f) hT ⟨h.row, h.le⟩ hd hS hA)
  have a54 : Ans 35 #[.agg #[.int .i64 f.kind, .int .i64 f.width, .int .i64 f.id, .int .i64 f.index, .slice ao f.kids.length ca]] (er' == 0) w := type54_walk h hS (mayBeR_gen (f := holdR f) ⟨h.row, h.le⟩ hS hR)
  by_cases hk : f.kind = 20 → f.kids.length ≤ 1
  · have e := nul_eq hk
    have he : holdR f = holdA f := by unfold holdR holdA; rw [e]
    rw [he] at hR
    obtain ⟨rfl, rfl, rfl⟩ := hA.one hR
    refine ⟨_, a53, a54, fun hz => ⟨e, ?_⟩, fun hal _ => ?_⟩
    · have h0 : er = 0 := by simpa using hz
      subst h0
      exact hA.zero.2
    have hz : FaultIs (0, 0) (nodes (d + 1) [holdA f] [] false) 0 [] 0 := .inr (.inl ⟨rfl, hal, rfl, rfl, rfl⟩)
    obtain ⟨rfl, -, -⟩ := hA.one hz
    rfl
  have hk' : f.kind = 20 ∧ ¬ f.kids.length ≤ 1 := by
    refine ⟨Classical.byContradiction fun h => hk fun e => absurd e h, fun h => hk fun _ => h⟩
  have h1 : er ≠ 0 := fun e => by subst e; exact hk'.2 (runs_one (g := holdA f) hA.zero.2.table hk'.1)
  have h2 : er' ≠ 0 := fun e => by subst e; exact hk'.2 (runs_one (g := holdR f) hR.zero.2.table hk'.1)
  rw [beqZ h1] at a53
  rw [beqZ h2] at a54
  exact ⟨false, a53, a54, fun h => (by cases h), fun _ hn => absurd hk'.1 hn⟩
noncomputable def rightB (d : Nat) (a : FT) : Bool := @decide (AllR (nodes (d + 1) [holdA a] [] false)) (Classical.propDecidable _)
noncomputable def alkB (d : Nat) (a b : FT) : Bool := rightB d a && rightB d b && (tyEq a b && sameLs d a.kids b.kids)
theorem both_typeP {S : Nat → Prop} {d : Nat} {f : FT} {ao : Option Addr} {ca : Nat} {w : World} (hT : Tab w) (h : Fld S w d f ao ca) (hd : d + 1 ≤ big) (hS : ∀ b, S b → b < w.heap.size) (hk : f.kind ≠ 20) :
    Ans 74 #[.agg #[.int .i64 f.kind, .int .i64 f.width, .int .i64 f.id, .int .i64 f.index, .slice ao f.kids.length ca]] (rightB d f) w ∧ Ans 35 #[.agg #[.int .i64 f.kind, .int .i64 f.width, .int .i64 f.id, .int .i64 f.index, .slice ao f.kids.length ca]] (rightB d f) w ∧ (rightB d f = true → nulA f = nulR f ∧ AllR (nodes (d + 1) [holdA f] [] false)) := by
  obtain ⟨z, h1, h2, h3, h4⟩ := both_typeQ hT h hd hS
  have e : z = rightB d f := by
    by_cases hA : AllR (nodes (d + 1) [holdA f] [] false)
    · rw [h4 hA hk]; simp [rightB, hA]
    cases z with
    | false => simp [rightB, hA]
    | true => exact absurd (h3 rfl).2 hA
  subst e
  exact ⟨h1, h2, h3⟩
theorem both_alikeP {S : Nat → Prop} {d : Nat} {a b : FT} {ao bo : Option Addr} {ca cb : Nat} {w : World} (hT : Tab w) (ha : Fld S w d a ao ca) (hb : Fld S w d b bo cb) (hd : d + 1 ≤ big) (hS : ∀ b, S b → b < w.heap.size) (hka : a.kind ≠ 20) (hkb : b.kind ≠ 20) :
    Ans 48 #[.agg #[.int .i64 a.kind, .int .i64 a.width, .int .i64 a.id, .int .i64 a.index, .slice ao a.kids.length ca], .agg #[.int .i64 b.kind, .int .i64 b.width, .int .i64 b.id, .int .i64 b.index, .slice bo b.kids.length cb]] (alkB d a b) w ∧ Ans 19 #[.agg #[.int .i64 a.kind, .int .i64 a.width, .int .i64 a.id, .int .i64 a.index, .slice ao a.kids.length ca], .agg #[.int .i64 b.kind, .int .i64 b.width, .int .i64 b.id, .int .i64 b.index, .slice bo b.kids.length cb]] (alkB d a b) w := by
  obtain ⟨a1, a2, a3⟩ := both_typeP hT ha hd hS hka
  obtain ⟨b1, b2, b3⟩ := both_typeP hT hb hd hS hkb
  unfold alkB
  generalize rightB d a = zA at *
  generalize rightB d b = zB at *
  have h17 := alikeT_gen a.kind a.width a.id a.index b.kind b.width b.id b.index ao bo a.kids.length ca b.kids.length cb zA zB _ w a1 b1 (sameTypes_walk a.kind a.width a.id a.index b.kind b.width b.id b.index ao bo a.kids.length ca b.kids.length cb _ w (same_any S d w ao bo ca cb a.kids b.kids ha.row hb.row hS))
  have h18 := alikeTR_gen (nulR a) (nulR b) a.kind a.width a.id a.index b.kind b.width b.id b.index ao bo a.kids.length ca b.kids.length cb zA zB _ w a2 b2
    (fun W g => holder_any S d a ao ca W (ha.gr hS g) (fun c hc => by have := hS c hc; have := g.size; omega)) (fun W g => holder_any S d b bo cb W (hb.gr hS g) (fun c hc => by have := hS c hc; have := g.size; omega))
    (alike_rows (a := holdR a) (b := holdR b) ⟨ha.row, ha.le⟩ ⟨hb.row, hb.le⟩ hS)
  refine ⟨h17, ?_⟩
  cases zA with
  | false => simpa using h18
  | true =>
    cases zB with
    | false => simpa using h18
    | true =>
      obtain ⟨e1, A1⟩ := a3 rfl
      obtain ⟨e2, B1⟩ := b3 rfl
      have f1 : holdR a = holdA a := by unfold holdR holdA; rw [e1]
      have f2 : holdR b = holdA b := by unfold holdR holdA; rw [e2]
      rw [← f1] at A1
      rw [← f2] at B1
      rw [allr_cut A1, allr_cut B1, alikeB_false (a := holdR a) (b := holdR b) ha.row.deep hb.row.deep] at h18
      have key : ((holdR a).nul == (holdR b).nul && (tyEq (holdR a) (holdR b) && sameLs d (holdR a).kids (holdR b).kids)) = (tyEq a b && sameLs d a.kids b.kids) := by
        show (nulR a == nulR b && (tyEq a b && sameLs d a.kids b.kids)) = (tyEq a b && sameLs d a.kids b.kids)
        cases ht : tyEq a b with
        | false => simp
        | true =>
          cases hs : sameLs d a.kids b.kids with
          | false => simp
          | true => rw [nulR_same ha.row.deep hb.row.deep ht hs]; simp
      rw [key] at h18
      exact h18
theorem alkB_leaf {d : Nat} {a b : FT} (hta : tableB a = true) (htb : tableB b = true) (h1 : 2 ≤ a.kind) (h2 : a.kind ≤ 13) : alkB d a b = (b.kind == a.kind) := by
  unfold alkB
  by_cases hk : b.kind = a.kind
  · have zA1 : rightB d a = true := by simp [rightB, leaf_allr d hta h1 h2]
    have zB1 : rightB d b = true := by simp [rightB, leaf_allr d htb (by omega) (by omega)]
    obtain ⟨w1, i1, x1, k1⟩ := tab_leaf hta h1 h2
    obtain ⟨w2, i2, x2, k2⟩ := tab_leaf htb (by omega) (by omega)
    have hty : tyEq a b = true := by unfold tyEq; rw [hk, w1, i1, x1, w2, i2, x2]; simp
    rw [zA1, zB1, hty, k1, k2, hk, sameLs_refl]
    simp
  have : tyEq a b = false := by unfold tyEq; simp; omega
  rw [this]
  simp [hk]
def argN (op : Int) : Int := if op = 6 ∨ op = 15 ∨ op = 16 ∨ op = 20 then 1 else if op = 18 then 3 else if 1 ≤ op ∧ op ≤ 22 then 2 else 0
def argR (op : Int) : Int := if op = 6 ∨ op = 15 ∨ op = 16 ∨ op = 20 then 1 else if op = 18 then 3 else if 1 ≤ op ∧ op ≤ 22 then 2 else -1
theorem argsA_any (op : Int) (W : World) : Calls Tryz.prog 8 #[.int .i64 op] W fun e w' => e = .returned (.int .i64 (argN op)) ∧ W = w' := by
  have e1 : (op = 6 ∨ op = 15 ∨ op = 16 ∨ op = 20) ∨ ¬ (op = 6 ∨ op = 15 ∨ op = 16 ∨ op = 20) := Classical.em _
  rcases e1 with (rfl | rfl | rfl | rfl) | hn
  · go_enter Tryz.func8, Tryz.ntmps8
    go_wp2
    go_ret
    exact ⟨rfl, rfl⟩
  · go_enter Tryz.func8, Tryz.ntmps8
    go_wp2
    go_ret
    exact ⟨rfl, rfl⟩
  · go_enter Tryz.func8, Tryz.ntmps8
    go_wp2
    go_ret
    exact ⟨rfl, rfl⟩
  · go_enter Tryz.func8, Tryz.ntmps8
    go_wp2
    go_ret
    exact ⟨rfl, rfl⟩
  have n1 : (op == 6) = false := by simp; omega
  have n2 : (op == 15) = false := by simp; omega
  have n3 : (op == 16) = false := by simp; omega
  have n4 : (op == 20) = false := by simp; omega
  by_cases h18 : op = 18
  · subst h18
    clear hn n1 n2 n3 n4
    go_enter Tryz.func8, Tryz.ntmps8
    go_wp2
    go_ret
    exact ⟨rfl, rfl⟩
  have n5 : (op == 18) = false := by simp; omega
  by_cases hr : 1 ≤ op ∧ op ≤ 22
  · have r1 : (1 : Int) ≤ op := hr.1
    have r2 : op ≤ 22 := hr.2
    have ha : Hid (argN op = 2) := by
      show argN op = 2
      unfold argN
      rw [if_neg hn, if_neg h18, if_pos hr]
    clear hn h18 hr
    go_enter Tryz.func8, Tryz.ntmps8
    go_wp2
    go_ret
    exact ⟨by rw [ha.out]; rfl, rfl⟩
  have ha : Hid (argN op = 0) := by
    show argN op = 0
    unfold argN
    rw [if_neg hn, if_neg h18, if_neg hr]
  by_cases r1 : (1 : Int) ≤ op
  · have r2 : ¬ op ≤ 22 := fun h => hr ⟨r1, h⟩
    clear hn h18 hr
    go_enter Tryz.func8, Tryz.ntmps8
    go_wp2
    go_ret
    exact ⟨by rw [ha.out]; rfl, rfl⟩
  clear hn h18 hr
  go_enter Tryz.func8, Tryz.ntmps8
  go_wp2
  go_ret
  exact ⟨by rw [ha.out]; rfl, rfl⟩
theorem argsR_any (op : Int) (W : World) : Calls Tryz.prog 15 #[.int .i64 op] W fun e w' => e = .returned (.int .i64 (argR op)) ∧ W = w' := by
  have e1 : (op = 6 ∨ op = 15 ∨ op = 16 ∨ op = 20) ∨ ¬ (op = 6 ∨ op = 15 ∨ op = 16 ∨ op = 20) := Classical.em _
  rcases e1 with (rfl | rfl | rfl | rfl) | hn
  · go_enter Tryz.func15, Tryz.ntmps15
    go_wp2
    go_ret
    exact ⟨rfl, rfl⟩
  · go_enter Tryz.func15, Tryz.ntmps15
    go_wp2
    go_ret
    exact ⟨rfl, rfl⟩
  · go_enter Tryz.func15, Tryz.ntmps15
    go_wp2
    go_ret
    exact ⟨rfl, rfl⟩
  · go_enter Tryz.func15, Tryz.ntmps15
    go_wp2
    go_ret
    exact ⟨rfl, rfl⟩
  have n1 : (op == 6) = false := by simp; omega
  have n2 : (op == 15) = false := by simp; omega
  have n3 : (op == 16) = false := by simp; omega
  have n4 : (op == 20) = false := by simp; omega
  by_cases h18 : op = 18
  · subst h18
    clear hn n1 n2 n3 n4
    go_enter Tryz.func15, Tryz.ntmps15
    go_wp2
    go_ret
    exact ⟨rfl, rfl⟩
  have n5 : (op == 18) = false := by simp; omega
  by_cases hr : 1 ≤ op ∧ op ≤ 22
  · have r1 : (1 : Int) ≤ op := hr.1
    have r2 : op ≤ 22 := hr.2
    have ha : Hid (argR op = 2) := by
      show argR op = 2
      unfold argR
      rw [if_neg hn, if_neg h18, if_pos hr]
    clear hn h18 hr
    go_enter Tryz.func15, Tryz.ntmps15
    go_wp2
    go_ret
    exact ⟨by rw [ha.out]; rfl, rfl⟩
  have ha : Hid (argR op = -1) := by
    show argR op = -1
    unfold argR
    rw [if_neg hn, if_neg h18, if_neg hr]
  by_cases r1 : (1 : Int) ≤ op
  · have r2 : ¬ op ≤ 22 := fun h => hr ⟨r1, h⟩
    clear hn h18 hr
    go_enter Tryz.func15, Tryz.ntmps15
    go_wp2
    go_ret
    exact ⟨by rw [ha.out]; rfl, rfl⟩
  clear hn h18 hr
  go_enter Tryz.func15, Tryz.ntmps15
  go_wp2
  go_ret
  exact ⟨by rw [ha.out]; rfl, rfl⟩
theorem box5 {w B V : World} {y : Nat} {v0 v1 v2 v3 v4 : Value} (hB : w.alloc (.cells #[.int .i64 0, .int .i64 0, .int .i64 0, .int .i64 0, .slice none 0 0] 24) = B) (hy : w.heap.size = y) (hV : stA B y [(0, v0), (1, v1), (2, v2), (3, v3), (4, v4)] = V) : Gr w V ∧ V.heap[y]? = some (.cells #[v0, v1, v2, v3, v4] 24) ∧ B.heap[y]? = some (.cells #[.int .i64 0, .int .i64 0, .int .i64 0, .int .i64 0, .slice none 0 0] 24) := by
  subst hy
  have c : B.heap[w.heap.size]? = some (.cells #[.int .i64 0, .int .i64 0, .int .i64 0, .int .i64 0, .slice none 0 0] 24) := by rw [← hB]; exact heap_alloc_new w _
  have g := gr_al hB
  rw [← hV]
  exact ⟨g.trans (stA_kp _ _ _) (fun j hj (e : j = w.heap.size) => by omega), st5 c, c⟩
theorem box7 {w B V : World} {y : Nat} {v0 v1 v2 v3 v4 v5 v6 : Value} (hB : w.alloc (.cells #[.string ⟨#[]⟩, .bool false, .int .i64 0, .int .i64 0, .int .i64 0, .int .i64 0, .slice none 0 0] 26) = B) (hy : w.heap.size = y) (hV : stA B y [(0, v0), (1, v1), (2, v2), (3, v3), (4, v4), (5, v5), (6, v6)] = V) : Gr w V ∧ V.heap[y]? = some (.cells #[v0, v1, v2, v3, v4, v5, v6] 26) ∧ B.heap[y]? = some (.cells #[.string ⟨#[]⟩, .bool false, .int .i64 0, .int .i64 0, .int .i64 0, .int .i64 0, .slice none 0 0] 26) := by
  subst hy
  have c : B.heap[w.heap.size]? = some (.cells #[.string ⟨#[]⟩, .bool false, .int .i64 0, .int .i64 0, .int .i64 0, .int .i64 0, .slice none 0 0] 26) := by rw [← hB]; exact heap_alloc_new w _
  have g := gr_al hB
  rw [← hV]
  exact ⟨g.trans (stA_kp _ _ _) (fun j hj (e : j = w.heap.size) => by omega), st7 c, c⟩
theorem results_c26t {fn : Func} {t u : Tmp} {tmps : Array Value} {g : Nat} {cs : Array Value} {w : World} (h : fn.results = #[.cell t 26, .tmp u]) (ht : tmps.getD t undef = .pointer (some ⟨g, 0, none⟩)) (hg : w.heap[g]? = some (.cells cs 26 (0, 0))) (hi : (Tryz.prog.info? 26).map (·.size) = some cs.size) :
    (results fn tmps).run Tryz.prog w = .ok (.tuple #[.agg cs, tmps.getD u undef]) w := by
  have hl := run_loadVar_row (P := Tryz.prog) w g 26 26 cs (0, 0) _ hg Tryz.underlying26 rfl hi
  unfold results
  rw [h]
  simp only [Array.mapM_eq_mapM_toList, List.mapM_cons, List.mapM_nil, ht]
  simp [asAddr, hl]
theorem AtQ.put {W u w5 : World} {D x0 : Nat} {r : Int × FT} {vo : Option Addr} {vc : Nat} (g : Gr W u) (hx : x0 < u.heap.size) (hx0 : W.heap.size ≤ x0) (gw : Gr u w5) (hz : w5.heap[x0]? = some (.cells #[.string ⟨#[]⟩, .bool false, .int .i64 0, .int .i64 0, .int .i64 0, .int .i64 0, .slice none 0 0] 26)) (hle : r.2.kids.length ≤ vc) (hr : RowAt (NewB u w5) w5 D vo r.2.kids) :
    (stA w5 x0 [(0, .string r.2.name), (1, .bool r.2.nul), (2, .int .i64 r.2.kind), (3, .int .i64 r.2.width), (4, .int .i64 r.2.id), (5, .int .i64 r.2.index), (6, .slice vo r.2.kids.length vc)]).heap[x0]? = some (.cells #[.string r.2.name, .bool r.2.nul, .int .i64 r.2.kind, .int .i64 r.2.width, .int .i64 r.2.id, .int .i64 r.2.index, .slice vo r.2.kids.length vc] 26) ∧ AtQ W D r (.returned (.tuple #[.agg #[.string r.2.name, .bool r.2.nul, .int .i64 r.2.kind, .int .i64 r.2.width, .int .i64 r.2.id, .int .i64 r.2.index, .slice vo r.2.kids.length vc], .int .i64 r.1])) (stA w5 x0 [(0, .string r.2.name), (1, .bool r.2.nul), (2, .int .i64 r.2.kind), (3, .int .i64 r.2.width), (4, .int .i64 r.2.id), (5, .int .i64 r.2.index), (6, .slice vo r.2.kids.length vc)]) := by
  have k := stA_kp x0 [(0, .string r.2.name), (1, .bool r.2.nul), (2, .int .i64 r.2.kind), (3, .int .i64 r.2.width), (4, .int .i64 r.2.id), (5, .int .i64 r.2.index), (6, .slice vo r.2.kids.length vc)] w5
  refine ⟨st7 hz, vo, vc, rfl, (g.tr gw).trans k (fun j hj (e : j = x0) => by omega), hle, (hr.kept fun b hb => k.block b hb.2 (fun e => by have e' : b = x0 := e; have := hb.1; omega)).mono fun b hb => ⟨?_, ?_⟩⟩
  · have := hb.1; have := g.size; omega
  have := hb.2; have := k.size; omega
theorem AtQ.no {W w5 : World} {D x0 : Nat} (er : Int) (hx0 : W.heap.size ≤ x0) (gw : Gr W w5) (hz : w5.heap[x0]? = some (.cells #[.string ⟨#[]⟩, .bool false, .int .i64 0, .int .i64 0, .int .i64 0, .int .i64 0, .slice none 0 0] 26)) :
    (stA w5 x0 [(0, .string ⟨#[]⟩), (1, .bool false), (2, .int .i64 0), (3, .int .i64 0), (4, .int .i64 0), (5, .int .i64 0), (6, .slice none 0 0)]).heap[x0]? = some (.cells #[.string ⟨#[]⟩, .bool false, .int .i64 0, .int .i64 0, .int .i64 0, .int .i64 0, .slice none 0 0] 26) ∧ AtQ W D (er, zFT) (.returned (.tuple #[.agg #[.string ⟨#[]⟩, .bool false, .int .i64 0, .int .i64 0, .int .i64 0, .int .i64 0, .slice none 0 0], .int .i64 er])) (stA w5 x0 [(0, .string ⟨#[]⟩), (1, .bool false), (2, .int .i64 0), (3, .int .i64 0), (4, .int .i64 0), (5, .int .i64 0), (6, .slice none 0 0)]) :=
  ⟨st7 hz, AtQ.zero rfl (gw.trans (stA_kp x0 _ w5) (fun j hj (e : j = x0) => by omega))⟩
theorem type4_arg (lo : Option Addr) (n lc D : Nat) (op : Int) (W : World) (hN : argN op = 0 ∨ argN op ≠ n) :
    Calls Tryz.prog 4 #[.int .i64 op, .slice lo n lc] W (AtQ W D (1, zFT)) := by
  obtain ⟨x0, hx0⟩ := ex (W.heap.size)
  obtain ⟨A0, hA0⟩ := ex (W.alloc (.cells #[.string ⟨#[]⟩, .bool false, .int .i64 0, .int .i64 0, .int .i64 0, .int .i64 0, .slice none 0 0] 26))
  have g0 := gr_al hA0
  have z0 : A0.heap[x0]? = some (.cells #[.string ⟨#[]⟩, .bool false, .int .i64 0, .int .i64 0, .int .i64 0, .int .i64 0, .slice none 0 0] 26) := by rw [← hA0, ← hx0]; exact heap_alloc_new W _
  have HX := hidM hx0
  have hz := z0
  have hgw := g0
  obtain ⟨q0, q1, q2, q3, q4, q5, q6⟩ := cell7p hz
  obtain ⟨y0, y1, y2, y3, y4, y5, y6⟩ := frz7 hz
  obtain ⟨U, hU⟩ := ex (stA A0 x0 [(0, .string ⟨#[]⟩), (1, .bool false), (2, .int .i64 0), (3, .int .i64 0), (4, .int .i64 0), (5, .int .i64 0), (6, .slice none 0 0)])
  have hno := AtQ.no (W := W) (D := D) (x0 := x0) 1 (Nat.le_of_eq HX.out) hgw hz
  rw [hU] at hno
  have HNO := hidM hno
  simp only [stA] at hU
  clear hno hz hgw
  clear g0 z0
  by_cases h0 : argN op = 0
  · have H8 : Hid (∀ u, Calls Tryz.prog 8 #[.int .i64 op] u fun e w' => e = .returned (.int .i64 0) ∧ u = w') := fun u => by have h := argsA_any op u; rwa [h0] at h
    clear hN h0
    go_enter Tryz.func4, Tryz.ntmps4
    (try rw [hx0])
    go_wp2_with (go_at_call 8; refine (H8.out _).mono ?_; rintro e w1 ⟨rfl, hw⟩; subst hw)
    (try simp only [Exit.inBlock, Exit.then])
    refine bodyPost_ret (results_c26t rfl rfl (by with_reducible exact HNO.out.1) (by kernel_rfl)) rfl HNO.out.2
  have H8 := hidM (argsA_any op)
  have hne : argN op ≠ n := hN.resolve_left h0
  obtain ⟨k, hk⟩ := ex (argN op)
  rw [hk] at H8 hne h0
  have e0 : (k == 0) = false := by simpa using h0
  have e1 : ((n : Int) == k) = false := by simpa using fun e => hne e.symm
  have e2 : ((n : Int) != k) = true := by simp [bne, e1]
  have e3 : ¬ (n : Int) = k := fun e => hne e.symm
  clear hN h0 hne hk
  go_enter Tryz.func4, Tryz.ntmps4
  (try rw [hx0])
  go_wp2_with (go_at_call 8; refine (H8.out _).mono ?_; rintro e w1 ⟨rfl, hw⟩; subst hw)
  (try simp only [Exit.inBlock, Exit.then])
  refine bodyPost_ret (results_c26t rfl rfl (by with_reducible exact HNO.out.1) (by kernel_rfl)) rfl HNO.out.2
theorem type4_bad (n : Nat) (hn1 : 1 ≤ n) (b o lc D : Nat) (op : Int) (W : World) (hN : argN op = (n : Int)) (hlc : n ≤ lc)
    (h9 : ∀ u, Gr W u → Calls Tryz.prog 9 #[.slice (some ⟨b, o, none⟩) n lc, .func (.func 10) #[] #[]] u fun e w' => e = .returned (.bool true) ∧ Gr u w') :
    Calls Tryz.prog 4 #[.int .i64 op, .slice (some ⟨b, o, none⟩) n lc] W (AtQ W D (5, zFT)) := by
  obtain ⟨x0, hx0⟩ := ex (W.heap.size)
  obtain ⟨A0, hA0⟩ := ex (W.alloc (.cells #[.string ⟨#[]⟩, .bool false, .int .i64 0, .int .i64 0, .int .i64 0, .int .i64 0, .slice none 0 0] 26))
  have g0 := gr_al hA0
  have z0 : A0.heap[x0]? = some (.cells #[.string ⟨#[]⟩, .bool false, .int .i64 0, .int .i64 0, .int .i64 0, .int .i64 0, .slice none 0 0] 26) := by rw [← hA0, ← hx0]; exact heap_alloc_new W _
  have H8 : Hid (∀ u, Calls Tryz.prog 8 #[.int .i64 op] u fun e w' => e = .returned (.int .i64 (n : Int)) ∧ u = w') := fun u => by have h := argsA_any op u; rwa [hN] at h
  have H9 := hidM (h9 A0 g0)
  have HZ := hidM (And.intro g0 z0)
  have HX := hidM hx0
  have e0 : ((n : Int) == 0) = false := by simp; omega
  clear h9 hN g0 z0
  go_enter Tryz.func4, Tryz.ntmps4
  (try rw [hx0])
  go_wp2_with (first | (go_at_call 8; refine (H8.out _).mono ?_; rintro e w1 ⟨rfl, hw⟩; subst hw) | (go_at_call 9; refine H9.out.mono ?_; rintro e w1 ⟨rfl, gw⟩; have hz := (gw.block _ (lt_of_heap HZ.out.2) id).trans HZ.out.2; have hgw := HZ.out.1.tr gw; clear gw; obtain ⟨q0, q1, q2, q3, q4, q5, q6⟩ := cell7p hz; obtain ⟨y0, y1, y2, y3, y4, y5, y6⟩ := frz7 hz; obtain ⟨U, hU⟩ := ex (stA w1 x0 [(0, .string ⟨#[]⟩), (1, .bool false), (2, .int .i64 0), (3, .int .i64 0), (4, .int .i64 0), (5, .int .i64 0), (6, .slice none 0 0)]); have hno := AtQ.no (W := W) (D := D) (x0 := x0) 5 (Nat.le_of_eq HX.out) hgw hz; rw [hU] at hno; have HNO := hidM hno; simp only [stA] at hU; clear hno hz hgw))
  (try simp only [Exit.inBlock, Exit.then])
  refine bodyPost_ret (results_c26t rfl rfl (by with_reducible exact HNO.out.1) (by kernel_rfl)) rfl HNO.out.2
end Go.Proofs.YtknnoiomdngmfaaGreatDoor.Kit
