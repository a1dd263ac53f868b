import Derived.Test.YtknnoiomdngmfaaGreatDoorOG
import Derived.Deep.LoopGhost
set_option maxRecDepth 100000
set_option maxHeartbeats 4000000
namespace Go.Proofs.YtknnoiomdngmfaaGreatDoor.Kit
open Go.RowKit Go.Shelf Go.Deep
set_option linter.unusedVariables false
attribute [local go_sem] Oper.semAt_some run_store_func
theorem alike_rows {S : Nat → Prop} {d : Nat} {a b : FT} {ao bo : Option Addr} {ca cb : Nat} {w : World} (ha : Fld S w d a ao ca) (hb : Fld S w d b bo cb) (hS : ∀ b, S b → b < w.heap.size) :
    ∀ W r1 r2, Gr w W → W.heap[r1]? = some (.cells #[.string a.name, .bool a.nul, .int .i64 a.kind, .int .i64 a.width, .int .i64 a.id, .int .i64 a.index, .slice ao a.kids.length ca] 26) → W.heap[r2]? = some (.cells #[.string b.name, .bool b.nul, .int .i64 b.kind, .int .i64 b.width, .int .i64 b.id, .int .i64 b.index, .slice bo b.kids.length cb] 26) → Calls Tryz.prog 36 #[.slice (some ⟨r1, 0, none⟩) 1 1, .slice (some ⟨r2, 0, none⟩) 1 1, .bool false] W fun e w' => e = .returned (.bool (alikeB false 1 1 (grown [] (nodesC (d + 1) [a] [] false)) (grown [] (nodesC (d + 1) [b] [] false)))) ∧ Gr W w' := by
  intro W r1 r2 g h1 h2
  have hr1 := (row_alone h1 (ha.gr hS g).row ha.le).mono (T := fun c => c < W.heap.size) (fun c h => h.elim (fun h => Nat.lt_of_lt_of_le (hS c h) g.size) fun h => by rw [h]; exact lt_of_heap h1)
  have hr2 := (row_alone h2 (hb.gr hS g).row hb.le).mono (T := fun c => c < W.heap.size) (fun c h => h.elim (fun h => Nat.lt_of_lt_of_le (hS c h) g.size) fun h => by rw [h]; exact lt_of_heap h2)
  exact alike_any (fun c => c < W.heap.size) (d + 1) false (some ⟨r1, 0, none⟩) (some ⟨r2, 0, none⟩) 1 1 [a] [b] W hr1 (by simp) hr2 (by simp) (fun _ h => h)
theorem nulR_same {d : Nat} {a b : FT} (ha : deep d a.kids) (hb : deep d b.kids) (ht : tyEq a b = true) (hs : sameLs d a.kids b.kids = true) : nulR a = nulR b := by
  have hk : a.kind = b.kind := by simp [tyEq] at ht; exact ht.1.1.1
  have hl : a.kids.length = b.kids.length := Classical.byContradiction fun h => by
    have : sameLs d a.kids b.kids = false := by
      cases d with
      | zero => rw [sameLs]; exact sameAll_len h
      | succ d => rw [sameLs_succ]; exact sameAll_len h
    rw [this] at hs
    cases hs
  have h0 : kid0 a = kid0 b := by
    cases d with
    | zero =>
      have h1 : a.kids = [] := ha
      have h2 : b.kids = [] := hb
      simp [kid0, h1, h2]
    | succ d =>
      rw [sameLs_succ] at hs
      unfold kid0
      cases h1 : a.kids with
      | nil =>
        rw [h1] at hl
        have h2 : b.kids = [] := List.eq_nil_of_length_eq_zero hl.symm
        simp [h2]
      | cons x t =>
        cases h2 : b.kids with
        | nil => rw [h1, h2] at hl; simp at hl
        | cons y u =>
          rw [h1, h2, sameAll, sameFd_eq] at hs
          simp at hs
          simp [hs.1.1.2]
  unfold nulR
  rw [hk, hl, h0]
theorem both_alikeT {S : Nat → Prop} {d : Nat} {a b : FT} {ao bo : Option Addr} {ca cb : Nat} {w : World} (hT : Tab w) (ha : Fld S w d a ao ca) (hb : Fld S w d b bo cb) (hd : d + 1 ≤ big) (hS : ∀ b, S b → b < w.heap.size) :
    ∃ r : Bool, Ans 48 #[.agg #[.int .i64 a.kind, .int .i64 a.width, .int .i64 a.id, .int .i64 a.index, .slice ao a.kids.length ca], .agg #[.int .i64 b.kind, .int .i64 b.width, .int .i64 b.id, .int .i64 b.index, .slice bo b.kids.length cb]] r w ∧ Ans 19 #[.agg #[.int .i64 a.kind, .int .i64 a.width, .int .i64 a.id, .int .i64 a.index, .slice ao a.kids.length ca], .agg #[.int .i64 b.kind, .int .i64 b.width, .int .i64 b.id, .int .i64 b.index, .slice bo b.kids.length cb]] r w := by
  obtain ⟨zA, a1, a2, a3⟩ := both_type hT ha hd hS
  obtain ⟨zB, b1, b2, b3⟩ := both_type hT hb hd hS
  have h17 := alikeT_gen a.kind a.width a.id a.index b.kind b.width b.id b.index ao bo a.kids.length ca b.kids.length cb zA zB _ w a1 b1 (sameTypes_walk a.kind a.width a.id a.index b.kind b.width b.id b.index ao bo a.kids.length ca b.kids.length cb _ w (same_any S d w ao bo ca cb a.kids b.kids ha.row hb.row hS))
  have h18 := alikeTR_gen (nulR a) (nulR b) a.kind a.width a.id a.index b.kind b.width b.id b.index ao bo a.kids.length ca b.kids.length cb zA zB _ w a2 b2
    (fun W g => holder_any S d a ao ca W (ha.gr hS g) (fun c hc => by have := hS c hc; have := g.size; omega)) (fun W g => holder_any S d b bo cb W (hb.gr hS g) (fun c hc => by have := hS c hc; have := g.size; omega))
    (alike_rows (a := holdR a) (b := holdR b) ⟨ha.row, ha.le⟩ ⟨hb.row, hb.le⟩ hS)
  refine ⟨_, h17, ?_⟩
  cases zA with
  | false => simpa using h18
  | true =>
    cases zB with
    | false => simpa using h18
    | true =>
      obtain ⟨e1, A1⟩ := a3 rfl
      obtain ⟨e2, B1⟩ := b3 rfl
      have f1 : holdR a = holdA a := by unfold holdR holdA; rw [e1]
      have f2 : holdR b = holdA b := by unfold holdR holdA; rw [e2]
      rw [← f1] at A1
      rw [← f2] at B1
      rw [allr_cut A1, allr_cut B1, alikeB_false (a := holdR a) (b := holdR b) ha.row.deep hb.row.deep] at h18
      have key : ((holdR a).nul == (holdR b).nul && (tyEq (holdR a) (holdR b) && sameLs d (holdR a).kids (holdR b).kids)) = (tyEq a b && sameLs d a.kids b.kids) := by
        show (nulR a == nulR b && (tyEq a b && sameLs d a.kids b.kids)) = (tyEq a b && sameLs d a.kids b.kids)
        cases ht : tyEq a b with
        | false => simp
        | true =>
          cases hs : sameLs d a.kids b.kids with
          | false => simp
          | true => rw [nulR_same ha.row.deep hb.row.deep ht hs]; simp
      rw [key] at h18
      exact h18
end Go.Proofs.YtknnoiomdngmfaaGreatDoor.Kit
namespace Go.Proofs.YtknnoiomdngmfaaGreatDoor.Kit
open Go.RowKit Go.Shelf Go.Deep
set_option linter.unusedVariables false
set_option linter.unusedSimpArgs false
attribute [local go_sem] run_store_func
def PlR : Nat → FT → FT → Prop
  | 0, f, g => (f.kind ≠ 19 ∧ f.kind ≠ 20) ∧ g = f
  | d + 1, f, g => ((f.kind ≠ 19 ∧ f.kind ≠ 20) ∧ g = f) ∨ ((f.kind = 19 ∨ f.kind = 20) ∧ ∃ k, f.kids = [k] ∧ PlR d k g)
theorem row_one {S : Nat → Prop} {W : World} {d : Nat} {ao : Option Addr} {k : FT} (h : RowAt S W d ao [k]) : ∃ e b o ao' ca', d = e + 1 ∧ ao = some ⟨b, o, none⟩ ∧ S b ∧ CellsAt W b o k ao' ca' ∧ k.kids.length ≤ ca' ∧ RowAt S W e ao' k.kids := by
  cases d with
  | zero => cases h
  | succ e =>
    obtain ⟨_, h⟩ := h
    obtain ⟨b, o, rfl, hS, hc⟩ := h (by simp)
    obtain ⟨ao', ca', h1, h2, h3⟩ := hc 0 (by simp)
    exact ⟨e, b, o, ao', ca', rfl, rfl, hS, by simpa using h1, h2, h3⟩
structure PlI (S : Nat → Prop) (W w wr : World) (x : Nat) (g : FT) (d0 n d : Nat) (f : FT) (ao : Option Addr) (ca : Nat) : Prop where
  hb : wr.heap[x]? = some (.cells #[.string f.name, .bool f.nul, .int .i64 f.kind, .int .i64 f.width, .int .i64 f.id, .int .i64 f.index, .slice ao f.kids.length ca] 26)
  kp : Keeps w wr (fun z => z = x)
  pl : PlR n f g
  row : RowAt S W d ao f.kids
  le : f.kids.length ≤ ca
  dl : d ≤ d0
theorem results_cell24 {fn : Func} {t : Tmp} {tmps : Array Value} {g : Nat} {cs : Array Value} {w : World} (h : fn.results = #[.cell t 24]) (ht : tmps.getD t undef = .pointer (some ⟨g, 0, none⟩)) (hg : w.heap[g]? = some (.cells cs 24 (0, 0))) (hi : (Tryz.prog.info? 24).map (·.size) = some cs.size) :
    (results fn tmps).run Tryz.prog w = .ok (.agg cs) w := by
  have hl := run_loadVar_row (P := Tryz.prog) w g 24 24 cs (0, 0) _ hg Tryz.underlying24 rfl hi
  unfold results
  rw [h]
  simp only [Array.mapM_eq_mapM_toList, List.mapM_cons, List.mapM_nil, ht]
  simp [asAddr, hl]
theorem cell7p {W : World} {g t : Nat} {a0 a1 a2 a3 a4 a5 a6 : Value} (h : W.heap[g]? = some (.cells #[a0, a1, a2, a3, a4, a5, a6] t)) : W.cell? ⟨g, 0, none⟩ = some a0 ∧ W.cell? ⟨g, 1, none⟩ = some a1 ∧ W.cell? ⟨g, 2, none⟩ = some a2 ∧ W.cell? ⟨g, 3, none⟩ = some a3 ∧ W.cell? ⟨g, 4, none⟩ = some a4 ∧ W.cell? ⟨g, 5, none⟩ = some a5 ∧ W.cell? ⟨g, 6, none⟩ = some a6 := by
  refine ⟨?_, ?_, ?_, ?_, ?_, ?_, ?_⟩ <;> simp [World.cell?, h]
theorem cell5p {W : World} {g t : Nat} {a0 a1 a2 a3 a4 : Value} (h : W.heap[g]? = some (.cells #[a0, a1, a2, a3, a4] t)) : W.cell? ⟨g, 0, none⟩ = some a0 ∧ W.cell? ⟨g, 1, none⟩ = some a1 ∧ W.cell? ⟨g, 2, none⟩ = some a2 ∧ W.cell? ⟨g, 3, none⟩ = some a3 ∧ W.cell? ⟨g, 4, none⟩ = some a4 := by
  refine ⟨?_, ?_, ?_, ?_, ?_⟩ <;> simp [World.cell?, h]
def stA (w : World) (b : Nat) : List (Nat × Value) → World
  | [] => w
  | (j, v) :: l => stA (w.setCell ⟨b, j, none⟩ v) b l
def stC (c : Array Value) : List (Nat × Value) → Array Value
  | [] => c
  | (j, v) :: l => stC (c.setIfInBounds j v) l
theorem stA_kp (b : Nat) : ∀ (l : List (Nat × Value)) (w : World), Keeps w (stA w b l) (fun z => z = b)
  | [], w => Keeps.refl w _
  | (j, v) :: l, w => (Keeps.setCell (S := fun z => z = b) (p := ⟨b, j, none⟩) (Keeps.refl w _) (fun _ => rfl) v).tr (stA_kp b l _)
theorem stA_blk (b t : Nat) : ∀ (l : List (Nat × Value)) (w : World) (c : Array Value), w.heap[b]? = some (.cells c t) → (stA w b l).heap[b]? = some (.cells (stC c l) t)
  | [], w, c, h => h
  | (j, v) :: l, w, c, h => stA_blk b t l _ _ (heap_setCell_same w b j _ _ v h)
theorem st7 {w : World} {b t : Nat} {c0 c1 c2 c3 c4 c5 c6 v0 v1 v2 v3 v4 v5 v6 : Value} (h : w.heap[b]? = some (.cells #[c0, c1, c2, c3, c4, c5, c6] t)) : (stA w b [(0, v0), (1, v1), (2, v2), (3, v3), (4, v4), (5, v5), (6, v6)]).heap[b]? = some (.cells #[v0, v1, v2, v3, v4, v5, v6] t) := by
  have h2 := stA_blk b t [(0, v0), (1, v1), (2, v2), (3, v3), (4, v4), (5, v5), (6, v6)] w _ h
  simpa [stC] using h2
theorem st5 {w : World} {b t : Nat} {c0 c1 c2 c3 c4 v0 v1 v2 v3 v4 : Value} (h : w.heap[b]? = some (.cells #[c0, c1, c2, c3, c4] t)) : (stA w b [(0, v0), (1, v1), (2, v2), (3, v3), (4, v4)]).heap[b]? = some (.cells #[v0, v1, v2, v3, v4] t) := by
  have h2 := stA_blk b t [(0, v0), (1, v1), (2, v2), (3, v3), (4, v4)] w _ h
  simpa [stC] using h2
theorem plain30 (S : Nat → Prop) (n d : Nat) (f g : FT) (ao : Option Addr) (ca : Nat) (W : World) (hr : RowAt S W d ao f.kids) (hle : f.kids.length ≤ ca) (hS : ∀ b, S b → b < W.heap.size) (hp : PlR n f g) :
    Calls Tryz.prog 30 #[.agg #[.string f.name, .bool f.nul, .int .i64 f.kind, .int .i64 f.width, .int .i64 f.id, .int .i64 f.index, .slice ao f.kids.length ca]] W fun e w' => ∃ d' bo cb, e = .returned (.agg #[.int .i64 g.kind, .int .i64 g.width, .int .i64 g.id, .int .i64 g.index, .slice bo g.kids.length cb]) ∧ Gr W w' ∧ d' ≤ d ∧ RowAt S W d' bo g.kids ∧ g.kids.length ≤ cb := by
  obtain ⟨x, hx⟩ := ex (W.heap.size)
  obtain ⟨A1, hA1⟩ := ex (W.alloc (.cells #[.string f.name, .bool f.nul, .int .i64 f.kind, .int .i64 f.width, .int .i64 f.id, .int .i64 f.index, .slice ao f.kids.length ca] 26))
  have g1 := gr_al hA1
  have s1 : A1.heap.size = x + 1 := by rw [← hA1, ← hx]; simp
  have b1 : A1.heap[x]? = some (.cells #[.string f.name, .bool f.nul, .int .i64 f.kind, .int .i64 f.width, .int .i64 f.id, .int .i64 f.index, .slice ao f.kids.length ca] 26) := by rw [← hA1, ← hx]; exact heap_alloc_new W _
  obtain ⟨A2, hA2⟩ := ex (A1.alloc (.cells #[.int .i64 0, .int .i64 0, .int .i64 0, .int .i64 0, .slice none 0 0] 24))
  have g2 := gr_al hA2
  have b2 : A2.heap[x + 1]? = some (.cells #[.int .i64 0, .int .i64 0, .int .i64 0, .int .i64 0, .slice none 0 0] 24) := by rw [← hA2, ← s1]; exact heap_alloc_new A1 _
  have gW : Gr W A2 := g1.tr g2
  have b12 := (g2.block _ (lt_of_heap b1) id).trans b1
  have HI0 : Hid (PlI S W A2 A2 x g d n d f ao ca) := ⟨b12, Keeps.refl _ _, hp, hr, hle, Nat.le_refl _⟩
  have HNext : Hid (∀ wr m d' f' ao' ca' k, PlI S W A2 wr x g d m d' f' ao' ca' → f'.kids = [k] → (f'.kind = 19 ∨ f'.kind = 20) → ∃ m' b o ko kc d'', m' < m ∧ ao' = some ⟨b, o, none⟩ ∧ CellsAt wr b o k ko kc ∧ wr.heap[x]? = some (.cells #[.string f'.name, .bool f'.nul, .int .i64 f'.kind, .int .i64 f'.width, .int .i64 f'.id, .int .i64 f'.index, .slice ao' f'.kids.length ca'] 26) ∧ Hid (PlI S W A2 (stA wr x [(0, .string k.name), (1, .bool k.nul), (2, .int .i64 k.kind), (3, .int .i64 k.width), (4, .int .i64 k.id), (5, .int .i64 k.index), (6, .slice ko k.kids.length kc)]) x g d m' d'' k ko kc)) := fun wr m d' f' ao' ca' k h hk hkd => by
    have hrow := h.row
    rw [hk] at hrow
    obtain ⟨e, b, o, ko, kc, rfl, rfl, hSb, hc, hkl, hkr⟩ := row_one hrow
    have hbl := hS b hSb
    have hlt : b < A2.heap.size := Nat.lt_of_lt_of_le hbl gW.size
    have hcw : CellsAt wr b o k ko kc := hc.kept ((h.kp.block b hlt (fun e => by have e' : b = x := e; omega)).trans (gW.block b hbl id))
    have hpl := h.pl
    cases m with
    | zero => rcases hkd with e | e <;> exact absurd e (by first | exact hpl.1.1 | exact hpl.1.2)
    | succ m =>
      rcases hpl with ⟨hn, _⟩ | ⟨_, k', hk', hp'⟩
      · rcases hkd with e | e
        · exact absurd e hn.1
        exact absurd e hn.2
      rw [hk] at hk'
      obtain rfl : k = k' := by simpa using hk'
      have dl := h.dl
      exact ⟨m, b, o, ko, kc, e, Nat.lt_succ_self _, rfl, hcw, h.hb, st7 h.hb, h.kp.tr (stA_kp x _ wr), hp', hkr, hkl, by omega⟩
  have HEnd : Hid (∀ wr m d' f' ao' ca', PlI S W A2 wr x g d m d' f' ao' ca' → f'.kind ≠ 19 → f'.kind ≠ 20 → f' = g ∧ wr.heap[x]? = some (.cells #[.string f'.name, .bool f'.nul, .int .i64 f'.kind, .int .i64 f'.width, .int .i64 f'.id, .int .i64 f'.index, .slice ao' f'.kids.length ca'] 26) ∧ wr.heap[x + 1]? = some (.cells #[.int .i64 0, .int .i64 0, .int .i64 0, .int .i64 0, .slice none 0 0] 24) ∧ (stA wr (x + 1) [(0, .int .i64 f'.kind), (1, .int .i64 f'.width), (2, .int .i64 f'.id), (3, .int .i64 f'.index), (4, .slice ao' f'.kids.length ca')]).heap[x + 1]? = some (.cells #[.int .i64 f'.kind, .int .i64 f'.width, .int .i64 f'.id, .int .i64 f'.index, .slice ao' f'.kids.length ca'] 24) ∧ Gr W (stA wr (x + 1) [(0, .int .i64 f'.kind), (1, .int .i64 f'.width), (2, .int .i64 f'.id), (3, .int .i64 f'.index), (4, .slice ao' f'.kids.length ca')]) ∧ d' ≤ d ∧ RowAt S W d' ao' f'.kids ∧ f'.kids.length ≤ ca') := fun wr m d' f' ao' ca' h h19 h20 => by
    have hy := (h.kp.block _ (lt_of_heap b2) (fun e => by have e' : x + 1 = x := e; omega)).trans b2
    refine ⟨?_, h.hb, hy, st5 hy, (gW.trans h.kp (fun j hj (e : j = x) => by omega)).trans (stA_kp (x + 1) _ wr) (fun j hj (e : j = x + 1) => by omega), h.dl, h.row, h.le⟩
    have hpl := h.pl
    cases m with
    | zero => exact hpl.2.symm
    | succ m =>
      rcases hpl with ⟨_, e⟩ | ⟨hk, _⟩
      · exact e.symm
      rcases hk with e | e
      · exact absurd e h19
      exact absurd e h20
  have HK1 : Hid (∀ wr m d' f' ao' ca', PlI S W A2 wr x g d m d' f' ao' ca' → (f'.kind = 19 ∨ f'.kind = 20) → ∃ k, f'.kids = [k]) := fun wr m d' f' ao' ca' h hk => by
    have hpl := h.pl
    cases m with
    | zero => rcases hk with e | e <;> exact absurd e (by first | exact hpl.1.1 | exact hpl.1.2)
    | succ m =>
      rcases hpl with ⟨hn, _⟩ | ⟨_, k, hk', _⟩
      · rcases hk with e | e
        · exact absurd e hn.1
        exact absurd e hn.2
      exact ⟨k, hk'⟩
  clear hr hle hS hp g1 b1 g2 b2 gW b12
  go_enter Tryz.func30, Tryz.ntmps30
  go_wp2_with fail
  clear hA1 hA2
  go_loopg [] n (fun m wr => ∃ d' f' ao' ca', Hid (PlI S W A2 wr x g d m d' f' ao' ca'))
  case atStart => exact ⟨d, f, ao, ca, HI0⟩
  case round =>
    clear HI0
    obtain ⟨d', f', ao', ca', HI⟩ := hrel
    by_cases hk : f'.kind = 19 ∨ f'.kind = 20
    · obtain ⟨k, hkk⟩ := HK1.out _ _ _ _ _ _ HI.out hk
      obtain ⟨m', b, o, ko, kc, d'', hm, rfl, hc, hb, HN⟩ := HNext.out _ _ _ _ _ _ k HI.out hkk hk
      have hl1 : f'.kids.length = 1 := by rw [hkk]; rfl
      rw [hl1] at hb
      obtain ⟨q0, q1, q2, q3, q4, q5, q6⟩ := cell7p hb
      obtain ⟨k0, k1, k2, k3, k4, k5, k6⟩ := hc
      obtain ⟨z0, z1, z2, z3, z4, z5, z6⟩ := frz7 hb
      have hca : (1 : Int) ≤ (ca' : Int) := by have := HI.out.le; omega
      have hca' : 1 ≤ ca' := by omega
      obtain ⟨U, hU⟩ := ex (stA wr x [(0, .string k.name), (1, .bool k.nul), (2, .int .i64 k.kind), (3, .int .i64 k.width), (4, .int .i64 k.id), (5, .int .i64 k.index), (6, .slice ko k.kids.length kc)])
      rw [hU] at HN
      simp only [stA] at hU
      have HM := hidM hm
      clear hkk HI hl1 hb hm
      rcases hk with hk | hk
      · have e19 : (f'.kind == 19) = true := by simp [hk]
        clear hk
        go_wp2_with fail
        go_roundg m'
        case rel => exact ⟨d'', k, ko, kc, HN⟩
        case measure => exact HM.out
      have e19 : (f'.kind == 19) = false := by simp [hk]
      have e20 : (f'.kind == 20) = true := by simp [hk]
      clear hk
      go_wp2_with fail
      go_roundg m'
      case rel => exact ⟨d'', k, ko, kc, HN⟩
      case measure => exact HM.out
    have h19 : f'.kind ≠ 19 := fun h => hk (.inl h)
    have h20 : f'.kind ≠ 20 := fun h => hk (.inr h)
    obtain ⟨hfg, hb, hy, hy2, gE, hE⟩ := HEnd.out _ _ _ _ _ _ HI.out h19 h20
    obtain ⟨q0, q1, q2, q3, q4, q5, q6⟩ := cell7p hb
    obtain ⟨y0, y1, y2, y3, y4⟩ := cell5p hy
    obtain ⟨z0, z1, z2, z3, z4⟩ := frz5 hy
    have e19 : (f'.kind == 19) = false := by simpa using h19
    have e20 : (f'.kind == 20) = false := by simpa using h20
    obtain ⟨U, hU⟩ := ex (stA wr (x + 1) [(0, .int .i64 f'.kind), (1, .int .i64 f'.width), (2, .int .i64 f'.id), (3, .int .i64 f'.index), (4, .slice ao' f'.kids.length ca')])
    rw [hU] at hy2 gE
    simp only [stA] at hU
    have HE := hidM (And.intro hy2 (And.intro gE (And.intro hfg hE)))
    clear hk h19 h20 hfg hb hy hy2 gE hE HI
    go_wp2_with fail
    (try simp only [Exit.inBlock, Exit.then])
    refine bodyPost_ret (results_cell24 rfl rfl (by with_reducible exact HE.out.1) (by kernel_rfl)) rfl ?_
    obtain ⟨-, gE, rfl, hE⟩ := HE.out
    exact ⟨d', ao', ca', rfl, gE, hE⟩
def PlV : Nat → FT → FT → Prop
  | 0, f, g => (f.kind ≠ 19 ∧ f.kind ≠ 20) ∧ g = f
  | d + 1, f, g => ((f.kind ≠ 19 ∧ f.kind ≠ 20) ∧ g = f) ∨ (f.kind = 19 ∧ ∃ k, f.kids = [k] ∧ (k.kind ≠ 19 ∧ k.kind ≠ 20) ∧ g = k) ∨ (f.kind = 20 ∧ ∃ k, f.kids = [k] ∧ k.nul = f.nul ∧ PlV d k g)
theorem PlV.r : ∀ (n : Nat) (f g : FT), PlV n f g → PlR n f g
  | 0, _, _, h => h
  | n + 1, f, g, h => by
    rcases h with h | ⟨h1, k, h2, h3, h4⟩ | ⟨h1, k, h2, _, h4⟩
    · exact .inl h
    · refine .inr ⟨.inl h1, k, h2, ?_⟩
      cases n with
      | zero => exact ⟨h3, h4⟩
      | succ m => exact .inl ⟨h3, h4⟩
    exact .inr ⟨.inr h1, k, h2, PlV.r n k g h4⟩
structure PvI (S : Nat → Prop) (W w wr : World) (x : Nat) (nm : ByteArray) (v : Bool) (g : FT) (d0 n d : Nat) (f : FT) (ao : Option Addr) (ca : Nat) : Prop where
  hb : wr.heap[x]? = some (.cells #[.string nm, .bool v, .int .i64 f.kind, .int .i64 f.width, .int .i64 f.id, .int .i64 f.index, .slice ao f.kids.length ca] 26)
  kp : Keeps w wr (fun z => z = x)
  pl : PlV n f g
  nv : f.kind = 20 → f.nul = v
  row : RowAt S W d ao f.kids
  le : f.kids.length ≤ ca
  dl : d ≤ d0
theorem results_cell26 {fn : Func} {t : Tmp} {tmps : Array Value} {g : Nat} {cs : Array Value} {w : World} (h : fn.results = #[.cell t 26]) (ht : tmps.getD t undef = .pointer (some ⟨g, 0, none⟩)) (hg : w.heap[g]? = some (.cells cs 26 (0, 0))) (hi : (Tryz.prog.info? 26).map (·.size) = some cs.size) :
    (results fn tmps).run Tryz.prog w = .ok (.agg cs) w := by
  have hl := run_loadVar_row (P := Tryz.prog) w g 26 26 cs (0, 0) _ hg Tryz.underlying26 rfl hi
  unfold results
  rw [h]
  simp only [Array.mapM_eq_mapM_toList, List.mapM_cons, List.mapM_nil, ht]
  simp [asAddr, hl]
theorem plainR17 (S : Nat → Prop) (n d : Nat) (f g : FT) (ao : Option Addr) (ca : Nat) (W : World) (hr : RowAt S W d ao f.kids) (hle : f.kids.length ≤ ca) (hS : ∀ b, S b → b < W.heap.size) (hp : PlV n f g) :
    Calls Tryz.prog 17 #[.agg #[.string f.name, .bool f.nul, .int .i64 f.kind, .int .i64 f.width, .int .i64 f.id, .int .i64 f.index, .slice ao f.kids.length ca]] W fun e w' => ∃ d' bo cb, e = .returned (.agg #[.string f.name, .bool f.nul, .int .i64 g.kind, .int .i64 g.width, .int .i64 g.id, .int .i64 g.index, .slice bo g.kids.length cb]) ∧ Gr W w' ∧ d' ≤ d ∧ RowAt S W d' bo g.kids ∧ g.kids.length ≤ cb := by
  obtain ⟨x, hx⟩ := ex (W.heap.size)
  obtain ⟨A1, hA1⟩ := ex (W.alloc (.cells #[.string f.name, .bool f.nul, .int .i64 f.kind, .int .i64 f.width, .int .i64 f.id, .int .i64 f.index, .slice ao f.kids.length ca] 26))
  have g1 := gr_al hA1
  have s1 : A1.heap.size = x + 1 := by rw [← hA1, ← hx]; simp
  have b1 : A1.heap[x]? = some (.cells #[.string f.name, .bool f.nul, .int .i64 f.kind, .int .i64 f.width, .int .i64 f.id, .int .i64 f.index, .slice ao f.kids.length ca] 26) := by rw [← hA1, ← hx]; exact heap_alloc_new W _
  obtain ⟨A2, hA2⟩ := ex (A1.alloc (.cells #[.string ⟨#[]⟩, .bool false, .int .i64 0, .int .i64 0, .int .i64 0, .int .i64 0, .slice none 0 0] 26))
  have g2 := gr_al hA2
  have b2 : A2.heap[x + 1]? = some (.cells #[.string ⟨#[]⟩, .bool false, .int .i64 0, .int .i64 0, .int .i64 0, .int .i64 0, .slice none 0 0] 26) := by rw [← hA2, ← s1]; exact heap_alloc_new A1 _
  have s2 : A2.heap.size = x + 2 := by rw [← hA2]; simp [s1]
  have gW : Gr W A2 := g1.tr g2
  have b12 := (g2.block _ (lt_of_heap b1) id).trans b1
  obtain ⟨nm, hnm⟩ := ex (f.name)
  obtain ⟨v, hv⟩ := ex (f.nul)
  have HI0 : Hid (PvI S W A2 A2 x nm v g d n d f ao ca) := by
    rw [hnm, hv] at b12
    exact ⟨b12, Keeps.refl _ _, hp, fun _ => hv, hr, hle, Nat.le_refl _⟩
  have HK1 : Hid (∀ wr m d' f' ao' ca', PvI S W A2 wr x nm v g d m d' f' ao' ca' → (f'.kind = 19 ∨ f'.kind = 20) → ∃ k, f'.kids = [k]) := fun wr m d' f' ao' ca' h hk => by
    have hpl := h.pl
    cases m with
    | zero => rcases hk with e | e <;> exact absurd e (by first | exact hpl.1.1 | exact hpl.1.2)
    | succ m =>
      rcases hpl with ⟨hn, _⟩ | ⟨_, k, hk', _⟩ | ⟨_, k, hk', _⟩
      · rcases hk with e | e
        · exact absurd e hn.1
        exact absurd e hn.2
      · exact ⟨k, hk'⟩
      exact ⟨k, hk'⟩
  have HNext : Hid (∀ wr m d' f' ao' ca' k, PvI S W A2 wr x nm v g d m d' f' ao' ca' → f'.kids = [k] → (f'.kind = 19 ∨ f'.kind = 20) → ∃ b o ko kc, ao' = some ⟨b, o, none⟩ ∧ CellsAt wr b o k ko kc ∧ wr.heap[x]? = some (.cells #[.string nm, .bool v, .int .i64 f'.kind, .int .i64 f'.width, .int .i64 f'.id, .int .i64 f'.index, .slice ao' f'.kids.length ca'] 26) ∧ x < wr.heap.size ∧ (f'.kind = 20 → k.nul = v) ∧ (∀ C3, Keeps wr C3 (fun _ => False) → ∃ m' d'', m' < m ∧ C3.heap[x]? = some (.cells #[.string nm, .bool v, .int .i64 f'.kind, .int .i64 f'.width, .int .i64 f'.id, .int .i64 f'.index, .slice ao' f'.kids.length ca'] 26) ∧ Hid (PvI S W A2 (stA C3 x [(0, .string nm), (1, .bool v), (2, .int .i64 k.kind), (3, .int .i64 k.width), (4, .int .i64 k.id), (5, .int .i64 k.index), (6, .slice ko k.kids.length kc)]) x nm v g d m' d'' k ko kc))) := fun wr m d' f' ao' ca' k h hk hkd => by
    have hrow := h.row
    rw [hk] at hrow
    obtain ⟨e, b, o, ko, kc, rfl, rfl, hSb, hc, hkl, hkr⟩ := row_one hrow
    have hbl := hS b hSb
    have hlt : b < A2.heap.size := Nat.lt_of_lt_of_le hbl gW.size
    have hcw : CellsAt wr b o k ko kc := hc.kept ((h.kp.block b hlt (fun e => by have e' : b = x := e; omega)).trans (gW.block b hbl id))
    have hpl := h.pl
    have dl := h.dl
    cases m with
    | zero => rcases hkd with e | e <;> exact absurd e (by first | exact hpl.1.1 | exact hpl.1.2)
    | succ m =>
      have key : (f'.kind = 20 → k.nul = v) ∧ PlV m k g ∧ (k.kind = 20 → k.nul = v) := by
        rcases hpl with ⟨hn, _⟩ | ⟨h19, k', hk', hn, hg⟩ | ⟨h20, k', hk', hnu, hp'⟩
        · rcases hkd with e | e
          · exact absurd e hn.1
          exact absurd e hn.2
        · rw [hk] at hk'
          obtain rfl : k = k' := by simpa using hk'
          refine ⟨fun h => by rw [h19] at h; exact absurd h (by decide), ?_, fun h => absurd h hn.2⟩
          cases m with
          | zero => exact ⟨hn, hg⟩
          | succ m => exact .inl ⟨hn, hg⟩
        rw [hk] at hk'
        obtain rfl : k = k' := by simpa using hk'
        exact ⟨fun _ => hnu.trans (h.nv h20), hp', fun _ => hnu.trans (h.nv h20)⟩
      refine ⟨b, o, ko, kc, rfl, hcw, h.hb, lt_of_heap h.hb, key.1, fun C3 k3 => ?_⟩
      have h3 := (k3.block x (lt_of_heap h.hb) id).trans h.hb
      refine ⟨m, e, Nat.lt_succ_self _, h3, st7 h3, (h.kp.trans k3 (fun _ _ h => h.elim)).tr (stA_kp x _ C3), key.2.1, key.2.2, hkr, hkl, by omega⟩
  have HEnd : Hid (∀ wr m d' f' ao' ca', PvI S W A2 wr x nm v g d m d' f' ao' ca' → f'.kind ≠ 19 → f'.kind ≠ 20 → f' = g ∧ wr.heap[x]? = some (.cells #[.string nm, .bool v, .int .i64 f'.kind, .int .i64 f'.width, .int .i64 f'.id, .int .i64 f'.index, .slice ao' f'.kids.length ca'] 26) ∧ wr.heap[x + 1]? = some (.cells #[.string ⟨#[]⟩, .bool false, .int .i64 0, .int .i64 0, .int .i64 0, .int .i64 0, .slice none 0 0] 26) ∧ (stA wr (x + 1) [(0, .string nm), (1, .bool v), (2, .int .i64 f'.kind), (3, .int .i64 f'.width), (4, .int .i64 f'.id), (5, .int .i64 f'.index), (6, .slice ao' f'.kids.length ca')]).heap[x + 1]? = some (.cells #[.string nm, .bool v, .int .i64 f'.kind, .int .i64 f'.width, .int .i64 f'.id, .int .i64 f'.index, .slice ao' f'.kids.length ca'] 26) ∧ Gr W (stA wr (x + 1) [(0, .string nm), (1, .bool v), (2, .int .i64 f'.kind), (3, .int .i64 f'.width), (4, .int .i64 f'.id), (5, .int .i64 f'.index), (6, .slice ao' f'.kids.length ca')]) ∧ d' ≤ d ∧ RowAt S W d' ao' f'.kids ∧ f'.kids.length ≤ ca') := fun wr m d' f' ao' ca' h h19 h20 => by
    have hy := (h.kp.block _ (lt_of_heap b2) (fun e => by have e' : x + 1 = x := e; omega)).trans b2
    refine ⟨?_, h.hb, hy, st7 hy, (gW.trans h.kp (fun j hj (e : j = x) => by omega)).trans (stA_kp (x + 1) _ wr) (fun j hj (e : j = x + 1) => by omega), h.dl, h.row, h.le⟩
    have hpl := h.pl
    cases m with
    | zero => exact hpl.2.symm
    | succ m =>
      rcases hpl with ⟨_, e⟩ | ⟨hk, _⟩ | ⟨hk, _⟩
      · exact e.symm
      · exact absurd hk h19
      exact absurd hk h20
  have HFin := hidM (And.intro hnm hv)
  clear hr hle hS hp g1 b1 g2 b2 gW b12 hnm hv s2
  go_enter Tryz.func17, Tryz.ntmps17
  go_wp2_with fail
  clear hA1 hA2
  go_loopg [] n (fun m wr => ∃ d' f' ao' ca', Hid (PvI S W A2 wr x nm v g d m d' f' ao' ca'))
  case atStart => exact ⟨d, f, ao, ca, HI0⟩
  case round =>
    clear HI0
    obtain ⟨d', f', ao', ca', HI⟩ := hrel
    by_cases hk : f'.kind = 19 ∨ f'.kind = 20
    · obtain ⟨k, hkk⟩ := HK1.out _ _ _ _ _ _ HI.out hk
      obtain ⟨b, o, ko, kc, rfl, hc, hb, hxl, hnu, HN⟩ := HNext.out _ _ _ _ _ _ k HI.out hkk hk
      have hl1 : f'.kids.length = 1 := by rw [hkk]; rfl
      rw [hl1] at hb HN
      obtain ⟨y, hy⟩ := ex (wr.heap.size)
      obtain ⟨C1, hC1⟩ := ex (wr.alloc (.cells #[.string k.name, .bool k.nul, .int .i64 k.kind, .int .i64 k.width, .int .i64 k.id, .int .i64 k.index, .slice ko k.kids.length kc] 26))
      have k1 := gr_al hC1
      have sC1 : C1.heap.size = y + 1 := by rw [← hC1, ← hy]; simp
      have c1 : C1.heap[y]? = some (.cells #[.string k.name, .bool k.nul, .int .i64 k.kind, .int .i64 k.width, .int .i64 k.id, .int .i64 k.index, .slice ko k.kids.length kc] 26) := by rw [← hC1, ← hy]; exact heap_alloc_new wr _
      obtain ⟨r0, r1, r2, r3, r4, r5, r6⟩ := cell7p c1
      obtain ⟨q0, q1, q2, q3, q4, q5, q6⟩ := cell7p hb
      obtain ⟨p0, p1, p2, p3, p4, p5, p6⟩ := cell7p ((k1.block _ hxl id).trans hb)
      obtain ⟨k0, k1', k2, k3, k4, k5, k6⟩ := hc
      have hca : (1 : Int) ≤ (ca' : Int) := by have := HI.out.le; omega
      have hca' : 1 ≤ ca' := by omega
      have HNN := hidM HN
      obtain ⟨C2, hC2⟩ := ex (C1.alloc (.cells #[.string nm, .bool k.nul, .int .i64 k.kind, .int .i64 k.width, .int .i64 k.id, .int .i64 k.index, .slice ko k.kids.length kc] 26))
      have k2g := gr_al hC2
      have kw2 : Gr wr C2 := k1.tr k2g
      have c2 : C2.heap[y + 1]? = some (.cells #[.string nm, .bool k.nul, .int .i64 k.kind, .int .i64 k.width, .int .i64 k.id, .int .i64 k.index, .slice ko k.kids.length kc] 26) := by rw [← hC2, ← sC1]; exact heap_alloc_new C1 _
      have hb2 := (kw2.block _ hxl id).trans hb
      obtain ⟨w0, w1, w2, w3, w4, w5, w6⟩ := cell7p c2
      obtain ⟨t0, t1, t2, t3, t4, t5, t6⟩ := cell7p hb2
      rcases hk with hk | hk
      · have fw1 := frz c2 1
        have k3g : Keeps C2 (C2.setCell ⟨y + 1, 1, none⟩ (.bool v)) (fun z => z = y + 1) := Keeps.setCell (S := fun z => z = y + 1) (p := ⟨y + 1, 1, none⟩) (Keeps.refl C2 _) (fun _ => rfl) _
        have c3 : (C2.setCell ⟨y + 1, 1, none⟩ (.bool v)).heap[y + 1]? = some (.cells #[.string nm, .bool v, .int .i64 k.kind, .int .i64 k.width, .int .i64 k.id, .int .i64 k.index, .slice ko k.kids.length kc] 26) := by rw [heap_setCell_same C2 (y + 1) 1 _ _ _ c2]; rfl
        obtain ⟨C3, hC3⟩ := ex (C2.setCell ⟨y + 1, 1, none⟩ (.bool v))
        rw [hC3] at k3g c3
        have kw3 : Gr wr C3 := kw2.trans k3g (fun j hj (e : j = y + 1) => by omega)
        obtain ⟨m', d'', hm, hx3, HN'⟩ := HNN.out C3 kw3
        obtain ⟨v0, v1, v2, v3, v4, v5, v6⟩ := cell7p c3
        obtain ⟨x0, x1, x2, x3, x4, x5, x6⟩ := cell7p hx3
        obtain ⟨z0, z1, z2, z3, z4, z5, z6⟩ := frz7 hx3
        obtain ⟨U, hU⟩ := ex (stA C3 x [(0, .string nm), (1, .bool v), (2, .int .i64 k.kind), (3, .int .i64 k.width), (4, .int .i64 k.id), (5, .int .i64 k.index), (6, .slice ko k.kids.length kc)])
        rw [hU] at HN'
        simp only [stA] at hU
        have HM := hidM hm
        have e19 : (f'.kind == 19) = true := by simp [hk]
        clear HN hkk HI hl1 hb hnu hk HNN hx3 c3 k3g kw3 kw2 k2g c2 hb2 k1 c1 hm hxl
        go_wp2_with fail
        go_roundg m'
        case rel => exact ⟨d'', k, ko, kc, HN'⟩
        case measure => exact HM.out
      have hkn := hnu hk
      rw [hkn] at hC2 c2 w1
      obtain ⟨m', d'', hm, hx3, HN'⟩ := HNN.out C2 kw2
      obtain ⟨z0, z1, z2, z3, z4, z5, z6⟩ := frz7 hx3
      obtain ⟨U, hU⟩ := ex (stA C2 x [(0, .string nm), (1, .bool v), (2, .int .i64 k.kind), (3, .int .i64 k.width), (4, .int .i64 k.id), (5, .int .i64 k.index), (6, .slice ko k.kids.length kc)])
      rw [hU] at HN'
      simp only [stA] at hU
      have HM := hidM hm
      have e19 : (f'.kind == 19) = false := by simp [hk]
      have e20 : (f'.kind == 20) = true := by simp [hk]
      rw [hkn] at r1 k1' hC1
      clear HN hkk HI hl1 hb hnu hk HNN hx3 kw2 k2g c2 hb2 k1 c1 hm hxl hkn
      go_wp2_with fail
      go_roundg m'
      case rel => exact ⟨d'', k, ko, kc, HN'⟩
      case measure => exact HM.out
    have h19 : f'.kind ≠ 19 := fun h => hk (.inl h)
    have h20 : f'.kind ≠ 20 := fun h => hk (.inr h)
    obtain ⟨hfg, hb, hy, hy2, gE, hE⟩ := HEnd.out _ _ _ _ _ _ HI.out h19 h20
    obtain ⟨q0, q1, q2, q3, q4, q5, q6⟩ := cell7p hb
    obtain ⟨y0, y1, y2, y3, y4, y5, y6⟩ := cell7p hy
    obtain ⟨z0, z1, z2, z3, z4, z5, z6⟩ := frz7 hy
    have e19 : (f'.kind == 19) = false := by simpa using h19
    have e20 : (f'.kind == 20) = false := by simpa using h20
    obtain ⟨U, hU⟩ := ex (stA wr (x + 1) [(0, .string nm), (1, .bool v), (2, .int .i64 f'.kind), (3, .int .i64 f'.width), (4, .int .i64 f'.id), (5, .int .i64 f'.index), (6, .slice ao' f'.kids.length ca')])
    rw [hU] at hy2 gE
    simp only [stA] at hU
    have HE := hidM (And.intro hy2 (And.intro gE (And.intro hfg hE)))
    clear hk h19 h20 hfg hb hy hy2 gE hE HI
    go_wp2_with fail
    (try simp only [Exit.inBlock, Exit.then])
    refine bodyPost_ret (results_cell26 rfl rfl (by with_reducible exact HE.out.1) (by kernel_rfl)) rfl ?_
    obtain ⟨-, gE, rfl, hE⟩ := HE.out
    obtain ⟨e1, e2⟩ := HFin.out
    rw [e1, e2]
    exact ⟨d', ao', ca', rfl, gE, hE⟩
end Go.Proofs.YtknnoiomdngmfaaGreatDoor.Kit
