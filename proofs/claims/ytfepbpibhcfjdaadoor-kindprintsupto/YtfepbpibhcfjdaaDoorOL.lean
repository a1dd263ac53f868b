import Derived.Test.YtfepbpibhcfjdaaDoorOG
import Derived.Test.YtfepbpibhcfjdaaDoorKC
import Derived.Test.YtfepbpibhcfjdaaDoorLR
namespace Go.Proofs.YtfepbpibhcfjdaaDoor.Kit
open Go.RowKit Go.Shelf Go.Deep
set_option linter.unusedVariables false
attribute [local go_sem] Oper.semAt_some run_store_func

/-! ### depth -/
/-- the greatest so far -/
def deepN (l : List LS) : Nat := l.foldl (fun m s => max m (1 + s.path.length)) 1
theorem deepN_snoc (l : List LS) (s : LS) : deepN (l ++ [s]) = max (deepN l) (1 + s.path.length) := by simp [deepN]
structure DI (w W : World) (A : Nat) (P : List LS) : Prop where
  gr : Gr w W
  a : W.heap[A]? = some (.cells #[.int .i64 (deepN P : Int)] 3)
  le : deepN P ≤ big + 1
theorem DI.kept {w W W' : World} {A : Nat} {P : List LS} (h : DI w W A P) (g : Gr w W') (k : W'.heap[A]? = W.heap[A]?) : DI w W' A P := ⟨g, k.trans h.a, h.le⟩

set_option maxRecDepth 100000 in
set_option maxHeartbeats 4000000 in
theorem depth_true (S : Nat → Prop) (D : Nat) (l : List FT) (k wd i x0 : Int) (ao : Option Addr) (n ca : Nat) (w : World) (hn : n = l.length) (hr : RowAt S w D ao l) (hca : n ≤ ca) (hD : D ≤ big) (hS : ∀ b, S b → b < w.heap.size) (hm : Ans 40 #[.agg #[.int .i64 k, .int .i64 wd, .int .i64 i, .int .i64 x0, .slice ao n ca]] true w) :
    AnsV 17 #[.agg #[.int .i64 k, .int .i64 wd, .int .i64 i, .int .i64 x0, .slice ao n ca]] (.int .i64 (deepN (nodes D l [] false) : Int)) w := by
  intro W g
  have HM := hidM (hm.gr g)
  unfold Ans at HM
  have HR : Hid (RowAt S W D ao l) := hr.kept fun b hb => g.block b (hS b hb) id
  have HS : Hid (∀ b, S b → b < W.heap.size) := fun b hb => by have := hS b hb; have := g.size; omega
  have HN := hidM hn
  have hbx := World.alloc_heap_new W (.cells #[.int .i64 k, .int .i64 wd, .int .i64 i, .int .i64 x0, .slice ao n ca] 33)
  have hl : n ≤ 1000000000000 := by rw [hn]; exact hr.len
  obtain ⟨X, hX⟩ : ∃ X, X = W.heap.size := ⟨_, rfl⟩
  rw [← hX] at hbx
  have HX := hidM hbx
  have HXe := hidM hX
  clear hm hbx hr hS g hn
  refine (callsIn_wide (n := 10)).1 ?_
  refine callsIn_of_wp_marks Tryd.func17 rfl trivial ?_ rfl
  simp only [Tryd.ntmps17, List.size_toArray, List.length_cons, List.length_nil, Nat.reduceAdd, Nat.reduceSub, Array.replicate_succ, Array.replicate_zero, List.push_toArray, List.append_toArray, List.nil_append, List.cons_append]
  refine wpIn_wide.2 ?_
  go_wp2_with fail
  try rw [← hX]
  refine Calls.mono (HM.out _ (gr_alloc W _)) ?_
  rintro e W1 ⟨rfl, hg1⟩
  have y1 := (hg1.block _ (lt_of_heap HX.out) id).trans HX.out
  obtain ⟨p0, p1, p2, p3, p4⟩ := cell5 y1
  have HG := hidM ((gr_alloc W _).trans hg1 (fun _ _ h => h))
  have hXl : X < W1.heap.size := lt_of_heap y1
  obtain ⟨A, hA⟩ : ∃ A, A = W1.heap.size := ⟨_, rfl⟩
  obtain ⟨W2, hW2⟩ : ∃ W2, W1.alloc (.cells #[.int .i64 1] 3) = W2 := ⟨_, rfl⟩
  have p4' : W2.cell? ⟨X, 4, none⟩ = some (.slice ao n ca) := by rw [← hW2]; exact (gr_alloc W1 _).cell' p4 id
  clear hg1 y1 p0 p1 p2 p3 HM hX
  go_wp2_with (go_at_call 35; refine Hid.out ?_)
  unfold Hid
  try rw [hW2]
  refine (each_any _ ao n ca rfl W2).mono ?_
  rintro e W4 ⟨rfl, hW4⟩
  have hz2 : W2.heap.size = A + 1 := by rw [← hW2, hA]; simp
  have hz4 : W4.heap.size = A + 2 := by rw [hW4]; simp [hz2]
  have hg4 : Gr W1 W4 := by rw [hW4, ← hW2]; exact (gr_alloc W1 _).alloc _
  have hgw : Gr W W4 := HG.out.trans hg4 (fun _ _ h => h)
  have h0 : DI W W4 A ([] : List LS) := by
    refine ⟨hgw, ?_, by simp [deepN, big]⟩
    rw [hW4, ← hW2, hA]
    exact (Below.heap_alloc _ _ _ (by simp)).trans (World.alloc_heap_new W1 _)
  have hv : W4.cell? ⟨A + 1, 0, none⟩ = some (.slice ao l.length ca) := by rw [hW4, ← HN.out, ← hz2]; exact cell_new W2 _ 22
  have hseq := each1_seq (10 - 1) (A + 1) S D ao ca l W4 hv (HR.out.kept fun b h => hgw.block b (HS.out b h) id) (by rw [← HN.out]; exact hca) hD (fun b h => by have := HS.out b h; have := hgw.size; omega)
  have hSW : ∀ b, S b → b < W.heap.size := HS.out
  have hAW : W.heap.size ≤ A := by rw [hA]; exact HG.out.size
  try rw [← hA]
  rw [hz2]
  clear hW2 hW4 hg4 p4 p4' hv HX hA hz2
  go_wp2_with fail
  refine (wpIn_wide (n := 10)).1 ?_
  refine rangeX (by decide) (gf := 55) (lb := #[.pointer (some ⟨A + 1, 0, none⟩)]) rfl (enters_of Tryd.func55 (by kernel_rfl) rfl) hseq (fun _ => rfl) (fun b h => by have := hSW b h; omega)
    (fun O pre x A B h k => ⟨h.row.kept fun b hb => k b (.inl hb), h.le, h.ix, own_kp h.way fun g e => k g (.inr (by cases e; exact h.wO)), h.wO, h.deep⟩)
    (fun b => b = A) (fun b h => ⟨by omega, fun hs => by have := hSW b hs; omega⟩)
    (fun pre V => DI W V A (pre.map Spot.ls)) (fun pre Y Z h hz hb => h.kept (gr_below h.gr (by omega) hb) (hb.block A (by omega)))
    (fun _ _ _ => False) (fun _ _ _ _ h _ => h)
    h0
    (fun x a' V => ∃ Bx, V.heap[Bx]? = some (.cells #[.slice x.ao x.list.length x.ca, .slice (some ⟨x.wb, 0, none⟩) x.path.length x.wc, .bool x.inD] 73) ∧ Bx ≠ W4.heap.size + 1 ∧ A + 2 + 2 ≤ Bx ∧
      a' = { tmps := #[.agg #[.int .i64 k, .int .i64 wd, .int .i64 i, .int .i64 x0, .slice ao n ca], .pointer (some ⟨X, 0, none⟩), .int .i64 0, .pointer (some ⟨A, 0, none⟩), .pointer (some ⟨Bx, 0, none⟩), .agg #[.int .i64 k, .int .i64 wd, .int .i64 i, .int .i64 x0, .slice ao n ca], .bool true, .bool false, .pointer (some ⟨X, 4, none⟩), .slice ao n ca, .func (.func 55) #[] #[.pointer (some ⟨A + 1, 0, none⟩)], .agg #[.slice x.ao x.list.length x.ca, .slice (some ⟨x.wb, 0, none⟩) x.path.length x.wc, .bool x.inD], undef, undef, undef, undef, undef, undef, undef], defers := [] })
    (fun x a' Y Z h hk => by
      obtain ⟨Bx, h1, h2, h3, h4⟩ := h
      exact ⟨Bx, (hk.block Bx (lt_of_heap h1) h2).trans h1, h2, h3, h4⟩)
    ?assign ?body ?done ?stop
  case assign =>
    intro l x V K hz hK
    unfold encS
    gi_wp2
    refine hK _ _ (gr_alloc V _) ⟨V.heap.size, World.alloc_heap_new V _, by omega, by omega, rfl⟩
  case body =>
    rintro l O pre x a' V hi hat ⟨Bx, hbx, -, hBx, rfl⟩ hO hz
    have hmap : (pre ++ [x]).map Spot.ls = pre.map Spot.ls ++ [x.ls] := by simp
    obtain ⟨P, hP⟩ : ∃ P, P = pre.map Spot.ls := ⟨_, rfl⟩
    rw [← hP] at hi hmap
    have hpl : x.path.length ≤ 1000000000000 := hat.deep
    have hdl : deepN P ≤ 1000000000001 := hi.le
    obtain ⟨b0, b1, b2⟩ := cell3 hbx
    have q0 : V.cell? ⟨A, 0, none⟩ = some (.int .i64 (deepN P : Int)) := cell1 hi.a
    have q1 := frz hi.a 0
    have hmx : (max (deepN P : Int) (1 + (x.path.length : Int))) = ((deepN (P ++ [x.ls]) : Nat) : Int) := by
      rw [deepN_snoc]
      show _ = ((max (deepN P) (1 + x.path.length) : Nat) : Int)
      omega
    have HE : Hid (Keeps V (V.setCell ⟨A, 0, none⟩ (.int .i64 (deepN (P ++ [x.ls]) : Int))) (fun b => b = A) ∧ DI W (V.setCell ⟨A, 0, none⟩ (.int .i64 (deepN (P ++ [x.ls]) : Int))) A ((pre ++ [x]).map Spot.ls)) := by
      have hk := keep1 (j := 0) (Keeps.refl V (fun b => b = A)) (.int .i64 (deepN (P ++ [x.ls]) : Int))
      refine ⟨hk, ?_⟩
      rw [hmap]
      refine ⟨hi.gr.trans hk (fun j hj e => by omega), by rw [setc (j := 0) hi.a]; simp, ?_⟩
      rw [deepN_snoc]
      have : (x.ls).path.length ≤ big := hat.deep
      have := hi.le
      omega
    generalize deepN (P ++ [x.ls]) = M' at *
    generalize deepN P = M at *
    clear hi hat hbx hmap hP hseq h0
    gi_wp2
    first
      | exact HE.out
      | (rw [hmx]; exact HE.out)
  case done =>
    rintro xs V hx hi hz hd
    rw [hz4] at hz hd ⊢
    have q0 : V.cell? ⟨A, 0, none⟩ = some (.int .i64 (deepN (nodes D l [] false) : Int)) := by rw [← hx]; exact cell1 hi.a
    have HGf : Hid (Gr W (V.putObj (A + 2) (.deferred none))) := hi.gr.trans (T := fun k => k = (A + 2)) (keeps_put _ _ _) (fun j hj h => by omega)
    clear hi hx
    obtain ⟨M, hM⟩ : ∃ M, M = deepN (nodes D l [] false) := ⟨_, rfl⟩
    rw [← hM] at q0
    have HMM := hidM hM
    clear hM
    go_wp2_with fail
    refine ⟨by simp, .inl ⟨_, _, rfl, run_takeDeferred hd, ?_⟩⟩
    refine ⟨.int .i64 (M : Int), ?_, by rw [HMM.out], HGf.out⟩
    simp [results, Tryd.f17, go_sem]
  case stop =>
    rintro c pre V hp h hz hd
    exact h.elim
end Go.Proofs.YtfepbpibhcfjdaaDoor.Kit
namespace Go.Proofs.YtfepbpibhcfjdaaDoor.Kit
open Go.RowKit Go.Shelf Go.Deep
set_option linter.unusedVariables false
attribute [local go_sem] run_store_func

/-- the longest way -/
def mostN (l : List LS) : Nat := l.foldl (fun m s => max m s.path.length) 0
theorem mostN_snoc (l : List LS) (s : LS) : mostN (l ++ [s]) = max (mostN l) s.path.length := by simp [mostN]
theorem nodes_lens : ∀ (d : Nat) (l : List FT) (p p' : List Nat) (q q' : Bool) (c : Nat), p'.length = p.length + c → (nodes d l p' q').map (fun s => s.path.length) = (nodes d l p q).map (fun s => c + s.path.length)
  | 0, _, _, _, _, _, _, _ => rfl
  | d + 1, l, p, p', q, q', c, hp => by
    have key : ∀ n, (upto d l p' q' n).map (fun s => s.path.length) = (upto d l p q n).map (fun s => c + s.path.length) := by
      intro n
      induction n with
      | zero => rfl
      | succ n ih =>
        rw [upto_succ, upto_succ, List.map_append, List.map_append, ih, List.map_cons, List.map_cons, nodes_lens d _ (p ++ [n]) (p' ++ [n]) _ _ c (by simp [hp]; omega)]
        have e : (p' ++ [n]).length = c + (p ++ [n]).length := by simp [hp]; omega
        show _ ++ (p' ++ [n]).length :: _ = _ ++ (c + (p ++ [n]).length) :: _
        rw [e]
    rw [nodes_succ, nodes_succ]
    exact key l.length
theorem most_deep (d : Nat) (h : FT) : mostN (nodes (d + 1) [h] [] false) = deepN (nodes d h.kids [] false) := by
  rw [nodes_cons]
  have e := nodes_lens d h.kids [] [0] false (decide (h.kind = 19)) 1 rfl
  have e1 : mostN (⟨[h], [0], false⟩ :: nodes d h.kids [0] (decide (h.kind = 19))) = ((nodes d h.kids [0] (decide (h.kind = 19))).map fun s => s.path.length).foldl max 1 := by
    simp [mostN, List.foldl_map]
  have e2 : deepN (nodes d h.kids [] false) = ((nodes d h.kids [] false).map fun s => 1 + s.path.length).foldl max 1 := by
    simp [deepN, List.foldl_map]
  rw [e1, e2, e]

set_option maxRecDepth 100000 in
set_option maxHeartbeats 2000000 in
theorem depth_false (k1 d1 i1 x1 : Int) (ao : Option Addr) (na ca : Nat) (w : World) (hm : Ans 40 #[.agg #[.int .i64 k1, .int .i64 d1, .int .i64 i1, .int .i64 x1, .slice ao na ca]] false w) : AnsV 17 #[.agg #[.int .i64 k1, .int .i64 d1, .int .i64 i1, .int .i64 x1, .slice ao na ca]] (.int .i64 0) w := by
  intro W g
  have HM := hidM (hm.gr g)
  unfold Ans at HM
  clear hm g
  go_enter Tryd.func17, Tryd.ntmps17
  go_wp2_with (go_at_call 40; refine Hid.out ?_)
  unfold Hid
  refine Calls.mono (HM.out _ (gr_alloc W _)) ?_
  rintro e W1 ⟨rfl, hg1⟩
  have HG := hidM ((gr_alloc W _).trans hg1 (fun _ _ h => h))
  clear hg1
  go_wp2_with fail
  go_ret
  exact ⟨rfl, HG.out⟩
end Go.Proofs.YtfepbpibhcfjdaaDoor.Kit
namespace Go.Proofs.YtfepbpibhcfjdaaDoor.Kit
open Go.RowKit Go.Shelf Go.Deep
set_option linter.unusedVariables false

/-! ### what both sides say of fields and types -/
theorem nulR_same {d : Nat} {a b : FT} (ha : deep d a.kids) (hb : deep d b.kids) (ht : tyEq a b = true) (hs : sameLs d a.kids b.kids = true) : nulR a = nulR b := by
  have hk : a.kind = b.kind := by simp [tyEq] at ht; exact ht.1.1.1
  have hl : a.kids.length = b.kids.length := Classical.byContradiction fun h => by
    have : sameLs d a.kids b.kids = false := by
      cases d with
      | zero => rw [sameLs]; exact sameAll_len h
      | succ d => rw [sameLs_succ]; exact sameAll_len h
    rw [this] at hs
    cases hs
  have h0 : kid0 a = kid0 b := by
    cases d with
    | zero =>
      have h1 : a.kids = [] := ha
      have h2 : b.kids = [] := hb
      simp [kid0, h1, h2]
    | succ d =>
      rw [sameLs_succ] at hs
      unfold kid0
      cases h1 : a.kids with
      | nil =>
        rw [h1] at hl
        have h2 : b.kids = [] := List.eq_nil_of_length_eq_zero hl.symm
        simp [h2]
      | cons x t =>
        cases h2 : b.kids with
        | nil => rw [h1, h2] at hl; simp at hl
        | cons y u =>
          rw [h1, h2, sameAll, sameFd_eq] at hs
          simp at hs
          simp [hs.1.1.2]
  unfold nulR
  rw [hk, hl, h0]
/-- what the table says of a type that may be -/
theorem table_of {f : FT} (h : tableB f = true) : ∃ k : Nat, f.kind = (k : Int) ∧ 1 ≤ k ∧ k ≤ 20 ∧ f.kids.length ≤ 32 ∧ leastK k ≤ (f.kids.length : Int) ∧ (f.kids.length : Int) ≤ mostK k ∧ (k = 19 → ∃ ix : Nat, f.index = (ix : Int) ∧ ix ≤ 10) := by
  simp only [tableB, kindB, Bool.and_eq_true, decide_eq_true_eq] at h
  obtain ⟨⟨h1, h2⟩, ⟨⟨h3, h4⟩, h5⟩, h6⟩ := h
  have hm : ∀ n : Nat, mostK n ≤ 32 := fun n => by unfold mostK; split <;> omega
  refine ⟨f.kind.toNat, by omega, by omega, by omega, by have := hm f.kind.toNat; omega, h3, h4, fun hk => ?_⟩
  have hk19 : f.kind = 19 := by omega
  simp [dictB, hk19, indexB] at h6
  exact ⟨f.index.toNat, by omega, by omega⟩
end Go.Proofs.YtfepbpibhcfjdaaDoor.Kit
namespace Go.Proofs.YtfepbpibhcfjdaaDoor.Kit
open Go.RowKit Go.Shelf Go.Deep
set_option linter.unusedVariables false
attribute [local go_sem] run_store_func

theorem l14 {w W : World} {X : Nat} {a b : FT} {ao bo : Option Addr} {ca cb : Nat} (h : B2t w W X #[.string a.name, .bool a.nul, .int .i64 a.kind, .int .i64 a.width, .int .i64 a.id, .int .i64 a.index, .slice ao a.kids.length ca] #[.string b.name, .bool b.nul, .int .i64 b.kind, .int .i64 b.width, .int .i64 b.id, .int .i64 b.index, .slice bo b.kids.length cb] 35) : Hid (B2t w W X #[.string a.name, .bool a.nul, .int .i64 a.kind, .int .i64 a.width, .int .i64 a.id, .int .i64 a.index, .slice ao a.kids.length ca] #[.string b.name, .bool b.nul, .int .i64 b.kind, .int .i64 b.width, .int .i64 b.id, .int .i64 b.index, .slice bo b.kids.length cb] 35) ∧ W.cell? ⟨X, 0, none⟩ = some (.string a.name) ∧ W.cell? ⟨X, 1, none⟩ = some (.bool a.nul) ∧ W.cell? ⟨X, 2, none⟩ = some (.int .i64 a.kind) ∧ W.cell? ⟨X, 3, none⟩ = some (.int .i64 a.width) ∧ W.cell? ⟨X, 4, none⟩ = some (.int .i64 a.id) ∧ W.cell? ⟨X, 5, none⟩ = some (.int .i64 a.index) ∧ W.cell? ⟨X, 6, none⟩ = some (.slice ao a.kids.length ca) ∧ W.cell? ⟨X + 1, 0, none⟩ = some (.string b.name) ∧ W.cell? ⟨X + 1, 1, none⟩ = some (.bool b.nul) ∧ W.cell? ⟨X + 1, 2, none⟩ = some (.int .i64 b.kind) ∧ W.cell? ⟨X + 1, 3, none⟩ = some (.int .i64 b.width) ∧ W.cell? ⟨X + 1, 4, none⟩ = some (.int .i64 b.id) ∧ W.cell? ⟨X + 1, 5, none⟩ = some (.int .i64 b.index) ∧ W.cell? ⟨X + 1, 6, none⟩ = some (.slice bo b.kids.length cb) := by
  have h0 := h.b0
  have h1 := h.b1
  refine ⟨h, ?_, ?_, ?_, ?_, ?_, ?_, ?_, ?_, ?_, ?_, ?_, ?_, ?_, ?_⟩ <;> simp [World.cell?, h0, h1]
theorem l14_kept {w W : World} {X : Nat} {a b : FT} {ao bo : Option Addr} {ca cb : Nat} {W' : World} (h : Hid (B2t w W X #[.string a.name, .bool a.nul, .int .i64 a.kind, .int .i64 a.width, .int .i64 a.id, .int .i64 a.index, .slice ao a.kids.length ca] #[.string b.name, .bool b.nul, .int .i64 b.kind, .int .i64 b.width, .int .i64 b.id, .int .i64 b.index, .slice bo b.kids.length cb] 35) ∧ W.cell? ⟨X, 0, none⟩ = some (.string a.name) ∧ W.cell? ⟨X, 1, none⟩ = some (.bool a.nul) ∧ W.cell? ⟨X, 2, none⟩ = some (.int .i64 a.kind) ∧ W.cell? ⟨X, 3, none⟩ = some (.int .i64 a.width) ∧ W.cell? ⟨X, 4, none⟩ = some (.int .i64 a.id) ∧ W.cell? ⟨X, 5, none⟩ = some (.int .i64 a.index) ∧ W.cell? ⟨X, 6, none⟩ = some (.slice ao a.kids.length ca) ∧ W.cell? ⟨X + 1, 0, none⟩ = some (.string b.name) ∧ W.cell? ⟨X + 1, 1, none⟩ = some (.bool b.nul) ∧ W.cell? ⟨X + 1, 2, none⟩ = some (.int .i64 b.kind) ∧ W.cell? ⟨X + 1, 3, none⟩ = some (.int .i64 b.width) ∧ W.cell? ⟨X + 1, 4, none⟩ = some (.int .i64 b.id) ∧ W.cell? ⟨X + 1, 5, none⟩ = some (.int .i64 b.index) ∧ W.cell? ⟨X + 1, 6, none⟩ = some (.slice bo b.kids.length cb)) (k : Hid (Gr W W')) : Hid (B2t w W' X #[.string a.name, .bool a.nul, .int .i64 a.kind, .int .i64 a.width, .int .i64 a.id, .int .i64 a.index, .slice ao a.kids.length ca] #[.string b.name, .bool b.nul, .int .i64 b.kind, .int .i64 b.width, .int .i64 b.id, .int .i64 b.index, .slice bo b.kids.length cb] 35) ∧ W'.cell? ⟨X, 0, none⟩ = some (.string a.name) ∧ W'.cell? ⟨X, 1, none⟩ = some (.bool a.nul) ∧ W'.cell? ⟨X, 2, none⟩ = some (.int .i64 a.kind) ∧ W'.cell? ⟨X, 3, none⟩ = some (.int .i64 a.width) ∧ W'.cell? ⟨X, 4, none⟩ = some (.int .i64 a.id) ∧ W'.cell? ⟨X, 5, none⟩ = some (.int .i64 a.index) ∧ W'.cell? ⟨X, 6, none⟩ = some (.slice ao a.kids.length ca) ∧ W'.cell? ⟨X + 1, 0, none⟩ = some (.string b.name) ∧ W'.cell? ⟨X + 1, 1, none⟩ = some (.bool b.nul) ∧ W'.cell? ⟨X + 1, 2, none⟩ = some (.int .i64 b.kind) ∧ W'.cell? ⟨X + 1, 3, none⟩ = some (.int .i64 b.width) ∧ W'.cell? ⟨X + 1, 4, none⟩ = some (.int .i64 b.id) ∧ W'.cell? ⟨X + 1, 5, none⟩ = some (.int .i64 b.index) ∧ W'.cell? ⟨X + 1, 6, none⟩ = some (.slice bo b.kids.length cb) := l14 (h.1.out.gr k.out)
theorem l14_g {w W : World} {X : Nat} {a b : FT} {ao bo : Option Addr} {ca cb : Nat} (h : Hid (B2t w W X #[.string a.name, .bool a.nul, .int .i64 a.kind, .int .i64 a.width, .int .i64 a.id, .int .i64 a.index, .slice ao a.kids.length ca] #[.string b.name, .bool b.nul, .int .i64 b.kind, .int .i64 b.width, .int .i64 b.id, .int .i64 b.index, .slice bo b.kids.length cb] 35) ∧ W.cell? ⟨X, 0, none⟩ = some (.string a.name) ∧ W.cell? ⟨X, 1, none⟩ = some (.bool a.nul) ∧ W.cell? ⟨X, 2, none⟩ = some (.int .i64 a.kind) ∧ W.cell? ⟨X, 3, none⟩ = some (.int .i64 a.width) ∧ W.cell? ⟨X, 4, none⟩ = some (.int .i64 a.id) ∧ W.cell? ⟨X, 5, none⟩ = some (.int .i64 a.index) ∧ W.cell? ⟨X, 6, none⟩ = some (.slice ao a.kids.length ca) ∧ W.cell? ⟨X + 1, 0, none⟩ = some (.string b.name) ∧ W.cell? ⟨X + 1, 1, none⟩ = some (.bool b.nul) ∧ W.cell? ⟨X + 1, 2, none⟩ = some (.int .i64 b.kind) ∧ W.cell? ⟨X + 1, 3, none⟩ = some (.int .i64 b.width) ∧ W.cell? ⟨X + 1, 4, none⟩ = some (.int .i64 b.id) ∧ W.cell? ⟨X + 1, 5, none⟩ = some (.int .i64 b.index) ∧ W.cell? ⟨X + 1, 6, none⟩ = some (.slice bo b.kids.length cb)) : Gr w W := h.1.out.g
theorem l5 {w W : World} {F : Nat} {f : FT} {fo : Option Addr} {fc : Nat} (h : BX w W F #[.string f.name, .bool f.nul, .int .i64 f.kind, .int .i64 f.width, .int .i64 f.id, .int .i64 f.index, .slice fo f.kids.length fc] 35) : Hid (BX w W F #[.string f.name, .bool f.nul, .int .i64 f.kind, .int .i64 f.width, .int .i64 f.id, .int .i64 f.index, .slice fo f.kids.length fc] 35) ∧ W.cell? ⟨F, 2, none⟩ = some (.int .i64 f.kind) ∧ W.cell? ⟨F, 3, none⟩ = some (.int .i64 f.width) ∧ W.cell? ⟨F, 4, none⟩ = some (.int .i64 f.id) ∧ W.cell? ⟨F, 5, none⟩ = some (.int .i64 f.index) ∧ W.cell? ⟨F, 6, none⟩ = some (.slice fo f.kids.length fc) := by
  have h0 := h.b
  refine ⟨h, ?_, ?_, ?_, ?_, ?_⟩ <;> simp [World.cell?, h0]
theorem l5_kept {w W : World} {F : Nat} {f : FT} {fo : Option Addr} {fc : Nat} {W' : World} (h : Hid (BX w W F #[.string f.name, .bool f.nul, .int .i64 f.kind, .int .i64 f.width, .int .i64 f.id, .int .i64 f.index, .slice fo f.kids.length fc] 35) ∧ W.cell? ⟨F, 2, none⟩ = some (.int .i64 f.kind) ∧ W.cell? ⟨F, 3, none⟩ = some (.int .i64 f.width) ∧ W.cell? ⟨F, 4, none⟩ = some (.int .i64 f.id) ∧ W.cell? ⟨F, 5, none⟩ = some (.int .i64 f.index) ∧ W.cell? ⟨F, 6, none⟩ = some (.slice fo f.kids.length fc)) (k : Hid (Gr W W')) : Hid (BX w W' F #[.string f.name, .bool f.nul, .int .i64 f.kind, .int .i64 f.width, .int .i64 f.id, .int .i64 f.index, .slice fo f.kids.length fc] 35) ∧ W'.cell? ⟨F, 2, none⟩ = some (.int .i64 f.kind) ∧ W'.cell? ⟨F, 3, none⟩ = some (.int .i64 f.width) ∧ W'.cell? ⟨F, 4, none⟩ = some (.int .i64 f.id) ∧ W'.cell? ⟨F, 5, none⟩ = some (.int .i64 f.index) ∧ W'.cell? ⟨F, 6, none⟩ = some (.slice fo f.kids.length fc) := l5 (h.1.out.gr k.out)
theorem l5_g {w W : World} {F : Nat} {f : FT} {fo : Option Addr} {fc : Nat} (h : Hid (BX w W F #[.string f.name, .bool f.nul, .int .i64 f.kind, .int .i64 f.width, .int .i64 f.id, .int .i64 f.index, .slice fo f.kids.length fc] 35) ∧ W.cell? ⟨F, 2, none⟩ = some (.int .i64 f.kind) ∧ W.cell? ⟨F, 3, none⟩ = some (.int .i64 f.width) ∧ W.cell? ⟨F, 4, none⟩ = some (.int .i64 f.id) ∧ W.cell? ⟨F, 5, none⟩ = some (.int .i64 f.index) ∧ W.cell? ⟨F, 6, none⟩ = some (.slice fo f.kids.length fc)) : Gr w W := h.1.out.g
/-- one of the two in the row -/
theorem row14 {W : World} {Rb : Nat} {a b : FT} {ao bo : Option Addr} {ca cb : Nat} (h : W.heap[Rb]? = some (.cells #[.string a.name, .bool a.nul, .int .i64 a.kind, .int .i64 a.width, .int .i64 a.id, .int .i64 a.index, .slice ao a.kids.length ca, .string b.name, .bool b.nul, .int .i64 b.kind, .int .i64 b.width, .int .i64 b.id, .int .i64 b.index, .slice bo b.kids.length cb] 35)) : CellsAt W Rb (0 * 7) a ao ca ∧ CellsAt W Rb (1 * 7) b bo cb := by
  refine ⟨⟨?_, ?_, ?_, ?_, ?_, ?_, ?_⟩, ⟨?_, ?_, ?_, ?_, ?_, ?_, ?_⟩⟩ <;> simp [World.cell?, h]

theorem eq_rows1 {A V : World} {d n : Nat} {l : List FT} {vo uo : Option Addr} {vc uc : Nat} (hn : n = l.length) (h1 : RowAt (fun b => b < A.heap.size) A d vo l) (g : Gr A V) (h2 : RowAt (fun b => b < V.heap.size) V d uo l) (l1 : n ≤ vc) (l2 : n ≤ uc) : Ans 39 #[.slice vo n vc, .slice uo n uc] true V := by
  subst hn
  have := eqFields_any (fun b => b < V.heap.size) d V vo uo vc uc l l ((h1.kept fun b hb => g.block b hb id).mono fun b hb => Nat.lt_of_lt_of_le hb g.size) h2 l1 l2 (fun _ h => h)
  rwa [sameLs_refl] at this
theorem eq_rows2 {A V : World} {d n : Nat} {l : List FT} {vo uo : Option Addr} {vc uc : Nat} (hn : n = l.length) (h1 : RowAt (fun b => b < V.heap.size) V d vo l) (g : Gr A V) (h2 : RowAt (fun b => b < A.heap.size) A d uo l) (l1 : n ≤ vc) (l2 : n ≤ uc) : Ans 39 #[.slice vo n vc, .slice uo n uc] true V := by
  subst hn
  have := eqFields_any (fun b => b < V.heap.size) d V vo uo vc uc l l h1 ((h2.kept fun b hb => g.block b hb id).mono fun b hb => Nat.lt_of_lt_of_le hb g.size) l1 l2 (fun _ h => h)
  rwa [sameLs_refl] at this
theorem partsL_len {z : Bool} {f : FT} (h : f.kids.length ≤ big) : (partsL z f).length ≤ big := by
  unfold partsL
  split
  · simp [big]
  · split
    · simp [big]
    · exact h
end Go.Proofs.YtfepbpibhcfjdaaDoor.Kit
namespace Go.Proofs.YtfepbpibhcfjdaaDoor.kindR
open Go.ChangeShapes Go.WideShapes Go.ChangeAt Go.RowKit Go.Deep
open Go.Proofs.YtfepbpibhcfjdaaDoor
set_option linter.unusedVariables false
/-- one field, read -/
theorem fld_at {H : Type} {enc : TypeId × Value → H} {W : World} {fuel : Nat} {cs : List Value} {d : DataW H} {p : List MemPlace} (hl : cs.length = 7)
    (h : DataW.trod enc Tryd.prog W 0 (fun _ => true) true fuel 35 cs = some (d, p)) (hb : Rows.uptoBulk d ≤ 1048576) :
    ∃ (f : Kit.FT) (fo : Option Addr) (fc : Nat), cs = [.string f.name, .bool f.nul, .int .i64 f.kind, .int .i64 f.width, .int .i64 f.id, .int .i64 f.index, .slice fo f.kids.length fc] ∧ Kit.Fld (fun b => b < W.heap.size) W 1048576 f fo fc := by
  obtain ⟨nm, nu, k0, k1, k2, k3, v, n, dk, pk, rfl, hk, hbk⟩ := field_at hl h
  obtain ⟨ao, l, ca, rfl, h1, h2⟩ := fields_at 1048576 (Nat.le_refl _) hk (by omega)
  exact ⟨⟨nm, nu, k0, k1, k2, k3, l⟩, ao, ca, rfl, h2, h1⟩
end Go.Proofs.YtfepbpibhcfjdaaDoor.kindR
