import Derived.Test.YtffmppnlddphaaaDoorOG
import Derived.Test.YtffmppnlddphaaaDoorKC
import Derived.Test.YtffmppnlddphaaaDoorLR
namespace Go.Proofs.YtffmppnlddphaaaDoor.Kit
open Go.RowKit Go.Shelf Go.Deep
set_option linter.unusedVariables false
attribute [local go_sem] Oper.semAt_some run_store_func

/-! ### depth -/
/-- the greatest so far -/
def deepN (l : List LS) : Nat := l.foldl (fun m s => max m (1 + s.path.length)) 1
theorem deepN_snoc (l : List LS) (s : LS) : deepN (l ++ [s]) = max (deepN l) (1 + s.path.length) := by simp [deepN]
structure DI (w W : World) (A : Nat) (P : List LS) : Prop where
  gr : Gr w W
  a : W.heap[A]? = some (.cells #[.int .i64 (deepN P : Int)] 3)
  le : deepN P ≤ big + 1
theorem DI.kept {w W W' : World} {A : Nat} {P : List LS} (h : DI w W A P) (g : Gr w W') (k : W'.heap[A]? = W.heap[A]?) : DI w W' A P := ⟨g, k.trans h.a, h.le⟩

set_option maxRecDepth 100000 in
set_option maxHeartbeats 4000000 in
theorem depth_true (S : Nat → Prop) (D : Nat) (l : List FT) (k wd i x0 : Int) (ao : Option Addr) (n ca : Nat) (w : World) (hn : n = l.length) (hr : RowAt S w D ao l) (hca : n ≤ ca) (hD : D ≤ big) (hS : ∀ b, S b → b < w.heap.size) (hm : Ans 53 #[.agg #[.int .i64 k, .int .i64 wd, .int .i64 i, .int .i64 x0, .slice ao n ca]] true w) :
    AnsV 21 #[.agg #[.int .i64 k, .int .i64 wd, .int .i64 i, .int .i64 x0, .slice ao n ca]] (.int .i64 (deepN (nodes D l [] false) : Int)) w := by
  intro W g
  have HM := hidM (hm.gr g)
  unfold Ans at HM
  have HR : Hid (RowAt S W D ao l) := hr.kept fun b hb => g.block b (hS b hb) id
  have HS : Hid (∀ b, S b → b < W.heap.size) := fun b hb => by have := hS b hb; have := g.size; omega
  have HN := hidM hn
  have hbx := World.alloc_heap_new W (.cells #[.int .i64 k, .int .i64 wd, .int .i64 i, .int .i64 x0, .slice ao n ca] 35)
  have hl : n ≤ 1000000000000 := by rw [hn]; exact hr.len
  obtain ⟨X, hX⟩ : ∃ X, X = W.heap.size := ⟨_, rfl⟩
  rw [← hX] at hbx
  have HX := hidM hbx
  have HXe := hidM hX
  clear hm hbx hr hS g hn
  refine (callsIn_wide (n := 10)).1 ?_
  refine callsIn_of_wp_marks Tryd.func21 rfl trivial ?_ rfl
  simp only [Tryd.ntmps21, List.size_toArray, List.length_cons, List.length_nil, Nat.reduceAdd, Nat.reduceSub, Array.replicate_succ, Array.replicate_zero, List.push_toArray, List.append_toArray, List.nil_append, List.cons_append]
  refine wpIn_wide.2 ?_
  go_wp2_with fail
  try rw [← hX]
  refine Calls.mono (HM.out _ (gr_alloc W _)) ?_
  rintro e W1 ⟨rfl, hg1⟩
  have y1 := (hg1.block _ (lt_of_heap HX.out) id).trans HX.out
  obtain ⟨p0, p1, p2, p3, p4⟩ := cell5 y1
  have HG := hidM ((gr_alloc W _).trans hg1 (fun _ _ h => h))
  have hXl : X < W1.heap.size := lt_of_heap y1
  obtain ⟨A, hA⟩ : ∃ A, A = W1.heap.size := ⟨_, rfl⟩
  obtain ⟨W2, hW2⟩ : ∃ W2, W1.alloc (.cells #[.int .i64 1] 3) = W2 := ⟨_, rfl⟩
  have p4' : W2.cell? ⟨X, 4, none⟩ = some (.slice ao n ca) := by rw [← hW2]; exact (gr_alloc W1 _).cell' p4 id
  clear hg1 y1 p0 p1 p2 p3 HM hX
  go_wp2_with (go_at_call 56; refine Hid.out ?_)
  unfold Hid
  try rw [hW2]
  refine (each_any _ ao n ca rfl W2).mono ?_
  rintro e W4 ⟨rfl, hW4⟩
  have hz2 : W2.heap.size = A + 1 := by rw [← hW2, hA]; simp
  have hz4 : W4.heap.size = A + 2 := by rw [hW4]; simp [hz2]
  have hg4 : Gr W1 W4 := by rw [hW4, ← hW2]; exact (gr_alloc W1 _).alloc _
  have hgw : Gr W W4 := HG.out.trans hg4 (fun _ _ h => h)
  have h0 : DI W W4 A ([] : List LS) := by
    refine ⟨hgw, ?_, by simp [deepN, big]⟩
    rw [hW4, ← hW2, hA]
    exact (Below.heap_alloc _ _ _ (by simp)).trans (World.alloc_heap_new W1 _)
  have hv : W4.cell? ⟨A + 1, 0, none⟩ = some (.slice ao l.length ca) := by rw [hW4, ← HN.out, ← hz2]; exact cell_new W2 _ 24
  have hseq := each1_seq (10 - 1) (A + 1) S D ao ca l W4 hv (HR.out.kept fun b h => hgw.block b (HS.out b h) id) (by rw [← HN.out]; exact hca) hD (fun b h => by have := HS.out b h; have := hgw.size; omega)
  have hSW : ∀ b, S b → b < W.heap.size := HS.out
  have hAW : W.heap.size ≤ A := by rw [hA]; exact HG.out.size
  try rw [← hA]
  rw [hz2]
  clear hW2 hW4 hg4 p4 p4' hv HX hA hz2
  go_wp2_with fail
  refine (wpIn_wide (n := 10)).1 ?_
  refine rangeX (by decide) (gf := 80) (lb := #[.pointer (some ⟨A + 1, 0, none⟩)]) rfl (enters_of Tryd.func80 (by kernel_rfl) rfl) hseq (fun _ => rfl) (fun b h => by have := hSW b h; omega)
    (fun O pre x A B h k => ⟨h.row.kept fun b hb => k b (.inl hb), h.le, h.ix, own_kp h.way fun g e => k g (.inr (by cases e; exact h.wO)), h.wO, h.deep⟩)
    (fun b => b = A) (fun b h => ⟨by omega, fun hs => by have := hSW b hs; omega⟩)
    (fun pre V => DI W V A (pre.map Spot.ls)) (fun pre Y Z h hz hb => h.kept (gr_below h.gr (by omega) hb) (hb.block A (by omega)))
    (fun _ _ _ => False) (fun _ _ _ _ h _ => h)
    h0
    (fun x a' V => ∃ Bx, V.heap[Bx]? = some (.cells #[.slice x.ao x.list.length x.ca, .slice (some ⟨x.wb, 0, none⟩) x.path.length x.wc, .bool x.inD] 91) ∧ Bx ≠ W4.heap.size + 1 ∧ A + 2 + 2 ≤ Bx ∧
      a' = { tmps := #[.agg #[.int .i64 k, .int .i64 wd, .int .i64 i, .int .i64 x0, .slice ao n ca], .pointer (some ⟨X, 0, none⟩), .int .i64 0, .pointer (some ⟨A, 0, none⟩), .pointer (some ⟨Bx, 0, none⟩), .agg #[.int .i64 k, .int .i64 wd, .int .i64 i, .int .i64 x0, .slice ao n ca], .bool true, .bool false, .pointer (some ⟨X, 4, none⟩), .slice ao n ca, .func (.func 80) #[] #[.pointer (some ⟨A + 1, 0, none⟩)], .agg #[.slice x.ao x.list.length x.ca, .slice (some ⟨x.wb, 0, none⟩) x.path.length x.wc, .bool x.inD], undef, undef, undef, undef, undef, undef, undef], defers := [] })
    (fun x a' Y Z h hk => by
      obtain ⟨Bx, h1, h2, h3, h4⟩ := h
      exact ⟨Bx, (hk.block Bx (lt_of_heap h1) h2).trans h1, h2, h3, h4⟩)
    ?assign ?body ?done ?stop
  case assign =>
    intro l x V K hz hK
    unfold encS
    gi_wp2
    refine hK _ _ (gr_alloc V _) ⟨V.heap.size, World.alloc_heap_new V _, by omega, by omega, rfl⟩
  case body =>
    rintro l O pre x a' V hi hat ⟨Bx, hbx, -, hBx, rfl⟩ hO hz
    have hmap : (pre ++ [x]).map Spot.ls = pre.map Spot.ls ++ [x.ls] := by simp
    obtain ⟨P, hP⟩ : ∃ P, P = pre.map Spot.ls := ⟨_, rfl⟩
    rw [← hP] at hi hmap
    have hpl : x.path.length ≤ 1000000000000 := hat.deep
    have hdl : deepN P ≤ 1000000000001 := hi.le
    obtain ⟨b0, b1, b2⟩ := cell3 hbx
    have q0 : V.cell? ⟨A, 0, none⟩ = some (.int .i64 (deepN P : Int)) := cell1 hi.a
    have q1 := frz hi.a 0
    have hmx : (max (deepN P : Int) (1 + (x.path.length : Int))) = ((deepN (P ++ [x.ls]) : Nat) : Int) := by
      rw [deepN_snoc]
      show _ = ((max (deepN P) (1 + x.path.length) : Nat) : Int)
      omega
    have HE : Hid (Keeps V (V.setCell ⟨A, 0, none⟩ (.int .i64 (deepN (P ++ [x.ls]) : Int))) (fun b => b = A) ∧ DI W (V.setCell ⟨A, 0, none⟩ (.int .i64 (deepN (P ++ [x.ls]) : Int))) A ((pre ++ [x]).map Spot.ls)) := by
      have hk := keep1 (j := 0) (Keeps.refl V (fun b => b = A)) (.int .i64 (deepN (P ++ [x.ls]) : Int))
      refine ⟨hk, ?_⟩
      rw [hmap]
      refine ⟨hi.gr.trans hk (fun j hj e => by omega), by rw [setc (j := 0) hi.a]; simp, ?_⟩
      rw [deepN_snoc]
      have : (x.ls).path.length ≤ big := hat.deep
      have := hi.le
      omega
    generalize deepN (P ++ [x.ls]) = M' at *
    generalize deepN P = M at *
    clear hi hat hbx hmap hP hseq h0
    gi_wp2
    first
      | exact HE.out
      | (rw [hmx]; exact HE.out)
  case done =>
    rintro xs V hx hi hz hd
    rw [hz4] at hz hd ⊢
    have q0 : V.cell? ⟨A, 0, none⟩ = some (.int .i64 (deepN (nodes D l [] false) : Int)) := by rw [← hx]; exact cell1 hi.a
    have HGf : Hid (Gr W (V.putObj (A + 2) (.deferred none))) := hi.gr.trans (T := fun k => k = (A + 2)) (keeps_put _ _ _) (fun j hj h => by omega)
    clear hi hx
    obtain ⟨M, hM⟩ : ∃ M, M = deepN (nodes D l [] false) := ⟨_, rfl⟩
    rw [← hM] at q0
    have HMM := hidM hM
    clear hM
    go_wp2_with fail
    refine ⟨by simp, .inl ⟨_, _, rfl, run_takeDeferred hd, ?_⟩⟩
    refine ⟨.int .i64 (M : Int), ?_, by rw [HMM.out], HGf.out⟩
    simp [results, Tryd.f21, go_sem]
  case stop =>
    rintro c pre V hp h hz hd
    exact h.elim
end Go.Proofs.YtffmppnlddphaaaDoor.Kit
namespace Go.Proofs.YtffmppnlddphaaaDoor.Kit
open Go.RowKit Go.Shelf Go.Deep
set_option linter.unusedVariables false
attribute [local go_sem] run_store_func

/-- the longest way -/
def mostN (l : List LS) : Nat := l.foldl (fun m s => max m s.path.length) 0
theorem mostN_snoc (l : List LS) (s : LS) : mostN (l ++ [s]) = max (mostN l) s.path.length := by simp [mostN]
theorem nodes_len : ∀ (d : Nat) (l : List FT) (p p' : List Nat) (q q' : Bool) (c : Nat), p'.length = p.length + c → (nodes d l p' q').map (fun s => s.path.length) = (nodes d l p q).map (fun s => c + s.path.length)
  | 0, _, _, _, _, _, _, _ => rfl
  | d + 1, l, p, p', q, q', c, hp => by
    have key : ∀ n, (upto d l p' q' n).map (fun s => s.path.length) = (upto d l p q n).map (fun s => c + s.path.length) := by
      intro n
      induction n with
      | zero => rfl
      | succ n ih =>
        rw [upto_succ, upto_succ, List.map_append, List.map_append, ih, List.map_cons, List.map_cons, nodes_len d _ (p ++ [n]) (p' ++ [n]) _ _ c (by simp [hp]; omega)]
        have e : (p' ++ [n]).length = c + (p ++ [n]).length := by simp [hp]; omega
        show _ ++ (p' ++ [n]).length :: _ = _ ++ (c + (p ++ [n]).length) :: _
        rw [e]
    rw [nodes_succ, nodes_succ]
    exact key l.length
theorem most_deep (d : Nat) (h : FT) : mostN (nodes (d + 1) [h] [] false) = deepN (nodes d h.kids [] false) := by
  rw [nodes_cons]
  have e := nodes_len d h.kids [] [0] false (decide (h.kind = 19)) 1 rfl
  have e1 : mostN (⟨[h], [0], false⟩ :: nodes d h.kids [0] (decide (h.kind = 19))) = ((nodes d h.kids [0] (decide (h.kind = 19))).map fun s => s.path.length).foldl max 1 := by
    simp [mostN, List.foldl_map]
  have e2 : deepN (nodes d h.kids [] false) = ((nodes d h.kids [] false).map fun s => 1 + s.path.length).foldl max 1 := by
    simp [deepN, List.foldl_map]
  rw [e1, e2, e]

set_option maxRecDepth 100000 in
set_option maxHeartbeats 2000000 in
theorem depth_false (k1 d1 i1 x1 : Int) (ao : Option Addr) (na ca : Nat) (w : World) (hm : Ans 53 #[.agg #[.int .i64 k1, .int .i64 d1, .int .i64 i1, .int .i64 x1, .slice ao na ca]] false w) : AnsV 21 #[.agg #[.int .i64 k1, .int .i64 d1, .int .i64 i1, .int .i64 x1, .slice ao na ca]] (.int .i64 0) w := by
  intro W g
  have HM := hidM (hm.gr g)
  unfold Ans at HM
  clear hm g
  go_enter Tryd.func21, Tryd.ntmps21
  go_wp2_with (go_at_call 53; refine Hid.out ?_)
  unfold Hid
  refine Calls.mono (HM.out _ (gr_alloc W _)) ?_
  rintro e W1 ⟨rfl, hg1⟩
  have HG := hidM ((gr_alloc W _).trans hg1 (fun _ _ h => h))
  clear hg1
  go_wp2_with fail
  go_ret
  exact ⟨rfl, HG.out⟩
set_option maxRecDepth 100000 in
set_option maxHeartbeats 2000000 in
theorem depthR_false (k1 d1 i1 x1 : Int) (ao : Option Addr) (na ca : Nat) (w : World) (hm : Ans 54 #[.agg #[.int .i64 k1, .int .i64 d1, .int .i64 i1, .int .i64 x1, .slice ao na ca]] false w) : AnsV 22 #[.agg #[.int .i64 k1, .int .i64 d1, .int .i64 i1, .int .i64 x1, .slice ao na ca]] (.int .i64 0) w := by
  intro W g
  have HM := hidM (hm.gr g)
  unfold Ans at HM
  clear hm g
  go_enter Tryd.func22, Tryd.ntmps22
  go_wp2_with (go_at_call 54; refine Hid.out ?_)
  unfold Hid
  refine Calls.mono (HM.out _ (gr_alloc W _)) ?_
  rintro e W1 ⟨rfl, hg1⟩
  have HG := hidM ((gr_alloc W _).trans hg1 (fun _ _ h => h))
  clear hg1
  go_wp2_with fail
  go_ret
  exact ⟨rfl, HG.out⟩

set_option maxRecDepth 100000 in
set_option maxHeartbeats 4000000 in
theorem depthR_true (N : List LS) (S : World → Nat → Prop) (nu : Bool) (k1 d1 i1 x1 : Int) (ao : Option Addr) (na ca : Nat) (w : World) (hN : N.length ≤ 257) (h65 : ∀ x ∈ N, x.path.length ≤ 65) (hm : Ans 54 #[.agg #[.int .i64 k1, .int .i64 d1, .int .i64 i1, .int .i64 x1, .slice ao na ca]] true w)
    (h55 : ∀ W, Gr w W → Calls Tryd.prog 55 #[.agg #[.int .i64 k1, .int .i64 d1, .int .i64 i1, .int .i64 x1, .slice ao na ca]] W fun e w' => e = .returned (.agg #[.string ⟨#[97]⟩, .bool nu, .int .i64 k1, .int .i64 d1, .int .i64 i1, .int .i64 x1, .slice ao na ca]) ∧ Gr W w')
    (h46 : ∀ W r, Gr w W → W.heap[r]? = some (.cells #[.string ⟨#[97]⟩, .bool nu, .int .i64 k1, .int .i64 d1, .int .i64 i1, .int .i64 x1, .slice ao na ca] 37) → Calls Tryd.prog 46 #[.slice (some ⟨r, 0, none⟩) 1 1, .slice none 0 0, .bool false, .slice none 0 0] W fun e w' => ∃ vo vc, e = .returned (.slice vo N.length vc) ∧ Gr W w' ∧ OutAt (S W) w' (.slice vo N.length vc) N ∧ ∀ b, S W b → b < w'.heap.size ∧ (Value.slice vo N.length vc).ownBlock ≠ some b) :
    AnsV 22 #[.agg #[.int .i64 k1, .int .i64 d1, .int .i64 i1, .int .i64 x1, .slice ao na ca]] (.int .i64 (mostN N : Int)) w := by
  intro W g
  have HM := hidM (hm.gr g)
  unfold Ans at HM
  have H55 : Hid (∀ W', Gr W W' → Calls Tryd.prog 55 #[.agg #[.int .i64 k1, .int .i64 d1, .int .i64 i1, .int .i64 x1, .slice ao na ca]] W' fun e w' => e = .returned (.agg #[.string ⟨#[97]⟩, .bool nu, .int .i64 k1, .int .i64 d1, .int .i64 i1, .int .i64 x1, .slice ao na ca]) ∧ Gr W' w') := fun W' g' => h55 W' (g.trans g' (fun _ _ h => h))
  have H46 : Hid (∀ W' r, Gr W W' → W'.heap[r]? = some (.cells #[.string ⟨#[97]⟩, .bool nu, .int .i64 k1, .int .i64 d1, .int .i64 i1, .int .i64 x1, .slice ao na ca] 37) → Calls Tryd.prog 46 #[.slice (some ⟨r, 0, none⟩) 1 1, .slice none 0 0, .bool false, .slice none 0 0] W' fun e w' => ∃ vo vc, e = .returned (.slice vo N.length vc) ∧ Gr W' w' ∧ OutAt (S W') w' (.slice vo N.length vc) N ∧ ∀ b, S W' b → b < w'.heap.size ∧ (Value.slice vo N.length vc).ownBlock ≠ some b) := fun W' r g' => h46 W' r (g.trans g' (fun _ _ h => h))
  have H65 := hidM h65
  have hbx := World.alloc_heap_new W (.cells #[.int .i64 k1, .int .i64 d1, .int .i64 i1, .int .i64 x1, .slice ao na ca] 35)
  have HX := hidM hbx
  clear hm h55 h46 g hbx h65
  obtain ⟨R, hR⟩ : ∃ R : Int, R = (mostN N : Int) := ⟨_, rfl⟩
  rw [← hR]
  have HR' := hidM hR
  clear hR
  go_enter Tryd.func22, Tryd.ntmps22
  go_wp2_with (go_at_call 54; refine Hid.out ?_)
  unfold Hid
  refine Calls.mono (HM.out _ (gr_alloc W _)) ?_
  rintro e W1 ⟨rfl, hg1⟩
  have y1 := (hg1.block _ (lt_of_heap HX.out) id).trans HX.out
  obtain ⟨p0, p1, p2, p3, p4⟩ := cell5 y1
  have HG := hidM ((gr_alloc W _).trans hg1 (fun _ _ h => h))
  clear hg1 y1 HM HX
  go_wp2_with (go_at_call 55; refine Hid.out ?_)
  unfold Hid
  refine Calls.mono (H55.out _ HG.out) ?_
  rintro e W2 ⟨rfl, hg2⟩
  have HG2 := hidM (HG.out.trans hg2 (fun _ _ h => h))
  clear hg2 p0 p1 p2 p3 p4 H55
  have HNew := hidM (World.alloc_heap_new W2 (.cells #[.string ⟨#[97]⟩, .bool nu, .int .i64 k1, .int .i64 d1, .int .i64 i1, .int .i64 x1, .slice ao na ca] 37))
  go_wp2_with (go_at_call 46; refine Hid.out ?_)
  unfold Hid
  refine Calls.mono (H46.out _ W2.heap.size (HG2.out.alloc _) HNew.out) ?_
  rintro e W3 ⟨vo, vc, rfl, hg3, hout, hown⟩
  have HG3 := hidM ((HG2.out.alloc _).trans hg3 (fun _ _ h => h))
  have HO := hidM (And.intro hout hown)
  clear hg3 hout hown H46 HNew
  obtain ⟨n, hn⟩ : ∃ n, n = N.length := ⟨_, rfl⟩
  rw [← hn] at hN HO ⊢
  have Hn := hidM hn
  clear hn
  go_wp2_with fail
  go_loopw [3, 14] (fun v p wr => ∃ (k m : Nat), k ≤ n ∧ m ≤ 65 ∧ v = .int .i64 (m : Int) ∧ p = .int .i64 (k : Int) ∧ Hid (m = mostN (N.take k) ∧ Gr W3 wr)) (fun _ p _ => n - (intOf p).toNat)
  case atStart => exact ⟨0, 0, by omega, by omega, rfl, rfl, rfl, Keeps.refl _ _⟩
  case round =>
    obtain ⟨k, m, hk, hm65, rfl, rfl, HK⟩ := hrel
    by_cases hlt : k < n
    · have hkN : k < N.length := by have := Hn.out; omega
      have hO := HO.out.1
      rw [Hn.out] at hO
      obtain ⟨g, rfl, hnvc, hten⟩ := (hO.keeps HK.out.2 (by have h := HO.out.2; rw [Hn.out] at h; exact h)).ten (by omega)
      obtain ⟨wb, wc, xo, xc, bo, cb, t, -⟩ := hten k hkN
      have hx65 := H65.out N[k] (List.getElem_mem _)
      have hsn : mostN (N.take (k + 1)) = max (mostN (N.take k)) N[k].path.length := by
        rw [List.take_succ_eq_append_getElem hkN, mostN_snoc]
      obtain ⟨x, hx⟩ : ∃ x, x = N[k]'hkN := ⟨_, rfl⟩
      rw [← hx] at t hx65 hsn
      rw [← HK.out.1] at hsn
      have HSN := hidM hsn
      have HGk := hidM HK.out.2
      have hgl : n ≤ vc := by rw [Hn.out]; exact hnvc
      obtain ⟨t0, t1, t2, t3, t4, t5, t6, t7, t8, t9⟩ := t
      have hltI : (k : Int) < (n : Int) := by omega
      obtain ⟨w4, hw4⟩ : ∃ w4, wr.alloc (.cells #[.slice (some ⟨wb, 0, none⟩) x.path.length wc, .string x.fld.name, .bool x.fld.nul, .int .i64 x.fld.kind, .int .i64 x.fld.width, .int .i64 x.fld.id, .int .i64 x.fld.index, .slice xo x.fld.kids.length xc, .slice bo x.idx cb, .bool x.inD] 61) = w4 := ⟨_, rfl⟩
      have hb4 : w4.heap[wr.heap.size]? = some (.cells #[.slice (some ⟨wb, 0, none⟩) x.path.length wc, .string x.fld.name, .bool x.fld.nul, .int .i64 x.fld.kind, .int .i64 x.fld.width, .int .i64 x.fld.id, .int .i64 x.fld.index, .slice xo x.fld.kids.length xc, .slice bo x.idx cb, .bool x.inD] 61) := by rw [← hw4]; exact World.alloc_heap_new wr _
      have m0 : w4.cell? ⟨wr.heap.size, 0, none⟩ = some (.slice (some ⟨wb, 0, none⟩) x.path.length wc) := by simp [World.cell?, hb4]
      have HG4 : Hid (Gr W3 w4) := by rw [← hw4]; exact HGk.out.alloc _
      clear hO hten hsn hx HK hb4 hnvc
      by_cases hgt : m < x.path.length
      · have hgtI : (m : Int) < (x.path.length : Int) := by omega
        go_wp2
        go_roundw
        case rel => exact ⟨k + 1, x.path.length, by omega, hx65, rfl, by simp, by rw [HSN.out]; omega, HG4.out⟩
        case measure => simp [intOf]; omega
      · have hgtI : ¬ (m : Int) < (x.path.length : Int) := by omega
        go_wp2
        go_roundw
        case rel => exact ⟨k + 1, m, by omega, hm65, rfl, by simp, by rw [HSN.out]; omega, HG4.out⟩
        case measure => simp [intOf]; omega
    · have hkn : k = n := by omega
      subst hkn
      have hmm : R = (m : Int) := by
        rw [HR'.out, HK.out.1, List.take_of_length_le (by have := Hn.out; omega)]
      have HMM := hidM hmm
      have HE := hidM (HG3.out.trans HK.out.2 (fun _ _ h => h))
      clear hmm
      go_wp2
      go_ret
      exact ⟨by rw [HMM.out]; rfl, HE.out⟩
end Go.Proofs.YtffmppnlddphaaaDoor.Kit
namespace Go.Proofs.YtffmppnlddphaaaDoor.Kit
open Go.RowKit Go.Shelf Go.Deep
set_option linter.unusedVariables false

/-! ### what both sides say of fields and types -/
theorem alike_rows {S : Nat → Prop} {d : Nat} {a b : FT} {ao bo : Option Addr} {ca cb : Nat} {w : World} (ha : Fld S w d a ao ca) (hb : Fld S w d b bo cb) (hS : ∀ b, S b → b < w.heap.size) :
    ∀ W r1 r2, Gr w W → W.heap[r1]? = some (.cells #[.string a.name, .bool a.nul, .int .i64 a.kind, .int .i64 a.width, .int .i64 a.id, .int .i64 a.index, .slice ao a.kids.length ca] 37) → W.heap[r2]? = some (.cells #[.string b.name, .bool b.nul, .int .i64 b.kind, .int .i64 b.width, .int .i64 b.id, .int .i64 b.index, .slice bo b.kids.length cb] 37) → Calls Tryd.prog 52 #[.slice (some ⟨r1, 0, none⟩) 1 1, .slice (some ⟨r2, 0, none⟩) 1 1, .bool false] W fun e w' => e = .returned (.bool (alikeB false 1 1 (grown [] (nodesC (d + 1) [a] [] false)) (grown [] (nodesC (d + 1) [b] [] false)))) ∧ Gr W w' := by
  intro W r1 r2 g h1 h2
  have hr1 := (row_alone h1 (ha.gr hS g).row ha.le).mono (T := fun c => c < W.heap.size) (fun c h => h.elim (fun h => Nat.lt_of_lt_of_le (hS c h) g.size) fun h => by rw [h]; exact lt_of_heap h1)
  have hr2 := (row_alone h2 (hb.gr hS g).row hb.le).mono (T := fun c => c < W.heap.size) (fun c h => h.elim (fun h => Nat.lt_of_lt_of_le (hS c h) g.size) fun h => by rw [h]; exact lt_of_heap h2)
  exact alike_any (fun c => c < W.heap.size) (d + 1) false (some ⟨r1, 0, none⟩) (some ⟨r2, 0, none⟩) 1 1 [a] [b] W hr1 (by simp) hr2 (by simp) (fun _ h => h)
theorem both_alikeF {S : Nat → Prop} {d : Nat} {a b : FT} {ao bo : Option Addr} {ca cb : Nat} {w : World} (hT : Tab w) (ha : Fld S w d a ao ca) (hb : Fld S w d b bo cb) (hd : d + 1 ≤ big) (hS : ∀ b, S b → b < w.heap.size) :
    ∃ r : Bool, Ans 15 #[.agg #[.string a.name, .bool a.nul, .int .i64 a.kind, .int .i64 a.width, .int .i64 a.id, .int .i64 a.index, .slice ao a.kids.length ca], .agg #[.string b.name, .bool b.nul, .int .i64 b.kind, .int .i64 b.width, .int .i64 b.id, .int .i64 b.index, .slice bo b.kids.length cb]] r w ∧ Ans 16 #[.agg #[.string a.name, .bool a.nul, .int .i64 a.kind, .int .i64 a.width, .int .i64 a.id, .int .i64 a.index, .slice ao a.kids.length ca], .agg #[.string b.name, .bool b.nul, .int .i64 b.kind, .int .i64 b.width, .int .i64 b.id, .int .i64 b.index, .slice bo b.kids.length cb]] r w := by
  obtain ⟨zA, a1, a2, a3⟩ := both_field hT ha hd hS
  obtain ⟨zB, b1, b2, b3⟩ := both_field hT hb hd hS
  have h15 := alikeFields_gen a.name b.name a.nul b.nul a.kind a.width a.id a.index b.kind b.width b.id b.index ao bo a.kids.length ca b.kids.length cb zA zB _ w a1 b1 (sameTypes_walk a.kind a.width a.id a.index b.kind b.width b.id b.index ao bo a.kids.length ca b.kids.length cb _ w (same_any S d w ao bo ca cb a.kids b.kids ha.row hb.row hS))
  have h16 := alikeFieldsR_gen a.name b.name a.nul b.nul a.kind a.width a.id a.index b.kind b.width b.id b.index ao bo a.kids.length ca b.kids.length cb zA zB _ w a2 b2 (alike_rows ha hb hS)
  refine ⟨_, h15, ?_⟩
  cases zA with
  | false => simpa using h16
  | true =>
    cases zB with
    | false => simpa using h16
    | true =>
      rw [allr_cut (a3 rfl), allr_cut (b3 rfl), alikeB_false ha.row.deep hb.row.deep] at h16
      simpa [tyEq, Bool.and_assoc] using h16
theorem nulR_same {d : Nat} {a b : FT} (ha : deep d a.kids) (hb : deep d b.kids) (ht : tyEq a b = true) (hs : sameLs d a.kids b.kids = true) : nulR a = nulR b := by
  have hk : a.kind = b.kind := by simp [tyEq] at ht; exact ht.1.1.1
  have hl : a.kids.length = b.kids.length := Classical.byContradiction fun h => by
    have : sameLs d a.kids b.kids = false := by
      cases d with
      | zero => rw [sameLs]; exact sameAll_len h
      | succ d => rw [sameLs_succ]; exact sameAll_len h
    rw [this] at hs
    cases hs
  have h0 : kid0 a = kid0 b := by
    cases d with
    | zero =>
      have h1 : a.kids = [] := ha
      have h2 : b.kids = [] := hb
      simp [kid0, h1, h2]
    | succ d =>
      rw [sameLs_succ] at hs
      unfold kid0
      cases h1 : a.kids with
      | nil =>
        rw [h1] at hl
        have h2 : b.kids = [] := List.eq_nil_of_length_eq_zero hl.symm
        simp [h2]
      | cons x t =>
        cases h2 : b.kids with
        | nil => rw [h1, h2] at hl; simp at hl
        | cons y u =>
          rw [h1, h2, sameAll, sameFd_eq] at hs
          simp at hs
          simp [hs.1.1.2]
  unfold nulR
  rw [hk, hl, h0]
theorem both_alikeT {S : Nat → Prop} {d : Nat} {a b : FT} {ao bo : Option Addr} {ca cb : Nat} {w : World} (hT : Tab w) (ha : Fld S w d a ao ca) (hb : Fld S w d b bo cb) (hd : d + 1 ≤ big) (hS : ∀ b, S b → b < w.heap.size) :
    ∃ r : Bool, Ans 17 #[.agg #[.int .i64 a.kind, .int .i64 a.width, .int .i64 a.id, .int .i64 a.index, .slice ao a.kids.length ca], .agg #[.int .i64 b.kind, .int .i64 b.width, .int .i64 b.id, .int .i64 b.index, .slice bo b.kids.length cb]] r w ∧ Ans 18 #[.agg #[.int .i64 a.kind, .int .i64 a.width, .int .i64 a.id, .int .i64 a.index, .slice ao a.kids.length ca], .agg #[.int .i64 b.kind, .int .i64 b.width, .int .i64 b.id, .int .i64 b.index, .slice bo b.kids.length cb]] r w := by
  obtain ⟨zA, a1, a2, a3⟩ := both_type hT ha hd hS
  obtain ⟨zB, b1, b2, b3⟩ := both_type hT hb hd hS
  have h17 := alikeT_gen a.kind a.width a.id a.index b.kind b.width b.id b.index ao bo a.kids.length ca b.kids.length cb zA zB _ w a1 b1 (sameTypes_walk a.kind a.width a.id a.index b.kind b.width b.id b.index ao bo a.kids.length ca b.kids.length cb _ w (same_any S d w ao bo ca cb a.kids b.kids ha.row hb.row hS))
  have h18 := alikeTR_gen (nulR a) (nulR b) a.kind a.width a.id a.index b.kind b.width b.id b.index ao bo a.kids.length ca b.kids.length cb zA zB _ w a2 b2
    (fun W g => holder_any S d a ao ca W (ha.gr hS g) (fun c hc => by have := hS c hc; have := g.size; omega)) (fun W g => holder_any S d b bo cb W (hb.gr hS g) (fun c hc => by have := hS c hc; have := g.size; omega))
    (alike_rows (a := holdR a) (b := holdR b) ⟨ha.row, ha.le⟩ ⟨hb.row, hb.le⟩ hS)
  refine ⟨_, h17, ?_⟩
  cases zA with
  | false => simpa using h18
  | true =>
    cases zB with
    | false => simpa using h18
    | true =>
      obtain ⟨e1, A1⟩ := a3 rfl
      obtain ⟨e2, B1⟩ := b3 rfl
      have f1 : holdR a = holdA a := by unfold holdR holdA; rw [e1]
      have f2 : holdR b = holdA b := by unfold holdR holdA; rw [e2]
      rw [← f1] at A1
      rw [← f2] at B1
      rw [allr_cut A1, allr_cut B1, alikeB_false (a := holdR a) (b := holdR b) ha.row.deep hb.row.deep] at h18
      have key : ((holdR a).nul == (holdR b).nul && (tyEq (holdR a) (holdR b) && sameLs d (holdR a).kids (holdR b).kids)) = (tyEq a b && sameLs d a.kids b.kids) := by
        show (nulR a == nulR b && (tyEq a b && sameLs d a.kids b.kids)) = (tyEq a b && sameLs d a.kids b.kids)
        cases ht : tyEq a b with
        | false => simp
        | true =>
          cases hs : sameLs d a.kids b.kids with
          | false => simp
          | true => rw [nulR_same ha.row.deep hb.row.deep ht hs]; simp
      rw [key] at h18
      exact h18
/-- what the table says of a type that may be -/
theorem table_of {f : FT} (h : tableB f = true) : ∃ k : Nat, f.kind = (k : Int) ∧ 1 ≤ k ∧ k ≤ 20 ∧ f.kids.length ≤ 32 ∧ leastK k ≤ (f.kids.length : Int) ∧ (f.kids.length : Int) ≤ mostK k ∧ (k = 19 → ∃ ix : Nat, f.index = (ix : Int) ∧ ix ≤ 10) := by
  simp only [tableB, kindB, Bool.and_eq_true, decide_eq_true_eq] at h
  obtain ⟨⟨h1, h2⟩, ⟨⟨h3, h4⟩, h5⟩, h6⟩ := h
  have hm : ∀ n : Nat, mostK n ≤ 32 := fun n => by unfold mostK; split <;> omega
  refine ⟨f.kind.toNat, by omega, by omega, by omega, by have := hm f.kind.toNat; omega, h3, h4, fun hk => ?_⟩
  have hk19 : f.kind = 19 := by omega
  simp [dictB, hk19, indexB] at h6
  exact ⟨f.index.toNat, by omega, by omega⟩
theorem both_shape {S : Nat → Prop} {d : Nat} {f : FT} {ao : Option Addr} {ca : Nat} {w : World} (hT : Tab w) (h : Fld S w d f ao ca) (hd : d + 1 ≤ big) (hS : ∀ b, S b → b < w.heap.size) :
    ∃ x y z : Int, AnsV 19 #[.agg #[.int .i64 f.kind, .int .i64 f.width, .int .i64 f.id, .int .i64 f.index, .slice ao f.kids.length ca]] (.tuple #[.int .i64 x, .int .i64 y, .int .i64 z]) w ∧ AnsV 20 #[.agg #[.int .i64 f.kind, .int .i64 f.width, .int .i64 f.id, .int .i64 f.index, .slice ao f.kids.length ca]] (.tuple #[.int .i64 x, .int .i64 y, .int .i64 z]) w := by
  obtain ⟨zA, a1, a2, a3⟩ := both_type hT h hd hS
  cases zA with
  | false => exact ⟨-1, -1, -1, shape_false _ _ _ _ _ _ _ w a1, shapeR_false _ _ _ _ _ _ _ w a2⟩
  | true =>
    obtain ⟨k, hk, k1, k20, n32, l1, l2, _⟩ := table_of (show tableB f = true from (a3 rfl).2.table)
    rw [hk] at a1 a2 ⊢
    have h19 := shape_true k f.width f.id f.index ao f.kids.length ca w hT k20 n32 a1
    have h20 := shapeR_true k f.width f.id f.index ao f.kids.length ca w k20 k1 n32 l1 l2 a2
    unfold shapeV at h19 h20
    split at h19
    · rename_i e; rw [if_pos e] at h20; exact ⟨_, _, _, h19, h20⟩
    · rename_i e
      rw [if_neg e] at h20
      split at h19
      · rename_i e2; rw [if_pos e2] at h20; exact ⟨_, _, _, h19, h20⟩
      · rename_i e2; rw [if_neg e2] at h20; exact ⟨_, _, _, h19, h20⟩
theorem both_width {S : Nat → Prop} {d : Nat} {f : FT} {ao : Option Addr} {ca : Nat} {w : World} (hT : Tab w) (h : Fld S w d f ao ca) (hd : d + 1 ≤ big) (hS : ∀ b, S b → b < w.heap.size) :
    ∃ x : Int, AnsV 23 #[.agg #[.int .i64 f.kind, .int .i64 f.width, .int .i64 f.id, .int .i64 f.index, .slice ao f.kids.length ca]] (.int .i64 x) w ∧ AnsV 24 #[.agg #[.int .i64 f.kind, .int .i64 f.width, .int .i64 f.id, .int .i64 f.index, .slice ao f.kids.length ca]] (.int .i64 x) w := by
  obtain ⟨zA, a1, a2, a3⟩ := both_type hT h hd hS
  cases zA with
  | false => exact ⟨0, width_false _ _ _ _ _ _ _ w a1, widthR_false _ _ _ _ _ _ _ w a2⟩
  | true =>
    obtain ⟨k, hk, k1, k20, n32, l1, l2, hix⟩ := table_of (show tableB f = true from (a3 rfl).2.table)
    rw [hk] at a1 a2 ⊢
    by_cases h19 : k = 19
    · obtain ⟨ix, e1, e2⟩ := hix h19
      exact ⟨_, width_true k ix _ _ _ _ _ _ w hT k20 (fun _ => ⟨e1, e2⟩) a1, widthR_true k ix _ _ _ _ _ _ w k20 (fun _ => ⟨e1, e2⟩) a2⟩
    · exact ⟨_, width_true k 0 _ _ _ _ _ _ w hT k20 (fun e => absurd e h19) a1, widthR_true k 0 _ _ _ _ _ _ w k20 (fun e => absurd e h19) a2⟩
theorem both_parts {S : Nat → Prop} {d : Nat} {f : FT} {ao : Option Addr} {ca : Nat} {w : World} (hT : Tab w) (h : Fld S w d f ao ca) (hd : d + 1 ≤ big) (hS : ∀ b, S b → b < w.heap.size) :
    ∃ l : List FT, (∀ W, Gr w W → Calls Tryd.prog 25 #[.agg #[.int .i64 f.kind, .int .i64 f.width, .int .i64 f.id, .int .i64 f.index, .slice ao f.kids.length ca]] W (PartsQ W d l)) ∧ (∀ W, Gr w W → Calls Tryd.prog 26 #[.agg #[.int .i64 f.kind, .int .i64 f.width, .int .i64 f.id, .int .i64 f.index, .slice ao f.kids.length ca]] W (PartsQ W d l)) := by
  obtain ⟨zA, a1, a2, a3⟩ := both_type hT h hd hS
  have hr1 : zA = true → f.kind = 20 → f.kids.length = 1 := fun hz hk => by
    have ht : tableB f = true := (a3 hz).2.table
    simp [tableB, hk, mostK, leastK] at ht
    omega
  exact ⟨_, parts_gen h hS hr1 a1, partsR_gen h hS hr1 a2⟩
theorem both_depth {S : Nat → Prop} {d : Nat} {f : FT} {ao : Option Addr} {ca : Nat} {w : World} (hT : Tab w) (h : Fld S w d f ao ca) (hd : d + 1 ≤ big) (hS : ∀ b, S b → b < w.heap.size) :
    ∃ x : Int, AnsV 21 #[.agg #[.int .i64 f.kind, .int .i64 f.width, .int .i64 f.id, .int .i64 f.index, .slice ao f.kids.length ca]] (.int .i64 x) w ∧ AnsV 22 #[.agg #[.int .i64 f.kind, .int .i64 f.width, .int .i64 f.id, .int .i64 f.index, .slice ao f.kids.length ca]] (.int .i64 x) w := by
  obtain ⟨zA, a1, a2, a3⟩ := both_type hT h hd hS
  cases zA with
  | false => exact ⟨0, depth_false _ _ _ _ _ _ _ w a1, depthR_false _ _ _ _ _ _ _ w a2⟩
  | true =>
    obtain ⟨e1, A1⟩ := a3 rfl
    have f1 : holdR f = holdA f := by unfold holdR holdA; rw [e1]
    rw [← f1] at A1
    have h21 := depth_true S d f.kids f.kind f.width f.id f.index ao f.kids.length ca w rfl h.row h.le (by omega) hS a1
    refine ⟨_, h21, ?_⟩
    rw [← show mostN (nodes (d + 1) [holdR f] [] false) = deepN (nodes d f.kids [] false) from most_deep d (holdR f), ← allr_cut A1]
    refine depthR_true _ (fun W b => b < W.heap.size) (nulR f) f.kind f.width f.id f.index ao f.kids.length ca w (grown_le _ _) (fun x hx => nodesC_path (d + 1) [holdR f] [] false x (by simp) (List.mem_of_mem_take hx)) a2
      (fun W g => holder_any S d f ao ca W (h.gr hS g) (fun c hc => by have := hS c hc; have := g.size; omega)) (fun W r g hr => ?_)
    have hr1 := (row_alone (f := holdR f) hr (h.gr hS g).row h.le).mono (T := fun c => c < W.heap.size) (fun c h => h.elim (fun h => Nat.lt_of_lt_of_le (hS c h) g.size) fun h => by rw [h]; exact lt_of_heap hr)
    refine Calls.mono (grow_any (fun c => c < W.heap.size) (d + 1) W (some ⟨r, 0, none⟩) none none 1 0 0 [holdR f] [] false [] hr1 (by simp) (by simp) (World.ownsRow_nil _ _ _ _) (OutAt.nil _ W) (by simp) (fun b hb => ⟨hb, by simp [Value.ownBlock]⟩)) ?_
    rintro e w' ⟨vo, vc, rfl, hI⟩
    have hg2 : Gr W w' := hI.k.mono fun _ _ h => by simp [Value.ownBlock] at h
    refine ⟨vo, vc, rfl, hg2, hI.at_, fun b hb => ⟨Nat.lt_of_lt_of_le hb hg2.size, fun e => ?_⟩⟩
    rcases hI.own with h | h
    · rw [h] at e; simp [Value.ownBlock] at e
    · have := h b e; omega
end Go.Proofs.YtffmppnlddphaaaDoor.Kit
namespace Go.Proofs.YtffmppnlddphaaaDoor.Kit
open Go.RowKit Go.Shelf Go.Deep
set_option linter.unusedVariables false
attribute [local go_sem] run_store_func

theorem l14 {w W : World} {X : Nat} {a b : FT} {ao bo : Option Addr} {ca cb : Nat} (h : B2t w W X #[.string a.name, .bool a.nul, .int .i64 a.kind, .int .i64 a.width, .int .i64 a.id, .int .i64 a.index, .slice ao a.kids.length ca] #[.string b.name, .bool b.nul, .int .i64 b.kind, .int .i64 b.width, .int .i64 b.id, .int .i64 b.index, .slice bo b.kids.length cb] 37) : Hid (B2t w W X #[.string a.name, .bool a.nul, .int .i64 a.kind, .int .i64 a.width, .int .i64 a.id, .int .i64 a.index, .slice ao a.kids.length ca] #[.string b.name, .bool b.nul, .int .i64 b.kind, .int .i64 b.width, .int .i64 b.id, .int .i64 b.index, .slice bo b.kids.length cb] 37) ∧ W.cell? ⟨X, 0, none⟩ = some (.string a.name) ∧ W.cell? ⟨X, 1, none⟩ = some (.bool a.nul) ∧ W.cell? ⟨X, 2, none⟩ = some (.int .i64 a.kind) ∧ W.cell? ⟨X, 3, none⟩ = some (.int .i64 a.width) ∧ W.cell? ⟨X, 4, none⟩ = some (.int .i64 a.id) ∧ W.cell? ⟨X, 5, none⟩ = some (.int .i64 a.index) ∧ W.cell? ⟨X, 6, none⟩ = some (.slice ao a.kids.length ca) ∧ W.cell? ⟨X + 1, 0, none⟩ = some (.string b.name) ∧ W.cell? ⟨X + 1, 1, none⟩ = some (.bool b.nul) ∧ W.cell? ⟨X + 1, 2, none⟩ = some (.int .i64 b.kind) ∧ W.cell? ⟨X + 1, 3, none⟩ = some (.int .i64 b.width) ∧ W.cell? ⟨X + 1, 4, none⟩ = some (.int .i64 b.id) ∧ W.cell? ⟨X + 1, 5, none⟩ = some (.int .i64 b.index) ∧ W.cell? ⟨X + 1, 6, none⟩ = some (.slice bo b.kids.length cb) := by
  have h0 := h.b0
  have h1 := h.b1
  refine ⟨h, ?_, ?_, ?_, ?_, ?_, ?_, ?_, ?_, ?_, ?_, ?_, ?_, ?_, ?_⟩ <;> simp [World.cell?, h0, h1]
theorem l14_kept {w W : World} {X : Nat} {a b : FT} {ao bo : Option Addr} {ca cb : Nat} {W' : World} (h : Hid (B2t w W X #[.string a.name, .bool a.nul, .int .i64 a.kind, .int .i64 a.width, .int .i64 a.id, .int .i64 a.index, .slice ao a.kids.length ca] #[.string b.name, .bool b.nul, .int .i64 b.kind, .int .i64 b.width, .int .i64 b.id, .int .i64 b.index, .slice bo b.kids.length cb] 37) ∧ W.cell? ⟨X, 0, none⟩ = some (.string a.name) ∧ W.cell? ⟨X, 1, none⟩ = some (.bool a.nul) ∧ W.cell? ⟨X, 2, none⟩ = some (.int .i64 a.kind) ∧ W.cell? ⟨X, 3, none⟩ = some (.int .i64 a.width) ∧ W.cell? ⟨X, 4, none⟩ = some (.int .i64 a.id) ∧ W.cell? ⟨X, 5, none⟩ = some (.int .i64 a.index) ∧ W.cell? ⟨X, 6, none⟩ = some (.slice ao a.kids.length ca) ∧ W.cell? ⟨X + 1, 0, none⟩ = some (.string b.name) ∧ W.cell? ⟨X + 1, 1, none⟩ = some (.bool b.nul) ∧ W.cell? ⟨X + 1, 2, none⟩ = some (.int .i64 b.kind) ∧ W.cell? ⟨X + 1, 3, none⟩ = some (.int .i64 b.width) ∧ W.cell? ⟨X + 1, 4, none⟩ = some (.int .i64 b.id) ∧ W.cell? ⟨X + 1, 5, none⟩ = some (.int .i64 b.index) ∧ W.cell? ⟨X + 1, 6, none⟩ = some (.slice bo b.kids.length cb)) (k : Hid (Gr W W')) : Hid (B2t w W' X #[.string a.name, .bool a.nul, .int .i64 a.kind, .int .i64 a.width, .int .i64 a.id, .int .i64 a.index, .slice ao a.kids.length ca] #[.string b.name, .bool b.nul, .int .i64 b.kind, .int .i64 b.width, .int .i64 b.id, .int .i64 b.index, .slice bo b.kids.length cb] 37) ∧ W'.cell? ⟨X, 0, none⟩ = some (.string a.name) ∧ W'.cell? ⟨X, 1, none⟩ = some (.bool a.nul) ∧ W'.cell? ⟨X, 2, none⟩ = some (.int .i64 a.kind) ∧ W'.cell? ⟨X, 3, none⟩ = some (.int .i64 a.width) ∧ W'.cell? ⟨X, 4, none⟩ = some (.int .i64 a.id) ∧ W'.cell? ⟨X, 5, none⟩ = some (.int .i64 a.index) ∧ W'.cell? ⟨X, 6, none⟩ = some (.slice ao a.kids.length ca) ∧ W'.cell? ⟨X + 1, 0, none⟩ = some (.string b.name) ∧ W'.cell? ⟨X + 1, 1, none⟩ = some (.bool b.nul) ∧ W'.cell? ⟨X + 1, 2, none⟩ = some (.int .i64 b.kind) ∧ W'.cell? ⟨X + 1, 3, none⟩ = some (.int .i64 b.width) ∧ W'.cell? ⟨X + 1, 4, none⟩ = some (.int .i64 b.id) ∧ W'.cell? ⟨X + 1, 5, none⟩ = some (.int .i64 b.index) ∧ W'.cell? ⟨X + 1, 6, none⟩ = some (.slice bo b.kids.length cb) := l14 (h.1.out.gr k.out)
theorem l14_g {w W : World} {X : Nat} {a b : FT} {ao bo : Option Addr} {ca cb : Nat} (h : Hid (B2t w W X #[.string a.name, .bool a.nul, .int .i64 a.kind, .int .i64 a.width, .int .i64 a.id, .int .i64 a.index, .slice ao a.kids.length ca] #[.string b.name, .bool b.nul, .int .i64 b.kind, .int .i64 b.width, .int .i64 b.id, .int .i64 b.index, .slice bo b.kids.length cb] 37) ∧ W.cell? ⟨X, 0, none⟩ = some (.string a.name) ∧ W.cell? ⟨X, 1, none⟩ = some (.bool a.nul) ∧ W.cell? ⟨X, 2, none⟩ = some (.int .i64 a.kind) ∧ W.cell? ⟨X, 3, none⟩ = some (.int .i64 a.width) ∧ W.cell? ⟨X, 4, none⟩ = some (.int .i64 a.id) ∧ W.cell? ⟨X, 5, none⟩ = some (.int .i64 a.index) ∧ W.cell? ⟨X, 6, none⟩ = some (.slice ao a.kids.length ca) ∧ W.cell? ⟨X + 1, 0, none⟩ = some (.string b.name) ∧ W.cell? ⟨X + 1, 1, none⟩ = some (.bool b.nul) ∧ W.cell? ⟨X + 1, 2, none⟩ = some (.int .i64 b.kind) ∧ W.cell? ⟨X + 1, 3, none⟩ = some (.int .i64 b.width) ∧ W.cell? ⟨X + 1, 4, none⟩ = some (.int .i64 b.id) ∧ W.cell? ⟨X + 1, 5, none⟩ = some (.int .i64 b.index) ∧ W.cell? ⟨X + 1, 6, none⟩ = some (.slice bo b.kids.length cb)) : Gr w W := h.1.out.g
theorem l5 {w W : World} {F : Nat} {f : FT} {fo : Option Addr} {fc : Nat} (h : BX w W F #[.string f.name, .bool f.nul, .int .i64 f.kind, .int .i64 f.width, .int .i64 f.id, .int .i64 f.index, .slice fo f.kids.length fc] 37) : Hid (BX w W F #[.string f.name, .bool f.nul, .int .i64 f.kind, .int .i64 f.width, .int .i64 f.id, .int .i64 f.index, .slice fo f.kids.length fc] 37) ∧ W.cell? ⟨F, 2, none⟩ = some (.int .i64 f.kind) ∧ W.cell? ⟨F, 3, none⟩ = some (.int .i64 f.width) ∧ W.cell? ⟨F, 4, none⟩ = some (.int .i64 f.id) ∧ W.cell? ⟨F, 5, none⟩ = some (.int .i64 f.index) ∧ W.cell? ⟨F, 6, none⟩ = some (.slice fo f.kids.length fc) := by
  have h0 := h.b
  refine ⟨h, ?_, ?_, ?_, ?_, ?_⟩ <;> simp [World.cell?, h0]
theorem l5_kept {w W : World} {F : Nat} {f : FT} {fo : Option Addr} {fc : Nat} {W' : World} (h : Hid (BX w W F #[.string f.name, .bool f.nul, .int .i64 f.kind, .int .i64 f.width, .int .i64 f.id, .int .i64 f.index, .slice fo f.kids.length fc] 37) ∧ W.cell? ⟨F, 2, none⟩ = some (.int .i64 f.kind) ∧ W.cell? ⟨F, 3, none⟩ = some (.int .i64 f.width) ∧ W.cell? ⟨F, 4, none⟩ = some (.int .i64 f.id) ∧ W.cell? ⟨F, 5, none⟩ = some (.int .i64 f.index) ∧ W.cell? ⟨F, 6, none⟩ = some (.slice fo f.kids.length fc)) (k : Hid (Gr W W')) : Hid (BX w W' F #[.string f.name, .bool f.nul, .int .i64 f.kind, .int .i64 f.width, .int .i64 f.id, .int .i64 f.index, .slice fo f.kids.length fc] 37) ∧ W'.cell? ⟨F, 2, none⟩ = some (.int .i64 f.kind) ∧ W'.cell? ⟨F, 3, none⟩ = some (.int .i64 f.width) ∧ W'.cell? ⟨F, 4, none⟩ = some (.int .i64 f.id) ∧ W'.cell? ⟨F, 5, none⟩ = some (.int .i64 f.index) ∧ W'.cell? ⟨F, 6, none⟩ = some (.slice fo f.kids.length fc) := l5 (h.1.out.gr k.out)
theorem l5_g {w W : World} {F : Nat} {f : FT} {fo : Option Addr} {fc : Nat} (h : Hid (BX w W F #[.string f.name, .bool f.nul, .int .i64 f.kind, .int .i64 f.width, .int .i64 f.id, .int .i64 f.index, .slice fo f.kids.length fc] 37) ∧ W.cell? ⟨F, 2, none⟩ = some (.int .i64 f.kind) ∧ W.cell? ⟨F, 3, none⟩ = some (.int .i64 f.width) ∧ W.cell? ⟨F, 4, none⟩ = some (.int .i64 f.id) ∧ W.cell? ⟨F, 5, none⟩ = some (.int .i64 f.index) ∧ W.cell? ⟨F, 6, none⟩ = some (.slice fo f.kids.length fc)) : Gr w W := h.1.out.g
/-- one of the two in the row -/
theorem row14 {W : World} {Rb : Nat} {a b : FT} {ao bo : Option Addr} {ca cb : Nat} (h : W.heap[Rb]? = some (.cells #[.string a.name, .bool a.nul, .int .i64 a.kind, .int .i64 a.width, .int .i64 a.id, .int .i64 a.index, .slice ao a.kids.length ca, .string b.name, .bool b.nul, .int .i64 b.kind, .int .i64 b.width, .int .i64 b.id, .int .i64 b.index, .slice bo b.kids.length cb] 37)) : CellsAt W Rb (0 * 7) a ao ca ∧ CellsAt W Rb (1 * 7) b bo cb := by
  refine ⟨⟨?_, ?_, ?_, ?_, ?_, ?_, ?_⟩, ⟨?_, ?_, ?_, ?_, ?_, ?_, ?_⟩⟩ <;> simp [World.cell?, h]

theorem eq_rows1 {A V : World} {d n : Nat} {l : List FT} {vo uo : Option Addr} {vc uc : Nat} (hn : n = l.length) (h1 : RowAt (fun b => b < A.heap.size) A d vo l) (g : Gr A V) (h2 : RowAt (fun b => b < V.heap.size) V d uo l) (l1 : n ≤ vc) (l2 : n ≤ uc) : Ans 27 #[.slice vo n vc, .slice uo n uc] true V := by
  subst hn
  have := eqFields_any (fun b => b < V.heap.size) d V vo uo vc uc l l ((h1.kept fun b hb => g.block b hb id).mono fun b hb => Nat.lt_of_lt_of_le hb g.size) h2 l1 l2 (fun _ h => h)
  rwa [sameLs_refl] at this
theorem eq_rows2 {A V : World} {d n : Nat} {l : List FT} {vo uo : Option Addr} {vc uc : Nat} (hn : n = l.length) (h1 : RowAt (fun b => b < V.heap.size) V d vo l) (g : Gr A V) (h2 : RowAt (fun b => b < A.heap.size) A d uo l) (l1 : n ≤ vc) (l2 : n ≤ uc) : Ans 27 #[.slice vo n vc, .slice uo n uc] true V := by
  subst hn
  have := eqFields_any (fun b => b < V.heap.size) d V vo uo vc uc l l h1 ((h2.kept fun b hb => g.block b hb id).mono fun b hb => Nat.lt_of_lt_of_le hb g.size) l1 l2 (fun _ h => h)
  rwa [sameLs_refl] at this
theorem partsL_len {z : Bool} {f : FT} (h : f.kids.length ≤ big) : (partsL z f).length ≤ big := by
  unfold partsL
  split
  · simp [big]
  · split
    · simp [big]
    · exact h
theorem both_parts' {S : Nat → Prop} {d : Nat} {f : FT} {ao : Option Addr} {ca : Nat} {w : World} (hT : Tab w) (h : Fld S w d f ao ca) (hd : d + 1 ≤ big) (hS : ∀ b, S b → b < w.heap.size) :
    ∃ l : List FT, l.length ≤ big ∧ (∀ W, Gr w W → Calls Tryd.prog 25 #[.agg #[.int .i64 f.kind, .int .i64 f.width, .int .i64 f.id, .int .i64 f.index, .slice ao f.kids.length ca]] W (PartsQ W d l)) ∧ (∀ W, Gr w W → Calls Tryd.prog 26 #[.agg #[.int .i64 f.kind, .int .i64 f.width, .int .i64 f.id, .int .i64 f.index, .slice ao f.kids.length ca]] W (PartsQ W d l)) := by
  obtain ⟨zA, a1, a2, a3⟩ := both_type hT h hd hS
  have hr1 : zA = true → f.kind = 20 → f.kids.length = 1 := fun hz hk => by
    have ht : tableB f = true := (a3 hz).2.table
    simp [tableB, hk, mostK, leastK] at ht
    omega
  exact ⟨_, partsL_len h.row.len, parts_gen h hS hr1 a1, partsR_gen h hS hr1 a2⟩
set_option maxRecDepth 100000 in
set_option maxHeartbeats 8000000 in
theorem likens_any (S : Nat → Prop) (d : Nat) (a b : FT) (ao bo : Option Addr) (ca cb : Nat) (w : World) (hT : Tab w) (hd : d + 1 ≤ big) (hS : ∀ b, S b → b < w.heap.size) (ha : Fld S w d a ao ca) (hb : Fld S w d b bo cb) :
    Calls Tryd.prog 5 #[.agg #[.string a.name, .bool a.nul, .int .i64 a.kind, .int .i64 a.width, .int .i64 a.id, .int .i64 a.index, .slice ao a.kids.length ca], .agg #[.string b.name, .bool b.nul, .int .i64 b.kind, .int .i64 b.width, .int .i64 b.id, .int .i64 b.index, .slice bo b.kids.length cb]] w fun e w' => e = .returned (.bool true) ∧ Gr w w' := by
  have HAW := hidM (fun W (g : Gr w W) => awake_any W (hT.gr g))
  obtain ⟨r1, c15, c16⟩ := both_alikeF hT ha hb hd hS
  obtain ⟨r2, c17, c18⟩ := both_alikeT hT ha hb hd hS
  obtain ⟨r3, d15, d16⟩ := both_alikeF hT hb hb hd hS
  have C15 := hidM c15
  have C16 := hidM c16
  have C17 := hidM c17
  have C18 := hidM c18
  have D15 := hidM d15
  have D16 := hidM d16
  have HTab := hidM hT
  have HS := hidM hS
  have HD := hidM hd
  have HFa := hidM ha
  have HFb := hidM hb
  clear hT hd hS ha hb c15 c16 c17 c18 d15 d16
  unfold Ans at C15 C16 C17 C18 D15 D16
  obtain ⟨W0, hW0⟩ : ∃ W0, (w.alloc (.cells #[.string a.name, .bool a.nul, .int .i64 a.kind, .int .i64 a.width, .int .i64 a.id, .int .i64 a.index, .slice ao a.kids.length ca] 37)).alloc (.cells #[.string b.name, .bool b.nul, .int .i64 b.kind, .int .i64 b.width, .int .i64 b.id, .int .i64 b.index, .slice bo b.kids.length cb] 37) = W0 := ⟨_, rfl⟩
  obtain ⟨X, hX⟩ : ∃ X, X = w.heap.size := ⟨_, rfl⟩
  have HB0 : Hid (B2t w W0 X #[.string a.name, .bool a.nul, .int .i64 a.kind, .int .i64 a.width, .int .i64 a.id, .int .i64 a.index, .slice ao a.kids.length ca] #[.string b.name, .bool b.nul, .int .i64 b.kind, .int .i64 b.width, .int .i64 b.id, .int .i64 b.index, .slice bo b.kids.length cb] 37) := by rw [← hW0, hX]; exact b2t_new w _ _ _
  go_enter Tryd.func5, Tryd.ntmps5
  go_wp2_with (go_at_call 9; refine Hid.out ?_)
  unfold Hid
  try rw [hW0]
  refine Calls.mono (HAW.out _ HB0.out.g) ?_
  rintro e W1 ⟨rfl, hg1⟩
  try rw [← hX]
  have HB1 := hidM (HB0.out.gr hg1)
  clear hg1 HB0 HAW hW0 hX
  go_wp2_with fail
  have HIN : Hid (Hid (B2t w W1.drew X #[.string a.name, .bool a.nul, .int .i64 a.kind, .int .i64 a.width, .int .i64 a.id, .int .i64 a.index, .slice ao a.kids.length ca] #[.string b.name, .bool b.nul, .int .i64 b.kind, .int .i64 b.width, .int .i64 b.id, .int .i64 b.index, .slice bo b.kids.length cb] 37) ∧ W1.drew.cell? ⟨X, 0, none⟩ = some (.string a.name) ∧ W1.drew.cell? ⟨X, 1, none⟩ = some (.bool a.nul) ∧ W1.drew.cell? ⟨X, 2, none⟩ = some (.int .i64 a.kind) ∧ W1.drew.cell? ⟨X, 3, none⟩ = some (.int .i64 a.width) ∧ W1.drew.cell? ⟨X, 4, none⟩ = some (.int .i64 a.id) ∧ W1.drew.cell? ⟨X, 5, none⟩ = some (.int .i64 a.index) ∧ W1.drew.cell? ⟨X, 6, none⟩ = some (.slice ao a.kids.length ca) ∧ W1.drew.cell? ⟨X + 1, 0, none⟩ = some (.string b.name) ∧ W1.drew.cell? ⟨X + 1, 1, none⟩ = some (.bool b.nul) ∧ W1.drew.cell? ⟨X + 1, 2, none⟩ = some (.int .i64 b.kind) ∧ W1.drew.cell? ⟨X + 1, 3, none⟩ = some (.int .i64 b.width) ∧ W1.drew.cell? ⟨X + 1, 4, none⟩ = some (.int .i64 b.id) ∧ W1.drew.cell? ⟨X + 1, 5, none⟩ = some (.int .i64 b.index) ∧ W1.drew.cell? ⟨X + 1, 6, none⟩ = some (.slice bo b.kids.length cb)) := l14 (HB1.out.gr gr_drew)
  go_region_held3 (fun w' => Hid (B2t w w' X #[.string a.name, .bool a.nul, .int .i64 a.kind, .int .i64 a.width, .int .i64 a.id, .int .i64 a.index, .slice ao a.kids.length ca] #[.string b.name, .bool b.nul, .int .i64 b.kind, .int .i64 b.width, .int .i64 b.id, .int .i64 b.index, .slice bo b.kids.length cb] 37) ∧ w'.cell? ⟨X, 0, none⟩ = some (.string a.name) ∧ w'.cell? ⟨X, 1, none⟩ = some (.bool a.nul) ∧ w'.cell? ⟨X, 2, none⟩ = some (.int .i64 a.kind) ∧ w'.cell? ⟨X, 3, none⟩ = some (.int .i64 a.width) ∧ w'.cell? ⟨X, 4, none⟩ = some (.int .i64 a.id) ∧ w'.cell? ⟨X, 5, none⟩ = some (.int .i64 a.index) ∧ w'.cell? ⟨X, 6, none⟩ = some (.slice ao a.kids.length ca) ∧ w'.cell? ⟨X + 1, 0, none⟩ = some (.string b.name) ∧ w'.cell? ⟨X + 1, 1, none⟩ = some (.bool b.nul) ∧ w'.cell? ⟨X + 1, 2, none⟩ = some (.int .i64 b.kind) ∧ w'.cell? ⟨X + 1, 3, none⟩ = some (.int .i64 b.width) ∧ w'.cell? ⟨X + 1, 4, none⟩ = some (.int .i64 b.id) ∧ w'.cell? ⟨X + 1, 5, none⟩ = some (.int .i64 b.index) ∧ w'.cell? ⟨X + 1, 6, none⟩ = some (.slice bo b.kids.length cb)) (first | with_reducible exact HIN.out | with_reducible assumption | with_reducible exact l14_kept (by assumption) hk6 | with_reducible exact l14_kept (by assumption) hk5 | with_reducible exact l14_kept (by assumption) hk4 | with_reducible exact l14_kept (by assumption) hk3 | with_reducible exact l14_kept (by assumption) hk2 | with_reducible exact l14_kept (by assumption) hk1)
    (first
      | (go_at_call 15; (with_reducible show Calls _ _ #[.agg #[.string a.name, .bool a.nul, .int .i64 a.kind, .int .i64 a.width, .int .i64 a.id, .int .i64 a.index, .slice ao a.kids.length ca], .agg #[.string b.name, .bool b.nul, .int .i64 b.kind, .int .i64 b.width, .int .i64 b.id, .int .i64 b.index, .slice bo b.kids.length cb]] _ _); refine Calls.mono (C15.out _ (l14_g (by assumption))) ?_; rintro e v1 ⟨rfl, hk1⟩; replace hk1 := hidM hk1)
      | (go_at_call 16; (with_reducible show Calls _ _ #[.agg #[.string a.name, .bool a.nul, .int .i64 a.kind, .int .i64 a.width, .int .i64 a.id, .int .i64 a.index, .slice ao a.kids.length ca], .agg #[.string b.name, .bool b.nul, .int .i64 b.kind, .int .i64 b.width, .int .i64 b.id, .int .i64 b.index, .slice bo b.kids.length cb]] _ _); refine Calls.mono (C16.out _ (l14_g (by assumption))) ?_; rintro e v2 ⟨rfl, hk2⟩; replace hk2 := hidM hk2)
      | (go_at_call 17; (with_reducible show Calls _ _ #[.agg #[.int .i64 a.kind, .int .i64 a.width, .int .i64 a.id, .int .i64 a.index, .slice ao a.kids.length ca], .agg #[.int .i64 b.kind, .int .i64 b.width, .int .i64 b.id, .int .i64 b.index, .slice bo b.kids.length cb]] _ _); refine Calls.mono (C17.out _ (l14_g (by assumption))) ?_; rintro e v3 ⟨rfl, hk3⟩; replace hk3 := hidM hk3)
      | (go_at_call 18; (with_reducible show Calls _ _ #[.agg #[.int .i64 a.kind, .int .i64 a.width, .int .i64 a.id, .int .i64 a.index, .slice ao a.kids.length ca], .agg #[.int .i64 b.kind, .int .i64 b.width, .int .i64 b.id, .int .i64 b.index, .slice bo b.kids.length cb]] _ _); refine Calls.mono (C18.out _ (l14_g (by assumption))) ?_; rintro e v4 ⟨rfl, hk4⟩; replace hk4 := hidM hk4)
      | (go_at_call 15; (with_reducible show Calls _ _ #[.agg #[.string b.name, .bool b.nul, .int .i64 b.kind, .int .i64 b.width, .int .i64 b.id, .int .i64 b.index, .slice bo b.kids.length cb], .agg #[.string b.name, .bool b.nul, .int .i64 b.kind, .int .i64 b.width, .int .i64 b.id, .int .i64 b.index, .slice bo b.kids.length cb]] _ _); refine Calls.mono (D15.out _ (l14_g (by assumption))) ?_; rintro e v5 ⟨rfl, hk5⟩; replace hk5 := hidM hk5)
      | (go_at_call 16; (with_reducible show Calls _ _ #[.agg #[.string b.name, .bool b.nul, .int .i64 b.kind, .int .i64 b.width, .int .i64 b.id, .int .i64 b.index, .slice bo b.kids.length cb], .agg #[.string b.name, .bool b.nul, .int .i64 b.kind, .int .i64 b.width, .int .i64 b.id, .int .i64 b.index, .slice bo b.kids.length cb]] _ _); refine Calls.mono (D16.out _ (l14_g (by assumption))) ?_; rintro e v6 ⟨rfl, hk6⟩; replace hk6 := hidM hk6))
  rename_i hHeld
  have HB2 := hidM hHeld.1.out
  clear hHeld hk1 hk2 hk3 hk4 hk5 hk6 HIN HB1 C15 C16 C17 C18 D15 D16
  obtain ⟨-, a0, a1, a2, a3, a4, a5, a6, b0, b1, b2, b3, b4, b5, b6⟩ := l14 HB2.out
  have HG2 := hidM HB2.out.g
  have HRb := hidM (World.alloc_heap_new v6 (.cells #[.string a.name, .bool a.nul, .int .i64 a.kind, .int .i64 a.width, .int .i64 a.id, .int .i64 a.index, .slice ao a.kids.length ca, .string b.name, .bool b.nul, .int .i64 b.kind, .int .i64 b.width, .int .i64 b.id, .int .i64 b.index, .slice bo b.kids.length cb] 37))
  clear HB2
  go_wp2
  obtain ⟨Rb, hRb⟩ : ∃ Rb, Rb = v6.heap.size := ⟨_, rfl⟩
  rw [← hRb] at HRb ⊢
  have HG3 := hidM (HG2.out.alloc (.cells #[.string a.name, .bool a.nul, .int .i64 a.kind, .int .i64 a.width, .int .i64 a.id, .int .i64 a.index, .slice ao a.kids.length ca, .string b.name, .bool b.nul, .int .i64 b.kind, .int .i64 b.width, .int .i64 b.id, .int .i64 b.index, .slice bo b.kids.length cb] 37))
  generalize v6.alloc (.cells #[.string a.name, .bool a.nul, .int .i64 a.kind, .int .i64 a.width, .int .i64 a.id, .int .i64 a.index, .slice ao a.kids.length ca, .string b.name, .bool b.nul, .int .i64 b.kind, .int .i64 b.width, .int .i64 b.id, .int .i64 b.index, .slice bo b.kids.length cb] 37) = W3 at *
  clear a0 a1 a2 a3 a4 a5 a6 b0 b1 b2 b3 b4 b5 b6 hRb HG2
  go_loopw [50] (fun p wr => ∃ j : Nat, j ≤ 2 ∧ p = .int .i64 (j : Int) ∧ Hid (Gr w wr ∧ wr.heap[Rb]? = some (.cells #[.string a.name, .bool a.nul, .int .i64 a.kind, .int .i64 a.width, .int .i64 a.id, .int .i64 a.index, .slice ao a.kids.length ca, .string b.name, .bool b.nul, .int .i64 b.kind, .int .i64 b.width, .int .i64 b.id, .int .i64 b.index, .slice bo b.kids.length cb] 37))) (fun p _ => 2 - (intOf p).toNat)
  case atStart => exact ⟨0, by omega, rfl, HG3.out, HRb.out⟩
  case round =>
    clear HG3 HRb
    obtain ⟨j, hj, rfl, HJ⟩ := hrel
    by_cases hlt : j < 2
    · obtain ⟨f, fo, fc, hF, hC⟩ : ∃ f fo fc, Fld S w d f fo fc ∧ CellsAt wr Rb (j * 7) f fo fc := by
        have h14 := row14 HJ.out.2
        have hj01 : j = 0 ∨ j = 1 := by omega
        rcases hj01 with rfl | rfl
        · exact ⟨a, ao, ca, HFa.out, h14.1⟩
        · exact ⟨b, bo, cb, HFb.out, h14.2⟩
      obtain ⟨s1, s2, s3, c19, c20⟩ := both_shape HTab.out hF HD.out HS.out
      obtain ⟨dp, c21, c22⟩ := both_depth HTab.out hF HD.out HS.out
      obtain ⟨wi, c23, c24⟩ := both_width HTab.out hF HD.out HS.out
      obtain ⟨pl, hpln, c25, c26⟩ := both_parts' HTab.out hF HD.out HS.out
      have HPL := hidM hpln
      clear hpln
      have tr : ∀ {W : World}, Gr wr W → Gr w W := fun g => HJ.out.1.trans g (fun _ _ h => h)
      have C19 := hidM fun W (g : Gr wr W) => c19 W (tr g)
      have C20 := hidM fun W (g : Gr wr W) => c20 W (tr g)
      have C21 := hidM fun W (g : Gr wr W) => c21 W (tr g)
      have C22 := hidM fun W (g : Gr wr W) => c22 W (tr g)
      have C23 := hidM fun W (g : Gr wr W) => c23 W (tr g)
      have C24 := hidM fun W (g : Gr wr W) => c24 W (tr g)
      have C25 := hidM fun W (g : Gr wr W) => c25 W (tr g)
      have C26 := hidM fun W (g : Gr wr W) => c26 W (tr g)
      unfold PartsQ at C25 C26
      obtain ⟨t0, t1, t2, t3, t4, t5, t6⟩ := hC
      have hltI : (j : Int) < 2 := by omega
      obtain ⟨w4, hw4⟩ : ∃ w4, wr.alloc (.cells #[.string f.name, .bool f.nul, .int .i64 f.kind, .int .i64 f.width, .int .i64 f.id, .int .i64 f.index, .slice fo f.kids.length fc] 37) = w4 := ⟨_, rfl⟩
      obtain ⟨F, hFe⟩ : ∃ F, F = wr.heap.size := ⟨_, rfl⟩
      have hBX : BX wr w4 F #[.string f.name, .bool f.nul, .int .i64 f.kind, .int .i64 f.width, .int .i64 f.id, .int .i64 f.index, .slice fo f.kids.length fc] 37 := by rw [← hw4, hFe]; exact ⟨gr_alloc wr _, World.alloc_heap_new wr _⟩
      have HBX := hidM hBX
      obtain ⟨-, f2, f3, f4, f5, f6⟩ := l5 hBX
      have HFl := hidM hF
      clear c19 c20 c21 c22 c23 c24 c25 c26 hBX hF tr
      rw [hFe] at f2 f3 f4 f5 f6
      go_wp2_with (go_at_call 19; refine Hid.out ?_)
      unfold Hid
      try rw [hw4]
      refine Calls.mono (C19.out _ HBX.out.g) ?_
      rintro e w5 ⟨rfl, hg5⟩
      rw [← hFe]
      have HBX5 := hidM (HBX.out.gr hg5)
      clear hg5 HBX f2 f3 f4 f5 f6 t0 t1 t2 t3 t4 t5 t6 hw4 hFe C19
      obtain ⟨-, f2, f3, f4, f5, f6⟩ := l5 HBX5.out
      go_wp2_with (go_at_call 20; refine Hid.out ?_)
      unfold Hid
      refine Calls.mono (C20.out _ HBX5.out.g) ?_
      rintro e w6 ⟨rfl, hg6⟩
      have HBX6 := hidM (HBX5.out.gr hg6)
      clear hg6 HBX5 f2 f3 f4 f5 f6 C20
      go_wp2_with fail
      have HIN : Hid (Hid (BX wr w6.drew F #[.string f.name, .bool f.nul, .int .i64 f.kind, .int .i64 f.width, .int .i64 f.id, .int .i64 f.index, .slice fo f.kids.length fc] 37) ∧ w6.drew.cell? ⟨F, 2, none⟩ = some (.int .i64 f.kind) ∧ w6.drew.cell? ⟨F, 3, none⟩ = some (.int .i64 f.width) ∧ w6.drew.cell? ⟨F, 4, none⟩ = some (.int .i64 f.id) ∧ w6.drew.cell? ⟨F, 5, none⟩ = some (.int .i64 f.index) ∧ w6.drew.cell? ⟨F, 6, none⟩ = some (.slice fo f.kids.length fc)) := l5 (HBX6.out.gr gr_drew)
      go_region_held3 (fun w' => Hid (BX wr w' F #[.string f.name, .bool f.nul, .int .i64 f.kind, .int .i64 f.width, .int .i64 f.id, .int .i64 f.index, .slice fo f.kids.length fc] 37) ∧ w'.cell? ⟨F, 2, none⟩ = some (.int .i64 f.kind) ∧ w'.cell? ⟨F, 3, none⟩ = some (.int .i64 f.width) ∧ w'.cell? ⟨F, 4, none⟩ = some (.int .i64 f.id) ∧ w'.cell? ⟨F, 5, none⟩ = some (.int .i64 f.index) ∧ w'.cell? ⟨F, 6, none⟩ = some (.slice fo f.kids.length fc)) (first | with_reducible exact HIN.out | with_reducible assumption | with_reducible exact l5_kept (by assumption) hk4 | with_reducible exact l5_kept (by assumption) hk3 | with_reducible exact l5_kept (by assumption) hk2 | with_reducible exact l5_kept (by assumption) hk1)
          (first
            | (go_at_call 21; refine Calls.mono (C21.out _ (l5_g (by assumption))) ?_; rintro e v1 ⟨rfl, hk1⟩; replace hk1 := hidM hk1)
            | (go_at_call 22; refine Calls.mono (C22.out _ (l5_g (by assumption))) ?_; rintro e v2 ⟨rfl, hk2⟩; replace hk2 := hidM hk2)
            | (go_at_call 23; refine Calls.mono (C23.out _ (l5_g (by assumption))) ?_; rintro e v3 ⟨rfl, hk3⟩; replace hk3 := hidM hk3)
            | (go_at_call 24; refine Calls.mono (C24.out _ (l5_g (by assumption))) ?_; rintro e v4 ⟨rfl, hk4⟩; replace hk4 := hidM hk4))
      rename_i hHeld
      have HBX7 := hidM hHeld.1.out
      clear hHeld hk1 hk2 hk3 hk4 HIN HBX6 C21 C22 C23 C24
      go_wp2_with fail
      have HIN : Hid (Hid (BX wr v4.drew F #[.string f.name, .bool f.nul, .int .i64 f.kind, .int .i64 f.width, .int .i64 f.id, .int .i64 f.index, .slice fo f.kids.length fc] 37) ∧ v4.drew.cell? ⟨F, 2, none⟩ = some (.int .i64 f.kind) ∧ v4.drew.cell? ⟨F, 3, none⟩ = some (.int .i64 f.width) ∧ v4.drew.cell? ⟨F, 4, none⟩ = some (.int .i64 f.id) ∧ v4.drew.cell? ⟨F, 5, none⟩ = some (.int .i64 f.index) ∧ v4.drew.cell? ⟨F, 6, none⟩ = some (.slice fo f.kids.length fc)) := l5 (HBX7.out.gr gr_drew)
      have hpl : pl.length ≤ 1000000000000 := HPL.out
      obtain ⟨n, hn⟩ : ∃ n, n = pl.length := ⟨_, rfl⟩
      rw [← hn] at hpl C25 C26
      have Hn := hidM hn
      clear hn
      go_region_held3 (fun w' => Hid (BX wr w' F #[.string f.name, .bool f.nul, .int .i64 f.kind, .int .i64 f.width, .int .i64 f.id, .int .i64 f.index, .slice fo f.kids.length fc] 37) ∧ w'.cell? ⟨F, 2, none⟩ = some (.int .i64 f.kind) ∧ w'.cell? ⟨F, 3, none⟩ = some (.int .i64 f.width) ∧ w'.cell? ⟨F, 4, none⟩ = some (.int .i64 f.id) ∧ w'.cell? ⟨F, 5, none⟩ = some (.int .i64 f.index) ∧ w'.cell? ⟨F, 6, none⟩ = some (.slice fo f.kids.length fc)) (first | with_reducible exact HIN.out | with_reducible assumption | with_reducible exact l5_kept (by assumption) hk2 | with_reducible exact l5_kept (by assumption) hk1)
          (first
            | (go_at_call 25; refine Calls.mono (C25.out _ (l5_g (by assumption))) ?_; rintro e z1 ⟨vo1, vc1, rfl, hk1, hle1, hrow1⟩; replace hk1 := hidM hk1; replace hle1 := hidM hle1; replace hrow1 := hidM hrow1)
            | (go_at_call 26; refine Calls.mono (C26.out _ (l5_g (by assumption))) ?_; rintro e z2 ⟨vo2, vc2, rfl, hk2, hle2, hrow2⟩; replace hk2 := hidM hk2; replace hle2 := hidM hle2; replace hrow2 := hidM hrow2))
      all_goals
        rename_i hHeld
        have HB8 := hidM hHeld.1.out
        have HEq := hidM (by first | exact eq_rows1 Hn.out hrow1.out hk2.out hrow2.out hle1.out hle2.out | exact eq_rows2 Hn.out hrow1.out hk1.out hrow2.out hle1.out hle2.out)
        unfold Ans at HEq
        have HRbk := hidM (And.intro (HJ.out.1.trans HB8.out.g (fun _ _ h => h)) ((HB8.out.g.block _ (lt_of_heap HJ.out.2) id).trans HJ.out.2))
        clear hHeld hk1 hk2 hle1 hle2 hrow1 hrow2 HIN HBX7 HB8 C25 C26 HJ
        by_cases hn0 : n = 0
        · subst hn0
          go_wp2
          go_roundw
          case rel => exact ⟨j + 1, by omega, by simp, HRbk.out⟩
          case measure => simp [intOf]; omega
        · have hn0I : (0 : Int) < (n : Int) := by omega
          go_wp2_with (go_at_call 27; refine Hid.out ?_)
          unfold Hid
          refine Calls.mono (HEq.out _ (Keeps.refl _ _)) ?_
          rintro e w9 ⟨rfl, hg9⟩
          have HE := hidM (And.intro (HRbk.out.1.trans hg9 (fun _ _ h => h)) ((hg9.block _ (lt_of_heap HRbk.out.2) id).trans HRbk.out.2))
          clear hg9 HEq HRbk
          go_wp2_with fail
          go_roundw
          case rel => exact ⟨j + 1, by omega, by simp, HE.out⟩
          case measure => simp [intOf]; omega
    · have hj2 : j = 2 := by omega
      subst hj2
      have HE := hidM HJ.out.1
      go_wp2
      go_ret
      exact ⟨rfl, HE.out⟩
end Go.Proofs.YtffmppnlddphaaaDoor.Kit
namespace Go.Proofs.YtffmppnlddphaaaDoor.kindR
open Go.ChangeShapes Go.WideShapes Go.ChangeAt Go.RowKit Go.Deep
open Go.Proofs.YtffmppnlddphaaaDoor
set_option linter.unusedVariables false
/-- one field, read -/
theorem fld_at {H : Type} {enc : TypeId × Value → H} {W : World} {fuel : Nat} {cs : List Value} {d : DataW H} {p : List MemPlace} (hl : cs.length = 7)
    (h : DataW.trod enc Tryd.prog W 0 (fun _ => true) true fuel 37 cs = some (d, p)) (hb : Rows.uptoBulk d ≤ 1048576) :
    ∃ (f : Kit.FT) (fo : Option Addr) (fc : Nat), cs = [.string f.name, .bool f.nul, .int .i64 f.kind, .int .i64 f.width, .int .i64 f.id, .int .i64 f.index, .slice fo f.kids.length fc] ∧ Kit.Fld (fun b => b < W.heap.size) W 1048576 f fo fc := by
  obtain ⟨nm, nu, k0, k1, k2, k3, v, n, dk, pk, rfl, hk, hbk⟩ := field_at hl h
  obtain ⟨ao, l, ca, rfl, h1, h2⟩ := fields_at 1048576 (Nat.le_refl _) hk (by omega)
  exact ⟨⟨nm, nu, k0, k1, k2, k3, l⟩, ao, ca, rfl, h2, h1⟩
end Go.Proofs.YtffmppnlddphaaaDoor.kindR
