import Derived.Test.YteggcdhibcjneaaGreatDoorBP
set_option maxRecDepth 100000
set_option maxHeartbeats 4000000
namespace Go.Proofs.YteggcdhibcjneaaGreatDoor.Kit
variable {nx : Bool}
open Go.RowKit Go.Shelf Go.Deep
open Go.Proofs.YteggcdhibcjneaaGreatDoor.Kd (Ans AnsV cell5 cell2)
set_option linter.unusedVariables false
set_option linter.unusedSimpArgs false

theorem cell6 {W : World} {B t : Nat} {x0 x1 x2 x3 x4 x5 : Value} (h : W.heap[B]? = some (.cells #[x0, x1, x2, x3, x4, x5] t)) : W.cell? ⟨B, 0, none⟩ = some x0 ∧ W.cell? ⟨B, 1, none⟩ = some x1 ∧ W.cell? ⟨B, 2, none⟩ = some x2 ∧ W.cell? ⟨B, 3, none⟩ = some x3 ∧ W.cell? ⟨B, 4, none⟩ = some x4 ∧ W.cell? ⟨B, 5, none⟩ = some x5 := by simp [World.cell?, h]
theorem rows59 (n m t : Nat) (nu : Bool) (wt : Int) (vo : Option Addr) (L vc : Nat) (W : World) (h : W.heap[n]? = some (.cells #[.bool nu, .iface 308 (.pointer (some ⟨m, 0, none⟩)), .pointer (some ⟨t, 0, none⟩), .int .i64 0, .slice vo L vc, .int .i64 wt] 264)) : Calls Tryz.prog 175 #[.pointer (some ⟨n, 0, none⟩)] W fun e w' => e = .returned (.int .i64 L) ∧ W = w' := by
  obtain ⟨c0, c1, c2, c3, c4, c5⟩ := cell6 h
  go_enter Tryz.func175, Tryz.ntmps175
  go_wp2
  go_ret
  exact ⟨rfl, rfl⟩
theorem enter61 (n m t : Nat) (nu : Bool) (wt : Int) (vo : Option Addr) (L vc : Nat) (W : World) (h : W.heap[n]? = some (.cells #[.bool nu, .iface 308 (.pointer (some ⟨m, 0, none⟩)), .pointer (some ⟨t, 0, none⟩), .int .i64 0, .slice vo L vc, .int .i64 wt] 264)) (h2 : W.heap[t]? = some (.cells #[.int .i64 0, .slice none 0 0] 216)) : Calls Tryz.prog 177 #[.pointer (some ⟨t, 0, none⟩), .pointer (some ⟨n, 0, none⟩)] W fun e w' => e = .returned (.tuple #[]) ∧ Gr W w' := by
  obtain ⟨c0, c1, c2, c3, c4, c5⟩ := cell6 h
  obtain ⟨t0, t1⟩ := cell2 h2
  go_enter Tryz.func177, Tryz.ntmps177
  go_wp2
  go_region
  go_wp2
  refine bodyPost_ret (results_none rfl _ _ _) rfl ⟨rfl, gr_drew⟩
theorem Push.gr {W W1 w' : World} {m j t e : Nat} {c : Array Value} {lo : Option Addr} {L lc : Nat} {xs : List Value} {y : Value} {uo : Option Addr} {uc : Nat} (g : Gr W W1) (h : Push W1 w' m j t e c lo L lc xs y uo uc) : Push W w' m j t e c lo L lc xs y uo uc :=
  ⟨h.box, h.own, (g.mono (fun _ _ h => h.elim)).trans h.kp (fun _ _ h => h), h.blk.imp id (fun h g' e => Nat.le_trans g.size (h g' e))⟩
/-- a block of another type stays -/
theorem Push.oth {W w' : World} {m j t e : Nat} {c : Array Value} {lo : Option Addr} {L lc : Nat} {xs : List Value} {y : Value} {uo : Option Addr} {uc : Nat} (h : Push W w' m j t e c lo L lc xs y uo uc) (hm : W.heap[m]? = some (.cells c t)) (ho : W.ownsRow 0 e 1 (.slice lo L lc) L xs) {b t2 : Nat} {d : Array Value} (hb : W.heap[b]? = some (.cells d t2)) (h1 : t2 ≠ t) (h2 : t2 ≠ e) : w'.heap[b]? = some (.cells d t2) :=
  (h.kp.block b (lt_of_heap hb) (fun q => by
    rcases q with rfl | q
    · rw [hb] at hm; simp at hm; exact h1 hm.2
    · exact own_ne hb ho h2 q)).trans hb
theorem cell4 {W : World} {B t : Nat} {x0 x1 x2 x3 : Value} (h : W.heap[B]? = some (.cells #[x0, x1, x2, x3] t)) : W.cell? ⟨B, 0, none⟩ = some x0 ∧ W.cell? ⟨B, 1, none⟩ = some x1 ∧ W.cell? ⟨B, 2, none⟩ = some x2 ∧ W.cell? ⟨B, 3, none⟩ = some x3 := by simp [World.cell?, h]
theorem method_lay (m : Nat) (w : World) : (method 554 308 (.pointer (some ⟨m, 0, none⟩)) "colonnade/build.lay").run Tryz.prog w = .ok (374, .pointer (some ⟨m, 0, none⟩)) w := by kernel_rfl
theorem take43 (n m t : Nat) (nu : Bool) (wt : Int) (vo : Option Addr) (L vc : Nat) (vn : Bool) (x : Int) (xo : Option Addr) (xc : Nat) (lo : Option Addr) (M lc : Nat) (xs : List Value) (bn bv : Nat) (W : World) (h : W.heap[n]? = some (.cells #[.bool nu, .iface 308 (.pointer (some ⟨m, 0, none⟩)), .pointer (some ⟨t, 0, none⟩), .int .i64 0, .slice vo L vc, .int .i64 wt] 264)) (hbn : W.heap[bn]? = some (.cells #[.pointer (some ⟨n, 0, none⟩)] 217)) (hbv : W.heap[bv]? = some (.cells #[.bool vn, .int .i64 x, .string ⟨#[]⟩, .slice xo 0 xc] 86)) (hm : W.heap[m]? = some (.cells #[.int .i64 1, .slice lo M lc] 329)) (ho : W.ownsRow 0 2 1 (.slice lo M lc) M xs) (hL : M ≤ 5000) :
    Calls Tryz.prog 164 #[.pointer (some ⟨bn, 0, none⟩), .pointer (some ⟨bv, 0, none⟩)] W fun e w' => ∃ uo uc, e = .returned (.int .i64 16) ∧ Push W w' m 1 329 2 #[.int .i64 1, .slice lo M lc] lo M lc xs (.int .i64 x) uo uc := by
  have hS : ∀ u : World, u.heap[n]? = some (.cells #[.bool nu, .iface 308 (.pointer (some ⟨m, 0, none⟩)), .pointer (some ⟨t, 0, none⟩), .int .i64 0, .slice vo L vc, .int .i64 wt] 264) → u.heap[bn]? = some (.cells #[.pointer (some ⟨n, 0, none⟩)] 217) → u.heap[bv]? = some (.cells #[.bool vn, .int .i64 x, .string ⟨#[]⟩, .slice xo 0 xc] 86) → u.cell? ⟨bn, 0, none⟩ = some (.pointer (some ⟨n, 0, none⟩)) ∧ u.cell? ⟨n, 1, none⟩ = some (.iface 308 (.pointer (some ⟨m, 0, none⟩))) ∧ u.cell? ⟨bv, 0, none⟩ = some (.bool vn) ∧ u.cell? ⟨bv, 1, none⟩ = some (.int .i64 x) ∧ u.cell? ⟨bv, 2, none⟩ = some (.string ⟨#[]⟩) ∧ u.cell? ⟨bv, 3, none⟩ = some (.slice xo 0 xc) := fun u a1 a2 a3 => by
    obtain ⟨-, n1, -⟩ := cell6 a1
    obtain ⟨q0, q1, q2, q3⟩ := cell4 a3
    exact ⟨by simp [World.cell?, a2], n1, q0, q1, q2, q3⟩
  have HS := hidM hS
  have HS0 := hidM (hS W.drew h hbn hbv)
  have HL := hidM (lay261 m vn x xo xc lo M lc xs W.drew hm ho hL)
  have HP : Hid (∀ (w' : World) uo uc, Push W.drew w' m 1 329 2 #[.int .i64 1, .slice lo M lc] lo M lc xs (.int .i64 x) uo uc → w'.heap[n]? = some (.cells #[.bool nu, .iface 308 (.pointer (some ⟨m, 0, none⟩)), .pointer (some ⟨t, 0, none⟩), .int .i64 0, .slice vo L vc, .int .i64 wt] 264) ∧ w'.heap[bn]? = some (.cells #[.pointer (some ⟨n, 0, none⟩)] 217) ∧ w'.heap[bv]? = some (.cells #[.bool vn, .int .i64 x, .string ⟨#[]⟩, .slice xo 0 xc] 86)) := fun w' uo uc hp => ⟨hp.oth (W := W.drew) hm ho h (by decide) (by decide), hp.oth (W := W.drew) hm ho hbn (by decide) (by decide), hp.oth (W := W.drew) hm ho hbv (by decide) (by decide)⟩
  clear hS h hbn hbv hm ho
  have hmeth := method_lay m
  go_enter Tryz.func164, Tryz.ntmps164
  go_wp2_with fail
  go_region_held3 (fun w' => w'.cell? ⟨bn, 0, none⟩ = some (.pointer (some ⟨n, 0, none⟩)) ∧ w'.cell? ⟨n, 1, none⟩ = some (.iface 308 (.pointer (some ⟨m, 0, none⟩))) ∧ w'.cell? ⟨bv, 0, none⟩ = some (.bool vn) ∧ w'.cell? ⟨bv, 1, none⟩ = some (.int .i64 x) ∧ w'.cell? ⟨bv, 2, none⟩ = some (.string ⟨#[]⟩) ∧ w'.cell? ⟨bv, 3, none⟩ = some (.slice xo 0 xc)) (first | with_reducible exact HS0.out | with_reducible exact HS1.out) ((go_at_call 374; refine HL.out.mono ?_; rintro e w1 ⟨uo, uc, rfl, hp⟩; have HPS := hidM hp; obtain ⟨a1, a2, a3⟩ := HP.out w1 uo uc hp; have HS1 := hidM (HS.out w1 a1 a2 a3); clear hp a1 a2 a3))
  go_wp2_with fail
  go_ret
  exact ⟨uo, uc, rfl, HPS.out.gr gr_drew⟩
theorem info4 : (Tryz.prog.info? 4).map (fun i => (i.zero, i.size, i.bytes)) = some (some (.bool false), 1, 1) := by kernel_rfl
/-- blocks of the rows in the making -/
def IsN (B : Nat) (w : World) (k : Nat) : Prop := B ≤ k ∧ ∃ cs ty fz, w.heap[k]? = some (.cells cs ty fz) ∧ (ty = 264 ∨ ty = 329 ∨ ty = 4 ∨ ty = 2)
def FrN (B : Nat) (w W : World) : Prop := Keeps w W (IsN B w)
theorem Gr.frN {B : Nat} {w W : World} (g : Gr w W) : FrN B w W := g.mono (fun _ _ h => h.elim)
theorem FrN.trans {B : Nat} {u v w : World} (h : FrN B u v) (g : FrN B v w) : FrN B u w := by
  refine Keeps.trans h g (fun k hk ⟨hl, cs, ty, fz, e, ht⟩ => ?_)
  by_cases hi : IsN B u k
  · exact hi
  · exact ⟨hl, cs, ty, fz, (h.block k hk hi) ▸ e, ht⟩
theorem FrN.oth {B : Nat} {w W : World} (h : FrN B w W) {b ty : Nat} {c : Array Value} (hb : w.heap[b]? = some (.cells c ty)) (h1 : ty ≠ 264) (h2 : ty ≠ 329) (h3 : ty ≠ 4) (h4 : ty ≠ 2) : W.heap[b]? = some (.cells c ty) := by
  refine (h.block b (lt_of_heap hb) (fun q => ?_)).trans hb
  obtain ⟨-, cs, ty', fz, e, ht⟩ := q
  rw [hb] at e
  cases e
  rcases ht with e | e | e | e
  · exact h1 e
  · exact h2 e
  · exact h3 e
  · exact h4 e
theorem FrN.low {B : Nat} {w W : World} (h : FrN B w W) {a : World} (g : Gr a w) (hB : a.heap.size ≤ B) : Gr a W := g.trans h (fun k hk q => by have := q.1; omega)
structure Nd (B : Nat) (W : World) (n m t : Nat) (nu : Bool) (wt : Int) (vo : Option Addr) (L vc : Nat) (bs : List Value) (lo : Option Addr) (lc : Nat) (xs : List Value) : Prop where
  hn : W.heap[n]? = some (.cells #[.bool nu, .iface 308 (.pointer (some ⟨m, 0, none⟩)), .pointer (some ⟨t, 0, none⟩), .int .i64 0, .slice vo L vc, .int .i64 wt] 264)
  hm : W.heap[m]? = some (.cells #[.int .i64 1, .slice lo L lc] 329)
  ht : W.heap[t]? = some (.cells #[.int .i64 0, .slice none 0 0] 216)
  rv : W.ownsRow 0 4 1 (.slice vo L vc) L bs
  rl : W.ownsRow 0 2 1 (.slice lo L lc) L xs
  low : B ≤ n ∧ B ≤ m ∧ B ≤ t
  bv : ∀ g, (Value.slice vo L vc).ownBlock = some g → B ≤ g
  bl : ∀ g, (Value.slice lo L lc).ownBlock = some g → B ≤ g
theorem Nd.gr {B : Nat} {W W' : World} {n m t : Nat} {nu : Bool} {wt : Int} {vo : Option Addr} {L vc : Nat} {bs : List Value} {lo : Option Addr} {lc : Nat} {xs : List Value} (h : Nd B W n m t nu wt vo L vc bs lo lc xs) (g : Gr W W') : Nd B W' n m t nu wt vo L vc bs lo lc xs :=
  ⟨(g.block _ (lt_of_heap h.hn) id).trans h.hn, (g.block _ (lt_of_heap h.hm) id).trans h.hm, (g.block _ (lt_of_heap h.ht) id).trans h.ht, row_kp h.rv fun q e => g.block q (own_lt h.rv q e) id, row_kp h.rl fun q e => g.block q (own_lt h.rl q e) id, h.low, h.bv, h.bl⟩
/-- a block of rows is of their type -/
theorem own_type {W : World} {e n g : Nat} {v : Value} {xs : List Value} (ho : W.ownsRow 0 e 1 v n xs) (h : v.ownBlock = some g) : ∃ cs fz, W.heap[g]? = some (.cells cs e fz) := by
  rcases ho.2 with ⟨rfl, _⟩ | ⟨b, cap, cur, rfl, _, hg, _⟩
  · simp [Value.ownBlock] at h
  · have : b = g := by simpa [Value.ownBlock] using h
    subst this
    exact ⟨_, _, hg⟩
theorem row42 (B n m t : Nat) (nu ok : Bool) (wt : Int) (vo : Option Addr) (L vc : Nat) (bs : List Value) (lo : Option Addr) (lc : Nat) (xs : List Value) (vn : Bool) (x : Int) (xo : Option Addr) (xc : Nat) (bn bv : Nat) (W : World) (h : Nd B W n m t nu wt vo L vc bs lo lc xs) (hB : B ≤ W.heap.size) (hbn : W.heap[bn]? = some (.cells #[.pointer (some ⟨n, 0, none⟩)] 217)) (hbv : W.heap[bv]? = some (.cells #[.bool vn, .int .i64 x, .string ⟨#[]⟩, .slice xo 0 xc] 86)) (hL : L ≤ 4000) (hw : 0 ≤ wt ∧ wt ≤ 1000000) :
    Calls Tryz.prog 163 #[.pointer (some ⟨n, 0, none⟩), .bool ok, .func (.func 164) #[] #[.pointer (some ⟨bn, 0, none⟩), .pointer (some ⟨bv, 0, none⟩)]] W fun e w' => e = .returned (.int .i64 16) ∧ FrN B W w' ∧ ∃ vo' vc' lo' lc', Nd B w' n m t nu (wt + 16) vo' (L + 1) vc' (bs ++ [.bool ok]) lo' lc' (xs ++ [.int .i64 x]) := by
  have H := hidM h
  have HBN := hidM hbn
  have HBV := hidM hbv
  obtain ⟨c0, c1, c2, c3, c4, c5⟩ := cell6 h.hn
  have hl : ((L : Int) == 4096) = false := by simp; omega
  have HW := hidM hw
  clear h hbn hbv hw
  go_enter Tryz.func163, Tryz.ntmps163
  go_wp2_with (first
    | (go_at_call 175; refine (rows59 n m t nu wt vo L vc _ H.out.hn).mono ?_; rintro e w1 ⟨rfl, rfl⟩)
    | (go_at_call 177; refine (enter61 n m t nu wt vo L vc _ H.out.hn H.out.ht).mono ?_; rintro e w2 ⟨rfl, g2⟩; have HG2 := hidM g2; clear c0 c1 c2 c3 c4 c5; obtain ⟨c0, c1, c2, c3, c4, c5⟩ := cell6 ((g2.block _ (lt_of_heap H.out.hn) id).trans H.out.hn); clear g2)
    | (at_builtin; refine Hid.out ?_))
  unfold Hid
  have gA : Gr W (w2.alloc (.cells #[.bool ok] 4)) := HG2.out.alloc _
  have hA := H.out.gr gA
  have hsr : Src Tryz.prog 1 84 (.slice (some ⟨w2.heap.size, 0, none⟩) 1 1) 1 [.bool ok] (w2.alloc (.cells #[.bool ok] 4)) := by
    refine Src.ofSlice (w := w2.alloc (.cells #[.bool ok] 4)) Tryz.underlying84 ⟨w2.heap.size, 0, none⟩ 1 1 [.bool ok] rfl (fun j v hj => ?_) (fun v hv => by simp at hv; subst hv; rfl)
    cases j with
    | zero => cases hj; have hh := heap_alloc_new w2 (.cells #[.bool ok] 4); show (w2.alloc (.cells #[.bool ok] 4)).cell? ⟨w2.heap.size, 0, none⟩ = some (.bool ok); unfold World.cell?; rw [hh]; rfl
    | succ j => simp at hj
  refine wpList_append_any _ rfl (.tmp 22) (.tmp 24) 84 84 rfl 4 (.bool false) 1 Tryz.underlying84 info4 rfl (.slice vo L vc) L bs rfl hA.rv (.slice (some ⟨w2.heap.size, 0, none⟩) 1 1) 1 [.bool ok] rfl hsr (by omega) (by omega) ?_
  intro v' w3 ha1 ha2 ha3
  obtain ⟨uo, uc, rfl⟩ := own_formN ha1
  have hk3 := Keeps.ofGrown ha2
  have hne : ∀ {b ty : Nat} {c : Array Value}, (w2.alloc (.cells #[.bool ok] 4)).heap[b]? = some (.cells c ty) → ty ≠ 4 → w3.heap[b]? = some (.cells c ty) := fun hb ht => (hk3.block _ (lt_of_heap hb) (fun e => own_ne hb hA.rv ht e)).trans hb
  have hn3 := hne hA.hn (by decide)
  have hm3 := hne hA.hm (by decide)
  have ht3 := hne hA.ht (by decide)
  have hbn3 := hne ((gA.block _ (lt_of_heap HBN.out) id).trans HBN.out) (by decide)
  have hbv3 := hne ((gA.block _ (lt_of_heap HBV.out) id).trans HBV.out) (by decide)
  have hrl3 : w3.ownsRow 0 2 1 (.slice lo L lc) L xs := row_kp hA.rl fun q e => hk3.block q (own_lt hA.rl q e) (fun e2 => by
    obtain ⟨c1, f1, k1⟩ := own_type hA.rl e
    obtain ⟨c2, f2, k2⟩ := own_type hA.rv e2
    rw [k1] at k2
    simp at k2)
  have hfr3 : FrN B W w3 := (Gr.frN gA).trans (hk3.mono fun k hk e => by
    obtain ⟨c1, f1, k1⟩ := own_type hA.rv e
    exact ⟨hA.bv k e, c1, 4, f1, k1, .inr (.inr (.inl rfl))⟩)
  have hbl3 : ∀ g, (Value.slice uo (L + 1) uc).ownBlock = some g → B ≤ g := fun g e => by
    rcases ha3 with e2 | e2
    · exact hA.bv g (e2 ▸ e)
    · exact Nat.le_trans (Nat.le_trans hB gA.size) (e2 g e)
  obtain ⟨w4, hw4⟩ : ∃ w4, w3.setCell ⟨n, 4, none⟩ (.slice uo (L + 1) uc) = w4 := ⟨_, rfl⟩
  have hk4 : Keeps w3 w4 (fun z => z = n) := by rw [← hw4]; exact Keeps.setCell (S := fun z => z = n) (p := ⟨n, 4, none⟩) (Keeps.refl w3 _) (fun _ => rfl) _
  have hn4 : w4.heap[n]? = some (.cells #[.bool nu, .iface 308 (.pointer (some ⟨m, 0, none⟩)), .pointer (some ⟨t, 0, none⟩), .int .i64 0, .slice uo (L + 1) uc, .int .i64 wt] 264) := by rw [← hw4, heap_setCell_same w3 n 4 _ _ _ hn3]; rfl
  have hot : ∀ {b ty : Nat} {c : Array Value}, w3.heap[b]? = some (.cells c ty) → ty ≠ 264 → w4.heap[b]? = some (.cells c ty) := fun hb ht => (hk4.block _ (lt_of_heap hb) (fun e => by subst e; rw [hn3] at hb; simp at hb; exact ht hb.2.symm)).trans hb
  have hrow : ∀ {e N : Nat} {v : Value} {ys : List Value}, w3.ownsRow 0 e 1 v N ys → e ≠ 264 → w4.ownsRow 0 e 1 v N ys := fun hr he => row_kp hr fun q e2 => hk4.block q (own_lt hr q e2) (fun e3 => by subst e3; exact own_ne hn3 hr (Ne.symm he) e2)
  have HF4 : Hid (FrN B W w4) := hfr3.trans (hk4.mono fun k hk e => by subst e; exact ⟨hA.low.1, _, 264, _, hn3, .inl rfl⟩)
  have hm4 := hot hm3 (by decide)
  have ht4 := hot ht3 (by decide)
  have hbn4 := hot hbn3 (by decide)
  have hbv4 := hot hbv3 (by decide)
  have hrv4 := hrow ha1 (by decide)
  have hrl4 := hrow hrl3 (by decide)
  have HC := hidM (take43 n m t nu wt uo (L + 1) uc vn x xo xc lo L lc xs bn bv w4 hn4 hbn4 hbv4 hm4 hrl4 (by omega))
  have HEnd : Hid (∀ w5 yo yc, Push w4 w5 m 1 329 2 #[.int .i64 1, .slice lo L lc] lo L lc xs (.int .i64 x) yo yc → w5.heap[n]? = some (.cells #[.bool nu, .iface 308 (.pointer (some ⟨m, 0, none⟩)), .pointer (some ⟨t, 0, none⟩), .int .i64 0, .slice uo (L + 1) uc, .int .i64 wt] 264) ∧ FrN B W (w5.setCell ⟨n, 5, none⟩ (.int .i64 (wt + 16))) ∧ Nd B (w5.setCell ⟨n, 5, none⟩ (.int .i64 (wt + 16))) n m t nu (wt + 16) uo (L + 1) uc (bs ++ [.bool ok]) yo yc (xs ++ [.int .i64 x])) := fun w5 yo yc hp => by
    have hn5 := hp.oth hm4 hrl4 hn4 (by decide) (by decide)
    have ht5 := hp.oth hm4 hrl4 ht4 (by decide) (by decide)
    have hrv5 : w5.ownsRow 0 4 1 (.slice uo (L + 1) uc) (L + 1) (bs ++ [.bool ok]) := row_kp hrv4 fun q e => hp.kp.block q (own_lt hrv4 q e) (fun e2 => by
      obtain ⟨c1, f1, k1⟩ := own_type hrv4 e
      rcases e2 with rfl | e2
      · rw [hm4] at k1; simp at k1
      · obtain ⟨c2, f2, k2⟩ := own_type hrl4 e2
        rw [k1] at k2
        simp at k2)
    have hfr5 : FrN B W w5 := HF4.out.trans (hp.kp.mono fun k hk e => by
      rcases e with rfl | e
      · exact ⟨hA.low.2.1, _, 329, _, hm4, .inr (.inl rfl)⟩
      · obtain ⟨c1, f1, k1⟩ := own_type hrl4 e
        exact ⟨hA.bl k e, c1, 2, f1, k1, .inr (.inr (.inr rfl))⟩)
    have hk6 : Keeps w5 (w5.setCell ⟨n, 5, none⟩ (.int .i64 (wt + 16))) (fun z => z = n) := Keeps.setCell (S := fun z => z = n) (p := ⟨n, 5, none⟩) (Keeps.refl w5 _) (fun _ => rfl) _
    have hot6 : ∀ {b ty : Nat} {c : Array Value}, w5.heap[b]? = some (.cells c ty) → ty ≠ 264 → (w5.setCell ⟨n, 5, none⟩ (.int .i64 (wt + 16))).heap[b]? = some (.cells c ty) := fun hb ht => (hk6.block _ (lt_of_heap hb) (fun e => by subst e; rw [hn5] at hb; simp at hb; exact ht hb.2.symm)).trans hb
    have hrow6 : ∀ {e N : Nat} {v : Value} {ys : List Value}, w5.ownsRow 0 e 1 v N ys → e ≠ 264 → (w5.setCell ⟨n, 5, none⟩ (.int .i64 (wt + 16))).ownsRow 0 e 1 v N ys := fun hr he => row_kp hr fun q e2 => hk6.block q (own_lt hr q e2) (fun e3 => by subst e3; exact own_ne hn5 hr (Ne.symm he) e2)
    refine ⟨hn5, hfr5.trans (hk6.mono fun k hk e => by subst e; exact ⟨hA.low.1, _, 264, _, hn5, .inl rfl⟩), ?_⟩
    refine ⟨by rw [heap_setCell_same w5 n 5 _ _ _ hn5]; rfl, hot6 hp.box (by decide), hot6 ht5 (by decide), hrow6 hrv5 (by decide), hrow6 hp.own (by decide), hA.low, hbl3, fun g e => ?_⟩
    rcases hp.blk with e2 | e2
    · exact hA.bl g (e2 ▸ e)
    · exact Nat.le_trans (Nat.le_trans hB (Keeps.size HF4.out)) (e2 g e)
  have hwr : IntKind.i64.wrap (wt + 16) = wt + 16 := by have := HW.out; rw [IntKind.wrap_i64]; omega
  have hgt : ¬ (4194304 : Int) < wt + 16 := by have := HW.out; omega
  obtain ⟨d0, d1, d2, d3, d4, d5⟩ := cell6 hn3
  have z4 := frz hn3 4
  clear c0 c1 c2 c3 c4 c5 hsr hA gA ha1 ha2 ha3 hk3 hne hn3 hm3 ht3 hbn3 hbv3 hrl3 hfr3 hbl3 hk4 hn4 hot hrow hm4 ht4 hbn4 hbv4 hrv4 hrl4 HF4
  go_wp2_with (go_at_call 164; refine HC.out.mono ?_; rintro e w5 ⟨yo, yc, rfl, hp⟩; obtain ⟨hn5, hfr, hnd⟩ := HEnd.out w5 yo yc hp; have HFR := hidM hfr; have HND := hidM hnd; clear d0 d1 d2 d3 d4 d5 z4 hw4; obtain ⟨d0, d1, d2, d3, d4, d5⟩ := cell6 hn5; have z5 := frz hn5 5; clear hp hn5 hfr hnd)
  go_ret
  exact ⟨rfl, HFR.out, uo, uc, yo, yc, HND.out⟩
theorem take33 (B n m t : Nat) (nu : Bool) (wt : Int) (vo : Option Addr) (L vc : Nat) (bs : List Value) (lo : Option Addr) (lc : Nat) (xs : List Value) (vn : Bool) (x : Int) (xo : Option Addr) (xc : Nat) (W : World) (h : Nd B W n m t nu wt vo L vc bs lo lc xs) (hB : B ≤ W.heap.size) (hL : L ≤ 4000) (hw : 0 ≤ wt ∧ wt ≤ 1000000) :
    Calls Tryz.prog 150 #[.pointer (some ⟨n, 0, none⟩), .agg #[.bool vn, .int .i64 x, .string ⟨#[]⟩, .slice xo 0 xc]] W fun e w' => e = .returned (.int .i64 16) ∧ FrN B W w' ∧ ∃ vo' vc' lo' lc', Nd B w' n m t nu (wt + 16) vo' (L + 1) vc' (bs ++ [.bool !vn]) lo' lc' (xs ++ [.int .i64 x]) := by
  obtain ⟨A, hA⟩ : ∃ A, (W.alloc (.cells #[.pointer (some ⟨n, 0, none⟩)] 217)).alloc (.cells #[.bool vn, .int .i64 x, .string ⟨#[]⟩, .slice xo 0 xc] 86) = A := ⟨_, rfl⟩
  have gA : Gr W A := by rw [← hA]; exact (gr_alloc W _).trans (gr_alloc _ _) (fun _ _ h => h)
  have hb2 : A.heap[W.heap.size + 1]? = some (.cells #[.bool vn, .int .i64 x, .string ⟨#[]⟩, .slice xo 0 xc] 86) := by
    have e2 := heap_alloc_new (W.alloc (.cells #[.pointer (some ⟨n, 0, none⟩)] 217)) (.cells #[.bool vn, .int .i64 x, .string ⟨#[]⟩, .slice xo 0 xc] 86)
    rw [show (W.alloc (.cells #[.pointer (some ⟨n, 0, none⟩)] 217)).heap.size = W.heap.size + 1 by simp, hA] at e2
    exact e2
  have hb1 : A.heap[W.heap.size]? = some (.cells #[.pointer (some ⟨n, 0, none⟩)] 217) := by
    have e1 := heap_alloc_new W (.cells #[.pointer (some ⟨n, 0, none⟩)] 217)
    rw [← hA]
    exact ((gr_alloc _ _).block _ (lt_of_heap e1) id).trans e1
  have HR := hidM (row42 B n m t nu (!vn) wt vo L vc bs lo lc xs vn x xo xc W.heap.size (W.heap.size + 1) A (h.gr gA) (Nat.le_trans hB gA.size) hb1 hb2 hL hw)
  have HG := hidM gA
  obtain ⟨q0, q1, q2, q3⟩ := cell4 hb2
  have q4 : A.cell? ⟨W.heap.size, 0, none⟩ = some (.pointer (some ⟨n, 0, none⟩)) := by simp [World.cell?, hb1]
  clear h hb1 hb2 gA
  go_enter Tryz.func150, Tryz.ntmps150
  go_wp2_with (go_at_call 163; refine HR.out.mono ?_; rintro e w1 ⟨rfl, hf, hn⟩; have HF := hidM hf; have HN := hidM hn; clear hf hn)
  go_ret
  exact ⟨rfl, (Gr.frN HG.out).trans HF.out, HN.out⟩
end Go.Proofs.YteggcdhibcjneaaGreatDoor.Kit
