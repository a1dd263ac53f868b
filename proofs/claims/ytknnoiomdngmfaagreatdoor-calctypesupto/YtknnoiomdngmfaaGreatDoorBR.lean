import Derived.Test.YtknnoiomdngmfaaGreatDoorBP
import Derived.Recover
import Derived.Defers
set_option maxRecDepth 100000
set_option maxHeartbeats 4000000
namespace Go.Proofs.YtknnoiomdngmfaaGreatDoor.Kit
open Go.RowKit Go.Shelf Go.Deep
set_option linter.unusedVariables false
set_option linter.unusedSimpArgs false
theorem cell6 {W : World} {B t : Nat} {x0 x1 x2 x3 x4 x5 : Value} (h : W.heap[B]? = some (.cells #[x0, x1, x2, x3, x4, x5] t)) : W.cell? ⟨B, 0, none⟩ = some x0 ∧ W.cell? ⟨B, 1, none⟩ = some x1 ∧ W.cell? ⟨B, 2, none⟩ = some x2 ∧ W.cell? ⟨B, 3, none⟩ = some x3 ∧ W.cell? ⟨B, 4, none⟩ = some x4 ∧ W.cell? ⟨B, 5, none⟩ = some x5 := by simp [World.cell?, h]
theorem rows59 (n m t : Nat) (nu : Bool) (wt : Int) (vo : Option Addr) (L vc : Nat) (W : World) (h : W.heap[n]? = some (.cells #[.bool nu, .iface 282 (.pointer (some ⟨m, 0, none⟩)), .pointer (some ⟨t, 0, none⟩), .int .i64 0, .slice vo L vc, .int .i64 wt] 212)) : Calls Tryz.prog 284 #[.pointer (some ⟨n, 0, none⟩)] W fun e w' => e = .returned (.int .i64 L) ∧ W = w' := by
  obtain ⟨c0, c1, c2, c3, c4, c5⟩ := cell6 h
  go_enter Tryz.func284, Tryz.ntmps284
  go_wp2
  go_ret
  exact ⟨rfl, rfl⟩
theorem enter61 (n m t : Nat) (nu : Bool) (wt : Int) (vo : Option Addr) (L vc : Nat) (W : World) (h : W.heap[n]? = some (.cells #[.bool nu, .iface 282 (.pointer (some ⟨m, 0, none⟩)), .pointer (some ⟨t, 0, none⟩), .int .i64 0, .slice vo L vc, .int .i64 wt] 212)) (h2 : W.heap[t]? = some (.cells #[.int .i64 0, .slice none 0 0] 145)) : Calls Tryz.prog 286 #[.pointer (some ⟨t, 0, none⟩), .pointer (some ⟨n, 0, none⟩)] W fun e w' => e = .returned (.tuple #[]) ∧ Gr W w' := by
  obtain ⟨c0, c1, c2, c3, c4, c5⟩ := cell6 h
  obtain ⟨t0, t1⟩ := cell2 h2
  go_enter Tryz.func286, Tryz.ntmps286
  go_wp2
  go_region
  go_wp2
  refine bodyPost_ret (results_none rfl _ _ _) rfl ⟨rfl, gr_drew⟩
theorem Push.gr {W W1 w' : World} {m j t e : Nat} {c : Array Value} {lo : Option Addr} {L lc : Nat} {xs : List Value} {y : Value} {uo : Option Addr} {uc : Nat} (g : Gr W W1) (h : Push W1 w' m j t e c lo L lc xs y uo uc) : Push W w' m j t e c lo L lc xs y uo uc :=
  ⟨h.box, h.own, (g.mono (fun _ _ h => h.elim)).tr h.kp, h.blk.imp id (fun h g' e => Nat.le_trans g.size (h g' e))⟩
theorem Push.oth {W w' : World} {m j t e : Nat} {c : Array Value} {lo : Option Addr} {L lc : Nat} {xs : List Value} {y : Value} {uo : Option Addr} {uc : Nat} (h : Push W w' m j t e c lo L lc xs y uo uc) (hm : W.heap[m]? = some (.cells c t)) (ho : W.ownsRow 0 e 1 (.slice lo L lc) L xs) {b t2 : Nat} {d : Array Value} (hb : W.heap[b]? = some (.cells d t2)) (h1 : t2 ≠ t) (h2 : t2 ≠ e) : w'.heap[b]? = some (.cells d t2) :=
  (h.kp.block b (lt_of_heap hb) (fun q => by
    rcases q with rfl | q
    · rw [hb] at hm; simp at hm; exact h1 hm.2
    exact own_ne hb ho h2 q)).trans hb
theorem cell4 {W : World} {B t : Nat} {x0 x1 x2 x3 : Value} (h : W.heap[B]? = some (.cells #[x0, x1, x2, x3] t)) : W.cell? ⟨B, 0, none⟩ = some x0 ∧ W.cell? ⟨B, 1, none⟩ = some x1 ∧ W.cell? ⟨B, 2, none⟩ = some x2 ∧ W.cell? ⟨B, 3, none⟩ = some x3 := by simp [World.cell?, h]
theorem method_lay (m : Nat) (w : World) : (method 578 282 (.pointer (some ⟨m, 0, none⟩)) "colonnade/build.lay").run Tryz.prog w = .ok (441, .pointer (some ⟨m, 0, none⟩)) w := by kernel_rfl
theorem take43 (n m t : Nat) (nu : Bool) (wt : Int) (vo : Option Addr) (L vc : Nat) (vn : Bool) (x : Int) (xo : Option Addr) (xc : Nat) (lo : Option Addr) (M lc : Nat) (xs : List Value) (bn bv : Nat) (W : World) (h : W.heap[n]? = some (.cells #[.bool nu, .iface 282 (.pointer (some ⟨m, 0, none⟩)), .pointer (some ⟨t, 0, none⟩), .int .i64 0, .slice vo L vc, .int .i64 wt] 212)) (hbn : W.heap[bn]? = some (.cells #[.pointer (some ⟨n, 0, none⟩)] 146)) (hbv : W.heap[bv]? = some (.cells #[.bool vn, .int .i64 x, .string ⟨#[]⟩, .slice xo 0 xc] 98)) (hm : W.heap[m]? = some (.cells #[.int .i64 1, .slice lo M lc] 344)) (ho : W.ownsRow 0 2 1 (.slice lo M lc) M xs) (hL : M ≤ 5000) :
    Calls Tryz.prog 242 #[.pointer (some ⟨bn, 0, none⟩), .pointer (some ⟨bv, 0, none⟩)] W fun e w' => ∃ uo uc, e = .returned (.int .i64 16) ∧ Push W w' m 1 344 2 #[.int .i64 1, .slice lo M lc] lo M lc xs (.int .i64 x) uo uc := by
  have hS : ∀ u : World, u.heap[n]? = some (.cells #[.bool nu, .iface 282 (.pointer (some ⟨m, 0, none⟩)), .pointer (some ⟨t, 0, none⟩), .int .i64 0, .slice vo L vc, .int .i64 wt] 212) → u.heap[bn]? = some (.cells #[.pointer (some ⟨n, 0, none⟩)] 146) → u.heap[bv]? = some (.cells #[.bool vn, .int .i64 x, .string ⟨#[]⟩, .slice xo 0 xc] 98) → u.cell? ⟨bn, 0, none⟩ = some (.pointer (some ⟨n, 0, none⟩)) ∧ u.cell? ⟨n, 1, none⟩ = some (.iface 282 (.pointer (some ⟨m, 0, none⟩))) ∧ u.cell? ⟨bv, 0, none⟩ = some (.bool vn) ∧ u.cell? ⟨bv, 1, none⟩ = some (.int .i64 x) ∧ u.cell? ⟨bv, 2, none⟩ = some (.string ⟨#[]⟩) ∧ u.cell? ⟨bv, 3, none⟩ = some (.slice xo 0 xc) := fun u a1 a2 a3 => by
    obtain ⟨-, n1, -⟩ := cell6 a1
    obtain ⟨q0, q1, q2, q3⟩ := cell4 a3
    exact ⟨by simp [World.cell?, a2], n1, q0, q1, q2, q3⟩
  have HS := hidM hS
  have HS0 := hidM (hS W.drew h hbn hbv)
  have HL := hidM (lay261 m vn x xo xc lo M lc xs W.drew hm ho hL)
  have HP : Hid (∀ (w' : World) uo uc, Push W.drew w' m 1 344 2 #[.int .i64 1, .slice lo M lc] lo M lc xs (.int .i64 x) uo uc → w'.heap[n]? = some (.cells #[.bool nu, .iface 282 (.pointer (some ⟨m, 0, none⟩)), .pointer (some ⟨t, 0, none⟩), .int .i64 0, .slice vo L vc, .int .i64 wt] 212) ∧ w'.heap[bn]? = some (.cells #[.pointer (some ⟨n, 0, none⟩)] 146) ∧ w'.heap[bv]? = some (.cells #[.bool vn, .int .i64 x, .string ⟨#[]⟩, .slice xo 0 xc] 98)) := fun w' uo uc hp => ⟨hp.oth (W := W.drew) hm ho h (by decide) (by decide), hp.oth (W := W.drew) hm ho hbn (by decide) (by decide), hp.oth (W := W.drew) hm ho hbv (by decide) (by decide)⟩
  clear hS h hbn hbv hm ho
  have hmeth := method_lay m
  go_enter Tryz.func242, Tryz.ntmps242
  go_wp2_with fail
  go_region_held3 (fun w' => w'.cell? ⟨bn, 0, none⟩ = some (.pointer (some ⟨n, 0, none⟩)) ∧ w'.cell? ⟨n, 1, none⟩ = some (.iface 282 (.pointer (some ⟨m, 0, none⟩))) ∧ w'.cell? ⟨bv, 0, none⟩ = some (.bool vn) ∧ w'.cell? ⟨bv, 1, none⟩ = some (.int .i64 x) ∧ w'.cell? ⟨bv, 2, none⟩ = some (.string ⟨#[]⟩) ∧ w'.cell? ⟨bv, 3, none⟩ = some (.slice xo 0 xc)) (first | with_reducible exact HS0.out | with_reducible exact HS1.out) ((go_at_call 441; refine HL.out.mono ?_; rintro e w1 ⟨uo, uc, rfl, hp⟩; have HPS := hidM hp; obtain ⟨a1, a2, a3⟩ := HP.out w1 uo uc hp; have HS1 := hidM (HS.out w1 a1 a2 a3); clear hp a1 a2 a3))
  go_wp2_with fail
  go_ret
  exact ⟨uo, uc, rfl, HPS.out.gr gr_drew⟩
theorem info4 : (Tryz.prog.info? 4).map (fun i => (i.zero, i.size, i.bytes)) = some (some (.bool false), 1, 1) := by kernel_rfl
def IsN (B : Nat) (w : World) (k : Nat) : Prop := B ≤ k ∧ ∃ cs ty fz, w.heap[k]? = some (.cells cs ty fz) ∧ (ty = 212 ∨ ty = 344 ∨ ty = 4 ∨ ty = 2)
def FrN (B : Nat) (w W : World) : Prop := Keeps w W (IsN B w)
theorem Gr.frN {B : Nat} {w W : World} (g : Gr w W) : FrN B w W := g.mono (fun _ _ h => h.elim)
theorem FrN.trans {B : Nat} {u v w : World} (h : FrN B u v) (g : FrN B v w) : FrN B u w := by
  refine Keeps.trans h g (fun k hk ⟨hl, cs, ty, fz, e, ht⟩ => ?_)
  by_cases hi : IsN B u k
  · exact hi
  exact ⟨hl, cs, ty, fz, (h.block k hk hi) ▸ e, ht⟩
theorem FrN.oth {B : Nat} {w W : World} (h : FrN B w W) {b ty : Nat} {c : Array Value} (hb : w.heap[b]? = some (.cells c ty)) (h1 : ty ≠ 212) (h2 : ty ≠ 344) (h3 : ty ≠ 4) (h4 : ty ≠ 2) : W.heap[b]? = some (.cells c ty) := by
  refine (h.block b (lt_of_heap hb) (fun q => ?_)).trans hb
  obtain ⟨-, cs, ty', fz, e, ht⟩ := q
  rw [hb] at e
  cases e
  rcases ht with e | e | e | e
  · exact h1 e
  · exact h2 e
  · exact h3 e
  exact h4 e
structure Nd (B : Nat) (W : World) (n m t : Nat) (nu : Bool) (wt : Int) (vo : Option Addr) (L vc : Nat) (bs : List Value) (lo : Option Addr) (lc : Nat) (xs : List Value) : Prop where
  hn : W.heap[n]? = some (.cells #[.bool nu, .iface 282 (.pointer (some ⟨m, 0, none⟩)), .pointer (some ⟨t, 0, none⟩), .int .i64 0, .slice vo L vc, .int .i64 wt] 212)
  hm : W.heap[m]? = some (.cells #[.int .i64 1, .slice lo L lc] 344)
  ht : W.heap[t]? = some (.cells #[.int .i64 0, .slice none 0 0] 145)
  rv : W.ownsRow 0 4 1 (.slice vo L vc) L bs
  rl : W.ownsRow 0 2 1 (.slice lo L lc) L xs
  low : B ≤ n ∧ B ≤ m ∧ B ≤ t
  bv : ∀ g, (Value.slice vo L vc).ownBlock = some g → B ≤ g
  bl : ∀ g, (Value.slice lo L lc).ownBlock = some g → B ≤ g
theorem Nd.gr {B : Nat} {W W' : World} {n m t : Nat} {nu : Bool} {wt : Int} {vo : Option Addr} {L vc : Nat} {bs : List Value} {lo : Option Addr} {lc : Nat} {xs : List Value} (h : Nd B W n m t nu wt vo L vc bs lo lc xs) (g : Gr W W') : Nd B W' n m t nu wt vo L vc bs lo lc xs :=
  ⟨(g.block _ (lt_of_heap h.hn) id).trans h.hn, (g.block _ (lt_of_heap h.hm) id).trans h.hm, (g.block _ (lt_of_heap h.ht) id).trans h.ht, row_kp h.rv fun q e => g.block q (own_lt h.rv q e) id, row_kp h.rl fun q e => g.block q (own_lt h.rl q e) id, h.low, h.bv, h.bl⟩
theorem own_type {W : World} {e n g : Nat} {v : Value} {xs : List Value} (ho : W.ownsRow 0 e 1 v n xs) (h : v.ownBlock = some g) : ∃ cs fz, W.heap[g]? = some (.cells cs e fz) := by
  rcases ho.2 with ⟨rfl, _⟩ | ⟨b, cap, cur, rfl, _, hg, _⟩
  · simp [Value.ownBlock] at h
  have : b = g := by simpa [Value.ownBlock] using h
  subst this
  exact ⟨_, _, hg⟩
theorem row42 (B n m t : Nat) (nu ok : Bool) (wt : Int) (vo : Option Addr) (L vc : Nat) (bs : List Value) (lo : Option Addr) (lc : Nat) (xs : List Value) (vn : Bool) (x : Int) (xo : Option Addr) (xc : Nat) (bn bv : Nat) (W : World) (h : Nd B W n m t nu wt vo L vc bs lo lc xs) (hB : B ≤ W.heap.size) (hbn : W.heap[bn]? = some (.cells #[.pointer (some ⟨n, 0, none⟩)] 146)) (hbv : W.heap[bv]? = some (.cells #[.bool vn, .int .i64 x, .string ⟨#[]⟩, .slice xo 0 xc] 98)) (hL : L ≤ 4000) (hw : 0 ≤ wt ∧ wt ≤ 1000000) :
    Calls Tryz.prog 241 #[.pointer (some ⟨n, 0, none⟩), .bool ok, .func (.func 242) #[] #[.pointer (some ⟨bn, 0, none⟩), .pointer (some ⟨bv, 0, none⟩)]] W fun e w' => e = .returned (.int .i64 16) ∧ FrN B W w' ∧ ∃ vo' vc' lo' lc', Nd B w' n m t nu (wt + 16) vo' (L + 1) vc' (bs ++ [.bool ok]) lo' lc' (xs ++ [.int .i64 x]) := by
  have H := hidM h
  have HBN := hidM hbn
  have HBV := hidM hbv
  obtain ⟨c0, c1, c2, c3, c4, c5⟩ := cell6 h.hn
  have hl : ((L : Int) == 4096) = false := by simp; omega
  have HW := hidM hw
  clear h hbn hbv hw
  go_enter Tryz.func241, Tryz.ntmps241
  go_wp2_with (first
    | (go_at_call 284; refine (rows59 n m t nu wt vo L vc _ H.out.hn).mono ?_; rintro e w1 ⟨rfl, rfl⟩)
    | (go_at_call 286; refine (enter61 n m t nu wt vo L vc _ H.out.hn H.out.ht).mono ?_; rintro e w2 ⟨rfl, g2⟩; have HG2 := hidM g2; clear c0 c1 c2 c3 c4 c5; obtain ⟨c0, c1, c2, c3, c4, c5⟩ := cell6 ((g2.block _ (lt_of_heap H.out.hn) id).trans H.out.hn); clear g2)
    | (at_builtin; refine Hid.out ?_))
  unfold Hid
  have gA : Gr W (w2.alloc (.cells #[.bool ok] 4)) := HG2.out.alloc _
  have hA := H.out.gr gA
  have hsr : Src Tryz.prog 1 210 (.slice (some ⟨w2.heap.size, 0, none⟩) 1 1) 1 [.bool ok] (w2.alloc (.cells #[.bool ok] 4)) := by
    refine Src.ofSlice (w := w2.alloc (.cells #[.bool ok] 4)) Tryz.underlying210 ⟨w2.heap.size, 0, none⟩ 1 1 [.bool ok] rfl (fun j v hj => ?_) (fun v hv => by simp at hv; subst hv; rfl)
    cases j with
    | zero => cases hj; have hh := heap_alloc_new w2 (.cells #[.bool ok] 4); show (w2.alloc (.cells #[.bool ok] 4)).cell? ⟨w2.heap.size, 0, none⟩ = some (.bool ok); unfold World.cell?; rw [hh]; rfl
    | succ j => simp at hj
  refine wpList_append_any _ rfl (.tmp 22) (.tmp 24) 210 210 rfl 4 (.bool false) 1 Tryz.underlying210 info4 rfl (.slice vo L vc) L bs rfl hA.rv (.slice (some ⟨w2.heap.size, 0, none⟩) 1 1) 1 [.bool ok] rfl hsr (by omega) (by omega) ?_
  intro v' w3 ha1 ha2 ha3
  obtain ⟨uo, uc, rfl⟩ := own_formN ha1
  have hk3 := Keeps.ofGrown ha2
  have hne : ∀ {b ty : Nat} {c : Array Value}, (w2.alloc (.cells #[.bool ok] 4)).heap[b]? = some (.cells c ty) → ty ≠ 4 → w3.heap[b]? = some (.cells c ty) := fun hb ht => (hk3.block _ (lt_of_heap hb) (fun e => own_ne hb hA.rv ht e)).trans hb
  have hn3 := hne hA.hn (by decide)
  have hm3 := hne hA.hm (by decide)
  have ht3 := hne hA.ht (by decide)
  have hbn3 := hne ((gA.block _ (lt_of_heap HBN.out) id).trans HBN.out) (by decide)
  have hbv3 := hne ((gA.block _ (lt_of_heap HBV.out) id).trans HBV.out) (by decide)
  have hrl3 : w3.ownsRow 0 2 1 (.slice lo L lc) L xs := row_kp hA.rl fun q e => hk3.block q (own_lt hA.rl q e) (fun e2 => by
    obtain ⟨c1, f1, k1⟩ := own_type hA.rl e
    obtain ⟨c2, f2, k2⟩ := own_type hA.rv e2
    rw [k1] at k2
    simp at k2)
  have hfr3 : FrN B W w3 := (Gr.frN gA).trans (hk3.mono fun k hk e => by
    obtain ⟨c1, f1, k1⟩ := own_type hA.rv e
    exact ⟨hA.bv k e, c1, 4, f1, k1, .inr (.inr (.inl rfl))⟩)
  have hbl3 : ∀ g, (Value.slice uo (L + 1) uc).ownBlock = some g → B ≤ g := fun g e => by
    rcases ha3 with e2 | e2
    · exact hA.bv g (e2 ▸ e)
    exact Nat.le_trans (Nat.le_trans hB gA.size) (e2 g e)
  obtain ⟨w4, hw4⟩ := ex (w3.setCell ⟨n, 4, none⟩ (.slice uo (L + 1) uc))
  have hk4 : Keeps w3 w4 (fun z => z = n) := by rw [← hw4]; exact Keeps.setCell (S := fun z => z = n) (p := ⟨n, 4, none⟩) (Keeps.refl w3 _) (fun _ => rfl) _
  have hn4 : w4.heap[n]? = some (.cells #[.bool nu, .iface 282 (.pointer (some ⟨m, 0, none⟩)), .pointer (some ⟨t, 0, none⟩), .int .i64 0, .slice uo (L + 1) uc, .int .i64 wt] 212) := by rw [← hw4, heap_setCell_same w3 n 4 _ _ _ hn3]; rfl
  have hot : ∀ {b ty : Nat} {c : Array Value}, w3.heap[b]? = some (.cells c ty) → ty ≠ 212 → w4.heap[b]? = some (.cells c ty) := fun hb ht => (hk4.block _ (lt_of_heap hb) (fun e => by subst e; rw [hn3] at hb; simp at hb; exact ht hb.2.symm)).trans hb
  have hrow : ∀ {e N : Nat} {v : Value} {ys : List Value}, w3.ownsRow 0 e 1 v N ys → e ≠ 212 → w4.ownsRow 0 e 1 v N ys := fun hr he => row_kp hr fun q e2 => hk4.block q (own_lt hr q e2) (fun e3 => by subst e3; exact own_ne hn3 hr (Ne.symm he) e2)
  have HF4 : Hid (FrN B W w4) := hfr3.trans (hk4.mono fun k hk e => by subst e; exact ⟨hA.low.1, _, 212, _, hn3, .inl rfl⟩)
  have hm4 := hot hm3 (by decide)
  have ht4 := hot ht3 (by decide)
  have hbn4 := hot hbn3 (by decide)
  have hbv4 := hot hbv3 (by decide)
  have hrv4 := hrow ha1 (by decide)
  have hrl4 := hrow hrl3 (by decide)
  have HC := hidM (take43 n m t nu wt uo (L + 1) uc vn x xo xc lo L lc xs bn bv w4 hn4 hbn4 hbv4 hm4 hrl4 (by omega))
  have HEnd : Hid (∀ w5 yo yc, Push w4 w5 m 1 344 2 #[.int .i64 1, .slice lo L lc] lo L lc xs (.int .i64 x) yo yc → w5.heap[n]? = some (.cells #[.bool nu, .iface 282 (.pointer (some ⟨m, 0, none⟩)), .pointer (some ⟨t, 0, none⟩), .int .i64 0, .slice uo (L + 1) uc, .int .i64 wt] 212) ∧ FrN B W (w5.setCell ⟨n, 5, none⟩ (.int .i64 (wt + 16))) ∧ Nd B (w5.setCell ⟨n, 5, none⟩ (.int .i64 (wt + 16))) n m t nu (wt + 16) uo (L + 1) uc (bs ++ [.bool ok]) yo yc (xs ++ [.int .i64 x])) := fun w5 yo yc hp => by
    have hn5 := hp.oth hm4 hrl4 hn4 (by decide) (by decide)
    have ht5 := hp.oth hm4 hrl4 ht4 (by decide) (by decide)
    have hrv5 : w5.ownsRow 0 4 1 (.slice uo (L + 1) uc) (L + 1) (bs ++ [.bool ok]) := row_kp hrv4 fun q e => hp.kp.block q (own_lt hrv4 q e) (fun e2 => by
      obtain ⟨c1, f1, k1⟩ := own_type hrv4 e
      rcases e2 with rfl | e2
      · rw [hm4] at k1; simp at k1
      obtain ⟨c2, f2, k2⟩ := own_type hrl4 e2
      rw [k1] at k2
      simp at k2)
    have hfr5 : FrN B W w5 := HF4.out.trans (hp.kp.mono fun k hk e => by
      rcases e with rfl | e
      · exact ⟨hA.low.2.1, _, 344, _, hm4, .inr (.inl rfl)⟩
      obtain ⟨c1, f1, k1⟩ := own_type hrl4 e
      exact ⟨hA.bl k e, c1, 2, f1, k1, .inr (.inr (.inr rfl))⟩)
    have hk6 : Keeps w5 (w5.setCell ⟨n, 5, none⟩ (.int .i64 (wt + 16))) (fun z => z = n) := Keeps.setCell (S := fun z => z = n) (p := ⟨n, 5, none⟩) (Keeps.refl w5 _) (fun _ => rfl) _
    have hot6 : ∀ {b ty : Nat} {c : Array Value}, w5.heap[b]? = some (.cells c ty) → ty ≠ 212 → (w5.setCell ⟨n, 5, none⟩ (.int .i64 (wt + 16))).heap[b]? = some (.cells c ty) := fun hb ht => (hk6.block _ (lt_of_heap hb) (fun e => by subst e; rw [hn5] at hb; simp at hb; exact ht hb.2.symm)).trans hb
    have hrow6 : ∀ {e N : Nat} {v : Value} {ys : List Value}, w5.ownsRow 0 e 1 v N ys → e ≠ 212 → (w5.setCell ⟨n, 5, none⟩ (.int .i64 (wt + 16))).ownsRow 0 e 1 v N ys := fun hr he => row_kp hr fun q e2 => hk6.block q (own_lt hr q e2) (fun e3 => by subst e3; exact own_ne hn5 hr (Ne.symm he) e2)
    refine ⟨hn5, hfr5.trans (hk6.mono fun k hk e => by subst e; exact ⟨hA.low.1, _, 212, _, hn5, .inl rfl⟩), ?_⟩
    refine ⟨by rw [heap_setCell_same w5 n 5 _ _ _ hn5]; rfl, hot6 hp.box (by decide), hot6 ht5 (by decide), hrow6 hrv5 (by decide), hrow6 hp.own (by decide), hA.low, hbl3, fun g e => ?_⟩
    rcases hp.blk with e2 | e2
    · exact hA.bl g (e2 ▸ e)
    exact Nat.le_trans (Nat.le_trans hB (Keeps.size HF4.out)) (e2 g e)
  have hwr : IntKind.i64.wrap (wt + 16) = wt + 16 := by have := HW.out; rw [IntKind.wrap_i64]; omega
  have hgt : ¬ (4194304 : Int) < wt + 16 := by have := HW.out; omega
  obtain ⟨d0, d1, d2, d3, d4, d5⟩ := cell6 hn3
  have z4 := frz hn3 4
  clear c0 c1 c2 c3 c4 c5 hsr hA gA ha1 ha2 ha3 hk3 hne hn3 hm3 ht3 hbn3 hbv3 hrl3 hfr3 hbl3 hk4 hn4 hot hrow hm4 ht4 hbn4 hbv4 hrv4 hrl4 HF4
  go_wp2_with (go_at_call 242; refine HC.out.mono ?_; rintro e w5 ⟨yo, yc, rfl, hp⟩; obtain ⟨hn5, hfr, hnd⟩ := HEnd.out w5 yo yc hp; have HFR := hidM hfr; have HND := hidM hnd; clear d0 d1 d2 d3 d4 d5 z4 hw4; obtain ⟨d0, d1, d2, d3, d4, d5⟩ := cell6 hn5; have z5 := frz hn5 5; clear hp hn5 hfr hnd)
  go_ret
  exact ⟨rfl, HFR.out, uo, uc, yo, yc, HND.out⟩
theorem take33 (B n m t : Nat) (nu : Bool) (wt : Int) (vo : Option Addr) (L vc : Nat) (bs : List Value) (lo : Option Addr) (lc : Nat) (xs : List Value) (vn : Bool) (x : Int) (xo : Option Addr) (xc : Nat) (W : World) (h : Nd B W n m t nu wt vo L vc bs lo lc xs) (hB : B ≤ W.heap.size) (hL : L ≤ 4000) (hw : 0 ≤ wt ∧ wt ≤ 1000000) :
    Calls Tryz.prog 159 #[.pointer (some ⟨n, 0, none⟩), .agg #[.bool vn, .int .i64 x, .string ⟨#[]⟩, .slice xo 0 xc]] W fun e w' => e = .returned (.int .i64 16) ∧ FrN B W w' ∧ ∃ vo' vc' lo' lc', Nd B w' n m t nu (wt + 16) vo' (L + 1) vc' (bs ++ [.bool !vn]) lo' lc' (xs ++ [.int .i64 x]) := by
  obtain ⟨A, hA⟩ := ex ((W.alloc (.cells #[.pointer (some ⟨n, 0, none⟩)] 146)).alloc (.cells #[.bool vn, .int .i64 x, .string ⟨#[]⟩, .slice xo 0 xc] 98))
  have gA : Gr W A := by rw [← hA]; exact (gr_alloc W _).tr (gr_alloc _ _)
  have hb2 : A.heap[W.heap.size + 1]? = some (.cells #[.bool vn, .int .i64 x, .string ⟨#[]⟩, .slice xo 0 xc] 98) := by
    have e2 := heap_alloc_new (W.alloc (.cells #[.pointer (some ⟨n, 0, none⟩)] 146)) (.cells #[.bool vn, .int .i64 x, .string ⟨#[]⟩, .slice xo 0 xc] 98)
    rw [show (W.alloc (.cells #[.pointer (some ⟨n, 0, none⟩)] 146)).heap.size = W.heap.size + 1 by simp, hA] at e2
    exact e2
  have hb1 : A.heap[W.heap.size]? = some (.cells #[.pointer (some ⟨n, 0, none⟩)] 146) := by
    have e1 := heap_alloc_new W (.cells #[.pointer (some ⟨n, 0, none⟩)] 146)
    rw [← hA]
    exact ((gr_alloc _ _).block _ (lt_of_heap e1) id).trans e1
  have HR := hidM (row42 B n m t nu (!vn) wt vo L vc bs lo lc xs vn x xo xc W.heap.size (W.heap.size + 1) A (h.gr gA) (Nat.le_trans hB gA.size) hb1 hb2 hL hw)
  have HG := hidM gA
  obtain ⟨q0, q1, q2, q3⟩ := cell4 hb2
  have q4 : A.cell? ⟨W.heap.size, 0, none⟩ = some (.pointer (some ⟨n, 0, none⟩)) := by simp [World.cell?, hb1]
  clear h hb1 hb2 gA
  go_enter Tryz.func159, Tryz.ntmps159
  go_wp2_with (go_at_call 241; refine HR.out.mono ?_; rintro e w1 ⟨rfl, hf, hn⟩; have HF := hidM hf; have HN := hidM hn; clear hf hn)
  go_ret
  exact ⟨rfl, (Gr.frN HG.out).trans HF.out, HN.out⟩
end Go.Proofs.YtknnoiomdngmfaaGreatDoor.Kit
namespace Go.Proofs.YtknnoiomdngmfaaGreatDoor.Kit
open Go.RowKit Go.Shelf Go.Deep
set_option linter.unusedVariables false
set_option linter.unusedSimpArgs false
attribute [local go_sem] run_store_func
theorem wp_hid {P : Program} {c : Code} {Q : Exit → Act → World → Prop} {a : Act} {w : World} (h : c.wp P (fun e a w => Hid (Q e a w)) a w) : c.wp P Q a w := Code.wp_mono (fun e a w h => h.out) h
theorem same_set {W : World} {b ty j : Nat} {c : Array Value} {v : Value} (h : W.heap[b]? = some (.cells c ty)) (hv : c.setIfInBounds j v = c) : Gr W (W.setCell ⟨b, j, none⟩ v) := by
  have k : Keeps W (W.setCell ⟨b, j, none⟩ v) (fun z => z = b) := Keeps.setCell (S := fun z => z = b) (p := ⟨b, j, none⟩) (Keeps.refl W _) (fun _ => rfl) _
  refine ⟨k.os, k.tape, k.output, k.size, fun z hz _ => ?_⟩
  by_cases e : z = b
  · subst e
    rw [heap_setCell_same W z j _ _ v h, h, hv]
  exact k.block z hz e
theorem end32 (t : Nat) (W : World) (h : W.heap[t]? = some (.cells #[.int .i64 0, .slice none 0 0] 145)) : Calls Tryz.prog 158 #[.pointer (some ⟨t, 0, none⟩)] W fun e w' => e = .returned (.tuple #[]) ∧ Gr W w' := by
  obtain ⟨c0, c1⟩ := cell2 h
  have z1 := frz h 1
  have HG := hidM (same_set (j := 1) (v := .slice none 0 0) h rfl)
  go_enter Tryz.func158, Tryz.ntmps158
  go_wp2
  go_end0
  exact ⟨rfl, HG.out⟩
def bdC (nu : Bool) (fo : Option Addr) (fc n t : Nat) (rows : Int) : Array Value := #[.string nmA, .bool nu, .int .i64 3, .int .i64 0, .int .i64 0, .int .i64 0, .slice fo 0 fc, .pointer (some ⟨n, 0, none⟩), .pointer (some ⟨t, 0, none⟩), .int .i64 rows]
theorem take30 (bb : Nat) (r : Addr) (p n t : Nat) (nu : Bool) (fo : Option Addr) (fc : Nat) (rows : Int) (w : World) (hr : 0 ≤ rows ∧ rows ≤ 100000) (hb : w.heap[bb]? = some (.cells #[.pointer (some ⟨p, 0, none⟩)] 100)) (hp : w.heap[p]? = some (.cells (bdC nu fo fc n t rows) 149)) (ht : w.heap[t]? = some (.cells #[.int .i64 0, .slice none 0 0] 145)) :
    CallsD Tryz.prog 156 #[.pointer (some ⟨bb, 0, none⟩), .pointer (some r)] .returning w fun e u' w' => e = .returned (.tuple #[]) ∧ u' = .returning ∧ Keeps w w' (fun z => z = p) ∧ w'.heap[p]? = some (.cells (bdC nu fo fc n t (rows + 1)) 149) := by
  have q0 : w.cell? ⟨bb, 0, none⟩ = some (.pointer (some ⟨p, 0, none⟩)) := by simp [World.cell?, hb]
  have p9 : w.cell? ⟨p, 9, none⟩ = some (.int .i64 rows) := by simp [World.cell?, hp, bdC]
  have z9 := frz hp 9
  have hwr : IntKind.i64.wrap (rows + 1) = rows + 1 := by rw [IntKind.wrap_i64]; omega
  obtain ⟨U, hU⟩ := ex (w.setCell ⟨p, 9, none⟩ (.int .i64 (rows + 1)))
  have kU : Keeps w U (fun z => z = p) := by rw [← hU]; exact Keeps.setCell (S := fun z => z = p) (p := ⟨p, 9, none⟩) (Keeps.refl w _) (fun _ => rfl) _
  have hpU : U.heap[p]? = some (.cells (bdC nu fo fc n t (rows + 1)) 149) := by rw [← hU, heap_setCell_same w p 9 _ _ _ hp]; rfl
  have hbp : bb ≠ p := fun e => by rw [e, hp] at hb; simp at hb
  have htp : t ≠ p := fun e => by rw [e, hp] at ht; simp at ht
  have q0U : U.cell? ⟨bb, 0, none⟩ = some (.pointer (some ⟨p, 0, none⟩)) := kU.cell' q0 hbp
  have p8U : U.cell? ⟨p, 8, none⟩ = some (.pointer (some ⟨t, 0, none⟩)) := by simp [World.cell?, hpU, bdC]
  have HE := hidM (end32 t U ((kU.block t (lt_of_heap ht) htp).trans ht))
  have HK := hidM kU
  have HP := hidM hpU
  clear hb hp ht kU hpU hbp htp hr
  refine callsD_of_wpS Tryz.func156 rfl fun c₀ cs hu => ?_
  apply wpS_seq
  apply wpS_seq
  apply wpS_region
  simp [wpOpsS, go_sem, recoverD, hu, Tryz.ntmps156, Exit.thenS]
  have HHU := hidM hu
  clear hu
  have htm : (#[Value.pointer (some ⟨bb, 0, none⟩), Value.pointer (some r)] ++ (Array.replicate 28 undef).setIfInBounds 3 Value.nilIface : Array Value) = #[Value.pointer (some ⟨bb, 0, none⟩), .pointer (some r), undef, undef, undef, .nilIface, undef, undef, undef, undef, undef, undef, undef, undef, undef, undef, undef, undef, undef, undef, undef, undef, undef, undef, undef, undef, undef, undef, undef, undef] := by kernel_rfl
  rw [htm]
  clear htm
  refine wpS_of_wp ?_
  refine wp_hid ?_
  go_wp2_with fail
  unfold Hid
  show Code.wpS _ _ _ _ _ _
  refine wpS_of_wp ?_
  refine wp_hid ?_
  go_wp2_with (go_at_call 158; refine HE.out.mono ?_; rintro e w2 ⟨rfl, g⟩; have HG := hidM g; clear g)
  unfold Hid
  have hk : Keeps w w2 (fun z => z = p) := HK.out.trans HG.out (fun _ _ h => h.elim)
  have hp : w2.heap[p]? = some (.cells (bdC nu fo fc n t (rows + 1)) 149) := (HG.out.block p (lt_of_heap HP.out) id).trans HP.out
  have hu := HHU.out
  cases c₀
  simp_all [bodyPostS, results, Tryz.results156]
def IsD (B : Nat) (w : World) (k : Nat) : Prop := B ≤ k ∧ ∃ cs ty fz, w.heap[k]? = some (.cells cs ty fz) ∧ (ty = 149 ∨ ty = 212 ∨ ty = 344 ∨ ty = 4 ∨ ty = 2)
def FrD (B : Nat) (w W : World) : Prop := Keeps w W (IsD B w)
theorem Gr.frD {B : Nat} {w W : World} (g : Gr w W) : FrD B w W := g.mono (fun _ _ h => h.elim)
theorem FrN.frD {B : Nat} {w W : World} (g : FrN B w W) : FrD B w W := g.mono (fun k _ h => by
  obtain ⟨h1, cs, ty, fz, h2, h3⟩ := h
  exact ⟨h1, cs, ty, fz, h2, .inr h3⟩)
theorem FrD.trans {B : Nat} {u v w : World} (h : FrD B u v) (g : FrD B v w) : FrD B u w := by
  refine Keeps.trans h g (fun k hk ⟨hl, cs, ty, fz, e, ht⟩ => ?_)
  by_cases hi : IsD B u k
  · exact hi
  exact ⟨hl, cs, ty, fz, (h.block k hk hi) ▸ e, ht⟩
theorem FrD.low {B : Nat} {w W : World} (h : FrD B w W) {a : World} (g : Gr a w) (hB : a.heap.size ≤ B) : Gr a W := g.trans h (fun k hk q => by have := q.1; omega)
theorem take16 (B p n m t : Nat) (nu : Bool) (fo : Option Addr) (fc : Nat) (rows : Int) (wt : Int) (vo : Option Addr) (L vc : Nat) (bs : List Value) (lo : Option Addr) (lc : Nat) (xs : List Value) (vn : Bool) (x : Int) (xo : Option Addr) (xc : Nat) (W : World) (hp : W.heap[p]? = some (.cells (bdC nu fo fc n t rows) 149)) (h : Nd B W n m t nu wt vo L vc bs lo lc xs) (hB : B ≤ W.heap.size) (hBp : B ≤ p) (hL : L ≤ 4000) (hw : 0 ≤ wt ∧ wt ≤ 1000000) (hr : 0 ≤ rows ∧ rows ≤ 100000) :
    Calls Tryz.prog 101 #[.pointer (some ⟨p, 0, none⟩), .agg #[.bool vn, .int .i64 x, .string ⟨#[]⟩, .slice xo 0 xc]] W fun e w' => e = .returned (.int .i64 0) ∧ FrD B W w' ∧ w'.heap[p]? = some (.cells (bdC nu fo fc n t (rows + 1)) 149) ∧ ∃ vo' vc' lo' lc', Nd B w' n m t nu (wt + 16) vo' (L + 1) vc' (bs ++ [.bool !vn]) lo' lc' (xs ++ [.int .i64 x]) := by
  have hmf : ∀ (fn : Fn) (first cap : Array Value) (w : World), (Instr.makeFunc fn first cap).run Tryz.prog w = .ok (.func fn first cap) w := fun _ _ _ _ => rfl
  obtain ⟨A, hA⟩ := ex (((W.alloc (.cells #[.pointer (some ⟨p, 0, none⟩)] 100)).alloc (.cells #[.bool vn, .int .i64 x, .string ⟨#[]⟩, .slice xo 0 xc] 98)).alloc (.cells #[.int .i64 0] 27))
  have gA : Gr W A := by rw [← hA]; exact ((gr_alloc W _).tr (gr_alloc _ _)).tr (gr_alloc _ _)
  have s1 : (W.alloc (.cells #[.pointer (some ⟨p, 0, none⟩)] 100)).heap.size = W.heap.size + 1 := by simp
  have s2 : ((W.alloc (.cells #[.pointer (some ⟨p, 0, none⟩)] 100)).alloc (.cells #[.bool vn, .int .i64 x, .string ⟨#[]⟩, .slice xo 0 xc] 98)).heap.size = W.heap.size + 1 + 1 := by simp
  have hb1 : A.heap[W.heap.size]? = some (.cells #[.pointer (some ⟨p, 0, none⟩)] 100) := by
    have e1 := heap_alloc_new W (.cells #[.pointer (some ⟨p, 0, none⟩)] 100)
    rw [← hA]
    exact ((((gr_alloc _ _).tr (gr_alloc _ _)) : Gr (W.alloc (.cells #[.pointer (some ⟨p, 0, none⟩)] 100)) _).block _ (lt_of_heap e1) id).trans e1
  have hb2 : A.heap[W.heap.size + 1]? = some (.cells #[.bool vn, .int .i64 x, .string ⟨#[]⟩, .slice xo 0 xc] 98) := by
    have e2 := heap_alloc_new (W.alloc (.cells #[.pointer (some ⟨p, 0, none⟩)] 100)) (.cells #[.bool vn, .int .i64 x, .string ⟨#[]⟩, .slice xo 0 xc] 98)
    rw [s1] at e2
    rw [← hA]
    exact ((gr_alloc _ _).block _ (lt_of_heap e2) id).trans e2
  have hb3 : A.heap[W.heap.size + 1 + 1]? = some (.cells #[.int .i64 0] 27) := by
    have e3 := heap_alloc_new ((W.alloc (.cells #[.pointer (some ⟨p, 0, none⟩)] 100)).alloc (.cells #[.bool vn, .int .i64 x, .string ⟨#[]⟩, .slice xo 0 xc] 98)) (.cells #[.int .i64 0] 27)
    rw [s2] at e3
    rw [← hA]
    exact e3
  have hpA := (gA.block p (lt_of_heap hp) id).trans hp
  have hS : ∀ u : World, u.heap[W.heap.size]? = some (.cells #[.pointer (some ⟨p, 0, none⟩)] 100) → u.heap[W.heap.size + 1]? = some (.cells #[.bool vn, .int .i64 x, .string ⟨#[]⟩, .slice xo 0 xc] 98) → u.heap[p]? = some (.cells (bdC nu fo fc n t rows) 149) → u.cell? ⟨W.heap.size, 0, none⟩ = some (.pointer (some ⟨p, 0, none⟩)) ∧ u.cell? ⟨p, 7, none⟩ = some (.pointer (some ⟨n, 0, none⟩)) ∧ u.cell? ⟨W.heap.size + 1, 0, none⟩ = some (.bool vn) ∧ u.cell? ⟨W.heap.size + 1, 1, none⟩ = some (.int .i64 x) ∧ u.cell? ⟨W.heap.size + 1, 2, none⟩ = some (.string ⟨#[]⟩) ∧ u.cell? ⟨W.heap.size + 1, 3, none⟩ = some (.slice xo 0 xc) := fun u a1 a2 a3 => by
    obtain ⟨q0, q1, q2, q3⟩ := cell4 a2
    exact ⟨by simp [World.cell?, a1], by simp [World.cell?, a3, bdC], q0, q1, q2, q3⟩
  have HS0 := hidM (hS A.drew hb1 hb2 hpA)
  have HT := hidM (take33 B n m t nu wt vo L vc bs lo lc xs vn x xo xc A.drew ((h.gr gA).gr gr_drew) (Nat.le_trans hB gA.size) hL hw)
  have HAf : Hid (∀ w1, FrN B A.drew w1 → (w1.heap[W.heap.size]? = some (.cells #[.pointer (some ⟨p, 0, none⟩)] 100) ∧ w1.heap[W.heap.size + 1]? = some (.cells #[.bool vn, .int .i64 x, .string ⟨#[]⟩, .slice xo 0 xc] 98) ∧ w1.heap[p]? = some (.cells (bdC nu fo fc n t rows) 149)) ∧ w1.heap[W.heap.size + 1 + 1]? = some (.cells #[.int .i64 0] 27)) := fun w1 f => ⟨⟨f.oth hb1 (by decide) (by decide) (by decide) (by decide), f.oth hb2 (by decide) (by decide) (by decide) (by decide), f.oth hpA (by decide) (by decide) (by decide) (by decide)⟩, f.oth hb3 (by decide) (by decide) (by decide) (by decide)⟩
  have HSS := hidM hS
  have HG := hidM gA
  clear h hp hb1 hb2 hb3 hpA gA hS s1 s2
  go_enter_defers Tryz.func101, Tryz.ntmps101
  go_wp2_with fail
  go_region_held3 (fun w' => w'.cell? ⟨W.heap.size, 0, none⟩ = some (.pointer (some ⟨p, 0, none⟩)) ∧ w'.cell? ⟨p, 7, none⟩ = some (.pointer (some ⟨n, 0, none⟩)) ∧ w'.cell? ⟨W.heap.size + 1, 0, none⟩ = some (.bool vn) ∧ w'.cell? ⟨W.heap.size + 1, 1, none⟩ = some (.int .i64 x) ∧ w'.cell? ⟨W.heap.size + 1, 2, none⟩ = some (.string ⟨#[]⟩) ∧ w'.cell? ⟨W.heap.size + 1, 3, none⟩ = some (.slice xo 0 xc)) (first | with_reducible exact HS0.out | with_reducible exact HS1.out) ((go_at_call 159; refine HT.out.mono ?_; rintro e w1 ⟨rfl, hf, hn⟩; have HF := hidM hf; have HN := hidM hn; obtain ⟨⟨a1, a2, a3⟩, a4⟩ := HAf.out w1 hf; have HS1 := hidM (HSS.out w1 a1 a2 a3); have HB4 := hidM (And.intro a1 (And.intro a3 a4)); have y0 : w1.cell? ⟨W.heap.size + 1 + 1, 0, none⟩ = some (.int .i64 0) := (by simp [World.cell?, a4]); have zz := frz a4 0; clear hf hn a1 a2 a3 a4))
  go_wp2_with fail
  have g2 : Gr w1 (w1.setCell ⟨W.heap.size + 1 + 1, 0, none⟩ (.int .i64 0)) := same_set HB4.out.2.2 rfl
  generalize w1.setCell ⟨W.heap.size + 1 + 1, 0, none⟩ (.int .i64 0) = U at g2 ⊢
  obtain ⟨hb1, hb3, hb4⟩ := HB4.out
  obtain ⟨vo', vc', lo', lc', hnd⟩ := HN.out
  have hU1 := (g2.block _ (lt_of_heap hb1) id).trans hb1
  have hU3 := (g2.block _ (lt_of_heap hb3) id).trans hb3
  have hU4 := (g2.block _ (lt_of_heap hb4) id).trans hb4
  have hnU := hnd.gr g2
  refine leaves_cons (f := 156) (args := #[.pointer (some ⟨W.heap.size, 0, none⟩), .pointer (some ⟨W.heap.size + 1 + 1, 0, none⟩)]) (by simp) (by simp [go_sem]) ?_
  refine (take30 W.heap.size ⟨W.heap.size + 1 + 1, 0, none⟩ p n t nu fo fc rows U hr hU1 hU3 hnU.ht).mono ?_
  rintro e u' w' ⟨rfl, rfl, k, hp'⟩
  have h4' : w'.heap[W.heap.size + 1 + 1]? = some (.cells #[.int .i64 0] 27) := (k.block _ (lt_of_heap hU4) (fun e => by rw [e, hU3] at hU4; simp at hU4)).trans hU4
  have y4 : w'.cell? ⟨W.heap.size + 1 + 1, 0, none⟩ = some (.int .i64 0) := by simp [World.cell?, h4']
  have hoth : ∀ {b ty : Nat} {c : Array Value}, U.heap[b]? = some (.cells c ty) → ty ≠ 149 → w'.heap[b]? = some (.cells c ty) := fun hb ht => (k.block _ (lt_of_heap hb) (fun e => by subst e; rw [hU3] at hb; simp at hb; exact ht hb.2.symm)).trans hb
  have hrow : ∀ {e N : Nat} {v : Value} {ys : List Value}, U.ownsRow 0 e 1 v N ys → e ≠ 149 → w'.ownsRow 0 e 1 v N ys := fun hr he => row_kp hr fun q e2 => k.block q (own_lt hr q e2) (fun e3 => by subst e3; exact own_ne hU3 hr (Ne.symm he) e2)
  have hfr : FrD B W w' := (((Gr.frD HG.out).trans (Gr.frD gr_drew)).trans HF.out.frD).trans ((Gr.frD g2).trans (k.mono fun z hz e => by subst e; exact ⟨hBp, _, 149, _, hU3, .inl rfl⟩))
  refine ⟨.int .i64 0, ?_, rfl, hfr, hp', vo', vc', lo', lc', hoth hnU.hn (by decide), hoth hnU.hm (by decide), hoth hnU.ht (by decide), hrow hnU.rv (by decide), hrow hnU.rl (by decide), hnU.low, hnU.bv, hnU.bl⟩
  simp [results, Tryz.f101, go_sem, y4]
end Go.Proofs.YtknnoiomdngmfaaGreatDoor.Kit
