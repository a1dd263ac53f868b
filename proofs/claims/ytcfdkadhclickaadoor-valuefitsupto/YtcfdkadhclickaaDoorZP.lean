import Derived.Test.YtcfdkadhclickaaDoorZM
import Derived.Deep.RegionHeld3
namespace Go.Proofs.YtcfdkadhclickaaDoor.Kit
open Go.RowKit Go.Shelf Go.Deep
set_option linter.unusedVariables false
attribute [local go_sem] run_store_func

/-! ### EqField 40, EqFields 53 of the same fields -/
set_option maxRecDepth 100000 in
set_option maxHeartbeats 4000000 in
theorem eqf40 (f0 : ByteArray) (f1 : Bool) (f2 f3 f4 f5 : Int) (xo yo : Option Addr) (n xc yc : Nat) (w : World) (h53 : Ans 53 #[.slice xo n xc, .slice yo n yc] true w) :
    Ans 40 #[.agg #[.string f0, .bool f1, .int .i64 f2, .int .i64 f3, .int .i64 f4, .int .i64 f5, .slice xo n xc], .agg #[.string f0, .bool f1, .int .i64 f2, .int .i64 f3, .int .i64 f4, .int .i64 f5, .slice yo n yc]] true w := by
  intro W g
  have H53 := hidM h53
  have HG := hidM g
  have HA : Hid (∀ o1 o2 o3 o4, Gr W ((((W.alloc o1).alloc o2).alloc o3).alloc o4).drew) := fun o1 o2 o3 o4 => ((((gr_alloc W o1).alloc o2).alloc o3).alloc o4).drew
  clear h53 g
  go_enter Tryd.func40, Tryd.ntmps40
  go_wp2
  go_region
  all_goals
    go_wp2_with (go_at_call 53; refine Hid.out ?_)
    unfold Hid
    refine Calls.mono (H53.out _ (HG.out.trans (HA.out _ _ _ _) (fun _ _ h => h))) ?_
    rintro e V1 ⟨rfl, hg1⟩
    have HE := hidM ((HA.out _ _ _ _).trans hg1 (fun _ _ h => h))
    clear hg1
    go_wp2_with fail
    go_ret
    exact ⟨rfl, HE.out⟩
set_option maxRecDepth 100000 in
set_option maxHeartbeats 4000000 in
theorem eqfs53 (S : Nat → Prop) (d : Nat) (w : World) (hS : ∀ b, S b → b < w.heap.size) (xo yo : Option Addr) (xc yc : Nat) (l : List FT) (hx : RowAt S w (d + 1) xo l) (hy : RowAt S w (d + 1) yo l)
    (h40 : ∀ (v : FT) (xo yo : Option Addr) (xc yc : Nat), v ∈ l → RowAt S w d xo v.kids → RowAt S w d yo v.kids → Ans 40 #[.agg #[.string v.name, .bool v.nul, .int .i64 v.kind, .int .i64 v.width, .int .i64 v.id, .int .i64 v.index, .slice xo v.kids.length xc], .agg #[.string v.name, .bool v.nul, .int .i64 v.kind, .int .i64 v.width, .int .i64 v.id, .int .i64 v.index, .slice yo v.kids.length yc]] true w) :
    Ans 53 #[.slice xo l.length xc, .slice yo l.length yc] true w := by
  intro W g0
  have hlen : l.length ≤ 1000000000000 := hx.len
  have HXr := hidM hx
  have HYr := hidM hy
  have HS := hidM hS
  have H40 := hidM h40
  have HG0 := hidM g0
  obtain ⟨n, hn⟩ : ∃ n, n = l.length := ⟨_, rfl⟩
  rw [← hn] at hlen ⊢
  have HN := hidM hn
  clear hx hy hS h40 g0 hn
  go_enter Tryd.func53, Tryd.ntmps53
  go_wp2
  go_loopw [13] (fun p wr => ∃ k : Nat, k ≤ n ∧ p = .int .i64 (k : Int) ∧ Hid (Gr W wr)) (fun p _ => n - (intOf p).toNat)
  case atStart => exact ⟨0, by omega, rfl, Keeps.refl _ _⟩
  case round =>
    obtain ⟨k, hk, rfl, HK⟩ := hrel
    by_cases hlt : k < n
    · have hkl : k < l.length := by have := HN.out; omega
      obtain ⟨x, o, rfl, hxb, hxs⟩ := HXr.out.2 (fun e => by subst e; simp at hkl)
      obtain ⟨y, u, rfl, hyb, hys⟩ := HYr.out.2 (fun e => by subst e; simp at hkl)
      obtain ⟨xo', xc', hc, hle, hr⟩ := hxs k hkl
      obtain ⟨yo', yc', hd, hle', hr'⟩ := hys k hkl
      have hcall := H40.out l[k] xo' yo' xc' yc' (List.getElem_mem hkl) hr hr'
      have gw : Gr w wr := HG0.out.trans HK.out (fun _ _ h => h)
      have g1 := hc.kept (gw.block x (HS.out x hxb) id)
      have g2 := hd.kept (gw.block y (HS.out y hyb) id)
      obtain ⟨f, hf⟩ : ∃ f, f = l[k]'hkl := ⟨_, rfl⟩
      rw [← hf] at g1 g2 hcall
      have H2 := hidM hcall
      have HC : Hid (wr.drew.cell? ⟨x, o + k * 7, none⟩ = some (.string f.name) ∧ wr.drew.cell? ⟨x, o + k * 7 + 1, none⟩ = some (.bool f.nul) ∧ wr.drew.cell? ⟨x, o + k * 7 + 2, none⟩ = some (.int .i64 f.kind) ∧ wr.drew.cell? ⟨x, o + k * 7 + 3, none⟩ = some (.int .i64 f.width) ∧ wr.drew.cell? ⟨x, o + k * 7 + 4, none⟩ = some (.int .i64 f.id) ∧ wr.drew.cell? ⟨x, o + k * 7 + 5, none⟩ = some (.int .i64 f.index) ∧ wr.drew.cell? ⟨x, o + k * 7 + 6, none⟩ = some (.slice xo' f.kids.length xc') ∧ wr.drew.cell? ⟨y, u + k * 7, none⟩ = some (.string f.name) ∧ wr.drew.cell? ⟨y, u + k * 7 + 1, none⟩ = some (.bool f.nul) ∧ wr.drew.cell? ⟨y, u + k * 7 + 2, none⟩ = some (.int .i64 f.kind) ∧ wr.drew.cell? ⟨y, u + k * 7 + 3, none⟩ = some (.int .i64 f.width) ∧ wr.drew.cell? ⟨y, u + k * 7 + 4, none⟩ = some (.int .i64 f.id) ∧ wr.drew.cell? ⟨y, u + k * 7 + 5, none⟩ = some (.int .i64 f.index) ∧ wr.drew.cell? ⟨y, u + k * 7 + 6, none⟩ = some (.slice yo' f.kids.length yc')) := ⟨g1.c0, g1.c1, g1.c2, g1.c3, g1.c4, g1.c5, g1.c6, g2.c0, g2.c1, g2.c2, g2.c3, g2.c4, g2.c5, g2.c6⟩
      have HGd : Hid (Gr w wr.drew) := gw.drew
      have hltI : (k : Int) < (n : Int) := by omega
      clear hxs hys hc hd hr hr' hcall hf hle hle' gw g1 g2
      go_wp2
      go_region_held3 (fun w' => w'.cell? ⟨x, o + k * 7, none⟩ = some (.string f.name) ∧ w'.cell? ⟨x, o + k * 7 + 1, none⟩ = some (.bool f.nul) ∧ w'.cell? ⟨x, o + k * 7 + 2, none⟩ = some (.int .i64 f.kind) ∧ w'.cell? ⟨x, o + k * 7 + 3, none⟩ = some (.int .i64 f.width) ∧ w'.cell? ⟨x, o + k * 7 + 4, none⟩ = some (.int .i64 f.id) ∧ w'.cell? ⟨x, o + k * 7 + 5, none⟩ = some (.int .i64 f.index) ∧ w'.cell? ⟨x, o + k * 7 + 6, none⟩ = some (.slice xo' f.kids.length xc') ∧ w'.cell? ⟨y, u + k * 7, none⟩ = some (.string f.name) ∧ w'.cell? ⟨y, u + k * 7 + 1, none⟩ = some (.bool f.nul) ∧ w'.cell? ⟨y, u + k * 7 + 2, none⟩ = some (.int .i64 f.kind) ∧ w'.cell? ⟨y, u + k * 7 + 3, none⟩ = some (.int .i64 f.width) ∧ w'.cell? ⟨y, u + k * 7 + 4, none⟩ = some (.int .i64 f.id) ∧ w'.cell? ⟨y, u + k * 7 + 5, none⟩ = some (.int .i64 f.index) ∧ w'.cell? ⟨y, u + k * 7 + 6, none⟩ = some (.slice yo' f.kids.length yc')) (first | with_reducible exact HC.out | with_reducible exact ⟨gr_c HE.out (HC.out.1), gr_c HE.out (HC.out.2.1), gr_c HE.out (HC.out.2.2.1), gr_c HE.out (HC.out.2.2.2.1), gr_c HE.out (HC.out.2.2.2.2.1), gr_c HE.out (HC.out.2.2.2.2.2.1), gr_c HE.out (HC.out.2.2.2.2.2.2.1), gr_c HE.out (HC.out.2.2.2.2.2.2.2.1), gr_c HE.out (HC.out.2.2.2.2.2.2.2.2.1), gr_c HE.out (HC.out.2.2.2.2.2.2.2.2.2.1), gr_c HE.out (HC.out.2.2.2.2.2.2.2.2.2.2.1), gr_c HE.out (HC.out.2.2.2.2.2.2.2.2.2.2.2.1), gr_c HE.out (HC.out.2.2.2.2.2.2.2.2.2.2.2.2.1), gr_c HE.out (HC.out.2.2.2.2.2.2.2.2.2.2.2.2.2)⟩) ((go_at_call 40; refine Calls.mono (H2.out _ HGd.out) ?_; rintro e w2 ⟨rfl, hg2⟩; have HE := hidM hg2; clear hg2))
      all_goals
        go_wp2_with fail
        go_roundw
        case rel => exact ⟨k + 1, by omega, by simp, HK.out.drew.trans HE.out (fun _ _ h => h)⟩
        case measure => simp [intOf]; omega
    · have hkn : k = n := by omega
      subst hkn
      go_wp2_with fail
      all_goals go_ret
      all_goals exact ⟨rfl, HK.out⟩
/-- all depths -/
theorem eqf_any (S : Nat → Prop) (w : World) (hS : ∀ b, S b → b < w.heap.size) : ∀ (d : Nat) (v : FT) (xo yo : Option Addr) (xc yc : Nat), RowAt S w d xo v.kids → RowAt S w d yo v.kids → Ans 40 #[.agg #[.string v.name, .bool v.nul, .int .i64 v.kind, .int .i64 v.width, .int .i64 v.id, .int .i64 v.index, .slice xo v.kids.length xc], .agg #[.string v.name, .bool v.nul, .int .i64 v.kind, .int .i64 v.width, .int .i64 v.id, .int .i64 v.index, .slice yo v.kids.length yc]] true w
  | 0, v, xo, yo, xc, yc, hx, hy => eqf40 _ _ _ _ _ _ _ _ _ _ _ w (eqfs53 S 0 w hS xo yo xc yc v.kids (hx.more (by omega)) (hy.more (by omega)) (fun g _ _ _ _ hg => by
      have e : v.kids = [] := hx
      rw [e] at hg
      cases hg))
  | d + 1, v, xo, yo, xc, yc, hx, hy => eqf40 _ _ _ _ _ _ _ _ _ _ _ w (eqfs53 S d w hS xo yo xc yc v.kids hx hy (fun g xo yo xc yc _ h1 h2 => eqf_any S w hS d g xo yo xc yc h1 h2))
end Go.Proofs.YtcfdkadhclickaaDoor.Kit
namespace Go.Proofs.YtcfdkadhclickaaDoor.Kit
open Go.RowKit Go.Shelf Go.Deep
set_option linter.unusedVariables false
attribute [local go_sem] run_store_func

/-! ### fitsAgain 17 -/
/-- k of the fields' Nullables are turned -/
structure Tog (V wr : World) (gb n k : Nat) : Prop where
  kp : Keeps V wr (fun z => z = gb)
  row : ∃ cur, wr.heap[gb]? = some (.cells cur 26 (0, 0)) ∧ cur.size = n * 7
  old : ∀ j, (∀ i, i < k → j ≠ i * 7 + 1) → wr.cell? ⟨gb, j, none⟩ = V.cell? ⟨gb, j, none⟩
  new : ∀ i, i < k → ∀ b, V.cell? ⟨gb, i * 7 + 1, none⟩ = some (.bool b) → wr.cell? ⟨gb, i * 7 + 1, none⟩ = some (.bool (!b))
theorem Tog.next {V wr : World} {gb n k : Nat} {b : Bool} (h : Tog V wr gb n k) (hk : k < n) (hb : V.cell? ⟨gb, k * 7 + 1, none⟩ = some (.bool b)) : Tog V (wr.setCell ⟨gb, k * 7 + 1, none⟩ (.bool (!b))) gb n (k + 1) := by
  obtain ⟨cur, hr, hs⟩ := h.row
  refine ⟨h.kp.setCell (p := ⟨gb, k * 7 + 1, none⟩) (fun _ => rfl) _, ⟨_, heap_setCell_same wr gb _ cur 26 _ hr, by simpa using hs⟩, fun j hj => ?_, fun i hi b' hb' => ?_⟩
  · rw [cell_set_ne (hj k (by omega))]
    exact h.old j fun i hi => hj i (by omega)
  · by_cases e : i = k
    · subst e
      rw [hb] at hb'
      cases hb'
      exact cell_set_same hr (by omega)
    · rw [cell_set_ne (by omega)]
      exact h.new i (by omega) b' hb'
theorem Tog.drew {V wr : World} {gb n k : Nat} (h : Tog V wr gb n k) : Tog V wr.drew gb n k := ⟨h.kp.drew, h.row, h.old, h.new⟩
/-- two zero values of the same data are the same -/
theorem zsame {W : World} {D lo hi lo' hi' : Nat} {v : VT} {o o' : Option Addr} {c c' : Nat} (h1 : ZRow W D lo hi o c v.list) (e1 : hi ≤ W.heap.size) (h2 : ZRow W D lo' hi' o' c' v.list) (e2 : hi' ≤ W.heap.size) :
    Ans 14 #[.agg #[.bool v.nul, .int .i64 v.num, .string v.text, .slice o v.list.length c], .agg #[.bool v.nul, .int .i64 v.num, .string v.text, .slice o' v.list.length c']] true W := by
  have r1 := h1.row.wide (T := fun z => z < W.heap.size) fun z hz => by omega
  have r2 := h2.row.wide (T := fun z => z < W.heap.size) fun z hz => by omega
  have := same14_any _ W (fun _ h => h) D v v o o' c c' r1 r2
  rwa [(same_iff D v v r1.deep r1.deep).2 rfl] at this
/-- behind the fields' turning -/
structure Ag3 (W : World) (g t : Value) : Prop where
  fit : ∃ e, IAns 7 #[g, t] e W ∧ IAns 6 #[g, t] e W
  zero : ∃ v er D, ZeR 12 W g D v er ∧ ZeR 13 W g D v er
/-- behind the value's -/
structure Ag2 (V : World) (g t : Value) (gb n : Nat) : Prop where
  fit : ∃ e, IAns 7 #[g, t] e V ∧ IAns 6 #[g, t] e V
  row : ∃ cur, V.heap[gb]? = some (.cells cur 26 (0, 0)) ∧ cur.size = n * 7
  nul : ∀ i, i < n → ∃ b, V.cell? ⟨gb, i * 7 + 1, none⟩ = some (.bool b)
  tog : ∀ V' W, Gr V V' → Tog V' W gb n n → Ag3 W g t
theorem IAns.at {F : Nat} {args : Array Value} {z : Int} {w W : World} (h : IAns F args z w) (g : Gr w W) : Calls Tryd.prog F args W fun e w' => e = .returned (.int .i64 z) ∧ Gr W w' := h W g
set_option maxRecDepth 100000 in
set_option maxHeartbeats 8000000 in
theorem again17 (f0 : ByteArray) (f1 : Bool) (f2 f3 f4 f5 : Int) (gb : Nat) (ao : Option Addr) (n ca : Nat) (t0 : Bool) (t1 : Int) (t2 : ByteArray) (tb m : Nat) (w : World) (lo' hi' : Nat) (e1 : Int) (hnn : n ≤ 1000000000000 ∧ hi' ≤ w.heap.size ∧ gb < w.heap.size)
    (h40 : Ans 40 #[.agg #[.string f0, .bool f1, .int .i64 f2, .int .i64 f3, .int .i64 f4, .int .i64 f5, .slice (some ⟨gb, 0, none⟩) n n], .agg #[.string f0, .bool f1, .int .i64 f2, .int .i64 f3, .int .i64 f4, .int .i64 f5, .slice ao n ca]] true w) (h6 : IAns 6 #[.agg #[.string f0, .bool f1, .int .i64 f2, .int .i64 f3, .int .i64 f4, .int .i64 f5, .slice (some ⟨gb, 0, none⟩) n n], .agg #[.bool t0, .int .i64 t1, .string t2, .slice (some ⟨tb, 0, none⟩) m (m + 2)]] e1 w) (h7 : IAns 7 #[.agg #[.string f0, .bool f1, .int .i64 f2, .int .i64 f3, .int .i64 f4, .int .i64 f5, .slice ao n ca], .agg #[.bool t0, .int .i64 t1, .string t2, .slice (some ⟨tb, 0, none⟩) m (m + 2)]] e1 w)
    (hturn : ∀ W, Gr w W → Calls Tryd.prog 23 #[.slice (some ⟨tb, 0, none⟩) m (m + 2)] W fun e w' => e = .returned (.tuple #[]) ∧ Keeps W w' (fun z => lo' ≤ z ∧ z < hi') ∧ Ag2 w' (.agg #[.string f0, .bool f1, .int .i64 f2, .int .i64 f3, .int .i64 f4, .int .i64 f5, .slice (some ⟨gb, 0, none⟩) n n]) (.agg #[.bool t0, .int .i64 t1, .string t2, .slice (some ⟨tb, 0, none⟩) m (m + 2)]) gb n) :
    ∀ W, Gr w W → Calls Tryd.prog 17 #[.agg #[.string f0, .bool f1, .int .i64 f2, .int .i64 f3, .int .i64 f4, .int .i64 f5, .slice (some ⟨gb, 0, none⟩) n n], .agg #[.bool t0, .int .i64 t1, .string t2, .slice (some ⟨tb, 0, none⟩) m (m + 2)], .agg #[.string f0, .bool f1, .int .i64 f2, .int .i64 f3, .int .i64 f4, .int .i64 f5, .slice ao n ca]] W fun e w' => e = .returned (.bool true) ∧ Keeps W w' (fun z => (lo' ≤ z ∧ z < hi') ∨ z = gb) := by
  intro W g
  have hnl := hnn.1
  have H40 := hidM h40
  have H6 := hidM h6
  have H7 := hidM h7
  have HT := hidM hturn
  have HN := hidM hnn
  obtain ⟨V, hV⟩ : ∃ V, ((W.alloc (.cells #[.string f0, .bool f1, .int .i64 f2, .int .i64 f3, .int .i64 f4, .int .i64 f5, .slice (some ⟨gb, 0, none⟩) n n] 26)).alloc (.cells #[.bool t0, .int .i64 t1, .string t2, .slice (some ⟨tb, 0, none⟩) m (m + 2)] 29)).alloc (.cells #[.string f0, .bool f1, .int .i64 f2, .int .i64 f3, .int .i64 f4, .int .i64 f5, .slice ao n ca] 26) = V := ⟨_, rfl⟩
  have hA := alloc3 W (.cells #[.string f0, .bool f1, .int .i64 f2, .int .i64 f3, .int .i64 f4, .int .i64 f5, .slice (some ⟨gb, 0, none⟩) n n] 26) (.cells #[.bool t0, .int .i64 t1, .string t2, .slice (some ⟨tb, 0, none⟩) m (m + 2)] 29) (.cells #[.string f0, .bool f1, .int .i64 f2, .int .i64 f3, .int .i64 f4, .int .i64 f5, .slice ao n ca] 26)
  have HBg : Hid (B7 V W.heap.size f0 f1 f2 f3 f4 f5 (some ⟨gb, 0, none⟩) n n) := by rw [← hV]; exact hA.1
  have HBt : Hid (B4 V (W.heap.size + 1) t0 t1 t2 (some ⟨tb, 0, none⟩) m (m + 2)) := by rw [← hV]; exact hA.2.1
  have HBf : Hid (B7 V (W.heap.size + 1 + 1) f0 f1 f2 f3 f4 f5 ao n ca) := by rw [← hV]; exact hA.2.2.1
  have HGW : Hid (Gr W V) := by rw [← hV]; exact (((Keeps.refl W _).alloc _).alloc _).alloc _
  have HQ := hidM (g.trans HGW.out (fun _ _ h => h))
  have HWs : Hid (w.heap.size ≤ W.heap.size) := g.size
  have HGv : Hid (Gr V V) := Keeps.refl _ _
  have HV := hidM hV
  obtain ⟨X, hX⟩ : ∃ X, X = W.heap.size := ⟨_, rfl⟩
  clear h40 h6 h7 hturn hnn hV hA g
  go_enter Tryd.func17, Tryd.ntmps17
  go_wp2_with (go_at_call 40; refine Hid.out ?_)
  unfold Hid
  rw [HV.out]
  refine Calls.mono (H40.out _ HQ.out) ?_
  rintro e' V1 ⟨rfl, hg⟩
  replace HBg := hidM ((hg.block _ (lt_of_heap HBg.out) (id)).trans HBg.out)
  replace HBt := hidM ((hg.block _ (lt_of_heap HBt.out) (id)).trans HBt.out)
  replace HBf := hidM ((hg.block _ (lt_of_heap HBf.out) (id)).trans HBf.out)
  replace HQ := hidM (HQ.out.trans hg (fun _ _ h => h))
  replace HGv := hidM (HGv.out.trans hg (fun _ _ h => h))
  clear hg 
  rw [← hX] at HBg HBt HBf ⊢
  have HX := hidM hX
  clear hX
  obtain ⟨p0, p1, p2, p3, p4, p5, p6⟩ := B7.cells HBg.out
  obtain ⟨q0, q1, q2, q3⟩ := B4.cells HBt.out
  go_wp2_with (go_at_call 6; refine Hid.out ?_)
  unfold Hid
  refine Calls.mono (H6.out _ HQ.out) ?_
  rintro e' V2 ⟨rfl, hg⟩
  replace HBg := hidM ((hg.block _ (lt_of_heap HBg.out) (id)).trans HBg.out)
  replace HBt := hidM ((hg.block _ (lt_of_heap HBt.out) (id)).trans HBt.out)
  replace HBf := hidM ((hg.block _ (lt_of_heap HBf.out) (id)).trans HBf.out)
  replace HQ := hidM (HQ.out.trans hg (fun _ _ h => h))
  replace HGv := hidM (HGv.out.trans hg (fun _ _ h => h))
  clear hg p0 p1 p2 p3 p4 p5 p6 q0 q1 q2 q3
  obtain ⟨r0, r1, r2, r3, r4, r5, r6⟩ := B7.cells HBf.out
  obtain ⟨q0, q1, q2, q3⟩ := B4.cells HBt.out
  go_wp2_with (go_at_call 7; refine Hid.out ?_)
  unfold Hid
  refine Calls.mono (H7.out _ HQ.out) ?_
  rintro e' V3 ⟨rfl, hg⟩
  replace HBg := hidM ((hg.block _ (lt_of_heap HBg.out) (id)).trans HBg.out)
  replace HBt := hidM ((hg.block _ (lt_of_heap HBt.out) (id)).trans HBt.out)
  replace HBf := hidM ((hg.block _ (lt_of_heap HBf.out) (id)).trans HBf.out)
  replace HQ := hidM (HQ.out.trans hg (fun _ _ h => h))
  replace HGv := hidM (HGv.out.trans hg (fun _ _ h => h))
  clear hg r0 r1 r2 r3 r4 r5 r6 q0 q1 q2 q3
  obtain ⟨q0, q1, q2, q3⟩ := B4.cells HBt.out
  go_wp2_with (go_at_call 23; refine Hid.out ?_)
  unfold Hid
  refine Calls.mono (HT.out _ HQ.out) ?_
  rintro e' V4 ⟨rfl, hk, hp⟩
  replace HBg := hidM ((hk.block _ (lt_of_heap HBg.out) (fun h => by have := HN.out; have := HWs.out; have := HX.out; omega)).trans HBg.out)
  replace HBt := hidM ((hk.block _ (lt_of_heap HBt.out) (fun h => by have := HN.out; have := HWs.out; have := HX.out; omega)).trans HBt.out)
  replace HBf := hidM ((hk.block _ (lt_of_heap HBf.out) (fun h => by have := HN.out; have := HWs.out; have := HX.out; omega)).trans HBf.out)
  have HKW : Hid (Keeps W V4 (fun z => (lo' ≤ z ∧ z < hi') ∨ z = gb)) := ((HGW.out.trans HGv.out (fun _ _ h => h)).mono fun _ _ h => h.elim).trans hk (fun _ _ h => .inl h)
  have HP := hidM hp
  clear hk hp q0 q1 q2 q3 HQ HGW
  have HQ : Hid (Gr V4 V4) := Keeps.refl _ _
  obtain ⟨e2, hf7, hf6⟩ := HP.out.fit
  have HF7 := hidM hf7
  have HF6 := hidM hf6
  clear hf7 hf6
  obtain ⟨p0, p1, p2, p3, p4, p5, p6⟩ := B7.cells HBg.out
  obtain ⟨q0, q1, q2, q3⟩ := B4.cells HBt.out
  go_wp2_with (go_at_call 7; refine Hid.out ?_)
  unfold Hid
  refine Calls.mono (HF7.out _ HQ.out) ?_
  rintro e' V5 ⟨rfl, hg⟩
  replace HBg := hidM ((hg.block _ (lt_of_heap HBg.out) (id)).trans HBg.out)
  replace HBt := hidM ((hg.block _ (lt_of_heap HBt.out) (id)).trans HBt.out)
  replace HBf := hidM ((hg.block _ (lt_of_heap HBf.out) (id)).trans HBf.out)
  replace HQ := hidM (HQ.out.trans hg (fun _ _ h => h))
  clear hg p0 p1 p2 p3 p4 p5 p6 q0 q1 q2 q3
  obtain ⟨p0, p1, p2, p3, p4, p5, p6⟩ := B7.cells HBg.out
  obtain ⟨q0, q1, q2, q3⟩ := B4.cells HBt.out
  go_wp2_with (go_at_call 6; refine Hid.out ?_)
  unfold Hid
  refine Calls.mono (HF6.out _ HQ.out) ?_
  rintro e' V6 ⟨rfl, hg⟩
  replace HBg := hidM ((hg.block _ (lt_of_heap HBg.out) (id)).trans HBg.out)
  replace HBt := hidM ((hg.block _ (lt_of_heap HBt.out) (id)).trans HBt.out)
  replace HBf := hidM ((hg.block _ (lt_of_heap HBf.out) (id)).trans HBf.out)
  replace HQ := hidM (HQ.out.trans hg (fun _ _ h => h))
  clear hg p0 p1 p2 p3 p4 p5 p6 q0 q1 q2 q3
  have HTg : Hid (Tog V6 V6 gb n 0) := ⟨Keeps.refl _ _, by obtain ⟨cur, h1, h2⟩ := HP.out.row; exact ⟨cur, (HQ.out.block gb (lt_of_heap h1) id).trans h1, h2⟩, fun _ _ => rfl, fun i hi => by omega⟩
  have HNl : Hid (∀ i, i < n → ∃ b, V6.cell? ⟨gb, i * 7 + 1, none⟩ = some (.bool b)) := fun i hi => by obtain ⟨b, hb⟩ := HP.out.nul i hi; exact ⟨b, gr_c HQ.out hb⟩
  obtain ⟨p0, p1, p2, p3, p4, p5, p6⟩ := B7.cells HBg.out
  go_wp2_with fail
  clear p0 p1 p2 p3 p4 p5 p6
  go_loopw [11] (fun p wr => ∃ k : Nat, k ≤ n ∧ p = .int .i64 (k : Int) ∧ Hid (Tog V6 wr gb n k)) (fun p _ => n - (intOf p).toNat)
  case atStart => exact ⟨0, by omega, rfl, HTg.out⟩
  case round =>
    obtain ⟨k, hk, rfl, HK⟩ := hrel
    have hgX : gb < X := by have := HN.out; have := HWs.out; have := HX.out; omega
    replace HBg := hidM ((HK.out.kp.block _ (lt_of_heap HBg.out) (by omega)).trans HBg.out)
    replace HBt := hidM ((HK.out.kp.block _ (lt_of_heap HBt.out) (by omega)).trans HBt.out)
    replace HBf := hidM ((HK.out.kp.block _ (lt_of_heap HBf.out) (by omega)).trans HBf.out)
    obtain ⟨p0, p1, p2, p3, p4, p5, p6⟩ := B7.cells HBg.out
    by_cases hlt : k < n
    · obtain ⟨b, hb⟩ := HNl.out k hlt
      have hbw : wr.cell? ⟨gb, k * 7 + 1, none⟩ = some (.bool b) := (HK.out.old _ (fun i hi => by omega)).trans hb
      obtain ⟨cur, hr, hs⟩ := HK.out.row
      have hfz := frz hr (k * 7 + 1)
      have HNx := hidM (HK.out.next hlt hb)
      have hltI : (k : Int) < (n : Int) := by omega
      clear hb hr hs HK
      go_wp2
      go_region
      all_goals
        go_wp2_with fail
        exact ⟨⟨k + 1, by omega, by simp, HNx.out.drew⟩, by simp [intOf]; omega⟩
    · have hkn : k = n := by omega
      subst hkn
      have HA3 := hidM (HP.out.tog V6 wr HQ.out HK.out)
      have HKW2 : Hid (Keeps W wr (fun z => (lo' ≤ z ∧ z < hi') ∨ z = gb)) := (HKW.out.trans (HQ.out.mono fun _ _ h => h.elim) (fun _ _ h => h)).trans HK.out.kp (fun _ _ h => .inr h)
      clear HK HKW HTg HNl HP HQ HF7 HF6 HGv H40 H6 H7 HT
      clear p0 p1 p2 p3 p4 p5 p6
      have HQ : Hid (Gr wr wr) := Keeps.refl _ _
      obtain ⟨e3, hf7, hf6⟩ := HA3.out.fit
      have HF7 := hidM hf7
      have HF6 := hidM hf6
      clear hf7 hf6
      obtain ⟨v, er, D, hz12, hz13⟩ := HA3.out.zero
      have HZ12 := hidM hz12
      have HZ13 := hidM hz13
      clear hz12 hz13
      obtain ⟨p0, p1, p2, p3, p4, p5, p6⟩ := B7.cells HBg.out
      obtain ⟨q0, q1, q2, q3⟩ := B4.cells HBt.out
      go_wp2_with (go_at_call 7; refine Hid.out ?_)
      unfold Hid
      refine Calls.mono (HF7.out _ HQ.out) ?_
      rintro e' V7 ⟨rfl, hg⟩
      replace HBg := hidM ((hg.block _ (lt_of_heap HBg.out) (id)).trans HBg.out)
      replace HBt := hidM ((hg.block _ (lt_of_heap HBt.out) (id)).trans HBt.out)
      replace HBf := hidM ((hg.block _ (lt_of_heap HBf.out) (id)).trans HBf.out)
      replace HQ := hidM (HQ.out.trans hg (fun _ _ h => h))
      clear hg p0 p1 p2 p3 p4 p5 p6 q0 q1 q2 q3
      obtain ⟨p0, p1, p2, p3, p4, p5, p6⟩ := B7.cells HBg.out
      obtain ⟨q0, q1, q2, q3⟩ := B4.cells HBt.out
      go_wp2_with (go_at_call 6; refine Hid.out ?_)
      unfold Hid
      refine Calls.mono (HF6.out _ HQ.out) ?_
      rintro e' V8 ⟨rfl, hg⟩
      replace HBg := hidM ((hg.block _ (lt_of_heap HBg.out) (id)).trans HBg.out)
      replace HBt := hidM ((hg.block _ (lt_of_heap HBt.out) (id)).trans HBt.out)
      replace HBf := hidM ((hg.block _ (lt_of_heap HBf.out) (id)).trans HBf.out)
      replace HQ := hidM (HQ.out.trans hg (fun _ _ h => h))
      clear hg p0 p1 p2 p3 p4 p5 p6 q0 q1 q2 q3
      obtain ⟨p0, p1, p2, p3, p4, p5, p6⟩ := B7.cells HBg.out
      go_wp2_with (go_at_call 12; refine Hid.out ?_)
      unfold Hid
      refine Calls.mono (HZ12.out _ HQ.out) ?_
      rintro e' V9 ⟨o, c, rfl, hg, hz⟩
      replace HBg := hidM ((hg.block _ (lt_of_heap HBg.out) (id)).trans HBg.out)
      replace HBt := hidM ((hg.block _ (lt_of_heap HBt.out) (id)).trans HBt.out)
      replace HBf := hidM ((hg.block _ (lt_of_heap HBf.out) (id)).trans HBf.out)
      replace HQ := hidM (HQ.out.trans hg (fun _ _ h => h))
      obtain ⟨VA, hVA⟩ : ∃ VA, V9.alloc (.cells #[.bool v.nul, .int .i64 v.num, .string v.text, .slice o v.list.length c] 29) = VA := ⟨_, rfl⟩
      have gA : Gr V9 VA := by rw [← hVA]; exact gr_alloc V9 _
      have bX : B4 VA V9.heap.size v.nul v.num v.text o v.list.length c := by unfold B4; rw [← hVA]; exact heap_alloc_new V9 _
      have HZx : Hid (ZRow VA D V8.heap.size V9.heap.size o c v.list) := hz.kept fun b _ h2 => gA.block b h2 id
      obtain ⟨Cx, hCx⟩ : ∃ Cx, Cx = V9.heap.size := ⟨_, rfl⟩
      rw [← hCx] at HZx bX
      have HbX := hidM bX
      have HsA : Hid (Cx ≤ VA.heap.size) := by rw [hCx]; exact gA.size
      clear hg hz bX p0 p1 p2 p3 p4 p5 p6
      have hg := gA
      replace HBg := hidM ((hg.block _ (lt_of_heap HBg.out) (id)).trans HBg.out)
      replace HBt := hidM ((hg.block _ (lt_of_heap HBt.out) (id)).trans HBt.out)
      replace HBf := hidM ((hg.block _ (lt_of_heap HBf.out) (id)).trans HBf.out)
      replace HQ := hidM (HQ.out.trans hg (fun _ _ h => h))
      clear hg gA
      obtain ⟨p0, p1, p2, p3, p4, p5, p6⟩ := B7.cells HBg.out
      go_wp2_with (go_at_call 13; refine Hid.out ?_)
      unfold Hid
      clear hVA
      rw [← hCx]
      clear hCx
      refine Calls.mono (HZ13.out _ HQ.out) ?_
      rintro e' VB ⟨o', c', rfl, hg, hz⟩
      replace HBg := hidM ((hg.block _ (lt_of_heap HBg.out) (id)).trans HBg.out)
      replace HBt := hidM ((hg.block _ (lt_of_heap HBt.out) (id)).trans HBt.out)
      replace HBf := hidM ((hg.block _ (lt_of_heap HBf.out) (id)).trans HBf.out)
      replace HQ := hidM (HQ.out.trans hg (fun _ _ h => h))
      obtain ⟨VC, hVC⟩ : ∃ VC, VB.alloc (.cells #[.bool v.nul, .int .i64 v.num, .string v.text, .slice o' v.list.length c'] 29) = VC := ⟨_, rfl⟩
      have gC : Gr VB VC := by rw [← hVC]; exact gr_alloc VB _
      have bY : B4 VC VB.heap.size v.nul v.num v.text o' v.list.length c' := by unfold B4; rw [← hVC]; exact heap_alloc_new VB _
      have gAC := hg.trans gC (fun _ _ h => h)
      have bX : B4 VC Cx v.nul v.num v.text o v.list.length c := (gAC.block _ (lt_of_heap HbX.out) id).trans HbX.out
      have HSm : Hid (Ans 14 #[.agg #[.bool v.nul, .int .i64 v.num, .string v.text, .slice o v.list.length c], .agg #[.bool v.nul, .int .i64 v.num, .string v.text, .slice o' v.list.length c']] true VC) := zsame (HZx.out.kept fun b _ h2 => gAC.block b (Nat.lt_of_lt_of_le h2 HsA.out) id) (Nat.le_trans HsA.out gAC.size) (hz.kept fun b _ h2 => gC.block b h2 id) gC.size
      obtain ⟨x0, x1, x2, x3⟩ := B4.cells bX
      obtain ⟨y0, y1, y2, y3⟩ := B4.cells bY
      replace HQ := hidM (HQ.out.trans gC (fun _ _ h => h))
      clear hg hz bX bY gC gAC p0 p1 p2 p3 p4 p5 p6
      go_wp2_with (go_at_call 14; refine Hid.out ?_)
      unfold Hid
      clear hVC
      refine Calls.mono (HSm.out _ (Keeps.refl _ _)) ?_
      rintro e' VD ⟨rfl, hg⟩
      have HKF : Hid (Keeps W VD (fun z => (lo' ≤ z ∧ z < hi') ∨ z = gb)) := (HKW2.out.trans (HQ.out.mono fun _ _ h => h.elim) (fun _ _ h => h)).trans (hg.mono fun _ _ h => h.elim) (fun _ _ h => h)
      clear hg x0 x1 x2 x3 y0 y1 y2 y3
      go_wp2_with fail
      all_goals go_ret
      all_goals exact ⟨by first | rfl | simp, HKF.out⟩
end Go.Proofs.YtcfdkadhclickaaDoor.Kit
namespace Go.Proofs.YtcfdkadhclickaaDoor.Kit
open Go.RowKit Go.Shelf Go.Deep
set_option linter.unusedVariables false
attribute [local go_sem] run_store_func

/-! ### own 9 -/
theorem results_cell2f {fn : Func} {t a : Tmp} {tmps : Array Value} {g : Nat} {cs : Array Value} {w : World} (h : fn.results = #[.cell t 26, .tmp a]) (ht : tmps.getD t undef = .pointer (some ⟨g, 0, none⟩)) (hg : w.heap[g]? = some (.cells cs 26 (0, 0))) (hi : (Tryd.prog.info? 26).map (·.size) = some cs.size) :
    (results fn tmps).run Tryd.prog w = .ok (.tuple #[.agg cs, tmps.getD a undef]) w := by
  have hl := run_loadVar_row (P := Tryd.prog) w g 26 26 cs (0, 0) _ hg Tryd.underlying26 rfl hi
  unfold results
  rw [h]
  simp only [Array.mapM_eq_mapM_toList, List.mapM_cons, List.mapM_nil, ht]
  simp [asAddr, hl]
def OwnQ (W : World) (f : FT) (ao : Option Addr) (ca D : Nat) (e : Ending) (w' : World) : Prop := ∃ go gc few, e = .returned (.tuple #[.agg #[.string f.name, .bool f.nul, .int .i64 f.kind, .int .i64 f.width, .int .i64 f.id, .int .i64 f.index, .slice go f.kids.length gc], .bool few]) ∧ Gr W w' ∧ (few = false ∧ go = ao ∧ gc = ca ∨ few = true ∧ gc = f.kids.length ∧ CRow w' D W.heap.size w'.heap.size go f.kids)
set_option maxRecDepth 100000 in
set_option maxHeartbeats 4000000 in
theorem own9 {w : World} {D : Nat} {f : FT} {ao : Option Addr} {ca : Nat} (hf : RowAt (fun b => b < w.heap.size) w D ao f.kids) (hca : f.kids.length ≤ ca) :
    ∀ W, Gr w W → Calls Tryd.prog 9 #[.agg #[.string f.name, .bool f.nul, .int .i64 f.kind, .int .i64 f.width, .int .i64 f.id, .int .i64 f.index, .slice ao f.kids.length ca]] W (OwnQ W f ao ca (D + 1)) := by
  intro W g
  obtain ⟨V, hV⟩ : ∃ V, ((W.alloc (.cells #[.string f.name, .bool f.nul, .int .i64 f.kind, .int .i64 f.width, .int .i64 f.id, .int .i64 f.index, .slice ao f.kids.length ca] 26)).alloc (.cells #[.string ⟨#[]⟩, .bool false, .int .i64 0, .int .i64 0, .int .i64 0, .int .i64 0, .slice none 0 0] 26)).alloc (.cells #[.string f.name, .bool f.nul, .int .i64 f.kind, .int .i64 f.width, .int .i64 f.id, .int .i64 f.index, .slice ao f.kids.length ca] 26) = V := ⟨_, rfl⟩
  have hA := alloc3 W (.cells #[.string f.name, .bool f.nul, .int .i64 f.kind, .int .i64 f.width, .int .i64 f.id, .int .i64 f.index, .slice ao f.kids.length ca] 26) (.cells #[.string ⟨#[]⟩, .bool false, .int .i64 0, .int .i64 0, .int .i64 0, .int .i64 0, .slice none 0 0] 26) (.cells #[.string f.name, .bool f.nul, .int .i64 f.kind, .int .i64 f.width, .int .i64 f.id, .int .i64 f.index, .slice ao f.kids.length ca] 26)
  have Hb7 : Hid (B7 V W.heap.size f.name f.nul f.kind f.width f.id f.index ao f.kids.length ca) := by rw [← hV]; exact hA.1
  have HbR : Hid (B7 V (W.heap.size + 1) ⟨#[]⟩ false 0 0 0 0 none 0 0) := by rw [← hV]; exact hA.2.1
  have hb1 : B7 V (W.heap.size + 1 + 1) f.name f.nul f.kind f.width f.id f.index ao f.kids.length ca := by rw [← hV]; exact hA.2.2.1
  have gV : Gr W V := by rw [← hV]; exact (((Keeps.refl W _).alloc _).alloc _).alloc _
  have Hs : Hid (V.heap.size = W.heap.size + 3) := by show _ = _; rw [← hV]; simp
  have gw : Gr w V := g.trans gV (fun _ _ h => h)
  have hrow := row_alone hb1 (hf.kept fun b hb => gw.block b hb id) hca
  have H29 := hidM (small29 (w := V) (ca := 1) (fun c h => h.elim (fun h => Nat.lt_of_lt_of_le h gw.size) (fun h => by rw [h]; exact lt_of_heap hb1)) hrow)
  have H30 := hidM (copy_any _ w (fun _ h => h) D f ao ca hf)
  have HG := hidM gV
  have HGw := hidM gw
  have HV := hidM hV
  clear hf hca g hV hA hb1 gV gw hrow
  go_enter Tryd.func9, Tryd.ntmps9
  go_wp2_with (go_at_call 29; refine Hid.out ?_)
  unfold Hid
  rw [HV.out]
  refine Calls.mono (H29.out _ (Keeps.refl _ _)) ?_
  rintro e w1 ⟨few, rfl, hg⟩
  have HE1 := hidM hg
  have bR : B7 w1 (W.heap.size + 1) ⟨#[]⟩ false 0 0 0 0 none 0 0 := (hg.block _ (lt_of_heap HbR.out) id).trans HbR.out
  have b7 : B7 w1 W.heap.size f.name f.nul f.kind f.width f.id f.index ao f.kids.length ca := (hg.block _ (lt_of_heap Hb7.out) id).trans Hb7.out
  obtain ⟨r0, r1, r2, r3, r4, r5, r6⟩ := B7.cells bR
  have z0 := frz bR 0
  have z1 := frz bR 1
  have z2 := frz bR 2
  have z3 := frz bR 3
  have z4 := frz bR 4
  have z5 := frz bR 5
  have z6 := frz bR 6
  obtain ⟨p0, p1, p2, p3, p4, p5, p6⟩ := B7.cells b7
  have HbR1 := hidM bR
  clear bR b7
  clear hg
  cases few with
  | true =>
    go_wp2_with (go_at_call 30; refine Hid.out ?_)
    unfold Hid
    refine Calls.mono (H30.out _ (HGw.out.trans HE1.out (fun _ _ h => h))) ?_
    rintro e w2 ⟨b, rfl, hg2, hC⟩
    have hg := HE1.out.trans hg2 (fun _ _ h => h)
    have HE2 := hidM hg
    have HC := hidM (And.intro hC HE1.out.size)
    clear r0 r1 r2 r3 r4 r5 r6 z0 z1 z2 z3 z4 z5 z6 p0 p1 p2 p3 p4 p5 p6 HbR1
    have bR : B7 w2 (W.heap.size + 1) ⟨#[]⟩ false 0 0 0 0 none 0 0 := (hg.block _ (lt_of_heap HbR.out) id).trans HbR.out
    have b7 : B7 w2 W.heap.size f.name f.nul f.kind f.width f.id f.index ao f.kids.length ca := (hg.block _ (lt_of_heap Hb7.out) id).trans Hb7.out
    obtain ⟨r0, r1, r2, r3, r4, r5, r6⟩ := B7.cells bR
    have z0 := frz bR 0
    have z1 := frz bR 1
    have z2 := frz bR 2
    have z3 := frz bR 3
    have z4 := frz bR 4
    have z5 := frz bR 5
    have z6 := frz bR 6
    obtain ⟨p0, p1, p2, p3, p4, p5, p6⟩ := B7.cells b7
    have HbR1 := hidM bR
    clear bR b7
    clear hg hg2 hC
    go_wp2_with fail
    have hb3 := put7_box (.string f.name) (.bool f.nul) (.int .i64 f.kind) (.int .i64 f.width) (.int .i64 f.id) (.int .i64 f.index) (.slice (some ⟨b, 0, none⟩) f.kids.length f.kids.length) HbR1.out
    have k3 := put7_keeps w2 (W.heap.size + 1) (.string f.name) (.bool f.nul) (.int .i64 f.kind) (.int .i64 f.width) (.int .i64 f.id) (.int .i64 f.index) (.slice (some ⟨b, 0, none⟩) f.kids.length f.kids.length)
    have hsz := k3.size
    have hs := Hs.out
    (try simp only [Exit.inBlock, Exit.then])
    refine bodyPost_ret (results_cell2f rfl rfl hb3 (by kernel_rfl)) rfl ⟨_, _, _, rfl, ?_, ?_⟩
    · exact (HG.out.trans HE2.out (fun _ _ h => h)).trans k3 (fun j hj e => by omega)
    · exact .inr ⟨rfl, rfl, (HC.out.1.kept fun c h1 h2 => k3.block c h2 (by have := HC.out.2; omega)).wide (by have := HC.out.2; omega) hsz⟩
  | false =>
    go_wp2_with fail
    have hb3 := put7_box (.string f.name) (.bool f.nul) (.int .i64 f.kind) (.int .i64 f.width) (.int .i64 f.id) (.int .i64 f.index) (.slice ao f.kids.length ca) HbR1.out
    have k3 := put7_keeps w1 (W.heap.size + 1) (.string f.name) (.bool f.nul) (.int .i64 f.kind) (.int .i64 f.width) (.int .i64 f.id) (.int .i64 f.index) (.slice ao f.kids.length ca)
    have hsz := k3.size
    have hs := Hs.out
    (try simp only [Exit.inBlock, Exit.then])
    refine bodyPost_ret (results_cell2f rfl rfl hb3 (by kernel_rfl)) rfl ⟨_, _, _, rfl, ?_, ?_⟩
    · exact (HG.out.trans HE1.out (fun _ _ h => h)).trans k3 (fun j hj e => by omega)
    · exact .inl ⟨rfl, rfl, rfl⟩
end Go.Proofs.YtcfdkadhclickaaDoor.Kit
