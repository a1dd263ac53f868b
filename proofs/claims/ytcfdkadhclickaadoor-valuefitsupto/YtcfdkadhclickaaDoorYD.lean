import Derived.Test.YtcfdkadhclickaaDoorYA
import Derived.Test.YtcfdkadhclickaaDoorWC
namespace Go.Proofs.YtcfdkadhclickaaDoor.Kit
open Go.RowKit Go.Shelf Go.Deep
set_option linter.unusedVariables false
attribute [local go_sem] run_store_func

/-! ### Twin 10, Twins 31 -/
theorem TRow.wide {W : World} : ∀ {d lo hi lo' hi' : Nat} {ao : Option Addr} {l : List VT}, TRow W d lo hi ao l → lo' ≤ lo → hi ≤ hi' → TRow W d lo' hi' ao l
  | 0, _, _, _, _, _, _, h, _, _ => h
  | d + 1, lo, hi, lo', hi', ao, l, h, h1, h2 => by
    obtain ⟨hl, b, cur, rfl, hlo, hb, hs, hm, P, h0, hP, hh, hi'⟩ := h
    exact ⟨hl, b, cur, rfl, by omega, hb, hs, hm, P, h0, hP, by omega, hi'⟩
theorem put4_box {V : World} {Y : Nat} {x0 x1 x2 x3 : Value} (a b c d : Value) (h : V.heap[Y]? = some (.cells #[x0, x1, x2, x3] 29 (0, 0))) :
    ((((V.setCell ⟨Y, 0, none⟩ a).setCell ⟨Y, 1, none⟩ b).setCell ⟨Y, 2, none⟩ c).setCell ⟨Y, 3, none⟩ d).heap[Y]? = some (.cells #[a, b, c, d] 29 (0, 0)) := by
  have h1 := heap_setCell_same V Y 0 _ _ a h
  have h2 := heap_setCell_same _ Y 1 _ _ b h1
  have h3 := heap_setCell_same _ Y 2 _ _ c h2
  exact heap_setCell_same _ Y 3 _ _ d h3
/-- what Twins answers -/
def TwsC (w : World) (ao : Option Addr) (ca D : Nat) (l : List VT) : Prop := ∀ W, Gr w W → Calls Tryd.prog 31 #[.slice ao l.length ca] W fun e w' => ∃ b, e = .returned (.slice (some ⟨b, 0, none⟩) l.length (l.length + 2)) ∧ Gr W w' ∧ TRow w' D W.heap.size w'.heap.size (some ⟨b, 0, none⟩) l
/-- what Twin answers -/
def TwC (w : World) (v : VT) (ao : Option Addr) (ca D : Nat) : Prop := ∀ W, Gr w W → Calls Tryd.prog 10 #[.agg #[.bool v.nul, .int .i64 v.num, .string v.text, .slice ao v.list.length ca]] W fun e w' => ∃ b, e = .returned (.agg #[.bool v.nul, .int .i64 v.num, .string v.text, .slice (some ⟨b, 0, none⟩) v.list.length (v.list.length + 2)]) ∧ Gr W w' ∧ TRow w' D W.heap.size w'.heap.size (some ⟨b, 0, none⟩) v.list
set_option maxRecDepth 100000 in
set_option maxHeartbeats 2000000 in
theorem twin10 {w : World} {v : VT} {ao : Option Addr} {ca D : Nat} (h31 : TwsC w ao ca D v.list) : TwC w v ao ca D := by
  intro W g
  have H31 := hidM h31
  have HG := hidM g
  obtain ⟨l, hl⟩ : ∃ l, l = v.list := ⟨_, rfl⟩
  rw [← hl] at H31 ⊢
  obtain ⟨V, hV⟩ : ∃ V, (W.alloc (.cells #[.bool v.nul, .int .i64 v.num, .string v.text, .slice ao l.length ca] 29)).alloc (.cells #[.bool false, .int .i64 0, .string ⟨#[]⟩, .slice none 0 0] 29) = V := ⟨_, rfl⟩
  have hA := alloc3 W (.cells #[.bool v.nul, .int .i64 v.num, .string v.text, .slice ao l.length ca] 29) (.cells #[.bool false, .int .i64 0, .string ⟨#[]⟩, .slice none 0 0] 29) (.cells #[] 29)
  have gv : Gr W V := by rw [← hV]; exact ((Keeps.refl W _).alloc _).alloc _
  have ba : B4 V W.heap.size v.nul v.num v.text ao l.length ca := by
    unfold B4
    rw [← hV]
    exact (Below.heap_alloc (W.alloc _) _ W.heap.size (by simp)).trans (heap_alloc_new W _)
  have bb : B4 V (W.heap.size + 1) false 0 ⟨#[]⟩ none 0 0 := by
    unfold B4
    rw [← hV]
    have e := heap_alloc_new (W.alloc (.cells #[.bool v.nul, .int .i64 v.num, .string v.text, .slice ao l.length ca] 29)) (.cells #[.bool false, .int .i64 0, .string ⟨#[]⟩, .slice none 0 0] 29)
    rw [show (W.alloc (.cells #[.bool v.nul, .int .i64 v.num, .string v.text, .slice ao l.length ca] 29)).heap.size = W.heap.size + 1 by simp] at e
    exact e
  have hs : V.heap.size = W.heap.size + 2 := by rw [← hV]; simp
  have HBa := hidM ba
  have HBb := hidM bb
  have HGv := hidM gv
  have HV := hidM hV
  have Hs := hidM hs
  clear ba bb gv hV hA h31 g hl hs
  go_enter Tryd.func10, Tryd.ntmps10
  go_wp2_with (go_at_call 31; refine Hid.out ?_)
  unfold Hid
  rw [HV.out]
  refine Calls.mono (H31.out _ (HG.out.trans HGv.out (fun _ _ h => h))) ?_
  rintro e V1 ⟨b, rfl, hg1, hT⟩
  have b1 : B4 V1 W.heap.size v.nul v.num v.text ao l.length ca := (hg1.block _ (lt_of_heap HBa.out) id).trans HBa.out
  have b2 : B4 V1 (W.heap.size + 1) false 0 ⟨#[]⟩ none 0 0 := (hg1.block _ (lt_of_heap HBb.out) id).trans HBb.out
  obtain ⟨p0, p1, p2, p3⟩ := B4.cells b1
  obtain ⟨q0, q1, q2, q3⟩ := B4.cells b2
  have f3 := frz b1 3
  have g0 := frz b2 0
  have g1 := frz b2 1
  have g2 := frz b2 2
  have g3 := frz b2 3
  have HT := hidM hT
  have HG1 := hidM hg1
  clear hT hg1
  have HB2 := hidM b2
  clear b1 b2
  go_wp2_with fail
  obtain ⟨V2, hV2⟩ : ∃ V2, V1.setCell ⟨W.heap.size, 3, none⟩ (.slice (some ⟨b, 0, none⟩) l.length (l.length + 2)) = V2 := ⟨_, rfl⟩
  rw [hV2]
  have k2 : Keeps V1 V2 (fun z => z = W.heap.size) := by rw [← hV2]; exact (Keeps.refl V1 (fun z => z = W.heap.size)).setCell (p := ⟨W.heap.size, 3, none⟩) (fun _ => rfl) _
  have hb2 : V2.heap[W.heap.size + 1]? = _ := (k2.block _ (lt_of_heap HB2.out) (by omega)).trans HB2.out
  have hb3 := put4_box (.bool v.nul) (.int .i64 v.num) (.string v.text) (.slice (some ⟨b, 0, none⟩) l.length (l.length + 2)) hb2
  obtain ⟨V3, hV3⟩ : ∃ V3, (((V2.setCell ⟨W.heap.size + 1, 0, none⟩ (.bool v.nul)).setCell ⟨W.heap.size + 1, 1, none⟩ (.int .i64 v.num)).setCell ⟨W.heap.size + 1, 2, none⟩ (.string v.text)).setCell ⟨W.heap.size + 1, 3, none⟩ (.slice (some ⟨b, 0, none⟩) l.length (l.length + 2)) = V3 := ⟨_, rfl⟩
  rw [hV3] at hb3 ⊢
  have k3 : Keeps V1 V3 (fun z => z = W.heap.size ∨ z = W.heap.size + 1) := by
    rw [← hV3]
    exact ((((k2.mono fun _ _ h => .inl h).setCell (fun _ => .inr rfl) _).setCell (fun _ => .inr rfl) _).setCell (fun _ => .inr rfl) _).setCell (fun _ => .inr rfl) _
  have hs := Hs.out
  have hsz := k3.size
  refine bodyPost_ret (results_cell_row rfl _ _ _ _ _ _ _ rfl hb3 Tryd.underlying29 rfl (by kernel_rfl)) rfl ⟨b, rfl, ?_, ?_⟩
  · exact (HGv.out.trans HG1.out (fun _ _ h => h)).trans k3 (fun j hj e => by omega)
  · have hT := HT.out
    refine TRow.wide (TRow.kept hT fun c h1 h2 => k3.block c h2 (by omega)) (by omega) hsz
theorem info29 : (Tryd.prog.info? 29).map (fun i => (i.zero, i.size, i.bytes)) = some (some (.agg #[.bool false, .int .i64 0, .string ⟨#[]⟩, .slice none 0 0]), 4, 56) := by kernel_rfl
theorem make_vals (n : Nat) (h : n ≤ 1000000000000) : ∀ w, (Instr.makeSlice 27 (.int .i64 0) (.int .i64 ((n : Int) + 2))).run Tryd.prog w = .ok (.slice (some ⟨w.heap.size, 0, none⟩) 0 (n + 2)) (w.alloc (.cells (madeCells #[.bool false, .int .i64 0, .string ⟨#[]⟩, .slice none 0 0] ((n + 2) * 4)) 29)) := by
  intro w
  obtain ⟨i, hi, hzz⟩ := Option.map_eq_some_iff.1 info29
  simp only [Prod.mk.injEq] at hzz
  obtain ⟨hz, hs, hb⟩ := hzz
  have hb' : (i.bytes : Int) * ((n : Int) + 2) ≤ 281474976710656 := by rw [hb]; omega
  have hr := run_make (P := Tryd.prog) w 27 29 i _ Tryd.underlying27 hi hz .i64 .i64 0 ((n : Int) + 2) (by omega) (by omega) hb' (by omega)
  rw [hs, show (((n : Int) + 2)).toNat = n + 2 by omega] at hr
  exact hr
theorem src_val (w : World) (a b c d : Value) (h0 : a.oneCell' = true) (h1 : b.oneCell' = true) (h2 : c.oneCell' = true) (h3 : d.oneCell' = true) :
    Src Tryd.prog 4 27 (.slice (some ⟨w.heap.size, 0, none⟩) 1 1) 1 [a, b, c, d] (w.alloc (.cells #[a, b, c, d] 29)) := by
  refine Src.ofSlice _ Tryd.underlying27 _ _ _ _ rfl ?_ (by simp [h0, h1, h2, h3])
  intro k v hk
  match k, hk with
  | 0, hk => simp at hk; subst hk; simp [Addr.add]
  | 1, hk => simp at hk; subst hk; simp [Addr.add]
  | 2, hk => simp at hk; subst hk; simp [Addr.add]
  | 3, hk => simp at hk; subst hk; simp [Addr.add]
  | k + 4, hk => simp at hk
/-- a list of one's own while it grows: k values are there -/
structure TwI (wr : World) (X D n : Nat) (l : List VT) (k : Nat) : Prop where
  row : ∃ cur, wr.heap[X]? = some (.cells cur 29 (0, 0)) ∧ cur.size = (n + 2) * 4
  own : ∃ P : Nat → Nat, X < P 0 ∧ (∀ i, i < k → P i ≤ P (i + 1)) ∧ P k ≤ wr.heap.size ∧ ∀ i (h : i < l.length), i < k → ∃ ao', VCells wr X (i * 4) l[i] ao' (l[i].list.length + 2) ∧ VOk l[i] ∧ TRow wr D (P i) (P (i + 1)) ao' l[i].list
theorem Put4.cells {w w' : World} {g n cap : Nat} {v0 v1 v2 v3 : Value} (h : Put4 w w' g n cap v0 v1 v2 v3) {i : Nat} (hi : i < n) {v : VT} {ao : Option Addr} {ca : Nat} (hc : VCells w g (i * 4) v ao ca) : VCells w' g (i * 4) v ao ca :=
  ⟨(h.old _ (by omega)).trans hc.c0, (h.old _ (by omega)).trans hc.c1, (h.old _ (by omega)).trans hc.c2, (h.old _ (by omega)).trans hc.c3⟩
theorem TwI.push {wr V1 V2 : World} {X D n k b : Nat} {l : List VT} {o : Obj} (h : TwI wr X D n l k) (hk : k < l.length) (g : Gr wr V1) (hT : TRow V1 D wr.heap.size V1.heap.size (some ⟨b, 0, none⟩) l[k].list) (hok : VOk l[k])
    (hp : Put4 (V1.alloc o) V2 X k (n + 2) (.bool l[k].nul) (.int .i64 l[k].num) (.string l[k].text) (.slice (some ⟨b, 0, none⟩) l[k].list.length (l[k].list.length + 2))) : TwI V2 X D n l (k + 1) := by
  obtain ⟨cur, hr, hs⟩ := h.row
  obtain ⟨P, h0, hP, hh, hi⟩ := h.own
  have gA : Gr V1 (V1.alloc o) := gr_alloc V1 o
  have kk : Keeps V1 V2 (fun z => z = X) := (gA.mono fun _ _ h => h.elim).trans hp.keeps (fun _ _ h => h)
  have kr : Keeps wr V2 (fun z => z = X) := (g.mono fun _ _ h => h.elim).trans kk (fun _ _ h => h)
  have hsz := kk.size
  have hgs := g.size
  have hX : X < P k := Nat.lt_of_lt_of_le h0 (chain_le hP (Nat.zero_le k) (Nat.le_refl k))
  refine ⟨hp.row, fun i => if i ≤ k then P i else V2.heap.size, by simpa using h0, fun i hik => ?_, ?_, fun i hil hik => ?_⟩
  · dsimp only
    by_cases e : i < k
    · rw [if_pos (by omega), if_pos (by omega)]; exact hP i e
    · rw [if_pos (by omega), if_neg (by omega)]
      have : i = k := by omega
      subst this
      omega
  · dsimp only
    rw [if_neg (by omega)]
    exact Nat.le_refl _
  · dsimp only
    by_cases e : i < k
    · rw [if_pos (by omega), if_pos (by omega)]
      obtain ⟨ao', hc, hv, hr'⟩ := hi i hil e
      have hxl := lt_of_heap hr
      have hc1 : VCells (V1.alloc o) X (i * 4) l[i] ao' (l[i].list.length + 2) := hc.kept ((g.trans gA (fun _ _ h => h)).block X hxl id)
      refine ⟨ao', hp.cells e hc1, hv, TRow.kept hr' fun c h1 h2 => kr.block c ?_ ?_⟩
      · have := chain_le hP (show i + 1 ≤ k by omega) (Nat.le_refl k); omega
      · have := chain_le hP (Nat.zero_le i) (show i ≤ k by omega); omega
    · have : i = k := by omega
      subst this
      rw [if_pos (by omega), if_neg (by omega)]
      refine ⟨_, ⟨hp.c0, hp.c1, hp.c2, hp.c3⟩, hok, ?_⟩
      exact TRow.wide (TRow.kept hT fun c h1 h2 => kk.block c h2 (by omega)) hh hsz
/-- the marks are behind it -/
theorem TwI.done {wr V2 V3 : World} {X D n : Nat} {l : List VT} {o o' : Obj} (h : TwI wr X D n l n) (hn : n = l.length) (hl : l.length ≤ big) {a0 a2 a3 b0 b2 b3 : Value}
    (hp : Put4 (wr.alloc o) V2 X n (n + 2) a0 (.int .i64 (-7)) a2 a3) (hq : Put4 (V2.alloc o') V3 X (n + 1) (n + 2) b0 (.int .i64 (-8)) b2 b3) {lo : Nat} (hlo : lo ≤ X) : TRow V3 (D + 1) lo V3.heap.size (some ⟨X, 0, none⟩) l ∧ Keeps wr V3 (fun z => z = X) := by
  subst hn
  obtain ⟨cur, hr, hs⟩ := h.row
  obtain ⟨P, h0, hP, hh, hi⟩ := h.own
  have gA : Gr wr (wr.alloc o) := gr_alloc wr o
  have gB : Gr V2 (V2.alloc o') := gr_alloc V2 o'
  have k1 : Keeps wr V2 (fun z => z = X) := (gA.mono fun _ _ h => h.elim).trans hp.keeps (fun _ _ h => h)
  have k2 : Keeps V2 V3 (fun z => z = X) := (gB.mono fun _ _ h => h.elim).trans hq.keeps (fun _ _ h => h)
  have kk : Keeps wr V3 (fun z => z = X) := k1.trans k2 (fun _ _ h => h)
  obtain ⟨cur2, hr2, hs2⟩ := hp.row
  obtain ⟨cur3, hr3, hs3⟩ := hq.row
  have hx2 := lt_of_heap hr2
  have hxl := lt_of_heap hr
  refine ⟨⟨hl, X, cur3, rfl, hlo, hr3, hs3, ⟨?_, ?_⟩, P, h0, hP, Nat.le_trans hh kk.size, fun i hil => ?_⟩, kk⟩
  · exact (hq.old _ (by omega)).trans ((gB.cell hx2 id).trans hp.c1)
  · exact hq.c1
  · obtain ⟨ao', hc, hv, hr'⟩ := hi i hil hil
    have hc1 : VCells (wr.alloc o) X (i * 4) l[i] ao' (l[i].list.length + 2) := hc.kept (gA.block X hxl id)
    have hc2 := hp.cells hil hc1
    have hc3 : VCells (V2.alloc o') X (i * 4) l[i] ao' (l[i].list.length + 2) := hc2.kept (gB.block X hx2 id)
    refine ⟨ao', hq.cells (by omega) hc3, hv, TRow.kept hr' fun c h1 h2 => kk.block c ?_ ?_⟩
    · have := chain_le hP (show i + 1 ≤ l.length from hil) (Nat.le_refl _); omega
    · have := chain_le hP (Nat.zero_le i) (Nat.le_of_lt hil); omega
set_option maxRecDepth 100000 in
set_option maxHeartbeats 2000000 in
theorem twins31 (S : Nat → Prop) (d : Nat) (w : World) (ao : Option Addr) (ca : Nat) (l : List VT) (hl : VRow S w (d + 1) ao l) (hS : ∀ b, S b → b < w.heap.size) (D : Nat)
    (h10 : ∀ (v : VT), v ∈ l → ∀ (ao : Option Addr) (ca : Nat), VRow S w d ao v.list → TwC w v ao ca D) : TwsC w ao ca (D + 1) l := by
  intro W g
  have hlen : l.length ≤ 1000000000000 := hl.len
  have HL := hidM hl
  have HS := hidM hS
  have H10 := hidM h10
  have HG := hidM g
  obtain ⟨n, hn⟩ : ∃ n, n = l.length := ⟨_, rfl⟩
  have HN := hidM hn
  rw [← hn] at hlen ⊢
  have hw2 : wrap64 ((n : Int) + 2) = (n : Int) + 2 := by unfold wrap64; omega
  obtain ⟨X, hX⟩ : ∃ X, X = W.heap.size := ⟨_, rfl⟩
  have hmk := make_vals n hlen W
  obtain ⟨W0, hW0⟩ : ∃ W0, W0 = W.alloc (.cells (madeCells #[.bool false, .int .i64 0, .string ⟨#[]⟩, .slice none 0 0] ((n + 2) * 4)) 29) := ⟨_, rfl⟩
  rw [← hX, ← hW0] at hmk
  have hg0 : Gr W W0 := by rw [hW0]; exact gr_alloc W _
  have HI0 : Hid (TwI W0 X D n l 0) := by
    refine ⟨⟨_, by rw [hW0, hX]; exact heap_alloc_new W _, by rw [size_madeCells]⟩, fun _ => W0.heap.size, ?_, fun i h => by omega, Nat.le_refl _, fun i _ h => by omega⟩
    rw [hW0, hX]
    simp
  have HG0 := hidM hg0
  have HX : Hid (X = W.heap.size) := hX
  clear hl hS h10 g hn hX hW0 hg0
  go_enter Tryd.func31, Tryd.ntmps31
  go_wp2
  clear hmk hw2
  go_loopw [3, 4] (fun out p wr => ∃ k : Nat, k ≤ n ∧ out = .slice (some ⟨X, 0, none⟩) k (n + 2) ∧ p = .int .i64 (k : Int) ∧ Hid (Gr W wr ∧ TwI wr X D n l k)) (fun _ p _ => n - (intOf p).toNat)
  case atStart => exact ⟨0, by omega, rfl, rfl, HG0.out, HI0.out⟩
  case round =>
    obtain ⟨k, hk, rfl, rfl, HK⟩ := hrel
    by_cases hlt : k < n
    · have hkl : k < l.length := by have := HN.out; omega
      obtain ⟨b, o, rfl, hb, hcs⟩ := HL.out.2 (fun e => by subst e; simp at hkl)
      obtain ⟨ao', ca', hc, hle, hok, hr⟩ := hcs k hkl
      have hcall := H10.out l[k] (List.getElem_mem hkl) ao' ca' hr
      have gw : Gr w wr := HG.out.trans HK.out.1 (fun _ _ h => h)
      have hcw := hc.kept (gw.block b (HS.out b hb) id)
      have HT1 := hidM (And.intro hok HK.out.2)
      obtain ⟨v, hv⟩ : ∃ v, v = l[k]'hkl := ⟨_, rfl⟩
      rw [← hv] at hcw hcall
      have HV := hidM hv
      have H1 := hidM hcall
      have HGw := hidM gw
      have HGk := hidM HK.out.1
      obtain ⟨c0, c1, c2, c3⟩ := hcw
      have hltI : (k : Int) < (n : Int) := by omega
      clear hcs hc hle hok hr hcall gw hv HK
      go_wp2_with (go_at_call 10; refine Hid.out ?_)
      unfold Hid
      refine Calls.mono (H1.out _ HGw.out) ?_
      rintro e V1 ⟨bb, rfl, hg1, hT⟩
      have HR := hidM (And.intro hg1 hT)
      clear hg1 hT c0 c1 c2 c3
      have hI := HT1.out.2
      have hrow : ∃ cur, (V1.alloc (.cells #[.bool v.nul, .int .i64 v.num, .string v.text, .slice (some ⟨bb, 0, none⟩) v.list.length (v.list.length + 2)] 29)).heap[X]? = some (.cells cur 29 (0, 0)) ∧ cur.size = (n + 2) * 4 := by
        obtain ⟨cur, hr, hs⟩ := hI.row
        exact ⟨cur, ((HR.out.1.alloc _).block X (lt_of_heap hr) id).trans hr, hs⟩
      obtain ⟨cur, hrX, hsX⟩ := hrow
      have hP4 := put4 (n := k) (cap := n + 2) hrX hsX (by omega) (.bool v.nul) (.int .i64 v.num) (.string v.text) (.slice (some ⟨bb, 0, none⟩) v.list.length (v.list.length + 2))
      have HP4 := hidM hP4
      have HrX := hidM hrX
      have hfit : k * 4 + 4 ≤ cur.size := by omega
      clear hI hrX hsX hP4
      go_wp2_with (at_builtin; refine Hid.out ?_)
      unfold Hid
      refine wpList_append_room _ rfl (.tmp 15) (.tmp 21) 27 27 rfl 29 _ 4 56 Tryd.underlying27 info29 X k (n + 2) cur rfl HrX.out _ 1 _ rfl (src_val V1 _ _ _ _ rfl rfl rfl rfl) (by omega) hfit ?_
      obtain ⟨V2, hV2⟩ : ∃ V2, V2 = (V1.alloc (.cells #[.bool v.nul, .int .i64 v.num, .string v.text, .slice (some ⟨bb, 0, none⟩) v.list.length (v.list.length + 2)] 29)).setRow X (cur.toList.take (k * 4) ++ [Value.bool v.nul, .int .i64 v.num, .string v.text, .slice (some ⟨bb, 0, none⟩) v.list.length (v.list.length + 2)] ++ cur.toList.drop (k * 4 + [Value.bool v.nul, .int .i64 v.num, .string v.text, .slice (some ⟨bb, 0, none⟩) v.list.length (v.list.length + 2)].length)).toArray := ⟨_, rfl⟩
      rw [← hV2] at HP4 ⊢
      have HI2 : Hid (TwI V2 X D n l (k + 1)) := by
        have h1 := HV.out
        subst h1
        exact TwI.push HT1.out.2 hkl HR.out.1 HR.out.2 HT1.out.1 HP4.out
      have HG2 : Hid (Gr W V2) := ((HGk.out.trans HR.out.1 (fun _ _ h => h)).alloc _).trans HP4.out.keeps (fun j hj e => by have := HX.out; omega)
      clear hV2 HP4 HrX HT1 HR
      go_wp2_with fail
      go_roundw
      case rel => exact ⟨k + 1, by omega, rfl, by simp, HG2.out, HI2.out⟩
      case measure => simp [intOf]; omega
    · have hkn : k = n := by omega
      subst hkn
      have HI := hidM HK.out.2
      have HGk := hidM HK.out.1
      clear HK
      have hrow : ∃ cur, (wr.alloc (.cells #[.bool false, .int .i64 (-7), .string ⟨#[]⟩, .slice none 0 0] 29)).heap[X]? = some (.cells cur 29 (0, 0)) ∧ cur.size = (k + 2) * 4 := by
        obtain ⟨cur, hr, hs⟩ := HI.out.row
        exact ⟨cur, (Below.heap_alloc wr _ X (lt_of_heap hr)).trans hr, hs⟩
      obtain ⟨cur, hrX, hsX⟩ := hrow
      have HP4 := hidM (put4 (n := k) (cap := k + 2) hrX hsX (by omega) (.bool false) (.int .i64 (-7)) (.string ⟨#[]⟩) (.slice none 0 0))
      have HrX := hidM hrX
      have hfit : k * 4 + 4 ≤ cur.size := by omega
      clear hrX hsX
      go_wp2_with (at_builtin; refine Hid.out ?_)
      unfold Hid
      refine wpList_append_room _ rfl (.tmp 23) (.tmp 25) 27 27 rfl 29 _ 4 56 Tryd.underlying27 info29 X k (k + 2) cur rfl HrX.out _ 1 _ rfl (src_val wr _ _ _ _ rfl rfl rfl rfl) (by omega) hfit ?_
      obtain ⟨V2, hV2⟩ : ∃ V2, V2 = (wr.alloc (.cells #[.bool false, .int .i64 (-7), .string ⟨#[]⟩, .slice none 0 0] 29)).setRow X (cur.toList.take (k * 4) ++ [Value.bool false, .int .i64 (-7), .string ⟨#[]⟩, .slice none 0 0] ++ cur.toList.drop (k * 4 + [Value.bool false, .int .i64 (-7), .string ⟨#[]⟩, .slice none 0 0].length)).toArray := ⟨_, rfl⟩
      rw [← hV2] at HP4 ⊢
      clear hV2 HrX hfit
      have hrow : ∃ cur, (V2.alloc (.cells #[.bool false, .int .i64 (-8), .string ⟨#[]⟩, .slice none 0 0] 29)).heap[X]? = some (.cells cur 29 (0, 0)) ∧ cur.size = (k + 2) * 4 := by
        obtain ⟨cur, hr, hs⟩ := HP4.out.row
        exact ⟨cur, (Below.heap_alloc V2 _ X (lt_of_heap hr)).trans hr, hs⟩
      obtain ⟨cur2, hrX, hsX⟩ := hrow
      have HQ4 := hidM (put4 (n := k + 1) (cap := k + 2) hrX hsX (by omega) (.bool false) (.int .i64 (-8)) (.string ⟨#[]⟩) (.slice none 0 0))
      have HrX := hidM hrX
      have hfit : (k + 1) * 4 + 4 ≤ cur2.size := by omega
      clear hrX hsX
      go_wp2_with (at_builtin; refine Hid.out ?_)
      unfold Hid
      refine wpList_append_room _ rfl (.tmp 27) (.tmp 29) 27 27 rfl 29 _ 4 56 Tryd.underlying27 info29 X (k + 1) (k + 2) cur2 rfl HrX.out _ 1 _ rfl (src_val V2 _ _ _ _ rfl rfl rfl rfl) (by omega) hfit ?_
      obtain ⟨V3, hV3⟩ : ∃ V3, V3 = (V2.alloc (.cells #[.bool false, .int .i64 (-8), .string ⟨#[]⟩, .slice none 0 0] 29)).setRow X (cur2.toList.take ((k + 1) * 4) ++ [Value.bool false, .int .i64 (-8), .string ⟨#[]⟩, .slice none 0 0] ++ cur2.toList.drop ((k + 1) * 4 + [Value.bool false, .int .i64 (-8), .string ⟨#[]⟩, .slice none 0 0].length)).toArray := ⟨_, rfl⟩
      rw [← hV3] at HQ4 ⊢
      have HD := hidM (TwI.done HI.out HN.out (by have := HN.out; show _ ≤ 1000000000000; omega) HP4.out HQ4.out (lo := W.heap.size) (by have := HX.out; omega))
      clear hV3 HrX hfit
      go_wp2
      go_ret
      exact ⟨X, rfl, HGk.out.trans HD.out.2 (fun j hj e => by have := HX.out; omega), HD.out.1⟩
/-- Twin and Twins of all values -/
theorem twin_any (S : Nat → Prop) (w : World) (hS : ∀ b, S b → b < w.heap.size) : ∀ (d : Nat) (v : VT) (ao : Option Addr) (ca : Nat), VRow S w d ao v.list → TwC w v ao ca (d + 1)
  | 0, v, ao, ca, h => twin10 (twins31 S 0 w ao ca v.list (h.more (by omega)) hS 0 (fun x hx => by
      have e : v.list = [] := h
      rw [e] at hx
      cases hx))
  | d + 1, v, ao, ca, h => twin10 (twins31 S d w ao ca v.list h hS (d + 1) (fun x _ ao ca hr => twin_any S w hS d x ao ca hr))
end Go.Proofs.YtcfdkadhclickaaDoor.Kit
