import Derived.Test.YtdihbfjjddmbiaaGreatDoorRK
set_option maxRecDepth 100000
set_option maxHeartbeats 4000000
namespace Go.Proofs.YtdihbfjjddmbiaaGreatDoor.Kit
open Go.RowKit Go.Shelf Go.Deep
set_option linter.unusedVariables false
attribute [local go_sem] run_store_func
theorem among_in {B : List UInt8} {lo hi : Nat} {s s' : St} {x : Nat} (h : amongR B lo hi s = .ok (x, s')) : lo ≤ x ∧ x ≤ hi := by
  have key : amongR B lo hi s = (numR B 1).bind (fun n s' => if n < lo ∨ hi < n then .error (8, s.1) else .ok (n, s')) s := rfl
  rw [key] at h
  cases hr : numR B 1 s with
  | error e => rw [Rd.bind_err hr] at h; cases h
  | ok q =>
    obtain ⟨y, t⟩ := q
    rw [Rd.bind_ok hr] at h
    by_cases c : y < lo ∨ hi < y
    · rw [if_pos c] at h; cases h
    rw [if_neg c] at h; cases h; omega
structure HB9 (W U : World) (p b c : Nat) (x0 x1 x2 x3 x4 x5 x6 x7 x8 : Value) : Prop where
  rb : U.heap[b]? = some (.cells #[.int .i64 0, .slice none 0 0, .slice none 0 0, .int .i64 0, .bool false, .int .i64 0, .int .i64 0, .slice none 0 0, .slice none 0 0] 29 (0, 0))
  tb : U.heap[c]? = some (.cells #[x0, x1, x2, x3, x4, x5, x6, x7, x8] 29 (0, 0))
  lt : W.heap.size ≤ b ∧ b < c ∧ p < W.heap.size
theorem HB9.kp {W U U' : World} {p b c : Nat} {x0 x1 x2 x3 x4 x5 x6 x7 x8 : Value} (h : HB9 W U p b c x0 x1 x2 x3 x4 x5 x6 x7 x8) (q : Keeps U U' (fun z => z = p)) : HB9 W U' p b c x0 x1 x2 x3 x4 x5 x6 x7 x8 :=
  ⟨(q.block b (lt_of_heap h.rb) (by have := h.lt; omega)).trans h.rb, (q.block c (lt_of_heap h.tb) (by have := h.lt; omega)).trans h.tb, h.lt⟩
theorem put9_box {V : World} {Y t : Nat} {x0 x1 x2 x3 x4 x5 x6 x7 x8 : Value} (y0 y1 y2 y3 y4 y5 y6 y7 y8 : Value) (h : V.heap[Y]? = some (.cells #[x0, x1, x2, x3, x4, x5, x6, x7, x8] t (0, 0))) : (((((((((V.setCell ⟨Y, 0, none⟩ y0).setCell ⟨Y, 1, none⟩ y1).setCell ⟨Y, 2, none⟩ y2).setCell ⟨Y, 3, none⟩ y3).setCell ⟨Y, 4, none⟩ y4).setCell ⟨Y, 5, none⟩ y5).setCell ⟨Y, 6, none⟩ y6).setCell ⟨Y, 7, none⟩ y7).setCell ⟨Y, 8, none⟩ y8).heap[Y]? = some (.cells #[y0, y1, y2, y3, y4, y5, y6, y7, y8] t (0, 0)) := by
  have h0 : (V.setCell ⟨Y, 0, none⟩ y0).heap[Y]? = some (.cells #[y0, x1, x2, x3, x4, x5, x6, x7, x8] t (0, 0)) := heap_setCell_same _ Y 0 _ _ y0 h
  have h1 : ((V.setCell ⟨Y, 0, none⟩ y0).setCell ⟨Y, 1, none⟩ y1).heap[Y]? = some (.cells #[y0, y1, x2, x3, x4, x5, x6, x7, x8] t (0, 0)) := heap_setCell_same _ Y 1 _ _ y1 h0
  have h2 : (((V.setCell ⟨Y, 0, none⟩ y0).setCell ⟨Y, 1, none⟩ y1).setCell ⟨Y, 2, none⟩ y2).heap[Y]? = some (.cells #[y0, y1, y2, x3, x4, x5, x6, x7, x8] t (0, 0)) := heap_setCell_same _ Y 2 _ _ y2 h1
  have h3 : ((((V.setCell ⟨Y, 0, none⟩ y0).setCell ⟨Y, 1, none⟩ y1).setCell ⟨Y, 2, none⟩ y2).setCell ⟨Y, 3, none⟩ y3).heap[Y]? = some (.cells #[y0, y1, y2, y3, x4, x5, x6, x7, x8] t (0, 0)) := heap_setCell_same _ Y 3 _ _ y3 h2
  have h4 : (((((V.setCell ⟨Y, 0, none⟩ y0).setCell ⟨Y, 1, none⟩ y1).setCell ⟨Y, 2, none⟩ y2).setCell ⟨Y, 3, none⟩ y3).setCell ⟨Y, 4, none⟩ y4).heap[Y]? = some (.cells #[y0, y1, y2, y3, y4, x5, x6, x7, x8] t (0, 0)) := heap_setCell_same _ Y 4 _ _ y4 h3
  have h5 : ((((((V.setCell ⟨Y, 0, none⟩ y0).setCell ⟨Y, 1, none⟩ y1).setCell ⟨Y, 2, none⟩ y2).setCell ⟨Y, 3, none⟩ y3).setCell ⟨Y, 4, none⟩ y4).setCell ⟨Y, 5, none⟩ y5).heap[Y]? = some (.cells #[y0, y1, y2, y3, y4, y5, x6, x7, x8] t (0, 0)) := heap_setCell_same _ Y 5 _ _ y5 h4
  have h6 : (((((((V.setCell ⟨Y, 0, none⟩ y0).setCell ⟨Y, 1, none⟩ y1).setCell ⟨Y, 2, none⟩ y2).setCell ⟨Y, 3, none⟩ y3).setCell ⟨Y, 4, none⟩ y4).setCell ⟨Y, 5, none⟩ y5).setCell ⟨Y, 6, none⟩ y6).heap[Y]? = some (.cells #[y0, y1, y2, y3, y4, y5, y6, x7, x8] t (0, 0)) := heap_setCell_same _ Y 6 _ _ y6 h5
  have h7 : ((((((((V.setCell ⟨Y, 0, none⟩ y0).setCell ⟨Y, 1, none⟩ y1).setCell ⟨Y, 2, none⟩ y2).setCell ⟨Y, 3, none⟩ y3).setCell ⟨Y, 4, none⟩ y4).setCell ⟨Y, 5, none⟩ y5).setCell ⟨Y, 6, none⟩ y6).setCell ⟨Y, 7, none⟩ y7).heap[Y]? = some (.cells #[y0, y1, y2, y3, y4, y5, y6, y7, x8] t (0, 0)) := heap_setCell_same _ Y 7 _ _ y7 h6
  have h8 : (((((((((V.setCell ⟨Y, 0, none⟩ y0).setCell ⟨Y, 1, none⟩ y1).setCell ⟨Y, 2, none⟩ y2).setCell ⟨Y, 3, none⟩ y3).setCell ⟨Y, 4, none⟩ y4).setCell ⟨Y, 5, none⟩ y5).setCell ⟨Y, 6, none⟩ y6).setCell ⟨Y, 7, none⟩ y7).setCell ⟨Y, 8, none⟩ y8).heap[Y]? = some (.cells #[y0, y1, y2, y3, y4, y5, y6, y7, y8] t (0, 0)) := heap_setCell_same _ Y 8 _ _ y8 h7
  exact h8
theorem put9_keeps (V : World) (Y : Nat) (y0 y1 y2 y3 y4 y5 y6 y7 y8 : Value) : Keeps V (((((((((V.setCell ⟨Y, 0, none⟩ y0).setCell ⟨Y, 1, none⟩ y1).setCell ⟨Y, 2, none⟩ y2).setCell ⟨Y, 3, none⟩ y3).setCell ⟨Y, 4, none⟩ y4).setCell ⟨Y, 5, none⟩ y5).setCell ⟨Y, 6, none⟩ y6).setCell ⟨Y, 7, none⟩ y7).setCell ⟨Y, 8, none⟩ y8) (fun z => z = Y) :=
  (((((((((Keeps.refl V (fun z => z = Y)).setCell (p := ⟨Y, 0, none⟩) (fun _ => rfl) _).setCell (p := ⟨Y, 1, none⟩) (fun _ => rfl) _).setCell (p := ⟨Y, 2, none⟩) (fun _ => rfl) _).setCell (p := ⟨Y, 3, none⟩) (fun _ => rfl) _).setCell (p := ⟨Y, 4, none⟩) (fun _ => rfl) _).setCell (p := ⟨Y, 5, none⟩) (fun _ => rfl) _).setCell (p := ⟨Y, 6, none⟩) (fun _ => rfl) _).setCell (p := ⟨Y, 7, none⟩) (fun _ => rfl) _).setCell (p := ⟨Y, 8, none⟩) (fun _ => rfl) _
theorem results_cell30 {fn : Func} {t : Tmp} {tmps : Array Value} {g : Nat} {cs : Array Value} {w : World} (h : fn.results = #[.cell t 29]) (ht : tmps.getD t undef = .pointer (some ⟨g, 0, none⟩)) (hg : w.heap[g]? = some (.cells cs 29 (0, 0))) (hi : (Tryz.prog.info? 29).map (·.size) = some cs.size) :
    (results fn tmps).run Tryz.prog w = .ok (.agg cs) w := by
  have hl := run_loadVar_row (P := Tryz.prog) w g 29 29 cs (0, 0) _ hg Tryz.underlying29 rfl hi
  unfold results
  rw [h]
  simp only [Array.mapM_eq_mapM_toList, List.mapM_cons, List.mapM_nil, ht]
  simp [asAddr, hl]
theorem LAt.put {α : Type} {W W0 U U' : World} {t s : Nat} {cf : α → List Value} {l : List α} {vo : Option Addr} {vc b c : Nat} (h : LAt W0 U t s cf l vo vc) (k : Keeps U U' (fun z => z = b ∨ z = c)) (hW : W.heap.size ≤ W0.heap.size) (hs : b < W0.heap.size ∧ c < W0.heap.size) : LAt W U' t s cf l vo vc :=
  ⟨row_kp h.own fun g e => k.block g (own_lt h.own g e) (by have := h.new g e; omega), fun g e => Nat.le_trans hW (h.new g e)⟩
theorem LAt.put3 {α : Type} {W W0 U U' : World} {t s : Nat} {cf : α → List Value} {l : List α} {vo : Option Addr} {vc b c p : Nat} (h : LAt W0 U t s cf l vo vc) (k : Keeps U U' (fun z => z = p ∨ z = b ∨ z = c)) (hW : W.heap.size ≤ W0.heap.size) (hs : b < W0.heap.size ∧ c < W0.heap.size) (hp : p < W.heap.size) : LAt W U' t s cf l vo vc :=
  ⟨row_kp h.own fun g e => k.block g (own_lt h.own g e) (by have := h.new g e; omega), fun g e => Nat.le_trans hW (h.new g e)⟩
def HV9 (W w' : World) (h : HD) (v : Value) : Prop := ∃ fo fc no nc vo vc uo uc, v = .agg #[.int .i64 h.kind, .slice fo h.fs.length fc, .slice no h.ns.length nc, .int .i64 h.id, .bool h.delta, .int .i64 h.rows, .int .i64 h.press, .slice vo h.nds.length vc, .slice uo h.sls.length uc] ∧ h.fs.length ≤ fc ∧ RowI W.heap.size w'.heap.size w' 65 fo fc h.fs ∧ LAt W w' 55 2 (fun x : ByteArray × ByteArray => [Value.string x.1, .string x.2]) h.ns no nc ∧ LAt W w' 44 2 (fun x : Int × Int => [Value.int .i64 x.1, .int .i64 x.2]) h.nds vo vc ∧ LAt W w' 46 3 (fun x : Int × Int × Int => [Value.int .i64 x.1, .int .i64 x.2.1, .int .i64 x.2.2]) h.sls uo uc
theorem head27 (p : Nat) (bo : Option Addr) (B : List UInt8) (bc : Nat) : RdC p bo B bc 63 #[.pointer (some ⟨p, 0, none⟩)] (headR B) HV9 := by
  intro W a0 g0 hR
  obtain ⟨R, hRes⟩ : ∃ R, R = headR B (a0, g0) := ⟨_, rfl⟩
  rw [← hRes]
  have HRes := hidM hRes
  obtain ⟨V0, hV0⟩ := ex (W.alloc (.cells #[.int .i64 0, .slice none 0 0, .slice none 0 0, .int .i64 0, .bool false, .int .i64 0, .int .i64 0, .slice none 0 0, .slice none 0 0] 29))
  have g0' : Gr W V0 := by rw [← hV0]; exact gr_alloc W _
  have HBx0 : Hid (V0.heap[W.heap.size]? = some (.cells #[.int .i64 0, .slice none 0 0, .slice none 0 0, .int .i64 0, .bool false, .int .i64 0, .int .i64 0, .slice none 0 0, .slice none 0 0] 29 (0, 0))) := by show _ = _; rw [← hV0]; exact heap_alloc_new W _
  have HR00 := hidM hR
  have HR0 := hidM (hR.gr g0')
  have HG0 : Hid (Keeps W V0 (fun z => z = p)) := g0'.mono fun _ _ h => h.elim
  have HNe : Hid (p < W.heap.size) := hR.lt
  have HV := hidM hV0
  have HA13 := hidM (among_any p bo B bc 1 3)
  have HA11 := hidM (among_any p bo B bc 1 1)
  have HA00 := hidM (among_any p bo B bc 0 0)
  have HN1 := hidM (number_any p bo B bc 1 (.inl rfl))
  have HN2 := hidM (number_any p bo B bc 2 (.inr (.inl rfl)))
  have HN4 := hidM (number_any p bo B bc 4 (.inr (.inr rfl)))
  have HFl := hidM (flag_any p bo B bc)
  have HSc := hidM (schema43 p bo B bc)
  have HNd := hidM (nodes_any p bo B bc)
  have HSl := hidM (slots_any p bo B bc)
  have hmf : ∀ (fn : Fn) (first cap : Array Value) (w : World), (Instr.makeFunc fn first cap).run Tryz.prog w = .ok (.func fn first cap) w := fun _ _ _ _ => rfl
  obtain ⟨b, hb⟩ : ∃ b, b = W.heap.size := ⟨_, rfl⟩
  clear hRes hR g0' hV0
  go_enter Tryz.func63, Tryz.ntmps63
  go_wp2_with (go_at_call 75; refine Hid.out ?_)
  unfold Hid
  rw [HV.out, ← hb]
  rw [← hb] at HBx0
  have HB := hidM hb
  clear HV hb
  have hq := HA13.out _ _ _ HR0.out
  cases hr : amongR B 1 3 (a0, g0) with
  | error er =>
    rw [hr] at hq
    refine Calls.mono hq ?_
    rintro e' U ⟨hk, rfl⟩
    have HGe := hidM (HG0.out.tr hk)
    have Hr := hidM hr
    clear hk hq hr
    go_wp2_with fail
    exact ⟨rfl, RdQ.err HGe.out (by rw [HRes.out]; exact Rd.bind_err Hr.out)⟩
  | ok q =>
    obtain ⟨x1, a1, g1⟩ := q
    rw [hr] at hq
    refine Calls.mono hq ?_
    rintro e' U1 ⟨hk, v, rfl, rfl, hR⟩
    have Hr1 := hidM hr
    have hin := among_in hr
    obtain ⟨V2, hV2⟩ := ex (U1.alloc (.cells #[.int .i64 (x1 : Int), .slice none 0 0, .slice none 0 0, .int .i64 0, .bool false, .int .i64 0, .int .i64 0, .slice none 0 0, .slice none 0 0] 29))
    have g2' : Gr U1 V2 := by rw [← hV2]; exact gr_alloc U1 _
    have hbx := (hk.block b (lt_of_heap HBx0.out) (by have := HNe.out; have := HB.out; omega)).trans HBx0.out
    obtain ⟨c, hc⟩ : ∃ c, c = U1.heap.size := ⟨_, rfl⟩
    have HT1 : Hid (HB9 W V2 p b c (.int .i64 (x1 : Int)) (.slice none 0 0) (.slice none 0 0) (.int .i64 0) (.bool false) (.int .i64 0) (.int .i64 0) (.slice none 0 0) (.slice none 0 0)) := ⟨(g2'.block b (lt_of_heap hbx) id).trans hbx, by rw [hc, ← hV2]; exact heap_alloc_new U1 _, by have := HB.out; omega, by rw [hc]; exact lt_of_heap hbx, HNe.out⟩
    have HR1 := hidM (hR.gr g2')
    have HG1 := hidM ((HG0.out.tr hk).tr (g2'.mono fun _ _ h => h.elim))
    have HV2 := hidM hV2
    have Hin := hidM hin
    clear hk hq hr hR hbx g2' HBx0 hV2 hin
    go_wp2_with (go_at_call 75; refine Hid.out ?_)
    unfold Hid
    rw [HV2.out, ← hc]
    clear hc HV2
    have hq := HA11.out _ _ _ HR1.out
    cases hr : amongR B 1 1 (a1, g1) with
    | error er =>
      rw [hr] at hq
      refine Calls.mono hq ?_
      rintro e' U ⟨hk, rfl⟩
      have HGe := hidM (HG1.out.tr hk)
      have Hr := hidM hr
      clear hk hq hr
      go_wp2_with fail
      exact ⟨rfl, RdQ.err HGe.out (by rw [HRes.out]; exact (Rd.bind_ok Hr1.out).trans (Rd.bind_err Hr.out))⟩
    | ok q =>
      obtain ⟨x2, a2, g2⟩ := q
      rw [hr] at hq
      refine Calls.mono hq ?_
      rintro e' U2 ⟨hk, v, rfl, rfl, hR⟩
      have Hr2 := hidM hr
      have HT2 := hidM (HT1.out.kp hk)
      have HG2 := hidM (HG1.out.tr hk)
      have HR2 := hidM hR
      clear hk hq hr hR HT1
      go_wp2_with (go_at_call 75; refine Hid.out ?_)
      unfold Hid
      have hq := HA00.out _ _ _ HR2.out
      cases hr : amongR B 0 0 (a2, g2) with
      | error er =>
        rw [hr] at hq
        refine Calls.mono hq ?_
        rintro e' U ⟨hk, rfl⟩
        have HGe := hidM (HG2.out.tr hk)
        have Hr := hidM hr
        clear hk hq hr
        go_wp2_with fail
        exact ⟨rfl, RdQ.err HGe.out (by rw [HRes.out]; exact (Rd.bind_ok Hr1.out).trans ((Rd.bind_ok Hr2.out).trans (Rd.bind_err Hr.out)))⟩
      | ok q =>
        obtain ⟨x3, a3, g3⟩ := q
        rw [hr] at hq
        refine Calls.mono hq ?_
        rintro e' U3 ⟨hk, v, rfl, rfl, hR⟩
        have Hr3 := hidM hr
        have HT3 := hidM (HT2.out.kp hk)
        have HG3 := hidM (HG2.out.tr hk)
        have HR3 := hidM hR
        clear hk hq hr hR HT2
        go_wp2_with (go_at_call 75; refine Hid.out ?_)
        unfold Hid
        have hq := HA00.out _ _ _ HR3.out
        cases hr : amongR B 0 0 (a3, g3) with
        | error er =>
          rw [hr] at hq
          refine Calls.mono hq ?_
          rintro e' U ⟨hk, rfl⟩
          have HGe := hidM (HG3.out.tr hk)
          have Hr := hidM hr
          clear hk hq hr
          go_wp2_with fail
          exact ⟨rfl, RdQ.err HGe.out (by rw [HRes.out]; exact (Rd.bind_ok Hr1.out).trans ((Rd.bind_ok Hr2.out).trans ((Rd.bind_ok Hr3.out).trans (Rd.bind_err Hr.out))))⟩
        | ok q =>
          obtain ⟨x4, a4, g4⟩ := q
          rw [hr] at hq
          refine Calls.mono hq ?_
          rintro e' U4 ⟨hk, v, rfl, rfl, hR⟩
          have Hr4 := hidM hr
          have HT4 := hidM (HT3.out.kp hk)
          have HG4 := hidM (HG3.out.tr hk)
          have HR4 := hidM hR
          clear hk hq hr hR HT3
          have wk : U4.cell? ⟨c, 0, none⟩ = some (.int .i64 (x1 : Int)) := by simp [World.cell?, HT4.out.tb]
          by_cases c1 : x1 = 1
          · have d1 : ((x1 : Int) == 1) = true := by rw [beq_iff_eq]; omega
            have C1 := hidM c1
            clear c1
            go_wp2_with (go_at_call 76; refine Hid.out ?_)
            unfold Hid
            clear wk
            have hq := HSc.out _ _ _ HR4.out
            cases hr : schR B (a4, g4) with
            | error er =>
              rw [hr] at hq
              refine Calls.mono hq ?_
              rintro e' U ⟨hk, rfl⟩
              have HGe := hidM (HG4.out.tr hk)
              have Hr := hidM hr
              clear hk hq hr
              go_wp2_with fail
              exact ⟨rfl, RdQ.err HGe.out (by rw [HRes.out]; exact (Rd.bind_ok Hr1.out).trans ((Rd.bind_ok Hr2.out).trans ((Rd.bind_ok Hr3.out).trans ((Rd.bind_ok Hr4.out).trans ((show restR B x1 (a4, g4) = _ by unfold restR; rw [if_pos C1.out]; exact Rd.bind_err Hr.out))))))⟩
            | ok q =>
              obtain ⟨x5, a5, g5⟩ := q
              rw [hr] at hq
              refine Calls.mono hq ?_
              rintro e' U5 ⟨hk, v, rfl, ⟨fo, fc, no, nc, rfl, hfc, hrow, hnt⟩, hR⟩
              have Hr5 := hidM hr
              have hT := HT4.out.kp hk
              have Hsz := hidM (And.intro (lt_of_heap HT4.out.rb) (lt_of_heap HT4.out.tb))
              have HGi := hidM HG4.out.size
              have HTf := hidM hT
              have HGf := hidM (HG4.out.tr hk)
              have HRf := hidM hR
              obtain ⟨u0, u1, u2, u3, u4, u5, u6, u7, u8⟩ := fz9 HTf.out.rb
              obtain ⟨v0, v1, v2, v3, v4, v5, v6, v7, v8⟩ := ce9 HTf.out.rb
              obtain ⟨s0, s1, s2, s3, s4, s5, s6, s7, s8⟩ := ce9 HTf.out.tb
              have f1 := frz HTf.out.tb 1
              have f2 := frz HTf.out.tb 2
              have hcb : ¬ c = b := by have := HTf.out.lt; omega
              have hbc : ¬ b = c := by have := HTf.out.lt; omega
              have HK := hidM (And.intro hfc (And.intro hrow hnt))
              clear hfc hrow hnt
              clear hk hq hr hR hT
              go_wp2_with fail
              have k0 : Keeps U5 ((U5.setCell ⟨c, 1, none⟩ (.slice fo x5.1.length fc)).setCell ⟨c, 2, none⟩ (.slice no x5.2.length nc)) (fun z => z = c) := ((Keeps.refl U5 (fun z => z = c)).setCell (p := ⟨c, 1, none⟩) (fun _ => rfl) _).setCell (p := ⟨c, 2, none⟩) (fun _ => rfl) _
              have hb3 := put9_box (.int .i64 (x1 : Int)) (.slice fo x5.1.length fc) (.slice no x5.2.length nc) (.int .i64 0) (.bool false) (.int .i64 0) (.int .i64 0) (.slice none 0 0) (.slice none 0 0) ((k0.block b (lt_of_heap HTf.out.rb) hbc).trans HTf.out.rb)
              have k3 := put9_keeps ((U5.setCell ⟨c, 1, none⟩ (.slice fo x5.1.length fc)).setCell ⟨c, 2, none⟩ (.slice no x5.2.length nc)) b (.int .i64 (x1 : Int)) (.slice fo x5.1.length fc) (.slice no x5.2.length nc) (.int .i64 0) (.bool false) (.int .i64 0) (.int .i64 0) (.slice none 0 0) (.slice none 0 0)
              have k4 := (k0.mono (T := fun z => z = b ∨ z = c) fun _ _ h => .inr h).trans k3 (fun _ _ h => .inl h)
              have kW := HGf.out.trans k4 (fun j hj h => by have := HTf.out.lt; omega)
              have hE : R = .ok (⟨x1, x5.1, x5.2, 0, false, 0, 0, [], []⟩, (a5, g5)) := by rw [HRes.out]; exact (Rd.bind_ok Hr1.out).trans ((Rd.bind_ok Hr2.out).trans ((Rd.bind_ok Hr3.out).trans ((Rd.bind_ok Hr4.out).trans ((show restR B x1 (a4, g4) = _ by unfold restR; rw [if_pos C1.out]; exact (Rd.bind_ok Hr5.out).trans (rfl))))))
              have hRA := RAt.over HR00.out HRf.out kW (k4.block p (lt_of_heap HRf.out.box) (by have := HTf.out.lt; omega))
              (try simp only [Exit.inBlock, Exit.then])
              have hrow' := HK.out.2.1.kept fun z z1 z2 => k4.block z z2 (by have := Hsz.out; omega)
              exact bodyPost_ret (results_cell30 rfl rfl hb3 (by kernel_rfl)) rfl (RdQ.ok kW hE ⟨fo, fc, no, nc, none, 0, none, 0, rfl, HK.out.1, hrow'.wide (by have := HGi.out; omega) k4.size, HK.out.2.2.put k4 HGi.out Hsz.out, LAt.nil _ _ _ _ _, LAt.nil _ _ _ _ _⟩ hRA)
          have d1 : ((x1 : Int) == 1) = false := by rw [beq_eq_false_iff_ne]; omega
          by_cases c2 : x1 = 2
          · have d2 : ((x1 : Int) == 2) = true := by rw [beq_iff_eq]; omega
            have C2 := hidM c2
            have Cn := hidM c1
            clear c2 c1
            go_wp2_with (go_at_call 77; refine Hid.out ?_)
            unfold Hid
            clear wk
            have hq := HN2.out _ _ _ HR4.out
            cases hr : numR B 2 (a4, g4) with
            | error er =>
              rw [hr] at hq
              refine Calls.mono hq ?_
              rintro e' U ⟨hk, rfl⟩
              have HGe := hidM (HG4.out.tr hk)
              have Hr := hidM hr
              clear hk hq hr
              go_wp2_with fail
              exact ⟨rfl, RdQ.err HGe.out (by rw [HRes.out]; exact (Rd.bind_ok Hr1.out).trans ((Rd.bind_ok Hr2.out).trans ((Rd.bind_ok Hr3.out).trans ((Rd.bind_ok Hr4.out).trans ((show restR B x1 (a4, g4) = _ by unfold restR; rw [if_neg Cn.out, if_pos C2.out]; exact Rd.bind_err Hr.out))))))⟩
            | ok q =>
              obtain ⟨x5, a5, g5⟩ := q
              rw [hr] at hq
              refine Calls.mono hq ?_
              rintro e' U5 ⟨hk, v, rfl, rfl, hR⟩
              have Hr5 := hidM hr
              have hT := HT4.out.kp hk
              have w0 := frz hT.tb 3
              have w1 : U5.cell? ⟨c, 3, none⟩ = some (.int .i64 0) := by simp [World.cell?, hT.tb]
              have hT0 : HB9 W (U5.setCell ⟨c, 3, none⟩ (.int .i64 (x5 : Int))) p b c (.int .i64 (x1 : Int)) (.slice none 0 0) (.slice none 0 0) (.int .i64 (x5 : Int)) (.bool false) (.int .i64 0) (.int .i64 0) (.slice none 0 0) (.slice none 0 0) := ⟨(set_other _ (by have := hT.lt; omega)).trans hT.rb, heap_setCell_same _ c 3 _ _ _ hT.tb, hT.lt⟩
              have HT5 := hidM hT0
              have HG5 := hidM ((HG4.out.tr hk).setCell (p := ⟨c, 3, none⟩) (fun h => by have := hT.lt; have h : c < W.heap.size := h; omega) (.int .i64 (x5 : Int)))
              have HR5 := hidM (RAt.over HR00.out hR HG5.out (set_other _ (by have := hT.lt; omega)))
              clear hk hq hr hR hT hT0 HT4
              go_wp2_with (go_at_call 78; refine Hid.out ?_)
              unfold Hid
              clear w0 w1
              have hq := HFl.out _ _ _ HR5.out
              cases hr : flagR B (a5, g5) with
              | error er =>
                rw [hr] at hq
                refine Calls.mono hq ?_
                rintro e' U ⟨hk, rfl⟩
                have HGe := hidM (HG5.out.tr hk)
                have Hr := hidM hr
                clear hk hq hr
                go_wp2_with fail
                exact ⟨rfl, RdQ.err HGe.out (by rw [HRes.out]; exact (Rd.bind_ok Hr1.out).trans ((Rd.bind_ok Hr2.out).trans ((Rd.bind_ok Hr3.out).trans ((Rd.bind_ok Hr4.out).trans ((show restR B x1 (a4, g4) = _ by unfold restR; rw [if_neg Cn.out, if_pos C2.out]; exact (Rd.bind_ok Hr5.out).trans (Rd.bind_err Hr.out)))))))⟩
              | ok q =>
                obtain ⟨x6, a6, g6⟩ := q
                rw [hr] at hq
                refine Calls.mono hq ?_
                rintro e' U6 ⟨hk, v, rfl, rfl, hR⟩
                have Hr6 := hidM hr
                have hT := HT5.out.kp hk
                have w0 := frz hT.tb 4
                have w1 : U6.cell? ⟨c, 4, none⟩ = some (.bool false) := by simp [World.cell?, hT.tb]
                have hT0 : HB9 W (U6.setCell ⟨c, 4, none⟩ (.bool x6)) p b c (.int .i64 (x1 : Int)) (.slice none 0 0) (.slice none 0 0) (.int .i64 (x5 : Int)) (.bool x6) (.int .i64 0) (.int .i64 0) (.slice none 0 0) (.slice none 0 0) := ⟨(set_other _ (by have := hT.lt; omega)).trans hT.rb, heap_setCell_same _ c 4 _ _ _ hT.tb, hT.lt⟩
                have HT6 := hidM hT0
                have HG6 := hidM ((HG5.out.tr hk).setCell (p := ⟨c, 4, none⟩) (fun h => by have := hT.lt; have h : c < W.heap.size := h; omega) (.bool x6))
                have HR6 := hidM (RAt.over HR00.out hR HG6.out (set_other _ (by have := hT.lt; omega)))
                clear hk hq hr hR hT hT0 HT5
                go_wp2_with (go_at_call 77; refine Hid.out ?_)
                unfold Hid
                clear w0 w1
                have hq := HN4.out _ _ _ HR6.out
                cases hr : numR B 4 (a6, g6) with
                | error er =>
                  rw [hr] at hq
                  refine Calls.mono hq ?_
                  rintro e' U ⟨hk, rfl⟩
                  have HGe := hidM (HG6.out.tr hk)
                  have Hr := hidM hr
                  clear hk hq hr
                  go_wp2_with fail
                  exact ⟨rfl, RdQ.err HGe.out (by rw [HRes.out]; exact (Rd.bind_ok Hr1.out).trans ((Rd.bind_ok Hr2.out).trans ((Rd.bind_ok Hr3.out).trans ((Rd.bind_ok Hr4.out).trans ((show restR B x1 (a4, g4) = _ by unfold restR; rw [if_neg Cn.out, if_pos C2.out]; exact (Rd.bind_ok Hr5.out).trans ((Rd.bind_ok Hr6.out).trans (Rd.bind_err Hr.out))))))))⟩
                | ok q =>
                  obtain ⟨x7, a7, g7⟩ := q
                  rw [hr] at hq
                  refine Calls.mono hq ?_
                  rintro e' U7 ⟨hk, v, rfl, rfl, hR⟩
                  have Hr7 := hidM hr
                  have hT := HT6.out.kp hk
                  have w0 := frz hT.tb 5
                  have w1 : U7.cell? ⟨c, 5, none⟩ = some (.int .i64 0) := by simp [World.cell?, hT.tb]
                  have hT0 : HB9 W (U7.setCell ⟨c, 5, none⟩ (.int .i64 (x7 : Int))) p b c (.int .i64 (x1 : Int)) (.slice none 0 0) (.slice none 0 0) (.int .i64 (x5 : Int)) (.bool x6) (.int .i64 (x7 : Int)) (.int .i64 0) (.slice none 0 0) (.slice none 0 0) := ⟨(set_other _ (by have := hT.lt; omega)).trans hT.rb, heap_setCell_same _ c 5 _ _ _ hT.tb, hT.lt⟩
                  have HT7 := hidM hT0
                  have HG7 := hidM ((HG6.out.tr hk).setCell (p := ⟨c, 5, none⟩) (fun h => by have := hT.lt; have h : c < W.heap.size := h; omega) (.int .i64 (x7 : Int)))
                  have HR7 := hidM (RAt.over HR00.out hR HG7.out (set_other _ (by have := hT.lt; omega)))
                  clear hk hq hr hR hT hT0 HT6
                  go_wp2_with (go_at_call 77; refine Hid.out ?_)
                  unfold Hid
                  clear w0 w1
                  have hq := HN1.out _ _ _ HR7.out
                  cases hr : numR B 1 (a7, g7) with
                  | error er =>
                    rw [hr] at hq
                    refine Calls.mono hq ?_
                    rintro e' U ⟨hk, rfl⟩
                    have HGe := hidM (HG7.out.tr hk)
                    have Hr := hidM hr
                    clear hk hq hr
                    go_wp2_with fail
                    exact ⟨rfl, RdQ.err HGe.out (by rw [HRes.out]; exact (Rd.bind_ok Hr1.out).trans ((Rd.bind_ok Hr2.out).trans ((Rd.bind_ok Hr3.out).trans ((Rd.bind_ok Hr4.out).trans ((show restR B x1 (a4, g4) = _ by unfold restR; rw [if_neg Cn.out, if_pos C2.out]; exact (Rd.bind_ok Hr5.out).trans ((Rd.bind_ok Hr6.out).trans ((Rd.bind_ok Hr7.out).trans (Rd.bind_err Hr.out)))))))))⟩
                  | ok q =>
                    obtain ⟨x8, a8, g8⟩ := q
                    rw [hr] at hq
                    refine Calls.mono hq ?_
                    rintro e' U8 ⟨hk, v, rfl, rfl, hR⟩
                    have Hr8 := hidM hr
                    have hT := HT7.out.kp hk
                    have w0 := frz hT.tb 6
                    have w1 : U8.cell? ⟨c, 6, none⟩ = some (.int .i64 0) := by simp [World.cell?, hT.tb]
                    have hT0 : HB9 W (U8.setCell ⟨c, 6, none⟩ (.int .i64 (x8 : Int))) p b c (.int .i64 (x1 : Int)) (.slice none 0 0) (.slice none 0 0) (.int .i64 (x5 : Int)) (.bool x6) (.int .i64 (x7 : Int)) (.int .i64 (x8 : Int)) (.slice none 0 0) (.slice none 0 0) := ⟨(set_other _ (by have := hT.lt; omega)).trans hT.rb, heap_setCell_same _ c 6 _ _ _ hT.tb, hT.lt⟩
                    have HT8 := hidM hT0
                    have HG8 := hidM ((HG7.out.tr hk).setCell (p := ⟨c, 6, none⟩) (fun h => by have := hT.lt; have h : c < W.heap.size := h; omega) (.int .i64 (x8 : Int)))
                    have HR8 := hidM (RAt.over HR00.out hR HG8.out (set_other _ (by have := hT.lt; omega)))
                    clear hk hq hr hR hT hT0 HT7
                    go_wp2_with (go_at_call 77; refine Hid.out ?_)
                    unfold Hid
                    clear w0 w1
                    have hq := HN2.out _ _ _ HR8.out
                    cases hr : numR B 2 (a8, g8) with
                    | error er =>
                      rw [hr] at hq
                      refine Calls.mono hq ?_
                      rintro e' U ⟨hk, rfl⟩
                      have HGe := hidM (HG8.out.tr hk)
                      have Hr := hidM hr
                      clear hk hq hr
                      go_wp2_with fail
                      exact ⟨rfl, RdQ.err HGe.out (by rw [HRes.out]; exact (Rd.bind_ok Hr1.out).trans ((Rd.bind_ok Hr2.out).trans ((Rd.bind_ok Hr3.out).trans ((Rd.bind_ok Hr4.out).trans ((show restR B x1 (a4, g4) = _ by unfold restR; rw [if_neg Cn.out, if_pos C2.out]; exact (Rd.bind_ok Hr5.out).trans ((Rd.bind_ok Hr6.out).trans ((Rd.bind_ok Hr7.out).trans ((Rd.bind_ok Hr8.out).trans (Rd.bind_err Hr.out))))))))))⟩
                    | ok q =>
                      obtain ⟨x9, a9, g9⟩ := q
                      rw [hr] at hq
                      refine Calls.mono hq ?_
                      rintro e' U9 ⟨hk, v, rfl, rfl, hR⟩
                      have Hr9 := hidM hr
                      have HT9 := hidM (HT8.out.kp hk)
                      have HG9 := hidM (HG8.out.tr hk)
                      have HR9 := hidM hR
                      clear hk hq hr hR HT8
                      go_wp2_with (go_at_call 79; refine Hid.out ?_)
                      unfold Hid
                      have hq := HNd.out x9 (num2_lt Hr9.out) _ _ _ HR9.out
                      cases hr : sevR x9 (nodeR B) (a9, g9) with
                      | error er =>
                        rw [hr] at hq
                        refine Calls.mono hq ?_
                        rintro e' U ⟨hk, rfl⟩
                        have HGe := hidM (HG9.out.tr hk)
                        have Hr := hidM hr
                        clear hk hq hr
                        go_wp2_with fail
                        exact ⟨rfl, RdQ.err HGe.out (by rw [HRes.out]; exact (Rd.bind_ok Hr1.out).trans ((Rd.bind_ok Hr2.out).trans ((Rd.bind_ok Hr3.out).trans ((Rd.bind_ok Hr4.out).trans ((show restR B x1 (a4, g4) = _ by unfold restR; rw [if_neg Cn.out, if_pos C2.out]; exact (Rd.bind_ok Hr5.out).trans ((Rd.bind_ok Hr6.out).trans ((Rd.bind_ok Hr7.out).trans ((Rd.bind_ok Hr8.out).trans ((Rd.bind_ok Hr9.out).trans (Rd.bind_err Hr.out)))))))))))⟩
                      | ok q =>
                        obtain ⟨x10, a10, g10⟩ := q
                        rw [hr] at hq
                        refine Calls.mono hq ?_
                        rintro e' U10 ⟨hk, v, rfl, ⟨vo, vc, rfl, hnd⟩, hR⟩
                        have Hr10 := hidM hr
                        have HZn := hidM HG9.out.size
                        have HSn := hidM (And.intro (lt_of_heap HT9.out.rb) (lt_of_heap HT9.out.tb))
                        have HKn := hidM hnd
                        clear hnd
                        have hT := HT9.out.kp hk
                        have w0 := frz hT.tb 7
                        have w1 : U10.cell? ⟨c, 7, none⟩ = some (.slice none 0 0) := by simp [World.cell?, hT.tb]
                        have hT0 : HB9 W (U10.setCell ⟨c, 7, none⟩ (.slice vo x10.length vc)) p b c (.int .i64 (x1 : Int)) (.slice none 0 0) (.slice none 0 0) (.int .i64 (x5 : Int)) (.bool x6) (.int .i64 (x7 : Int)) (.int .i64 (x8 : Int)) (.slice vo x10.length vc) (.slice none 0 0) := ⟨(set_other _ (by have := hT.lt; omega)).trans hT.rb, heap_setCell_same _ c 7 _ _ _ hT.tb, hT.lt⟩
                        have HT10 := hidM hT0
                        have HG10 := hidM ((HG9.out.tr hk).setCell (p := ⟨c, 7, none⟩) (fun h => by have := hT.lt; have h : c < W.heap.size := h; omega) (.slice vo x10.length vc))
                        have HR10 := hidM (RAt.over HR00.out hR HG10.out (set_other _ (by have := hT.lt; omega)))
                        have HQ10 : Hid (Keeps U10 (U10.setCell ⟨c, 7, none⟩ (.slice vo x10.length vc)) (fun z => z = p ∨ z = b ∨ z = c)) := (Keeps.refl U10 (fun z => z = p ∨ z = b ∨ z = c)).setCell (p := ⟨c, 7, none⟩) (fun _ => .inr (.inr rfl)) _
                        clear hk hq hr hR hT hT0 HT9
                        go_wp2_with (go_at_call 77; refine Hid.out ?_)
                        unfold Hid
                        clear w0 w1
                        have hq := HN2.out _ _ _ HR10.out
                        cases hr : numR B 2 (a10, g10) with
                        | error er =>
                          rw [hr] at hq
                          refine Calls.mono hq ?_
                          rintro e' U ⟨hk, rfl⟩
                          have HGe := hidM (HG10.out.tr hk)
                          have Hr := hidM hr
                          clear hk hq hr
                          go_wp2_with fail
                          exact ⟨rfl, RdQ.err HGe.out (by rw [HRes.out]; exact (Rd.bind_ok Hr1.out).trans ((Rd.bind_ok Hr2.out).trans ((Rd.bind_ok Hr3.out).trans ((Rd.bind_ok Hr4.out).trans ((show restR B x1 (a4, g4) = _ by unfold restR; rw [if_neg Cn.out, if_pos C2.out]; exact (Rd.bind_ok Hr5.out).trans ((Rd.bind_ok Hr6.out).trans ((Rd.bind_ok Hr7.out).trans ((Rd.bind_ok Hr8.out).trans ((Rd.bind_ok Hr9.out).trans ((Rd.bind_ok Hr10.out).trans (Rd.bind_err Hr.out))))))))))))⟩
                        | ok q =>
                          obtain ⟨x11, a11, g11⟩ := q
                          rw [hr] at hq
                          refine Calls.mono hq ?_
                          rintro e' U11 ⟨hk, v, rfl, rfl, hR⟩
                          have Hr11 := hidM hr
                          replace HQ10 := hidM (HQ10.out.trans hk (fun _ _ h => .inl h))
                          have HT11 := hidM (HT10.out.kp hk)
                          have HG11 := hidM (HG10.out.tr hk)
                          have HR11 := hidM hR
                          clear hk hq hr hR HT10
                          go_wp2_with (go_at_call 81; refine Hid.out ?_)
                          unfold Hid
                          have hq := HSl.out x11 (num2_lt Hr11.out) _ _ _ HR11.out
                          cases hr : sevR x11 (slotR B) (a11, g11) with
                          | error er =>
                            rw [hr] at hq
                            refine Calls.mono hq ?_
                            rintro e' U ⟨hk, rfl⟩
                            have HGe := hidM (HG11.out.tr hk)
                            have Hr := hidM hr
                            clear hk hq hr
                            go_wp2_with fail
                            exact ⟨rfl, RdQ.err HGe.out (by rw [HRes.out]; exact (Rd.bind_ok Hr1.out).trans ((Rd.bind_ok Hr2.out).trans ((Rd.bind_ok Hr3.out).trans ((Rd.bind_ok Hr4.out).trans ((show restR B x1 (a4, g4) = _ by unfold restR; rw [if_neg Cn.out, if_pos C2.out]; exact (Rd.bind_ok Hr5.out).trans ((Rd.bind_ok Hr6.out).trans ((Rd.bind_ok Hr7.out).trans ((Rd.bind_ok Hr8.out).trans ((Rd.bind_ok Hr9.out).trans ((Rd.bind_ok Hr10.out).trans ((Rd.bind_ok Hr11.out).trans (Rd.bind_err Hr.out)))))))))))))⟩
                          | ok q =>
                            obtain ⟨x12, a12, g12⟩ := q
                            rw [hr] at hq
                            refine Calls.mono hq ?_
                            rintro e' U12 ⟨hk, v, rfl, ⟨uo, uc, rfl, hsl⟩, hR⟩
                            have Hr12 := hidM hr
                            have hT := HT11.out.kp hk
                            have Hsz := hidM (And.intro (lt_of_heap HT11.out.rb) (lt_of_heap HT11.out.tb))
                            have HGi := hidM HG11.out.size
                            have HTf := hidM hT
                            have HGf := hidM (HG11.out.tr hk)
                            have HRf := hidM hR
                            replace HQ10 := hidM (HQ10.out.trans hk (fun _ _ h => .inl h))
                            obtain ⟨u0, u1, u2, u3, u4, u5, u6, u7, u8⟩ := fz9 HTf.out.rb
                            obtain ⟨v0, v1, v2, v3, v4, v5, v6, v7, v8⟩ := ce9 HTf.out.rb
                            obtain ⟨s0, s1, s2, s3, s4, s5, s6, s7, s8⟩ := ce9 HTf.out.tb
                            have f8 := frz HTf.out.tb 8
                            have hcb : ¬ c = b := by have := HTf.out.lt; omega
                            have hbc : ¬ b = c := by have := HTf.out.lt; omega
                            have HK := hidM hsl
                            clear hsl
                            clear hk hq hr hR hT
                            go_wp2_with fail
                            have k0 : Keeps U12 (U12.setCell ⟨c, 8, none⟩ (.slice uo x12.length uc)) (fun z => z = c) := (Keeps.refl U12 (fun z => z = c)).setCell (p := ⟨c, 8, none⟩) (fun _ => rfl) _
                            have hb3 := put9_box (.int .i64 (x1 : Int)) (.slice none 0 0) (.slice none 0 0) (.int .i64 (x5 : Int)) (.bool x6) (.int .i64 (x7 : Int)) (.int .i64 (x8 : Int)) (.slice vo x10.length vc) (.slice uo x12.length uc) ((k0.block b (lt_of_heap HTf.out.rb) hbc).trans HTf.out.rb)
                            have k3 := put9_keeps (U12.setCell ⟨c, 8, none⟩ (.slice uo x12.length uc)) b (.int .i64 (x1 : Int)) (.slice none 0 0) (.slice none 0 0) (.int .i64 (x5 : Int)) (.bool x6) (.int .i64 (x7 : Int)) (.int .i64 (x8 : Int)) (.slice vo x10.length vc) (.slice uo x12.length uc)
                            have k4 := (k0.mono (T := fun z => z = b ∨ z = c) fun _ _ h => .inr h).trans k3 (fun _ _ h => .inl h)
                            have kW := HGf.out.trans k4 (fun j hj h => by have := HTf.out.lt; omega)
                            have hE : R = .ok (⟨x1, [], [], x5, x6, x7, x8, x10, x12⟩, (a12, g12)) := by rw [HRes.out]; exact (Rd.bind_ok Hr1.out).trans ((Rd.bind_ok Hr2.out).trans ((Rd.bind_ok Hr3.out).trans ((Rd.bind_ok Hr4.out).trans ((show restR B x1 (a4, g4) = _ by unfold restR; rw [if_neg Cn.out, if_pos C2.out]; exact (Rd.bind_ok Hr5.out).trans ((Rd.bind_ok Hr6.out).trans ((Rd.bind_ok Hr7.out).trans ((Rd.bind_ok Hr8.out).trans ((Rd.bind_ok Hr9.out).trans ((Rd.bind_ok Hr10.out).trans ((Rd.bind_ok Hr11.out).trans ((Rd.bind_ok Hr12.out).trans (rfl)))))))))))))
                            have hRA := RAt.over HR00.out HRf.out kW (k4.block p (lt_of_heap HRf.out.box) (by have := HTf.out.lt; omega))
                            (try simp only [Exit.inBlock, Exit.then])
                            have kq := HQ10.out.tr (k4.mono (T := fun z => z = p ∨ z = b ∨ z = c) fun _ _ h => .inr h)
                            exact bodyPost_ret (results_cell30 rfl rfl hb3 (by kernel_rfl)) rfl (RdQ.ok kW hE ⟨none, 0, none, 0, vo, vc, uo, uc, rfl, Nat.le_refl _, RowI.nil _ _ _ _, LAt.nil _ _ _ _ _, HKn.out.put3 kq HZn.out HSn.out HNe.out, HK.out.put k4 HGi.out Hsz.out⟩ hRA)
          have d2 : ((x1 : Int) == 2) = false := by rw [beq_eq_false_iff_ne]; omega
          have d3 : ((x1 : Int) == 3) = true := by rw [beq_iff_eq]; have := Hin.out; omega
          have C2 := hidM c2
          have Cn := hidM c1
          clear c2 c1
          go_wp2_with (go_at_call 77; refine Hid.out ?_)
          unfold Hid
          clear wk
          have hq := HN4.out _ _ _ HR4.out
          cases hr : numR B 4 (a4, g4) with
          | error er =>
            rw [hr] at hq
            refine Calls.mono hq ?_
            rintro e' U ⟨hk, rfl⟩
            have HGe := hidM (HG4.out.tr hk)
            have Hr := hidM hr
            clear hk hq hr
            go_wp2_with fail
            exact ⟨rfl, RdQ.err HGe.out (by rw [HRes.out]; exact (Rd.bind_ok Hr1.out).trans ((Rd.bind_ok Hr2.out).trans ((Rd.bind_ok Hr3.out).trans ((Rd.bind_ok Hr4.out).trans ((show restR B x1 (a4, g4) = _ by unfold restR; rw [if_neg Cn.out, if_neg C2.out]; exact Rd.bind_err Hr.out))))))⟩
          | ok q =>
            obtain ⟨x5, a5, g5⟩ := q
            rw [hr] at hq
            refine Calls.mono hq ?_
            rintro e' U5 ⟨hk, v, rfl, rfl, hR⟩
            have Hr5 := hidM hr
            have hT := HT4.out.kp hk
            have w0 := frz hT.tb 5
            have w1 : U5.cell? ⟨c, 5, none⟩ = some (.int .i64 0) := by simp [World.cell?, hT.tb]
            have hT0 : HB9 W (U5.setCell ⟨c, 5, none⟩ (.int .i64 (x5 : Int))) p b c (.int .i64 (x1 : Int)) (.slice none 0 0) (.slice none 0 0) (.int .i64 0) (.bool false) (.int .i64 (x5 : Int)) (.int .i64 0) (.slice none 0 0) (.slice none 0 0) := ⟨(set_other _ (by have := hT.lt; omega)).trans hT.rb, heap_setCell_same _ c 5 _ _ _ hT.tb, hT.lt⟩
            have HT5 := hidM hT0
            have HG5 := hidM ((HG4.out.tr hk).setCell (p := ⟨c, 5, none⟩) (fun h => by have := hT.lt; have h : c < W.heap.size := h; omega) (.int .i64 (x5 : Int)))
            have HR5 := hidM (RAt.over HR00.out hR HG5.out (set_other _ (by have := hT.lt; omega)))
            clear hk hq hr hR hT hT0 HT4
            go_wp2_with (go_at_call 77; refine Hid.out ?_)
            unfold Hid
            clear w0 w1
            have hq := HN1.out _ _ _ HR5.out
            cases hr : numR B 1 (a5, g5) with
            | error er =>
              rw [hr] at hq
              refine Calls.mono hq ?_
              rintro e' U ⟨hk, rfl⟩
              have HGe := hidM (HG5.out.tr hk)
              have Hr := hidM hr
              clear hk hq hr
              go_wp2_with fail
              exact ⟨rfl, RdQ.err HGe.out (by rw [HRes.out]; exact (Rd.bind_ok Hr1.out).trans ((Rd.bind_ok Hr2.out).trans ((Rd.bind_ok Hr3.out).trans ((Rd.bind_ok Hr4.out).trans ((show restR B x1 (a4, g4) = _ by unfold restR; rw [if_neg Cn.out, if_neg C2.out]; exact (Rd.bind_ok Hr5.out).trans (Rd.bind_err Hr.out)))))))⟩
            | ok q =>
              obtain ⟨x6, a6, g6⟩ := q
              rw [hr] at hq
              refine Calls.mono hq ?_
              rintro e' U6 ⟨hk, v, rfl, rfl, hR⟩
              have Hr6 := hidM hr
              have hT := HT5.out.kp hk
              have w0 := frz hT.tb 6
              have w1 : U6.cell? ⟨c, 6, none⟩ = some (.int .i64 0) := by simp [World.cell?, hT.tb]
              have hT0 : HB9 W (U6.setCell ⟨c, 6, none⟩ (.int .i64 (x6 : Int))) p b c (.int .i64 (x1 : Int)) (.slice none 0 0) (.slice none 0 0) (.int .i64 0) (.bool false) (.int .i64 (x5 : Int)) (.int .i64 (x6 : Int)) (.slice none 0 0) (.slice none 0 0) := ⟨(set_other _ (by have := hT.lt; omega)).trans hT.rb, heap_setCell_same _ c 6 _ _ _ hT.tb, hT.lt⟩
              have HT6 := hidM hT0
              have HG6 := hidM ((HG5.out.tr hk).setCell (p := ⟨c, 6, none⟩) (fun h => by have := hT.lt; have h : c < W.heap.size := h; omega) (.int .i64 (x6 : Int)))
              have HR6 := hidM (RAt.over HR00.out hR HG6.out (set_other _ (by have := hT.lt; omega)))
              clear hk hq hr hR hT hT0 HT5
              go_wp2_with (go_at_call 77; refine Hid.out ?_)
              unfold Hid
              clear w0 w1
              have hq := HN2.out _ _ _ HR6.out
              cases hr : numR B 2 (a6, g6) with
              | error er =>
                rw [hr] at hq
                refine Calls.mono hq ?_
                rintro e' U ⟨hk, rfl⟩
                have HGe := hidM (HG6.out.tr hk)
                have Hr := hidM hr
                clear hk hq hr
                go_wp2_with fail
                exact ⟨rfl, RdQ.err HGe.out (by rw [HRes.out]; exact (Rd.bind_ok Hr1.out).trans ((Rd.bind_ok Hr2.out).trans ((Rd.bind_ok Hr3.out).trans ((Rd.bind_ok Hr4.out).trans ((show restR B x1 (a4, g4) = _ by unfold restR; rw [if_neg Cn.out, if_neg C2.out]; exact (Rd.bind_ok Hr5.out).trans ((Rd.bind_ok Hr6.out).trans (Rd.bind_err Hr.out))))))))⟩
              | ok q =>
                obtain ⟨x7, a7, g7⟩ := q
                rw [hr] at hq
                refine Calls.mono hq ?_
                rintro e' U7 ⟨hk, v, rfl, rfl, hR⟩
                have Hr7 := hidM hr
                have HT7 := hidM (HT6.out.kp hk)
                have HG7 := hidM (HG6.out.tr hk)
                have HR7 := hidM hR
                clear hk hq hr hR HT6
                go_wp2_with (go_at_call 79; refine Hid.out ?_)
                unfold Hid
                have hq := HNd.out x7 (num2_lt Hr7.out) _ _ _ HR7.out
                cases hr : sevR x7 (nodeR B) (a7, g7) with
                | error er =>
                  rw [hr] at hq
                  refine Calls.mono hq ?_
                  rintro e' U ⟨hk, rfl⟩
                  have HGe := hidM (HG7.out.tr hk)
                  have Hr := hidM hr
                  clear hk hq hr
                  go_wp2_with fail
                  exact ⟨rfl, RdQ.err HGe.out (by rw [HRes.out]; exact (Rd.bind_ok Hr1.out).trans ((Rd.bind_ok Hr2.out).trans ((Rd.bind_ok Hr3.out).trans ((Rd.bind_ok Hr4.out).trans ((show restR B x1 (a4, g4) = _ by unfold restR; rw [if_neg Cn.out, if_neg C2.out]; exact (Rd.bind_ok Hr5.out).trans ((Rd.bind_ok Hr6.out).trans ((Rd.bind_ok Hr7.out).trans (Rd.bind_err Hr.out)))))))))⟩
                | ok q =>
                  obtain ⟨x8, a8, g8⟩ := q
                  rw [hr] at hq
                  refine Calls.mono hq ?_
                  rintro e' U8 ⟨hk, v, rfl, ⟨vo, vc, rfl, hnd⟩, hR⟩
                  have Hr8 := hidM hr
                  have HZn := hidM HG7.out.size
                  have HSn := hidM (And.intro (lt_of_heap HT7.out.rb) (lt_of_heap HT7.out.tb))
                  have HKn := hidM hnd
                  clear hnd
                  have hT := HT7.out.kp hk
                  have w0 := frz hT.tb 7
                  have w1 : U8.cell? ⟨c, 7, none⟩ = some (.slice none 0 0) := by simp [World.cell?, hT.tb]
                  have hT0 : HB9 W (U8.setCell ⟨c, 7, none⟩ (.slice vo x8.length vc)) p b c (.int .i64 (x1 : Int)) (.slice none 0 0) (.slice none 0 0) (.int .i64 0) (.bool false) (.int .i64 (x5 : Int)) (.int .i64 (x6 : Int)) (.slice vo x8.length vc) (.slice none 0 0) := ⟨(set_other _ (by have := hT.lt; omega)).trans hT.rb, heap_setCell_same _ c 7 _ _ _ hT.tb, hT.lt⟩
                  have HT8 := hidM hT0
                  have HG8 := hidM ((HG7.out.tr hk).setCell (p := ⟨c, 7, none⟩) (fun h => by have := hT.lt; have h : c < W.heap.size := h; omega) (.slice vo x8.length vc))
                  have HR8 := hidM (RAt.over HR00.out hR HG8.out (set_other _ (by have := hT.lt; omega)))
                  have HQ8 : Hid (Keeps U8 (U8.setCell ⟨c, 7, none⟩ (.slice vo x8.length vc)) (fun z => z = p ∨ z = b ∨ z = c)) := (Keeps.refl U8 (fun z => z = p ∨ z = b ∨ z = c)).setCell (p := ⟨c, 7, none⟩) (fun _ => .inr (.inr rfl)) _
                  clear hk hq hr hR hT hT0 HT7
                  go_wp2_with (go_at_call 77; refine Hid.out ?_)
                  unfold Hid
                  clear w0 w1
                  have hq := HN2.out _ _ _ HR8.out
                  cases hr : numR B 2 (a8, g8) with
                  | error er =>
                    rw [hr] at hq
                    refine Calls.mono hq ?_
                    rintro e' U ⟨hk, rfl⟩
                    have HGe := hidM (HG8.out.tr hk)
                    have Hr := hidM hr
                    clear hk hq hr
                    go_wp2_with fail
                    exact ⟨rfl, RdQ.err HGe.out (by rw [HRes.out]; exact (Rd.bind_ok Hr1.out).trans ((Rd.bind_ok Hr2.out).trans ((Rd.bind_ok Hr3.out).trans ((Rd.bind_ok Hr4.out).trans ((show restR B x1 (a4, g4) = _ by unfold restR; rw [if_neg Cn.out, if_neg C2.out]; exact (Rd.bind_ok Hr5.out).trans ((Rd.bind_ok Hr6.out).trans ((Rd.bind_ok Hr7.out).trans ((Rd.bind_ok Hr8.out).trans (Rd.bind_err Hr.out))))))))))⟩
                  | ok q =>
                    obtain ⟨x9, a9, g9⟩ := q
                    rw [hr] at hq
                    refine Calls.mono hq ?_
                    rintro e' U9 ⟨hk, v, rfl, rfl, hR⟩
                    have Hr9 := hidM hr
                    replace HQ8 := hidM (HQ8.out.trans hk (fun _ _ h => .inl h))
                    have HT9 := hidM (HT8.out.kp hk)
                    have HG9 := hidM (HG8.out.tr hk)
                    have HR9 := hidM hR
                    clear hk hq hr hR HT8
                    go_wp2_with (go_at_call 81; refine Hid.out ?_)
                    unfold Hid
                    have hq := HSl.out x9 (num2_lt Hr9.out) _ _ _ HR9.out
                    cases hr : sevR x9 (slotR B) (a9, g9) with
                    | error er =>
                      rw [hr] at hq
                      refine Calls.mono hq ?_
                      rintro e' U ⟨hk, rfl⟩
                      have HGe := hidM (HG9.out.tr hk)
                      have Hr := hidM hr
                      clear hk hq hr
                      go_wp2_with fail
                      exact ⟨rfl, RdQ.err HGe.out (by rw [HRes.out]; exact (Rd.bind_ok Hr1.out).trans ((Rd.bind_ok Hr2.out).trans ((Rd.bind_ok Hr3.out).trans ((Rd.bind_ok Hr4.out).trans ((show restR B x1 (a4, g4) = _ by unfold restR; rw [if_neg Cn.out, if_neg C2.out]; exact (Rd.bind_ok Hr5.out).trans ((Rd.bind_ok Hr6.out).trans ((Rd.bind_ok Hr7.out).trans ((Rd.bind_ok Hr8.out).trans ((Rd.bind_ok Hr9.out).trans (Rd.bind_err Hr.out)))))))))))⟩
                    | ok q =>
                      obtain ⟨x10, a10, g10⟩ := q
                      rw [hr] at hq
                      refine Calls.mono hq ?_
                      rintro e' U10 ⟨hk, v, rfl, ⟨uo, uc, rfl, hsl⟩, hR⟩
                      have Hr10 := hidM hr
                      have hT := HT9.out.kp hk
                      have Hsz := hidM (And.intro (lt_of_heap HT9.out.rb) (lt_of_heap HT9.out.tb))
                      have HGi := hidM HG9.out.size
                      have HTf := hidM hT
                      have HGf := hidM (HG9.out.tr hk)
                      have HRf := hidM hR
                      replace HQ8 := hidM (HQ8.out.trans hk (fun _ _ h => .inl h))
                      obtain ⟨u0, u1, u2, u3, u4, u5, u6, u7, u8⟩ := fz9 HTf.out.rb
                      obtain ⟨v0, v1, v2, v3, v4, v5, v6, v7, v8⟩ := ce9 HTf.out.rb
                      obtain ⟨s0, s1, s2, s3, s4, s5, s6, s7, s8⟩ := ce9 HTf.out.tb
                      have f8 := frz HTf.out.tb 8
                      have hcb : ¬ c = b := by have := HTf.out.lt; omega
                      have hbc : ¬ b = c := by have := HTf.out.lt; omega
                      have HK := hidM hsl
                      clear hsl
                      clear hk hq hr hR hT
                      go_wp2_with fail
                      have k0 : Keeps U10 (U10.setCell ⟨c, 8, none⟩ (.slice uo x10.length uc)) (fun z => z = c) := (Keeps.refl U10 (fun z => z = c)).setCell (p := ⟨c, 8, none⟩) (fun _ => rfl) _
                      have hb3 := put9_box (.int .i64 (x1 : Int)) (.slice none 0 0) (.slice none 0 0) (.int .i64 0) (.bool false) (.int .i64 (x5 : Int)) (.int .i64 (x6 : Int)) (.slice vo x8.length vc) (.slice uo x10.length uc) ((k0.block b (lt_of_heap HTf.out.rb) hbc).trans HTf.out.rb)
                      have k3 := put9_keeps (U10.setCell ⟨c, 8, none⟩ (.slice uo x10.length uc)) b (.int .i64 (x1 : Int)) (.slice none 0 0) (.slice none 0 0) (.int .i64 0) (.bool false) (.int .i64 (x5 : Int)) (.int .i64 (x6 : Int)) (.slice vo x8.length vc) (.slice uo x10.length uc)
                      have k4 := (k0.mono (T := fun z => z = b ∨ z = c) fun _ _ h => .inr h).trans k3 (fun _ _ h => .inl h)
                      have kW := HGf.out.trans k4 (fun j hj h => by have := HTf.out.lt; omega)
                      have hE : R = .ok (⟨x1, [], [], 0, false, x5, x6, x8, x10⟩, (a10, g10)) := by rw [HRes.out]; exact (Rd.bind_ok Hr1.out).trans ((Rd.bind_ok Hr2.out).trans ((Rd.bind_ok Hr3.out).trans ((Rd.bind_ok Hr4.out).trans ((show restR B x1 (a4, g4) = _ by unfold restR; rw [if_neg Cn.out, if_neg C2.out]; exact (Rd.bind_ok Hr5.out).trans ((Rd.bind_ok Hr6.out).trans ((Rd.bind_ok Hr7.out).trans ((Rd.bind_ok Hr8.out).trans ((Rd.bind_ok Hr9.out).trans ((Rd.bind_ok Hr10.out).trans (rfl)))))))))))
                      have hRA := RAt.over HR00.out HRf.out kW (k4.block p (lt_of_heap HRf.out.box) (by have := HTf.out.lt; omega))
                      (try simp only [Exit.inBlock, Exit.then])
                      have kq := HQ8.out.tr (k4.mono (T := fun z => z = p ∨ z = b ∨ z = c) fun _ _ h => .inr h)
                      exact bodyPost_ret (results_cell30 rfl rfl hb3 (by kernel_rfl)) rfl (RdQ.ok kW hE ⟨none, 0, none, 0, vo, vc, uo, uc, rfl, Nat.le_refl _, RowI.nil _ _ _ _, LAt.nil _ _ _ _ _, HKn.out.put3 kq HZn.out HSn.out HNe.out, HK.out.put k4 HGi.out Hsz.out⟩ hRA)
end Go.Proofs.YtdihbfjjddmbiaaGreatDoor.Kit
