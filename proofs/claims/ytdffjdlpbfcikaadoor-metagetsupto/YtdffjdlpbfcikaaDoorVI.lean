import Derived.Test.YtdffjdlpbfcikaaDoorVH
namespace Go.Proofs.YtdffjdlpbfcikaaDoor.Kit
open Go.RowKit Go.Shelf Go.Deep
set_option linter.unusedVariables false
attribute [local go_sem] run_store_func

theorem fault_zero {E : Int × Int} {N : List LS} {er : Int} {p : List Nat} {k : Int} (h : FaultIs E N er p k) : er = 0 ↔ E.1 = 0 ∧ AllR N := by
  constructor
  · intro e
    subst e
    rcases h with ⟨a, e, _⟩ | ⟨a, b, _⟩ | ⟨a, L, x, _, _, h3, e, _⟩
    · exact absurd e.symm a
    · exact ⟨a, b⟩
    · exact absurd e.symm h3
  · rintro ⟨h1, h2⟩
    exact (FaultIs.one (.inr (.inl ⟨h1, h2, rfl, rfl, rfl⟩)) h).1.symm
/-- when a schema may be, by the document -/
def Yes (D : Nat) (fs : List FT) (ns : List (ByteArray × ByteArray)) : Prop := fs.length ≤ 32 ∧ ns.length ≤ 16 ∧ (∀ n ∈ ns, noteBad n = false) ∧ unl fs ∧ ∃ st', mayK (mayF (D - 1) false 1) fs (0, []) = some st'
theorem yes_iff {D : Nat} {fs : List FT} {ns : List (ByteArray × ByteArray)} {er : Int} {p : List Nat} {tt : Int} (hd : deep D fs) (hF : FaultIs (listsE fs.length ns) (nodes D fs [] false) er p tt) : Yes D fs ns ↔ er = 0 := by
  rw [fault_zero hF, lists_iff]
  unfold Yes
  cases D with
  | zero =>
    have : fs = [] := hd
    subst this
    constructor
    · rintro ⟨h1, h2, h3, -, -⟩; exact ⟨⟨h1, h2, h3⟩, AllR.nil⟩
    · rintro ⟨⟨h1, h2, h3⟩, -⟩; exact ⟨h1, h2, h3, fun i hi => by simp at hi, _, rfl⟩
  | succ d =>
    rw [schema_may hd]
    constructor
    · rintro ⟨h1, h2, h3, h4, h5⟩; exact ⟨⟨h1, h2, h3⟩, h4, h5⟩
    · rintro ⟨⟨h1, h2, h3⟩, h4, h5⟩; exact ⟨h1, h2, h3, h4, h5⟩
set_option maxRecDepth 100000 in
set_option maxHeartbeats 4000000 in
theorem schemaMay_any {S : Nat → Prop} {D : Nat} {fo no : Option Addr} {cf cn : Nat} {fs : List FT} {ns : List (ByteArray × ByteArray)} {w : World} (z : Bool) (hz : Yes D fs ns ↔ z = true) (hr : RowAt S w D fo fs) (hS : ∀ b, S b → b < w.heap.size) (hn : NotesAt w no ns) :
    ∀ W, Gr w W → Calls Tryd.prog 33 #[.agg #[.slice fo fs.length cf, .slice no ns.length cn]] W fun e w' => e = .returned (.bool z) ∧ Gr W w' := by
  intro W g
  have hlf : fs.length ≤ 1000000000000 := hr.len
  have hln : ns.length ≤ 1000000000000 := hn.1
  have HNo : Hid (¬ Yes D fs ns → z = false) := fun h => by cases z with | false => rfl | true => exact absurd (hz.2 rfl) h
  have HYe : Hid (Yes D fs ns → z = true) := hz.1
  have HRn : Hid (ns ≠ [] → ∃ b o, no = some ⟨b, o, none⟩ ∧ ∀ i (h : i < ns.length), W.cell? ⟨b, o + i * 2, none⟩ = some (.string ns[i].1) ∧ W.cell? ⟨b, o + i * 2 + 1, none⟩ = some (.string ns[i].2)) := (hn.gr g).2
  have HRw := hidM (hr.kept (S := S) fun b hb => g.block b (hS b hb) id)
  have HSW : Hid (∀ b, S b → b < W.heap.size) := fun b hb => by have := hS b hb; have := g.size; omega
  have hbx := World.alloc_heap_new W (.cells #[.slice fo fs.length cf, .slice no ns.length cn] 26)
  have HB := hidM hbx
  clear hbx hr hS hn hz g
  obtain ⟨p0, p1⟩ := ce2 HB.out
  go_enter Tryd.func33, Tryd.ntmps33
  by_cases h32 : fs.length ≤ 32
  rotate_left
  · have i32 : (32 : Int) < (fs.length : Int) := by omega
    have HZ : Hid (z = false) := HNo.out fun h => h32 h.1
    go_wp2
    go_ret
    exact ⟨by rw [HZ.out]; rfl, gr_alloc _ _⟩
  have i32 : ¬ (32 : Int) < (fs.length : Int) := by omega
  by_cases h16 : ns.length ≤ 16
  rotate_left
  · have i16 : (16 : Int) < (ns.length : Int) := by omega
    have HZ : Hid (z = false) := HNo.out fun h => h16 h.2.1
    go_wp2
    go_ret
    exact ⟨by rw [HZ.out]; rfl, gr_alloc _ _⟩
  have i16 : ¬ (16 : Int) < (ns.length : Int) := by omega
  have HLs := hidM (And.intro h32 h16)
  go_wp2
  go_loopw [3] (fun p wr => ∃ i : Nat, i ≤ ns.length ∧ p = .int .i64 (i : Int) ∧ Hid (Gr (W.alloc (.cells #[.slice fo fs.length cf, .slice no ns.length cn] 26)) wr ∧ ∀ j (hj : j < ns.length), j < i → noteBad ns[j] = false)) (fun p _ => ns.length - (intOf p).toNat)
  case atStart => exact ⟨0, by omega, rfl, Keeps.refl _ _, fun j hj h => by omega⟩
  case round =>
    obtain ⟨i, hi, rfl, HI⟩ := hrel
    have t1 := HI.out.1.cell' p1 id
    by_cases hlt : i < ns.length
    · have hltI : (i : Int) < (ns.length : Int) := by omega
      obtain ⟨b, o, hno, hcs⟩ := HRn.out (fun e => by rw [e] at hlt; simp at hlt)
      obtain ⟨c0, c1⟩ := hcs i hlt
      have t2 := HI.out.1.cell' ((gr_alloc W _).cell' c0 id) id
      have t3 := HI.out.1.cell' ((gr_alloc W _).cell' c1 id) id
      have HBad : Hid (noteBad ns[i] = true → ¬ Yes D fs ns) := fun h hy => by
        have := hy.2.2.1 ns[i] (List.getElem_mem hlt)
        rw [h] at this; cases this
      have HNx : Hid (noteBad ns[i] = false → ∀ j (hj : j < ns.length), j < i + 1 → noteBad ns[j] = false) := fun h j hj hlt' => by
        by_cases e : j = i
        · subst e; exact h
        · exact HI.out.2 j hj (by omega)
      obtain ⟨ky, hky⟩ : ∃ ky, ky = ns[i].1 := ⟨_, rfl⟩
      obtain ⟨tx, htx⟩ : ∃ tx, tx = ns[i].2 := ⟨_, rfl⟩
      have hnb : noteBad ns[i] = (decide (256 < ky.size) || decide (256 < tx.size)) := by rw [hky, htx]; rfl
      rw [hnb] at HBad HNx
      rw [← hky] at t2
      rw [← htx] at t3
      have HG := hidM HI.out.1
      have hi0 : (0 : Int) ≤ (i : Int) := by omega
      rw [hno] at t1
      clear hcs c0 c1 hky htx hnb HI hno
      by_cases hk : 256 < ky.size
      · have hkI : (256 : Int) < (ky.size : Int) := by omega
        have HZ : Hid (z = false) := HNo.out (HBad.out (by simp [hk]))
        go_wp2
        go_ret
        exact ⟨by rw [HZ.out]; rfl, (gr_alloc W _).trans HG.out (fun _ _ h => h)⟩
      · have hkI : ¬ (256 : Int) < (ky.size : Int) := by omega
        by_cases ht : 256 < tx.size
        · have htI : (256 : Int) < (tx.size : Int) := by omega
          have HZ : Hid (z = false) := HNo.out (HBad.out (by simp [ht]))
          go_wp2
          go_ret
          exact ⟨by rw [HZ.out]; rfl, (gr_alloc W _).trans HG.out (fun _ _ h => h)⟩
        · have htI : ¬ (256 : Int) < (tx.size : Int) := by omega
          have HN2 := hidM (HNx.out (by simp [hk, ht]))
          clear HNx HBad
          go_wp2
          go_roundw
          case rel => exact ⟨i + 1, by omega, by simp, HG.out, HN2.out⟩
          case measure => simp [intOf]; omega
    · have hltI : ¬ (i : Int) < (ns.length : Int) := by omega
      have HNs : Hid (∀ n ∈ ns, noteBad n = false) := fun n hn => by
        obtain ⟨j, hj, rfl⟩ := List.mem_iff_getElem.1 hn
        exact HI.out.2 j hj (by omega)
      have HG := hidM ((gr_alloc W _).trans HI.out.1 (fun _ _ h => h))
      have HB1 := hidM ((HI.out.1.block _ (lt_of_heap HB.out) id).trans HB.out)
      obtain ⟨p0', p1'⟩ := ce2 HB1.out
      have H33 := hidM (unlike_any S D fo cf fs wr (HRw.out.kept fun b hb => HG.out.block b (HSW.out b hb) id))
      clear HI t1 p0 p1
      go_wp2_with (go_at_call 50; refine Hid.out ?_)
      unfold Hid
      refine Calls.mono H33.out ?_
      rintro e V ⟨u, rfl, hg, hu⟩
      have HGV := hidM (HG.out.trans hg (fun _ _ h => h))
      have HB2 := hidM ((hg.block _ (lt_of_heap HB1.out) id).trans HB1.out)
      have HU := hidM hu
      clear hg hu H33 p0' p1' HB1
      obtain ⟨p0, p1⟩ := ce2 HB2.out
      cases u with
      | false =>
        have HZ : Hid (z = false) := HNo.out fun h => absurd (HU.out.2 h.2.2.2.1) (by decide)
        go_wp2_with fail
        go_ret
        exact ⟨by rw [HZ.out]; rfl, HGV.out⟩
      | true =>
        obtain ⟨K, hK⟩ : ∃ K, K = V.heap.size := ⟨_, rfl⟩
        have x80 := World.alloc_heap_new V (.cells #[.int .i64 0, .slice none 0 0] 99)
        rw [← hK] at x80
        have HSn : Hid (Seen W (V.alloc (.cells #[.int .i64 0, .slice none 0 0] 99)) K 0 []) := ⟨HGV.out.alloc _, by rw [hK]; exact HGV.out.size, none, 0, 0, x80, World.ownsRow_nil _ _ _ _, fun g e => by simp [Value.ownBlock] at e⟩
        have HBV : Hid ((V.alloc (.cells #[.int .i64 0, .slice none 0 0] 99)).heap[W.heap.size]? = some (.cells #[.slice fo fs.length cf, .slice no ns.length cn] 26) ∧ W.heap.size ≠ K) := ⟨((gr_alloc V _).block _ (lt_of_heap HB2.out) id).trans HB2.out, fun h => by have := lt_of_heap HB2.out; omega⟩
        obtain ⟨V1, hV1⟩ : ∃ V1, V.alloc (.cells #[.int .i64 0, .slice none 0 0] 99) = V1 := ⟨_, rfl⟩
        rw [hV1] at HSn HBV
        have HFs : Hid (fs ≠ [] → ∃ b o, fo = some ⟨b, o, none⟩ ∧ ∀ i (h : i < fs.length), ∃ ao' ca', CellsAt W b (o + i * 7) fs[i] ao' ca' ∧ RowAt S W (D - 1) ao' fs[i].kids) := fun hne => by
          have hr := HRw.out
          cases D with
          | zero => exact absurd hr hne
          | succ d =>
            obtain ⟨b, o, e, _, h⟩ := hr.2 hne
            exact ⟨b, o, e, fun i hi => by obtain ⟨a, c, h1, h2, h3⟩ := h i hi; exact ⟨a, c, h1, h3⟩⟩
        clear x80 p0 p1 HB2
        go_wp2_with fail
        try rw [← hK]
        try rw [hV1]
        clear hV1 hK
        go_loopw [6] (fun p wr => ∃ k : Nat, k ≤ fs.length ∧ p = .int .i64 (k : Int) ∧ Hid (∃ st : Nat × List Int, mayK (mayF (D - 1) false 1) (fs.take k) (0, []) = some st ∧ Seen W wr K st.1 st.2 ∧ wr.heap[W.heap.size]? = some (.cells #[.slice fo fs.length cf, .slice no ns.length cn] 26))) (fun p _ => fs.length - (intOf p).toNat)
        case atStart => exact ⟨0, by omega, rfl, (0, []), rfl, HSn.out, HBV.out.1⟩
        case round =>
          obtain ⟨k, hk, rfl, HK⟩ := hrel
          obtain ⟨st, hst⟩ : ∃ st : Nat × List Int, Hid (_ = some st ∧ Seen W wr K st.1 st.2 ∧ _) := HK.out
          clear HK
          obtain ⟨p0, p1⟩ := ce2 hst.out.2.2
          by_cases hlt : k < fs.length
          · have hltI : (k : Int) < (fs.length : Int) := by omega
            obtain ⟨b, o, hfo, hcs⟩ := HFs.out (fun e => by rw [e] at hlt; simp at hlt)
            obtain ⟨ao', ca', hc, hrow⟩ := hcs k hlt
            obtain ⟨g0, g1, g2, g3, g4, g5, g6⟩ := hc.kept (hst.out.2.1.gr.block b (block_lt_of_cell hc.c0) id)
            have hbd := mayK_bound (fun x s s' hs h => mayF_bound (D - 1) false 1 x s s' hs h) (fs.take k) (0, []) st (by simp) (by simp) hst.out.1
            have HC := hidM (seenField_any S K (D - 1) fs[k] ao' ca' false 1 W hrow HSW.out (by omega) wr st.1 st.2 hst.out.2.1 hbd.1 hbd.2)
            have HTK : Hid (mayK (mayF (D - 1) false 1) (fs.take (k + 1)) (0, []) = mayF (D - 1) false 1 fs[k] st) := by show _ = _; rw [List.take_add_one, List.getElem?_eq_getElem hlt]; show mayK _ (_ ++ [fs[k]]) _ = _; rw [mayK_snoc, hst.out.1]; rfl
            have HKN : Hid (mayF (D - 1) false 1 fs[k] st = none → ¬ Yes D fs ns) := fun h hy => by
              obtain ⟨st', hs'⟩ := hy.2.2.2.2
              have := mayK_none _ (fs.take (k + 1)) (fs.drop (k + 1)) _ (HTK.out.trans h)
              rw [List.take_append_drop, hs'] at this
              cases this
            obtain ⟨rs, hrs⟩ : ∃ rs, rs = mayF (D - 1) false 1 fs[k] st := ⟨_, rfl⟩
            have e1 : (st.1, st.2) = st := rfl
            rw [e1, ← hrs] at HC
            rw [← hrs] at HTK HKN
            have hkn : (0 : Int) ≤ (k : Int) := by omega
            rw [hfo] at p0
            have e2 : ((1 : Nat) : Int) = 1 := rfl
            rw [e2] at HC
            clear hcs hc hbd hrs e1 e2 hfo
            go_wp2_with (go_at_call 51; refine Hid.out ?_)
            unfold Hid
            refine Calls.mono HC.out ?_
            rintro e w2 hq
            cases rs with
            | none =>
              obtain ⟨rfl, hgq⟩ : e = .returned (.bool false) ∧ Gr W w2 := hq
              have HZ : Hid (z = false) := HNo.out (HKN.out rfl)
              have HGq := hidM hgq
              go_wp2_with fail
              go_ret
              exact ⟨by rw [HZ.out]; rfl, HGq.out⟩
            | some st2 =>
              obtain ⟨rfl, hsq, hkq⟩ : e = .returned (.bool true) ∧ Seen W w2 K st2.1 st2.2 ∧ KT K wr w2 := hq
              have HN : Hid (∃ st : Nat × List Int, mayK (mayF (D - 1) false 1) (fs.take (k + 1)) (0, []) = some st ∧ Seen W w2 K st.1 st.2 ∧ w2.heap[W.heap.size]? = some (.cells #[.slice fo fs.length cf, .slice no ns.length cn] 26)) := ⟨st2, HTK.out, hsq, hkq.2 _ _ _ hst.out.2.2 (by decide) HBV.out.2⟩
              clear hsq hkq hst HTK HKN HC g0 g1 g2 g3 g4 g5 g6 p0 p1
              go_wp2_with fail
              go_roundw
              case rel => exact ⟨k + 1, by omega, by simp, HN.out⟩
              case measure => simp [intOf]; omega
          · have hltI : ¬ (k : Int) < (fs.length : Int) := by omega
            have HZ : Hid (z = true) := HYe.out ⟨HLs.out.1, HLs.out.2, HNs.out, HU.out.1 (by trivial), st, by have := hst.out.1; rwa [List.take_of_length_le (by omega)] at this⟩
            have HGq := hidM hst.out.2.1.gr
            go_wp2_with fail
            go_ret
            exact ⟨by rw [HZ.out]; rfl, HGq.out⟩
end Go.Proofs.YtdffjdlpbfcikaaDoor.Kit
