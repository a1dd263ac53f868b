import Derived.Test.YtjdojbbjbippoaaDoorLH
namespace Go.Proofs.YtjdojbbjbippoaaDoor.Kit
open Go.RowKit Go.Shelf Go.Deep
set_option linter.unusedVariables false
attribute [local go_sem] run_store_func

def CheckR (w : World) (E : Int × Int) (N : List LS) (e : Ending) (w' : World) : Prop := Gr w w' ∧
  ((E.1 ≠ 0 ∧ e = .returned (fltV E.1 (.slice none 0 0) E.2)) ∨
   (E.1 = 0 ∧ AllR N ∧ e = .returned (fltV 0 (.slice none 0 0) 0)) ∨
   (E.1 = 0 ∧ ∃ L x vo vc, (L ++ [x]) <+: N ∧ AllR L ∧ wrongE x L.length (tkL L) ≠ 0 ∧ e = .returned (fltV (wrongE x L.length (tkL L)) (.slice vo x.path.length vc) 0) ∧
      w'.ownsRow 0 3 1 (.slice vo x.path.length vc) x.path.length (ints x.path)))
theorem CheckR.lists {w w' : World} {E : Int × Int} {N : List LS} {a b : Int} (g : Gr w w') (e : E = (a, b)) (ha : a ≠ 0) : CheckR w E N (.returned (.agg #[.int .i64 a, .slice none 0 0, .int .i64 b])) w' := by
  subst e
  exact ⟨g, .inl ⟨ha, rfl⟩⟩
theorem OutAt.nil (S : Nat → Prop) (W : World) : OutAt S W (.slice none 0 0) [] := ⟨[], World.ownsRow_nil W 0 41 10, fun j h => by simp at h⟩
theorem AllR.next {N : List LS} {j : Nat} (hj : j < N.length) (h : AllR (N.take j)) (hz : wrongE N[j] j (tkL (N.take j)) = 0) : AllR (N.take (j + 1)) := by
  rw [List.take_succ_eq_append_getElem hj]
  exact h.snoc (by rw [List.length_take, Nat.min_eq_left (by omega)]; exact hz)
theorem row_ne_box {W : World} {t n B : Nat} {v : Value} {xs : List Value} {c : Array Value} (h : W.ownsRow 0 3 1 v n xs) (hB : W.heap[B]? = some (.cells c t)) (ht : t ≠ 3) : v.ownBlock ≠ some B := fun e => by
  rcases h.2 with ⟨rfl, _⟩ | ⟨g, cap, cur, rfl, _, hg, _⟩
  · simp [Value.ownBlock] at e
  · simp [Value.ownBlock] at e
    subst e
    rw [hg] at hB
    simp at hB
    exact ht hB.2.symm

set_option maxRecDepth 100000 in
set_option maxHeartbeats 4000000 in
theorem checkR_any (S : Nat → Prop) (D : Nat) (fo no : Option Addr) (nf cf cn : Nat) (fs : List FT) (l : List (ByteArray × ByteArray)) (w : World) (hnf : nf = fs.length) (hr : RowAt S w D fo fs) (hcf : nf ≤ cf) (hS : ∀ b, S b → b < w.heap.size) (hn : NotesAt w no l) :
    Calls Tryd.prog 18 #[.agg #[.slice fo nf cf, .slice no l.length cn]] w (CheckR w (listsE nf l) (grown [] (nodesC D fs [] false))) := by
  have HRow := hidM hr
  have HSS := hidM hS
  have HNF := hidM hnf
  clear hr hS hnf
  obtain ⟨N, hN⟩ : ∃ N, N = grown [] (nodesC D fs [] false) := ⟨_, rfl⟩
  rw [← hN]
  have HNN := hidM hN
  clear hN
  have HN : Hid _ := hn
  obtain ⟨E, hE⟩ : ∃ E, E = listsE nf l := ⟨_, rfl⟩
  rw [← hE]
  have HE : Hid _ := hE
  obtain ⟨L, hL⟩ : ∃ L, L = l.length := ⟨_, rfl⟩
  rw [← hL]
  have HL : Hid _ := hL
  clear hn hE hL
  go_enter Tryd.func18, Tryd.ntmps18
  have hbx : ∀ (x y z : Value), ((w.alloc (.cells #[.slice fo nf cf, .slice no L cn] 25)).alloc (.cells #[x, y, z] 48)).heap[w.heap.size + 1]? = some (.cells #[x, y, z] 48) := fun x y z => by
    have := World.alloc_heap_new (w.alloc (.cells #[.slice fo nf cf, .slice no L cn] 25)) (.cells #[x, y, z] 48)
    rw [World.size_alloc] at this
    exact this
  have HX : Hid _ := hbx
  have HG : Hid (∀ o o', Gr w ((w.alloc o).alloc o')) := fun o o' => (gr_alloc w o).alloc o'
  clear hbx
  by_cases c1 : 32 < nf
  · have c1' : (32 : Int) < (nf : Int) := by omega
    go_wp2
    obtain ⟨t0, t1, t2⟩ := cell3 (HX.out (.int .i64 34) (.slice none 0 0) (.int .i64 32))
    refine bodyPost_ret (v := .agg #[.int .i64 34, .slice none 0 0, .int .i64 32]) ?_ rfl ?_
    · simp [results, Tryd.f18, go_sem, t0, t1, t2]
    · exact CheckR.lists (HG.out _ _) (by rw [HE.out]; simp [listsE, c1]) (by decide)
  · have c1' : ¬ (32 : Int) < (nf : Int) := by omega
    by_cases c2 : 16 < L
    · have c2' : (16 : Int) < (L : Int) := by omega
      go_wp2
      obtain ⟨t0, t1, t2⟩ := cell3 (HX.out (.int .i64 34) (.slice none 0 0) (.int .i64 16))
      refine bodyPost_ret (v := .agg #[.int .i64 34, .slice none 0 0, .int .i64 16]) ?_ rfl ?_
      · simp [results, Tryd.f18, go_sem, t0, t1, t2]
      · exact CheckR.lists (HG.out _ _) (by rw [HE.out]; have := HL.out; simp [listsE, c1, ← this, c2]) (by decide)
    · have c2' : ¬ (16 : Int) < (L : Int) := by omega
      have HC : Hid (¬ 32 < nf ∧ ¬ 16 < L) := ⟨c1, c2⟩
      have hL16 : L ≤ 16 := by omega
      go_wp2
      have HA0 : Hid (((w.alloc (.cells #[.slice fo nf cf, .slice no L cn] 25)).alloc (.cells #[.int .i64 0, .slice none 0 0, .int .i64 0] 48)).heap[w.heap.size]? = some (.cells #[.slice fo nf cf, .slice no L cn] 25)) := (Below.heap_alloc _ _ _ (by simp)).trans (World.alloc_heap_new w _)
      have HX0 := hidM (HX.out (.int .i64 0) (.slice none 0 0) (.int .i64 0))
      have HG0 := hidM (HG.out (.cells #[.slice fo nf cf, .slice no L cn] 25) (.cells #[.int .i64 0, .slice none 0 0, .int .i64 0] 48))
      generalize ((w.alloc (.cells #[.slice fo nf cf, .slice no L cn] 25)).alloc (.cells #[.int .i64 0, .slice none 0 0, .int .i64 0] 48)) = W0 at *
      clear HX HG
      obtain ⟨B, hB⟩ : ∃ B, B = w.heap.size + 1 := ⟨_, rfl⟩
      rw [← hB] at HX0 ⊢
      have HB : Hid _ := hB
      clear hB
      go_loopw [21] (fun i wr => ∃ k : Nat, k ≤ L ∧ i = .int .i64 (k : Int) ∧ Hid (Gr w wr ∧ wr.heap[B]? = some (.cells #[.int .i64 0, .slice none 0 0, .int .i64 0] 48) ∧ (∀ i (h : i < l.length), i < k → noteBad l[i] = false) ∧ wr.heap[w.heap.size]? = some (.cells #[.slice fo nf cf, .slice no L cn] 25))) (fun i _ => L - (intOf i).toNat)
      case atStart => exact ⟨0, by omega, rfl, HG0.out, HX0.out, fun i h h0 => by omega, HA0.out⟩
      case round =>
        clear HX0 HG0 HA0
        obtain ⟨k, hk, rfl, HK⟩ := hrel
        by_cases hlt : k < L
        · have hl := HL.out
          have hkl : k < l.length := by omega
          obtain ⟨b, o, rfl, hcs⟩ := HN.out.2 (fun e => by rw [e] at hkl; simp at hkl)
          obtain ⟨g0, g1⟩ := hcs k hkl
          replace g0 := HK.out.1.cell' g0 (fun h => h)
          replace g1 := HK.out.1.cell' g1 (fun h => h)
          have HBk : Hid (noteBad l[k] = (decide (256 < l[k].1.size) || decide (256 < l[k].2.size))) := rfl
          have HE1 : Hid (noteBad l[k] = true → E = (37, (k : Int))) := fun hx => by
            have e := idx_bad hkl HK.out.2.2.1 hx
            rw [HE.out]; unfold listsE
            rw [if_neg HC.out.1, if_neg (by have := HC.out.2; omega), e, if_pos hkl]
          have HM : Hid (noteBad l[k] = false → ∀ i (h : i < l.length), i < k + 1 → noteBad l[i] = false) := fun hx i hi hlt => by
            by_cases e : i = k
            · subst e; exact hx
            · exact HK.out.2.2.1 i hi (by omega)
          have HW : Hid (Gr w wr ∧ wr.heap[B]? = some (.cells #[.int .i64 0, .slice none 0 0, .int .i64 0] 48)) := ⟨HK.out.1, HK.out.2.1⟩
          have hbx : ∀ o, (wr.alloc o).heap[B]? = some (.cells #[.int .i64 0, .slice none 0 0, .int .i64 0] 48) := fun o => ((gr_alloc wr o).block _ (lt_of_heap HK.out.2.1) (fun h => h)).trans HK.out.2.1
          have y0 := fun o => (cell3 (hbx o)).1
          have y1 := fun o => (cell3 (hbx o)).2.1
          have y2 := fun o => (cell3 (hbx o)).2.2
          have y3 := fun o => frz (hbx o) 0
          have y4 := fun o => frz (hbx o) 1
          have y5 := fun o => frz (hbx o) 2
          have HBX : Hid _ := hbx
          have HAx := hidM (fun (o' : Obj) => ((gr_alloc wr o').block _ (lt_of_heap HK.out.2.2.2) (fun h => h)).trans HK.out.2.2.2)
          generalize noteBad l[k] = nb at HBk HE1 HM
          generalize l[k].1 = n0 at *
          generalize l[k].2 = n1 at *
          clear hcs hl hkl HK HN hbx
          have fin : ∀ W4, W4 = (((wr.alloc (.cells #[.string n0, .string n1] 79)).setCell ⟨B, 0, none⟩ (.int .i64 37)).setCell ⟨B, 1, none⟩ (.slice none 0 0)).setCell ⟨B, 2, none⟩ (.int .i64 (k : Int)) → W4.heap[B]? = some (.cells #[.int .i64 37, .slice none 0 0, .int .i64 (k : Int)] 48) ∧ Gr w W4 := by
            intro W4 e
            refine ⟨?_, ?_⟩
            · rw [e, setc (j := 2) (setc (j := 1) (setc (j := 0) (HBX.out _) _) _) _]; simp
            · rw [e]
              have k1 : Keeps (wr.alloc (.cells #[.string n0, .string n1] 79)) _ (fun b => b = B) := keep1 (j := 2) (keep1 (j := 1) (keep1 (j := 0) (Keeps.refl (wr.alloc (.cells #[.string n0, .string n1] 79)) (fun b => b = B)) (.int .i64 37)) (.slice none 0 0)) (.int .i64 (k : Int))
              exact (HW.out.1.alloc _).trans (T := fun b => b = B) k1 (fun j hj h => by have := HB.out; omega)
          have HFN : Hid _ := fin
          clear fin
          by_cases d1 : 256 < n0.size
          · have d1' : (256 : Int) < (n0.size : Int) := by omega
            have hnb : nb = true := by rw [HBk.out]; simp [d1]
            have HE2 := hidM (HE1.out hnb)
            clear HE1 HM HBk
            go_wp2_with fail
            obtain ⟨hb4, hg4⟩ := HFN.out _ rfl
            obtain ⟨t0, t1, t2⟩ := cell3 hb4
            refine bodyPost_ret (v := .agg #[.int .i64 37, .slice none 0 0, .int .i64 (k : Int)]) ?_ rfl ?_
            · simp [results, Tryd.f18, go_sem, t0, t1, t2]
            · exact CheckR.lists hg4 HE2.out (by decide)
          · have d1' : ¬ (256 : Int) < (n0.size : Int) := by omega
            by_cases d2 : 256 < n1.size
            · have d2' : (256 : Int) < (n1.size : Int) := by omega
              have hnb : nb = true := by rw [HBk.out]; simp [d2]
              have HE2 := hidM (HE1.out hnb)
              clear HE1 HM HBk
              go_wp2_with fail
              obtain ⟨hb4, hg4⟩ := HFN.out _ rfl
              obtain ⟨t0, t1, t2⟩ := cell3 hb4
              refine bodyPost_ret (v := .agg #[.int .i64 37, .slice none 0 0, .int .i64 (k : Int)]) ?_ rfl ?_
              · simp [results, Tryd.f18, go_sem, t0, t1, t2]
              · exact CheckR.lists hg4 HE2.out (by decide)
            · have d2' : ¬ (256 : Int) < (n1.size : Int) := by omega
              have hnb : nb = false := by rw [HBk.out]; simp; omega
              have HM2 := hidM (HM.out hnb)
              clear HE1 HM HBk
              go_wp2_with fail
              go_roundw
              case rel => exact ⟨k + 1, by omega, by simp, HW.out.1.alloc _, HBX.out _, HM2.out, HAx.out _⟩
              case measure => simp [intOf]; omega
        · have HE1 : Hid (E = (0, 0)) := by
            have e := idx_good (l := l) fun i hi => HK.out.2.2.1 i hi (by have := HL.out; omega)
            show _ = _
            rw [HE.out]; unfold listsE
            rw [if_neg HC.out.1, if_neg (by have := HC.out.2; have := HL.out; omega), if_neg e]
          have hkL : k = L := by omega
          subst hkL
          have a0 : wr.cell? ⟨w.heap.size, 0, none⟩ = some (.slice fo nf cf) := by simp [World.cell?, HK.out.2.2.2]
          have hgrow : Calls Tryd.prog 19 #[.slice fo nf cf, .slice none 0 0, .bool false, .slice none 0 0] wr (GrowR S wr (.slice none 0 0) N) := by
            have h := grow_any S D wr fo none none cf 0 0 fs [] false [] (HRow.out.kept fun b hb => HK.out.1.block b (HSS.out b hb) id) (by have := HNF.out; omega) (by simp) (World.ownsRow_nil _ _ _ _) (OutAt.nil S wr) (by simp) (fun b hb => ⟨by have := HSS.out b hb; have := HK.out.1.size; omega, by simp [Value.ownBlock]⟩)
            rw [← HNF.out, ← HNN.out] at h
            exact h
          have HGr := hidM hgrow
          have HW := hidM (And.intro HK.out.1 HK.out.2.1)
          clear hgrow HK HE HL HC hk hlt
          go_wp2_with (go_at_call 19; refine Hid.out ?_)
          unfold Hid
          refine Calls.mono HGr.out ?_
          rintro e w2 ⟨vo, vc, rfl, hI⟩
          have HG2 : Hid (Gr wr w2) := hI.k.mono fun _ _ h => by simp [Value.ownBlock] at h
          have HO2 : Hid (OutAt S w2 (.slice vo N.length vc) N ∧ ∀ b, S b → b < w2.heap.size ∧ (Value.slice vo N.length vc).ownBlock ≠ some b) := ⟨hI.at_, fun b hb => by
            have h1 := HSS.out b hb
            have h2 := HW.out.1.size
            have h3 := HG2.out.size
            refine ⟨by omega, fun e => ?_⟩
            rcases hI.own with h | h
            · rw [h] at e; simp [Value.ownBlock] at e
            · have := h b e; omega⟩
          have HB2 : Hid (w2.heap[B]? = some (.cells #[.int .i64 0, .slice none 0 0, .int .i64 0] 48) ∧ Gr w w2) := ⟨(HG2.out.block _ (lt_of_heap HW.out.2) id).trans HW.out.2, HW.out.1.trans HG2.out (fun _ _ h => h)⟩
          have hn257 : N.length ≤ 257 := by rw [HNN.out]; exact grown_le _ _
          clear HGr HG2 HW hI a0
          obtain ⟨n, hn⟩ : ∃ n, n = N.length := ⟨_, rfl⟩
          rw [← hn] at hn257 HO2 ⊢
          have Hn := hidM hn
          clear hn
          go_wp2
          go_loopw [44] (fun p wr => ∃ j : Nat, j ≤ n ∧ p = .int .i64 (j : Int) ∧ Hid (Gr w2 wr ∧ AllR (N.take j))) (fun p _ => n - (intOf p).toNat)
          case atStart => exact ⟨0, by omega, rfl, Keeps.refl _ _, by simpa using AllR.nil⟩
          case round =>
            obtain ⟨j, hj, rfl, HJ⟩ := hrel
            have hbx : wr.heap[B]? = some (.cells #[.int .i64 0, .slice none 0 0, .int .i64 0] 48) := (HJ.out.1.block _ (lt_of_heap HB2.out.1) id).trans HB2.out.1
            have hgw : Gr w wr := HB2.out.2.trans HJ.out.1 (fun _ _ h => h)
            by_cases hlt : j < n
            · have hjN : j < N.length := by have := Hn.out; omega
              have hltI : (j : Int) < (n : Int) := by omega
              have hO : OutAt S wr (.slice vo n vc) N := HO2.out.1.keeps HJ.out.1 HO2.out.2
              have hwr : Calls Tryd.prog 37 #[.slice vo n vc, .int .i64 (j : Int)] wr fun e w' => e = .returned (.int .i64 (wrongE N[j] j (tkL (N.take j)))) ∧ Gr wr w' := by
                have hO' := hO
                rw [Hn.out] at hO'
                have h := wrongR_any S vo vc N j hjN (by rw [← Hn.out]; exact hn257) wr hO' HJ.out.2 (fun b hb => by have := HSS.out b hb; have := hgw.size; omega)
                rw [← Hn.out] at h
                exact h
              obtain ⟨z, hz⟩ : ∃ z, z = wrongE N[j] j (tkL (N.take j)) := ⟨_, rfl⟩
              rw [← hz] at hwr
              have hO' := hO
              rw [Hn.out] at hO'
              obtain ⟨g, rfl, hnvc, hten⟩ := hO'.ten (by omega)
              obtain ⟨wb, wc, fo', fc', ao', ca', t, hnode⟩ := hten j hjN
              have HT := hidM (And.intro t.c0 hnode.way)
              have HZ := hidM hz
              have HH := hidM (And.intro hbx hgw)
              have HJ1 := hidM HJ.out
              clear hten t hnode hO hO' hz hbx hgw HJ
              by_cases hz0 : z = 0
              · subst hz0
                have HA : Hid (AllR (N.take (j + 1))) := AllR.next hjN HJ1.out.2 HZ.out.symm
                go_wp2_with (go_at_call 37; refine Calls.mono hwr ?_; rintro e w3 ⟨rfl, hg3⟩)
                go_roundw
                case rel => exact ⟨j + 1, by omega, by simp, HJ1.out.1.trans hg3 (fun _ _ h => h), HA.out⟩
                case measure => simp [intOf]; omega
              · have hzb := beqF hz0
                go_wp2_with (go_at_call 37; refine Calls.mono hwr ?_; rintro e w3 ⟨rfl, hg3⟩; have d0 := hg3.cell' HT.out.1 id; have hb3 := (hg3.block _ (lt_of_heap HH.out.1) id).trans HH.out.1; obtain ⟨y0, y1, y2⟩ := cell3 hb3; have y3 := frz hb3 0; have y4 := frz hb3 1; have y5 := frz hb3 2; have HB3 := hidM (And.intro hb3 hg3); clear hb3 hg3)
                obtain ⟨hb3, hg3⟩ := HB3.out
                have hb4 := setc (j := 2) (setc (j := 1) (setc (j := 0) hb3 (.int .i64 z)) (.slice (some ⟨wb, 0, none⟩) N[j].path.length wc)) (.int .i64 0)
                have k1 : Keeps w3 _ (fun b => b = B) := keep1 (j := 2) (keep1 (j := 1) (keep1 (j := 0) (Keeps.refl w3 (fun b => b = B)) (.int .i64 z)) (.slice (some ⟨wb, 0, none⟩) N[j].path.length wc)) (.int .i64 0)
                obtain ⟨v0, v1, v2⟩ := cell3 (hb4.trans (by simp : _ = some (Obj.cells #[.int .i64 z, .slice (some ⟨wb, 0, none⟩) N[j].path.length wc, .int .i64 0] 48 (0, 0))))
                have way3 := row_kp HT.out.2 fun q e => hg3.block q (own_lt HT.out.2 q e) id
                have hlj : (N.take j).length = j := by rw [List.length_take]; omega
                refine bodyPost_ret (v := .agg #[.int .i64 z, .slice (some ⟨wb, 0, none⟩) N[j].path.length wc, .int .i64 0]) ?_ rfl ?_
                · simp [results, Tryd.f18, go_sem, v0, v1, v2]
                · refine ⟨(HH.out.2.trans hg3 (fun _ _ h => h)).trans (T := fun b => b = B) k1 (fun j hj h => by have := HB.out; omega), .inr (.inr ⟨by rw [HE1.out], N.take j, N[j], some ⟨wb, 0, none⟩, wc, ?_, HJ1.out.2, ?_, ?_, ?_⟩)⟩
                  · rw [← List.take_succ_eq_append_getElem hjN]; exact List.take_prefix _ _
                  · rw [hlj, ← HZ.out]; exact hz0
                  · rw [hlj, ← HZ.out]; rfl
                  · exact row_kp way3 fun q e => k1.block q (own_lt way3 q e) fun h => row_ne_box way3 hb3 (by decide) (by rw [e, h])
            · have hjn : j = n := by omega
              have hjI : ¬ (j : Int) < (n : Int) := by omega
              have HA : Hid (AllR N) := by
                have h := HJ.out.2
                rw [hjn, Hn.out, List.take_length] at h
                exact h
              obtain ⟨y0, y1, y2⟩ := cell3 hbx
              have y3 := frz hbx 0
              have y4 := frz hbx 1
              have y5 := frz hbx 2
              have fin : ∀ W4, W4 = ((wr.setCell ⟨B, 0, none⟩ (.int .i64 0)).setCell ⟨B, 1, none⟩ (.slice none 0 0)).setCell ⟨B, 2, none⟩ (.int .i64 0) → W4.heap[B]? = some (.cells #[.int .i64 0, .slice none 0 0, .int .i64 0] 48) ∧ Gr w W4 := by
                intro W4 e
                refine ⟨?_, ?_⟩
                · rw [e, setc (j := 2) (setc (j := 1) (setc (j := 0) hbx _) _) _]; simp
                · rw [e]
                  have k1 : Keeps wr _ (fun b => b = B) := keep1 (j := 2) (keep1 (j := 1) (keep1 (j := 0) (Keeps.refl wr (fun b => b = B)) (.int .i64 0)) (.slice none 0 0)) (.int .i64 0)
                  exact hgw.trans (T := fun b => b = B) k1 (fun j hj h => by have := HB.out; omega)
              have HFN : Hid _ := fin
              clear fin HJ hgw hbx
              go_wp2_with fail
              obtain ⟨hb4, hg4⟩ := HFN.out _ rfl
              obtain ⟨t0, t1, t2⟩ := cell3 hb4
              refine bodyPost_ret (v := .agg #[.int .i64 0, .slice none 0 0, .int .i64 0]) ?_ rfl ?_
              · simp [results, Tryd.f18, go_sem, t0, t1, t2]
              · exact ⟨hg4, .inr (.inl ⟨by rw [HE1.out], HA.out, rfl⟩)⟩
end Go.Proofs.YtjdojbbjbippoaaDoor.Kit
namespace Go.Proofs.YtjdojbbjbippoaaDoor.Kit
open Go.RowKit Go.Shelf Go.Deep

/-! ### the program's fault and the document's are the same -/
/-- what fault it is: the error, the way, the number -/
def FaultIs (E : Int × Int) (N : List LS) (er : Int) (p : List Nat) (k : Int) : Prop :=
  (E.1 ≠ 0 ∧ er = E.1 ∧ p = [] ∧ k = E.2) ∨ (E.1 = 0 ∧ AllR N ∧ er = 0 ∧ p = [] ∧ k = 0) ∨
  (E.1 = 0 ∧ ∃ L x, (L ++ [x]) <+: N ∧ AllR L ∧ wrongE x L.length (tkL L) ≠ 0 ∧ er = wrongE x L.length (tkL L) ∧ p = x.path ∧ k = 0)
theorem FaultIs.one {E : Int × Int} {N : List LS} {er er' : Int} {p p' : List Nat} {k k' : Int} (h : FaultIs E N er p k) (h' : FaultIs E N er' p' k') : er = er' ∧ p = p' ∧ k = k' := by
  rcases h with ⟨a, rfl, rfl, rfl⟩ | ⟨a, b, rfl, rfl, rfl⟩ | ⟨a, L, x, h1, h2, h3, rfl, rfl, rfl⟩ <;> rcases h' with ⟨a', rfl, rfl, rfl⟩ | ⟨a', b', rfl, rfl, rfl⟩ | ⟨a', L', x', h1', h2', h3', rfl, rfl, rfl⟩
  · exact ⟨rfl, rfl, rfl⟩
  · exact absurd a' a
  · exact absurd a' a
  · exact absurd a a'
  · exact ⟨rfl, rfl, rfl⟩
  · exact absurd (b.pre h1') h3'
  · exact absurd a a'
  · exact absurd (b'.pre h1) h3
  · obtain ⟨rfl, rfl⟩ := first_eq h1 h1' h2 h2' h3 h3'
    exact ⟨rfl, rfl, rfl⟩
theorem wrong_short {s : LS} {k : Nat} {t : Nat → Bool} (h : wrongE s k t = 0) : s.path.length ≤ 64 := by
  unfold wrongE wr at h
  split at h
  · omega
  · omega
theorem AllR.short {l : List LS} (h : AllR l) : ∀ x ∈ l, x.path.length ≤ 64 := fun x hx => by
  obtain ⟨k, hk, rfl⟩ := List.mem_iff_getElem.1 hx
  exact wrong_short (h k hk)
/-- the document's list has the same first fault -/
theorem FaultIs.cut {E : Int × Int} {D : Nat} {fs : List FT} {er : Int} {p : List Nat} {k : Int} (h : FaultIs E (nodes D fs [] false) er p k) : FaultIs E (grown [] (nodesC D fs [] false)) er p k := by
  rcases h with h | ⟨a, b, h⟩ | ⟨a, L, x, h1, h2, h3, h4⟩
  · exact .inl h
  · refine .inr (.inl ⟨a, ?_, h⟩)
    have e := (cut_same D fs [] false 0 (by simp)).2 b.short
    rw [grown, List.nil_append, e, List.take_of_length_le (by have := b.len; omega)]
    exact b
  · refine .inr (.inr ⟨a, L, x, ?_, h2, h3, h4⟩)
    have hl := h2.len
    have ht : (nodes D fs [] false).take (L.length + 1) = L ++ [x] := by
      obtain ⟨t, ht⟩ := h1
      rw [← ht, List.take_append_of_le_length (by simp)]
      exact List.take_of_length_le (by simp)
    have htL : (nodes D fs [] false).take L.length = L := by
      obtain ⟨t, ht⟩ := h1
      rw [← ht, List.append_assoc, List.take_left]
    have e := (cut_same D fs [] false L.length (by rw [htL]; exact h2.short)).1
    rw [ht] at e
    rw [e, grown, List.nil_append]
    exact List.take_prefix_take_left (by omega)
end Go.Proofs.YtjdojbbjbippoaaDoor.Kit
