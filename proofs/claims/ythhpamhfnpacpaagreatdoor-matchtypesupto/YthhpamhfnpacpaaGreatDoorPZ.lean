import Derived.Test.YthhpamhfnpacpaaGreatDoorZH
set_option linter.unusedVariables false
set_option linter.unusedSimpArgs false
set_option maxRecDepth 100000
set_option maxHeartbeats 8000000
namespace Go.Proofs.YthhpamhfnpacpaaGreatDoor.Kit
open Go.RowKit Go.Shelf Go.Deep
attribute [local go_sem] run_store_func
def CheckR (w : World) (E : Int × Int) (N : List LS) (e : Ending) (w' : World) : Prop := Gr w w' ∧
 ((E.1 ≠ 0 ∧ e = .returned (fltV E.1 (.slice none 0 0) E.2)) ∨
  (E.1 = 0 ∧ AllR N ∧ e = .returned (fltV 0 (.slice none 0 0) 0)) ∨
  (E.1 = 0 ∧ ∃ L x vo vc, (L ++ [x]) <+: N ∧ AllR L ∧ wrongE x L.length (tkL L) ≠ 0 ∧ e = .returned (fltV (wrongE x L.length (tkL L)) (.slice vo x.path.length vc) 0) ∧
   w'.ownsRow 0 3 1 (.slice vo x.path.length vc) x.path.length (ints x.path)))
theorem CheckR.lists {w w' : World} {E : Int × Int} {N : List LS} {a b : Int} (g : Gr w w') (e : E = (a, b)) (ha : a ≠ 0) : CheckR w E N (.returned (.agg #[.int .i64 a, .slice none 0 0, .int .i64 b])) w' := by
 subst e
 exact ⟨g, .inl ⟨ha, rfl⟩⟩
theorem OutAt.nil (S : Nat → Prop) (W : World) : OutAt S W (.slice none 0 0) [] := ⟨[], World.ownsRow_nil W 0 80 10, fun j h => by simp at h⟩
theorem checkR_any (S : Nat → Prop) (D : Nat) (fo no : Option Addr) (nf cf cn : Nat) (fs : List FT) (l : List (ByteArray × ByteArray)) (w : World) (hnf : nf = fs.length) (hr : RowAt S w D fo fs) (hcf : nf ≤ cf) (hS : ∀ b, S b → b < w.heap.size) (hn : NotesAt w no l) :
  Calls Tryz.prog 15 #[.agg #[.slice fo nf cf, .slice no l.length cn]] w (CheckR w (listsE nf l) (grown [] (nodesC D fs [] false))) := by
 have HRow := hidM hr
 have HSS := hidM hS
 have HNF := hidM hnf
 clear hr hS hnf
 obtain ⟨N, hN⟩ : ∃ N, N = grown [] (nodesC D fs [] false) := ⟨_, rfl⟩
 rw [← hN]
 have HNN := hidM hN
 clear hN
 have HN : Hid _ := hn
 obtain ⟨E, hE⟩ : ∃ E, E = listsE nf l := ⟨_, rfl⟩
 rw [← hE]
 have HE : Hid _ := hE
 obtain ⟨L, hL⟩ : ∃ L, L = l.length := ⟨_, rfl⟩
 rw [← hL]
 have HL : Hid _ := hL
 clear hn hE hL
 go_enter Tryz.func15, Tryz.ntmps15
 have hbx : ∀ (x y z : Value), ((w.alloc (.cells #[.slice fo nf cf, .slice no L cn] 25)).alloc (.cells #[x, y, z] 52)).heap[w.heap.size + 1]? = some (.cells #[x, y, z] 52) := fun x y z => by
  have := World.alloc_heap_new (w.alloc (.cells #[.slice fo nf cf, .slice no L cn] 25)) (.cells #[x, y, z] 52)
  rw [World.size_alloc] at this
  exact this
 have HX : Hid _ := hbx
 have HG : Hid (∀ o o', Gr w ((w.alloc o).alloc o')) := fun o o' => (gr_alloc w o).alloc o'
 clear hbx
 by_cases c1 : 32 < nf
 ·have c1' : (32 : Int) < (nf : Int) := by omega
  go_wp2
  obtain ⟨t0, t1, t2⟩ := cell3 (HX.out (.int .i64 34) (.slice none 0 0) (.int .i64 32))
  refine bodyPost_ret (v := .agg #[.int .i64 34, .slice none 0 0, .int .i64 32]) ?_ rfl ?_
  ·simp [results, Tryz.f15, go_sem, t0, t1, t2]
  exact CheckR.lists (HG.out _ _) (by rw [HE.out]; simp [listsE, c1]) (by decide)
 have c1' : ¬ (32 : Int) < (nf : Int) := by omega
 by_cases c2 : 16 < L
 ·have c2' : (16 : Int) < (L : Int) := by omega
  go_wp2
  obtain ⟨t0, t1, t2⟩ := cell3 (HX.out (.int .i64 34) (.slice none 0 0) (.int .i64 16))
  refine bodyPost_ret (v := .agg #[.int .i64 34, .slice none 0 0, .int .i64 16]) ?_ rfl ?_
  ·simp [results, Tryz.f15, go_sem, t0, t1, t2]
  exact CheckR.lists (HG.out _ _) (by rw [HE.out]; have := HL.out; simp [listsE, c1, ← this, c2]) (by decide)
 have c2' : ¬ (16 : Int) < (L : Int) := by omega
 have HC : Hid (¬ 32 < nf ∧ ¬ 16 < L) := ⟨c1, c2⟩
 have hL16 : L ≤ 16 := by omega
 go_wp2
 have HA0 : Hid (((w.alloc (.cells #[.slice fo nf cf, .slice no L cn] 25)).alloc (.cells #[.int .i64 0, .slice none 0 0, .int .i64 0] 52)).heap[w.heap.size]? = some (.cells #[.slice fo nf cf, .slice no L cn] 25)) := (Below.heap_alloc _ _ _ (by simp)).trans (World.alloc_heap_new w _)
 have HX0 := hidM (HX.out (.int .i64 0) (.slice none 0 0) (.int .i64 0))
 have HG0 := hidM (HG.out (.cells #[.slice fo nf cf, .slice no L cn] 25) (.cells #[.int .i64 0, .slice none 0 0, .int .i64 0] 52))
 generalize ((w.alloc (.cells #[.slice fo nf cf, .slice no L cn] 25)).alloc (.cells #[.int .i64 0, .slice none 0 0, .int .i64 0] 52)) = W0 at *
 clear HX HG
 obtain ⟨B, hB⟩ : ∃ B, B = w.heap.size + 1 := ⟨_, rfl⟩
 rw [← hB] at HX0 ⊢
 have HB : Hid _ := hB
 clear hB
 go_loopw [21] (fun i wr => ∃ k : Nat, k ≤ L ∧ i = .int .i64 (k : Int) ∧ Hid (Gr w wr ∧ wr.heap[B]? = some (.cells #[.int .i64 0, .slice none 0 0, .int .i64 0] 52) ∧ (∀ i (h : i < l.length), i < k → noteBad l[i] = false) ∧ wr.heap[w.heap.size]? = some (.cells #[.slice fo nf cf, .slice no L cn] 25))) (fun i _ => L - (intOf i).toNat)
 case atStart => exact ⟨0, by omega, rfl, HG0.out, HX0.out, fun i h h0 => by omega, HA0.out⟩
 case round =>
  clear HX0 HG0 HA0
  obtain ⟨k, hk, rfl, HK⟩ := hrel
  by_cases hlt : k < L
  ·have hl := HL.out
   have hkl : k < l.length := by omega
   obtain ⟨b, o, rfl, hcs⟩ := HN.out.2 (fun e => by rw [e] at hkl; simp at hkl)
   obtain ⟨g0, g1⟩ := hcs k hkl
   replace g0 := HK.out.1.cell' g0 (fun h => h)
   replace g1 := HK.out.1.cell' g1 (fun h => h)
   have HBk : Hid (noteBad l[k] = (decide (256 < l[k].1.size) || decide (256 < l[k].2.size))) := rfl
   have HE1 : Hid (noteBad l[k] = true → E = (37, (k : Int))) := fun hx => by
    have e := idx_bad hkl HK.out.2.2.1 hx
    rw [HE.out]; unfold listsE
    rw [if_neg HC.out.1, if_neg (by have := HC.out.2; omega), e, if_pos hkl]
   have HM : Hid (noteBad l[k] = false → ∀ i (h : i < l.length), i < k + 1 → noteBad l[i] = false) := fun hx i hi hlt => by
    by_cases e : i = k
    ·subst e; exact hx
    exact HK.out.2.2.1 i hi (by omega)
   have HW : Hid (Gr w wr ∧ wr.heap[B]? = some (.cells #[.int .i64 0, .slice none 0 0, .int .i64 0] 52)) := ⟨HK.out.1, HK.out.2.1⟩
   have hbx : ∀ o, (wr.alloc o).heap[B]? = some (.cells #[.int .i64 0, .slice none 0 0, .int .i64 0] 52) := fun o => ((gr_alloc wr o).block _ (lt_of_heap HK.out.2.1) (fun h => h)).trans HK.out.2.1
   have y0 := fun o => (cell3 (hbx o)).1
   have y1 := fun o => (cell3 (hbx o)).2.1
   have y2 := fun o => (cell3 (hbx o)).2.2
   have y3 := fun o => frz (hbx o) 0
   have y4 := fun o => frz (hbx o) 1
   have y5 := fun o => frz (hbx o) 2
   have HBX : Hid _ := hbx
   have HAx := hidM (fun (o' : Obj) => ((gr_alloc wr o').block _ (lt_of_heap HK.out.2.2.2) (fun h => h)).trans HK.out.2.2.2)
   generalize noteBad l[k] = nb at HBk HE1 HM
   generalize l[k].1 = n0 at *
   generalize l[k].2 = n1 at *
   clear hcs hl hkl HK HN hbx
   have fin : ∀ W4, W4 = (((wr.alloc (.cells #[.string n0, .string n1] 63)).setCell ⟨B, 0, none⟩ (.int .i64 37)).setCell ⟨B, 1, none⟩ (.slice none 0 0)).setCell ⟨B, 2, none⟩ (.int .i64 (k : Int)) → W4.heap[B]? = some (.cells #[.int .i64 37, .slice none 0 0, .int .i64 (k : Int)] 52) ∧ Gr w W4 := by
    intro W4 e
    refine ⟨?_, ?_⟩
    ·rw [e, setc (j := 2) (setc (j := 1) (setc (j := 0) (HBX.out _) _) _) _]; simp
    rw [e]
    have k1 : Keeps (wr.alloc (.cells #[.string n0, .string n1] 63)) _ (fun b => b = B) := keep1 (j := 2) (keep1 (j := 1) (keep1 (j := 0) (Keeps.refl (wr.alloc (.cells #[.string n0, .string n1] 63)) (fun b => b = B)) (.int .i64 37)) (.slice none 0 0)) (.int .i64 (k : Int))
    exact (HW.out.1.alloc _).trans (T := fun b => b = B) k1 (fun j hj h => by have := HB.out; omega)
   have HFN : Hid _ := fin
   clear fin
   by_cases d1 : 256 < n0.size
   ·have d1' : (256 : Int) < (n0.size : Int) := by omega
    have hnb : nb = true := by rw [HBk.out]; simp [d1]
    have HE2 := hidM (HE1.out hnb)
    clear HE1 HM HBk
    go_wp2_with fail
    obtain ⟨hb4, hg4⟩ := HFN.out _ rfl
    obtain ⟨t0, t1, t2⟩ := cell3 hb4
    refine bodyPost_ret (v := .agg #[.int .i64 37, .slice none 0 0, .int .i64 (k : Int)]) ?_ rfl ?_
    ·simp [results, Tryz.f15, go_sem, t0, t1, t2]
    exact CheckR.lists hg4 HE2.out (by decide)
   have d1' : ¬ (256 : Int) < (n0.size : Int) := by omega
   by_cases d2 : 256 < n1.size
   ·have d2' : (256 : Int) < (n1.size : Int) := by omega
    have hnb : nb = true := by rw [HBk.out]; simp [d2]
    have HE2 := hidM (HE1.out hnb)
    clear HE1 HM HBk
    go_wp2_with fail
    obtain ⟨hb4, hg4⟩ := HFN.out _ rfl
    obtain ⟨t0, t1, t2⟩ := cell3 hb4
    refine bodyPost_ret (v := .agg #[.int .i64 37, .slice none 0 0, .int .i64 (k : Int)]) ?_ rfl ?_
    ·simp [results, Tryz.f15, go_sem, t0, t1, t2]
    exact CheckR.lists hg4 HE2.out (by decide)
   have d2' : ¬ (256 : Int) < (n1.size : Int) := by omega
   have hnb : nb = false := by rw [HBk.out]; simp; omega
   have HM2 := hidM (HM.out hnb)
   clear HE1 HM HBk
   go_wp2_with fail
   go_roundw
   case rel => exact ⟨k + 1, by omega, by simp, HW.out.1.alloc _, HBX.out _, HM2.out, HAx.out _⟩
   case measure => simp [intOf]; omega
  have HE1 : Hid (E = (0, 0)) := by
   have e := idx_good (l := l) fun i hi => HK.out.2.2.1 i hi (by have := HL.out; omega)
   show _ = _
   rw [HE.out]; unfold listsE
   rw [if_neg HC.out.1, if_neg (by have := HC.out.2; have := HL.out; omega), if_neg e]
  have hkL : k = L := by omega
  subst hkL
  have a0 : wr.cell? ⟨w.heap.size, 0, none⟩ = some (.slice fo nf cf) := by simp [World.cell?, HK.out.2.2.2]
  have hgrow : Calls Tryz.prog 29 #[.slice fo nf cf, .slice none 0 0, .bool false, .slice none 0 0] wr (GrowR S wr (.slice none 0 0) N) := by
   have h := grow_any S D wr fo none none cf 0 0 fs [] false [] (HRow.out.kept fun b hb => HK.out.1.block b (HSS.out b hb) id) (by have := HNF.out; omega) (by simp) (World.ownsRow_nil _ _ _ _) (OutAt.nil S wr) (by simp) (fun b hb => ⟨by have := HSS.out b hb; have := HK.out.1.size; omega, by simp [Value.ownBlock]⟩)
   rw [← HNF.out, ← HNN.out] at h
   exact h
  have HGr := hidM hgrow
  have HW := hidM (And.intro HK.out.1 HK.out.2.1)
  clear hgrow HK HE HL HC hk hlt
  go_wp2_with (go_at_call 29; refine Hid.out ?_)
  unfold Hid
  refine Calls.mono HGr.out ?_
  rintro e w2 ⟨vo, vc, rfl, hI⟩
  have HG2 : Hid (Gr wr w2) := hI.k.mono fun _ _ h => by simp [Value.ownBlock] at h
  have HO2 : Hid (OutAt S w2 (.slice vo N.length vc) N ∧ ∀ b, S b → b < w2.heap.size ∧ (Value.slice vo N.length vc).ownBlock ≠ some b) := ⟨hI.at_, fun b hb => by
   have h1 := HSS.out b hb
   have h2 := HW.out.1.size
   have h3 := HG2.out.size
   refine ⟨by omega, fun e => ?_⟩
   rcases hI.own with h | h
   ·rw [h] at e; simp [Value.ownBlock] at e
   have := h b e; omega⟩
  have HB2 : Hid (w2.heap[B]? = some (.cells #[.int .i64 0, .slice none 0 0, .int .i64 0] 52) ∧ Gr w w2) := ⟨(HG2.out.block _ (lt_of_heap HW.out.2) id).trans HW.out.2, HW.out.1.tr HG2.out⟩
  have hn257 : N.length ≤ 257 := by rw [HNN.out]; exact grown_le _ _
  clear HGr HG2 HW hI a0
  obtain ⟨n, hn⟩ : ∃ n, n = N.length := ⟨_, rfl⟩
  rw [← hn] at hn257 HO2 ⊢
  have Hn := hidM hn
  clear hn
  go_wp2
  go_loopw [44] (fun p wr => ∃ j : Nat, j ≤ n ∧ p = .int .i64 (j : Int) ∧ Hid (Gr w2 wr ∧ AllR (N.take j))) (fun p _ => n - (intOf p).toNat)
  case atStart => exact ⟨0, by omega, rfl, Keeps.refl _ _, by simpa using AllR.nil⟩
  case round =>
   obtain ⟨j, hj, rfl, HJ⟩ := hrel
   have hbx : wr.heap[B]? = some (.cells #[.int .i64 0, .slice none 0 0, .int .i64 0] 52) := (HJ.out.1.block _ (lt_of_heap HB2.out.1) id).trans HB2.out.1
   have hgw : Gr w wr := HB2.out.2.tr HJ.out.1
   by_cases hlt : j < n
   ·have hjN : j < N.length := by have := Hn.out; omega
    have hltI : (j : Int) < (n : Int) := by omega
    have hO : OutAt S wr (.slice vo n vc) N := HO2.out.1.keeps HJ.out.1 HO2.out.2
    have hwr : Calls Tryz.prog 30 #[.slice vo n vc, .int .i64 (j : Int)] wr fun e w' => e = .returned (.int .i64 (wrongE N[j] j (tkL (N.take j)))) ∧ Gr wr w' := by
     have hO' := hO
     rw [Hn.out] at hO'
     have h := wrongR_any S vo vc N j hjN (by rw [← Hn.out]; exact hn257) wr hO' HJ.out.2 (fun b hb => by have := HSS.out b hb; have := hgw.size; omega)
     rw [← Hn.out] at h
     exact h
    obtain ⟨z, hz⟩ : ∃ z, z = wrongE N[j] j (tkL (N.take j)) := ⟨_, rfl⟩
    rw [← hz] at hwr
    have hO' := hO
    rw [Hn.out] at hO'
    obtain ⟨g, rfl, hnvc, hten⟩ := hO'.ten (by omega)
    obtain ⟨wb, wc, fo', fc', ao', ca', t, hnode⟩ := hten j hjN
    have HT := hidM (And.intro t.c0 hnode.way)
    have HZ := hidM hz
    have HH := hidM (And.intro hbx hgw)
    have HJ1 := hidM HJ.out
    clear hten t hnode hO hO' hz hbx hgw HJ
    by_cases hz0 : z = 0
    ·subst hz0
     have HA : Hid (AllR (N.take (j + 1))) := AllR.next hjN HJ1.out.2 HZ.out.symm
     go_wp2_with (go_at_call 30; refine Calls.mono hwr ?_; rintro e w3 ⟨rfl, hg3⟩)
     go_roundw
     case rel => exact ⟨j + 1, by omega, by simp, HJ1.out.1.tr hg3, HA.out⟩
     case measure => simp [intOf]; omega
    have hzb := beqF hz0
    go_wp2_with (go_at_call 30; refine Calls.mono hwr ?_; rintro e w3 ⟨rfl, hg3⟩; have d0 := hg3.cell' HT.out.1 id; have hb3 := (hg3.block _ (lt_of_heap HH.out.1) id).trans HH.out.1; obtain ⟨y0, y1, y2⟩ := cell3 hb3; have y3 := frz hb3 0; have y4 := frz hb3 1; have y5 := frz hb3 2; have HB3 := hidM (And.intro hb3 hg3); clear hb3 hg3)
    obtain ⟨hb3, hg3⟩ := HB3.out
    have hb4 := setc (j := 2) (setc (j := 1) (setc (j := 0) hb3 (.int .i64 z)) (.slice (some ⟨wb, 0, none⟩) N[j].path.length wc)) (.int .i64 0)
    have k1 : Keeps w3 _ (fun b => b = B) := keep1 (j := 2) (keep1 (j := 1) (keep1 (j := 0) (Keeps.refl w3 (fun b => b = B)) (.int .i64 z)) (.slice (some ⟨wb, 0, none⟩) N[j].path.length wc)) (.int .i64 0)
    obtain ⟨v0, v1, v2⟩ := cell3 (hb4.trans (by simp : _ = some (Obj.cells #[.int .i64 z, .slice (some ⟨wb, 0, none⟩) N[j].path.length wc, .int .i64 0] 52 (0, 0))))
    have way3 := row_kp HT.out.2 fun q e => hg3.block q (own_lt HT.out.2 q e) id
    have hlj : (N.take j).length = j := by rw [List.length_take]; omega
    refine bodyPost_ret (v := .agg #[.int .i64 z, .slice (some ⟨wb, 0, none⟩) N[j].path.length wc, .int .i64 0]) ?_ rfl ?_
    ·simp [results, Tryz.f15, go_sem, v0, v1, v2]
    refine ⟨(HH.out.2.tr hg3).trans (T := fun b => b = B) k1 (fun j hj h => by have := HB.out; omega), .inr (.inr ⟨by rw [HE1.out], N.take j, N[j], some ⟨wb, 0, none⟩, wc, ?_, HJ1.out.2, ?_, ?_, ?_⟩)⟩
    ·rw [← List.take_succ_eq_append_getElem hjN]; exact List.take_prefix _ _
    ·rw [hlj, ← HZ.out]; exact hz0
    ·rw [hlj, ← HZ.out]; rfl
    exact row_kp way3 fun q e => k1.block q (own_lt way3 q e) fun h => row_ne_box way3 hb3 (by decide) (by rw [e, h])
   have hjn : j = n := by omega
   have hjI : ¬ (j : Int) < (n : Int) := by omega
   have HA : Hid (AllR N) := by
    have h := HJ.out.2
    rw [hjn, Hn.out, List.take_length] at h
    exact h
   obtain ⟨y0, y1, y2⟩ := cell3 hbx
   have y3 := frz hbx 0
   have y4 := frz hbx 1
   have y5 := frz hbx 2
   have fin : ∀ W4, W4 = ((wr.setCell ⟨B, 0, none⟩ (.int .i64 0)).setCell ⟨B, 1, none⟩ (.slice none 0 0)).setCell ⟨B, 2, none⟩ (.int .i64 0) → W4.heap[B]? = some (.cells #[.int .i64 0, .slice none 0 0, .int .i64 0] 52) ∧ Gr w W4 := by
    intro W4 e
    refine ⟨?_, ?_⟩
    ·rw [e, setc (j := 2) (setc (j := 1) (setc (j := 0) hbx _) _) _]; simp
    rw [e]
    have k1 : Keeps wr _ (fun b => b = B) := keep1 (j := 2) (keep1 (j := 1) (keep1 (j := 0) (Keeps.refl wr (fun b => b = B)) (.int .i64 0)) (.slice none 0 0)) (.int .i64 0)
    exact hgw.trans (T := fun b => b = B) k1 (fun j hj h => by have := HB.out; omega)
   have HFN : Hid _ := fin
   clear fin HJ hgw hbx
   go_wp2_with fail
   obtain ⟨hb4, hg4⟩ := HFN.out _ rfl
   obtain ⟨t0, t1, t2⟩ := cell3 hb4
   refine bodyPost_ret (v := .agg #[.int .i64 0, .slice none 0 0, .int .i64 0]) ?_ rfl ?_
   ·simp [results, Tryz.f15, go_sem, t0, t1, t2]
   exact ⟨hg4, .inr (.inl ⟨by rw [HE1.out], HA.out, rfl⟩)⟩
theorem wrong_short {s : LS} {k : Nat} {t : Nat → Bool} (h : wrongE s k t = 0) : s.path.length ≤ 64 := by
 unfold wrongE wr at h
 split at h
 ·omega
 omega
theorem AllR.short {l : List LS} (h : AllR l) : ∀ x ∈ l, x.path.length ≤ 64 := fun x hx => by
 obtain ⟨k, hk, rfl⟩ := List.mem_iff_getElem.1 hx
 exact wrong_short (h k hk)
theorem FaultIs.cut {E : Int × Int} {D : Nat} {fs : List FT} {er : Int} {p : List Nat} {k : Int} (h : FaultIs E (nodes D fs [] false) er p k) : FaultIs E (grown [] (nodesC D fs [] false)) er p k := by
 rcases h with h | ⟨a, b, h⟩ | ⟨a, L, x, h1, h2, h3, h4⟩
 ·exact .inl h
 ·refine .inr (.inl ⟨a, ?_, h⟩)
  have e := (cut_same D fs [] false 0 (by simp)).2 b.short
  rw [grown, List.nil_append, e, List.take_of_length_le (by have := b.len; omega)]
  exact b
 refine .inr (.inr ⟨a, L, x, ?_, h2, h3, h4⟩)
 have hl := h2.len
 have ht : (nodes D fs [] false).take (L.length + 1) = L ++ [x] := by
  obtain ⟨t, ht⟩ := h1
  rw [← ht, List.take_append_of_le_length (by simp)]
  exact List.take_of_length_le (by simp)
 have htL : (nodes D fs [] false).take L.length = L := by
  obtain ⟨t, ht⟩ := h1
  rw [← ht, List.append_assoc, List.take_left]
 have e := (cut_same D fs [] false L.length (by rw [htL]; exact h2.short)).1
 rw [ht] at e
 rw [e, grown, List.nil_append]
 exact List.take_prefix_take_left (by omega)
theorem checkR_fault {S : Nat → Prop} {D : Nat} {fo no : Option Addr} {cf cn : Nat} {fs : List FT} {ns : List (ByteArray × ByteArray)} {w : World} (hr : RowAt S w D fo fs) (hcf : fs.length ≤ cf) (hS : ∀ b, S b → b < w.heap.size) (hn : NotesAt w no ns) :
  ∀ W, Gr w W → Calls Tryz.prog 15 #[.agg #[.slice fo fs.length cf, .slice no ns.length cn]] W fun e w' => ∃ er vo vn vc tt, e = .returned (.agg #[.int .i64 er, .slice vo vn vc, .int .i64 tt]) ∧ Gr W w' ∧ FaultQ (listsE fs.length ns) (grown [] (nodesC D fs [] false)) er vo vn vc tt w' := by
 intro W g
 refine Calls.mono (checkR_any S D fo no fs.length cf cn fs ns W rfl (hr.kept fun b hb => g.block b (hS b hb) id) hcf (fun b hb => by have := hS b hb; have := g.size; omega) (hn.gr g)) ?_
 rintro e w' ⟨hg, h | h | h⟩
 ·obtain ⟨h1, rfl⟩ := h
  exact ⟨_, none, 0, 0, _, rfl, hg, [], rfl, .inl ⟨h1, rfl, rfl, rfl⟩, World.ownsRow_nil _ _ _ _⟩
 ·obtain ⟨h1, h2, rfl⟩ := h
  exact ⟨0, none, 0, 0, 0, rfl, hg, [], rfl, .inr (.inl ⟨h1, h2, rfl, rfl, rfl⟩), World.ownsRow_nil _ _ _ _⟩
 obtain ⟨h1, L, x, vo, vc, h2, h3, h4, rfl, h5⟩ := h
 exact ⟨_, vo, _, vc, 0, rfl, hg, x.path, rfl, .inr (.inr ⟨h1, L, x, h2, h3, h4, rfl, rfl, rfl⟩), h5⟩
open Kd (Ans cell5 cell2)
theorem deep_nodes : ∀ (d : Nat) (fs : List FT) (path : List Nat) (b : Bool), deep d fs → nodes (d + 1) fs path b = nodes d fs path b
 | 0, fs, path, b, h => by
  have e : fs = [] := h
  subst e
  rfl
 | d + 1, fs, path, b, h => by
  rw [nodes, nodes]
  rw [List.flatMap_def, List.flatMap_def]
  congr 1
  refine List.map_congr_left fun i hi => ?_
  have hi' : i < fs.length := List.mem_range.1 hi
  rw [deep_nodes d _ _ _ (h _ (by rw [getElem!_pos fs i hi']; exact List.getElem_mem hi'))]
theorem lists_fine {nf : Nat} {ns : List (ByteArray × ByteArray)} (h : (listsE nf ns).1 = 0) : nf ≤ 32 ∧ listsE nf [] = (0, 0) := by
 unfold listsE at h ⊢
 by_cases c : 32 < nf
 ·rw [if_pos c] at h; simp at h
 exact ⟨by omega, by rw [if_neg c]; simp⟩
theorem own_fine {D : Nat} {fs : List FT} {ns : List (ByteArray × ByteArray)} {p : List Nat} {k : Int} (h : FaultIs (listsE fs.length ns) (nodes D fs [] false) 0 p k) :
  AllR (nodes D fs [] false) ∧ fs.length ≤ 32 ∧ (deep D fs → FaultIs (listsE fs.length []) (nodes (D + 1) fs [] false) 0 [] 0) := by
 rcases h with ⟨a, b, -, -⟩ | ⟨a, b, -, -, -⟩ | ⟨a, L, x, h1, h2, h3, h4, -, -⟩
 ·exact absurd b.symm a
 ·obtain ⟨h1, h2⟩ := lists_fine a
  exact ⟨b, h1, fun hd => .inr (.inl ⟨by rw [h2], by rw [deep_nodes D fs [] false hd]; exact b, rfl, rfl, rfl⟩)⟩
 exact absurd h4.symm h3
theorem tells21 {S : Nat → Prop} {D : Nat} {fo no : Option Addr} {cf cn : Nat} {fs : List FT} {ns : List (ByteArray × ByteArray)} {w : World} (hT : Tab w) (hr : RowAt S w D fo fs) (hcf : fs.length ≤ cf) (hD : D ≤ big) (hS : ∀ b, S b → b < w.heap.size) (hn : NotesAt w no ns) {er : Int} {p : List Nat} {k : Int} (hF : FaultIs (listsE fs.length ns) (nodes D fs [] false) er p k) :
  Tells w 21 (.agg #[.slice fo fs.length cf, .slice no ns.length cn]) er p k := by
 intro W g
 refine (check_fault hT hr hcf hD hS hn W g).mono ?_
 rintro e w' ⟨er', vo, vn, vc, tt, rfl, g', p', rfl, h2, h3⟩
 obtain ⟨rfl, rfl, rfl⟩ := hF.one h2
 exact ⟨vo, vc, rfl, g', ints_of_own h3⟩
theorem tells15 {S : Nat → Prop} {D : Nat} {fo no : Option Addr} {cf cn : Nat} {fs : List FT} {ns : List (ByteArray × ByteArray)} {w : World} (hr : RowAt S w D fo fs) (hcf : fs.length ≤ cf) (hS : ∀ b, S b → b < w.heap.size) (hn : NotesAt w no ns) {er : Int} {p : List Nat} {k : Int} (hF : FaultIs (listsE fs.length ns) (nodes D fs [] false) er p k) :
  Tells w 15 (.agg #[.slice fo fs.length cf, .slice no ns.length cn]) er p k := by
 intro W g
 refine (checkR_fault hr hcf hS hn W g).mono ?_
 rintro e w' ⟨er', vo, vn, vc, tt, rfl, g', p', rfl, h2, h3⟩
 obtain ⟨rfl, rfl, rfl⟩ := hF.cut.one h2
 exact ⟨vo, vc, rfl, g', ints_of_own h3⟩
open Kd (NewB row7)
theorem FsI.box {A w : World} {B d vc : Nat} {v v' x y : Value} {l : List FT} {vo : Option Addr} (hB : A.heap[B]? = some (.cells #[x, y] 25)) (h : FsI (A.setCell ⟨B, 0, none⟩ v) w d l vo vc) :
  FsI (A.setCell ⟨B, 0, none⟩ v') (w.setCell ⟨B, 0, none⟩ v') d l vo vc := by
 have hBl := lt_of_heap hB
 have e1 := heap_setCell_same A B 0 _ _ v hB
 have e2 := heap_setCell_same A B 0 _ _ v' hB
 have sA : (A.setCell ⟨B, 0, none⟩ v).heap.size = A.heap.size := by simp [World.setCell]
 have sA' : (A.setCell ⟨B, 0, none⟩ v').heap.size = A.heap.size := by simp [World.setCell]
 have sw : (w.setCell ⟨B, 0, none⟩ v').heap.size = w.heap.size := by simp [World.setCell]
 have kw : Keeps w (w.setCell ⟨B, 0, none⟩ v') (fun z => z = B) := Keeps.setCell (S := fun z => z = B) (p := ⟨B, 0, none⟩) (Keeps.refl w _) (fun _ => rfl) _
 have wB := (h.gr.block B (by omega) id).trans e1
 have hgs := h.gr.size
 obtain ⟨F, hF, hk⟩ := h.own
 refine ⟨⟨?_, ?_, ?_, ?_, fun k hk hn => ?_⟩, fun g e => ?_, F, ?_, fun i hi => ⟨(hk i hi).1, ?_⟩⟩
 ·have := h.gr.os; simpa [World.setCell] using this
 ·have := h.gr.tape; simpa [World.setCell] using this
 ·have := h.gr.output; simpa [World.setCell] using this
 ·omega
 ·by_cases c : k = B
  ·subst c
   rw [heap_setCell_same w k 0 _ _ v' wB, e2]
   simp
  rw [heap_setCell_other w _ k v' c, heap_setCell_other A _ k v' c, h.gr.block k (by omega) id, heap_setCell_other A _ k v c]
 ·have := h.new g e; omega
 ·exact row_kp hF fun g e => kw.block g (own_lt hF g e) (fun c => by have c' : g = B := c; have := (h.new g e).1; omega)
 refine ((hk i hi).2.kept fun b hb => kw.block b hb.1.2 (fun c => by have c' : b = B := c; have := hb.1.1; omega)).mono fun b hb => ⟨⟨by have := hb.1.1; omega, by have := hb.1.2; omega⟩, hb.2⟩
theorem FsI.at_ {A w : World} {B d vc : Nat} {v y x : Value} {l : List FT} {vo : Option Addr} (hB : A.heap[B]? = some (.cells #[x, y] 25)) (h : FsI (A.setCell ⟨B, 0, none⟩ v) w d l vo vc) : w.heap[B]? = some (.cells #[v, y] 25) := by
 have e1 := heap_setCell_same A B 0 _ _ v hB
 have sA : (A.setCell ⟨B, 0, none⟩ v).heap.size = A.heap.size := by simp [World.setCell]
 exact (h.gr.block B (by have := lt_of_heap hB; omega) id).trans e1
theorem FsI.kp {A w : World} {B d vc : Nat} {v : Value} {l : List FT} {vo : Option Addr} (h : FsI (A.setCell ⟨B, 0, none⟩ v) w d l vo vc) : Keeps A w (fun z => z = B) :=
 Keeps.trans (Keeps.setCell (S := fun z => z = B) (p := ⟨B, 0, none⟩) (Keeps.refl A _) (fun _ => rfl) v) (h.gr.mono fun _ _ h => h.elim) (fun _ _ h => h)
theorem FsI.start_box {A : World} {B d : Nat} {y : Value} (hB : A.heap[B]? = some (.cells #[.slice none 0 0, y] 25)) : FsI (A.setCell ⟨B, 0, none⟩ (.slice none 0 0)) A d [] none 0 := by
 rw [set_id (j := 0) (v := .slice Option.none 0 0) hB rfl]
 exact FsI.nil0 A d
def OrAt (W : World) (oo : Option Addr) (l : List (Int × Int)) : Prop := l ≠ [] → ∃ g y, oo = some ⟨g, y, none⟩ ∧ g < W.heap.size ∧ ∀ j (h : j < l.length), W.cell? ⟨g, y + j * 2, none⟩ = some (.int .i64 l[j].1) ∧ W.cell? ⟨g, y + j * 2 + 1, none⟩ = some (.int .i64 l[j].2)
theorem rowO_at : ∀ (l : List (Int × Int)) (j : Nat) (h : j < l.length), (rowO l)[j * 2]? = some (.int .i64 l[j].1) ∧ (rowO l)[j * 2 + 1]? = some (.int .i64 l[j].2)
 | [], j, h => absurd h (by simp)
 | x :: l, 0, h => by simp [rowO]
 | x :: l, j + 1, h => by
  have ih := rowO_at l j (by simpa using h)
  have e1 : (j + 1) * 2 = j * 2 + 2 := by omega
  have e2 : (j + 1) * 2 + 1 = (j * 2 + 1) + 2 := by omega
  rw [e2, e1]
  simpa [rowO] using ih
theorem OrI.at_ {W w : World} {l : List (Int × Int)} {vo : Option Addr} {vc : Nat} (h : OrI W w l vo vc) : OrAt w vo l := fun hn => by
 have hpos : 0 < l.length := List.length_pos_iff.2 hn
 obtain ⟨g, cap, cur, e, h1, hg, h2, h3, h4⟩ := own_get h.own hpos
 simp only [Value.slice.injEq] at e
 refine ⟨g, 0, e.1, lt_of_heap hg, fun j hj => ?_⟩
 obtain ⟨r1, r2⟩ := rowO_at l j hj
 exact ⟨by rw [Nat.zero_add]; exact h4 _ _ r1, by rw [Nat.zero_add]; exact h4 _ _ r2⟩
variable {nx ny : Bool}
theorem results_cell30t {fn : Func} {t u : Tmp} {tmps : Array Value} {g : Nat} {cs : Array Value} {w : World} (h : fn.results = #[.cell t 25, .tmp u]) (ht : tmps.getD t undef = .pointer (some ⟨g, 0, none⟩)) (hg : w.heap[g]? = some (.cells cs 25 (0, 0))) (hi : (Tryz.prog.info? 25).map (·.size) = some cs.size) :
  (results fn tmps).run Tryz.prog w = .ok (.tuple #[.agg cs, tmps.getD u undef]) w := by
 have hl := run_loadVar_row (P := Tryz.prog) w g 25 25 cs (0, 0) _ hg Tryz.underlying25 rfl hi
 unfold results
 rw [h]
 simp only [Array.mapM_eq_mapM_toList, List.mapM_cons, List.mapM_nil, ht]
 simp [asAddr, hl]
open Kd (ZsAt ZsAt.gr)
theorem wrongKeys12_lo (join : Int) (k1 k2 : List Int) (po qo fo no go mo : Option Addr) (pc qc n cf nn cn m cg mm cm : Nat) (W : World) (n1 n2 : Nat) (h : join < 1) : Calls Tryz.prog 12 #[.int .i64 join, .agg #[.slice fo n cf, .slice no nn cn], .slice po n1 pc, .agg #[.slice go m cg, .slice mo mm cm], .slice qo n2 qc] W fun e w' => e = .returned (.int .i64 1) ∧ Gr W w' := by
 obtain ⟨A0, hA0, g0, b0⟩ := nw W (.cells #[.slice fo n cf, .slice no nn cn] 25)
 obtain ⟨A1, hA1, g1, b1⟩ := nw A0 (.cells #[.slice go m cg, .slice mo mm cm] 25)
 have gW : Gr W A1 := g0.tr g1
 have HG := hidM gW
 clear g0 b0 g1 b1 gW
 go_enter Tryz.func12, Tryz.ntmps12
 go_wp2_with fail
 go_ret
 exact ⟨rfl, HG.out⟩
theorem wrongKeys12_hi (join : Int) (k1 k2 : List Int) (po qo fo no go mo : Option Addr) (pc qc n cf nn cn m cg mm cm : Nat) (W : World) (n1 n2 : Nat) (h : 5 < join) : Calls Tryz.prog 12 #[.int .i64 join, .agg #[.slice fo n cf, .slice no nn cn], .slice po n1 pc, .agg #[.slice go m cg, .slice mo mm cm], .slice qo n2 qc] W fun e w' => e = .returned (.int .i64 1) ∧ Gr W w' := by
 obtain ⟨A0, hA0, g0, b0⟩ := nw W (.cells #[.slice fo n cf, .slice no nn cn] 25)
 obtain ⟨A1, hA1, g1, b1⟩ := nw A0 (.cells #[.slice go m cg, .slice mo mm cm] 25)
 have gW : Gr W A1 := g0.tr g1
 have HG := hidM gW
 have hlo : ¬ join < 1 := by omega
 clear g0 b0 g1 b1 gW
 go_enter Tryz.func12, Tryz.ntmps12
 go_wp2_with fail
 go_ret
 exact ⟨rfl, HG.out⟩
theorem wrongKeys12_len (join : Int) (k1 k2 : List Int) (po qo fo no go mo : Option Addr) (pc qc n cf nn cn m cg mm cm : Nat) (W : World) (n1 n2 : Nat) (h1 : ¬ join < 1) (h5 : ¬ 5 < join) (h : ¬ n1 = n2) : Calls Tryz.prog 12 #[.int .i64 join, .agg #[.slice fo n cf, .slice no nn cn], .slice po n1 pc, .agg #[.slice go m cg, .slice mo mm cm], .slice qo n2 qc] W fun e w' => e = .returned (.int .i64 190) ∧ Gr W w' := by
 obtain ⟨A0, hA0, g0, b0⟩ := nw W (.cells #[.slice fo n cf, .slice no nn cn] 25)
 obtain ⟨A1, hA1, g1, b1⟩ := nw A0 (.cells #[.slice go m cg, .slice mo mm cm] 25)
 have gW : Gr W A1 := g0.tr g1
 have HG := hidM gW
 have hne : ((n1 : Int) == (n2 : Int)) = false := by simp; omega
 have hne2 : ((n1 : Int) != (n2 : Int)) = true := by simp; omega
 clear g0 b0 g1 b1 gW
 go_enter Tryz.func12, Tryz.ntmps12
 go_wp2_with fail
 go_ret
 exact ⟨rfl, HG.out⟩
theorem wrongKeys12_k1 (join : Int) (k1 k2 : List Int) (po qo fo no go mo : Option Addr) (pc qc n cf nn cn m cg mm cm : Nat) (W : World) (hl1 : k1.length ≤ 1000000000000) (hl2 : k2.length ≤ 1000000000000) (hp1 : k1.length ≤ pc) (hp2 : k2.length ≤ qc) (hz1 : ZsAt W po k1) (hz2 : ZsAt W qo k2) (h1 : ¬ join < 1) (h5 : ¬ 5 < join) (c1 c2 : Bool) (hc1 : c1 = true ↔ k1.length ≠ 0 ∧ k1.length ≤ 8 ∧ keysOk n k1) (hc2 : c2 = true ↔ k2.length ≠ 0 ∧ k2.length ≤ 8 ∧ keysOk m k2) (hle : k1.length = k2.length) (h : c1 = false) : Calls Tryz.prog 12 #[.int .i64 join, .agg #[.slice fo n cf, .slice no nn cn], .slice po k1.length pc, .agg #[.slice go m cg, .slice mo mm cm], .slice qo k2.length qc] W fun e w' => e = .returned (.int .i64 190) ∧ Gr W w' := by
 obtain ⟨A0, hA0, g0, b0⟩ := nw W (.cells #[.slice fo n cf, .slice no nn cn] 25)
 obtain ⟨A1, hA1, g1, b1⟩ := nw A0 (.cells #[.slice go m cg, .slice mo mm cm] 25)
 have gW : Gr W A1 := g0.tr g1
 have HG := hidM gW
 obtain ⟨q0, q1⟩ := cell2 ((g1.block _ (lt_of_heap b0) id).trans b0)
 have HC1 := hidM (areKeys22 k1 po fo no pc n cf nn cn c1 A1 hl1 hp1 (hz1.gr gW) hc1)
 have HC2 : Hid (∀ u, Gr A1 u → u.cell? ⟨A0.heap.size, 0, none⟩ = some (.slice go m cg) ∧ u.cell? ⟨A0.heap.size, 1, none⟩ = some (.slice mo mm cm) ∧ Calls Tryz.prog 22 #[.agg #[.slice go m cg, .slice mo mm cm], .slice qo k2.length qc] u fun e w' => e = .returned (.bool c2) ∧ Gr u w') := fun u g => by
  obtain ⟨f0, f1⟩ := cell2 b1
  exact ⟨g.cell' f0 id, g.cell' f1 id, areKeys22 k2 qo go mo qc m cg mm cm c2 u hl2 hp2 (hz2.gr (gW.tr g)) hc2⟩
 obtain ⟨L, hL⟩ : ∃ L, L = k1.length := ⟨_, rfl⟩
 rw [← hL] at HC1
 rw [← hle, ← hL] at HC2
 rw [← hle, ← hL]
 clear g0 b0 g1 b1 gW hz1 hz2 hc1 hc2 hL hle
 subst h
 go_enter Tryz.func12, Tryz.ntmps12
 go_wp2_with (go_at_call 22; refine HC1.out.mono ?_; rintro e w1 ⟨rfl, g1⟩; have HG2 := hidM (HG.out.tr g1); clear g1)
 go_ret
 exact ⟨rfl, HG2.out⟩
theorem wrongKeys12_k2 (join : Int) (k1 k2 : List Int) (po qo fo no go mo : Option Addr) (pc qc n cf nn cn m cg mm cm : Nat) (W : World) (hl1 : k1.length ≤ 1000000000000) (hl2 : k2.length ≤ 1000000000000) (hp1 : k1.length ≤ pc) (hp2 : k2.length ≤ qc) (hz1 : ZsAt W po k1) (hz2 : ZsAt W qo k2) (h1 : ¬ join < 1) (h5 : ¬ 5 < join) (c1 c2 : Bool) (hc1 : c1 = true ↔ k1.length ≠ 0 ∧ k1.length ≤ 8 ∧ keysOk n k1) (hc2 : c2 = true ↔ k2.length ≠ 0 ∧ k2.length ≤ 8 ∧ keysOk m k2) (hle : k1.length = k2.length) (h : c1 = true ∧ c2 = false) : Calls Tryz.prog 12 #[.int .i64 join, .agg #[.slice fo n cf, .slice no nn cn], .slice po k1.length pc, .agg #[.slice go m cg, .slice mo mm cm], .slice qo k2.length qc] W fun e w' => e = .returned (.int .i64 190) ∧ Gr W w' := by
 obtain ⟨A0, hA0, g0, b0⟩ := nw W (.cells #[.slice fo n cf, .slice no nn cn] 25)
 obtain ⟨A1, hA1, g1, b1⟩ := nw A0 (.cells #[.slice go m cg, .slice mo mm cm] 25)
 have gW : Gr W A1 := g0.tr g1
 have HG := hidM gW
 obtain ⟨q0, q1⟩ := cell2 ((g1.block _ (lt_of_heap b0) id).trans b0)
 have HC1 := hidM (areKeys22 k1 po fo no pc n cf nn cn c1 A1 hl1 hp1 (hz1.gr gW) hc1)
 have HC2 : Hid (∀ u, Gr A1 u → u.cell? ⟨A0.heap.size, 0, none⟩ = some (.slice go m cg) ∧ u.cell? ⟨A0.heap.size, 1, none⟩ = some (.slice mo mm cm) ∧ Calls Tryz.prog 22 #[.agg #[.slice go m cg, .slice mo mm cm], .slice qo k2.length qc] u fun e w' => e = .returned (.bool c2) ∧ Gr u w') := fun u g => by
  obtain ⟨f0, f1⟩ := cell2 b1
  exact ⟨g.cell' f0 id, g.cell' f1 id, areKeys22 k2 qo go mo qc m cg mm cm c2 u hl2 hp2 (hz2.gr (gW.tr g)) hc2⟩
 obtain ⟨L, hL⟩ : ∃ L, L = k1.length := ⟨_, rfl⟩
 rw [← hL] at HC1
 rw [← hle, ← hL] at HC2
 rw [← hle, ← hL]
 clear g0 b0 g1 b1 gW hz1 hz2 hc1 hc2 hL hle
 obtain ⟨rfl, rfl⟩ := h
 go_enter Tryz.func12, Tryz.ntmps12
 go_wp2_with (first
  | (go_at_call 22; have _ := HG2; refine HC4.out.mono ?_; rintro e w2 ⟨rfl, g2⟩; have HG3 := hidM (HG2.out.tr g2); clear g2)
  | (go_at_call 22; refine HC1.out.mono ?_; rintro e w1 ⟨rfl, g1⟩; have HG2 := hidM (HG.out.tr g1); obtain ⟨f0, f1, hc4⟩ := HC2.out w1 g1; have HC4 := hidM hc4; clear g1 hc4))
 go_ret
 exact ⟨rfl, HG3.out⟩
def alk (d : Nat) (f g : FT) : Bool := tyA (bareF d f) (bareF d g) && alLs d (bareF d f).kids (bareF d g).kids
theorem wrongKeys12_in (d : Nat) (T : Nat → Prop) (fs1 fs2 : List FT) (F1 F2 : Nat → FT) (res : Int) (join : Int) (k1 k2 : List Int) (po qo fo no go mo : Option Addr) (pc qc n cf nn cn m cg mm cm : Nat) (W : World) (hl1 : k1.length ≤ 1000000000000) (hl2 : k2.length ≤ 1000000000000) (hp1 : k1.length ≤ pc) (hp2 : k2.length ≤ qc) (hz1 : ZsAt W po k1) (hz2 : ZsAt W qo k2) (h1 : ¬ join < 1) (h5 : ¬ 5 < join) (c1 c2 : Bool) (hc1 : c1 = true ↔ k1.length ≠ 0 ∧ k1.length ≤ 8 ∧ keysOk n k1) (hc2 : c2 = true ↔ k2.length ≠ 0 ∧ k2.length ≤ 8 ∧ keysOk m k2) (hle : k1.length = k2.length) (hb : c1 = true ∧ c2 = true)
  (hn : n = fs1.length) (hm : m = fs2.length) (hr1 : RowAt T W (d + 1) fo fs1) (hr2 : RowAt T W (d + 1) go fs2) (hT : ∀ b, T b → b < W.heap.size)
  (hF1 : ∀ i (h : i < k1.length), ∃ j : Nat, ∃ hj : j < fs1.length, k1[i] = (j : Int) ∧ F1 i = fs1[j]) (hF2 : ∀ i (h : i < k2.length), ∃ j : Nat, ∃ hj : j < fs2.length, k2[i] = (j : Int) ∧ F2 i = fs2[j])
  (ho1 : ∀ f ∈ fs1, okB d f) (ho2 : ∀ f ∈ fs2, okB d f) (hres6 : ∀ i, i < k1.length → alk d (F1 i) (F2 i) = false → res = 6) (hres0 : (∀ i, i < k1.length → alk d (F1 i) (F2 i) = true) → res = 0) :
  Calls Tryz.prog 12 #[.int .i64 join, .agg #[.slice fo n cf, .slice no nn cn], .slice po k1.length pc, .agg #[.slice go m cg, .slice mo mm cm], .slice qo k2.length qc] W fun e w' => e = .returned (.int .i64 res) ∧ Gr W w' := by
 have HR1 := hidM hr1
 have HR2 := hidM hr2
 have HT := hidM hT
 have HF1 := hidM hF1
 have HF2 := hidM hF2
 have HO1 := hidM ho1
 have HO2 := hidM ho2
 have H6 := hidM hres6
 have H0 := hidM hres0
 have HZ1 := hidM hz1
 have HZ2 := hidM hz2
 have HLE := hidM hle
 have HM := hidM hm
 have HNn := hidM hn
 have HA1 : Hid (∀ A0 A1 : World, W.alloc (.cells #[.slice fo n cf, .slice no nn cn] 25) = A0 → A0.alloc (.cells #[.slice go m cg, .slice mo mm cm] 25) = A1 → ∀ u, Gr A1 u → u.cell? ⟨W.heap.size, 0, none⟩ = some (.slice fo n cf) ∧ u.cell? ⟨A0.heap.size, 0, none⟩ = some (.slice go m cg)) := by
  intro A0 A1 e0 e1 u g
  subst e0; subst e1
  exact ⟨g.cell' ((gr_alloc _ _).cell' (cell2 (heap_alloc_new _ _)).1 id) id, g.cell' (cell2 (heap_alloc_new _ _)).1 id⟩
 clear hr1 hr2 hT hF1 hF2 ho1 ho2 hres6 hres0 hm hn
 obtain ⟨A0, hA0, g0, b0⟩ := nw W (.cells #[.slice fo n cf, .slice no nn cn] 25)
 obtain ⟨A1, hA1, g1, b1⟩ := nw A0 (.cells #[.slice go m cg, .slice mo mm cm] 25)
 have gW : Gr W A1 := g0.tr g1
 have HG := hidM gW
 obtain ⟨q0, q1⟩ := cell2 ((g1.block _ (lt_of_heap b0) id).trans b0)
 have HC1 := hidM (areKeys22 k1 po fo no pc n cf nn cn c1 A1 hl1 hp1 (hz1.gr gW) hc1)
 have HC2 : Hid (∀ u, Gr A1 u → u.cell? ⟨A0.heap.size, 0, none⟩ = some (.slice go m cg) ∧ u.cell? ⟨A0.heap.size, 1, none⟩ = some (.slice mo mm cm) ∧ Calls Tryz.prog 22 #[.agg #[.slice go m cg, .slice mo mm cm], .slice qo k2.length qc] u fun e w' => e = .returned (.bool c2) ∧ Gr u w') := fun u g => by
  obtain ⟨f0, f1⟩ := cell2 b1
  exact ⟨g.cell' f0 id, g.cell' f1 id, areKeys22 k2 qo go mo qc m cg mm cm c2 u hl2 hp2 (hz2.gr (gW.tr g)) hc2⟩
 obtain ⟨L, hL⟩ : ∃ L, L = k1.length := ⟨_, rfl⟩
 rw [← hL] at HC1
 rw [← hle, ← hL] at HC2
 rw [← hle, ← hL]
 clear g0 b0 g1 b1 gW hz1 hz2 hc1 hc2 hle
 obtain ⟨rfl, rfl⟩ := hb
 have HLq := hidM hL
 clear hL
 have HS1 := hidM (HA1.out A0 A1 hA0 hA1)
 have hfd := fld58
 clear HA1
 go_enter Tryz.func12, Tryz.ntmps12
 go_wp2_with (first
  | (go_at_call 22; have _ := HG2; refine HC4.out.mono ?_; rintro e w2 ⟨rfl, g2⟩; have HG3 := hidM (HG2.out.tr g2); have HG4 := hidM (HG5.out.tr g2); clear g2)
  | (go_at_call 22; refine HC1.out.mono ?_; rintro e w1 ⟨rfl, g1⟩; have HG2 := hidM (HG.out.tr g1); have HG5 := hidM g1; obtain ⟨f0, f1, hc4⟩ := HC2.out w1 g1; have HC4 := hidM hc4; clear g1 hc4))
 clear q0 q1 hA0 hA1
 go_loopw [37] (fun p wr => ∃ k : Nat, k ≤ L ∧ p = .int .i64 (k : Int) ∧ Hid (Gr A1 wr ∧ ∀ i, i < k → alk d (F1 i) (F2 i) = true)) (fun p _ => L - (intOf p).toNat)
 case atStart => exact ⟨0, by omega, rfl, HG4.out, fun i h => absurd h (by omega)⟩
 case round =>
  obtain ⟨k, hk, rfl, HK⟩ := hrel
  clear f0 f1
  by_cases hlt : k < L
  ·have hk1 : k < k1.length := by have := HLq.out; omega
   have hk2 : k < k2.length := by have := HLE.out; omega
   obtain ⟨i1, hi1, ei1, ef1⟩ := HF1.out k hk1
   obtain ⟨i2, hi2, ei2, ef2⟩ := HF2.out k hk2
   obtain ⟨z1, y1, rfl, hc1⟩ := HZ1.out (fun e => by rw [e] at hk1; simp at hk1)
   obtain ⟨z2, y2, rfl, hc2⟩ := HZ2.out (fun e => by rw [e] at hk2; simp at hk2)
   obtain ⟨x1, o1, rfl, hx1, hs1⟩ := HR1.out.2 (fun e => by rw [e] at hi1; simp at hi1)
   obtain ⟨x2, o2, rfl, hx2, hs2⟩ := HR2.out.2 (fun e => by rw [e] at hi2; simp at hi2)
   obtain ⟨fk, fc, hcf, hlf, hrf⟩ := hs1 i1 hi1
   obtain ⟨gk, gc, hcg, hlg, hrg⟩ := hs2 i2 hi2
   have hof := HO1.out _ (List.getElem_mem hi1)
   have hog := HO2.out _ (List.getElem_mem hi2)
   rw [← ef1] at hcf hlf hrf hof
   rw [← ef2] at hcg hlg hrg hog
   obtain ⟨f, hf⟩ : ∃ f, f = F1 k := ⟨_, rfl⟩
   obtain ⟨g, hg⟩ : ∃ g, g = F2 k := ⟨_, rfl⟩
   rw [← hf] at hcf hlf hrf hof
   rw [← hg] at hcg hlg hrg hog
   have HGD := hidM (HK.out.1.tr (gr_drew (w := wr)))
   have HS8 : Hid (∀ u, Gr A1 u → u.cell? ⟨W.heap.size, 0, none⟩ = some (.slice (some ⟨x1, o1, none⟩) n cf) ∧ u.cell? ⟨A0.heap.size, 0, none⟩ = some (.slice (some ⟨x2, o2, none⟩) m cg) ∧ u.cell? ⟨z1, y1 + k, none⟩ = some (.int .i64 (i1 : Int)) ∧ u.cell? ⟨z2, y2 + k, none⟩ = some (.int .i64 (i2 : Int)) ∧ u.cell? ⟨x1, o1 + i1 * 7, none⟩ = some (.string f.name) ∧ u.cell? ⟨x1, o1 + i1 * 7 + 1, none⟩ = some (.bool f.nul) ∧ u.cell? ⟨x1, o1 + i1 * 7 + 2, none⟩ = some (.int .i64 f.kind) ∧ u.cell? ⟨x1, o1 + i1 * 7 + 3, none⟩ = some (.int .i64 f.width) ∧ u.cell? ⟨x1, o1 + i1 * 7 + 4, none⟩ = some (.int .i64 f.id) ∧ u.cell? ⟨x1, o1 + i1 * 7 + 5, none⟩ = some (.int .i64 f.index) ∧ u.cell? ⟨x1, o1 + i1 * 7 + 6, none⟩ = some (.slice fk f.kids.length fc) ∧ u.cell? ⟨x2, o2 + i2 * 7, none⟩ = some (.string g.name) ∧ u.cell? ⟨x2, o2 + i2 * 7 + 1, none⟩ = some (.bool g.nul) ∧ u.cell? ⟨x2, o2 + i2 * 7 + 2, none⟩ = some (.int .i64 g.kind) ∧ u.cell? ⟨x2, o2 + i2 * 7 + 3, none⟩ = some (.int .i64 g.width) ∧ u.cell? ⟨x2, o2 + i2 * 7 + 4, none⟩ = some (.int .i64 g.id) ∧ u.cell? ⟨x2, o2 + i2 * 7 + 5, none⟩ = some (.int .i64 g.index) ∧ u.cell? ⟨x2, o2 + i2 * 7 + 6, none⟩ = some (.slice gk g.kids.length gc)) := fun u h => by
    have h' := HG.out.tr h
    have c1 := h'.cell' (hc1 k hk1) id
    have c2 := h'.cell' (hc2 k hk2) id
    rw [ei1] at c1
    rw [ei2] at c2
    have cf' := hcf.kept (h'.block x1 (HT.out x1 hx1) id)
    have cg' := hcg.kept (h'.block x2 (HT.out x2 hx2) id)
    exact ⟨(HS1.out u h).1, (HS1.out u h).2, c1, c2, cf'.c0, cf'.c1, cf'.c2, cf'.c3, cf'.c4, cf'.c5, cf'.c6, cg'.c0, cg'.c1, cg'.c2, cg'.c3, cg'.c4, cg'.c5, cg'.c6⟩
   obtain ⟨rf, hrf'⟩ : ∃ r, r = bareF d f := ⟨_, rfl⟩
   obtain ⟨rg, hrg'⟩ : ∃ r, r = bareF d g := ⟨_, rfl⟩
   have HQ1 : Hid (∀ u, Gr A1 u → Calls Tryz.prog 24 #[.agg #[.string f.name, .bool f.nul, .int .i64 f.kind, .int .i64 f.width, .int .i64 f.id, .int .i64 f.index, .slice fk f.kids.length fc]] u fun e w' => ∃ v, e = .returned v ∧ Gr u w' ∧ FVx d u w' rf v) := fun u h => by
    have h' := HG.out.tr h
    rw [hrf']
    exact bare24 d T f fk fc u (hrf.kept fun z hz => h'.block z (HT.out z hz) id) (fun z hz => Nat.lt_of_lt_of_le (HT.out z hz) h'.size) hlf hof
   have HQ2 : Hid (∀ u, Gr A1 u → Calls Tryz.prog 24 #[.agg #[.string g.name, .bool g.nul, .int .i64 g.kind, .int .i64 g.width, .int .i64 g.id, .int .i64 g.index, .slice gk g.kids.length gc]] u fun e w' => ∃ v, e = .returned v ∧ Gr u w' ∧ FVx d u w' rg v) := fun u h => by
    have h' := HG.out.tr h
    rw [hrg']
    exact bare24 d T g gk gc u (hrg.kept fun z hz => h'.block z (HT.out z hz) id) (fun z hz => Nat.lt_of_lt_of_le (HT.out z hz) h'.size) hlg hog
   obtain ⟨z, hz⟩ : ∃ z, z = alk d (F1 k) (F2 k) := ⟨_, rfl⟩
   have hz' : z = (tyA rf rg && alLs d rf.kids rg.kids) := by rw [hz, ← hf, ← hg, hrf', hrg']; rfl
   have HAl : Hid (∀ (v : World) (xo1 xo2 : Option Addr) (xc1 xc2 : Nat), RowAt (fun b => b < v.heap.size) v d xo1 rf.kids → RowAt (fun b => b < v.heap.size) v d xo2 rg.kids → Calls Tryz.prog 23 #[.agg #[.int .i64 rf.kind, .int .i64 rf.width, .int .i64 rf.id, .int .i64 rf.index, .slice xo1 rf.kids.length xc1], .agg #[.int .i64 rg.kind, .int .i64 rg.width, .int .i64 rg.id, .int .i64 rg.index, .slice xo2 rg.kids.length xc2]] v fun e w' => e = .returned (.bool z) ∧ Gr v w') := fun v xo1 xo2 xc1 xc2 a b => by
    rw [hz']
    exact alike23 (fun b => b < v.heap.size) d v rf rg xo1 xo2 xc1 xc2 a b (fun _ h => h) v (Keeps.refl _ _)
   have HZq := hidM hz
   have hltI : (k : Int) < (L : Int) := by omega
   have hi1I : (i1 : Int) < (n : Int) := by have := HNn.out; omega
   have hi2I : (i2 : Int) < (m : Int) := by have := HM.out; omega
   clear hc1 hc2 hs1 hs2 hcf hcg hlf hlg hrf hrg hof hog ef1 ef2 ei1 ei2 hf hg hrf' hrg' hz hz' hx1 hx2 hi1 hi2 hk1 hk2
   go_wp2_with fail
   refine wp_region_held_drew (S := fun w' => w'.cell? ⟨W.heap.size, 0, none⟩ = some (.slice (some ⟨x1, o1, none⟩) n cf) ∧ w'.cell? ⟨A0.heap.size, 0, none⟩ = some (.slice (some ⟨x2, o2, none⟩) m cg) ∧ w'.cell? ⟨z1, y1 + k, none⟩ = some (.int .i64 (i1 : Int)) ∧ w'.cell? ⟨z2, y2 + k, none⟩ = some (.int .i64 (i2 : Int)) ∧ w'.cell? ⟨x1, o1 + i1 * 7, none⟩ = some (.string f.name) ∧ w'.cell? ⟨x1, o1 + i1 * 7 + 1, none⟩ = some (.bool f.nul) ∧ w'.cell? ⟨x1, o1 + i1 * 7 + 2, none⟩ = some (.int .i64 f.kind) ∧ w'.cell? ⟨x1, o1 + i1 * 7 + 3, none⟩ = some (.int .i64 f.width) ∧ w'.cell? ⟨x1, o1 + i1 * 7 + 4, none⟩ = some (.int .i64 f.id) ∧ w'.cell? ⟨x1, o1 + i1 * 7 + 5, none⟩ = some (.int .i64 f.index) ∧ w'.cell? ⟨x1, o1 + i1 * 7 + 6, none⟩ = some (.slice fk f.kids.length fc) ∧ w'.cell? ⟨x2, o2 + i2 * 7, none⟩ = some (.string g.name) ∧ w'.cell? ⟨x2, o2 + i2 * 7 + 1, none⟩ = some (.bool g.nul) ∧ w'.cell? ⟨x2, o2 + i2 * 7 + 2, none⟩ = some (.int .i64 g.kind) ∧ w'.cell? ⟨x2, o2 + i2 * 7 + 3, none⟩ = some (.int .i64 g.width) ∧ w'.cell? ⟨x2, o2 + i2 * 7 + 4, none⟩ = some (.int .i64 g.id) ∧ w'.cell? ⟨x2, o2 + i2 * 7 + 5, none⟩ = some (.int .i64 g.index) ∧ w'.cell? ⟨x2, o2 + i2 * 7 + 6, none⟩ = some (.slice gk g.kids.length gc)) (by kernel_rfl) (HS8.out _ HGD.out) fun _ => ?_
   refine tk 0 ?_
   refine tk 1 ?_
   refine tk 2 ?_
   refine tk 3 ?_
   refine tk 4 ?_
   refine tk 5 ?_
   refine tk 6 ?_
   refine tk 7 ?_
   refine tk 10 ?_
   refine tk 11 ?_
   refine tk 12 ?_
   refine tk 13 ?_
   refine tk 14 ?_
   refine tk 15 ?_
   refine tk 16 ?_
   refine tk 17 ?_
   refine rd1 8 fun Kc hK => ?_
   go_simp
   go_at_call 24
   refine Calls.mono (HQ1.out _ HGD.out) ?_
   rintro e' v1 ⟨v, rfl, hk1, xo1, xc1, rfl, hl1, hr1⟩
   replace hk1 := hidM hk1
   replace hr1 := hidM hr1
   clear hl1
   have HI1 := hidM (HGD.out.tr hk1.out)
   go_wp2_with fail
   refine hK.out _ _ (HS8.out _ HI1.out) fun _ => ?_
   clear hK Kc
   try simp only [Act.put, lA, lB, lC]
   refine' wpAnyH_take (i := 9) (oi := { dst := some 49, op := Op.field 58 (Operand.tmp 48) 2, type := 56, pos := "wrong.go:34", after := #[{ on := 8, ground := Ground.data }], guard := none }) rfl (by kernel_rfl) (by kernel_rfl) (by kernel_rfl) (fun _ _ _ h => h) (Or.inl ⟨by rfl, _⟩) (by assumption) _
   rotate_left 1
   ·(intro w hSw; go_simp; first | exact hfd _ _ _ _ _ _ _ w | with_reducible rfl)
   try simp only [Act.put, lA, lB, lC]
   refine rd1 18 fun Kc hK => ?_
   go_simp
   go_at_call 24
   refine Calls.mono (HQ2.out _ HI1.out) ?_
   rintro e' v2 ⟨v, rfl, hk2, xo2, xc2, rfl, hl2, hr2⟩
   replace hk2 := hidM hk2
   replace hr2 := hidM hr2
   clear hl2
   have HI2 := hidM (HI1.out.tr hk2.out)
   go_wp2_with fail
   refine hK.out _ _ (HS8.out _ HI2.out) fun _ => ?_
   clear hK Kc
   try simp only [Act.put, lA, lB, lC]
   refine' wpAnyH_take (i := 19) (oi := { dst := some 59, op := Op.field 58 (Operand.tmp 58) 2, type := 56, pos := "wrong.go:34", after := #[{ on := 18, ground := Ground.data }], guard := none }) rfl (by kernel_rfl) (by kernel_rfl) (by kernel_rfl) (fun _ _ _ h => h) (Or.inl ⟨by rfl, _⟩) (by assumption) _
   rotate_left 1
   ·(intro w hSw; go_simp; first | exact hfd _ _ _ _ _ _ _ w | with_reducible rfl)
   try simp only [Act.put, lA, lB, lC]
   refine rd1 20 fun Kc hK => ?_
   go_simp
   go_at_call 23
   refine Calls.mono (HAl.out _ xo1 xo2 xc1 xc2 ((hr1.out.kept fun z hz => hk2.out.block z hz.2 id).mono fun z hz => Nat.lt_of_lt_of_le hz.2 hk2.out.size) (hr2.out.mono fun z hz => hz.2)) ?_
   rintro e' v3 ⟨rfl, hk3⟩
   replace hk3 := hidM hk3
   have HI3 := hidM (HI2.out.tr hk3.out)
   go_wp2_with fail
   refine hK.out _ _ (HS8.out _ HI3.out) fun _ => ?_
   clear hK Kc
   try simp only [Act.put, lA, lB, lC]
   refine tk 21 ?_
   refine wpAnyH_done (by kernel_rfl) ?_ _
   have g3 := HI3.out
   clear HI1 HI2 hr1 hr2 hk1 hk2 hk3 HQ1 HQ2 HAl
   cases z with
   | false =>
    go_wp2_with fail
    go_ret
    obtain rfl : res = 6 := H6.out k (by have := HLq.out; omega) HZq.out.symm
    exact ⟨rfl, HG.out.tr g3⟩
   | true =>
    have hLb : L ≤ 1000000000000 := by have := HLq.out; omega
    go_wp2_with fail
    go_roundw
    case rel => exact ⟨k + 1, by omega, by first | go_num | (simp; omega), g3, fun i hi => (Nat.lt_or_ge i k).elim (fun h => HK.out.2 i h) (fun h => (show i = k by omega) ▸ HZq.out.symm)⟩
    case measure => simp [intOf]; omega
  have hkl : k = L := by omega
  subst hkl
  obtain rfl : res = 0 := H0.out (fun i hi => HK.out.2 i (by have := HLq.out; omega))
  go_wp2_with fail
  go_ret
  exact ⟨rfl, HG.out.tr HK.out.1⟩
theorem eqSchema7 (fo no go mo : Option Addr) (n cf nn cg mm : Nat) (W : World) (hF : Ans 19 #[.slice fo n cf, .slice go n cg] true W) : Ans 7 #[.agg #[.slice fo n cf, .slice no 0 nn], .agg #[.slice go n cg, .slice mo 0 mm]] true W := by
 intro W' gg
 have hF' := hF.gr gg
 clear hF gg
 obtain ⟨A0, hA0⟩ := ex (W'.alloc (.cells #[.slice fo n cf, .slice no 0 nn] 25))
 have g0 : Gr W' A0 := by rw [← hA0]; exact gr_alloc W' _
 have b0 : A0.heap[W'.heap.size]? = some (.cells #[.slice fo n cf, .slice no 0 nn] 25) := by rw [← hA0]; exact heap_alloc_new W' _
 obtain ⟨A1, hA1, g1, b1⟩ := nw A0 (.cells #[.slice go n cg, .slice mo 0 mm] 25)
 have gW : Gr W' A1 := g0.tr g1
 have HG := hidM gW
 have HC : Hid (∀ u, Gr A1 u → (u.cell? ⟨W'.heap.size, 0, none⟩ = some (.slice fo n cf) ∧ u.cell? ⟨W'.heap.size, 1, none⟩ = some (.slice no 0 nn)) ∧ u.cell? ⟨A0.heap.size, 0, none⟩ = some (.slice go n cg) ∧ u.cell? ⟨A0.heap.size, 1, none⟩ = some (.slice mo 0 mm)) := fun u g => by
  obtain ⟨e0, e1⟩ := cell2 ((g1.block _ (lt_of_heap b0) id).trans b0)
  obtain ⟨f0, f1⟩ := cell2 b1
  exact ⟨⟨g.cell' e0 id, g.cell' e1 id⟩, g.cell' f0 id, g.cell' f1 id⟩
 obtain ⟨⟨e0, e1⟩, f0, f1⟩ := HC.out A1 (Keeps.refl _ _)
 have HQ := hidM (hF' A1 gW)
 clear g0 b0 g1 b1 gW hF'
 go_enter Tryz.func7, Tryz.ntmps7
 go_wp2_with (go_at_call 19; refine HQ.out.mono ?_; rintro e w1 ⟨rfl, g2⟩; have HG2 := hidM (HG.out.tr g2); have HG3 := hidM g2; obtain ⟨⟨h0, h1⟩, h2, h3⟩ := HC.out w1 g2; clear g2 e0 e1 f0 f1)
 go_loopw [24] (fun i wr => i = .int .i64 0 ∧ wr = w1) (fun _ _ => 0)
 case atStart => exact ⟨rfl, rfl⟩
 case round =>
  obtain ⟨rfl, rfl⟩ := hrel
  go_wp2_with fail
  go_ret
  exact ⟨rfl, HG2.out⟩
theorem asked16_lo (join br er : Int) (k1 k2 : List Int) (po qo fo no go mo bo eo : Option Addr) (pc qc n cf nn cn m cg mm cm bn bc en ec : Nat) (W : World) (n1 n2 : Nat) (h : join < 1) : Calls Tryz.prog 16 #[.int .i64 join, .agg #[.slice fo n cf, .slice no nn cn, .int .i64 br, .slice bo bn bc, .slice po n1 pc], .agg #[.slice go m cg, .slice mo mm cm, .int .i64 er, .slice eo en ec, .slice qo n2 qc]] W fun e w' => e = .returned (.int .i64 1) ∧ Gr W w' := by
 obtain ⟨A0, hA0⟩ := ex (W.alloc (.cells #[.slice fo n cf, .slice no nn cn, .int .i64 br, .slice bo bn bc, .slice po n1 pc] 31))
 have g0 := gr_al hA0
 have b0 : A0.heap[W.heap.size]? = some (.cells #[.slice fo n cf, .slice no nn cn, .int .i64 br, .slice bo bn bc, .slice po n1 pc] 31) := by rw [← hA0]; exact heap_alloc_new W _
 obtain ⟨A1, hA1⟩ := ex (A0.alloc (.cells #[.slice go m cg, .slice mo mm cm, .int .i64 er, .slice eo en ec, .slice qo n2 qc] 31))
 have g1 := gr_al hA1
 have b1 : A1.heap[A0.heap.size]? = some (.cells #[.slice go m cg, .slice mo mm cm, .int .i64 er, .slice eo en ec, .slice qo n2 qc] 31) := by rw [← hA1]; exact heap_alloc_new A0 _
 have gW : Gr W A1 := g0.tr g1
 have HG := hidM gW
 obtain ⟨q0, q1, q2, q3, q4⟩ := cell5 ((g1.block _ (lt_of_heap b0) id).trans b0)
 obtain ⟨r0, r1, r2, r3, r4⟩ := cell5 b1
 clear g0 b0 g1 b1 gW
 go_enter Tryz.func16, Tryz.ntmps16
 go_wp2_with fail
 go_ret
 exact ⟨rfl, HG.out⟩
theorem asked16_hi (join br er : Int) (k1 k2 : List Int) (po qo fo no go mo bo eo : Option Addr) (pc qc n cf nn cn m cg mm cm bn bc en ec : Nat) (W : World) (n1 n2 : Nat) (h : 5 < join) : Calls Tryz.prog 16 #[.int .i64 join, .agg #[.slice fo n cf, .slice no nn cn, .int .i64 br, .slice bo bn bc, .slice po n1 pc], .agg #[.slice go m cg, .slice mo mm cm, .int .i64 er, .slice eo en ec, .slice qo n2 qc]] W fun e w' => e = .returned (.int .i64 1) ∧ Gr W w' := by
 obtain ⟨A0, hA0⟩ := ex (W.alloc (.cells #[.slice fo n cf, .slice no nn cn, .int .i64 br, .slice bo bn bc, .slice po n1 pc] 31))
 have g0 := gr_al hA0
 have b0 : A0.heap[W.heap.size]? = some (.cells #[.slice fo n cf, .slice no nn cn, .int .i64 br, .slice bo bn bc, .slice po n1 pc] 31) := by rw [← hA0]; exact heap_alloc_new W _
 obtain ⟨A1, hA1⟩ := ex (A0.alloc (.cells #[.slice go m cg, .slice mo mm cm, .int .i64 er, .slice eo en ec, .slice qo n2 qc] 31))
 have g1 := gr_al hA1
 have b1 : A1.heap[A0.heap.size]? = some (.cells #[.slice go m cg, .slice mo mm cm, .int .i64 er, .slice eo en ec, .slice qo n2 qc] 31) := by rw [← hA1]; exact heap_alloc_new A0 _
 have gW : Gr W A1 := g0.tr g1
 have HG := hidM gW
 obtain ⟨q0, q1, q2, q3, q4⟩ := cell5 ((g1.block _ (lt_of_heap b0) id).trans b0)
 obtain ⟨r0, r1, r2, r3, r4⟩ := cell5 b1
 have hlo : ¬ join < 1 := by omega
 clear g0 b0 g1 b1 gW
 go_enter Tryz.func16, Tryz.ntmps16
 go_wp2_with fail
 go_ret
 exact ⟨rfl, HG.out⟩
theorem asked16_len (join br er : Int) (k1 k2 : List Int) (po qo fo no go mo bo eo : Option Addr) (pc qc n cf nn cn m cg mm cm bn bc en ec : Nat) (W : World) (n1 n2 : Nat) (h1 : ¬ join < 1) (h5 : ¬ 5 < join) (h : ¬ n1 = n2) : Calls Tryz.prog 16 #[.int .i64 join, .agg #[.slice fo n cf, .slice no nn cn, .int .i64 br, .slice bo bn bc, .slice po n1 pc], .agg #[.slice go m cg, .slice mo mm cm, .int .i64 er, .slice eo en ec, .slice qo n2 qc]] W fun e w' => e = .returned (.int .i64 190) ∧ Gr W w' := by
 obtain ⟨A0, hA0⟩ := ex (W.alloc (.cells #[.slice fo n cf, .slice no nn cn, .int .i64 br, .slice bo bn bc, .slice po n1 pc] 31))
 have g0 := gr_al hA0
 have b0 : A0.heap[W.heap.size]? = some (.cells #[.slice fo n cf, .slice no nn cn, .int .i64 br, .slice bo bn bc, .slice po n1 pc] 31) := by rw [← hA0]; exact heap_alloc_new W _
 obtain ⟨A1, hA1⟩ := ex (A0.alloc (.cells #[.slice go m cg, .slice mo mm cm, .int .i64 er, .slice eo en ec, .slice qo n2 qc] 31))
 have g1 := gr_al hA1
 have b1 : A1.heap[A0.heap.size]? = some (.cells #[.slice go m cg, .slice mo mm cm, .int .i64 er, .slice eo en ec, .slice qo n2 qc] 31) := by rw [← hA1]; exact heap_alloc_new A0 _
 have gW : Gr W A1 := g0.tr g1
 have HG := hidM gW
 obtain ⟨q0, q1, q2, q3, q4⟩ := cell5 ((g1.block _ (lt_of_heap b0) id).trans b0)
 obtain ⟨r0, r1, r2, r3, r4⟩ := cell5 b1
 have hne : ((n1 : Int) == (n2 : Int)) = false := by simp; omega
 have hne2 : ((n1 : Int) != (n2 : Int)) = true := by simp; omega
 clear g0 b0 g1 b1 gW
 go_enter Tryz.func16, Tryz.ntmps16
 go_wp2_with fail
 go_ret
 exact ⟨rfl, HG.out⟩
theorem asked16_none (join br er : Int) (k1 k2 : List Int) (po qo fo no go mo bo eo : Option Addr) (pc qc n cf nn cn m cg mm cm bn bc en ec : Nat) (W : World) (n1 n2 : Nat) (h1 : ¬ join < 1) (h5 : ¬ 5 < join) (h : n1 = n2 ∧ n2 = 0) : Calls Tryz.prog 16 #[.int .i64 join, .agg #[.slice fo n cf, .slice no nn cn, .int .i64 br, .slice bo bn bc, .slice po n1 pc], .agg #[.slice go m cg, .slice mo mm cm, .int .i64 er, .slice eo en ec, .slice qo n2 qc]] W fun e w' => e = .returned (.int .i64 190) ∧ Gr W w' := by
 obtain ⟨rfl, rfl⟩ := h
 obtain ⟨A0, hA0⟩ := ex (W.alloc (.cells #[.slice fo n cf, .slice no nn cn, .int .i64 br, .slice bo bn bc, .slice po 0 pc] 31))
 have g0 := gr_al hA0
 have b0 : A0.heap[W.heap.size]? = some (.cells #[.slice fo n cf, .slice no nn cn, .int .i64 br, .slice bo bn bc, .slice po 0 pc] 31) := by rw [← hA0]; exact heap_alloc_new W _
 obtain ⟨A1, hA1⟩ := ex (A0.alloc (.cells #[.slice go m cg, .slice mo mm cm, .int .i64 er, .slice eo en ec, .slice qo 0 qc] 31))
 have g1 := gr_al hA1
 have b1 : A1.heap[A0.heap.size]? = some (.cells #[.slice go m cg, .slice mo mm cm, .int .i64 er, .slice eo en ec, .slice qo 0 qc] 31) := by rw [← hA1]; exact heap_alloc_new A0 _
 have gW : Gr W A1 := g0.tr g1
 have HG := hidM gW
 obtain ⟨q0, q1, q2, q3, q4⟩ := cell5 ((g1.block _ (lt_of_heap b0) id).trans b0)
 obtain ⟨r0, r1, r2, r3, r4⟩ := cell5 b1
 clear g0 b0 g1 b1 gW
 go_enter Tryz.func16, Tryz.ntmps16
 go_wp2_with fail
 go_ret
 exact ⟨rfl, HG.out⟩
theorem asked16_many (join br er : Int) (k1 k2 : List Int) (po qo fo no go mo bo eo : Option Addr) (pc qc n cf nn cn m cg mm cm bn bc en ec : Nat) (W : World) (n1 n2 : Nat) (h1 : ¬ join < 1) (h5 : ¬ 5 < join) (h : n1 = n2 ∧ 8 < n2) : Calls Tryz.prog 16 #[.int .i64 join, .agg #[.slice fo n cf, .slice no nn cn, .int .i64 br, .slice bo bn bc, .slice po n1 pc], .agg #[.slice go m cg, .slice mo mm cm, .int .i64 er, .slice eo en ec, .slice qo n2 qc]] W fun e w' => e = .returned (.int .i64 190) ∧ Gr W w' := by
 obtain ⟨rfl, h8⟩ := h
 have h8I : (8 : Int) < (n1 : Int) := by omega
 have h8J : ¬ (n1 : Int) < 1 := by omega
 obtain ⟨A0, hA0⟩ := ex (W.alloc (.cells #[.slice fo n cf, .slice no nn cn, .int .i64 br, .slice bo bn bc, .slice po n1 pc] 31))
 have g0 := gr_al hA0
 have b0 : A0.heap[W.heap.size]? = some (.cells #[.slice fo n cf, .slice no nn cn, .int .i64 br, .slice bo bn bc, .slice po n1 pc] 31) := by rw [← hA0]; exact heap_alloc_new W _
 obtain ⟨A1, hA1⟩ := ex (A0.alloc (.cells #[.slice go m cg, .slice mo mm cm, .int .i64 er, .slice eo en ec, .slice qo n1 qc] 31))
 have g1 := gr_al hA1
 have b1 : A1.heap[A0.heap.size]? = some (.cells #[.slice go m cg, .slice mo mm cm, .int .i64 er, .slice eo en ec, .slice qo n1 qc] 31) := by rw [← hA1]; exact heap_alloc_new A0 _
 have gW : Gr W A1 := g0.tr g1
 have HG := hidM gW
 obtain ⟨q0, q1, q2, q3, q4⟩ := cell5 ((g1.block _ (lt_of_heap b0) id).trans b0)
 obtain ⟨r0, r1, r2, r3, r4⟩ := cell5 b1
 clear g0 b0 g1 b1 gW
 go_enter Tryz.func16, Tryz.ntmps16
 go_wp2_with fail
 go_ret
 exact ⟨rfl, HG.out⟩
theorem asked16_k1 (join br er : Int) (k1 k2 : List Int) (po qo fo no go mo bo eo : Option Addr) (pc qc n cf nn cn m cg mm cm bn bc en ec : Nat) (W : World) (hl1 : k1.length ≤ 1000000000000) (hl2 : k2.length ≤ 1000000000000) (hz1 : ZsAt W po k1) (hz2 : ZsAt W qo k2) (h1 : ¬ join < 1) (h5 : ¬ 5 < join) (c1 c2 : Bool) (hc1 : c1 = true ↔ keysOk n k1) (hc2 : c2 = true ↔ keysOk m k2) (hle : k1.length = k2.length) (h0 : k1.length ≠ 0) (h8 : k1.length ≤ 8) (h : c1 = false) : Calls Tryz.prog 16 #[.int .i64 join, .agg #[.slice fo n cf, .slice no nn cn, .int .i64 br, .slice bo bn bc, .slice po k1.length pc], .agg #[.slice go m cg, .slice mo mm cm, .int .i64 er, .slice eo en ec, .slice qo k2.length qc]] W fun e w' => e = .returned (.int .i64 190) ∧ Gr W w' := by
 obtain ⟨A0, hA0⟩ := ex (W.alloc (.cells #[.slice fo n cf, .slice no nn cn, .int .i64 br, .slice bo bn bc, .slice po k1.length pc] 31))
 have g0 := gr_al hA0
 have b0 : A0.heap[W.heap.size]? = some (.cells #[.slice fo n cf, .slice no nn cn, .int .i64 br, .slice bo bn bc, .slice po k1.length pc] 31) := by rw [← hA0]; exact heap_alloc_new W _
 obtain ⟨A1, hA1⟩ := ex (A0.alloc (.cells #[.slice go m cg, .slice mo mm cm, .int .i64 er, .slice eo en ec, .slice qo k2.length qc] 31))
 have g1 := gr_al hA1
 have b1 : A1.heap[A0.heap.size]? = some (.cells #[.slice go m cg, .slice mo mm cm, .int .i64 er, .slice eo en ec, .slice qo k2.length qc] 31) := by rw [← hA1]; exact heap_alloc_new A0 _
 have gW : Gr W A1 := g0.tr g1
 have HG := hidM gW
 obtain ⟨q0, q1, q2, q3, q4⟩ := cell5 ((g1.block _ (lt_of_heap b0) id).trans b0)
 obtain ⟨r0, r1, r2, r3, r4⟩ := cell5 b1
 have HC1 := hidM (keysMay31 k1 po fo no pc n cf nn cn c1 A1 hl1 (hz1.gr gW) hc1)
 have HC2 : Hid (∀ u, Gr A1 u → (u.cell? ⟨A0.heap.size, 0, none⟩ = some (.slice go m cg) ∧ u.cell? ⟨A0.heap.size, 1, none⟩ = some (.slice mo mm cm) ∧ u.cell? ⟨A0.heap.size, 4, none⟩ = some (.slice qo k2.length qc)) ∧ Calls Tryz.prog 31 #[.agg #[.slice go m cg, .slice mo mm cm], .slice qo k2.length qc] u fun e w' => e = .returned (.bool c2) ∧ Gr u w') := fun u g =>
  ⟨⟨g.cell' r0 id, g.cell' r1 id, g.cell' r4 id⟩, keysMay31 k2 qo go mo qc m cg mm cm c2 u hl2 (hz2.gr (gW.tr g)) hc2⟩
 obtain ⟨L, hL⟩ : ∃ L, L = k1.length := ⟨_, rfl⟩
 rw [← hL] at HC1 q4 hA0 h0 h8
 rw [← hle, ← hL] at HC2 r4 hA1
 rw [← hle, ← hL]
 have l1 : ¬ (L : Int) < 1 := by omega
 have l8 : ¬ (8 : Int) < (L : Int) := by omega
 clear g0 b0 g1 b1 gW hz1 hz2 hc1 hc2 hL hle
 subst h
 go_enter Tryz.func16, Tryz.ntmps16
 go_wp2_with (go_at_call 31; refine HC1.out.mono ?_; rintro e w1 ⟨rfl, g1⟩; have HG2 := hidM (HG.out.tr g1); obtain ⟨⟨f0, f1, f4⟩, hc4⟩ := HC2.out w1 g1; have HC4 := hidM hc4; clear g1 hc4)
 go_ret
 exact ⟨rfl, HG2.out⟩
theorem asked16_k2 (join br er : Int) (k1 k2 : List Int) (po qo fo no go mo bo eo : Option Addr) (pc qc n cf nn cn m cg mm cm bn bc en ec : Nat) (W : World) (hl1 : k1.length ≤ 1000000000000) (hl2 : k2.length ≤ 1000000000000) (hz1 : ZsAt W po k1) (hz2 : ZsAt W qo k2) (h1 : ¬ join < 1) (h5 : ¬ 5 < join) (c1 c2 : Bool) (hc1 : c1 = true ↔ keysOk n k1) (hc2 : c2 = true ↔ keysOk m k2) (hle : k1.length = k2.length) (h0 : k1.length ≠ 0) (h8 : k1.length ≤ 8) (h : c1 = true ∧ c2 = false) : Calls Tryz.prog 16 #[.int .i64 join, .agg #[.slice fo n cf, .slice no nn cn, .int .i64 br, .slice bo bn bc, .slice po k1.length pc], .agg #[.slice go m cg, .slice mo mm cm, .int .i64 er, .slice eo en ec, .slice qo k2.length qc]] W fun e w' => e = .returned (.int .i64 190) ∧ Gr W w' := by
 obtain ⟨A0, hA0⟩ := ex (W.alloc (.cells #[.slice fo n cf, .slice no nn cn, .int .i64 br, .slice bo bn bc, .slice po k1.length pc] 31))
 have g0 := gr_al hA0
 have b0 : A0.heap[W.heap.size]? = some (.cells #[.slice fo n cf, .slice no nn cn, .int .i64 br, .slice bo bn bc, .slice po k1.length pc] 31) := by rw [← hA0]; exact heap_alloc_new W _
 obtain ⟨A1, hA1⟩ := ex (A0.alloc (.cells #[.slice go m cg, .slice mo mm cm, .int .i64 er, .slice eo en ec, .slice qo k2.length qc] 31))
 have g1 := gr_al hA1
 have b1 : A1.heap[A0.heap.size]? = some (.cells #[.slice go m cg, .slice mo mm cm, .int .i64 er, .slice eo en ec, .slice qo k2.length qc] 31) := by rw [← hA1]; exact heap_alloc_new A0 _
 have gW : Gr W A1 := g0.tr g1
 have HG := hidM gW
 obtain ⟨q0, q1, q2, q3, q4⟩ := cell5 ((g1.block _ (lt_of_heap b0) id).trans b0)
 obtain ⟨r0, r1, r2, r3, r4⟩ := cell5 b1
 have HC1 := hidM (keysMay31 k1 po fo no pc n cf nn cn c1 A1 hl1 (hz1.gr gW) hc1)
 have HC2 : Hid (∀ u, Gr A1 u → (u.cell? ⟨A0.heap.size, 0, none⟩ = some (.slice go m cg) ∧ u.cell? ⟨A0.heap.size, 1, none⟩ = some (.slice mo mm cm) ∧ u.cell? ⟨A0.heap.size, 4, none⟩ = some (.slice qo k2.length qc)) ∧ Calls Tryz.prog 31 #[.agg #[.slice go m cg, .slice mo mm cm], .slice qo k2.length qc] u fun e w' => e = .returned (.bool c2) ∧ Gr u w') := fun u g =>
  ⟨⟨g.cell' r0 id, g.cell' r1 id, g.cell' r4 id⟩, keysMay31 k2 qo go mo qc m cg mm cm c2 u hl2 (hz2.gr (gW.tr g)) hc2⟩
 obtain ⟨L, hL⟩ : ∃ L, L = k1.length := ⟨_, rfl⟩
 rw [← hL] at HC1 q4 hA0 h0 h8
 rw [← hle, ← hL] at HC2 r4 hA1
 rw [← hle, ← hL]
 have l1 : ¬ (L : Int) < 1 := by omega
 have l8 : ¬ (8 : Int) < (L : Int) := by omega
 clear g0 b0 g1 b1 gW hz1 hz2 hc1 hc2 hL hle
 obtain ⟨rfl, rfl⟩ := h
 go_enter Tryz.func16, Tryz.ntmps16
 go_wp2_with (first
  | (go_at_call 31; have _ := HG2; refine HC4.out.mono ?_; rintro e w2 ⟨rfl, g2⟩; have HG3 := hidM (HG2.out.tr g2); clear g2)
  | (go_at_call 31; refine HC1.out.mono ?_; rintro e w1 ⟨rfl, g1⟩; have HG2 := hidM (HG.out.tr g1); obtain ⟨⟨f0, f1, f4⟩, hc4⟩ := HC2.out w1 g1; have HC4 := hidM hc4; clear g1 hc4))
 go_ret
 exact ⟨rfl, HG3.out⟩
theorem okF_okB : ∀ (d : Nat) (f : FT), okF (d + 1) f → okB d f
 | 0, f, h => by
  have hk : f.kids = [] := List.eq_nil_iff_forall_not_mem.2 fun k hk => h.2 k hk
  exact ⟨fun e => tab_kid h.1 (by omega) hk, hk⟩
 | d + 1, f, h => ⟨fun e => tab_kid h.1 (by omega), fun g hg => okF_okB d g (h.2 g hg)⟩
theorem tab_id {f : FT} (h : tableB f = true) (k : ¬ f.kind = 19) : f.id = 0 ∧ f.index = 0 := by
 unfold tableB dictB at h
 simp [k] at h
 exact h.2.2
theorem clean_ren {a : ByteArray} {b : Bool} : ∀ {d : Nat} {f : FT}, clean d f → clean d (ren a b f)
 | 0, _, h => h
 | _ + 1, _, h => h
theorem okF_clean : ∀ (d : Nat) (f : FT), okF (d + 1) f → clean d (bareF d f)
 | 0, f, h => by
  have hk : f.kids = [] := List.eq_nil_iff_forall_not_mem.2 fun k hk => h.2 k hk
  exact ⟨tab_id h.1 (fun e => tab_kid h.1 (.inr (.inr (.inl e))) hk), hk⟩
 | d + 1, f, h => by
  by_cases c : f.kind = 19 ∨ f.kind = 20
  ·have hne := tab_kid h.1 (show f.kind = 15 ∨ f.kind = 16 ∨ f.kind = 19 ∨ f.kind = 20 by omega)
   obtain ⟨g, t, hg⟩ := List.exists_cons_of_ne_nil hne
   have hb : bareF (d + 1) f = ren f.name f.nul (bareF d g) := by rw [bareF, if_pos c, hg]; rfl
   have hc := okF_clean d g (h.2 g (by rw [hg]; simp))
   rw [hb]
   exact clean_up (clean_ren hc)
  have hb : bareF (d + 1) f = .mk f.name f.nul f.kind f.width f.id f.index (f.kids.map (bareF d)) := by rw [bareF, if_neg c]
  rw [hb]
  refine ⟨tab_id (f := f) h.1 (fun e => c (.inl e)), fun g hg => ?_⟩
  obtain ⟨x, hx, rfl⟩ := List.mem_map.1 hg
  exact okF_clean d x (h.2 x hx)
theorem allR_okF {D : Nat} {fs : List FT} (h : AllR (nodes D fs [] false)) (hd : deep D fs) : ∀ f ∈ fs, okF D f :=
 okF_of_pre D fs hd fun x hx => by
  rw [← nodes_pre D fs [] false] at hx
  obtain ⟨y, hy, rfl⟩ := List.mem_map.1 hx
  exact h.tab y hy
def alkD (d : Nat) (f g : FT) : Bool := tyA (bareF d f) (bareF d g) && sameLs d (bareF d f).kids (bareF d g).kids
def Bx (d : Nat) (A u : World) (z : Nat) (r : FT) (xo : Option Addr) (xc : Nat) : Prop := Gr A u ∧ u.heap[z]? = some (.cells #[.string r.name, .bool r.nul, .int .i64 r.kind, .int .i64 r.width, .int .i64 r.id, .int .i64 r.index, .slice xo r.kids.length xc] 58) ∧ r.kids.length ≤ xc ∧ RowAt (fun b => b < u.heap.size ∧ b ≠ z) u d xo r.kids
theorem Bx.gr {d : Nat} {A u v : World} {z : Nat} {r : FT} {xo : Option Addr} {xc : Nat} (h : Bx d A u z r xo xc) (g : Gr u v) : Bx d A v z r xo xc :=
 ⟨h.1.tr g, (g.block _ (lt_of_heap h.2.1) id).trans h.2.1, h.2.2.1, (h.2.2.2.kept fun b hb => g.block b hb.1 id).mono fun b hb => ⟨Nat.lt_of_lt_of_le hb.1 g.size, hb.2⟩⟩
theorem bx_a {d : Nat} {A u v X : World} {r : FT} {xo : Option Addr} {xc : Nat} (g : Gr A u) (hk : Gr u v) (hl : r.kids.length ≤ xc) (hr : RowAt (fun b => u.heap.size ≤ b ∧ b < v.heap.size) v d xo r.kids) (hX : v.alloc (.cells #[.string ⟨#[]⟩, .bool false, .int .i64 0, .int .i64 0, .int .i64 0, .int .i64 0, .slice none 0 0] 58) = X) :
  Bx d A (setAll X v.heap.size [(0, .string r.name), (1, .bool r.nul), (2, .int .i64 r.kind), (3, .int .i64 r.width), (4, .int .i64 r.id), (5, .int .i64 r.index), (6, .slice xo r.kids.length xc)]) v.heap.size r xo xc ∧ Gr u (setAll X v.heap.size [(0, .string r.name), (1, .bool r.nul), (2, .int .i64 r.kind), (3, .int .i64 r.width), (4, .int .i64 r.id), (5, .int .i64 r.index), (6, .slice xo r.kids.length xc)]) := by
 have gX := gr_al hX
 have bX : X.heap[v.heap.size]? = some (.cells #[.string ⟨#[]⟩, .bool false, .int .i64 0, .int .i64 0, .int .i64 0, .int .i64 0, .slice none 0 0] 58) := by rw [← hX]; exact heap_alloc_new v _
 have kY := setAll_kp v.heap.size [(0, .string r.name), (1, .bool r.nul), (2, .int .i64 r.kind), (3, .int .i64 r.width), (4, .int .i64 r.id), (5, .int .i64 r.index), (6, .slice xo r.kids.length xc)] X
 have gY : Gr v (setAll X v.heap.size [(0, .string r.name), (1, .bool r.nul), (2, .int .i64 r.kind), (3, .int .i64 r.width), (4, .int .i64 r.id), (5, .int .i64 r.index), (6, .slice xo r.kids.length xc)]) := gX.trans kY (fun j hj (e : j = v.heap.size) => by omega)
 refine ⟨⟨(g.tr hk).tr gY, ?_, hl, (hr.kept fun b hb => gY.block b hb.2 id).mono fun b hb => ⟨Nat.lt_of_lt_of_le hb.2 gY.size, by have := hb.2; omega⟩⟩, hk.tr gY⟩
 rw [setAll_blk v.heap.size 58 _ _ _ bX]; simp [setsA]
theorem bx_b {d : Nat} {A u v X : World} {r : FT} {xo : Option Addr} {xc : Nat} (g : Gr A u) (hX : u.alloc (.cells #[.string ⟨#[]⟩, .bool false, .int .i64 0, .int .i64 0, .int .i64 0, .int .i64 0, .slice none 0 0] 58) = X) (hk : Gr X v) (hl : r.kids.length ≤ xc) (hr : RowAt (fun b => X.heap.size ≤ b ∧ b < v.heap.size) v d xo r.kids) :
  Bx d A (setAll v u.heap.size [(0, .string r.name), (1, .bool r.nul), (2, .int .i64 r.kind), (3, .int .i64 r.width), (4, .int .i64 r.id), (5, .int .i64 r.index), (6, .slice xo r.kids.length xc)]) u.heap.size r xo xc ∧ Gr u (setAll v u.heap.size [(0, .string r.name), (1, .bool r.nul), (2, .int .i64 r.kind), (3, .int .i64 r.width), (4, .int .i64 r.id), (5, .int .i64 r.index), (6, .slice xo r.kids.length xc)]) := by
 have gX := gr_al hX
 have bX : X.heap[u.heap.size]? = some (.cells #[.string ⟨#[]⟩, .bool false, .int .i64 0, .int .i64 0, .int .i64 0, .int .i64 0, .slice none 0 0] 58) := by rw [← hX]; exact heap_alloc_new u _
 have bY := (hk.block _ (lt_of_heap bX) id).trans bX
 have sX := lt_of_heap bX
 have kY := setAll_kp u.heap.size [(0, .string r.name), (1, .bool r.nul), (2, .int .i64 r.kind), (3, .int .i64 r.width), (4, .int .i64 r.id), (5, .int .i64 r.index), (6, .slice xo r.kids.length xc)] v
 have gY : Gr u (setAll v u.heap.size [(0, .string r.name), (1, .bool r.nul), (2, .int .i64 r.kind), (3, .int .i64 r.width), (4, .int .i64 r.id), (5, .int .i64 r.index), (6, .slice xo r.kids.length xc)]) := (gX.tr hk).trans kY (fun j hj (e : j = u.heap.size) => by omega)
 refine ⟨⟨g.tr gY, ?_, hl, (hr.kept fun b hb => kY.block b hb.2 (fun e => by have e' : b = u.heap.size := e; have := hb.1; omega)).mono fun b hb => ⟨Nat.lt_of_lt_of_le hb.2 kY.size, by have := hb.1; omega⟩⟩, gY⟩
 rw [setAll_blk u.heap.size 58 _ _ _ bY]; simp [setsA]
theorem asked16_in (d : Nat) (T : Nat → Prop) (fs1 fs2 : List FT) (F1 F2 : Nat → FT) (res : Int) (join br er : Int) (k1 k2 : List Int) (po qo fo no go mo bo eo : Option Addr) (pc qc n cf nn cn m cg mm cm bn bc en ec : Nat) (W : World) (hl1 : k1.length ≤ 1000000000000) (hl2 : k2.length ≤ 1000000000000) (hz1 : ZsAt W po k1) (hz2 : ZsAt W qo k2) (h1 : ¬ join < 1) (h5 : ¬ 5 < join) (c1 c2 : Bool) (hc1 : c1 = true ↔ keysOk n k1) (hc2 : c2 = true ↔ keysOk m k2) (hle : k1.length = k2.length) (h0 : k1.length ≠ 0) (h8 : k1.length ≤ 8) (hb : c1 = true ∧ c2 = true)
  (hn : n = fs1.length) (hm : m = fs2.length) (hr1 : RowAt T W (d + 1) fo fs1) (hr2 : RowAt T W (d + 1) go fs2) (hT : ∀ b, T b → b < W.heap.size)
  (hF1 : ∀ i (h : i < k1.length), ∃ j : Nat, ∃ hj : j < fs1.length, k1[i] = (j : Int) ∧ F1 i = fs1[j]) (hF2 : ∀ i (h : i < k2.length), ∃ j : Nat, ∃ hj : j < fs2.length, k2[i] = (j : Int) ∧ F2 i = fs2[j])
  (ho1 : ∀ f ∈ fs1, okB d f) (ho2 : ∀ f ∈ fs2, okB d f) (hres6 : ∀ i, i < k1.length → alkD d (F1 i) (F2 i) = false → res = 6) (hres0 : (∀ i, i < k1.length → alkD d (F1 i) (F2 i) = true) → res = 0) :
  Calls Tryz.prog 16 #[.int .i64 join, .agg #[.slice fo n cf, .slice no nn cn, .int .i64 br, .slice bo bn bc, .slice po k1.length pc], .agg #[.slice go m cg, .slice mo mm cm, .int .i64 er, .slice eo en ec, .slice qo k2.length qc]] W fun e w' => e = .returned (.int .i64 res) ∧ Gr W w' := by
 have HR1 := hidM hr1
 have HR2 := hidM hr2
 have HT := hidM hT
 have HF1 := hidM hF1
 have HF2 := hidM hF2
 have HO1 := hidM ho1
 have HO2 := hidM ho2
 have H6 := hidM hres6
 have H0 := hidM hres0
 have HZ1 := hidM hz1
 have HZ2 := hidM hz2
 have HLE := hidM hle
 have HM := hidM hm
 have HNn := hidM hn
 obtain ⟨A0, hA0, g0, b0⟩ := nw W (.cells #[.slice fo n cf, .slice no nn cn, .int .i64 br, .slice bo bn bc, .slice po k1.length pc] 31)
 obtain ⟨A1, hA1, g1, b1⟩ := nw A0 (.cells #[.slice go m cg, .slice mo mm cm, .int .i64 er, .slice eo en ec, .slice qo k2.length qc] 31)
 have gW : Gr W A1 := g0.tr g1
 have HG := hidM gW
 obtain ⟨q0, q1, q2, q3, q4⟩ := cell5 ((g1.block _ (lt_of_heap b0) id).trans b0)
 obtain ⟨r0, r1, r2, r3, r4⟩ := cell5 b1
 have HC1 := hidM (keysMay31 k1 po fo no pc n cf nn cn c1 A1 hl1 (hz1.gr gW) hc1)
 have HC2 : Hid (∀ u, Gr A1 u → (u.cell? ⟨A0.heap.size, 0, none⟩ = some (.slice go m cg) ∧ u.cell? ⟨A0.heap.size, 1, none⟩ = some (.slice mo mm cm) ∧ u.cell? ⟨A0.heap.size, 4, none⟩ = some (.slice qo k2.length qc)) ∧ Calls Tryz.prog 31 #[.agg #[.slice go m cg, .slice mo mm cm], .slice qo k2.length qc] u fun e w' => e = .returned (.bool c2) ∧ Gr u w') := fun u g =>
  ⟨⟨g.cell' r0 id, g.cell' r1 id, g.cell' r4 id⟩, keysMay31 k2 qo go mo qc m cg mm cm c2 u hl2 (hz2.gr (gW.tr g)) hc2⟩
 obtain ⟨L, hL⟩ : ∃ L, L = k1.length := ⟨_, rfl⟩
 rw [← hL] at HC1 q4 hA0 h0 h8
 rw [← hle, ← hL] at HC2 r4 hA1
 rw [← hle, ← hL]
 have l1 : ¬ (L : Int) < 1 := by omega
 have l8 : ¬ (8 : Int) < (L : Int) := by omega
 clear b0 b1 hc1 hc2 hle
 have HLq := hidM hL
 have HA1 : Hid (∀ u, Gr A1 u → (u.cell? ⟨W.heap.size, 0, none⟩ = some (.slice fo n cf) ∧ u.cell? ⟨W.heap.size, 4, none⟩ = some (.slice po L pc)) ∧ u.cell? ⟨A0.heap.size, 0, none⟩ = some (.slice go m cg) ∧ u.cell? ⟨A0.heap.size, 4, none⟩ = some (.slice qo L qc)) := fun u g => ⟨⟨g.cell' q0 id, g.cell' q4 id⟩, g.cell' r0 id, g.cell' r4 id⟩
 clear hr1 hr2 hT hF1 hF2 ho1 ho2 hres6 hres0 hm hn g0 g1 gW hz1 hz2 hL
 obtain ⟨rfl, rfl⟩ := hb
 have hfd := fld58
 go_enter Tryz.func16, Tryz.ntmps16
 go_wp2_with (first
  | (go_at_call 31; have _ := HG2; refine HC4.out.mono ?_; rintro e w2 ⟨rfl, g2⟩; have HG3 := hidM (HG2.out.tr g2); have HG4 := hidM (HG5.out.tr g2); clear g2)
  | (go_at_call 31; refine HC1.out.mono ?_; rintro e w1 ⟨rfl, g1⟩; have HG2 := hidM (HG.out.tr g1); have HG5 := hidM g1; obtain ⟨⟨f0, f1, f4⟩, hc4⟩ := HC2.out w1 g1; have HC4 := hidM hc4; clear g1 hc4))
 clear q0 q1 q2 q3 q4 r0 r1 r2 r3 r4 hA0 hA1
 go_loopw [8] (fun p wr => ∃ k : Nat, k ≤ L ∧ p = .int .i64 (k : Int) ∧ Hid (Gr A1 wr ∧ ∀ i, i < k → alkD d (F1 i) (F2 i) = true)) (fun p _ => L - (intOf p).toNat)
 case atStart => exact ⟨0, by omega, rfl, HG4.out, fun i h => absurd h (by omega)⟩
 case round =>
  obtain ⟨k, hk, rfl, HK⟩ := hrel
  clear f0 f1 f4
  by_cases hlt : k < L
  ·have hk1 : k < k1.length := by have := HLq.out; omega
   have hk2 : k < k2.length := by have := HLE.out; omega
   obtain ⟨i1, hi1, ei1, ef1⟩ := HF1.out k hk1
   obtain ⟨i2, hi2, ei2, ef2⟩ := HF2.out k hk2
   obtain ⟨z1, y1, rfl, hc1⟩ := HZ1.out (fun e => by rw [e] at hk1; simp at hk1)
   obtain ⟨z2, y2, rfl, hc2⟩ := HZ2.out (fun e => by rw [e] at hk2; simp at hk2)
   obtain ⟨x1, o1, rfl, hx1, hs1⟩ := HR1.out.2 (fun e => by rw [e] at hi1; simp at hi1)
   obtain ⟨x2, o2, rfl, hx2, hs2⟩ := HR2.out.2 (fun e => by rw [e] at hi2; simp at hi2)
   obtain ⟨fk, fc, hcf, hlf, hrf⟩ := hs1 i1 hi1
   obtain ⟨gk, gc, hcg, hlg, hrg⟩ := hs2 i2 hi2
   have hof := HO1.out _ (List.getElem_mem hi1)
   have hog := HO2.out _ (List.getElem_mem hi2)
   rw [← ef1] at hcf hlf hrf hof
   rw [← ef2] at hcg hlg hrg hog
   obtain ⟨f, hf⟩ : ∃ f, f = F1 k := ⟨_, rfl⟩
   obtain ⟨g, hg⟩ : ∃ g, g = F2 k := ⟨_, rfl⟩
   rw [← hf] at hcf hlf hrf hof
   rw [← hg] at hcg hlg hrg hog
   have HGD := hidM (HK.out.1.tr (gr_drew (w := wr)))
   have HS9 : Hid (∀ u, Gr A1 u → u.cell? ⟨W.heap.size, 0, none⟩ = some (.slice (some ⟨x1, o1, none⟩) n cf) ∧ u.cell? ⟨W.heap.size, 4, none⟩ = some (.slice (some ⟨z1, y1, none⟩) L pc) ∧ u.cell? ⟨z1, y1 + k, none⟩ = some (.int .i64 (i1 : Int)) ∧ u.cell? ⟨x1, o1 + i1 * 7, none⟩ = some (.string f.name) ∧ u.cell? ⟨x1, o1 + i1 * 7 + 1, none⟩ = some (.bool f.nul) ∧ u.cell? ⟨x1, o1 + i1 * 7 + 2, none⟩ = some (.int .i64 f.kind) ∧ u.cell? ⟨x1, o1 + i1 * 7 + 3, none⟩ = some (.int .i64 f.width) ∧ u.cell? ⟨x1, o1 + i1 * 7 + 4, none⟩ = some (.int .i64 f.id) ∧ u.cell? ⟨x1, o1 + i1 * 7 + 5, none⟩ = some (.int .i64 f.index) ∧ u.cell? ⟨x1, o1 + i1 * 7 + 6, none⟩ = some (.slice fk f.kids.length fc)) := fun u h => by
    have h' := HG.out.tr h
    have c1 := h'.cell' (hc1 k hk1) id
    rw [ei1] at c1
    have cf' := hcf.kept (h'.block x1 (HT.out x1 hx1) id)
    exact ⟨(HA1.out u h).1.1, (HA1.out u h).1.2, c1, cf'.c0, cf'.c1, cf'.c2, cf'.c3, cf'.c4, cf'.c5, cf'.c6⟩
   have HS10 : Hid (∀ u, Gr A1 u → u.cell? ⟨A0.heap.size, 0, none⟩ = some (.slice (some ⟨x2, o2, none⟩) m cg) ∧ u.cell? ⟨A0.heap.size, 4, none⟩ = some (.slice (some ⟨z2, y2, none⟩) L qc) ∧ u.cell? ⟨z2, y2 + k, none⟩ = some (.int .i64 (i2 : Int)) ∧ u.cell? ⟨x2, o2 + i2 * 7, none⟩ = some (.string g.name) ∧ u.cell? ⟨x2, o2 + i2 * 7 + 1, none⟩ = some (.bool g.nul) ∧ u.cell? ⟨x2, o2 + i2 * 7 + 2, none⟩ = some (.int .i64 g.kind) ∧ u.cell? ⟨x2, o2 + i2 * 7 + 3, none⟩ = some (.int .i64 g.width) ∧ u.cell? ⟨x2, o2 + i2 * 7 + 4, none⟩ = some (.int .i64 g.id) ∧ u.cell? ⟨x2, o2 + i2 * 7 + 5, none⟩ = some (.int .i64 g.index) ∧ u.cell? ⟨x2, o2 + i2 * 7 + 6, none⟩ = some (.slice gk g.kids.length gc)) := fun u h => by
    have h' := HG.out.tr h
    have c1 := h'.cell' (hc2 k hk2) id
    rw [ei2] at c1
    have cf' := hcg.kept (h'.block x2 (HT.out x2 hx2) id)
    exact ⟨(HA1.out u h).2.1, (HA1.out u h).2.2, c1, cf'.c0, cf'.c1, cf'.c2, cf'.c3, cf'.c4, cf'.c5, cf'.c6⟩
   obtain ⟨rf, hrf'⟩ : ∃ r, r = bareF d f := ⟨_, rfl⟩
   obtain ⟨rg, hrg'⟩ : ∃ r, r = bareF d g := ⟨_, rfl⟩
   have HQ1 : Hid (∀ u, Gr A1 u → Calls Tryz.prog 17 #[.agg #[.string f.name, .bool f.nul, .int .i64 f.kind, .int .i64 f.width, .int .i64 f.id, .int .i64 f.index, .slice fk f.kids.length fc]] u fun e w' => ∃ v, e = .returned v ∧ Gr u w' ∧ FVx d u w' rf v) := fun u h => by
    have h' := HG.out.tr h
    rw [hrf']
    exact bare17 d T f fk fc u (hrf.kept fun z hz => h'.block z (HT.out z hz) id) (fun z hz => Nat.lt_of_lt_of_le (HT.out z hz) h'.size) hlf hof
   have HQ2 : Hid (∀ u, Gr A1 u → Calls Tryz.prog 17 #[.agg #[.string g.name, .bool g.nul, .int .i64 g.kind, .int .i64 g.width, .int .i64 g.id, .int .i64 g.index, .slice gk g.kids.length gc]] u fun e w' => ∃ v, e = .returned v ∧ Gr u w' ∧ FVx d u w' rg v) := fun u h => by
    have h' := HG.out.tr h
    rw [hrg']
    exact bare17 d T g gk gc u (hrg.kept fun z hz => h'.block z (HT.out z hz) id) (fun z hz => Nat.lt_of_lt_of_le (HT.out z hz) h'.size) hlg hog
   obtain ⟨z, hz⟩ : ∃ z, z = alkD d (F1 k) (F2 k) := ⟨_, rfl⟩
   have hz' : z = (tyA rf rg && sameLs d rf.kids rg.kids) := by rw [hz, ← hf, ← hg, hrf', hrg']; rfl
   have HAl : Hid (∀ (v : World) (z1 z2 : Nat) (x1o x2o : Option Addr) (x1c x2c : Nat), Bx d A1 v z1 rf x1o x1c → Bx d A1 v z2 rg x2o x2c → Calls Tryz.prog 32 #[.agg #[.int .i64 rf.kind, .int .i64 rf.width, .int .i64 rf.id, .int .i64 rf.index, .slice x1o rf.kids.length x1c], .agg #[.int .i64 rg.kind, .int .i64 rg.width, .int .i64 rg.id, .int .i64 rg.index, .slice x2o rg.kids.length x2c]] v fun e w' => e = .returned (.bool z) ∧ Gr v w') := fun v z1 z2 xo1 xo2 xc1 xc2 a b => by
    rw [hz']
    exact alike32 (fun b => b < v.heap.size) d v rf rg xo1 xo2 xc1 xc2 (a.2.2.2.mono fun _ h => h.1) (b.2.2.2.mono fun _ h => h.1) a.2.2.1 b.2.2.1 (fun _ h => h) v (Keeps.refl _ _)
   have HZq := hidM hz
   have hltI : (k : Int) < (L : Int) := by omega
   have hi1I : (i1 : Int) < (n : Int) := by have := HNn.out; omega
   have hi2I : (i2 : Int) < (m : Int) := by have := HM.out; omega
   clear hc1 hc2 hs1 hs2 hcf hcg hlf hlg hrf hrg hof hog ef1 ef2 ei1 ei2 hf hg hrf' hrg' hz hz' hx1 hx2 hi1 hi2 hk1 hk2
   go_wp2_with fail
   refine wp_region_held_drew (S := fun w' => w'.cell? ⟨W.heap.size, 0, none⟩ = some (.slice (some ⟨x1, o1, none⟩) n cf) ∧ w'.cell? ⟨W.heap.size, 4, none⟩ = some (.slice (some ⟨z1, y1, none⟩) L pc) ∧ w'.cell? ⟨z1, y1 + k, none⟩ = some (.int .i64 (i1 : Int)) ∧ w'.cell? ⟨x1, o1 + i1 * 7, none⟩ = some (.string f.name) ∧ w'.cell? ⟨x1, o1 + i1 * 7 + 1, none⟩ = some (.bool f.nul) ∧ w'.cell? ⟨x1, o1 + i1 * 7 + 2, none⟩ = some (.int .i64 f.kind) ∧ w'.cell? ⟨x1, o1 + i1 * 7 + 3, none⟩ = some (.int .i64 f.width) ∧ w'.cell? ⟨x1, o1 + i1 * 7 + 4, none⟩ = some (.int .i64 f.id) ∧ w'.cell? ⟨x1, o1 + i1 * 7 + 5, none⟩ = some (.int .i64 f.index) ∧ w'.cell? ⟨x1, o1 + i1 * 7 + 6, none⟩ = some (.slice fk f.kids.length fc)) (by kernel_rfl) (HS9.out _ HGD.out) fun _ => ?_
   refine tk 0 ?_
   refine tk 1 ?_
   refine tk 2 ?_
   refine tk 3 ?_
   refine tk 4 ?_
   refine tk 5 ?_
   refine tk 6 ?_
   refine tk 7 ?_
   refine tk 8 ?_
   refine tk 9 ?_
   refine rd2 10 11 (fun Kc hK => ?_) fun Kc hK => ?_
   ·go_simp
    go_at_call 17
    refine Calls.mono (HQ1.out _ HGD.out) ?_
    rintro e' v1 ⟨v, rfl, hk1, x1o, x1c, rfl, hl1, hr1⟩
    obtain ⟨X1, hX1⟩ := ex (v1.alloc (.cells #[.string ⟨#[]⟩, .bool false, .int .i64 0, .int .i64 0, .int .i64 0, .int .i64 0, .slice none 0 0] 58))
    have gX1 := gr_al hX1
    have bX1 : X1.heap[v1.heap.size]? = some (.cells #[.string ⟨#[]⟩, .bool false, .int .i64 0, .int .i64 0, .int .i64 0, .int .i64 0, .slice none 0 0] 58) := by rw [← hX1]; exact heap_alloc_new v1 _
    have HG1 := hidM (HGD.out.tr hk1)
    have HX1 := hidM (HG1.out.tr gX1)
    have hu := bx_a (HGD.out) hk1 hl1 hr1 hX1
    obtain ⟨t0, t1, t2, t3, t4, t5, t6⟩ := cell7 bX1
    have fX := frz bX1
    obtain ⟨U1, hU1⟩ := ex (setAll X1 v1.heap.size [(0, .string rf.name), (1, .bool rf.nul), (2, .int .i64 rf.kind), (3, .int .i64 rf.width), (4, .int .i64 rf.id), (5, .int .i64 rf.index), (6, .slice x1o rf.kids.length x1c)])
    have HU1 : Hid (Bx d A1 U1 v1.heap.size rf x1o x1c) := by rw [← hU1]; exact hu.1
    have HV1 : Hid (Gr wr.drew U1) := by rw [← hU1]; exact hu.2
    simp only [setAll] at hU1
    clear hu bX1 gX1 hl1 hr1 hk1
    go_wp2_with fail
    refine hK.out _ _ (HS9.out _ HG1.out) fun _ => ?_
    clear hK Kc
    try simp only [Act.put, lA, lB, lC]
    refine rd1 11 fun Kc hK => ?_
    go_simp
    refine hK.out _ _ (HS9.out _ HX1.out) fun _ => ?_
    clear hK Kc
    try simp only [Act.put, lA, lB, lC]
    refine rd1 12 fun Kc hK => ?_
    go_simp
    refine hK.out _ _ (HS9.out _ HU1.out.1) fun _ => ?_
    clear hK Kc
    try simp only [Act.put, lA, lB, lC]
    refine wpAnyH_done (by kernel_rfl) ?_ _
    clear t0 t1 t2 t3 t4 t5 t6 fX hU1
    have HG9 := hidM HU1.out.1
    have HG9d := hidM (HG9.out.tr (gr_drew (w := U1)))
    go_wp2_with fail
    refine wp_region_held_drew (S := fun w' => w'.cell? ⟨A0.heap.size, 0, none⟩ = some (.slice (some ⟨x2, o2, none⟩) m cg) ∧ w'.cell? ⟨A0.heap.size, 4, none⟩ = some (.slice (some ⟨z2, y2, none⟩) L qc) ∧ w'.cell? ⟨z2, y2 + k, none⟩ = some (.int .i64 (i2 : Int)) ∧ w'.cell? ⟨x2, o2 + i2 * 7, none⟩ = some (.string g.name) ∧ w'.cell? ⟨x2, o2 + i2 * 7 + 1, none⟩ = some (.bool g.nul) ∧ w'.cell? ⟨x2, o2 + i2 * 7 + 2, none⟩ = some (.int .i64 g.kind) ∧ w'.cell? ⟨x2, o2 + i2 * 7 + 3, none⟩ = some (.int .i64 g.width) ∧ w'.cell? ⟨x2, o2 + i2 * 7 + 4, none⟩ = some (.int .i64 g.id) ∧ w'.cell? ⟨x2, o2 + i2 * 7 + 5, none⟩ = some (.int .i64 g.index) ∧ w'.cell? ⟨x2, o2 + i2 * 7 + 6, none⟩ = some (.slice gk g.kids.length gc)) (by kernel_rfl) (HS10.out _ HG9d.out) fun _ => ?_
    refine tk 0 ?_
    refine tk 1 ?_
    refine tk 2 ?_
    refine tk 3 ?_
    refine tk 4 ?_
    refine tk 5 ?_
    refine tk 6 ?_
    refine tk 7 ?_
    refine tk 8 ?_
    refine tk 9 ?_
    refine rd2 10 11 (fun Kc hK => ?_) fun Kc hK => ?_
    ·go_simp
     go_at_call 17
     refine Calls.mono (HQ2.out _ HG9d.out) ?_
     rintro e' v2 ⟨v, rfl, hk2, x2o, x2c, rfl, hl2, hr2⟩
     obtain ⟨X2, hX2⟩ := ex (v2.alloc (.cells #[.string ⟨#[]⟩, .bool false, .int .i64 0, .int .i64 0, .int .i64 0, .int .i64 0, .slice none 0 0] 58))
     have gX2 := gr_al hX2
     have bX2 : X2.heap[v2.heap.size]? = some (.cells #[.string ⟨#[]⟩, .bool false, .int .i64 0, .int .i64 0, .int .i64 0, .int .i64 0, .slice none 0 0] 58) := by rw [← hX2]; exact heap_alloc_new v2 _
     have HG2 := hidM (HG9d.out.tr hk2)
     have HX2 := hidM (HG2.out.tr gX2)
     have hu := bx_a (HG9d.out) hk2 hl2 hr2 hX2
     obtain ⟨t0, t1, t2, t3, t4, t5, t6⟩ := cell7 bX2
     have fX := frz bX2
     obtain ⟨U2, hU2⟩ := ex (setAll X2 v2.heap.size [(0, .string rg.name), (1, .bool rg.nul), (2, .int .i64 rg.kind), (3, .int .i64 rg.width), (4, .int .i64 rg.id), (5, .int .i64 rg.index), (6, .slice x2o rg.kids.length x2c)])
     have HU2 : Hid (Bx d A1 U2 v2.heap.size rg x2o x2c) := by rw [← hU2]; exact hu.1
     have HV2 : Hid (Gr U1.drew U2) := by rw [← hU2]; exact hu.2
     simp only [setAll] at hU2
     clear hu bX2 gX2 hl2 hr2 hk2
     go_wp2_with fail
     refine hK.out _ _ (HS10.out _ HG2.out) fun _ => ?_
     clear hK Kc
     try simp only [Act.put, lA, lB, lC]
     refine rd1 11 fun Kc hK => ?_
     go_simp
     refine hK.out _ _ (HS10.out _ HX2.out) fun _ => ?_
     clear hK Kc
     try simp only [Act.put, lA, lB, lC]
     refine rd1 12 fun Kc hK => ?_
     go_simp
     refine hK.out _ _ (HS10.out _ HU2.out.1) fun _ => ?_
     clear hK Kc
     try simp only [Act.put, lA, lB, lC]
     refine wpAnyH_done (by kernel_rfl) ?_ _
     clear t0 t1 t2 t3 t4 t5 t6 fX hU2
     have HB1 := hidM (HU1.out.gr ((gr_drew (w := U1)).tr HV2.out))
     obtain ⟨c0, c1, c2, c3, c4, c5, c6⟩ := cell7 HB1.out.2.1
     obtain ⟨d0, d1, d2, d3, d4, d5, d6⟩ := cell7 HU2.out.2.1
     have HC32 := hidM (HAl.out U2 _ _ x1o x2o x1c x2c HB1.out HU2.out)
     have HGU2 := hidM HU2.out.1
     clear HB1 HU1 HU2 HV1 HV2 HAl HQ1 HQ2 HS9 HS10 HG9 HG9d
     have hLb : L ≤ 1000000000000 := by have := HLq.out; omega
     cases z with
     | false =>
      go_wp2_with (go_at_call 32; refine Calls.mono HC32.out ?_; rintro e w3 ⟨rfl, g3⟩; have HG6 := hidM (HGU2.out.tr g3); clear g3)
      go_ret
      obtain rfl : res = 6 := H6.out k (by have := HLq.out; omega) HZq.out.symm
      exact ⟨rfl, HG.out.tr HG6.out⟩
     | true =>
      go_wp2_with (go_at_call 32; refine Calls.mono HC32.out ?_; rintro e w3 ⟨rfl, g3⟩; have HG6 := hidM (HGU2.out.tr g3); clear g3)
      go_roundw
      case rel => exact ⟨k + 1, by omega, by first | go_num | (simp; omega), HG6.out, fun i hi => (Nat.lt_or_ge i k).elim (fun h => HK.out.2 i h) (fun h => (show i = k by omega) ▸ HZq.out.symm)⟩
      case measure => simp [intOf]; omega
    obtain ⟨X2, hX2⟩ := ex (U1.drew.alloc (.cells #[.string ⟨#[]⟩, .bool false, .int .i64 0, .int .i64 0, .int .i64 0, .int .i64 0, .slice none 0 0] 58))
    have gX2 : Gr U1.drew X2 := by rw [← hX2]; exact gr_alloc U1.drew _
    have bX2 : X2.heap[U1.drew.heap.size]? = some (.cells #[.string ⟨#[]⟩, .bool false, .int .i64 0, .int .i64 0, .int .i64 0, .int .i64 0, .slice none 0 0] 58) := by rw [← hX2]; exact heap_alloc_new U1.drew _
    have HX2 := hidM (HG9d.out.tr gX2)
    go_simp
    refine hK.out _ _ (HS10.out _ HX2.out) fun _ => ?_
    clear hK Kc
    try simp only [Act.put, lA, lB, lC]
    refine rd1 10 fun Kc hK => ?_
    go_simp
    go_at_call 17
    refine Calls.mono (HQ2.out _ HX2.out) ?_
    rintro e' v2 ⟨v, rfl, hk2, x2o, x2c, rfl, hl2, hr2⟩
    have bY2 : v2.heap[U1.heap.size]? = some (.cells #[.string ⟨#[]⟩, .bool false, .int .i64 0, .int .i64 0, .int .i64 0, .int .i64 0, .slice none 0 0] 58) := (hk2.block _ (lt_of_heap bX2) id).trans bX2
    have HG2 := hidM (HX2.out.tr hk2)
    have hu := bx_b (HG9d.out) hX2 hk2 hl2 hr2
    obtain ⟨t0, t1, t2, t3, t4, t5, t6⟩ := cell7 bY2
    have fX := frz bY2
    obtain ⟨U2, hU2⟩ := ex (setAll v2 U1.heap.size [(0, .string rg.name), (1, .bool rg.nul), (2, .int .i64 rg.kind), (3, .int .i64 rg.width), (4, .int .i64 rg.id), (5, .int .i64 rg.index), (6, .slice x2o rg.kids.length x2c)])
    have HU2 : Hid (Bx d A1 U2 U1.heap.size rg x2o x2c) := by rw [← hU2]; exact hu.1
    have HV2 : Hid (Gr U1.drew U2) := by rw [← hU2]; exact hu.2
    simp only [setAll] at hU2
    clear hu bX2 gX2 bY2 hl2 hr2 hk2
    go_wp2_with fail
    refine hK.out _ _ (HS10.out _ HG2.out) fun _ => ?_
    clear hK Kc
    try simp only [Act.put, lA, lB, lC]
    refine rd1 12 fun Kc hK => ?_
    go_simp
    refine hK.out _ _ (HS10.out _ HU2.out.1) fun _ => ?_
    clear hK Kc
    try simp only [Act.put, lA, lB, lC]
    refine wpAnyH_done (by kernel_rfl) ?_ _
    clear t0 t1 t2 t3 t4 t5 t6 fX hU2
    have HB1 := hidM (HU1.out.gr ((gr_drew (w := U1)).tr HV2.out))
    obtain ⟨c0, c1, c2, c3, c4, c5, c6⟩ := cell7 HB1.out.2.1
    obtain ⟨d0, d1, d2, d3, d4, d5, d6⟩ := cell7 HU2.out.2.1
    have HC32 := hidM (HAl.out U2 _ _ x1o x2o x1c x2c HB1.out HU2.out)
    have HGU2 := hidM HU2.out.1
    clear HB1 HU1 HU2 HV1 HV2 HAl HQ1 HQ2 HS9 HS10 HG9 HG9d
    have hLb : L ≤ 1000000000000 := by have := HLq.out; omega
    cases z with
    | false =>
     go_wp2_with (go_at_call 32; refine Calls.mono HC32.out ?_; rintro e w3 ⟨rfl, g3⟩; have HG6 := hidM (HGU2.out.tr g3); clear g3)
     go_ret
     obtain rfl : res = 6 := H6.out k (by have := HLq.out; omega) HZq.out.symm
     exact ⟨rfl, HG.out.tr HG6.out⟩
    | true =>
     go_wp2_with (go_at_call 32; refine Calls.mono HC32.out ?_; rintro e w3 ⟨rfl, g3⟩; have HG6 := hidM (HGU2.out.tr g3); clear g3)
     go_roundw
     case rel => exact ⟨k + 1, by omega, by first | go_num | (simp; omega), HG6.out, fun i hi => (Nat.lt_or_ge i k).elim (fun h => HK.out.2 i h) (fun h => (show i = k by omega) ▸ HZq.out.symm)⟩
     case measure => simp [intOf]; omega
   obtain ⟨X1, hX1⟩ := ex (wr.drew.alloc (.cells #[.string ⟨#[]⟩, .bool false, .int .i64 0, .int .i64 0, .int .i64 0, .int .i64 0, .slice none 0 0] 58))
   have gX1 : Gr wr.drew X1 := by rw [← hX1]; exact gr_alloc wr.drew _
   have bX1 : X1.heap[wr.drew.heap.size]? = some (.cells #[.string ⟨#[]⟩, .bool false, .int .i64 0, .int .i64 0, .int .i64 0, .int .i64 0, .slice none 0 0] 58) := by rw [← hX1]; exact heap_alloc_new wr.drew _
   have HX1 := hidM (HGD.out.tr gX1)
   go_simp
   refine hK.out _ _ (HS9.out _ HX1.out) fun _ => ?_
   clear hK Kc
   try simp only [Act.put, lA, lB, lC]
   refine rd1 10 fun Kc hK => ?_
   go_simp
   go_at_call 17
   refine Calls.mono (HQ1.out _ HX1.out) ?_
   rintro e' v1 ⟨v, rfl, hk1, x1o, x1c, rfl, hl1, hr1⟩
   have bY1 : v1.heap[wr.heap.size]? = some (.cells #[.string ⟨#[]⟩, .bool false, .int .i64 0, .int .i64 0, .int .i64 0, .int .i64 0, .slice none 0 0] 58) := (hk1.block _ (lt_of_heap bX1) id).trans bX1
   have HG1 := hidM (HX1.out.tr hk1)
   have hu := bx_b (HGD.out) hX1 hk1 hl1 hr1
   obtain ⟨t0, t1, t2, t3, t4, t5, t6⟩ := cell7 bY1
   have fX := frz bY1
   obtain ⟨U1, hU1⟩ := ex (setAll v1 wr.heap.size [(0, .string rf.name), (1, .bool rf.nul), (2, .int .i64 rf.kind), (3, .int .i64 rf.width), (4, .int .i64 rf.id), (5, .int .i64 rf.index), (6, .slice x1o rf.kids.length x1c)])
   have HU1 : Hid (Bx d A1 U1 wr.heap.size rf x1o x1c) := by rw [← hU1]; exact hu.1
   have HV1 : Hid (Gr wr.drew U1) := by rw [← hU1]; exact hu.2
   simp only [setAll] at hU1
   clear hu bX1 gX1 bY1 hl1 hr1 hk1
   go_wp2_with fail
   refine hK.out _ _ (HS9.out _ HG1.out) fun _ => ?_
   clear hK Kc
   try simp only [Act.put, lA, lB, lC]
   refine rd1 12 fun Kc hK => ?_
   go_simp
   refine hK.out _ _ (HS9.out _ HU1.out.1) fun _ => ?_
   clear hK Kc
   try simp only [Act.put, lA, lB, lC]
   refine wpAnyH_done (by kernel_rfl) ?_ _
   clear t0 t1 t2 t3 t4 t5 t6 fX hU1
   have HG9 := hidM HU1.out.1
   have HG9d := hidM (HG9.out.tr (gr_drew (w := U1)))
   go_wp2_with fail
   refine wp_region_held_drew (S := fun w' => w'.cell? ⟨A0.heap.size, 0, none⟩ = some (.slice (some ⟨x2, o2, none⟩) m cg) ∧ w'.cell? ⟨A0.heap.size, 4, none⟩ = some (.slice (some ⟨z2, y2, none⟩) L qc) ∧ w'.cell? ⟨z2, y2 + k, none⟩ = some (.int .i64 (i2 : Int)) ∧ w'.cell? ⟨x2, o2 + i2 * 7, none⟩ = some (.string g.name) ∧ w'.cell? ⟨x2, o2 + i2 * 7 + 1, none⟩ = some (.bool g.nul) ∧ w'.cell? ⟨x2, o2 + i2 * 7 + 2, none⟩ = some (.int .i64 g.kind) ∧ w'.cell? ⟨x2, o2 + i2 * 7 + 3, none⟩ = some (.int .i64 g.width) ∧ w'.cell? ⟨x2, o2 + i2 * 7 + 4, none⟩ = some (.int .i64 g.id) ∧ w'.cell? ⟨x2, o2 + i2 * 7 + 5, none⟩ = some (.int .i64 g.index) ∧ w'.cell? ⟨x2, o2 + i2 * 7 + 6, none⟩ = some (.slice gk g.kids.length gc)) (by kernel_rfl) (HS10.out _ HG9d.out) fun _ => ?_
   refine tk 0 ?_
   refine tk 1 ?_
   refine tk 2 ?_
   refine tk 3 ?_
   refine tk 4 ?_
   refine tk 5 ?_
   refine tk 6 ?_
   refine tk 7 ?_
   refine tk 8 ?_
   refine tk 9 ?_
   refine rd2 10 11 (fun Kc hK => ?_) fun Kc hK => ?_
   ·go_simp
    go_at_call 17
    refine Calls.mono (HQ2.out _ HG9d.out) ?_
    rintro e' v2 ⟨v, rfl, hk2, x2o, x2c, rfl, hl2, hr2⟩
    obtain ⟨X2, hX2⟩ := ex (v2.alloc (.cells #[.string ⟨#[]⟩, .bool false, .int .i64 0, .int .i64 0, .int .i64 0, .int .i64 0, .slice none 0 0] 58))
    have gX2 := gr_al hX2
    have bX2 : X2.heap[v2.heap.size]? = some (.cells #[.string ⟨#[]⟩, .bool false, .int .i64 0, .int .i64 0, .int .i64 0, .int .i64 0, .slice none 0 0] 58) := by rw [← hX2]; exact heap_alloc_new v2 _
    have HG2 := hidM (HG9d.out.tr hk2)
    have HX2 := hidM (HG2.out.tr gX2)
    have hu := bx_a (HG9d.out) hk2 hl2 hr2 hX2
    obtain ⟨t0, t1, t2, t3, t4, t5, t6⟩ := cell7 bX2
    have fX := frz bX2
    obtain ⟨U2, hU2⟩ := ex (setAll X2 v2.heap.size [(0, .string rg.name), (1, .bool rg.nul), (2, .int .i64 rg.kind), (3, .int .i64 rg.width), (4, .int .i64 rg.id), (5, .int .i64 rg.index), (6, .slice x2o rg.kids.length x2c)])
    have HU2 : Hid (Bx d A1 U2 v2.heap.size rg x2o x2c) := by rw [← hU2]; exact hu.1
    have HV2 : Hid (Gr U1.drew U2) := by rw [← hU2]; exact hu.2
    simp only [setAll] at hU2
    clear hu bX2 gX2 hl2 hr2 hk2
    go_wp2_with fail
    refine hK.out _ _ (HS10.out _ HG2.out) fun _ => ?_
    clear hK Kc
    try simp only [Act.put, lA, lB, lC]
    refine rd1 11 fun Kc hK => ?_
    go_simp
    refine hK.out _ _ (HS10.out _ HX2.out) fun _ => ?_
    clear hK Kc
    try simp only [Act.put, lA, lB, lC]
    refine rd1 12 fun Kc hK => ?_
    go_simp
    refine hK.out _ _ (HS10.out _ HU2.out.1) fun _ => ?_
    clear hK Kc
    try simp only [Act.put, lA, lB, lC]
    refine wpAnyH_done (by kernel_rfl) ?_ _
    clear t0 t1 t2 t3 t4 t5 t6 fX hU2
    have HB1 := hidM (HU1.out.gr ((gr_drew (w := U1)).tr HV2.out))
    obtain ⟨c0, c1, c2, c3, c4, c5, c6⟩ := cell7 HB1.out.2.1
    obtain ⟨d0, d1, d2, d3, d4, d5, d6⟩ := cell7 HU2.out.2.1
    have HC32 := hidM (HAl.out U2 _ _ x1o x2o x1c x2c HB1.out HU2.out)
    have HGU2 := hidM HU2.out.1
    clear HB1 HU1 HU2 HV1 HV2 HAl HQ1 HQ2 HS9 HS10 HG9 HG9d
    have hLb : L ≤ 1000000000000 := by have := HLq.out; omega
    cases z with
    | false =>
     go_wp2_with (go_at_call 32; refine Calls.mono HC32.out ?_; rintro e w3 ⟨rfl, g3⟩; have HG6 := hidM (HGU2.out.tr g3); clear g3)
     go_ret
     obtain rfl : res = 6 := H6.out k (by have := HLq.out; omega) HZq.out.symm
     exact ⟨rfl, HG.out.tr HG6.out⟩
    | true =>
     go_wp2_with (go_at_call 32; refine Calls.mono HC32.out ?_; rintro e w3 ⟨rfl, g3⟩; have HG6 := hidM (HGU2.out.tr g3); clear g3)
     go_roundw
     case rel => exact ⟨k + 1, by omega, by first | go_num | (simp; omega), HG6.out, fun i hi => (Nat.lt_or_ge i k).elim (fun h => HK.out.2 i h) (fun h => (show i = k by omega) ▸ HZq.out.symm)⟩
     case measure => simp [intOf]; omega
   obtain ⟨X2, hX2⟩ := ex (U1.drew.alloc (.cells #[.string ⟨#[]⟩, .bool false, .int .i64 0, .int .i64 0, .int .i64 0, .int .i64 0, .slice none 0 0] 58))
   have gX2 : Gr U1.drew X2 := by rw [← hX2]; exact gr_alloc U1.drew _
   have bX2 : X2.heap[U1.drew.heap.size]? = some (.cells #[.string ⟨#[]⟩, .bool false, .int .i64 0, .int .i64 0, .int .i64 0, .int .i64 0, .slice none 0 0] 58) := by rw [← hX2]; exact heap_alloc_new U1.drew _
   have HX2 := hidM (HG9d.out.tr gX2)
   go_simp
   refine hK.out _ _ (HS10.out _ HX2.out) fun _ => ?_
   clear hK Kc
   try simp only [Act.put, lA, lB, lC]
   refine rd1 10 fun Kc hK => ?_
   go_simp
   go_at_call 17
   refine Calls.mono (HQ2.out _ HX2.out) ?_
   rintro e' v2 ⟨v, rfl, hk2, x2o, x2c, rfl, hl2, hr2⟩
   have bY2 : v2.heap[U1.heap.size]? = some (.cells #[.string ⟨#[]⟩, .bool false, .int .i64 0, .int .i64 0, .int .i64 0, .int .i64 0, .slice none 0 0] 58) := (hk2.block _ (lt_of_heap bX2) id).trans bX2
   have HG2 := hidM (HX2.out.tr hk2)
   have hu := bx_b (HG9d.out) hX2 hk2 hl2 hr2
   obtain ⟨t0, t1, t2, t3, t4, t5, t6⟩ := cell7 bY2
   have fX := frz bY2
   obtain ⟨U2, hU2⟩ := ex (setAll v2 U1.heap.size [(0, .string rg.name), (1, .bool rg.nul), (2, .int .i64 rg.kind), (3, .int .i64 rg.width), (4, .int .i64 rg.id), (5, .int .i64 rg.index), (6, .slice x2o rg.kids.length x2c)])
   have HU2 : Hid (Bx d A1 U2 U1.heap.size rg x2o x2c) := by rw [← hU2]; exact hu.1
   have HV2 : Hid (Gr U1.drew U2) := by rw [← hU2]; exact hu.2
   simp only [setAll] at hU2
   clear hu bX2 gX2 bY2 hl2 hr2 hk2
   go_wp2_with fail
   refine hK.out _ _ (HS10.out _ HG2.out) fun _ => ?_
   clear hK Kc
   try simp only [Act.put, lA, lB, lC]
   refine rd1 12 fun Kc hK => ?_
   go_simp
   refine hK.out _ _ (HS10.out _ HU2.out.1) fun _ => ?_
   clear hK Kc
   try simp only [Act.put, lA, lB, lC]
   refine wpAnyH_done (by kernel_rfl) ?_ _
   clear t0 t1 t2 t3 t4 t5 t6 fX hU2
   have HB1 := hidM (HU1.out.gr ((gr_drew (w := U1)).tr HV2.out))
   obtain ⟨c0, c1, c2, c3, c4, c5, c6⟩ := cell7 HB1.out.2.1
   obtain ⟨d0, d1, d2, d3, d4, d5, d6⟩ := cell7 HU2.out.2.1
   have HC32 := hidM (HAl.out U2 _ _ x1o x2o x1c x2c HB1.out HU2.out)
   have HGU2 := hidM HU2.out.1
   clear HB1 HU1 HU2 HV1 HV2 HAl HQ1 HQ2 HS9 HS10 HG9 HG9d
   have hLb : L ≤ 1000000000000 := by have := HLq.out; omega
   cases z with
   | false =>
    go_wp2_with (go_at_call 32; refine Calls.mono HC32.out ?_; rintro e w3 ⟨rfl, g3⟩; have HG6 := hidM (HGU2.out.tr g3); clear g3)
    go_ret
    obtain rfl : res = 6 := H6.out k (by have := HLq.out; omega) HZq.out.symm
    exact ⟨rfl, HG.out.tr HG6.out⟩
   | true =>
    go_wp2_with (go_at_call 32; refine Calls.mono HC32.out ?_; rintro e w3 ⟨rfl, g3⟩; have HG6 := hidM (HGU2.out.tr g3); clear g3)
    go_roundw
    case rel => exact ⟨k + 1, by omega, by first | go_num | (simp; omega), HG6.out, fun i hi => (Nat.lt_or_ge i k).elim (fun h => HK.out.2 i h) (fun h => (show i = k by omega) ▸ HZq.out.symm)⟩
    case measure => simp [intOf]; omega
  have hkl : k = L := by omega
  subst hkl
  obtain rfl : res = 0 := H0.out (fun i hi => HK.out.2 i (by have := HLq.out; omega))
  go_wp2_with fail
  go_ret
  exact ⟨rfl, HG.out.tr HK.out.1⟩
end Go.Proofs.YthhpamhfnpacpaaGreatDoor.Kit
