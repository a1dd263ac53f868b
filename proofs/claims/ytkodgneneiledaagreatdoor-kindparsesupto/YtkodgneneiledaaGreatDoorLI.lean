import Derived.Test.YtkodgneneiledaaGreatDoorLH
import Derived.Test.YtkodgneneiledaaGreatDoorLK
import Derived.Test.YtkodgneneiledaaGreatDoorMB
set_option maxRecDepth 100000
set_option maxHeartbeats 4000000
namespace Go.Proofs.YtkodgneneiledaaGreatDoor.Kit
open Go.RowKit Go.Shelf Go.Deep
set_option linter.unusedVariables false
attribute [local go_sem] run_store_func
theorem OutAt.nil (S : Nat → Prop) (W : World) : OutAt S W (.slice none 0 0) [] := ⟨[], World.ownsRow_nil W 0 97 10, fun j h => by simp at h⟩
theorem checkR_any (S : Nat → Prop) (D : Nat) (fo no : Option Addr) (nf cf cn : Nat) (fs : List FT) (l : List (ByteArray × ByteArray)) (w : World) (hnf : nf = fs.length) (hr : RowAt S w D fo fs) (hcf : nf ≤ cf) (hS : ∀ b, S b → b < w.heap.size) (hn : NotesAt w no l) :
    Calls Tryz.prog 29 #[.agg #[.slice fo nf cf, .slice no l.length cn]] w (CheckR w (listsE nf l) (grown [] (nodesC D fs [] false))) := by
  have HRow := hidM hr
  have HSS := hidM hS
  have HNF := hidM hnf
  clear hr hS hnf
  obtain ⟨N, hN⟩ : ∃ N, N = grown [] (nodesC D fs [] false) := ⟨_, rfl⟩
  rw [← hN]
  have HNN := hidM hN
  clear hN
  have HN : Hid _ := hn
  obtain ⟨E, hE⟩ : ∃ E, E = listsE nf l := ⟨_, rfl⟩
  rw [← hE]
  have HE : Hid _ := hE
  obtain ⟨L, hL⟩ : ∃ L, L = l.length := ⟨_, rfl⟩
  rw [← hL]
  have HL : Hid _ := hL
  clear hn hE hL
  go_enter Tryz.func29, Tryz.ntmps29
  have hbx : ∀ (x y z : Value), ((w.alloc (.cells #[.slice fo nf cf, .slice no L cn] 27)).alloc (.cells #[x, y, z] 46)).heap[w.heap.size + 1]? = some (.cells #[x, y, z] 46) := fun x y z => by
    have := World.alloc_heap_new (w.alloc (.cells #[.slice fo nf cf, .slice no L cn] 27)) (.cells #[x, y, z] 46)
    rw [World.size_alloc] at this
    exact this
  have HX : Hid _ := hbx
  have HG : Hid (∀ o o', Gr w ((w.alloc o).alloc o')) := fun o o' => (gr_alloc w o).alloc o'
  clear hbx
  by_cases c1 : 32 < nf
  · have c1' : (32 : Int) < (nf : Int) := by omega
    go_wp2
    obtain ⟨t0, t1, t2⟩ := cell3 (HX.out (.int .i64 34) (.slice none 0 0) (.int .i64 32))
    refine bodyPost_ret (v := .agg #[.int .i64 34, .slice none 0 0, .int .i64 32]) ?_ rfl ?_
    · simp [results, Tryz.f29, go_sem, t0, t1, t2]
    exact CheckR.lists (HG.out _ _) (by rw [HE.out]; simp [listsE, c1]) (by decide)
  have c1' : ¬ (32 : Int) < (nf : Int) := by omega
  by_cases c2 : 16 < L
  · have c2' : (16 : Int) < (L : Int) := by omega
    go_wp2
    obtain ⟨t0, t1, t2⟩ := cell3 (HX.out (.int .i64 34) (.slice none 0 0) (.int .i64 16))
    refine bodyPost_ret (v := .agg #[.int .i64 34, .slice none 0 0, .int .i64 16]) ?_ rfl ?_
    · simp [results, Tryz.f29, go_sem, t0, t1, t2]
    exact CheckR.lists (HG.out _ _) (by rw [HE.out]; have := HL.out; simp [listsE, c1, ← this, c2]) (by decide)
  have c2' : ¬ (16 : Int) < (L : Int) := by omega
  have HC : Hid (¬ 32 < nf ∧ ¬ 16 < L) := ⟨c1, c2⟩
  have hL16 : L ≤ 16 := by omega
  go_wp2
  have HA0 : Hid (((w.alloc (.cells #[.slice fo nf cf, .slice no L cn] 27)).alloc (.cells #[.int .i64 0, .slice none 0 0, .int .i64 0] 46)).heap[w.heap.size]? = some (.cells #[.slice fo nf cf, .slice no L cn] 27)) := (Below.heap_alloc _ _ _ (by simp)).trans (World.alloc_heap_new w _)
  have HX0 := hidM (HX.out (.int .i64 0) (.slice none 0 0) (.int .i64 0))
  have HG0 := hidM (HG.out (.cells #[.slice fo nf cf, .slice no L cn] 27) (.cells #[.int .i64 0, .slice none 0 0, .int .i64 0] 46))
  generalize ((w.alloc (.cells #[.slice fo nf cf, .slice no L cn] 27)).alloc (.cells #[.int .i64 0, .slice none 0 0, .int .i64 0] 46)) = W0 at *
  clear HX HG
  obtain ⟨B, hB⟩ : ∃ B, B = w.heap.size + 1 := ⟨_, rfl⟩
  rw [← hB] at HX0 ⊢
  have HB : Hid _ := hB
  clear hB
  go_loopw [21] (fun i wr => ∃ k : Nat, k ≤ L ∧ i = .int .i64 (k : Int) ∧ Hid (Gr w wr ∧ wr.heap[B]? = some (.cells #[.int .i64 0, .slice none 0 0, .int .i64 0] 46) ∧ (∀ i (h : i < l.length), i < k → noteBad l[i] = false) ∧ wr.heap[w.heap.size]? = some (.cells #[.slice fo nf cf, .slice no L cn] 27))) (fun i _ => L - (intOf i).toNat)
  case atStart => exact ⟨0, by omega, rfl, HG0.out, HX0.out, fun i h h0 => by omega, HA0.out⟩
  case round =>
    clear HX0 HG0 HA0
    obtain ⟨k, hk, rfl, HK⟩ := hrel
    by_cases hlt : k < L
    · have hl := HL.out
      have hkl : k < l.length := by omega
      obtain ⟨b, o, rfl, hcs⟩ := HN.out.2 (fun e => by rw [e] at hkl; simp at hkl)
      obtain ⟨g0, g1⟩ := hcs k hkl
      replace g0 := HK.out.1.cell' g0 (fun h => h)
      replace g1 := HK.out.1.cell' g1 (fun h => h)
      have HBk : Hid (noteBad l[k] = (decide (256 < l[k].1.size) || decide (256 < l[k].2.size))) := rfl
      have HE1 : Hid (noteBad l[k] = true → E = (37, (k : Int))) := fun hx => by
        have e := idx_bad hkl HK.out.2.2.1 hx
        rw [HE.out]; unfold listsE
        rw [if_neg HC.out.1, if_neg (by have := HC.out.2; omega), e, if_pos hkl]
      have HM : Hid (noteBad l[k] = false → ∀ i (h : i < l.length), i < k + 1 → noteBad l[i] = false) := fun hx i hi hlt => by
        by_cases e : i = k
        · subst e; exact hx
        exact HK.out.2.2.1 i hi (by omega)
      have HW : Hid (Gr w wr ∧ wr.heap[B]? = some (.cells #[.int .i64 0, .slice none 0 0, .int .i64 0] 46)) := ⟨HK.out.1, HK.out.2.1⟩
      have hbx : ∀ o, (wr.alloc o).heap[B]? = some (.cells #[.int .i64 0, .slice none 0 0, .int .i64 0] 46) := fun o => ((gr_alloc wr o).block _ (lt_of_heap HK.out.2.1) (fun h => h)).trans HK.out.2.1
      have y0 := fun o => (cell3 (hbx o)).1
      have y1 := fun o => (cell3 (hbx o)).2.1
      have y2 := fun o => (cell3 (hbx o)).2.2
      have y3 := fun o => frz (hbx o) 0
      have y4 := fun o => frz (hbx o) 1
      have y5 := fun o => frz (hbx o) 2
      have HBX : Hid _ := hbx
      have HAx := hidM (fun (o' : Obj) => ((gr_alloc wr o').block _ (lt_of_heap HK.out.2.2.2) (fun h => h)).trans HK.out.2.2.2)
      generalize noteBad l[k] = nb at HBk HE1 HM
      generalize l[k].1 = n0 at *
      generalize l[k].2 = n1 at *
      clear hcs hl hkl HK HN hbx
      have fin : ∀ W4, W4 = (((wr.alloc (.cells #[.string n0, .string n1] 70)).setCell ⟨B, 0, none⟩ (.int .i64 37)).setCell ⟨B, 1, none⟩ (.slice none 0 0)).setCell ⟨B, 2, none⟩ (.int .i64 (k : Int)) → W4.heap[B]? = some (.cells #[.int .i64 37, .slice none 0 0, .int .i64 (k : Int)] 46) ∧ Gr w W4 := by
        intro W4 e
        refine ⟨?_, ?_⟩
        · rw [e, setc (j := 2) (setc (j := 1) (setc (j := 0) (HBX.out _) _) _) _]; simp
        rw [e]
        have k1 : Keeps (wr.alloc (.cells #[.string n0, .string n1] 70)) _ (fun b => b = B) := keep1 (j := 2) (keep1 (j := 1) (keep1 (j := 0) (Keeps.refl (wr.alloc (.cells #[.string n0, .string n1] 70)) (fun b => b = B)) (.int .i64 37)) (.slice none 0 0)) (.int .i64 (k : Int))
        exact (HW.out.1.alloc _).trans (T := fun b => b = B) k1 (fun j hj h => by have := HB.out; omega)
      have HFN : Hid _ := fin
      clear fin
      by_cases d1 : 256 < n0.size
      · have d1' : (256 : Int) < (n0.size : Int) := by omega
        have hnb : nb = true := by rw [HBk.out]; simp [d1]
        have HE2 := hidM (HE1.out hnb)
        clear HE1 HM HBk
        go_wp2_with fail
        obtain ⟨hb4, hg4⟩ := HFN.out _ rfl
        obtain ⟨t0, t1, t2⟩ := cell3 hb4
        refine bodyPost_ret (v := .agg #[.int .i64 37, .slice none 0 0, .int .i64 (k : Int)]) ?_ rfl ?_
        · simp [results, Tryz.f29, go_sem, t0, t1, t2]
        exact CheckR.lists hg4 HE2.out (by decide)
      have d1' : ¬ (256 : Int) < (n0.size : Int) := by omega
      by_cases d2 : 256 < n1.size
      · have d2' : (256 : Int) < (n1.size : Int) := by omega
        have hnb : nb = true := by rw [HBk.out]; simp [d2]
        have HE2 := hidM (HE1.out hnb)
        clear HE1 HM HBk
        go_wp2_with fail
        obtain ⟨hb4, hg4⟩ := HFN.out _ rfl
        obtain ⟨t0, t1, t2⟩ := cell3 hb4
        refine bodyPost_ret (v := .agg #[.int .i64 37, .slice none 0 0, .int .i64 (k : Int)]) ?_ rfl ?_
        · simp [results, Tryz.f29, go_sem, t0, t1, t2]
        exact CheckR.lists hg4 HE2.out (by decide)
      have d2' : ¬ (256 : Int) < (n1.size : Int) := by omega
      have hnb : nb = false := by rw [HBk.out]; simp; omega
      have HM2 := hidM (HM.out hnb)
      clear HE1 HM HBk
      go_wp2_with fail
      go_roundw
      case rel => exact ⟨k + 1, by omega, by simp, HW.out.1.alloc _, HBX.out _, HM2.out, HAx.out _⟩
      case measure => simp [intOf]; omega
    have HE1 : Hid (E = (0, 0)) := by
      have e := idx_good (l := l) fun i hi => HK.out.2.2.1 i hi (by have := HL.out; omega)
      show _ = _
      rw [HE.out]; unfold listsE
      rw [if_neg HC.out.1, if_neg (by have := HC.out.2; have := HL.out; omega), if_neg e]
    have hkL : k = L := by omega
    subst hkL
    have a0 : wr.cell? ⟨w.heap.size, 0, none⟩ = some (.slice fo nf cf) := by simp [World.cell?, HK.out.2.2.2]
    have hgrow : Calls Tryz.prog 56 #[.slice fo nf cf, .slice none 0 0, .bool false, .slice none 0 0] wr (GrowR S wr (.slice none 0 0) N) := by
      have h := grow_any S D wr fo none none cf 0 0 fs [] false [] (HRow.out.kept fun b hb => HK.out.1.block b (HSS.out b hb) id) (by have := HNF.out; omega) (by simp) (World.ownsRow_nil _ _ _ _) (OutAt.nil S wr) (by simp) (fun b hb => ⟨by have := HSS.out b hb; have := HK.out.1.size; omega, by simp [Value.ownBlock]⟩)
      rw [← HNF.out, ← HNN.out] at h
      exact h
    have HGr := hidM hgrow
    have HW := hidM (And.intro HK.out.1 HK.out.2.1)
    clear hgrow HK HE HL HC hk hlt
    go_wp2_with (go_at_call 56; refine Hid.out ?_)
    unfold Hid
    refine Calls.mono HGr.out ?_
    rintro e w2 ⟨vo, vc, rfl, hI⟩
    have HG2 : Hid (Gr wr w2) := hI.k.mono fun _ _ h => by simp [Value.ownBlock] at h
    have HO2 : Hid (OutAt S w2 (.slice vo N.length vc) N ∧ ∀ b, S b → b < w2.heap.size ∧ (Value.slice vo N.length vc).ownBlock ≠ some b) := ⟨hI.at_, fun b hb => by
      have h1 := HSS.out b hb
      have h2 := HW.out.1.size
      have h3 := HG2.out.size
      refine ⟨by omega, fun e => ?_⟩
      rcases hI.own with h | h
      · rw [h] at e; simp [Value.ownBlock] at e
      have := h b e; omega⟩
    have HB2 : Hid (w2.heap[B]? = some (.cells #[.int .i64 0, .slice none 0 0, .int .i64 0] 46) ∧ Gr w w2) := ⟨(HG2.out.block _ (lt_of_heap HW.out.2) id).trans HW.out.2, HW.out.1.trans HG2.out (fun _ _ h => h)⟩
    have hn257 : N.length ≤ 257 := by rw [HNN.out]; exact grown_le _ _
    clear HGr HG2 HW hI a0
    obtain ⟨n, hn⟩ : ∃ n, n = N.length := ⟨_, rfl⟩
    rw [← hn] at hn257 HO2 ⊢
    have Hn := hidM hn
    clear hn
    go_wp2
    go_loopw [44] (fun p wr => ∃ j : Nat, j ≤ n ∧ p = .int .i64 (j : Int) ∧ Hid (Gr w2 wr ∧ AllR (N.take j))) (fun p _ => n - (intOf p).toNat)
    case atStart => exact ⟨0, by omega, rfl, Keeps.refl _ _, by simpa using AllR.nil⟩
    case round =>
      obtain ⟨j, hj, rfl, HJ⟩ := hrel
      have hbx : wr.heap[B]? = some (.cells #[.int .i64 0, .slice none 0 0, .int .i64 0] 46) := (HJ.out.1.block _ (lt_of_heap HB2.out.1) id).trans HB2.out.1
      have hgw : Gr w wr := HB2.out.2.trans HJ.out.1 (fun _ _ h => h)
      by_cases hlt : j < n
      · have hjN : j < N.length := by have := Hn.out; omega
        have hltI : (j : Int) < (n : Int) := by omega
        have hO : OutAt S wr (.slice vo n vc) N := HO2.out.1.keeps HJ.out.1 HO2.out.2
        have hwr : Calls Tryz.prog 57 #[.slice vo n vc, .int .i64 (j : Int)] wr fun e w' => e = .returned (.int .i64 (wrongE N[j] j (tkL (N.take j)))) ∧ Gr wr w' := by
          have hO' := hO
          rw [Hn.out] at hO'
          have h := wrongR_any S vo vc N j hjN (by rw [← Hn.out]; exact hn257) wr hO' HJ.out.2 (fun b hb => by have := HSS.out b hb; have := hgw.size; omega)
          rw [← Hn.out] at h
          exact h
        obtain ⟨z, hz⟩ : ∃ z, z = wrongE N[j] j (tkL (N.take j)) := ⟨_, rfl⟩
        rw [← hz] at hwr
        have hO' := hO
        rw [Hn.out] at hO'
        obtain ⟨g, rfl, hnvc, hten⟩ := hO'.ten (by omega)
        obtain ⟨wb, wc, fo', fc', ao', ca', t, hnode⟩ := hten j hjN
        have HT := hidM (And.intro t.c0 hnode.way)
        have HZ := hidM hz
        have HH := hidM (And.intro hbx hgw)
        have HJ1 := hidM HJ.out
        clear hten t hnode hO hO' hz hbx hgw HJ
        by_cases hz0 : z = 0
        · subst hz0
          have HA : Hid (AllR (N.take (j + 1))) := AllR.next hjN HJ1.out.2 HZ.out.symm
          go_wp2_with (go_at_call 57; refine Calls.mono hwr ?_; rintro e w3 ⟨rfl, hg3⟩)
          go_roundw
          case rel => exact ⟨j + 1, by omega, by simp, HJ1.out.1.trans hg3 (fun _ _ h => h), HA.out⟩
          case measure => simp [intOf]; omega
        have hzb := beqF hz0
        go_wp2_with (go_at_call 57; refine Calls.mono hwr ?_; rintro e w3 ⟨rfl, hg3⟩; have d0 := hg3.cell' HT.out.1 id; have hb3 := (hg3.block _ (lt_of_heap HH.out.1) id).trans HH.out.1; obtain ⟨y0, y1, y2⟩ := cell3 hb3; have y3 := frz hb3 0; have y4 := frz hb3 1; have y5 := frz hb3 2; have HB3 := hidM (And.intro hb3 hg3); clear hb3 hg3)
        obtain ⟨hb3, hg3⟩ := HB3.out
        have hb4 := setc (j := 2) (setc (j := 1) (setc (j := 0) hb3 (.int .i64 z)) (.slice (some ⟨wb, 0, none⟩) N[j].path.length wc)) (.int .i64 0)
        have k1 : Keeps w3 _ (fun b => b = B) := keep1 (j := 2) (keep1 (j := 1) (keep1 (j := 0) (Keeps.refl w3 (fun b => b = B)) (.int .i64 z)) (.slice (some ⟨wb, 0, none⟩) N[j].path.length wc)) (.int .i64 0)
        obtain ⟨v0, v1, v2⟩ := cell3 (hb4.trans (by simp : _ = some (Obj.cells #[.int .i64 z, .slice (some ⟨wb, 0, none⟩) N[j].path.length wc, .int .i64 0] 46 (0, 0))))
        have way3 := row_kp HT.out.2 fun q e => hg3.block q (own_lt HT.out.2 q e) id
        have hlj : (N.take j).length = j := by rw [List.length_take]; omega
        refine bodyPost_ret (v := .agg #[.int .i64 z, .slice (some ⟨wb, 0, none⟩) N[j].path.length wc, .int .i64 0]) ?_ rfl ?_
        · simp [results, Tryz.f29, go_sem, v0, v1, v2]
        refine ⟨(HH.out.2.trans hg3 (fun _ _ h => h)).trans (T := fun b => b = B) k1 (fun j hj h => by have := HB.out; omega), .inr (.inr ⟨by rw [HE1.out], N.take j, N[j], some ⟨wb, 0, none⟩, wc, ?_, HJ1.out.2, ?_, ?_, ?_⟩)⟩
        · rw [← List.take_succ_eq_append_getElem hjN]; exact List.take_prefix _ _
        · rw [hlj, ← HZ.out]; exact hz0
        · rw [hlj, ← HZ.out]; rfl
        exact row_kp way3 fun q e => k1.block q (own_lt way3 q e) fun h => row_ne_box way3 hb3 (by decide) (by rw [e, h])
      have hjn : j = n := by omega
      have hjI : ¬ (j : Int) < (n : Int) := by omega
      have HA : Hid (AllR N) := by
        have h := HJ.out.2
        rw [hjn, Hn.out, List.take_length] at h
        exact h
      obtain ⟨y0, y1, y2⟩ := cell3 hbx
      have y3 := frz hbx 0
      have y4 := frz hbx 1
      have y5 := frz hbx 2
      have fin : ∀ W4, W4 = ((wr.setCell ⟨B, 0, none⟩ (.int .i64 0)).setCell ⟨B, 1, none⟩ (.slice none 0 0)).setCell ⟨B, 2, none⟩ (.int .i64 0) → W4.heap[B]? = some (.cells #[.int .i64 0, .slice none 0 0, .int .i64 0] 46) ∧ Gr w W4 := by
        intro W4 e
        refine ⟨?_, ?_⟩
        · rw [e, setc (j := 2) (setc (j := 1) (setc (j := 0) hbx _) _) _]; simp
        rw [e]
        have k1 : Keeps wr _ (fun b => b = B) := keep1 (j := 2) (keep1 (j := 1) (keep1 (j := 0) (Keeps.refl wr (fun b => b = B)) (.int .i64 0)) (.slice none 0 0)) (.int .i64 0)
        exact hgw.trans (T := fun b => b = B) k1 (fun j hj h => by have := HB.out; omega)
      have HFN : Hid _ := fin
      clear fin HJ hgw hbx
      go_wp2_with fail
      obtain ⟨hb4, hg4⟩ := HFN.out _ rfl
      obtain ⟨t0, t1, t2⟩ := cell3 hb4
      refine bodyPost_ret (v := .agg #[.int .i64 0, .slice none 0 0, .int .i64 0]) ?_ rfl ?_
      · simp [results, Tryz.f29, go_sem, t0, t1, t2]
      exact ⟨hg4, .inr (.inl ⟨by rw [HE1.out], HA.out, rfl⟩)⟩
theorem checkR_fault {S : Nat → Prop} {D : Nat} {fo no : Option Addr} {cf cn : Nat} {fs : List FT} {ns : List (ByteArray × ByteArray)} {w : World} (hr : RowAt S w D fo fs) (hcf : fs.length ≤ cf) (hS : ∀ b, S b → b < w.heap.size) (hn : NotesAt w no ns) :
    ∀ W, Gr w W → Calls Tryz.prog 29 #[.agg #[.slice fo fs.length cf, .slice no ns.length cn]] W fun e w' => ∃ er vo vn vc tt, e = .returned (.agg #[.int .i64 er, .slice vo vn vc, .int .i64 tt]) ∧ Gr W w' ∧ FaultQ (listsE fs.length ns) (grown [] (nodesC D fs [] false)) er vo vn vc tt w' := by
  intro W g
  refine Calls.mono (checkR_any S D fo no fs.length cf cn fs ns W rfl (hr.kept fun b hb => g.block b (hS b hb) id) hcf (fun b hb => by have := hS b hb; have := g.size; omega) (hn.gr g)) ?_
  rintro e w' ⟨hg, h | h | h⟩
  · obtain ⟨h1, rfl⟩ := h
    exact ⟨_, none, 0, 0, _, rfl, hg, [], rfl, .inl ⟨h1, rfl, rfl, rfl⟩, World.ownsRow_nil _ _ _ _⟩
  · obtain ⟨h1, h2, rfl⟩ := h
    exact ⟨0, none, 0, 0, 0, rfl, hg, [], rfl, .inr (.inl ⟨h1, h2, rfl, rfl, rfl⟩), World.ownsRow_nil _ _ _ _⟩
  obtain ⟨h1, L, x, vo, vc, h2, h3, h4, rfl, h5⟩ := h
  exact ⟨_, vo, _, vc, 0, rfl, hg, x.path, rfl, .inr (.inr ⟨h1, L, x, h2, h3, h4, rfl, rfl, rfl⟩), h5⟩
def CutR (w : World) (Q : Int → Option Addr → Nat → Nat → Int → World → Prop) (e : Ending) (w' : World) : Prop :=
  ∃ er vo vn vc tt A vo' vn' vc', Q er vo vn vc tt A ∧ e = .returned (.agg #[.int .i64 er, .slice vo' vn' vc', .int .i64 tt]) ∧ Gr w w' ∧ (∀ q c, q < A.heap.size → A.heap[q]? = some (.cells c 3) → w'.heap[q]? = A.heap[q]?) ∧
    ((vn = 0 ∧ vo' = vo ∧ vn' = vn ∧ vc' = vc) ∨ (0 < vn ∧ ∃ g, vo = some ⟨g, 0, none⟩ ∧ vn' = vn - 1 ∧ (1 < vn → vo' = some ⟨g, 1, none⟩)))
theorem checkFieldR_walk (f0 : ByteArray) (f1 : Bool) (f2 f3 f4 f5 : Int) (ao : Option Addr) (f6 ca : Nat) (w : World) (Q : Int → Option Addr → Nat → Nat → Int → World → Prop)
    (hck : ∀ W g, Gr w W → w.heap.size ≤ g → W.heap[g]? = some (.cells #[.string f0, .bool f1, .int .i64 f2, .int .i64 f3, .int .i64 f4, .int .i64 f5, .slice ao f6 ca] 37) → Calls Tryz.prog 29 #[.agg #[.slice (some ⟨g, 0, none⟩) 1 1, .slice none 0 0]] W fun e w' => ∃ er vo vn vc tt, e = .returned (.agg #[.int .i64 er, .slice vo vn vc, .int .i64 tt]) ∧ Gr W w' ∧ Q er vo vn vc tt w')
    (hpos : ∀ er vo vn vc tt A, Q er vo vn vc tt A → vn ≤ vc ∧ (0 < vn → ∃ g, vo = some ⟨g, 0, none⟩)) :
    Calls Tryz.prog 36 #[.agg #[.string f0, .bool f1, .int .i64 f2, .int .i64 f3, .int .i64 f4, .int .i64 f5, .slice ao f6 ca]] w (CutR w Q) := by
  have HC := hidM hck
  have HP := hidM hpos
  clear hck hpos
  obtain ⟨W0, hW0⟩ : ∃ W0, (w.alloc (.cells #[.string f0, .bool f1, .int .i64 f2, .int .i64 f3, .int .i64 f4, .int .i64 f5, .slice ao f6 ca] 37)).alloc (.cells #[.int .i64 0, .slice none 0 0, .int .i64 0] 46) = W0 := ⟨_, rfl⟩
  have g0 : Gr w W0 := by rw [← hW0]; exact (gr_alloc w _).alloc _
  have r0 : W0.heap[w.heap.size + 1]? = some (.cells #[.int .i64 0, .slice none 0 0, .int .i64 0] 46) := by
    have := World.alloc_heap_new (w.alloc (.cells #[.string f0, .bool f1, .int .i64 f2, .int .i64 f3, .int .i64 f4, .int .i64 f5, .slice ao f6 ca] 37)) (.cells #[.int .i64 0, .slice none 0 0, .int .i64 0] 46)
    rw [World.size_alloc] at this
    rw [← hW0]
    exact this
  have x0 : W0.heap[w.heap.size]? = some (.cells #[.string f0, .bool f1, .int .i64 f2, .int .i64 f3, .int .i64 f4, .int .i64 f5, .slice ao f6 ca] 37) := by
    rw [← hW0]; exact (Below.heap_alloc _ _ _ (by simp)).trans (World.alloc_heap_new w _)
  obtain ⟨v0, v1, v2, v3, v4, v5, v6⟩ := cell7 x0
  simp only [Nat.zero_add] at v1 v2 v3 v4 v5 v6
  have H0 := hidM (And.intro g0 r0)
  clear g0 r0 x0
  go_enter Tryz.func36, Tryz.ntmps36
  obtain ⟨W1, hW1⟩ : ∃ W1, W0.alloc (.cells #[.string f0, .bool f1, .int .i64 f2, .int .i64 f3, .int .i64 f4, .int .i64 f5, .slice ao f6 ca] 37) = W1 := ⟨_, rfl⟩
  have hx : W1.heap[W0.heap.size]? = some (.cells #[.string f0, .bool f1, .int .i64 f2, .int .i64 f3, .int .i64 f4, .int .i64 f5, .slice ao f6 ca] 37) := by rw [← hW1]; exact World.alloc_heap_new W0 _
  have g1 : Gr W0 W1 := by rw [← hW1]; exact gr_alloc W0 _
  have HA := HC.out W1 W0.heap.size (H0.out.1.trans g1 (fun _ _ h => h)) (by have := H0.out.1.size; omega) hx
  have H1 : Hid (Gr w W1 ∧ W1.heap[w.heap.size + 1]? = some (.cells #[.int .i64 0, .slice none 0 0, .int .i64 0] 46)) := ⟨H0.out.1.trans g1 (fun _ _ h => h), (g1.block _ (lt_of_heap H0.out.2) id).trans H0.out.2⟩
  have HCA := hidM HA
  clear HA HC H0 g1 hx
  go_wp2_with (go_at_call 29; refine Hid.out ?_)
  unfold Hid
  refine Calls.mono HCA.out ?_
  rintro e A ⟨er, vo, vn, vc, tt, rfl, gA, hq⟩
  obtain ⟨p1, p4⟩ := HP.out _ _ _ _ _ _ hq
  obtain ⟨W2, hW2⟩ : ∃ W2, A.alloc (.cells #[.int .i64 er, .slice vo vn vc, .int .i64 tt] 46) = W2 := ⟨_, rfl⟩
  have x2 : W2.heap[A.heap.size]? = some (.cells #[.int .i64 er, .slice vo vn vc, .int .i64 tt] 46) := by rw [← hW2]; exact World.alloc_heap_new A _
  have gA2 : Gr A W2 := by rw [← hW2]; exact gr_alloc A _
  have rA : A.heap[w.heap.size + 1]? = some (.cells #[.int .i64 0, .slice none 0 0, .int .i64 0] 46) := (gA.block _ (lt_of_heap H1.out.2) id).trans H1.out.2
  have r2 : W2.heap[w.heap.size + 1]? = some (.cells #[.int .i64 0, .slice none 0 0, .int .i64 0] 46) := (gA2.block _ (lt_of_heap rA) id).trans rA
  have hXR : A.heap.size ≠ w.heap.size + 1 := by have := lt_of_heap rA; omega
  have gw2 : Gr w W2 := (H1.out.1.trans gA (fun _ _ h => h)).trans gA2 (fun _ _ h => h)
  obtain ⟨c0, c1, c2⟩ := cell3 x2
  obtain ⟨y0, y1, y2⟩ := cell3 r2
  have z1 := frz x2 1
  have y3 := frz r2 0
  have y4 := frz r2 1
  have y5 := frz r2 2
  clear hW0 hW1 v0 v1 v2 v3 v4 v5 v6
  by_cases he : vn = 0
  · have HV := hidM he
    have hvI : ¬ (0 : Int) < (vn : Int) := by omega
    clear he
    have e3 := setc (j := 2) (setc (j := 1) (setc (j := 0) r2 (.int .i64 er)) (.slice vo vn vc)) (.int .i64 tt)
    have k3 : Keeps W2 _ (fun b => b = w.heap.size + 1) := keep1 (j := 2) (keep1 (j := 1) (keep1 (j := 0) (Keeps.refl W2 (fun b => b = w.heap.size + 1)) (.int .i64 er)) (.slice vo vn vc)) (.int .i64 tt)
    have HE := hidM (And.intro e3 (And.intro k3 (And.intro gw2 (And.intro gA2 (And.intro rA hq)))))
    clear e3 k3 gw2 gA2 rA hq gA x2 r2 z1 p1 p4 HP HCA H1
    go_wp2_with fail
    obtain ⟨e3, k3, gw2, gA2, rA, hq⟩ := HE.out
    obtain ⟨u0, u1, u2⟩ := cell3 (e3.trans (by simp : _ = some (Obj.cells #[.int .i64 er, .slice vo vn vc, .int .i64 tt] 46 (0, 0))))
    refine bodyPost_ret (v := .agg #[.int .i64 er, .slice vo vn vc, .int .i64 tt]) ?_ rfl ⟨er, vo, vn, vc, tt, A, vo, vn, vc, hq, rfl, gw2.trans k3 (fun j hj h => by omega), ?_, .inl ⟨HV.out, rfl, rfl, rfl⟩⟩
    · simp [results, Tryz.f36, go_sem, u0, u1, u2]
    intro q c hql hqc
    refine (k3.block q (by have := gA2.size; omega) fun h => ?_).trans (gA2.block q hql id)
    rw [h, rA] at hqc
    simp at hqc
  have hvp : 0 < vn := by omega
  obtain ⟨g', rfl⟩ := p4 hvp
  have hvI0 : (0 : Int) < (vn : Int) := by omega
  have hvI : (1 : Int) ≤ (vn : Int) := by omega
  have hvI2 : (vn : Int) ≤ (vc : Int) := by omega
  have fin : Hid (∀ vo' vc' W5, (1 < vn → vo' = some ⟨g', 1, none⟩) → W5 = (((W2.setCell ⟨A.heap.size, 1, none⟩ (.slice vo' (vn - 1) vc')).setCell ⟨w.heap.size + 1, 0, none⟩ (.int .i64 er)).setCell ⟨w.heap.size + 1, 1, none⟩ (.slice vo' (vn - 1) vc')).setCell ⟨w.heap.size + 1, 2, none⟩ (.int .i64 tt) →
      W5.heap[w.heap.size + 1]? = some (.cells #[.int .i64 er, .slice vo' (vn - 1) vc', .int .i64 tt] 46) ∧ CutR w Q (.returned (.agg #[.int .i64 er, .slice vo' (vn - 1) vc', .int .i64 tt])) W5) := by
    intro vo' vc' W5 hv5 e
    have r3 : (W2.setCell ⟨A.heap.size, 1, none⟩ (.slice vo' (vn - 1) vc')).heap[w.heap.size + 1]? = some (.cells #[.int .i64 0, .slice none 0 0, .int .i64 0] 46) := (heap_setCell_other W2 ⟨A.heap.size, 1, none⟩ _ _ (Ne.symm hXR)).trans r2
    have e3 := setc (j := 2) (setc (j := 1) (setc (j := 0) r3 (.int .i64 er)) (.slice vo' (vn - 1) vc')) (.int .i64 tt)
    rw [← e] at e3
    have k3 : Keeps W2 W5 (fun b => b = A.heap.size ∨ b = w.heap.size + 1) := by
      rw [e]
      exact ((((Keeps.refl W2 _).setCell (p := ⟨A.heap.size, 1, none⟩) (fun _ => .inl rfl) _).setCell (p := ⟨w.heap.size + 1, 0, none⟩) (fun _ => .inr rfl) _).setCell (p := ⟨w.heap.size + 1, 1, none⟩) (fun _ => .inr rfl) _).setCell (p := ⟨w.heap.size + 1, 2, none⟩) (fun _ => .inr rfl) _
    refine ⟨e3.trans (by simp), er, _, vn, vc, tt, A, vo', vn - 1, vc', hq, rfl, gw2.trans k3 (fun j hj h => by have := lt_of_heap rA; have := (H1.out.1.trans gA (fun _ _ h => h)).size; omega), ?_, .inr ⟨hvp, g', rfl, rfl, hv5⟩⟩
    intro q c hql hqc
    refine (k3.block q (by have := gA2.size; omega) fun h => ?_).trans (gA2.block q hql id)
    rcases h with h | h
    · omega
    rw [h, rA] at hqc
    simp at hqc
  clear gw2 gA2 rA hq gA x2 r2 p4 HP HCA H1
  go_wp2_with fail
  case inl =>
    obtain ⟨e3, hcut⟩ := fin.out (some ⟨g', 0, none⟩) 0 _ (fun h => by omega) rfl
    obtain ⟨u0, u1, u2⟩ := cell3 e3
    refine bodyPost_ret (v := .agg #[.int .i64 er, .slice (some ⟨g', 0, none⟩) (vn - 1) 0, .int .i64 tt]) ?_ rfl hcut
    simp [results, Tryz.f36, go_sem, u0, u1, u2]
  case inr =>
    obtain ⟨e3, hcut⟩ := fin.out (some ⟨g', 1, none⟩) (vc - 1) _ (fun h => rfl) rfl
    obtain ⟨u0, u1, u2⟩ := cell3 e3
    refine bodyPost_ret (v := .agg #[.int .i64 er, .slice (some ⟨g', 1, none⟩) (vn - 1) (vc - 1), .int .i64 tt]) ?_ rfl hcut
    simp [results, Tryz.f36, go_sem, u0, u1, u2]
theorem ints_tail {W W' : World} {vo vo' : Option Addr} {vn vc : Nat} {p : List Nat} (h : W.ownsRow 0 3 1 (.slice vo vn vc) vn (ints p)) (hl : p.length = vn) (hk : ∀ q c, q < W.heap.size → W.heap[q]? = some (.cells c 3) → W'.heap[q]? = W.heap[q]?)
    (hv : ∃ g, vo = some ⟨g, 0, none⟩ ∧ (1 < vn → vo' = some ⟨g, 1, none⟩)) : IntsAt W' vo' p.tail := by
  intro hne
  have hlt : 1 < vn := by
    cases p with
    | nil => simp at hne
    | cons a t => cases t with
      | nil => simp at hne
      | cons b t => simp at hl; omega
  obtain ⟨g, rfl, hv⟩ := hv
  refine ⟨g, 1, hv hlt, fun j hj => ?_⟩
  have hg : W'.heap[g]? = W.heap[g]? := by
    rcases h.2 with ⟨e, _⟩ | ⟨g', cap, cur, e, _, hgg, _⟩
    · cases e
    cases e
    exact hk g cur (Array.getElem?_eq_some_iff.1 hgg).1 hgg
  have hj' : j + 1 < p.length := by simp at hj; omega
  rw [World.cell?_of_block (w := W) hg, h.cellAt (1 + j) (by omega)]
  simp [ints, Nat.add_comm 1 j, hj']
def FieldR (W : World) (N : List LS) (e : Ending) (w' : World) : Prop := ∃ er p vo vc tt, e = .returned (.agg #[.int .i64 er, .slice vo p.tail.length vc, .int .i64 tt]) ∧ Gr W w' ∧ FaultIs (0, 0) N er p tt ∧ IntsAt w' vo p.tail
theorem CutR.field {w w' : World} {N : List LS} {e : Ending} (h : CutR w (FaultQ (0, 0) N) e w') : FieldR w N e w' := by
  obtain ⟨er, vo, vn, vc, tt, A, vo', vn', vc', ⟨p, h1, h2, h3⟩, rfl, hg, hk, h⟩ := h
  rcases h with ⟨h0, rfl, rfl, rfl⟩ | ⟨hp, g, e1, rfl, e3⟩
  · obtain rfl : p = [] := List.eq_nil_of_length_eq_zero (by omega)
    subst h0
    exact ⟨er, [], vo', vc', tt, rfl, hg, h2, fun h => absurd rfl h⟩
  refine ⟨er, p, vo', vc', tt, ?_, hg, h2, ints_tail h3 h1 hk ⟨g, e1, e3⟩⟩
  rw [List.length_tail, h1]
theorem own_pos {W : World} {vo : Option Addr} {vn vc : Nat} {xs : List Value} (h : W.ownsRow 0 3 1 (.slice vo vn vc) vn xs) : vn ≤ vc ∧ (0 < vn → ∃ g, vo = some ⟨g, 0, none⟩) := by
  rcases h.2 with ⟨e, h0⟩ | ⟨g, cap, cur, e, _, _, h1, _⟩
  · subst h0; exact ⟨Nat.zero_le _, fun h => absurd h (Nat.lt_irrefl 0)⟩
  cases e; exact ⟨h1, fun _ => ⟨g, rfl⟩⟩
theorem notes_noneR (W : World) : NotesAt W none [] := ⟨by simp [big], fun h => absurd rfl h⟩
theorem checkFieldR_any (S : Nat → Prop) (d : Nat) (f : FT) (ao : Option Addr) (ca : Nat) (w : World) (hr : RowAt S w d ao f.kids) (hca : f.kids.length ≤ ca) (hS : ∀ b, S b → b < w.heap.size) :
    Calls Tryz.prog 36 #[.agg #[.string f.name, .bool f.nul, .int .i64 f.kind, .int .i64 f.width, .int .i64 f.id, .int .i64 f.index, .slice ao f.kids.length ca]] w (FieldR w (grown [] (nodesC (d + 1) [f] [] false))) := by
  refine Calls.mono (checkFieldR_walk _ _ _ _ _ _ _ _ _ w (FaultQ (0, 0) (grown [] (nodesC (d + 1) [f] [] false))) ?_ ?_) fun e w' h => h.field
  · intro W g gW hg hx
    have hrow := row_alone hx (hr.kept fun b h => gW.block b (hS b h) id) hca
    have h := checkR_fault (w := W) (fo := some ⟨g, 0, none⟩) (no := none) (cf := 1) (cn := 0) (fs := [f]) (ns := []) hrow (by simp) (fun c h => h.elim (fun h => Nat.lt_of_lt_of_le (hS c h) gW.size) fun h => by rw [h]; exact lt_of_heap hx) (notes_noneR W) W (Keeps.refl _ _)
    exact h
  rintro er vo vn vc tt A ⟨p, h1, h2, h3⟩
  exact own_pos h3
end Go.Proofs.YtkodgneneiledaaGreatDoor.Kit
