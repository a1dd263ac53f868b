import Derived.Test.YtknnoiomdngmfaaGreatDoorLG
import Derived.Test.YtknnoiomdngmfaaGreatDoorHB
import Derived.Test.YtknnoiomdngmfaaGreatDoorRows
import Derived.Test.YtknnoiomdngmfaaGreatDoorKitTwo
import Derived.ProofKit
import Derived.OpenShut
import Derived.ChangeOld
import Derived.Below
import Derived.Deep.Slices
import Derived.Lib.LaidTab
import Derived.Lib.LaidU8
import Derived.Deep.DeepHandedRow
set_option maxRecDepth 100000
set_option maxHeartbeats 4000000
namespace Go.Proofs.YtknnoiomdngmfaaGreatDoor.Kit
open Go.RowKit Go.Shelf Go.Deep
theorem idx_early {l : List FT} {nm : ByteArray} {i : Nat} (h : ∃ j fj, j < i ∧ l[j]? = some fj ∧ sEq fj.name nm = true) : idxOf l nm ≠ i := by
  obtain ⟨j, fj, hj, hl, hq⟩ := h
  intro e
  obtain ⟨hjl, rfl⟩ := List.getElem?_eq_some_iff.1 hl
  unfold idxOf at e
  split at e
  · rename_i hlt
    have e2 : l.findIdx (fun f => sEq f.name nm) = i := by omega
    have := List.not_of_lt_findIdx (p := fun f : FT => sEq f.name nm) (xs := l) (i := j) (by omega)
    simp [hq] at this
  omega
theorem sEq_self (a : ByteArray) : sEq a a = true := by simp [sEq]
theorem wrongR_any (S : Nat → Prop) (vo : Option Addr) (vc : Nat) (out : List LS) (k : Nat) (hk : k < out.length) (hlen : out.length ≤ 257) (w : World) (hO : OutAt S w (.slice vo out.length vc) out) (hA : AllR (out.take k)) (hS : ∀ b, S b → b < w.heap.size) :
    Calls Tryz.prog 76 #[.slice vo out.length vc, .int .i64 (k : Int)] w fun e w' => e = .returned (.int .i64 (wrongE out[k] k (tkL (out.take k)))) ∧ Gr w w' := by
  obtain ⟨g, rfl, hvc, hall⟩ := hO.ten (by omega)
  obtain ⟨wb, wc, fo, fc, ao, ca, ht, hn⟩ := hall k hk
  obtain ⟨D, hrow⟩ := hn.row
  obtain ⟨E, hkids⟩ := hn.kids
  have hix := hn.ix
  have hle := hn.le
  have hfe : out[k].list[out[k].idx]'hix = out[k].fld := by
    unfold LS.fld
    rw [List.getElem?_eq_getElem hix]
    rfl
  have hbig : out[k].list.length ≤ 1000000000000 := hrow.len
  unfold wrongE
  refine wrongR_walk g out.length vc k out[k].path.length wb wc out[k].fld fo fc ao out[k].idx ca out[k].inD out[k].list (fun j => (((out[j]?).map fun s => s.fld.kind).getD 0, ((out[j]?).map fun s => s.fld.id).getD 0)) _ _ w hk hlen hvc (by omega) (by omega) hkids.len ht.c0 ht.c1 ht.c2 ht.c3 ht.c4 ht.c5 ht.c6 ht.c7 ht.c8 ht.c9 ?_ idx_early ?_ ?_ ?_ ?_ ?_ ?_ ?_
  · intro j hj
    obtain ⟨b, o, e, _, hc⟩ := hrow.2 (fun e => by rw [e] at hix; simp at hix)
    obtain ⟨ao', ca', h1, _⟩ := hc j (by omega)
    exact ⟨b, o, _, ao', ca', e, h1, List.getElem?_eq_getElem (by omega)⟩
  · intro h
    refine idxOf_some hix (fun j hj hlt => h j _ hlt (List.getElem?_eq_getElem hj)) ?_
    rw [hfe]
    exact sEq_self _
  · intro j hj
    obtain ⟨wb', wc', fo', fc', ao', ca', h1, h2⟩ := hall j (by omega)
    exact ⟨out[j], wb', wc', fo', fc', ao', ca', h1, by simp [List.getElem?_eq_getElem (show j < out.length by omega)]⟩
  · rintro - - ⟨j, hj, h1, h2⟩
    have hjl : j < out.length := by omega
    simp only [List.getElem?_eq_getElem hjl, Option.map_some, Option.getD_some] at h1 h2
    unfold tkL
    rw [List.any_eq_true]
    refine ⟨out[j], ?_, by simp [h1, h2]⟩
    rw [List.mem_take_iff_getElem]
    exact ⟨j, by omega, rfl⟩
  · intro htab h19 h
    rw [Bool.eq_false_iff]
    intro ht
    unfold tkL at ht
    rw [List.any_eq_true] at ht
    obtain ⟨s, hs, hq⟩ := ht
    rw [List.mem_take_iff_getElem] at hs
    obtain ⟨j, hj, rfl⟩ := hs
    have hjl : j < out.length := by omega
    have hjk : j < k := by omega
    simp only [Bool.and_eq_true, decide_eq_true_eq] at hq
    refine h j hjk ?_
    simp only [List.getElem?_eq_getElem hjl, Option.map_some, Option.getD_some]
    refine ⟨hq.1, ?_⟩
    have h1 := hA j (by simp; omega)
    have h2 : wrongE out[j] j (tkL ((out.take k).take j)) = 0 := by simpa using h1
    unfold wrongE at h2
    have h3 := (tab_kids (wr_tab h2)).1 hq.1
    have h4 := (tab_kids htab).1 h19
    omega
  · exact fun W g' => shaped_any out[k].fld fo fc W hkids.len
  · exact fun htab W g' => nulls_any out[k].fld fo fc S E W (hkids.kept fun b hb => g'.block b (hS b hb) id) (tab_kids htab).2
  intro htab h19
  have hne := ((tab_kids htab).1 h19).1
  obtain ⟨b, o, e, hc⟩ := kids_cell hkids hne
  exact ⟨b, o, e, List.length_pos_iff.2 hne, hc⟩
end Go.Proofs.YtknnoiomdngmfaaGreatDoor.Kit
namespace Go.Proofs.YtknnoiomdngmfaaGreatDoor.Kit
open Go.RowKit Go.Shelf Go.Deep
set_option linter.unusedVariables false
attribute [local go_sem] run_store_func
def CheckR (w : World) (E : Int × Int) (N : List LS) (e : Ending) (w' : World) : Prop := Gr w w' ∧
  ((E.1 ≠ 0 ∧ e = .returned (fltV E.1 (.slice none 0 0) E.2)) ∨
   (E.1 = 0 ∧ AllR N ∧ e = .returned (fltV 0 (.slice none 0 0) 0)) ∨
   (E.1 = 0 ∧ ∃ L x vo vc, (L ++ [x]) <+: N ∧ AllR L ∧ wrongE x L.length (tkL L) ≠ 0 ∧ e = .returned (fltV (wrongE x L.length (tkL L)) (.slice vo x.path.length vc) 0) ∧
      w'.ownsRow 0 3 1 (.slice vo x.path.length vc) x.path.length (ints x.path)))
theorem CheckR.lists {w w' : World} {E : Int × Int} {N : List LS} {a b : Int} (g : Gr w w') (e : E = (a, b)) (ha : a ≠ 0) : CheckR w E N (.returned (.agg #[.int .i64 a, .slice none 0 0, .int .i64 b])) w' := by
  subst e
  exact ⟨g, .inl ⟨ha, rfl⟩⟩
theorem OutAt.nil (S : Nat → Prop) (W : World) : OutAt S W (.slice none 0 0) [] := ⟨[], World.ownsRow_nil W 0 88 10, fun j h => by simp at h⟩
theorem AllR.next {N : List LS} {j : Nat} (hj : j < N.length) (h : AllR (N.take j)) (hz : wrongE N[j] j (tkL (N.take j)) = 0) : AllR (N.take (j + 1)) := by
  rw [List.take_succ_eq_append_getElem hj]
  exact h.snoc (by rw [List.length_take, Nat.min_eq_left (by omega)]; exact hz)
theorem row_ne_box {W : World} {t n B : Nat} {v : Value} {xs : List Value} {c : Array Value} (h : W.ownsRow 0 3 1 v n xs) (hB : W.heap[B]? = some (.cells c t)) (ht : t ≠ 3) : v.ownBlock ≠ some B := fun e => by
  rcases h.2 with ⟨rfl, _⟩ | ⟨g, cap, cur, rfl, _, hg, _⟩
  · simp [Value.ownBlock] at e
  simp [Value.ownBlock] at e
  subst e
  rw [hg] at hB
  simp at hB
  exact ht hB.2.symm
theorem checkR_any (S : Nat → Prop) (D : Nat) (fo no : Option Addr) (nf cf cn : Nat) (fs : List FT) (l : List (ByteArray × ByteArray)) (w : World) (hnf : nf = fs.length) (hr : RowAt S w D fo fs) (hcf : nf ≤ cf) (hS : ∀ b, S b → b < w.heap.size) (hn : NotesAt w no l) :
    Calls Tryz.prog 50 #[.agg #[.slice fo nf cf, .slice no l.length cn]] w (CheckR w (listsE nf l) (grown [] (nodesC D fs [] false))) := by
  have HRow := hidM hr
  have HSS := hidM hS
  have HNF := hidM hnf
  clear hr hS hnf
  obtain ⟨N, hN⟩ : ∃ N, N = grown [] (nodesC D fs [] false) := ⟨_, rfl⟩
  rw [← hN]
  have HNN := hidM hN
  clear hN
  have HN : Hid _ := hn
  obtain ⟨E, hE⟩ : ∃ E, E = listsE nf l := ⟨_, rfl⟩
  rw [← hE]
  have HE : Hid _ := hE
  obtain ⟨L, hL⟩ : ∃ L, L = l.length := ⟨_, rfl⟩
  rw [← hL]
  have HL : Hid _ := hL
  clear hn hE hL
  go_enter Tryz.func50, Tryz.ntmps50
  have hbx : ∀ (x y z : Value), ((w.alloc (.cells #[.slice fo nf cf, .slice no L cn] 43)).alloc (.cells #[x, y, z] 60)).heap[w.heap.size + 1]? = some (.cells #[x, y, z] 60) := fun x y z => by
    have := World.alloc_heap_new (w.alloc (.cells #[.slice fo nf cf, .slice no L cn] 43)) (.cells #[x, y, z] 60)
    rw [World.size_alloc] at this
    exact this
  have HX : Hid _ := hbx
  have HG : Hid (∀ o o', Gr w ((w.alloc o).alloc o')) := fun o o' => (gr_alloc w o).alloc o'
  clear hbx
  by_cases c1 : 32 < nf
  · have c1' : (32 : Int) < (nf : Int) := by omega
    go_wp2
    obtain ⟨t0, t1, t2⟩ := cell3 (HX.out (.int .i64 34) (.slice none 0 0) (.int .i64 32))
    refine bodyPost_ret (v := .agg #[.int .i64 34, .slice none 0 0, .int .i64 32]) ?_ rfl ?_
    · simp [results, Tryz.f50, go_sem, t0, t1, t2]
    exact CheckR.lists (HG.out _ _) (by rw [HE.out]; simp [listsE, c1]) (by decide)
  have c1' : ¬ (32 : Int) < (nf : Int) := by omega
  by_cases c2 : 16 < L
  · have c2' : (16 : Int) < (L : Int) := by omega
    go_wp2
    obtain ⟨t0, t1, t2⟩ := cell3 (HX.out (.int .i64 34) (.slice none 0 0) (.int .i64 16))
    refine bodyPost_ret (v := .agg #[.int .i64 34, .slice none 0 0, .int .i64 16]) ?_ rfl ?_
    · simp [results, Tryz.f50, go_sem, t0, t1, t2]
    exact CheckR.lists (HG.out _ _) (by rw [HE.out]; have := HL.out; simp [listsE, c1, ← this, c2]) (by decide)
  have c2' : ¬ (16 : Int) < (L : Int) := by omega
  have HC : Hid (¬ 32 < nf ∧ ¬ 16 < L) := ⟨c1, c2⟩
  have hL16 : L ≤ 16 := by omega
  go_wp2
  have HA0 : Hid (((w.alloc (.cells #[.slice fo nf cf, .slice no L cn] 43)).alloc (.cells #[.int .i64 0, .slice none 0 0, .int .i64 0] 60)).heap[w.heap.size]? = some (.cells #[.slice fo nf cf, .slice no L cn] 43)) := (Below.heap_alloc _ _ _ (by simp)).trans (World.alloc_heap_new w _)
  have HX0 := hidM (HX.out (.int .i64 0) (.slice none 0 0) (.int .i64 0))
  have HG0 := hidM (HG.out (.cells #[.slice fo nf cf, .slice no L cn] 43) (.cells #[.int .i64 0, .slice none 0 0, .int .i64 0] 60))
  generalize ((w.alloc (.cells #[.slice fo nf cf, .slice no L cn] 43)).alloc (.cells #[.int .i64 0, .slice none 0 0, .int .i64 0] 60)) = W0 at *
  clear HX HG
  obtain ⟨B, hB⟩ : ∃ B, B = w.heap.size + 1 := ⟨_, rfl⟩
  rw [← hB] at HX0 ⊢
  have HB : Hid _ := hB
  clear hB
  go_loopw [21] (fun i wr => ∃ k : Nat, k ≤ L ∧ i = .int .i64 (k : Int) ∧ Hid (Gr w wr ∧ wr.heap[B]? = some (.cells #[.int .i64 0, .slice none 0 0, .int .i64 0] 60) ∧ (∀ i (h : i < l.length), i < k → noteBad l[i] = false) ∧ wr.heap[w.heap.size]? = some (.cells #[.slice fo nf cf, .slice no L cn] 43))) (fun i _ => L - (intOf i).toNat)
  case atStart => exact ⟨0, by omega, rfl, HG0.out, HX0.out, fun i h h0 => by omega, HA0.out⟩
  case round =>
    clear HX0 HG0 HA0
    obtain ⟨k, hk, rfl, HK⟩ := hrel
    by_cases hlt : k < L
    · have hl := HL.out
      have hkl : k < l.length := by omega
      obtain ⟨b, o, rfl, hcs⟩ := HN.out.2 (fun e => by rw [e] at hkl; simp at hkl)
      obtain ⟨g0, g1⟩ := hcs k hkl
      replace g0 := HK.out.1.cell' g0 (fun h => h)
      replace g1 := HK.out.1.cell' g1 (fun h => h)
      have HBk : Hid (noteBad l[k] = (decide (256 < l[k].1.size) || decide (256 < l[k].2.size))) := rfl
      have HE1 : Hid (noteBad l[k] = true → E = (37, (k : Int))) := fun hx => by
        have e := idx_bad hkl HK.out.2.2.1 hx
        rw [HE.out]; unfold listsE
        rw [if_neg HC.out.1, if_neg (by have := HC.out.2; omega), e, if_pos hkl]
      have HM : Hid (noteBad l[k] = false → ∀ i (h : i < l.length), i < k + 1 → noteBad l[i] = false) := fun hx i hi hlt => by
        by_cases e : i = k
        · subst e; exact hx
        exact HK.out.2.2.1 i hi (by omega)
      have HW : Hid (Gr w wr ∧ wr.heap[B]? = some (.cells #[.int .i64 0, .slice none 0 0, .int .i64 0] 60)) := ⟨HK.out.1, HK.out.2.1⟩
      have hbx : ∀ o, (wr.alloc o).heap[B]? = some (.cells #[.int .i64 0, .slice none 0 0, .int .i64 0] 60) := fun o => ((gr_alloc wr o).block _ (lt_of_heap HK.out.2.1) (fun h => h)).trans HK.out.2.1
      have y0 := fun o => (cell3 (hbx o)).1
      have y1 := fun o => (cell3 (hbx o)).2.1
      have y2 := fun o => (cell3 (hbx o)).2.2
      have y3 := fun o => frz (hbx o) 0
      have y4 := fun o => frz (hbx o) 1
      have y5 := fun o => frz (hbx o) 2
      have HBX : Hid _ := hbx
      have HAx := hidM (fun (o' : Obj) => ((gr_alloc wr o').block _ (lt_of_heap HK.out.2.2.2) (fun h => h)).trans HK.out.2.2.2)
      generalize noteBad l[k] = nb at HBk HE1 HM
      generalize l[k].1 = n0 at *
      generalize l[k].2 = n1 at *
      clear hcs hl hkl HK HN hbx
      have fin : ∀ W4, W4 = (((wr.alloc (.cells #[.string n0, .string n1] 110)).setCell ⟨B, 0, none⟩ (.int .i64 37)).setCell ⟨B, 1, none⟩ (.slice none 0 0)).setCell ⟨B, 2, none⟩ (.int .i64 (k : Int)) → W4.heap[B]? = some (.cells #[.int .i64 37, .slice none 0 0, .int .i64 (k : Int)] 60) ∧ Gr w W4 := by
        intro W4 e
        refine ⟨?_, ?_⟩
        · rw [e, setc (j := 2) (setc (j := 1) (setc (j := 0) (HBX.out _) _) _) _]; simp
        rw [e]
        have k1 : Keeps (wr.alloc (.cells #[.string n0, .string n1] 110)) _ (fun b => b = B) := keep1 (j := 2) (keep1 (j := 1) (keep1 (j := 0) (Keeps.refl (wr.alloc (.cells #[.string n0, .string n1] 110)) (fun b => b = B)) (.int .i64 37)) (.slice none 0 0)) (.int .i64 (k : Int))
        exact (HW.out.1.alloc _).trans (T := fun b => b = B) k1 (fun j hj h => by have := HB.out; omega)
      have HFN : Hid _ := fin
      clear fin
      by_cases d1 : 256 < n0.size
      · have d1' : (256 : Int) < (n0.size : Int) := by omega
        have hnb : nb = true := by rw [HBk.out]; simp [d1]
        have HE2 := hidM (HE1.out hnb)
        clear HE1 HM HBk
        go_wp2_with fail
        obtain ⟨hb4, hg4⟩ := HFN.out _ rfl
        obtain ⟨t0, t1, t2⟩ := cell3 hb4
        refine bodyPost_ret (v := .agg #[.int .i64 37, .slice none 0 0, .int .i64 (k : Int)]) ?_ rfl ?_
        · simp [results, Tryz.f50, go_sem, t0, t1, t2]
        exact CheckR.lists hg4 HE2.out (by decide)
      have d1' : ¬ (256 : Int) < (n0.size : Int) := by omega
      by_cases d2 : 256 < n1.size
      · have d2' : (256 : Int) < (n1.size : Int) := by omega
        have hnb : nb = true := by rw [HBk.out]; simp [d2]
        have HE2 := hidM (HE1.out hnb)
        clear HE1 HM HBk
        go_wp2_with fail
        obtain ⟨hb4, hg4⟩ := HFN.out _ rfl
        obtain ⟨t0, t1, t2⟩ := cell3 hb4
        refine bodyPost_ret (v := .agg #[.int .i64 37, .slice none 0 0, .int .i64 (k : Int)]) ?_ rfl ?_
        · simp [results, Tryz.f50, go_sem, t0, t1, t2]
        exact CheckR.lists hg4 HE2.out (by decide)
      have d2' : ¬ (256 : Int) < (n1.size : Int) := by omega
      have hnb : nb = false := by rw [HBk.out]; simp; omega
      have HM2 := hidM (HM.out hnb)
      clear HE1 HM HBk
      go_wp2_with fail
      go_roundw
      case rel => exact ⟨k + 1, by omega, by simp, HW.out.1.alloc _, HBX.out _, HM2.out, HAx.out _⟩
      case measure => simp [intOf]; omega
    have HE1 : Hid (E = (0, 0)) := by
      have e := idx_good (l := l) fun i hi => HK.out.2.2.1 i hi (by have := HL.out; omega)
      show _ = _
      rw [HE.out]; unfold listsE
      rw [if_neg HC.out.1, if_neg (by have := HC.out.2; have := HL.out; omega), if_neg e]
    have hkL : k = L := by omega
    subst hkL
    have a0 : wr.cell? ⟨w.heap.size, 0, none⟩ = some (.slice fo nf cf) := by simp [World.cell?, HK.out.2.2.2]
    have hgrow : Calls Tryz.prog 51 #[.slice fo nf cf, .slice none 0 0, .bool false, .slice none 0 0] wr (GrowR S wr (.slice none 0 0) N) := by
      have h := grow_any S D wr fo none none cf 0 0 fs [] false [] (HRow.out.kept fun b hb => HK.out.1.block b (HSS.out b hb) id) (by have := HNF.out; omega) (by simp) (World.ownsRow_nil _ _ _ _) (OutAt.nil S wr) (by simp) (fun b hb => ⟨by have := HSS.out b hb; have := HK.out.1.size; omega, by simp [Value.ownBlock]⟩)
      rw [← HNF.out, ← HNN.out] at h
      exact h
    have HGr := hidM hgrow
    have HW := hidM (And.intro HK.out.1 HK.out.2.1)
    clear hgrow HK HE HL HC hk hlt
    go_wp2_with (go_at_call 51; refine Hid.out ?_)
    unfold Hid
    refine Calls.mono HGr.out ?_
    rintro e w2 ⟨vo, vc, rfl, hI⟩
    have HG2 : Hid (Gr wr w2) := hI.k.mono fun _ _ h => by simp [Value.ownBlock] at h
    have HO2 : Hid (OutAt S w2 (.slice vo N.length vc) N ∧ ∀ b, S b → b < w2.heap.size ∧ (Value.slice vo N.length vc).ownBlock ≠ some b) := ⟨hI.at_, fun b hb => by
      have h1 := HSS.out b hb
      have h2 := HW.out.1.size
      have h3 := HG2.out.size
      refine ⟨by omega, fun e => ?_⟩
      rcases hI.own with h | h
      · rw [h] at e; simp [Value.ownBlock] at e
      have := h b e; omega⟩
    have HB2 : Hid (w2.heap[B]? = some (.cells #[.int .i64 0, .slice none 0 0, .int .i64 0] 60) ∧ Gr w w2) := ⟨(HG2.out.block _ (lt_of_heap HW.out.2) id).trans HW.out.2, HW.out.1.tr HG2.out⟩
    have hn257 : N.length ≤ 257 := by rw [HNN.out]; exact grown_le _ _
    clear HGr HG2 HW hI a0
    obtain ⟨n, hn⟩ : ∃ n, n = N.length := ⟨_, rfl⟩
    rw [← hn] at hn257 HO2 ⊢
    have Hn := hidM hn
    clear hn
    go_wp2
    go_loopw [44] (fun p wr => ∃ j : Nat, j ≤ n ∧ p = .int .i64 (j : Int) ∧ Hid (Gr w2 wr ∧ AllR (N.take j))) (fun p _ => n - (intOf p).toNat)
    case atStart => exact ⟨0, by omega, rfl, Keeps.refl _ _, by simpa using AllR.nil⟩
    case round =>
      obtain ⟨j, hj, rfl, HJ⟩ := hrel
      have hbx : wr.heap[B]? = some (.cells #[.int .i64 0, .slice none 0 0, .int .i64 0] 60) := (HJ.out.1.block _ (lt_of_heap HB2.out.1) id).trans HB2.out.1
      have hgw : Gr w wr := HB2.out.2.tr HJ.out.1
      by_cases hlt : j < n
      · have hjN : j < N.length := by have := Hn.out; omega
        have hltI : (j : Int) < (n : Int) := by omega
        have hO : OutAt S wr (.slice vo n vc) N := HO2.out.1.keeps HJ.out.1 HO2.out.2
        have hwr : Calls Tryz.prog 76 #[.slice vo n vc, .int .i64 (j : Int)] wr fun e w' => e = .returned (.int .i64 (wrongE N[j] j (tkL (N.take j)))) ∧ Gr wr w' := by
          have hO' := hO
          rw [Hn.out] at hO'
          have h := wrongR_any S vo vc N j hjN (by rw [← Hn.out]; exact hn257) wr hO' HJ.out.2 (fun b hb => by have := HSS.out b hb; have := hgw.size; omega)
          rw [← Hn.out] at h
          exact h
        obtain ⟨z, hz⟩ : ∃ z, z = wrongE N[j] j (tkL (N.take j)) := ⟨_, rfl⟩
        rw [← hz] at hwr
        have hO' := hO
        rw [Hn.out] at hO'
        obtain ⟨g, rfl, hnvc, hten⟩ := hO'.ten (by omega)
        obtain ⟨wb, wc, fo', fc', ao', ca', t, hnode⟩ := hten j hjN
        have HT := hidM (And.intro t.c0 hnode.way)
        have HZ := hidM hz
        have HH := hidM (And.intro hbx hgw)
        have HJ1 := hidM HJ.out
        clear hten t hnode hO hO' hz hbx hgw HJ
        by_cases hz0 : z = 0
        · subst hz0
          have HA : Hid (AllR (N.take (j + 1))) := AllR.next hjN HJ1.out.2 HZ.out.symm
          go_wp2_with (go_at_call 76; refine Calls.mono hwr ?_; rintro e w3 ⟨rfl, hg3⟩)
          go_roundw
          case rel => exact ⟨j + 1, by omega, by simp, HJ1.out.1.tr hg3, HA.out⟩
          case measure => simp [intOf]; omega
        have hzb := beqF hz0
        go_wp2_with (go_at_call 76; refine Calls.mono hwr ?_; rintro e w3 ⟨rfl, hg3⟩; have d0 := hg3.cell' HT.out.1 id; have hb3 := (hg3.block _ (lt_of_heap HH.out.1) id).trans HH.out.1; obtain ⟨y0, y1, y2⟩ := cell3 hb3; have y3 := frz hb3 0; have y4 := frz hb3 1; have y5 := frz hb3 2; have HB3 := hidM (And.intro hb3 hg3); clear hb3 hg3)
        obtain ⟨hb3, hg3⟩ := HB3.out
        have hb4 := setc (j := 2) (setc (j := 1) (setc (j := 0) hb3 (.int .i64 z)) (.slice (some ⟨wb, 0, none⟩) N[j].path.length wc)) (.int .i64 0)
        have k1 : Keeps w3 _ (fun b => b = B) := keep1 (j := 2) (keep1 (j := 1) (keep1 (j := 0) (Keeps.refl w3 (fun b => b = B)) (.int .i64 z)) (.slice (some ⟨wb, 0, none⟩) N[j].path.length wc)) (.int .i64 0)
        obtain ⟨v0, v1, v2⟩ := cell3 (hb4.trans (by simp : _ = some (Obj.cells #[.int .i64 z, .slice (some ⟨wb, 0, none⟩) N[j].path.length wc, .int .i64 0] 60 (0, 0))))
        have way3 := row_kp HT.out.2 fun q e => hg3.block q (own_lt HT.out.2 q e) id
        have hlj : (N.take j).length = j := by rw [List.length_take]; omega
        refine bodyPost_ret (v := .agg #[.int .i64 z, .slice (some ⟨wb, 0, none⟩) N[j].path.length wc, .int .i64 0]) ?_ rfl ?_
        · simp [results, Tryz.f50, go_sem, v0, v1, v2]
        refine ⟨(HH.out.2.tr hg3).trans (T := fun b => b = B) k1 (fun j hj h => by have := HB.out; omega), .inr (.inr ⟨by rw [HE1.out], N.take j, N[j], some ⟨wb, 0, none⟩, wc, ?_, HJ1.out.2, ?_, ?_, ?_⟩)⟩
        · rw [← List.take_succ_eq_append_getElem hjN]; exact List.take_prefix _ _
        · rw [hlj, ← HZ.out]; exact hz0
        · rw [hlj, ← HZ.out]; rfl
        exact row_kp way3 fun q e => k1.block q (own_lt way3 q e) fun h => row_ne_box way3 hb3 (by decide) (by rw [e, h])
      have hjn : j = n := by omega
      have hjI : ¬ (j : Int) < (n : Int) := by omega
      have HA : Hid (AllR N) := by
        have h := HJ.out.2
        rw [hjn, Hn.out, List.take_length] at h
        exact h
      obtain ⟨y0, y1, y2⟩ := cell3 hbx
      have y3 := frz hbx 0
      have y4 := frz hbx 1
      have y5 := frz hbx 2
      have fin : ∀ W4, W4 = ((wr.setCell ⟨B, 0, none⟩ (.int .i64 0)).setCell ⟨B, 1, none⟩ (.slice none 0 0)).setCell ⟨B, 2, none⟩ (.int .i64 0) → W4.heap[B]? = some (.cells #[.int .i64 0, .slice none 0 0, .int .i64 0] 60) ∧ Gr w W4 := by
        intro W4 e
        refine ⟨?_, ?_⟩
        · rw [e, setc (j := 2) (setc (j := 1) (setc (j := 0) hbx _) _) _]; simp
        rw [e]
        have k1 : Keeps wr _ (fun b => b = B) := keep1 (j := 2) (keep1 (j := 1) (keep1 (j := 0) (Keeps.refl wr (fun b => b = B)) (.int .i64 0)) (.slice none 0 0)) (.int .i64 0)
        exact hgw.trans (T := fun b => b = B) k1 (fun j hj h => by have := HB.out; omega)
      have HFN : Hid _ := fin
      clear fin HJ hgw hbx
      go_wp2_with fail
      obtain ⟨hb4, hg4⟩ := HFN.out _ rfl
      obtain ⟨t0, t1, t2⟩ := cell3 hb4
      refine bodyPost_ret (v := .agg #[.int .i64 0, .slice none 0 0, .int .i64 0]) ?_ rfl ?_
      · simp [results, Tryz.f50, go_sem, t0, t1, t2]
      exact ⟨hg4, .inr (.inl ⟨by rw [HE1.out], HA.out, rfl⟩)⟩
end Go.Proofs.YtknnoiomdngmfaaGreatDoor.Kit
namespace Go.Proofs.YtknnoiomdngmfaaGreatDoor.Kit
open Go.RowKit Go.Shelf Go.Deep
def FaultIs (E : Int × Int) (N : List LS) (er : Int) (p : List Nat) (k : Int) : Prop :=
  (E.1 ≠ 0 ∧ er = E.1 ∧ p = [] ∧ k = E.2) ∨ (E.1 = 0 ∧ AllR N ∧ er = 0 ∧ p = [] ∧ k = 0) ∨
  (E.1 = 0 ∧ ∃ L x, (L ++ [x]) <+: N ∧ AllR L ∧ wrongE x L.length (tkL L) ≠ 0 ∧ er = wrongE x L.length (tkL L) ∧ p = x.path ∧ k = 0)
theorem FaultIs.one {E : Int × Int} {N : List LS} {er er' : Int} {p p' : List Nat} {k k' : Int} (h : FaultIs E N er p k) (h' : FaultIs E N er' p' k') : er = er' ∧ p = p' ∧ k = k' := by
  rcases h with ⟨a, rfl, rfl, rfl⟩ | ⟨a, b, rfl, rfl, rfl⟩ | ⟨a, L, x, h1, h2, h3, rfl, rfl, rfl⟩ <;> rcases h' with ⟨a', rfl, rfl, rfl⟩ | ⟨a', b', rfl, rfl, rfl⟩ | ⟨a', L', x', h1', h2', h3', rfl, rfl, rfl⟩
  · exact ⟨rfl, rfl, rfl⟩
  · exact absurd a' a
  · exact absurd a' a
  · exact absurd a a'
  · exact ⟨rfl, rfl, rfl⟩
  · exact absurd (b.pre h1') h3'
  · exact absurd a a'
  · exact absurd (b'.pre h1) h3
  obtain ⟨rfl, rfl⟩ := first_eq h1 h1' h2 h2' h3 h3'
  exact ⟨rfl, rfl, rfl⟩
theorem wrong_short {s : LS} {k : Nat} {t : Nat → Bool} (h : wrongE s k t = 0) : s.path.length ≤ 64 := by
  unfold wrongE wr at h
  split at h
  · omega
  omega
theorem AllR.short {l : List LS} (h : AllR l) : ∀ x ∈ l, x.path.length ≤ 64 := fun x hx => by
  obtain ⟨k, hk, rfl⟩ := List.mem_iff_getElem.1 hx
  exact wrong_short (h k hk)
theorem FaultIs.cut {E : Int × Int} {D : Nat} {fs : List FT} {er : Int} {p : List Nat} {k : Int} (h : FaultIs E (nodes D fs [] false) er p k) : FaultIs E (grown [] (nodesC D fs [] false)) er p k := by
  rcases h with h | ⟨a, b, h⟩ | ⟨a, L, x, h1, h2, h3, h4⟩
  · exact .inl h
  · refine .inr (.inl ⟨a, ?_, h⟩)
    have e := (cut_same D fs [] false 0 (by simp)).2 b.short
    rw [grown, List.nil_append, e, List.take_of_length_le (by have := b.len; omega)]
    exact b
  refine .inr (.inr ⟨a, L, x, ?_, h2, h3, h4⟩)
  have hl := h2.len
  have ht : (nodes D fs [] false).take (L.length + 1) = L ++ [x] := by
    obtain ⟨t, ht⟩ := h1
    rw [← ht, List.take_append_of_le_length (by simp)]
    exact List.take_of_length_le (by simp)
  have htL : (nodes D fs [] false).take L.length = L := by
    obtain ⟨t, ht⟩ := h1
    rw [← ht, List.append_assoc, List.take_left]
  have e := (cut_same D fs [] false L.length (by rw [htL]; exact h2.short)).1
  rw [ht] at e
  rw [e, grown, List.nil_append]
  exact List.take_prefix_take_left (by omega)
end Go.Proofs.YtknnoiomdngmfaaGreatDoor.Kit
namespace Go.Proofs.YtknnoiomdngmfaaGreatDoor.Kit
open Go.RowKit Go.Shelf Go.Deep
set_option linter.unusedVariables false
attribute [local go_sem] run_store_func
theorem check_walk2 (fo no : Option Addr) (nf cf nn cn : Nat) (Q : Int → Option Addr → Nat → Nat → Int → World → Prop) (hQ : ∀ er vo vn vc tt A B b c, Q er vo vn vc tt A → A.heap[b]? = some (.cells c 60) → Keeps A B (fun k => k = b) → Q er vo vn vc tt B) (w : World)
    (hl : ∀ W, Gr w W → Calls Tryz.prog 72 #[.agg #[.slice fo nf cf, .slice no nn cn]] W fun e w' => ∃ er vo vn vc tt k, e = .returned (.tuple #[.agg #[.int .i64 er, .slice vo vn vc, .int .i64 tt], .int .i64 k]) ∧ Gr W w' ∧ Q er vo vn vc tt w') :
    ∀ W, Gr w W → Calls Tryz.prog 44 #[.agg #[.slice fo nf cf, .slice no nn cn]] W fun e w' => ∃ er vo vn vc tt, e = .returned (.agg #[.int .i64 er, .slice vo vn vc, .int .i64 tt]) ∧ Gr W w' ∧ Q er vo vn vc tt w' := by
  intro W g
  have HL : Hid (∀ W', Gr W W' → Calls Tryz.prog 72 #[.agg #[.slice fo nf cf, .slice no nn cn]] W' fun e w' => ∃ er vo vn vc tt k, e = .returned (.tuple #[.agg #[.int .i64 er, .slice vo vn vc, .int .i64 tt], .int .i64 k]) ∧ Gr W' w' ∧ Q er vo vn vc tt w') := fun W' g' => hl W' (g.tr g')
  have HQ : Hid _ := hQ
  clear hl g hQ
  have hx2 : ((W.alloc (.cells #[.slice fo nf cf, .slice no nn cn] 43)).alloc (.cells #[.int .i64 0, .slice none 0 0, .int .i64 0] 60)).heap[W.heap.size + 1]? = some (.cells #[.int .i64 0, .slice none 0 0, .int .i64 0] 60) := by
    have := World.alloc_heap_new (W.alloc (.cells #[.slice fo nf cf, .slice no nn cn] 43)) (.cells #[.int .i64 0, .slice none 0 0, .int .i64 0] 60)
    rw [World.size_alloc] at this
    exact this
  have HG0 : Hid (Gr W ((W.alloc (.cells #[.slice fo nf cf, .slice no nn cn] 43)).alloc (.cells #[.int .i64 0, .slice none 0 0, .int .i64 0] 60))) := (gr_alloc W _).alloc _
  have HX := hidM hx2
  clear hx2
  go_enter Tryz.func44, Tryz.ntmps44
  go_wp2_with (go_at_call 72; refine Hid.out ?_)
  unfold Hid
  refine Calls.mono (HL.out _ HG0.out) ?_
  rintro e W1 ⟨er, vo, vn, vc, tt, k, rfl, hg1, hq⟩
  have hx3 := (hg1.block _ (lt_of_heap HX.out) (fun h => h)).trans HX.out
  have hx4 : (W1.alloc (.cells #[.int .i64 er, .slice vo vn vc, .int .i64 tt] 60)).heap[W.heap.size + 1]? = _ := ((gr_alloc W1 _).block _ (lt_of_heap hx3) (fun h => h)).trans hx3
  obtain ⟨y0, y1, y2⟩ := cell3 hx4
  have y3 := frz hx4 0
  have y4 := frz hx4 1
  have y5 := frz hx4 2
  have e0 := setc (j := 0) hx4 (.int .i64 er)
  have e1 := setc (j := 1) e0 (.slice vo vn vc)
  have e2 := setc (j := 2) e1 (.int .i64 tt)
  have k5 : Keeps (W1.alloc (.cells #[.int .i64 er, .slice vo vn vc, .int .i64 tt] 60)) _ (fun b => b = W.heap.size + 1) := keep1 (j := 2) (keep1 (j := 1) (keep1 (j := 0) (Keeps.refl (W1.alloc (.cells #[.int .i64 er, .slice vo vn vc, .int .i64 tt] 60)) (fun b => b = W.heap.size + 1)) (.int .i64 er)) (.slice vo vn vc)) (.int .i64 tt)
  have HE := hidM (And.intro e2 (And.intro k5 (And.intro hg1 (And.intro hq hx3))))
  clear hx3 hx4 e0 e1 e2 k5 hg1 hq
  go_wp2_with fail
  obtain ⟨e2, k5, hg1, hq, hx3⟩ := HE.out
  have hk : Keeps W1 _ (fun b => b = W.heap.size + 1) := (Keeps.trans (S := fun b => b = W.heap.size + 1) ((gr_alloc W1 _).mono fun _ _ h => h.elim) k5 (fun _ _ h => h))
  have hqe := HQ.out _ _ _ _ _ _ _ _ _ hq hx3 hk
  have hge := (HG0.out.tr hg1).trans hk (fun j hj h => by omega)
  obtain ⟨v0, v1, v2⟩ := cell3 (e2.trans (by simp : _ = some (Obj.cells #[.int .i64 er, .slice vo vn vc, .int .i64 tt] 60 (0, 0))))
  refine bodyPost_ret (v := .agg #[.int .i64 er, .slice vo vn vc, .int .i64 tt]) ?_ rfl ⟨er, vo, vn, vc, tt, rfl, hge, hqe⟩
  simp [results, Tryz.f44, go_sem, v0, v1, v2]
def FaultQ (E : Int × Int) (N : List LS) (er : Int) (vo : Option Addr) (vn vc : Nat) (k : Int) (W : World) : Prop := ∃ p : List Nat, p.length = vn ∧ FaultIs E N er p k ∧ W.ownsRow 0 3 1 (.slice vo vn vc) vn (ints p)
theorem FaultQ.kept (E : Int × Int) (N : List LS) (er : Int) (vo : Option Addr) (vn vc : Nat) (k : Int) (A B : World) (b : Nat) (c : Array Value) (h : FaultQ E N er vo vn vc k A) (hb : A.heap[b]? = some (.cells c 60)) (hk : Keeps A B (fun k => k = b)) : FaultQ E N er vo vn vc k B := by
  obtain ⟨p, h1, h2, h3⟩ := h
  exact ⟨p, h1, h2, row_kp h3 fun q e => hk.block q (own_lt h3 q e) fun h => row_ne_box h3 hb (by decide) (by rw [e, h])⟩
theorem check_fault {S : Nat → Prop} {D : Nat} {fo no : Option Addr} {cf cn : Nat} {fs : List FT} {ns : List (ByteArray × ByteArray)} {w : World} (hT : Tab w) (hr : RowAt S w D fo fs) (hcf : fs.length ≤ cf) (hD : D ≤ big) (hS : ∀ b, S b → b < w.heap.size) (hn : NotesAt w no ns) :
    ∀ W, Gr w W → Calls Tryz.prog 44 #[.agg #[.slice fo fs.length cf, .slice no ns.length cn]] W fun e w' => ∃ er vo vn vc tt, e = .returned (.agg #[.int .i64 er, .slice vo vn vc, .int .i64 tt]) ∧ Gr W w' ∧ FaultQ (listsE fs.length ns) (nodes D fs [] false) er vo vn vc tt w' := by
  refine check_walk2 fo no fs.length cf ns.length cn _ (FaultQ.kept _ _) w fun W g => ?_
  refine Calls.mono (look_walk S D fo no cf cn fs ns W (hT.gr g) (hr.kept fun b hb => g.block b (hS b hb) id) hcf hD (fun b hb => by have := hS b hb; have := g.size; omega) (hn.gr g)) ?_
  rintro e w' ⟨hg, h | h | h⟩
  · obtain ⟨h1, rfl⟩ := h
    exact ⟨_, none, 0, 0, _, 0, rfl, hg, [], rfl, .inl ⟨h1, rfl, rfl, rfl⟩, World.ownsRow_nil _ _ _ _⟩
  · obtain ⟨h1, h2, rfl⟩ := h
    exact ⟨0, none, 0, 0, 0, _, rfl, hg, [], rfl, .inr (.inl ⟨h1, h2, rfl, rfl, rfl⟩), World.ownsRow_nil _ _ _ _⟩
  obtain ⟨h1, L, x, vo, vc, h2, h3, h4, rfl, h5, h6⟩ := h
  exact ⟨_, vo, _, vc, 0, _, rfl, hg, x.path, rfl, .inr (.inr ⟨h1, L, x, h2, h3, h4, rfl, rfl, rfl⟩), h5⟩
theorem checkR_fault {S : Nat → Prop} {D : Nat} {fo no : Option Addr} {cf cn : Nat} {fs : List FT} {ns : List (ByteArray × ByteArray)} {w : World} (hr : RowAt S w D fo fs) (hcf : fs.length ≤ cf) (hS : ∀ b, S b → b < w.heap.size) (hn : NotesAt w no ns) :
    ∀ W, Gr w W → Calls Tryz.prog 50 #[.agg #[.slice fo fs.length cf, .slice no ns.length cn]] W fun e w' => ∃ er vo vn vc tt, e = .returned (.agg #[.int .i64 er, .slice vo vn vc, .int .i64 tt]) ∧ Gr W w' ∧ FaultQ (listsE fs.length ns) (grown [] (nodesC D fs [] false)) er vo vn vc tt w' := by
  intro W g
  refine Calls.mono (checkR_any S D fo no fs.length cf cn fs ns W rfl (hr.kept fun b hb => g.block b (hS b hb) id) hcf (fun b hb => by have := hS b hb; have := g.size; omega) (hn.gr g)) ?_
  rintro e w' ⟨hg, h | h | h⟩
  · obtain ⟨h1, rfl⟩ := h
    exact ⟨_, none, 0, 0, _, rfl, hg, [], rfl, .inl ⟨h1, rfl, rfl, rfl⟩, World.ownsRow_nil _ _ _ _⟩
  · obtain ⟨h1, h2, rfl⟩ := h
    exact ⟨0, none, 0, 0, 0, rfl, hg, [], rfl, .inr (.inl ⟨h1, h2, rfl, rfl, rfl⟩), World.ownsRow_nil _ _ _ _⟩
  obtain ⟨h1, L, x, vo, vc, h2, h3, h4, rfl, h5⟩ := h
  exact ⟨_, vo, _, vc, 0, rfl, hg, x.path, rfl, .inr (.inr ⟨h1, L, x, h2, h3, h4, rfl, rfl, rfl⟩), h5⟩
end Go.Proofs.YtknnoiomdngmfaaGreatDoor.Kit
namespace Go.Proofs.YtknnoiomdngmfaaGreatDoor.kindR
open Go.ChangeShapes Go.WideShapes Go.ChangeAt Go.RowKit Go.Deep
open Go.Proofs.YtknnoiomdngmfaaGreatDoor
set_option linter.unusedVariables false
def rowD (k : Nat) : DataW Unit := .agg [.lit (.string (Kit.wordK k)), .lit (.int .i64 (Kit.bytesK k)), .lit (.int .i64 (Kit.bufsK k)), .lit (.int .i64 (Kit.leastK k)), .lit (.int .i64 (Kit.mostK k))]
theorem laid_rows : (Rows.laid_colonnade_kind_kinds : DataW Unit) = .agg ((List.range 21).map rowD) := rfl
theorem cells85 : Tryz.prog.cellsOf 286 = 5 := by kernel_rfl
theorem cells86 : Tryz.prog.cellsOf 287 = 105 := by kernel_rfl
theorem cells3 : Tryz.prog.cellsOf 3 = 1 := by kernel_rfl
theorem cells9 : Tryz.prog.cellsOf 9 = 1 := by kernel_rfl
theorem gKinds : Tryz.prog.globalNamed "colonnade/kind.kinds" = some 0 := by kernel_rfl
theorem gKindsT : (Tryz.prog.globals[0]?).map (·.type) = some 287 := by kernel_rfl
theorem row_at {W : World} {fuel : Nat} {cs : List Value} {k : Nat} {p : List MemPlace} (h : DataW.trod (fun _ => ()) Tryz.prog W 0 (fun _ => true) false fuel 286 cs = some (rowD k, p)) :
    cs = [.string ⟨(Kit.wordK k).toArray⟩, .int .i64 (Kit.bytesK k), .int .i64 (Kit.bufsK k), .int .i64 (Kit.leastK k), .int .i64 (Kit.mostK k)] := by
  obtain ⟨xs, m, _, hd, hl, hxs, hf⟩ := DataW.trod_struct Tryz.underlying286 h
  rw [cells85] at hl
  obtain ⟨c0, c1, c2, c3, c4, rfl⟩ : ∃ c0 c1 c2 c3 c4, cs = [c0, c1, c2, c3, c4] := by
    match cs, hl with
    | [a, b, c, d, e], _ => exact ⟨a, b, c, d, e, rfl⟩
  obtain ⟨y0, y1, y2, y3, y4, rfl⟩ : ∃ y0 y1 y2 y3 y4, xs = [y0, y1, y2, y3, y4] := by
    match xs, (hxs.trans rfl : xs.length = 5) with
    | [a, b, c, d, e], _ => exact ⟨a, b, c, d, e, rfl⟩
  have f0 : DataW.trod (fun _ => ()) Tryz.prog W 0 (fun _ => true) false m 9 ((([c0, c1, c2, c3, c4] : List Value).drop 0).take (Tryz.prog.cellsOf 9)) = some y0 := hf 0 _ rfl
  have f1 : DataW.trod (fun _ => ()) Tryz.prog W 0 (fun _ => true) false m 3 ((([c0, c1, c2, c3, c4] : List Value).drop 1).take (Tryz.prog.cellsOf 3)) = some y1 := hf 1 _ rfl
  have f2 : DataW.trod (fun _ => ()) Tryz.prog W 0 (fun _ => true) false m 3 ((([c0, c1, c2, c3, c4] : List Value).drop 2).take (Tryz.prog.cellsOf 3)) = some y2 := hf 2 _ rfl
  have f3 : DataW.trod (fun _ => ()) Tryz.prog W 0 (fun _ => true) false m 3 ((([c0, c1, c2, c3, c4] : List Value).drop 3).take (Tryz.prog.cellsOf 3)) = some y3 := hf 3 _ rfl
  have f4 : DataW.trod (fun _ => ()) Tryz.prog W 0 (fun _ => true) false m 3 ((([c0, c1, c2, c3, c4] : List Value).drop 4).take (Tryz.prog.cellsOf 3)) = some y4 := hf 4 _ rfl
  rw [cells9] at f0
  rw [cells3] at f1 f2 f3 f4
  simp only [List.drop_zero, List.drop_succ_cons, List.take_succ_cons, List.take_zero] at f0 f1 f2 f3 f4
  obtain ⟨s, e0, g0, _⟩ := DataW.trod_string Tryz.underlying9 f0
  obtain ⟨k1, e1, g1, _⟩ := DataW.trod_int Tryz.underlying3 f1
  obtain ⟨k2, e2, g2, _⟩ := DataW.trod_int Tryz.underlying3 f2
  obtain ⟨k3, e3, g3, _⟩ := DataW.trod_int Tryz.underlying3 f3
  obtain ⟨k4, e4, g4, _⟩ := DataW.trod_int Tryz.underlying3 f4
  subst g0 g1 g2 g3 g4
  simp only [rowD, Prod.mk.injEq, DataW.agg.injEq, List.map_cons, List.map_nil, List.cons.injEq, DataW.lit.injEq, Lit.string.injEq, Lit.int.injEq, true_and, and_true] at hd
  obtain ⟨⟨h0, h1, h2, h3, h4⟩, _⟩ := hd
  simp only [List.cons.injEq, and_true] at e0 e1 e2 e3 e4
  rw [e0, e1, e2, e3, e4, h0, h1, h2, h3, h4]
theorem table {W : World} {L : List (String × DataW Unit)} (h : laidMet Tryz.prog L W) (hm : ("colonnade/kind.kinds", Rows.laid_colonnade_kind_kinds) ∈ L) : Kit.Tab W := by
  obtain ⟨g', t', cs, fuel, p, hg', ht', hvar, hd⟩ := Lib.laidMet.reads h hm
  obtain rfl := Option.some.inj (gKinds.symm.trans hg')
  obtain rfl := Option.some.inj (gKindsT.symm.trans ht')
  rw [laid_rows] at hd
  obtain ⟨xs, m, _, he, hl, hx, hf⟩ := DataW.trod_array Tryz.underlying287 hd
  rw [cells86] at hl
  rw [cells85] at hf
  simp only [Prod.mk.injEq, DataW.agg.injEq] at he
  have hcell := fun i => World.var?_cell gKinds hvar i
  have hsz : cs.size = 105 := by simpa using hl
  refine ⟨?_, fun k hk => ?_⟩
  · have := hcell 0
    rw [Array.getElem?_eq_getElem (by omega)] at this
    have := block_lt_of_cell this
    exact this
  have h1 := hf k hk
  rw [List.getElem?_eq_getElem (by omega)] at h1
  have h2 : (xs[k]'(by omega)).1 = rowD k := by
    have := congrArg (·[k]?) he.1
    simp only [List.getElem?_map, List.getElem?_range hk, Option.map_some] at this
    rw [List.getElem?_eq_getElem (by omega)] at this
    simpa using this.symm
  have h3 := row_at (k := k) (p := (xs[k]'(by omega)).2) (by rw [h1, ← h2])
  have h4 : ∀ j, j < 5 → cs[k * 5 + j]? = ([.string ⟨(Kit.wordK k).toArray⟩, .int .i64 (Kit.bytesK k), .int .i64 (Kit.bufsK k), .int .i64 (Kit.leastK k), .int .i64 (Kit.mostK k)] : List Value)[j]? := fun j hj => by
    rw [← h3, List.getElem?_take_of_lt hj, List.getElem?_drop, Array.getElem?_toList]
  exact ⟨(hcell _).trans (h4 0 (by decide)), (hcell _).trans (h4 1 (by decide)), (hcell _).trans (h4 2 (by decide)), (hcell _).trans (h4 3 (by decide)), (hcell _).trans (h4 4 (by decide))⟩
end Go.Proofs.YtknnoiomdngmfaaGreatDoor.kindR
