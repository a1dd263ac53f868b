import Derived.Test.YtdihbfjjddmbiaaGreatDoorFG
import Derived.Deep.AppendSrc
import Derived.Test.YtdihbfjjddmbiaaGreatDoorEA
set_option maxRecDepth 100000
set_option maxHeartbeats 4000000
namespace Go.Proofs.YtdihbfjjddmbiaaGreatDoor.Kit
open Go.RowKit Go.Shelf Go.Deep
set_option linter.unusedVariables false
attribute [local go_sem] run_store_func
def LS.idx (s : LS) : Nat := s.path.getLastD 0
def LS.fld (s : LS) : FT := (s.list[s.idx]?).getD default
def kid0 (f : FT) : Bool := (f.kids[0]?.map FT.nul).getD false
def wrongE (s : LS) (ahead : Nat) (t : Nat → Bool) : Int :=
  wr s.path.length ahead (nameB s.fld.name) (idxOf s.list s.fld.name) s.idx (tableB s.fld) (nullB s.fld) s.inD s.fld.kind (kid0 s.fld) (t s.fld.id.toNat)
theorem tab_kids {f : FT} (h : tableB f = true) : (f.kind = 19 → f.kids ≠ [] ∧ 0 ≤ f.id ∧ f.id < 32) ∧ (f.kind = 20 → f.kids ≠ []) := by
  unfold tableB dictB at h
  refine ⟨fun e => ?_, fun e => ?_⟩
  · rw [e] at h
    simp [leastK] at h
    refine ⟨fun e2 => ?_, h.2.2.1.1, h.2.2.1.2⟩
    rw [e2] at h
    simp at h
  rw [e] at h
  simp [leastK] at h
  intro e2
  rw [e2] at h
  simp at h
theorem wrong_any (x : Spot) (S O : Nat → Prop) (t : Nat → Bool) (ahead : Nat) (w : World) (hx : AtS S O x w) (hT : Tab w) (hS : ∀ b, S b → b < w.heap.size) :
    Calls Tryz.prog 68 #[spotV x, .int .i64 (ahead : Int), takV t] w fun e w' => e = .returned (.int .i64 (wrongE x.ls ahead t)) ∧ Gr w w' := by
  obtain ⟨f, b, o, i, m, ao', ca', hf, hle, hr, hSb, p, hp⟩ := hx.f
  have hi : x.ls.idx = i := by show x.path.getLastD 0 = i; rw [hp]; simp
  have hfe : x.ls.fld = f := by show (x.list[x.ls.idx]?).getD default = f; rw [hi, hf.fe]; rfl
  have hrow : ∀ W, Gr w W → RowAt S W (x.d + 1) x.ao x.list := fun W g => hx.row.kept fun b h => g.block b (hS b h) id
  have hrk : ∀ W, Gr w W → RowAt S W x.d ao' f.kids := fun W g => hr.kept fun b h => g.block b (hS b h) id
  have hSg : ∀ W, Gr w W → ∀ b, S b → b < W.heap.size := fun W g b h => Nat.lt_of_lt_of_le (hS b h) g.size
  have := wrong_walk x.ao x.list.length x.ca x.wb x.path.length x.wc x.inD i t ahead f.name f.nul f.kind f.width f.id f.index ao' f.kids.length ca' (nameB f.name) (idxOf x.list f.name) (tableB f) (nullB f) (kid0 f) w
    (by have := hx.deep; unfold big at this; omega)
    (fun W g => field_any x f b o i m ao' ca' W (hf.gr g))
    (fun W => isName_any f.name W)
    (fun W g => numberOfName_any S (x.d + 1) x.ao x.ca x.list f.name W (hrow W g) (hSg W g))
    (fun W g => by
      have h2 := hf.gr g
      rw [hf.len]
      exact (number_exact x.ao x.list.length x.ca x.wb m x.wc i x.inD h2.bm W h2.wc).mono fun e w' h => ⟨h.1, by rw [h.2]; exact gr_alloc _ _⟩)
    (fun W g => fitsTable_any f ao' ca' W (hT.gr g) hr.len)
    (fun ht W g => fitsNull_any f ao' ca' S x.d W (hrk W g) (tab_kids ht).2)
    (fun ht hk => by
      obtain ⟨h1, h2, h3⟩ := (tab_kids ht).1 hk
      cases hd : x.d with
      | zero => rw [hd] at hr; exact absurd hr h1
      | succ d =>
        rw [hd] at hr
        obtain ⟨b', o', e, _, hcs⟩ := hr.2 h1
        have hpos : 0 < f.kids.length := List.length_pos_iff.2 h1
        obtain ⟨ao2, ca2, hc, _⟩ := hcs 0 hpos
        refine ⟨b', o', f.id.toNat, e, hpos, ?_, by omega, by omega⟩
        have := hc.c1
        simp only [Nat.zero_mul, Nat.add_zero] at this
        rw [this]
        simp [kid0, List.getElem?_eq_getElem hpos])
  unfold wrongE
  rw [hfe, hi]
  exact this
theorem clone_any (b n c : Nat) (l : List Nat) (hl : l.length = n) (hb : n ≤ big) (w : World) (h : w.ownsRow 0 3 1 (.slice (some ⟨b, 0, none⟩) n c) n (ints l)) :
    Calls Tryz.prog 69 #[.slice (some ⟨b, 0, none⟩) n c] w fun e w' => ∃ vo vc, e = .returned (.slice vo n vc) ∧ w'.ownsRow 0 3 1 (.slice vo n vc) n (ints l) ∧ Gr w w' ∧ (∀ g, (Value.slice vo n vc).ownBlock = some g → w.heap.size ≤ g) := by
  have hb2 : n ≤ 1000000000000 := hb
  have hs : ∀ o, Src Tryz.prog 1 65 (.slice (some ⟨b, 0, none⟩) n c) n (ints l) (w.alloc o) := fun o => by
    have h2 : (w.alloc o).ownsRow 0 3 1 (.slice (some ⟨b, 0, none⟩) n c) n (ints l) := own_kp h fun g e => (gr_alloc w o).block g (own_lt h g e) id
    exact Src.ofSlice (w := w.alloc o) Tryz.underlying65 ⟨b, 0, none⟩ n c (ints l) (by simp [ints, hl]) (h2.cells rfl) (fun u hu => by simp [ints] at hu; obtain ⟨a, _, rfl⟩ := hu; rfl)
  have HS : Hid _ := hs
  have HE : Hid ((w.alloc (.cells #[] 3)).ownsRow 0 3 1 (.slice (some ⟨w.heap.size, 0, none⟩) 0 0) 0 []) := ⟨rfl, .inr ⟨w.heap.size, 0, #[], rfl, Nat.zero_le _, World.alloc_heap_new w _, Nat.le_refl _, Nat.zero_le _, rfl, rfl⟩⟩
  have hq : ∀ w, (binOp .eql 65 (.slice (some ⟨b, 0, none⟩) n c) (.slice none 0 0)).run Tryz.prog w = .ok (.bool false) w := fun w => by kernel_rfl
  clear hs h
  go_enter Tryz.func69, Tryz.ntmps69
  go_wp2_with (at_builtin; refine Hid.out ?_)
  unfold Hid
  refine wpList_append_any _ rfl (.tmp 5) (.tmp 6) 65 65 rfl 3 (.int .i64 0) 8 Tryz.underlying65 info3 rfl _ 0 [] rfl HE.out _ n (ints l) rfl (HS.out _) (by omega) (by omega) ?_
  intro v' w1 hown' hgrow hblk
  rw [Nat.zero_add, List.nil_append] at hown'
  obtain ⟨vo, vc, rfl⟩ : ∃ vo vc, v' = .slice vo n vc := by
    rcases hown'.2 with ⟨rfl, h0⟩ | ⟨g, cap, cur, rfl, _⟩
    · exact ⟨none, 0, by rw [h0]⟩
    exact ⟨_, _, rfl⟩
  have HF : Hid (w1.ownsRow 0 3 1 (.slice vo n vc) n (ints l) ∧ Gr w w1 ∧ (∀ g, (Value.slice vo n vc).ownBlock = some g → w.heap.size ≤ g)) := by
    refine ⟨hown', (gr_alloc w _).trans (Keeps.ofGrown hgrow) (fun j hj e => by have e' : (Value.slice (some ⟨w.heap.size, 0, none⟩) 0 0).ownBlock = some j := e; cases e'; exact absurd hj (Nat.lt_irrefl w.heap.size)), fun g e => ?_⟩
    rcases hblk with h | h
    · rw [h] at e
      have e' : (Value.slice (some ⟨w.heap.size, 0, none⟩) 0 0).ownBlock = some g := e
      cases e'; exact Nat.le_refl w.heap.size
    have := h g e; simp at this; omega
  clear hown' hgrow hblk
  go_wp2
  go_ret
  exact ⟨_, _, rfl, HF.out.1, HF.out.2.1, HF.out.2.2⟩
def NotesAt (W : World) (no : Option Addr) (l : List (ByteArray × ByteArray)) : Prop :=
  l.length ≤ big ∧ (l ≠ [] → ∃ b o, no = some ⟨b, o, none⟩ ∧ ∀ i (h : i < l.length), W.cell? ⟨b, o + i * 2, none⟩ = some (.string l[i].1) ∧ W.cell? ⟨b, o + i * 2 + 1, none⟩ = some (.string l[i].2))
theorem NotesAt.gr {W W' : World} {no : Option Addr} {l : List (ByteArray × ByteArray)} (h : NotesAt W no l) (g : Gr W W') : NotesAt W' no l :=
  ⟨h.1, fun hn => by
    obtain ⟨b, o, e, hc⟩ := h.2 hn
    exact ⟨b, o, e, fun i hi => ⟨g.cell' (hc i hi).1 (fun h => h), g.cell' (hc i hi).2 (fun h => h)⟩⟩⟩
def noteBad (n : ByteArray × ByteArray) : Bool := decide (256 < n.1.size) || decide (256 < n.2.size)
def listsE (nf : Nat) (l : List (ByteArray × ByteArray)) : Int × Int :=
  if 32 < nf then (34, 32) else if 16 < l.length then (34, 16) else if l.findIdx noteBad < l.length then (37, l.findIdx noteBad) else (0, 0)
def fltV (e : Int) (p : Value) (a : Int) : Value := .agg #[.int .i64 e, p, .int .i64 a]
theorem cell3 {W : World} {B t : Nat} {x y z : Value} (h : W.heap[B]? = some (.cells #[x, y, z] t)) : W.cell? ⟨B, 0, none⟩ = some x ∧ W.cell? ⟨B, 1, none⟩ = some y ∧ W.cell? ⟨B, 2, none⟩ = some z := by simp [World.cell?, h]
theorem frz {W : World} {B t : Nat} {c : Array Value} (h : W.heap[B]? = some (.cells c t)) (j : Nat) : W.frozen? ⟨B, j, none⟩ = false := by simp [World.frozen?, h]
theorem idx_bad {l : List (ByteArray × ByteArray)} {k : Nat} (hk : k < l.length) (h : ∀ i (h : i < l.length), i < k → noteBad l[i] = false) (hx : noteBad l[k] = true) : l.findIdx noteBad = k := by
  rw [List.findIdx_eq hk]
  exact ⟨hx, fun j hj => by rw [h j (by omega) hj]⟩
theorem idx_good {l : List (ByteArray × ByteArray)} (h : ∀ i (h : i < l.length), noteBad l[i] = false) : ¬ l.findIdx noteBad < l.length := fun hlt => by
  have := List.findIdx_getElem (w := hlt)
  rw [h _ hlt] at this
  cases this
theorem lists_any (fo no : Option Addr) (nf cf cn : Nat) (l : List (ByteArray × ByteArray)) (w : World) (hn : NotesAt w no l) :
    Calls Tryz.prog 66 #[.agg #[.slice fo nf cf, .slice no l.length cn]] w fun e w' => e = .returned (fltV (listsE nf l).1 (.slice none 0 0) (listsE nf l).2) ∧ Gr w w' := by
  have HN : Hid _ := hn
  obtain ⟨E, hE⟩ : ∃ E, E = listsE nf l := ⟨_, rfl⟩
  rw [← hE]
  have HE : Hid _ := hE
  obtain ⟨L, hL⟩ : ∃ L, L = l.length := ⟨_, rfl⟩
  rw [← hL]
  have HL : Hid _ := hL
  clear hn hE hL
  unfold fltV
  go_enter Tryz.func66, Tryz.ntmps66
  have hbx : ∀ (x y z : Value), ((w.alloc (.cells #[.slice fo nf cf, .slice no L cn] 25)).alloc (.cells #[x, y, z] 67)).heap[w.heap.size + 1]? = some (.cells #[x, y, z] 67) := fun x y z => by
    have := World.alloc_heap_new (w.alloc (.cells #[.slice fo nf cf, .slice no L cn] 25)) (.cells #[x, y, z] 67)
    rw [World.size_alloc] at this
    exact this
  have HX : Hid _ := hbx
  have HG : Hid (∀ o o', Gr w ((w.alloc o).alloc o')) := fun o o' => (gr_alloc w o).alloc o'
  clear hbx
  by_cases c1 : 32 < nf
  · have c1' : (32 : Int) < (nf : Int) := by omega
    go_wp2
    obtain ⟨t0, t1, t2⟩ := cell3 (HX.out (.int .i64 34) (.slice none 0 0) (.int .i64 32))
    refine bodyPost_ret (v := .agg #[.int .i64 34, .slice none 0 0, .int .i64 32]) ?_ rfl ?_
    · simp [results, Tryz.f66, go_sem, t0, t1, t2]
    exact ⟨by rw [HE.out]; simp [listsE, c1], HG.out _ _⟩
  have c1' : ¬ (32 : Int) < (nf : Int) := by omega
  by_cases c2 : 16 < L
  · have c2' : (16 : Int) < (L : Int) := by omega
    go_wp2
    obtain ⟨t0, t1, t2⟩ := cell3 (HX.out (.int .i64 34) (.slice none 0 0) (.int .i64 16))
    refine bodyPost_ret (v := .agg #[.int .i64 34, .slice none 0 0, .int .i64 16]) ?_ rfl ?_
    · simp [results, Tryz.f66, go_sem, t0, t1, t2]
    exact ⟨by rw [HE.out]; have := HL.out; simp [listsE, c1, ← this, c2], HG.out _ _⟩
  have c2' : ¬ (16 : Int) < (L : Int) := by omega
  have HC : Hid (¬ 32 < nf ∧ ¬ 16 < L) := ⟨c1, c2⟩
  have hL16 : L ≤ 16 := by omega
  go_wp2
  have HX0 := hidM (HX.out (.int .i64 0) (.slice none 0 0) (.int .i64 0))
  have HG0 := hidM (HG.out (.cells #[.slice fo nf cf, .slice no L cn] 25) (.cells #[.int .i64 0, .slice none 0 0, .int .i64 0] 67))
  generalize ((w.alloc (.cells #[.slice fo nf cf, .slice no L cn] 25)).alloc (.cells #[.int .i64 0, .slice none 0 0, .int .i64 0] 67)) = W0 at *
  clear HX HG
  obtain ⟨B, hB⟩ : ∃ B, B = w.heap.size + 1 := ⟨_, rfl⟩
  rw [← hB] at HX0 ⊢
  have HB : Hid _ := hB
  clear hB
  go_loopw [18] (fun i wr => ∃ k : Nat, k ≤ L ∧ i = .int .i64 (k : Int) ∧ Hid (Gr w wr ∧ wr.heap[B]? = some (.cells #[.int .i64 0, .slice none 0 0, .int .i64 0] 67) ∧ ∀ i (h : i < l.length), i < k → noteBad l[i] = false)) (fun i _ => L - (intOf i).toNat)
  case atStart => exact ⟨0, by omega, rfl, HG0.out, HX0.out, fun i h h0 => by omega⟩
  case round =>
    clear HX0 HG0
    obtain ⟨k, hk, rfl, HK⟩ := hrel
    by_cases hlt : k < L
    · have hl := HL.out
      have hkl : k < l.length := by omega
      obtain ⟨b, o, rfl, hcs⟩ := HN.out.2 (fun e => by rw [e] at hkl; simp at hkl)
      obtain ⟨g0, g1⟩ := hcs k hkl
      replace g0 := HK.out.1.cell' g0 (fun h => h)
      replace g1 := HK.out.1.cell' g1 (fun h => h)
      have HBk : Hid (noteBad l[k] = (decide (256 < l[k].1.size) || decide (256 < l[k].2.size))) := rfl
      have HE1 : Hid (noteBad l[k] = true → E = (37, (k : Int))) := fun hx => by
        have e := idx_bad hkl HK.out.2.2 hx
        rw [HE.out]; unfold listsE
        rw [if_neg HC.out.1, if_neg (by have := HC.out.2; omega), e, if_pos hkl]
      have HM : Hid (noteBad l[k] = false → ∀ i (h : i < l.length), i < k + 1 → noteBad l[i] = false) := fun hx i hi hlt => by
        by_cases e : i = k
        · subst e; exact hx
        exact HK.out.2.2 i hi (by omega)
      have HW : Hid (Gr w wr ∧ wr.heap[B]? = some (.cells #[.int .i64 0, .slice none 0 0, .int .i64 0] 67)) := ⟨HK.out.1, HK.out.2.1⟩
      have hbx : ∀ o, (wr.alloc o).heap[B]? = some (.cells #[.int .i64 0, .slice none 0 0, .int .i64 0] 67) := fun o => ((gr_alloc wr o).block _ (lt_of_heap HK.out.2.1) (fun h => h)).trans HK.out.2.1
      have y0 := fun o => (cell3 (hbx o)).1
      have y1 := fun o => (cell3 (hbx o)).2.1
      have y2 := fun o => (cell3 (hbx o)).2.2
      have y3 := fun o => frz (hbx o) 0
      have y4 := fun o => frz (hbx o) 1
      have y5 := fun o => frz (hbx o) 2
      have HBX : Hid _ := hbx
      generalize noteBad l[k] = nb at HBk HE1 HM
      generalize l[k].1 = n0 at *
      generalize l[k].2 = n1 at *
      clear hcs hl hkl HK HN hbx
      have fin : ∀ W4, W4 = (((wr.alloc (.cells #[.string n0, .string n1] 55)).setCell ⟨B, 0, none⟩ (.int .i64 37)).setCell ⟨B, 1, none⟩ (.slice none 0 0)).setCell ⟨B, 2, none⟩ (.int .i64 (k : Int)) → W4.heap[B]? = some (.cells #[.int .i64 37, .slice none 0 0, .int .i64 (k : Int)] 67) ∧ Gr w W4 := by
        intro W4 e
        refine ⟨?_, ?_⟩
        · rw [e, setc (j := 2) (setc (j := 1) (setc (j := 0) (HBX.out _) _) _) _]; simp
        rw [e]
        have k1 : Keeps (wr.alloc (.cells #[.string n0, .string n1] 55)) _ (fun b => b = B) := keep1 (j := 2) (keep1 (j := 1) (keep1 (j := 0) (Keeps.refl (wr.alloc (.cells #[.string n0, .string n1] 55)) (fun b => b = B)) (.int .i64 37)) (.slice none 0 0)) (.int .i64 (k : Int))
        exact (HW.out.1.alloc _).trans (T := fun b => b = B) k1 (fun j hj h => by have := HB.out; omega)
      have HFN : Hid _ := fin
      clear fin
      by_cases d1 : 256 < n0.size
      · have d1' : (256 : Int) < (n0.size : Int) := by omega
        have hnb : nb = true := by rw [HBk.out]; simp [d1]
        have HE2 := hidM (HE1.out hnb)
        clear HE1 HM HBk
        go_wp2_with fail
        obtain ⟨hb4, hg4⟩ := HFN.out _ rfl
        obtain ⟨t0, t1, t2⟩ := cell3 hb4
        refine bodyPost_ret (v := .agg #[.int .i64 37, .slice none 0 0, .int .i64 (k : Int)]) ?_ rfl ?_
        · simp [results, Tryz.f66, go_sem, t0, t1, t2]
        exact ⟨by rw [HE2.out], hg4⟩
      have d1' : ¬ (256 : Int) < (n0.size : Int) := by omega
      by_cases d2 : 256 < n1.size
      · have d2' : (256 : Int) < (n1.size : Int) := by omega
        have hnb : nb = true := by rw [HBk.out]; simp [d2]
        have HE2 := hidM (HE1.out hnb)
        clear HE1 HM HBk
        go_wp2_with fail
        obtain ⟨hb4, hg4⟩ := HFN.out _ rfl
        obtain ⟨t0, t1, t2⟩ := cell3 hb4
        refine bodyPost_ret (v := .agg #[.int .i64 37, .slice none 0 0, .int .i64 (k : Int)]) ?_ rfl ?_
        · simp [results, Tryz.f66, go_sem, t0, t1, t2]
        exact ⟨by rw [HE2.out], hg4⟩
      have d2' : ¬ (256 : Int) < (n1.size : Int) := by omega
      have hnb : nb = false := by rw [HBk.out]; simp; omega
      have HM2 := hidM (HM.out hnb)
      clear HE1 HM HBk
      go_wp2_with fail
      go_roundw
      case rel => exact ⟨k + 1, by omega, by simp, HW.out.1.alloc _, HBX.out _, HM2.out⟩
      case measure => simp [intOf]; omega
    have HE1 : Hid (E = (0, 0)) := by
      have e := idx_good (l := l) fun i hi => HK.out.2.2 i hi (by have := HL.out; omega)
      show _ = _
      rw [HE.out]; unfold listsE
      rw [if_neg HC.out.1, if_neg (by have := HC.out.2; have := HL.out; omega), if_neg e]
    have hg := HK.out.1
    have hbx := HK.out.2.1
    obtain ⟨y0, y1, y2⟩ := cell3 hbx
    obtain ⟨y3, y4, y5⟩ := fz3 hbx
    have fin : ∀ W4, W4 = ((wr.setCell ⟨B, 0, none⟩ (.int .i64 0)).setCell ⟨B, 1, none⟩ (.slice none 0 0)).setCell ⟨B, 2, none⟩ (.int .i64 0) → W4.heap[B]? = some (.cells #[.int .i64 0, .slice none 0 0, .int .i64 0] 67) ∧ Gr w W4 := by
      intro W4 e
      refine ⟨?_, ?_⟩
      · rw [e, setc (j := 2) (setc (j := 1) (setc (j := 0) hbx _) _) _]; simp
      rw [e]
      have k1 : Keeps wr _ (fun b => b = B) := keep1 (j := 2) (keep1 (j := 1) (keep1 (j := 0) (Keeps.refl wr (fun b => b = B)) (.int .i64 0)) (.slice none 0 0)) (.int .i64 0)
      exact hg.trans (T := fun b => b = B) k1 (fun j hj h => by have := HB.out; omega)
    have HFN : Hid _ := fin
    have hkL : k = L := by omega
    subst hkL
    clear fin HK hg hbx HN
    go_wp2_with fail
    obtain ⟨hb4, hg4⟩ := HFN.out _ rfl
    obtain ⟨t0, t1, t2⟩ := cell3 hb4
    refine bodyPost_ret (v := .agg #[.int .i64 0, .slice none 0 0, .int .i64 0]) ?_ rfl ?_
    · simp [results, Tryz.f66, go_sem, t0, t1, t2]
    exact ⟨by rw [HE1.out], hg4⟩
end Go.Proofs.YtdihbfjjddmbiaaGreatDoor.Kit
namespace Go.Proofs.YtdihbfjjddmbiaaGreatDoor.Kit
open Go.RowKit Go.Shelf Go.Deep
set_option linter.unusedVariables false
def numB (x : Nat) : Nat → List UInt8
  | 0 => []
  | k + 1 => numB x k ++ [UInt8.ofNat (x / 256 ^ k % 256)]
theorem numB_len (x : Nat) : ∀ k, (numB x k).length = k
  | 0 => rfl
  | k + 1 => by rw [numB, List.length_append, numB_len x k]; rfl
def flgB (b : Bool) : List UInt8 := if b then [1] else [0]
theorem flgB_len (b : Bool) : (flgB b).length = 1 := by cases b <;> rfl
def txtB (s : ByteArray) (w : Nat) : List UInt8 := numB s.size w ++ s.data.toList
def extB (f : FT) : List UInt8 := if f.kind = 14 ∨ f.kind = 16 then numB f.width.toNat 2 else if f.kind = 19 then numB f.id.toNat 2 ++ numB f.index.toNat 1 else if f.kind = 17 ∨ f.kind = 18 then numB f.kids.length 1 else []
def hdB (f : FT) : List UInt8 := txtB f.name 1 ++ flgB f.nul ++ numB f.kind.toNat 1 ++ extB f
def fldB : Nat → FT → List UInt8
  | 0, f => hdB f
  | d + 1, f => hdB f ++ f.kids.flatMap (fldB d)
def kidB : Nat → List FT → List UInt8
  | 0, _ => []
  | d + 1, l => l.flatMap (fldB d)
theorem fldB_eq (d : Nat) (f : FT) : fldB d f = hdB f ++ kidB d f.kids := by
  cases d with
  | zero => simp [fldB, kidB]
  | succ d => rfl
def bv (l : List UInt8) : List Value := l.map fun b => .int .u8 (b.toNat : Int)
theorem bv_app (a b : List UInt8) : bv (a ++ b) = bv a ++ bv b := by simp [bv]
theorem own_form1 {W : World} {t n : Nat} {v : Value} {xs : List Value} (h : W.ownsRow 0 t 1 v n xs) : ∃ vo vc, v = .slice vo n vc := by
  rcases h.2 with ⟨rfl, h0⟩ | ⟨g, cap, cur, rfl, _⟩
  · exact ⟨none, 0, by rw [h0]⟩
  exact ⟨_, _, rfl⟩
structure Byts (w W : World) (vo : Option Addr) (vc n : Nat) (bs : List UInt8) : Prop where
  own : W.ownsRow 0 5 1 (.slice vo n vc) n (bv bs)
  gr : Gr w W
  new : ∀ g, (Value.slice vo n vc).ownBlock = some g → w.heap.size ≤ g
theorem info5 : (Tryz.prog.info? 5).map (fun i => (i.zero, i.size, i.bytes)) = some (some (.int .u8 0), 1, 1) := by kernel_rfl
theorem Byts.len {w W : World} {vo : Option Addr} {vc n : Nat} {bs : List UInt8} (h : Byts w W vo vc n bs) : bs.length = n := by have := h.own.1; simpa [bv] using this
theorem Byts.gr' {w W W' : World} {vo : Option Addr} {vc n : Nat} {bs : List UInt8} (h : Byts w W vo vc n bs) (g : Gr W W') : Byts w W' vo vc n bs :=
  ⟨own_kp h.own fun b e => g.block b (own_lt h.own b e) id, h.gr.tr g, h.new⟩
structure Ap (w W w' : World) (vo : Option Addr) (vc n : Nat) (vo' : Option Addr) (vc' n' : Nat) (bs' : List UInt8) : Prop where
  b : Byts w w' vo' vc' n' bs'
  kp : Keeps W w' (fun g => (Value.slice vo n vc).ownBlock = some g)
  blk : (Value.slice vo' n' vc').ownBlock = (Value.slice vo n vc).ownBlock ∨ ∀ g, (Value.slice vo' n' vc').ownBlock = some g → W.heap.size ≤ g
theorem Ap.refl {w W : World} {vo : Option Addr} {vc n : Nat} {bs : List UInt8} (h : Byts w W vo vc n bs) : Ap w W W vo vc n vo vc n bs := ⟨h, Keeps.refl _ _, .inl rfl⟩
theorem Ap.gr {w W W' W'' : World} {vo : Option Addr} {vc n : Nat} {vo' : Option Addr} {vc' n' : Nat} {bs' : List UInt8} (h : Ap w W W' vo vc n vo' vc' n' bs') (g : Gr W' W'') : Ap w W W'' vo vc n vo' vc' n' bs' :=
  ⟨h.b.gr' g, h.kp.trans g (fun _ _ f => f.elim), h.blk⟩
theorem Ap.pre {w W0 W W' : World} {vo : Option Addr} {vc n : Nat} {vo' : Option Addr} {vc' n' : Nat} {bs' : List UInt8} (g : Gr W0 W) (h : Ap w W W' vo vc n vo' vc' n' bs') : Ap w W0 W' vo vc n vo' vc' n' bs' :=
  ⟨h.b, (g.mono fun _ _ f => f.elim).trans h.kp (fun _ _ e => e), h.blk.imp id fun hb x hx => Nat.le_trans g.size (hb x hx)⟩
theorem Ap.trans {w W W1 W2 : World} {vo vo1 vo2 : Option Addr} {vc n vc1 n1 vc2 n2 : Nat} {b1 b2 : List UInt8} (h : Ap w W W1 vo vc n vo1 vc1 n1 b1) (k : Ap w W1 W2 vo1 vc1 n1 vo2 vc2 n2 b2) : Ap w W W2 vo vc n vo2 vc2 n2 b2 := by
  refine ⟨k.b, h.kp.trans k.kp (fun j hj e => ?_), ?_⟩
  · rcases h.blk with hb | hb
    · rw [← hb]; exact e
    have := hb j e; omega
  rcases k.blk with kb | kb
  · rw [kb]; exact h.blk
  exact .inr fun g hg => Nat.le_trans h.kp.size (kb g hg)
theorem Ap.box {w W W' : World} {vo : Option Addr} {vc n : Nat} {vo' : Option Addr} {vc' n' : Nat} {bs' : List UInt8} (h : Ap w W W' vo vc n vo' vc' n' bs') {B : Nat} {o : Obj} (hB : W.heap[B]? = some o) (hne : ¬ (Value.slice vo n vc).ownBlock = some B) : W'.heap[B]? = some o ∧ ¬ (Value.slice vo' n' vc').ownBlock = some B := by
  have hlt : B < W.heap.size := (Array.getElem?_eq_some_iff.1 hB).1
  refine ⟨(h.kp.block B hlt hne).trans hB, fun e => ?_⟩
  rcases h.blk with hb | hb
  · rw [hb] at e; exact hne e
  have := hb B e; omega
theorem Byts.app {w W W2 : World} {vo vo' : Option Addr} {vc vc' n m : Nat} {bs us : List UInt8} {vs : List Value} (h : Byts w W vo vc n bs) (hvs : vs = bv us)
    (ho : W2.ownsRow 0 5 1 (.slice vo' m vc') m (bv bs ++ vs)) (hg : W.grownBy W2 (Value.slice vo n vc).ownBlock)
    (hor : (Value.slice vo' m vc').ownBlock = (Value.slice vo n vc).ownBlock ∨ ∀ g, (Value.slice vo' m vc').ownBlock = some g → W.heap.size ≤ g) : Ap w W W2 vo vc n vo' vc' m (bs ++ us) := by
  refine ⟨⟨?_, h.gr.trans (Keeps.ofGrown hg) (fun j hj e => by have := h.new j e; omega), fun g hg' => ?_⟩, Keeps.ofGrown hg, hor⟩
  · rw [bv_app, ← hvs]; exact ho
  rcases hor with h1 | h1
  · rw [h1] at hg'; exact h.new g hg'
  have := h1 g hg'
  have := h.gr.size
  omega
theorem src_u8 (w : World) (cs : List Value) (n : Nat) (hn : n = cs.length) (h1 : ∀ v ∈ cs, ∃ z, v = .int .u8 z) : Src Tryz.prog 1 30 (.slice (some ⟨w.heap.size, 0, none⟩) n n) n cs (w.alloc (.cells cs.toArray 5)) := by
  subst hn
  refine Src.ofSlice (w := w.alloc (.cells cs.toArray 5)) Tryz.underlying30 ⟨w.heap.size, 0, none⟩ cs.length cs.length cs (by simp) (fun j x h => ?_) (fun x h => by obtain ⟨z, rfl⟩ := h1 x h; rfl)
  have hb := World.alloc_heap_new w (.cells cs.toArray 5)
  have e : (⟨w.heap.size, 0, none⟩ : Addr).add j = ⟨w.heap.size, j, none⟩ := by cases j <;> simp [Addr.add]
  rw [e]
  simp only [World.cell?, hb]
  simpa using h
end Go.Proofs.YtdihbfjjddmbiaaGreatDoor.Kit
namespace Go.Proofs.YtdihbfjjddmbiaaGreatDoor.Kit
open Go.RowKit Go.Shelf Go.Deep
set_option linter.unusedVariables false
attribute [local go_sem] run_store_func
theorem pow_div (x k : Nat) : x / 256 ^ k / 256 = x / 256 ^ (k + 1) := by rw [Nat.div_div_eq_div_mul, Nat.pow_succ]
theorem numberR_any {w W : World} {vo : Option Addr} {vc n : Nat} {bs : List UInt8} (hb : Byts w W vo vc n bs) (hn : n ≤ 1000000) (x wd : Nat) (hx : x ≤ 1000000000000) (hw : wd ≤ 8) :
    Calls Tryz.prog 14 #[.slice vo n vc, .int .i64 (x : Int), .int .i64 (wd : Int)] W fun e w' => ∃ vo' vc', e = .returned (.slice vo' (n + wd) vc') ∧ Ap w W w' vo vc n vo' vc' (n + wd) (bs ++ numB x wd) := by
  have HB := hidM hb
  clear hb
  go_enter Tryz.func14, Tryz.ntmps14
  go_wp2
  go_loopw [0, 1, 7] (fun v y i wr => ∃ (k m : Nat) (vo' : Option Addr) (vc' : Nat), k ≤ wd ∧ m ≤ x ∧ i = .int .i64 (k : Int) ∧ v = .slice vo' (n + k) vc' ∧ y = .int .i64 (m : Int) ∧ Hid (m = x / 256 ^ k ∧ Ap w W wr vo vc n vo' vc' (n + k) (bs ++ numB x k))) (fun _ _ i _ => wd - (intOf i).toNat)
  case atStart => exact ⟨0, x, vo, vc, by omega, by omega, rfl, rfl, rfl, by simp, by simpa [numB] using Ap.refl HB.out⟩
  case round =>
    obtain ⟨k, m, vo', vc', hk, hm, rfl, rfl, rfl, HR⟩ := hrel
    by_cases hlt : k < wd
    · have hltI : (k : Int) < (wd : Int) := by omega
      obtain ⟨r, hr⟩ : ∃ r, r = m % 256 := ⟨_, rfl⟩
      obtain ⟨q, hq⟩ : ∃ q, q = m / 256 := ⟨_, rfl⟩
      have h1 : (m : Int).tmod 256 = (r : Int) := by rw [Int.tmod_eq_emod_of_nonneg (by omega)]; omega
      have h2 : (m : Int).tdiv 256 = (q : Int) := by rw [Int.tdiv_eq_ediv_of_nonneg (by omega)]; omega
      have h3 : IntKind.u8.wrap (r : Int) = (r : Int) := by rw [IntKind.wrap_u8]; omega
      have H4 : Hid (wrap64 (q : Int) = (q : Int)) := by show _ = _; unfold wrap64; omega
      have HNx : Hid (q = x / 256 ^ (k + 1) ∧ [Value.int .u8 (r : Int)] = bv [UInt8.ofNat (x / 256 ^ k % 256)]) := by
        refine ⟨by rw [hq, HR.out.1, pow_div], ?_⟩
        rw [← HR.out.1, ← hr]
        have : (UInt8.ofNat r).toNat = r := by simp; omega
        simp [bv]
        omega
      have hq' : q ≤ x := by rw [hq]; exact Nat.le_trans (Nat.div_le_self _ _) hm
      clear hr hq
      go_wp2_with (at_builtin; refine Hid.out ?_)
      unfold Hid
      have hB1 := HR.out.2.b.gr' (gr_alloc wr (.cells #[.int .u8 (r : Int)] 5))
      refine wpList_append_any _ rfl (.tmp 13) (.tmp 17) 30 30 rfl 5 (.int .u8 0) 1 Tryz.underlying30 info5 rfl _ (n + k) (bv (bs ++ numB x k)) rfl hB1.own _ 1 [.int .u8 (r : Int)] rfl (src_u8 wr [.int .u8 (r : Int)] 1 rfl (by simp)) (by omega) (by omega) ?_
      intro v' w1 hown hgrow hblk
      obtain ⟨vo2, vc2, rfl⟩ := own_form1 hown
      have HN : Hid (q = x / 256 ^ (k + 1) ∧ Ap w W w1 vo vc n vo2 vc2 (n + (k + 1)) (bs ++ numB x (k + 1))) := by
        refine ⟨HNx.out.1, ?_⟩
        have := HR.out.2.trans ((hB1.app HNx.out.2 hown hgrow hblk).pre (gr_alloc wr _))
        rw [numB, ← List.append_assoc]
        exact this
      clear hown hgrow hblk hB1 HNx HR
      go_wp2_with fail
      go_roundw
      case rel => exact ⟨k + 1, q, vo2, vc2, by omega, by omega, by simp, rfl, rfl, HN.out⟩
      case measure => simp [intOf]; omega
    have hltI : ¬ (k : Int) < (wd : Int) := by omega
    obtain rfl : k = wd := by omega
    go_wp2_with fail
    go_ret
    exact ⟨vo', vc', rfl, HR.out.2⟩
theorem flagR_any {w W : World} {vo : Option Addr} {vc n : Nat} {bs : List UInt8} (hb : Byts w W vo vc n bs) (hn : n ≤ 1000000) (b : Bool) :
    Calls Tryz.prog 17 #[.slice vo n vc, .bool b] W fun e w' => ∃ vo' vc', e = .returned (.slice vo' (n + 1) vc') ∧ Ap w W w' vo vc n vo' vc' (n + 1) (bs ++ flgB b) := by
  have HB := hidM hb
  clear hb
  go_enter Tryz.func17, Tryz.ntmps17
  cases b with
  | true =>
    go_wp2_with (at_builtin; refine Hid.out ?_)
    unfold Hid
    have hB1 := HB.out.gr' (gr_alloc W (.cells #[.int .u8 1] 5))
    refine wpList_append_any _ rfl (.tmp 6) (.tmp 7) 30 30 rfl 5 (.int .u8 0) 1 Tryz.underlying30 info5 rfl _ n (bv bs) rfl hB1.own _ 1 [.int .u8 1] rfl (src_u8 W [.int .u8 1] 1 rfl (by simp)) (by omega) (by omega) ?_
    intro v' w1 hown hgrow hblk
    obtain ⟨vo2, vc2, rfl⟩ := own_form1 hown
    have HN : Hid (Ap w W w1 vo vc n vo2 vc2 (n + 1) (bs ++ flgB true)) := (hB1.app (us := [1]) rfl hown hgrow hblk).pre (gr_alloc W _)
    clear hown hgrow hblk hB1
    go_wp2_with fail
    go_ret
    exact ⟨vo2, vc2, rfl, HN.out⟩
  | false =>
    go_wp2_with (at_builtin; refine Hid.out ?_)
    unfold Hid
    have hB1 := HB.out.gr' (gr_alloc W (.cells #[.int .u8 0] 5))
    refine wpList_append_any _ rfl (.tmp 9) (.tmp 10) 30 30 rfl 5 (.int .u8 0) 1 Tryz.underlying30 info5 rfl _ n (bv bs) rfl hB1.own _ 1 [.int .u8 0] rfl (src_u8 W [.int .u8 0] 1 rfl (by simp)) (by omega) (by omega) ?_
    intro v' w1 hown hgrow hblk
    obtain ⟨vo2, vc2, rfl⟩ := own_form1 hown
    have HN : Hid (Ap w W w1 vo vc n vo2 vc2 (n + 1) (bs ++ flgB false)) := (hB1.app (us := [0]) rfl hown hgrow hblk).pre (gr_alloc W _)
    clear hown hgrow hblk hB1
    go_wp2_with fail
    go_ret
    exact ⟨vo2, vc2, rfl, HN.out⟩
theorem textR_any {w W : World} {vo : Option Addr} {vc n : Nat} {bs : List UInt8} (hb : Byts w W vo vc n bs) (hn : n ≤ 1000000) (s : ByteArray) (wd : Nat) (hs : s.size ≤ 1000000) (hw : wd ≤ 8) :
    Calls Tryz.prog 16 #[.slice vo n vc, .string s, .int .i64 (wd : Int)] W fun e w' => ∃ vo' vc', e = .returned (.slice vo' (n + wd + s.size) vc') ∧ Ap w W w' vo vc n vo' vc' (n + wd + s.size) (bs ++ txtB s wd) := by
  have H13 := hidM (numberR_any hb hn s.size wd (by omega) hw)
  clear hb
  go_enter Tryz.func16, Tryz.ntmps16
  go_wp2_with (go_at_call 14; refine Hid.out ?_)
  unfold Hid
  refine Calls.mono H13.out ?_
  rintro e W1 ⟨vo1, vc1, rfl, hb1⟩
  have HB1 := hidM hb1
  clear hb1
  go_wp2_with (at_builtin; refine Hid.out ?_)
  unfold Hid
  refine wpList_append_any _ rfl (.tmp 12) (.tmp 13) 30 9 rfl 5 (.int .u8 0) 1 Tryz.underlying30 info5 rfl _ (n + wd) (bv (bs ++ numB s.size wd)) rfl HB1.out.b.own _ s.size (byteCells s) rfl (Src.ofString _ Tryz.underlying9 s) (by omega) (by omega) ?_
  intro v' w1 hown hgrow hblk
  obtain ⟨vo2, vc2, rfl⟩ := own_form1 hown
  have HN : Hid (Ap w W w1 vo vc n vo2 vc2 (n + wd + s.size) (bs ++ txtB s wd)) := by
    have := HB1.out.trans (HB1.out.b.app (us := s.data.toList) rfl hown hgrow hblk)
    rw [List.append_assoc] at this
    exact this
  clear hown hgrow hblk HB1
  go_wp2_with fail
  go_ret
  exact ⟨vo2, vc2, rfl, HN.out⟩
theorem numberR_at {w W : World} {vo : Option Addr} {vc n : Nat} {bs : List UInt8} (hb : Byts w W vo vc n bs) (hn : n ≤ 1000000) (z wi : Int) (wd : Nat) (h0 : 0 ≤ z) (hz : z ≤ 1000000000000) (hi : wi = (wd : Int)) (hw : wd ≤ 8) :
    Calls Tryz.prog 14 #[.slice vo n vc, .int .i64 z, .int .i64 wi] W fun e w' => ∃ vo' vc', e = .returned (.slice vo' (n + wd) vc') ∧ Ap w W w' vo vc n vo' vc' (n + wd) (bs ++ numB z.toNat wd) := by
  have h := numberR_any hb hn z.toNat wd (by omega) hw
  rw [Int.toNat_of_nonneg h0, ← hi] at h
  exact h
theorem textR_at {w W : World} {vo : Option Addr} {vc n : Nat} {bs : List UInt8} (hb : Byts w W vo vc n bs) (hn : n ≤ 1000000) (s : ByteArray) (wi : Int) (wd : Nat) (hs : s.size ≤ 1000000) (hi : wi = (wd : Int)) (hw : wd ≤ 8) :
    Calls Tryz.prog 16 #[.slice vo n vc, .string s, .int .i64 wi] W fun e w' => ∃ vo' vc', e = .returned (.slice vo' (n + wd + s.size) vc') ∧ Ap w W w' vo vc n vo' vc' (n + wd + s.size) (bs ++ txtB s wd) := by
  have h := textR_any hb hn s wd hs hw
  rw [← hi] at h
  exact h
end Go.Proofs.YtdihbfjjddmbiaaGreatDoor.Kit
namespace Go.Proofs.YtdihbfjjddmbiaaGreatDoor.Kit
def grown (out new : List LS) : List LS := (out ++ new).take 257
end Go.Proofs.YtdihbfjjddmbiaaGreatDoor.Kit
