import Derived.Test.YtknnoiomdngmfaaGreatDoorFG
import Derived.Test.YtknnoiomdngmfaaGreatDoorDA
set_option maxRecDepth 100000
set_option maxHeartbeats 4000000
namespace Go.Proofs.YtknnoiomdngmfaaGreatDoor.Kit
open Go.RowKit Go.Shelf Go.Deep
set_option linter.unusedVariables false
attribute [local go_sem] run_store_func
def LS.idx (s : LS) : Nat := s.path.getLastD 0
def LS.fld (s : LS) : FT := (s.list[s.idx]?).getD default
def kid0 (f : FT) : Bool := (f.kids[0]?.map FT.nul).getD false
def wrongE (s : LS) (ahead : Nat) (t : Nat → Bool) : Int :=
  wr s.path.length ahead (nameB s.fld.name) (idxOf s.list s.fld.name) s.idx (tableB s.fld) (nullB s.fld) s.inD s.fld.kind (kid0 s.fld) (t s.fld.id.toNat)
theorem tab_kids {f : FT} (h : tableB f = true) : (f.kind = 19 → f.kids ≠ [] ∧ 0 ≤ f.id ∧ f.id < 32) ∧ (f.kind = 20 → f.kids ≠ []) := by
  unfold tableB dictB at h
  refine ⟨fun e => ?_, fun e => ?_⟩
  · rw [e] at h
    simp [leastK] at h
    refine ⟨fun e2 => ?_, h.2.2.1.1, h.2.2.1.2⟩
    rw [e2] at h
    simp at h
  rw [e] at h
  simp [leastK] at h
  intro e2
  rw [e2] at h
  simp at h
theorem wrong_any (x : Spot) (S O : Nat → Prop) (t : Nat → Bool) (ahead : Nat) (w : World) (hx : AtS S O x w) (hT : Tab w) (hS : ∀ b, S b → b < w.heap.size) :
    Calls Tryz.prog 105 #[spotV x, .int .i64 (ahead : Int), takV t] w fun e w' => e = .returned (.int .i64 (wrongE x.ls ahead t)) ∧ Gr w w' := by
  obtain ⟨f, b, o, i, m, ao', ca', hf, hle, hr, hSb, p, hp⟩ := hx.f
  have hi : x.ls.idx = i := by show x.path.getLastD 0 = i; rw [hp]; simp
  have hfe : x.ls.fld = f := by show (x.list[x.ls.idx]?).getD default = f; rw [hi, hf.fe]; rfl
  have hrow : ∀ W, Gr w W → RowAt S W (x.d + 1) x.ao x.list := fun W g => hx.row.kept fun b h => g.block b (hS b h) id
  have hrk : ∀ W, Gr w W → RowAt S W x.d ao' f.kids := fun W g => hr.kept fun b h => g.block b (hS b h) id
  have hSg : ∀ W, Gr w W → ∀ b, S b → b < W.heap.size := fun W g b h => Nat.lt_of_lt_of_le (hS b h) g.size
  have := wrong_walk x.ao x.list.length x.ca x.wb x.path.length x.wc x.inD i t ahead f.name f.nul f.kind f.width f.id f.index ao' f.kids.length ca' (nameB f.name) (idxOf x.list f.name) (tableB f) (nullB f) (kid0 f) w
    (by have := hx.deep; unfold big at this; omega)
    (fun W g => field_any x f b o i m ao' ca' W (hf.gr g))
    (fun W => isName_any f.name W)
    (fun W g => numberOfName_any S (x.d + 1) x.ao x.ca x.list f.name W (hrow W g) (hSg W g))
    (fun W g => by
      have h2 := hf.gr g
      rw [hf.len]
      exact (number_exact x.ao x.list.length x.ca x.wb m x.wc i x.inD h2.bm W h2.wc).mono fun e w' h => ⟨h.1, by rw [h.2]; exact gr_alloc _ _⟩)
    (fun W g => fitsTable_any f ao' ca' W (hT.gr g) hr.len)
    (fun ht W g => fitsNull_any f ao' ca' S x.d W (hrk W g) (tab_kids ht).2)
    (fun ht hk => by
      obtain ⟨h1, h2, h3⟩ := (tab_kids ht).1 hk
      cases hd : x.d with
      | zero => rw [hd] at hr; exact absurd hr h1
      | succ d =>
        rw [hd] at hr
        obtain ⟨b', o', e, _, hcs⟩ := hr.2 h1
        have hpos : 0 < f.kids.length := List.length_pos_iff.2 h1
        obtain ⟨ao2, ca2, hc, _⟩ := hcs 0 hpos
        refine ⟨b', o', f.id.toNat, e, hpos, ?_, by omega, by omega⟩
        have := hc.c1
        simp only [Nat.zero_mul, Nat.add_zero] at this
        rw [this]
        simp [kid0, List.getElem?_eq_getElem hpos])
  unfold wrongE
  rw [hfe, hi]
  exact this
theorem clone_any (b n c : Nat) (l : List Nat) (hl : l.length = n) (hb : n ≤ big) (w : World) (h : w.ownsRow 0 3 1 (.slice (some ⟨b, 0, none⟩) n c) n (ints l)) :
    Calls Tryz.prog 106 #[.slice (some ⟨b, 0, none⟩) n c] w fun e w' => ∃ vo vc, e = .returned (.slice vo n vc) ∧ w'.ownsRow 0 3 1 (.slice vo n vc) n (ints l) ∧ Gr w w' ∧ (∀ g, (Value.slice vo n vc).ownBlock = some g → w.heap.size ≤ g) := by
  have hb2 : n ≤ 1000000000000 := hb
  have hs : ∀ o, Src Tryz.prog 1 44 (.slice (some ⟨b, 0, none⟩) n c) n (ints l) (w.alloc o) := fun o => by
    have h2 : (w.alloc o).ownsRow 0 3 1 (.slice (some ⟨b, 0, none⟩) n c) n (ints l) := own_kp h fun g e => (gr_alloc w o).block g (own_lt h g e) id
    exact Src.ofSlice (w := w.alloc o) Tryz.underlying44 ⟨b, 0, none⟩ n c (ints l) (by simp [ints, hl]) (h2.cells rfl) (fun u hu => by simp [ints] at hu; obtain ⟨a, _, rfl⟩ := hu; rfl)
  have HS : Hid _ := hs
  have HE : Hid ((w.alloc (.cells #[] 3)).ownsRow 0 3 1 (.slice (some ⟨w.heap.size, 0, none⟩) 0 0) 0 []) := ⟨rfl, .inr ⟨w.heap.size, 0, #[], rfl, Nat.zero_le _, World.alloc_heap_new w _, Nat.le_refl _, Nat.zero_le _, rfl, rfl⟩⟩
  have hq : ∀ w, (binOp .eql 44 (.slice (some ⟨b, 0, none⟩) n c) (.slice none 0 0)).run Tryz.prog w = .ok (.bool false) w := fun w => by kernel_rfl
  clear hs h
  go_enter Tryz.func106, Tryz.ntmps106
  go_wp2_with (at_builtin; refine Hid.out ?_)
  unfold Hid
  refine wpList_append_any _ rfl (.tmp 5) (.tmp 6) 44 44 rfl 3 (.int .i64 0) 8 Tryz.underlying44 info3 rfl _ 0 [] rfl HE.out _ n (ints l) rfl (HS.out _) (by omega) (by omega) ?_
  intro v' w1 hown' hgrow hblk
  rw [Nat.zero_add, List.nil_append] at hown'
  obtain ⟨vo, vc, rfl⟩ : ∃ vo vc, v' = .slice vo n vc := by
    rcases hown'.2 with ⟨rfl, h0⟩ | ⟨g, cap, cur, rfl, _⟩
    · exact ⟨none, 0, by rw [h0]⟩
    exact ⟨_, _, rfl⟩
  have HF : Hid (w1.ownsRow 0 3 1 (.slice vo n vc) n (ints l) ∧ Gr w w1 ∧ (∀ g, (Value.slice vo n vc).ownBlock = some g → w.heap.size ≤ g)) := by
    refine ⟨hown', (gr_alloc w _).trans (Keeps.ofGrown hgrow) (fun j hj e => by have e' : (Value.slice (some ⟨w.heap.size, 0, none⟩) 0 0).ownBlock = some j := e; cases e'; exact absurd hj (Nat.lt_irrefl w.heap.size)), fun g e => ?_⟩
    rcases hblk with h | h
    · rw [h] at e
      have e' : (Value.slice (some ⟨w.heap.size, 0, none⟩) 0 0).ownBlock = some g := e
      cases e'; exact Nat.le_refl w.heap.size
    have := h g e; simp at this; omega
  clear hown' hgrow hblk
  go_wp2
  go_ret
  exact ⟨_, _, rfl, HF.out.1, HF.out.2.1, HF.out.2.2⟩
def NotesAt (W : World) (no : Option Addr) (l : List (ByteArray × ByteArray)) : Prop :=
  l.length ≤ big ∧ (l ≠ [] → ∃ b o, no = some ⟨b, o, none⟩ ∧ ∀ i (h : i < l.length), W.cell? ⟨b, o + i * 2, none⟩ = some (.string l[i].1) ∧ W.cell? ⟨b, o + i * 2 + 1, none⟩ = some (.string l[i].2))
theorem NotesAt.gr {W W' : World} {no : Option Addr} {l : List (ByteArray × ByteArray)} (h : NotesAt W no l) (g : Gr W W') : NotesAt W' no l :=
  ⟨h.1, fun hn => by
    obtain ⟨b, o, e, hc⟩ := h.2 hn
    exact ⟨b, o, e, fun i hi => ⟨g.cell' (hc i hi).1 (fun h => h), g.cell' (hc i hi).2 (fun h => h)⟩⟩⟩
def noteBad (n : ByteArray × ByteArray) : Bool := decide (256 < n.1.size) || decide (256 < n.2.size)
def listsE (nf : Nat) (l : List (ByteArray × ByteArray)) : Int × Int :=
  if 32 < nf then (34, 32) else if 16 < l.length then (34, 16) else if l.findIdx noteBad < l.length then (37, l.findIdx noteBad) else (0, 0)
def fltV (e : Int) (p : Value) (a : Int) : Value := .agg #[.int .i64 e, p, .int .i64 a]
theorem cell3 {W : World} {B t : Nat} {x y z : Value} (h : W.heap[B]? = some (.cells #[x, y, z] t)) : W.cell? ⟨B, 0, none⟩ = some x ∧ W.cell? ⟨B, 1, none⟩ = some y ∧ W.cell? ⟨B, 2, none⟩ = some z := by simp [World.cell?, h]
theorem frz {W : World} {B t : Nat} {c : Array Value} (h : W.heap[B]? = some (.cells c t)) (j : Nat) : W.frozen? ⟨B, j, none⟩ = false := by simp [World.frozen?, h]
theorem frz5 {W : World} {B t : Nat} {c : Array Value} (h : W.heap[B]? = some (.cells c t)) : W.frozen? ⟨B, 0, none⟩ = false ∧ W.frozen? ⟨B, 1, none⟩ = false ∧ W.frozen? ⟨B, 2, none⟩ = false ∧ W.frozen? ⟨B, 3, none⟩ = false ∧ W.frozen? ⟨B, 4, none⟩ = false := ⟨frz h 0, frz h 1, frz h 2, frz h 3, frz h 4⟩
theorem frz6 {W : World} {B t : Nat} {c : Array Value} (h : W.heap[B]? = some (.cells c t)) : W.frozen? ⟨B, 0, none⟩ = false ∧ W.frozen? ⟨B, 1, none⟩ = false ∧ W.frozen? ⟨B, 2, none⟩ = false ∧ W.frozen? ⟨B, 3, none⟩ = false ∧ W.frozen? ⟨B, 4, none⟩ = false ∧ W.frozen? ⟨B, 5, none⟩ = false := ⟨frz h 0, frz h 1, frz h 2, frz h 3, frz h 4, frz h 5⟩
theorem frz7 {W : World} {B t : Nat} {c : Array Value} (h : W.heap[B]? = some (.cells c t)) : W.frozen? ⟨B, 0, none⟩ = false ∧ W.frozen? ⟨B, 1, none⟩ = false ∧ W.frozen? ⟨B, 2, none⟩ = false ∧ W.frozen? ⟨B, 3, none⟩ = false ∧ W.frozen? ⟨B, 4, none⟩ = false ∧ W.frozen? ⟨B, 5, none⟩ = false ∧ W.frozen? ⟨B, 6, none⟩ = false := ⟨frz h 0, frz h 1, frz h 2, frz h 3, frz h 4, frz h 5, frz h 6⟩
theorem idx_bad {l : List (ByteArray × ByteArray)} {k : Nat} (hk : k < l.length) (h : ∀ i (h : i < l.length), i < k → noteBad l[i] = false) (hx : noteBad l[k] = true) : l.findIdx noteBad = k := by
  rw [List.findIdx_eq hk]
  exact ⟨hx, fun j hj => by rw [h j (by omega) hj]⟩
theorem idx_good {l : List (ByteArray × ByteArray)} (h : ∀ i (h : i < l.length), noteBad l[i] = false) : ¬ l.findIdx noteBad < l.length := fun hlt => by
  have := List.findIdx_getElem (w := hlt)
  rw [h _ hlt] at this
  cases this
theorem lists_any (fo no : Option Addr) (nf cf cn : Nat) (l : List (ByteArray × ByteArray)) (w : World) (hn : NotesAt w no l) :
    Calls Tryz.prog 103 #[.agg #[.slice fo nf cf, .slice no l.length cn]] w fun e w' => e = .returned (fltV (listsE nf l).1 (.slice none 0 0) (listsE nf l).2) ∧ Gr w w' := by
  have HN : Hid _ := hn
  obtain ⟨E, hE⟩ : ∃ E, E = listsE nf l := ⟨_, rfl⟩
  rw [← hE]
  have HE : Hid _ := hE
  obtain ⟨L, hL⟩ : ∃ L, L = l.length := ⟨_, rfl⟩
  rw [← hL]
  have HL : Hid _ := hL
  clear hn hE hL
  unfold fltV
  go_enter Tryz.func103, Tryz.ntmps103
  have hbx : ∀ (x y z : Value), ((w.alloc (.cells #[.slice fo nf cf, .slice no L cn] 43)).alloc (.cells #[x, y, z] 60)).heap[w.heap.size + 1]? = some (.cells #[x, y, z] 60) := fun x y z => by
    have := World.alloc_heap_new (w.alloc (.cells #[.slice fo nf cf, .slice no L cn] 43)) (.cells #[x, y, z] 60)
    rw [World.size_alloc] at this
    exact this
  have HX : Hid _ := hbx
  have HG : Hid (∀ o o', Gr w ((w.alloc o).alloc o')) := fun o o' => (gr_alloc w o).alloc o'
  clear hbx
  by_cases c1 : 32 < nf
  · have c1' : (32 : Int) < (nf : Int) := by omega
    go_wp2
    obtain ⟨t0, t1, t2⟩ := cell3 (HX.out (.int .i64 34) (.slice none 0 0) (.int .i64 32))
    refine bodyPost_ret (v := .agg #[.int .i64 34, .slice none 0 0, .int .i64 32]) ?_ rfl ?_
    · simp [results, Tryz.f103, go_sem, t0, t1, t2]
    exact ⟨by rw [HE.out]; simp [listsE, c1], HG.out _ _⟩
  have c1' : ¬ (32 : Int) < (nf : Int) := by omega
  by_cases c2 : 16 < L
  · have c2' : (16 : Int) < (L : Int) := by omega
    go_wp2
    obtain ⟨t0, t1, t2⟩ := cell3 (HX.out (.int .i64 34) (.slice none 0 0) (.int .i64 16))
    refine bodyPost_ret (v := .agg #[.int .i64 34, .slice none 0 0, .int .i64 16]) ?_ rfl ?_
    · simp [results, Tryz.f103, go_sem, t0, t1, t2]
    exact ⟨by rw [HE.out]; have := HL.out; simp [listsE, c1, ← this, c2], HG.out _ _⟩
  have c2' : ¬ (16 : Int) < (L : Int) := by omega
  have HC : Hid (¬ 32 < nf ∧ ¬ 16 < L) := ⟨c1, c2⟩
  have hL16 : L ≤ 16 := by omega
  go_wp2
  have HX0 := hidM (HX.out (.int .i64 0) (.slice none 0 0) (.int .i64 0))
  have HG0 := hidM (HG.out (.cells #[.slice fo nf cf, .slice no L cn] 43) (.cells #[.int .i64 0, .slice none 0 0, .int .i64 0] 60))
  generalize ((w.alloc (.cells #[.slice fo nf cf, .slice no L cn] 43)).alloc (.cells #[.int .i64 0, .slice none 0 0, .int .i64 0] 60)) = W0 at *
  clear HX HG
  obtain ⟨B, hB⟩ : ∃ B, B = w.heap.size + 1 := ⟨_, rfl⟩
  rw [← hB] at HX0 ⊢
  have HB : Hid _ := hB
  clear hB
  go_loopw [18] (fun i wr => ∃ k : Nat, k ≤ L ∧ i = .int .i64 (k : Int) ∧ Hid (Gr w wr ∧ wr.heap[B]? = some (.cells #[.int .i64 0, .slice none 0 0, .int .i64 0] 60) ∧ ∀ i (h : i < l.length), i < k → noteBad l[i] = false)) (fun i _ => L - (intOf i).toNat)
  case atStart => exact ⟨0, by omega, rfl, HG0.out, HX0.out, fun i h h0 => by omega⟩
  case round =>
    clear HX0 HG0
    obtain ⟨k, hk, rfl, HK⟩ := hrel
    by_cases hlt : k < L
    · have hl := HL.out
      have hkl : k < l.length := by omega
      obtain ⟨b, o, rfl, hcs⟩ := HN.out.2 (fun e => by rw [e] at hkl; simp at hkl)
      obtain ⟨g0, g1⟩ := hcs k hkl
      replace g0 := HK.out.1.cell' g0 (fun h => h)
      replace g1 := HK.out.1.cell' g1 (fun h => h)
      have HBk : Hid (noteBad l[k] = (decide (256 < l[k].1.size) || decide (256 < l[k].2.size))) := rfl
      have HE1 : Hid (noteBad l[k] = true → E = (37, (k : Int))) := fun hx => by
        have e := idx_bad hkl HK.out.2.2 hx
        rw [HE.out]; unfold listsE
        rw [if_neg HC.out.1, if_neg (by have := HC.out.2; omega), e, if_pos hkl]
      have HM : Hid (noteBad l[k] = false → ∀ i (h : i < l.length), i < k + 1 → noteBad l[i] = false) := fun hx i hi hlt => by
        by_cases e : i = k
        · subst e; exact hx
        exact HK.out.2.2 i hi (by omega)
      have HW : Hid (Gr w wr ∧ wr.heap[B]? = some (.cells #[.int .i64 0, .slice none 0 0, .int .i64 0] 60)) := ⟨HK.out.1, HK.out.2.1⟩
      have hbx : ∀ o, (wr.alloc o).heap[B]? = some (.cells #[.int .i64 0, .slice none 0 0, .int .i64 0] 60) := fun o => ((gr_alloc wr o).block _ (lt_of_heap HK.out.2.1) (fun h => h)).trans HK.out.2.1
      have y0 := fun o => (cell3 (hbx o)).1
      have y1 := fun o => (cell3 (hbx o)).2.1
      have y2 := fun o => (cell3 (hbx o)).2.2
      have y3 := fun o => frz (hbx o) 0
      have y4 := fun o => frz (hbx o) 1
      have y5 := fun o => frz (hbx o) 2
      have HBX : Hid _ := hbx
      generalize noteBad l[k] = nb at HBk HE1 HM
      generalize l[k].1 = n0 at *
      generalize l[k].2 = n1 at *
      clear hcs hl hkl HK HN hbx
      have fin : ∀ W4, W4 = (((wr.alloc (.cells #[.string n0, .string n1] 110)).setCell ⟨B, 0, none⟩ (.int .i64 37)).setCell ⟨B, 1, none⟩ (.slice none 0 0)).setCell ⟨B, 2, none⟩ (.int .i64 (k : Int)) → W4.heap[B]? = some (.cells #[.int .i64 37, .slice none 0 0, .int .i64 (k : Int)] 60) ∧ Gr w W4 := by
        intro W4 e
        refine ⟨?_, ?_⟩
        · rw [e, setc (j := 2) (setc (j := 1) (setc (j := 0) (HBX.out _) _) _) _]; simp
        rw [e]
        have k1 : Keeps (wr.alloc (.cells #[.string n0, .string n1] 110)) _ (fun b => b = B) := keep1 (j := 2) (keep1 (j := 1) (keep1 (j := 0) (Keeps.refl (wr.alloc (.cells #[.string n0, .string n1] 110)) (fun b => b = B)) (.int .i64 37)) (.slice none 0 0)) (.int .i64 (k : Int))
        exact (HW.out.1.alloc _).trans (T := fun b => b = B) k1 (fun j hj h => by have := HB.out; omega)
      have HFN : Hid _ := fin
      clear fin
      by_cases d1 : 256 < n0.size
      · have d1' : (256 : Int) < (n0.size : Int) := by omega
        have hnb : nb = true := by rw [HBk.out]; simp [d1]
        have HE2 := hidM (HE1.out hnb)
        clear HE1 HM HBk
        go_wp2_with fail
        obtain ⟨hb4, hg4⟩ := HFN.out _ rfl
        obtain ⟨t0, t1, t2⟩ := cell3 hb4
        refine bodyPost_ret (v := .agg #[.int .i64 37, .slice none 0 0, .int .i64 (k : Int)]) ?_ rfl ?_
        · simp [results, Tryz.f103, go_sem, t0, t1, t2]
        exact ⟨by rw [HE2.out], hg4⟩
      have d1' : ¬ (256 : Int) < (n0.size : Int) := by omega
      by_cases d2 : 256 < n1.size
      · have d2' : (256 : Int) < (n1.size : Int) := by omega
        have hnb : nb = true := by rw [HBk.out]; simp [d2]
        have HE2 := hidM (HE1.out hnb)
        clear HE1 HM HBk
        go_wp2_with fail
        obtain ⟨hb4, hg4⟩ := HFN.out _ rfl
        obtain ⟨t0, t1, t2⟩ := cell3 hb4
        refine bodyPost_ret (v := .agg #[.int .i64 37, .slice none 0 0, .int .i64 (k : Int)]) ?_ rfl ?_
        · simp [results, Tryz.f103, go_sem, t0, t1, t2]
        exact ⟨by rw [HE2.out], hg4⟩
      have d2' : ¬ (256 : Int) < (n1.size : Int) := by omega
      have hnb : nb = false := by rw [HBk.out]; simp; omega
      have HM2 := hidM (HM.out hnb)
      clear HE1 HM HBk
      go_wp2_with fail
      go_roundw
      case rel => exact ⟨k + 1, by omega, by simp, HW.out.1.alloc _, HBX.out _, HM2.out⟩
      case measure => simp [intOf]; omega
    have HE1 : Hid (E = (0, 0)) := by
      have e := idx_good (l := l) fun i hi => HK.out.2.2 i hi (by have := HL.out; omega)
      show _ = _
      rw [HE.out]; unfold listsE
      rw [if_neg HC.out.1, if_neg (by have := HC.out.2; have := HL.out; omega), if_neg e]
    have hg := HK.out.1
    have hbx := HK.out.2.1
    obtain ⟨y0, y1, y2⟩ := cell3 hbx
    have y3 := frz hbx 0
    have y4 := frz hbx 1
    have y5 := frz hbx 2
    have fin : ∀ W4, W4 = ((wr.setCell ⟨B, 0, none⟩ (.int .i64 0)).setCell ⟨B, 1, none⟩ (.slice none 0 0)).setCell ⟨B, 2, none⟩ (.int .i64 0) → W4.heap[B]? = some (.cells #[.int .i64 0, .slice none 0 0, .int .i64 0] 60) ∧ Gr w W4 := by
      intro W4 e
      refine ⟨?_, ?_⟩
      · rw [e, setc (j := 2) (setc (j := 1) (setc (j := 0) hbx _) _) _]; simp
      rw [e]
      have k1 : Keeps wr _ (fun b => b = B) := keep1 (j := 2) (keep1 (j := 1) (keep1 (j := 0) (Keeps.refl wr (fun b => b = B)) (.int .i64 0)) (.slice none 0 0)) (.int .i64 0)
      exact hg.trans (T := fun b => b = B) k1 (fun j hj h => by have := HB.out; omega)
    have HFN : Hid _ := fin
    have hkL : k = L := by omega
    subst hkL
    clear fin HK hg hbx HN
    go_wp2_with fail
    obtain ⟨hb4, hg4⟩ := HFN.out _ rfl
    obtain ⟨t0, t1, t2⟩ := cell3 hb4
    refine bodyPost_ret (v := .agg #[.int .i64 0, .slice none 0 0, .int .i64 0]) ?_ rfl ?_
    · simp [results, Tryz.f103, go_sem, t0, t1, t2]
    exact ⟨by rw [HE1.out], hg4⟩
def IntsAt (W : World) (ao : Option Addr) (l : List Nat) : Prop := l ≠ [] → ∃ b o, ao = some ⟨b, o, none⟩ ∧ ∀ j (h : j < l.length), W.cell? ⟨b, o + j, none⟩ = some (.int .i64 (l[j] : Int))
theorem ints_of_own {W : World} {vo : Option Addr} {n vc : Nat} {l : List Nat} (h : W.ownsRow 0 3 1 (.slice vo n vc) n (ints l)) : IntsAt W vo l := fun hn => by
  have hl : l.length = n := by have := h.1; simpa [ints] using this
  rcases h.2 with ⟨e, h0⟩ | ⟨g, cap, cur, e, _⟩
  · exact absurd (List.eq_nil_of_length_eq_zero (by omega)) hn
  cases e
  refine ⟨g, 0, rfl, fun j hj => ?_⟩
  rw [Nat.zero_add, h.cellAt j (by omega)]
  simp [ints, hj]
end Go.Proofs.YtknnoiomdngmfaaGreatDoor.Kit
namespace Go.Proofs.YtknnoiomdngmfaaGreatDoor.Kit
def nodesC : Nat → List FT → List Nat → Bool → List LS
  | 0, _, _, _ => []
  | d + 1, l, path, inD => (List.range l.length).flatMap fun i => ⟨l, path ++ [i], inD⟩ :: (if path.length + 1 ≤ 64 then nodesC d (l[i]!).kids (path ++ [i]) (inD || decide ((l[i]!).kind = 19)) else [])
def uptoC (d : Nat) (l : List FT) (path : List Nat) (inD : Bool) (i : Nat) : List LS :=
  (List.range i).flatMap fun i => ⟨l, path ++ [i], inD⟩ :: (if path.length + 1 ≤ 64 then nodesC d (l[i]!).kids (path ++ [i]) (inD || decide ((l[i]!).kind = 19)) else [])
theorem nodesC_succ (d : Nat) (l : List FT) (path : List Nat) (inD : Bool) : nodesC (d + 1) l path inD = uptoC d l path inD l.length := rfl
theorem uptoC_zero (d : Nat) (l : List FT) (path : List Nat) (inD : Bool) : uptoC d l path inD 0 = [] := rfl
theorem uptoC_succ (d : Nat) (l : List FT) (path : List Nat) (inD : Bool) (i : Nat) :
    uptoC d l path inD (i + 1) = uptoC d l path inD i ++ ⟨l, path ++ [i], inD⟩ :: (if path.length + 1 ≤ 64 then nodesC d (l[i]!).kids (path ++ [i]) (inD || decide ((l[i]!).kind = 19)) else []) := by
  simp [uptoC, List.range_succ, List.flatMap_append]
theorem uptoC_prefix (d : Nat) (l : List FT) (path : List Nat) (inD : Bool) {i j : Nat} (h : i ≤ j) : uptoC d l path inD i <+: uptoC d l path inD j := by
  induction j with
  | zero => obtain rfl : i = 0 := by omega
            exact List.prefix_rfl
  | succ j ih =>
    by_cases e : i = j + 1
    · subst e; exact List.prefix_rfl
    exact (ih (by omega)).trans (by rw [uptoC_succ]; exact List.prefix_append _ _)
def grown (out new : List LS) : List LS := (out ++ new).take 257
theorem grown_full {out new more : List LS} (h : 256 < (grown out new).length) (hp : new <+: more) : grown out more = grown out new := by
  obtain ⟨t, rfl⟩ := hp
  simp only [grown, List.length_take] at h
  simp only [grown, ← List.append_assoc]
  exact List.take_append_of_le_length (by omega)
theorem grown_room {out new : List LS} (h : (grown out new).length ≤ 256) : grown out new = out ++ new := by
  simp only [grown, List.length_take] at h
  exact List.take_of_length_le (by omega)
theorem grown_le (out new : List LS) : (grown out new).length ≤ 257 := by simp [grown]; omega
theorem grown_step {out new : List LS} (h : (grown out new).length ≤ 256) (x : LS) (kids : List LS) : grown (grown out new ++ [x]) kids = grown out (new ++ x :: kids) := by
  rw [grown_room h]
  simp [grown]
theorem grown_one {out new : List LS} (h : (grown out new).length ≤ 256) (x : LS) : grown out (new ++ [x]) = grown out new ++ [x] := by
  have e := grown_room h
  rw [e]
  rw [e] at h
  simp only [grown, ← List.append_assoc]
  exact List.take_of_length_le (by simp at h ⊢; omega)
theorem cut_same : ∀ (d : Nat) (l : List FT) (path : List Nat) (inD : Bool) (k : Nat), (∀ x ∈ (nodes d l path inD).take k, x.path.length ≤ 64) →
    (nodes d l path inD).take (k + 1) = (nodesC d l path inD).take (k + 1) ∧ ((∀ x ∈ nodes d l path inD, x.path.length ≤ 64) → nodesC d l path inD = nodes d l path inD)
  | 0, _, _, _, _, _ => ⟨rfl, fun _ => rfl⟩
  | d + 1, l, path, inD, k, h => by
    rw [nodes_succ, nodesC_succ]
    rw [nodes_succ] at h
    by_cases hp : path.length + 1 ≤ 64
    · -- the way is short enough here: by the fields within
      have key : ∀ n k, (∀ x ∈ (upto d l path inD n).take k, x.path.length ≤ 64) → (upto d l path inD n).take (k + 1) = (uptoC d l path inD n).take (k + 1) ∧ ((∀ x ∈ upto d l path inD n, x.path.length ≤ 64) → uptoC d l path inD n = upto d l path inD n) := by
        intro n
        induction n with
        | zero => exact fun _ _ => ⟨rfl, fun _ => rfl⟩
        | succ n ih =>
          intro k hk
          have hwhole : (∀ x ∈ upto d l path inD (n + 1), x.path.length ≤ 64) → uptoC d l path inD (n + 1) = upto d l path inD (n + 1) := by
            intro hall
            rw [upto_succ] at hall ⊢
            rw [uptoC_succ, if_pos hp, (ih 0 (by simp)).2 (fun x hx => hall x (List.mem_append_left _ hx)),
              (cut_same d (l[n]!).kids (path ++ [n]) _ 0 (by simp)).2 (fun x hx => hall x (List.mem_append_right _ (List.mem_cons_of_mem _ hx)))]
          refine ⟨?_, hwhole⟩
          rw [upto_succ] at hk ⊢
          rw [uptoC_succ, if_pos hp]
          by_cases hlt : k < (upto d l path inD n).length
          · have h1 := (ih k (fun x hx => hk x (by rw [List.take_append_of_le_length (by omega)]; exact hx))).1
            have hlen : k + 1 ≤ (uptoC d l path inD n).length := by
              have := congrArg List.length h1
              simp only [List.length_take] at this
              omega
            rw [List.take_append_of_le_length (by omega), List.take_append_of_le_length hlen, h1]
          have hall : ∀ x ∈ upto d l path inD n, x.path.length ≤ 64 := fun x hx => hk x (by
            rw [List.take_append]
            exact List.mem_append_left _ (by rw [List.take_of_length_le (by omega)]; exact hx))
          rw [(ih 0 (by simp)).2 hall, List.take_append, List.take_append]
          congr 1
          obtain ⟨m, hm⟩ : ∃ m, k = (upto d l path inD n).length + m := ⟨k - (upto d l path inD n).length, by omega⟩
          have e1 : k + 1 - (upto d l path inD n).length = m + 1 := by omega
          rw [e1, List.take_succ_cons, List.take_succ_cons]
          congr 1
          cases m with
          | zero => simp
          | succ m =>
            refine (cut_same d (l[n]!).kids (path ++ [n]) _ m fun x hx => hk x ?_).1
            rw [List.take_append]
            refine List.mem_append_right _ ?_
            rw [show k - (upto d l path inD n).length = m + 1 by omega, List.take_succ_cons]
            exact List.mem_cons_of_mem _ hx
      exact key l.length k h
    -- the way is too long already: the first is too deep
    cases l with
    | nil => exact ⟨rfl, fun _ => rfl⟩
    | cons f l =>
      obtain ⟨t, ht⟩ : ∃ t, upto d (f :: l) path inD (f :: l).length = ⟨f :: l, path ++ [0], inD⟩ :: t := by
        have := upto_prefix d (f :: l) path inD (i := 1) (j := (f :: l).length) (by simp)
        rw [upto_succ, upto_zero] at this
        obtain ⟨t, ht⟩ := this
        exact ⟨_, ht.symm⟩
      obtain ⟨t', ht'⟩ : ∃ t, uptoC d (f :: l) path inD (f :: l).length = ⟨f :: l, path ++ [0], inD⟩ :: t := by
        have := uptoC_prefix d (f :: l) path inD (i := 1) (j := (f :: l).length) (by simp)
        rw [uptoC_succ, uptoC_zero] at this
        obtain ⟨t, ht⟩ := this
        exact ⟨_, ht.symm⟩
      rw [ht] at h ⊢
      rw [ht']
      cases k with
      | zero => exact ⟨by simp, fun hall => absurd (hall _ (List.mem_cons_self ..)) (by simp; omega)⟩
      | succ k => exact absurd (h _ (by rw [List.take_succ_cons]; exact List.mem_cons_self ..)) (by simp; omega)
end Go.Proofs.YtknnoiomdngmfaaGreatDoor.Kit
namespace Go.Proofs.YtknnoiomdngmfaaGreatDoor.Kit
open Go.RowKit Go.Deep
section
variable {P : Program} (w : World)
theorem run_append_anyN (t tx ty e : TypeId) (i : TypeInfo) (z : Value) (bytes : Nat) (ht : P.underlying t = some (.slice e)) (hi : P.info? e = some i) (hz : i.zero = some z) (size : Nat) (hsize : i.size = size) (hby : i.bytes = bytes) (hzs : z.cells.size = size)
    (v : Value) (n : Nat) (xs : List Value) (hown : w.ownsRow 0 e size v n xs) (x : Value) (m : Nat) (news : List Value) (hs : Src P size tx x m news w)
    (h63 : n + m ≤ 9223372036854775807) (hbytes : (n + m) * bytes ≤ 140737488355328) :
    ∃ v' w', (Builtin.append_ #[t, tx] ty #[v, x]).run P w = .ok v' w' ∧ w'.ownsRow 0 e size v' (n + m) (xs ++ news) ∧ w.grownBy w' v.ownBlock ∧
      (v'.ownBlock = v.ownBlock ∨ ∀ g, v'.ownBlock = some g → w.heap.size ≤ g) := by
  subst hby
  have hlen : (xs ++ news).length = (n + m) * size := by rw [List.length_append, hown.1, hs.newsLen, Nat.add_mul]
  have grown : ∀ (old : Nat), old < n + m → ∀ (row : Option Nat),
      (w.drew.alloc (.cells ((xs ++ news).toArray ++ Builtin.zeroCells z.cells (grownCap w (n + m) old e - (n + m))) e)).ownsRow 0 e size
        (.slice (some ⟨w.heap.size, 0, none⟩) (n + m) (grownCap w (n + m) old e)) (n + m) (xs ++ news) ∧
      w.grownBy (w.drew.alloc (.cells ((xs ++ news).toArray ++ Builtin.zeroCells z.cells (grownCap w (n + m) old e - (n + m))) e)) row := by
    intro old ho row
    have hge := grownCap_ge w (n + m) old e
    have hcm : grownCap w (n + m) old e ≤ maxLen := grownCap_le_maxLen w (n + m) old e h63
    refine ⟨⟨hlen, .inr ⟨w.heap.size, _, _, rfl, Nat.zero_le _, heap_alloc_new w.drew _, hge, hcm, ?_, ?_⟩⟩, ⟨rfl, rfl, rfl, by simp, fun k hk _ => Below.heap_alloc w.drew _ k hk⟩⟩
    · simp only [Array.size_append, List.size_toArray, size_zeroCells, hzs, hlen, ← Nat.add_mul]
      congr 1
      omega
    simp only [Array.toList_append]
    rw [← hlen]
    exact List.take_left
  rcases hown.2 with ⟨rfl, rfl⟩ | ⟨g, cap, cur, rfl, hbg, hg, hnc, hcm, hcs, htake⟩
  · have hx : xs = [] := List.eq_nil_of_length_eq_zero (by simpa using hown.1)
    subst hx
    by_cases hm : m = 0
    · subst hm
      have hn : news = [] := List.eq_nil_of_length_eq_zero (by have := hs.newsLen; simpa using this)
      subst hn
      refine ⟨.slice none 0 0, w, ?_, World.ownsRow_nil w 0 e size, ⟨rfl, rfl, rfl, Nat.le_refl _, fun _ _ _ => rfl⟩, .inl rfl⟩
      have hc := hs.cells
      have hl := hs.len
      rcases hs.kind with ⟨e', hk⟩ | hk <;> simp [Builtin.append_, run_underlying ht, run_underlying hk, sizeOf, typeInfo, hi, hsize, hl, hc]
    have hr := run_append_grow_src (P := P) w t tx ty e i z ht hi hz none 0 0 [] (by simpa using run_firstCells_none w.drew i.size 0 0 0) x m news (by rw [hsize]; exact hs) (by omega) (by omega) (growslice_fits (by omega) hbytes)
    have hgr := grown 0 (by omega) (Value.ownBlock (.slice none 0 0))
    exact ⟨_, _, hr, hgr.1, hgr.2, .inr fun g hg => by simp [Value.ownBlock] at hg; omega⟩
  by_cases hroom : n + m ≤ cap
  · have hl := hs.newsLen
    have hfit : n * i.size + news.length ≤ cur.size := by rw [hl, hcs, hsize, ← Nat.add_mul]; exact Nat.mul_le_mul_right _ hroom
    have hr := run_append_room_row (P := P) w t tx ty e i ht hi g n cap cur hg x m news (by rw [hsize]; exact hs) hroom hfit
    rw [hsize] at hr hfit
    refine ⟨_, _, hr, ⟨hlen, .inr ⟨g, cap, _, rfl, hbg, setRow_heap w g cur _ e _ hg, hroom, hcm, ?_, ?_⟩⟩, ⟨rfl, rfl, rfl, by simp, fun k _ hk => setRow_other w g k _ (fun e => hk (by simp [Value.ownBlock, e]))⟩, .inl rfl⟩
    · simp only [List.size_toArray, List.length_append, List.length_take, List.length_drop, Array.length_toList]
      omega
    rw [htake, ← hlen]
    exact List.take_left
  have holds : ∀ j u, xs[j]? = some u → w.cell? ((⟨g, 0, none⟩ : Addr).add j) = some u := hown.cells (g := g) rfl
  have hr := run_append_grow_src (P := P) w t tx ty e i z ht hi hz (some ⟨g, 0, none⟩) n cap xs (run_firstCells_some w.drew i.size n ⟨g, 0, none⟩ n cap xs (by rw [hsize]; exact hown.1) (by simpa using holds)) x m news (by rw [hsize]; exact hs) (by omega) (by omega) (growslice_fits (by omega) hbytes)
  have hgr := grown cap (by omega) (Value.ownBlock (.slice (some ⟨g, 0, none⟩) n cap))
  exact ⟨_, _, hr, hgr.1, hgr.2, .inr fun g' hg' => by simp [Value.ownBlock] at hg'; omega⟩
theorem wpList_append_anyN {ops : Array Oper} {rest : List Oper} {o : Oper} {a : Act} {Q : Exit → Act → World → Prop} (hgd : o.guard = none) (s x : Operand) (t tx : TypeId)
    (ho : o.op = .call { callee := .builtin .append, args := #[s, x], argTypes := #[t, tx] })
    (e : TypeId) (z : Value) (size bytes : Nat) (ht : P.underlying t = some (.slice e)) (hinfo : (P.info? e).map (fun i => (i.zero, i.size, i.bytes)) = some (some z, size, bytes)) (hzs : z.cells.size = size)
    (v : Value) (n : Nat) (xs : List Value) (hv : a.eval s = v) (hown : w.ownsRow 0 e size v n xs) (y : Value) (m : Nat) (news : List Value) (hx : a.eval x = y) (hs : Src P size tx y m news w)
    (h63 : n + m ≤ 9223372036854775807) (hbytes : (n + m) * bytes ≤ 140737488355328)
    (h : ∀ v' w', w'.ownsRow 0 e size v' (n + m) (xs ++ news) → w.grownBy w' v.ownBlock → (v'.ownBlock = v.ownBlock ∨ ∀ g, v'.ownBlock = some g → w.heap.size ≤ g) → wpList P ops Q rest (a.put o.dst v') w') :
    wpList P ops Q (o :: rest) a w := by
  refine wpList_plain hgd fun K hK' => ?_
  obtain ⟨i, hi, hzz⟩ := Option.map_eq_some_iff.1 hinfo
  simp only [Prod.mk.injEq] at hzz
  obtain ⟨hz, hsz, hb⟩ := hzz
  obtain ⟨v', w', hr, h2, h3, h4⟩ := run_append_anyN (P := P) w t tx o.type e i z bytes ht hi hz size hsz hb hzs v n xs hown y m news hs h63 hbytes
  unfold Oper.wp
  simp [execOp, ho, resolve, invoke, builtin, hv, hx, hr, Result.andThen]
  exact hK' _ _ (h v' w' h2 h3 h4)
theorem step_append_anyN {ops : Array Oper} {o : Oper} {a : Act} {K : Act → World → Prop} {Q : Exit → Act → World → Prop} {E : Prop} (hgd : o.guard = none) (s x : Operand) (t tx : TypeId)
    (ho : o.op = .call { callee := .builtin .append, args := #[s, x], argTypes := #[t, tx] })
    (e : TypeId) (z : Value) (size bytes : Nat) (ht : P.underlying t = some (.slice e)) (hinfo : (P.info? e).map (fun i => (i.zero, i.size, i.bytes)) = some (some z, size, bytes)) (hzs : z.cells.size = size)
    (v : Value) (n : Nat) (xs : List Value) (hv : a.eval s = v) (hown : w.ownsRow 0 e size v n xs) (y : Value) (m : Nat) (news : List Value) (hx : a.eval x = y) (hs : Src P size tx y m news w)
    (h63 : n + m ≤ 9223372036854775807) (hbytes : (n + m) * bytes ≤ 140737488355328)
    (h : ∀ v' w', w'.ownsRow 0 e size v' (n + m) (xs ++ news) → w.grownBy w' v.ownBlock → (v'.ownBlock = v.ownBlock ∨ ∀ g, v'.ownBlock = some g → w.heap.size ≤ g) → K (a.put o.dst v') w') :
    if Region.wanted o (yielded ops a.tmps) = true then Oper.wp P o a w K Q else E := by
  have hw : Region.wanted o (yielded ops a.tmps) = true := by simp [Region.wanted, hgd]
  rw [if_pos hw]
  obtain ⟨i, hi, hzz⟩ := Option.map_eq_some_iff.1 hinfo
  simp only [Prod.mk.injEq] at hzz
  obtain ⟨hz, hsz, hb⟩ := hzz
  obtain ⟨v', w', hr, h2, h3, h4⟩ := run_append_anyN (P := P) w t tx o.type e i z bytes ht hi hz size hsz hb hzs v n xs hown y m news hs h63 hbytes
  unfold Oper.wp
  simp [execOp, ho, resolve, invoke, builtin, hv, hx, hr, Result.andThen]
  exact h v' w' h2 h3 h4
end
end Go.Proofs.YtknnoiomdngmfaaGreatDoor.Kit
