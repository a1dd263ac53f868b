import Derived.Test.YtknnoiomdngmfaaGreatDoorBS
import Derived.Test.YtknnoiomdngmfaaGreatDoorBtB
set_option maxRecDepth 100000
set_option maxHeartbeats 4000000
namespace Go.Proofs.YtknnoiomdngmfaaGreatDoor.Kit
open Go.RowKit Go.Shelf Go.Deep
open Go.Proofs.YtknnoiomdngmfaaGreatDoor.Ink (InkAt InkDone newInk_any number_yes bytes_any leB leB_length OwnRow)
set_option linter.unusedVariables false
set_option linter.unusedSimpArgs false
attribute [local go_sem] run_store_func
def leAll (xs : List Int) : List Int := xs.flatMap fun x => leB (IntKind.u64.wrap x) 1
theorem leAll_len (xs : List Int) : (leAll xs).length = xs.length := by
  induction xs with
  | nil => rfl
  | cons x xs ih => show (leB _ 1 ++ leAll xs).length = _; rw [List.length_append, leB_length, ih, List.length_cons]; omega
theorem leAll_snoc (xs : List Int) (x : Int) : leAll (xs ++ [x]) = leAll xs ++ leB (IntKind.u64.wrap x) 1 := by simp [leAll]
def iv (x : Int) : Value := .int .i64 x
theorem row_cell {W : World} {e n : Nat} {lo : Option Addr} {lc : Nat} {ys : List Value} (h : W.ownsRow 0 e 1 (.slice lo n lc) n ys) {k : Nat} (hk : k < n) : ∃ g, lo = some ⟨g, 0, none⟩ ∧ W.cell? ⟨g, k, none⟩ = ys[k]? := by
  rcases h.2 with ⟨h1, h2⟩ | ⟨g, cap, cur, h1, _, hg, hn, _, hs, ht⟩
  · omega
  cases h1
  refine ⟨g, rfl, ?_⟩
  rw [← ht]
  simp [World.cell?, hg, hk]
theorem row_len {W : World} {e n : Nat} {v : Value} {ys : List Value} (h : W.ownsRow 0 e 1 v n ys) : ys.length = n := by
  rcases h.2 with ⟨h1, h2⟩ | ⟨g, cap, cur, h1, _, hg, hn, _, hs, ht⟩
  · have := h.1; omega
  have := congrArg List.length ht; simp at this; omega
def NkI (W wr : World) (xs : List Int) (k : Nat) : Prop := ∃ go, InkAt wr 417 W.heap.size go 65536 (leAll (xs.take k)) ∧ Gr W wr ∧ ∀ g, go = some g → W.heap.size ≤ g
theorem numbered263 (lo : Option Addr) (lc : Nat) (xs : List Int) (W : World) (ho : W.ownsRow 0 2 1 (.slice lo xs.length lc) xs.length (xs.map iv)) (hL : xs.length ≤ 4096) :
    Calls Tryz.prog 443 #[.slice lo xs.length lc, .int .i64 1] W fun e w' => ∃ g, e = .returned (.slice (some ⟨g, 0, none⟩) (xs.length) (xs.length)) ∧ Gr W w' ∧ W.heap.size ≤ g ∧ OwnRow w' g 5 ((leAll xs).map (Value.int .u8)) := by
  obtain ⟨n, hn⟩ : ∃ n, n = xs.length := ⟨_, rfl⟩
  rw [← hn] at ho hL ⊢
  have HO := hidM ho
  have Hn := hidM hn
  have hcl : Ink.clamp 65536 = 65536 := by decide
  have HI : Hid (NkI W (W.alloc (.cells #[.slice none 0 0, .int .i64 65536] 417)) xs 0) := ⟨none, Ink.InkAt.new W 417 65536, gr_alloc W _, fun g e => by cases e⟩
  clear ho hn
  go_enter Tryz.func443, Tryz.ntmps443
  go_wp2_with (go_at_call 363; refine (newInk_any 65536 _).mono ?_; rintro e w1 ⟨rfl, rfl⟩; rw [hcl])
  go_loopw [11] (fun i wr => ∃ k : Nat, k ≤ n ∧ i = .int .i64 k ∧ Hid (NkI W wr xs k)) (fun i _ => n - (intOf i).toNat)
  case atStart => exact ⟨0, by omega, rfl, HI⟩
  case round =>
    clear HI
    obtain ⟨k, hk, rfl, HI⟩ := hrel
    by_cases hlt : k < n
    · obtain ⟨g, rfl, hc⟩ := row_cell HO.out hlt
      have hxk : k < xs.length := by have := Hn.out; omega
      obtain ⟨y, hy⟩ : ∃ y, xs[k]? = some y := ⟨_, List.getElem?_eq_getElem hxk⟩
      have hc' : wr.cell? ⟨g, k, none⟩ = some (.int .i64 y) := by
        obtain ⟨go, _, hgr, _⟩ := HI.out
        rw [List.getElem?_map, hy] at hc
        exact hgr.cell' hc id
      have HN : Hid (Calls Tryz.prog 364 #[.pointer (some ⟨W.heap.size, 0, none⟩), .int .u64 (IntKind.u64.wrap y), .int .i64 1] wr fun e w' => e = .returned (.int .i64 0) ∧ NkI W w' xs (k + 1)) := by
        obtain ⟨go, hI, hgr, hgo⟩ := HI.out
        have hlen := leAll_len (xs.take k)
        rw [List.length_take] at hlen
        refine (number_yes W.heap.size go 65536 (leAll (xs.take k)) (IntKind.u64.wrap y) 1 wr hI (by decide) (by decide) (by have := Hn.out; omega) (by decide) (by decide)).mono ?_
        rintro e w' ⟨rfl, go', hI', hk', hb⟩
        refine ⟨rfl, go', ?_, hgr.trans hk' (fun j hj e => ?_), fun q e => ?_⟩
        · rw [List.take_add_one, hy]
          show InkAt w' 417 W.heap.size go' 65536 (leAll (xs.take k ++ [y]))
          rw [leAll_snoc]
          exact hI'
        · rcases e with e | e
          · have e' : j = W.heap.size := e; omega
          have := hgo j e; omega
        rcases hb with e2 | e2
        · exact hgo q (e2 ▸ e)
        exact Nat.le_trans hgr.size (e2 q e)
      clear hc hy hxk HI
      go_wp2_with (go_at_call 364; refine HN.out.mono ?_; rintro e w2 ⟨rfl, hq⟩; have HQ := hidM hq; clear hq)
      go_roundw
      case rel => exact ⟨k + 1, by omega, by go_num, HQ⟩
      case measure => simp [intOf]; omega
    obtain rfl : k = n := by omega
    have HB : Hid (Calls Tryz.prog 365 #[.pointer (some ⟨W.heap.size, 0, none⟩)] wr fun e w' => ∃ g, e = .returned (.slice (some ⟨g, 0, none⟩) (k) (k)) ∧ Gr W w' ∧ W.heap.size ≤ g ∧ OwnRow w' g 5 ((leAll xs).map (Value.int .u8))) := by
      obtain ⟨go, hI, hgr, hgo⟩ := HI.out
      have hkn := Hn.out
      rw [hkn, List.take_length] at hI
      have hlen := leAll_len xs
      refine (bytes_any W.heap.size go 65536 (leAll xs) wr hI (by omega)).mono ?_
      rintro e w' ⟨rfl, hr, hb⟩
      refine ⟨wr.heap.size, by rw [hlen, hkn], hgr.trans (Keeps.ofBelow hb) (fun j hj e => ?_), hgr.size, hr⟩
      have := hgr.size
      omega
    clear HI HO
    go_wp2_with (go_at_call 365; refine HB.out.mono ?_; rintro e w2 ⟨g, rfl, hq⟩; have HQ := hidM hq; clear hq)
    go_ret
    exact ⟨g, rfl, HQ.out⟩
end Go.Proofs.YtknnoiomdngmfaaGreatDoor.Kit
namespace Go.Proofs.YtknnoiomdngmfaaGreatDoor.Kit
open Go.RowKit Go.Shelf Go.Deep
open Go.Proofs.YtknnoiomdngmfaaGreatDoor.Ink (OwnRow)
set_option linter.unusedVariables false
set_option linter.unusedSimpArgs false
attribute [local go_sem] run_store_func
def offs (l : List Bool) : Nat := (l.filter (! ·)).length
theorem offs_snoc (l : List Bool) (b : Bool) : offs (l ++ [b]) = offs l + (if b = true then 0 else 1) := by
  unfold offs
  cases b <;> simp
theorem offs_le (l : List Bool) : offs l ≤ l.length := List.length_filter_le _ _
def dC (L nulls : Int) (bv : Value) : Array Value := #[.int .i64 L, .int .i64 0, .int .i64 nulls, bv, .slice none 0 0, .slice none 0 0]
def MkI (A wr : World) (d n : Nat) (bs : List Bool) (k : Nat) : Prop := wr.heap[d]? = some (.cells (dC n (offs (bs.take k)) (.slice none 0 0)) 54) ∧ Keeps A wr (fun z => z = d)
theorem info38 : (Tryz.prog.info? 50).map (fun i => (i.zero, i.size, i.bytes)) = some (some (.slice none 0 0), 1, 24) := by kernel_rfl
def MaskQ (W w' : World) (bs : List Bool) (v : Value) : Prop := if offs bs = 0 then v = .slice none 0 0 else Bits.New W w' 5 v ((Bits.mk (fun j => bs.getD j false) bs.length).map fun x : Nat => .int .u8 x)
def mkU (w4 : World) (r n N : Nat) (bv : Value) : World := setAll w4 r [(0, .int .i64 n), (1, .int .i64 0), (2, .int .i64 N), (3, bv), (4, .slice none 0 0), (5, .slice none 0 0)]
structure MTail (W A w1 : World) (n N q : Nat) (val nb : Value) : Prop where
  own : (w1.alloc (.cells #[val] 50)).ownsRow 0 50 1 (.slice (some ⟨w1.heap.size, 0, none⟩) 1 1) 1 [val]
  src : Src Tryz.prog 1 51 (.slice (some ⟨q, 0, none⟩) 1 1) 1 [nb] (w1.alloc (.cells #[val] 50))
  nxt : ∀ w3 uo uc, w3.ownsRow 0 50 1 (.slice uo 2 uc) 2 [val, nb] → (w1.alloc (.cells #[val] 50)).grownBy w3 (Value.slice (some ⟨w1.heap.size, 0, none⟩) 1 1).ownBlock → ((Value.slice uo 2 uc).ownBlock = (Value.slice (some ⟨w1.heap.size, 0, none⟩) 1 1).ownBlock ∨ ∀ g, (Value.slice uo 2 uc).ownBlock = some g → (w1.alloc (.cells #[val] 50)).heap.size ≤ g) →
    w3.heap[W.heap.size + 1]? = some (.cells (dC n N (.slice none 0 0)) 54) ∧ (w3.setCell ⟨W.heap.size + 1, 3, none⟩ (.slice uo 2 uc)).heap[W.heap.size + 1]? = some (.cells (dC n N (.slice uo 2 uc)) 54) ∧ (w3.setCell ⟨W.heap.size + 1, 3, none⟩ (.slice uo 2 uc)).heap[W.heap.size]? = some (.cells (dC 0 0 (.slice none 0 0)) 54) ∧
    (mkU (w3.setCell ⟨W.heap.size + 1, 3, none⟩ (.slice uo 2 uc)) W.heap.size n N (.slice uo 2 uc)).heap[W.heap.size]? = some (.cells (dC n N (.slice uo 2 uc)) 54) ∧
    Keeps w1 (mkU (w3.setCell ⟨W.heap.size + 1, 3, none⟩ (.slice uo 2 uc)) W.heap.size n N (.slice uo 2 uc)) (fun z => z = W.heap.size ∨ z = W.heap.size + 1) ∧
    (mkU (w3.setCell ⟨W.heap.size + 1, 3, none⟩ (.slice uo 2 uc)) W.heap.size n N (.slice uo 2 uc)).ownsRow 0 50 1 (.slice uo 2 uc) 2 [val, nb] ∧ ∀ g, (Value.slice uo 2 uc).ownBlock = some g → W.heap.size ≤ g
theorem mask_tail {W A w1 : World} {n N q : Nat} {val nb : Value} (gA : Gr W A) (hsz : A.heap.size = W.heap.size + 2) (hr0 : A.heap[W.heap.size]? = some (.cells (dC 0 0 (.slice none 0 0)) 54)) (hk : Keeps A w1 (fun z => z = W.heap.size + 1)) (hd : w1.heap[W.heap.size + 1]? = some (.cells (dC n N (.slice none 0 0)) 54)) (hq : W.heap[q]? = some (.cells #[nb] 50)) (hnb : nb.oneCell' = true) : MTail W A w1 n N q val nb := by
  have hs1 := hk.size
  have hr1 := (hk.block W.heap.size (by omega) (by omega)).trans hr0
  have hq1 : w1.heap[q]? = some (.cells #[nb] 50) := by
    have hl := lt_of_heap hq
    exact (hk.block q (by omega) (by omega)).trans ((gA.block q hl id).trans hq)
  have g2 := gr_alloc w1 (.cells #[val] 50)
  refine ⟨⟨rfl, .inr ⟨w1.heap.size, 1, #[val], rfl, Nat.zero_le _, heap_alloc_new w1 _, Nat.le_refl _, by decide, rfl, rfl⟩⟩, ?_, ?_⟩
  · refine Src.ofSlice (w := w1.alloc (.cells #[val] 50)) Tryz.underlying51 ⟨q, 0, none⟩ 1 1 [nb] rfl (fun j v hj => ?_) (fun v hv => by simp at hv; subst hv; exact hnb)
    cases j with
    | zero =>
      cases hj
      have hh := (g2.block q (lt_of_heap hq1) id).trans hq1
      show (w1.alloc (.cells #[val] 50)).cell? ⟨q, 0, none⟩ = some nb
      unfold World.cell?
      rw [hh]
      rfl
    | succ j => simp at hj
  intro w3 uo uc ha1 ha2 ha3
  have hk3 : Keeps w1 w3 (fun _ => False) := g2.trans (Keeps.ofGrown ha2) (fun j hj e => by simp [Value.ownBlock] at e; omega)
  have hd3 := (hk3.block _ (lt_of_heap hd) id).trans hd
  have hr3 := (hk3.block _ (lt_of_heap hr1) id).trans hr1
  have hk4 : Keeps w3 (w3.setCell ⟨W.heap.size + 1, 3, none⟩ (.slice uo 2 uc)) (fun z => z = W.heap.size ∨ z = W.heap.size + 1) := Keeps.setCell (p := ⟨W.heap.size + 1, 3, none⟩) (Keeps.refl w3 _) (fun _ => .inr rfl) _
  have hd4 : (w3.setCell ⟨W.heap.size + 1, 3, none⟩ (.slice uo 2 uc)).heap[W.heap.size + 1]? = some (.cells (dC n N (.slice uo 2 uc)) 54) := by rw [heap_setCell_same w3 _ 3 _ _ _ hd3]; rfl
  have hr4 : (w3.setCell ⟨W.heap.size + 1, 3, none⟩ (.slice uo 2 uc)).heap[W.heap.size]? = some (.cells (dC 0 0 (.slice none 0 0)) 54) := (heap_setCell_other _ _ _ _ (show W.heap.size ≠ W.heap.size + 1 by omega)).trans hr3
  have hkU : Keeps (w3.setCell ⟨W.heap.size + 1, 3, none⟩ (.slice uo 2 uc)) (mkU (w3.setCell ⟨W.heap.size + 1, 3, none⟩ (.slice uo 2 uc)) W.heap.size n N (.slice uo 2 uc)) (fun z => z = W.heap.size ∨ z = W.heap.size + 1) := (setAll_kp _ _ _).mono (fun _ _ e => .inl e)
  have hk3U := Keeps.trans hk4 hkU (fun _ _ e => e)
  refine ⟨hd3, hd4, hr4, ?_, Keeps.trans (hk3.mono (fun _ _ e => e.elim)) hk3U (fun _ _ e => e), row_kp ha1 fun g e => hk3U.block g (own_lt ha1 g e) (fun e2 => ?_), fun g e => ?_⟩
  · rw [show mkU (w3.setCell ⟨W.heap.size + 1, 3, none⟩ (.slice uo 2 uc)) W.heap.size n N (.slice uo 2 uc) = setAll (w3.setCell ⟨W.heap.size + 1, 3, none⟩ (.slice uo 2 uc)) W.heap.size _ from rfl, setAll_blk W.heap.size 54 _ _ _ hr4]
    simp [setsA, dC]
  · rcases e2 with rfl | rfl
    · exact own_ne hr3 ha1 (by decide) e
    exact own_ne hd3 ha1 (by decide) e
  rcases ha3 with e2 | e2
  · rw [e2] at e
    simp [Value.ownBlock] at e
    omega
  have := e2 g e
  have := g2.size
  omega
theorem results_cell31 {fn : Func} {t : Tmp} {tmps : Array Value} {g : Nat} {cs : Array Value} {w : World} (h : fn.results = #[.cell t 54]) (ht : tmps.getD t undef = .pointer (some ⟨g, 0, none⟩)) (hg : w.heap[g]? = some (.cells cs 54 (0, 0))) (hi : (Tryz.prog.info? 54).map (·.size) = some cs.size) :
    (results fn tmps).run Tryz.prog w = .ok (.agg cs) w := by
  have hl := run_loadVar_row (P := Tryz.prog) w g 54 54 cs (0, 0) _ hg Tryz.underlying54 rfl hi
  unfold results
  rw [h]
  simp only [Array.mapM_eq_mapM_toList, List.mapM_cons, List.mapM_nil, ht]
  simp [asAddr, hl]
theorem new_form {w w' : World} {t : Nat} {v : Value} {xs : List Value} (h : Bits.New w w' t v xs) : ∃ o l c, v = .slice o l c := by
  obtain ⟨o, c, e⟩ := own_formN h.1
  exact ⟨o, _, c, e⟩
theorem masked171 (vo : Option Addr) (vc : Nat) (bs : List Bool) (q : Nat) (nb : Value) (W : World) (hv : W.ownsRow 0 4 1 (.slice vo bs.length vc) bs.length (bs.map Value.bool)) (hL : bs.length ≤ 4096) (hq : W.heap[q]? = some (.cells #[nb] 50)) (hnb : nb.oneCell' = true) :
    Calls Tryz.prog 353 #[.slice vo bs.length vc, .slice (some ⟨q, 0, none⟩) 1 1] W fun e w' => ∃ bo bc val, e = .returned (.agg (dC bs.length (offs bs) (.slice bo 2 bc))) ∧ Gr W w' ∧ MaskQ W w' bs val ∧ w'.ownsRow 0 50 1 (.slice bo 2 bc) 2 [val, nb] ∧ ∀ g, (Value.slice bo 2 bc).ownBlock = some g → W.heap.size ≤ g := by
  obtain ⟨n, hn⟩ : ∃ n, n = bs.length := ⟨_, rfl⟩
  rw [← hn] at hv hL ⊢
  have HV := hidM hv
  have Hn := hidM hn
  have HQ := hidM hq
  obtain ⟨A, hA⟩ := ex ((W.alloc (.cells (dC 0 0 (.slice none 0 0)) 54)).alloc (.cells (dC n 0 (.slice none 0 0)) 54))
  have gA : Gr W A := by rw [← hA]; exact (gr_alloc W _).tr (gr_alloc _ _)
  have hd0 : A.heap[W.heap.size + 1]? = some (.cells (dC n 0 (.slice none 0 0)) 54) := by
    have e2 := heap_alloc_new (W.alloc (.cells (dC 0 0 (.slice none 0 0)) 54)) (.cells (dC n 0 (.slice none 0 0)) 54)
    rw [show (W.alloc (.cells (dC 0 0 (.slice none 0 0)) 54)).heap.size = W.heap.size + 1 by simp, hA] at e2
    exact e2
  have hr0 : A.heap[W.heap.size]? = some (.cells (dC 0 0 (.slice none 0 0)) 54) := by
    have e1 := heap_alloc_new W (.cells (dC 0 0 (.slice none 0 0)) 54)
    rw [← hA]
    exact ((gr_alloc _ _).block _ (lt_of_heap e1) id).trans e1
  have hsz : A.heap.size = W.heap.size + 2 := by rw [← hA]; simp
  have HSZ := hidM hsz
  have HR0 := hidM hr0
  have HGA := hidM gA
  have HI0 : Hid (MkI A A (W.heap.size + 1) n bs 0) := ⟨hd0, Keeps.refl A _⟩
  have HVA : Hid (∀ wr, Keeps A wr (fun z => z = W.heap.size + 1) → wr.ownsRow 0 4 1 (.slice vo n vc) n (bs.map Value.bool)) := fun wr hk => row_kp hv fun g e => by
    have hlt := own_lt hv g e
    exact (hk.block g (by omega) (by omega)).trans (gA.block g hlt id)
  clear hv hn hq gA hd0 hr0 hsz
  unfold dC at hA
  have HA := hidM hA
  clear hA
  go_enter Tryz.func353, Tryz.ntmps353
  go_wp2_with fail
  rw [HA.out]
  go_loopw [14] (fun i wr => ∃ k : Nat, k ≤ n ∧ i = .int .i64 k ∧ Hid (MkI A wr (W.heap.size + 1) n bs k)) (fun i _ => n - (intOf i).toNat)
  case atStart => exact ⟨0, by omega, rfl, HI0⟩
  case round =>
    clear HI0
    obtain ⟨k, hk, rfl, HI⟩ := hrel
    by_cases hlt : k < n
    · obtain ⟨g, rfl, hc⟩ := row_cell (HVA.out wr HI.out.2) hlt
      have hxk : k < bs.length := by have := Hn.out; omega
      obtain ⟨y, hy⟩ : ∃ y, bs[k]? = some y := ⟨_, List.getElem?_eq_getElem hxk⟩
      rw [List.getElem?_map, hy] at hc
      have hc' : wr.cell? ⟨g, k, none⟩ = some (.bool y) := hc
      have hofk : offs (bs.take (k + 1)) = offs (bs.take k) + (if y = true then 0 else 1) := by
        rw [List.take_add_one, hy]
        exact offs_snoc _ _
      have hole : offs (bs.take k) ≤ 4096 := by
        have h1 := offs_le (bs.take k)
        rw [List.length_take] at h1
        omega
      obtain ⟨N, hN⟩ := ex (offs (bs.take k))
      have hd : wr.heap[W.heap.size + 1]? = some (.cells #[.int .i64 n, .int .i64 0, .int .i64 N, .slice none 0 0, .slice none 0 0, .slice none 0 0] 54) := by rw [← hN]; exact HI.out.1
      obtain ⟨d0, d1, d2, d3, d4, d5⟩ := cell6 hd
      have z2 := frz hd 2
      have hwr : IntKind.i64.wrap (N + 1 : Int) = ((N + 1 : Nat) : Int) := by rw [IntKind.wrap_i64]; omega
      have HI2 : Hid (y = false → MkI A (wr.setCell ⟨W.heap.size + 1, 2, none⟩ (.int .i64 ((N + 1 : Nat) : Int))) (W.heap.size + 1) n bs (k + 1)) := fun hy0 => by
        refine ⟨?_, Keeps.setCell HI.out.2 (fun _ => rfl) _⟩
        rw [heap_setCell_same wr _ 2 _ _ _ hd, hofk, hN, hy0]
        rfl
      have HI1 : Hid (y = true → MkI A wr (W.heap.size + 1) n bs (k + 1)) := fun hy1 => by
        refine ⟨?_, HI.out.2⟩
        rw [hofk, if_pos hy1, Nat.add_zero]
        exact HI.out.1
      clear hc hy hxk hofk hole hN HI hd
      cases y with
      | true =>
        have HQ : Hid (MkI A wr (W.heap.size + 1) n bs (k + 1)) := HI1.out rfl
        clear HI1 HI2
        go_wp2_with fail
        go_roundw
        case rel => exact ⟨k + 1, by omega, by go_num, HQ⟩
        case measure => simp [intOf]; omega
      | false =>
        have HQ : Hid (MkI A (wr.setCell ⟨W.heap.size + 1, 2, none⟩ (.int .i64 ((N + 1 : Nat) : Int))) (W.heap.size + 1) n bs (k + 1)) := HI2.out rfl
        clear HI1 HI2
        go_wp2_with fail
        go_roundw
        case rel => exact ⟨k + 1, by omega, by go_num, HQ⟩
        case measure => simp [intOf]; omega
    obtain rfl : k = n := by omega
    have hod : offs (bs.take k) = offs bs := by rw [Hn.out, List.take_length]
    have hole : offs bs ≤ 4096 := by have h1 := offs_le bs; have h2 := Hn.out; omega
    obtain ⟨N, hN⟩ := ex (offs bs)
    have hd : wr.heap[W.heap.size + 1]? = some (.cells (dC k N (.slice none 0 0)) 54) := by rw [← hN, ← hod]; exact HI.out.1
    have hkr := HI.out.2
    have HD := hidM hd
    have HK := hidM hkr
    have HNN := hidM hN
    obtain ⟨d0, d1, d2, d3, d4, d5⟩ := cell6 hd
    clear hod hd hkr HI
    by_cases hz : N = 0
    · have hz' : ¬ ((0 : Int) < (N : Int)) := by omega
      have HZ := hidM hz
      clear hz
      have HM := hidM (mask_tail (val := .slice none 0 0) HGA.out HSZ.out HR0.out HK.out HD.out HQ.out hnb)
      go_wp2_with (at_builtin; refine Hid.out ?_)
      unfold Hid
      refine wpList_append_any _ rfl (.tmp 31) (.tmp 32) 51 51 rfl 50 (.slice none 0 0) 24 Tryz.underlying51 info38 rfl (.slice (some ⟨wr.heap.size, 0, none⟩) 1 1) 1 [.slice none 0 0] rfl HM.out.own (.slice (some ⟨q, 0, none⟩) 1 1) 1 [nb] rfl HM.out.src (by omega) (by omega) ?_
      intro v' w3 ha1 ha2 ha3
      obtain ⟨uo, uc, rfl⟩ := own_formN ha1
      obtain ⟨k1, k2, k3, k4, k5, k6, k7⟩ := HM.out.nxt w3 uo uc ha1 ha2 ha3
      have HE := hidM (And.intro k5 (And.intro k6 k7))
      clear d0 d1 d2 d3 d4 d5 ha1 ha2 ha3 k5 k6 k7
      obtain ⟨w4, hw4⟩ := ex (w3.setCell ⟨W.heap.size + 1, 3, none⟩ (.slice uo 2 uc))
      rw [hw4] at k2 k3 k4 HE
      obtain ⟨U, hU⟩ := ex (mkU w4 W.heap.size k N (.slice uo 2 uc))
      rw [hU] at k4 HE
      simp only [mkU, setAll] at hU
      obtain ⟨d0, d1, d2, d3, d4, d5⟩ := cell6 k1
      have z3 := frz k1 3
      obtain ⟨f0, f1, f2, f3, f4, f5⟩ := cell6 k2
      obtain ⟨g0, g1, g2, g3, g4, g5⟩ := cell6 k3
      obtain ⟨y0, y1, y2, y3, y4, y5⟩ := frz6 k3
      obtain ⟨h0, h1, h2, h3, h4, h5⟩ := cell6 k4
      clear k1 k2 k3 HM
      have HK4 := hidM k4
      clear k4
      go_wp2_with fail
      (try simp only [Exit.inBlock, Exit.then])
      refine bodyPost_ret (results_cell31 rfl rfl (by with_reducible exact HK4.out) (by kernel_rfl)) rfl ?_
      obtain ⟨k5, k6, k7⟩ := HE.out
      refine ⟨uo, uc, .slice none 0 0, by rw [HNN.out], ?_, ?_, k6, k7⟩
      · refine (HGA.out.trans HK.out (fun j hj e => ?_)).trans k5 (fun j hj e => ?_)
        · have e' : j = W.heap.size + 1 := e; omega
        rcases e with e | e <;> omega
      unfold MaskQ; rw [if_pos (HNN.out.trans HZ.out)]
    have hz' : ((0 : Int) < (N : Int)) := by omega
    have HB : Hid (Bits.BoolsAt wr vo k (fun j => bs.getD j false)) := fun hpos => by
      obtain ⟨g, rfl, -⟩ := row_cell (HVA.out wr HK.out) hpos
      refine ⟨g, 0, rfl, fun j hj => ?_⟩
      obtain ⟨g', e, hc⟩ := row_cell (HVA.out wr HK.out) hj
      cases e
      have hxk : j < bs.length := by have := Hn.out; omega
      rw [List.getElem?_map, List.getElem?_eq_getElem hxk] at hc
      rw [Nat.zero_add, hc]
      show _ = some (Value.bool (bs.getD j false))
      rw [List.getD_eq_getElem?_getD, List.getElem?_eq_getElem hxk]
      rfl
    go_wp2_with (first
      | (go_at_call 354; refine (Bits.make_any vo k vc _ (by omega) _ HB.out).mono ?_; rintro e w1 ⟨val, rfl, hnew⟩; obtain ⟨va, vl, vcc, rfl⟩ := new_form hnew; have HNW := hidM hnew; clear d0 d1 d2 d3 d4 d5; obtain ⟨d0, d1, d2, d3, d4, d5⟩ := cell6 ((hnew.2.2.block _ (lt_of_heap HD.out) id).trans HD.out); clear hnew)
      | (at_builtin; refine Hid.out ?_))
    have HM := hidM (mask_tail (val := .slice va vl vcc) HGA.out HSZ.out HR0.out (HK.out.trans HNW.out.2.2 (fun _ _ e => e.elim)) ((HNW.out.2.2.block _ (lt_of_heap HD.out) id).trans HD.out) HQ.out hnb)
    unfold Hid
    refine wpList_append_any _ rfl (.tmp 31) (.tmp 32) 51 51 rfl 50 (.slice none 0 0) 24 Tryz.underlying51 info38 rfl (.slice (some ⟨w1.heap.size, 0, none⟩) 1 1) 1 [.slice va vl vcc] rfl HM.out.own (.slice (some ⟨q, 0, none⟩) 1 1) 1 [nb] rfl HM.out.src (by omega) (by omega) ?_
    intro v' w3 ha1 ha2 ha3
    obtain ⟨uo, uc, rfl⟩ := own_formN ha1
    obtain ⟨k1, k2, k3, k4, k5, k6, k7⟩ := HM.out.nxt w3 uo uc ha1 ha2 ha3
    have HE := hidM (And.intro k5 (And.intro k6 k7))
    clear d0 d1 d2 d3 d4 d5 ha1 ha2 ha3 k5 k6 k7
    obtain ⟨w4, hw4⟩ := ex (w3.setCell ⟨W.heap.size + 1, 3, none⟩ (.slice uo 2 uc))
    rw [hw4] at k2 k3 k4 HE
    obtain ⟨U, hU⟩ := ex (mkU w4 W.heap.size k N (.slice uo 2 uc))
    rw [hU] at k4 HE
    simp only [mkU, setAll] at hU
    obtain ⟨d0, d1, d2, d3, d4, d5⟩ := cell6 k1
    have z3 := frz k1 3
    obtain ⟨f0, f1, f2, f3, f4, f5⟩ := cell6 k2
    obtain ⟨g0, g1, g2, g3, g4, g5⟩ := cell6 k3
    obtain ⟨y0, y1, y2, y3, y4, y5⟩ := frz6 k3
    obtain ⟨h0, h1, h2, h3, h4, h5⟩ := cell6 k4
    clear k1 k2 k3 HM
    have HK4 := hidM k4
    clear k4
    go_wp2_with fail
    (try simp only [Exit.inBlock, Exit.then])
    refine bodyPost_ret (results_cell31 rfl rfl (by with_reducible exact HK4.out) (by kernel_rfl)) rfl ?_
    obtain ⟨k5, k6, k7⟩ := HE.out
    have hk1 := HK.out.trans HNW.out.2.2 (fun _ _ e => e.elim)
    have hgU : Gr W U := (HGA.out.trans hk1 (fun j hj (e : j = W.heap.size + 1) => by omega)).trans k5 (fun j hj e => by rcases e with e | e <;> omega)
    refine ⟨uo, uc, .slice va vl vcc, by rw [HNN.out], hgU, ?_, k6, k7⟩
    unfold MaskQ
    rw [if_neg (by rw [HNN.out]; exact hz), ← Hn.out]
    have hsA := HSZ.out
    have hsK := HK.out.size
    have hsN := HNW.out.2.2.size
    refine ⟨row_kp HNW.out.1 fun g e => k5.block g (own_lt HNW.out.1 g e) (fun e2 => ?_), fun g e => ?_, hgU⟩
    · have := HNW.out.2.1 g e
      rcases e2 with e2 | e2 <;> omega
    have := HNW.out.2.1 g e
    omega
def DatA (W w' : World) (L : Nat) (bs : List Bool) (xs : List Int) (bo : Option Addr) (bc : Nat) : Prop := ∃ val g, MaskQ W w' bs val ∧ w'.ownsRow 0 50 1 (.slice bo 2 bc) 2 [val, .slice (some ⟨g, 0, none⟩) (L) (L)] ∧ (∀ g, (Value.slice bo 2 bc).ownBlock = some g → W.heap.size ≤ g) ∧ OwnRow w' g 5 ((leAll xs).map (Value.int .u8)) ∧ W.heap.size ≤ g
theorem MaskQ.gr {W U w' u : World} {bs : List Bool} {v : Value} (h : MaskQ U w' bs v) (g0 : Gr W U) (g : Keeps w' u (fun z => ∃ c, w'.heap[z]? = some (.cells c 54))) (gu : Gr W u) : MaskQ W u bs v := by
  unfold MaskQ at *
  by_cases hz : offs bs = 0
  · rw [if_pos hz] at *; exact h
  rw [if_neg hz] at *
  refine ⟨row_kp h.1 fun q e => g.block q (own_lt h.1 q e) (fun ⟨c, hc⟩ => ?_), fun q e => Nat.le_trans g0.size (h.2.1 q e), gu⟩
  exact own_ne hc h.1 (by decide) e
theorem DatA.gr {W U w' u : World} {L : Nat} {bs : List Bool} {xs : List Int} {bo : Option Addr} {bc : Nat} (h : DatA U w' L bs xs bo bc) (g0 : Gr W U) (g : Keeps w' u (fun z => ∃ c, w'.heap[z]? = some (.cells c 54))) (gu : Gr W u) : DatA W u L bs xs bo bc := by
  obtain ⟨val, q, h1, h2, h3, h4, h5⟩ := h
  refine ⟨val, q, h1.gr g0 g gu, row_kp h2 fun q e => g.block q (own_lt h2 q e) (fun ⟨c, hc⟩ => own_ne hc h2 (by decide) e), fun q e => Nat.le_trans g0.size (h3 q e), ?_, Nat.le_trans g0.size h5⟩
  refine (g.block q (lt_of_heap h4) (fun ⟨c, hc⟩ => ?_)).trans h4
  rw [h4] at hc
  simp at hc
theorem data259 (m L : Nat) (lo : Option Addr) (lc : Nat) (xs : List Int) (vo : Option Addr) (vc : Nat) (bs : List Bool) (W : World) (hm : W.heap[m]? = some (.cells #[.int .i64 1, .slice lo L lc] 344)) (hl : W.ownsRow 0 2 1 (.slice lo L lc) L (xs.map iv)) (hv : W.ownsRow 0 4 1 (.slice vo L vc) L (bs.map Value.bool)) (hL : L ≤ 4000) :
    Calls Tryz.prog 439 #[.pointer (some ⟨m, 0, none⟩), .slice vo L vc] W fun e w' => ∃ bo bc, e = .returned (.agg (dC L (offs bs) (.slice bo 2 bc))) ∧ Gr W w' ∧ DatA W w' L bs xs bo bc := by
  have hxL : xs.length = L := by have := row_len hl; simpa using this
  have hbL : bs.length = L := by have := row_len hv; simpa using this
  obtain ⟨A, hA⟩ := ex (W.alloc (.cells (dC 0 0 (.slice none 0 0)) 54))
  have gA := gr_al hA
  have hsz : A.heap.size = W.heap.size + 1 := by rw [← hA]; simp
  have hr0 := al_new hA
  obtain ⟨N, hN⟩ := ex (offs bs)
  have hS : ∀ u, Gr W u → u.cell? ⟨m, 0, none⟩ = some (.int .i64 1) ∧ u.cell? ⟨m, 1, none⟩ = some (.slice lo L lc) := fun u g => cell2 ((g.block _ (lt_of_heap hm) id).trans hm)
  have gD : Gr W A.drew := gA.tr gr_drew
  have HS0 := hidM (hS A.drew gD)
  have HS := hidM hS
  have HC1 : Hid (Calls Tryz.prog 443 #[.slice lo L lc, .int .i64 1] A.drew fun e w' => ∃ g, e = .returned (.slice (some ⟨g, 0, none⟩) (L) (L)) ∧ Gr A.drew w' ∧ A.drew.heap.size ≤ g ∧ OwnRow w' g 5 ((leAll xs).map (Value.int .u8))) := by
    have h := numbered263 lo lc xs A.drew (by rw [hxL]; exact row_kp hl fun q e => gD.block q (own_lt hl q e) id) (by omega)
    rw [hxL] at h
    exact h
  have HC2 : Hid (∀ w1 g, Gr A.drew w1 → A.drew.heap.size ≤ g → OwnRow w1 g 5 ((leAll xs).map (Value.int .u8)) → Gr W w1 ∧ (∀ o, Gr W (w1.alloc o)) ∧ Calls Tryz.prog 353 #[.slice vo L vc, .slice (some ⟨w1.heap.size, 0, none⟩) 1 1] (w1.alloc (.cells #[.slice (some ⟨g, 0, none⟩) (L) (L)] 50)) fun e w2 => ∃ bo bc, e = .returned (.agg (dC L N (.slice bo 2 bc))) ∧ Gr W w2 ∧ w2.heap[W.heap.size]? = some (.cells (dC 0 0 (.slice none 0 0)) 54) ∧ (mkU w2 W.heap.size L N (.slice bo 2 bc)).heap[W.heap.size]? = some (.cells (dC L N (.slice bo 2 bc)) 54) ∧ Gr W (mkU w2 W.heap.size L N (.slice bo 2 bc)) ∧ DatA W (mkU w2 W.heap.size L N (.slice bo 2 bc)) L bs xs bo bc) := by
    intro w1 g g1 hg hrow
    have gW1 : Gr W w1 := gD.tr g1
    have gAl : ∀ o, Gr W (w1.alloc o) := fun o => gW1.alloc o
    refine ⟨gW1, gAl, ?_⟩
    have gA1 : Gr A w1 := Keeps.trans gr_drew g1 (fun _ _ h => h)
    have hd : A.drew.heap.size = A.heap.size := rfl
    obtain ⟨V, hV⟩ := ex (w1.alloc (.cells #[.slice (some ⟨g, 0, none⟩) (L) (L)] 50))
    have gV : Gr W V := by rw [← hV]; exact gAl _
    have g1V := gr_al hV
    have hq := al_new hV
    have hvV : V.ownsRow 0 4 1 (.slice vo L vc) L (bs.map Value.bool) := row_kp hv fun q e => gV.block q (own_lt hv q e) id
    rw [hV]
    have h := masked171 vo vc bs w1.heap.size (.slice (some ⟨g, 0, none⟩) (L) (L)) V (by rw [hbL]; exact hvV) (by omega) hq rfl
    rw [hbL, hN] at h
    refine h.mono ?_
    rintro e w2 ⟨bo, bc, val, rfl, g2, hM, hB, hBb⟩
    have gW2 : Gr W w2 := gV.tr g2
    have hrA := (gA1.block _ (by omega) id).trans hr0
    have hrV := (g1V.block _ (lt_of_heap hrA) id).trans hrA
    have hr2 := (g2.block _ (lt_of_heap hrV) id).trans hrV
    have hkU : Keeps w2 (mkU w2 W.heap.size L N (.slice bo 2 bc)) (fun z => z = W.heap.size) := setAll_kp _ _ _
    have hgU : Gr W (mkU w2 W.heap.size L N (.slice bo 2 bc)) := gW2.trans hkU (fun j hj (e : j = W.heap.size) => by omega)
    have hrow2 : OwnRow w2 g 5 ((leAll xs).map (Value.int .u8)) := ((g1V.tr g2).block g (lt_of_heap hrow) id).trans hrow
    refine ⟨bo, bc, rfl, gW2, hr2, ?_, hgU, ?_⟩
    · rw [show mkU w2 W.heap.size L N (.slice bo 2 bc) = setAll w2 W.heap.size _ from rfl, setAll_blk W.heap.size 54 _ _ _ hr2]
      simp [setsA, dC]
    have hk31 : Keeps w2 (mkU w2 W.heap.size L N (.slice bo 2 bc)) (fun z => ∃ c, w2.heap[z]? = some (.cells c 54)) := hkU.mono fun j hj e => ⟨dC 0 0 (.slice none 0 0), by have e' : j = W.heap.size := e; subst e'; exact hr2⟩
    have hs1 := gA1.size
    refine ⟨val, g, hM.gr gV hk31 hgU, row_kp hB fun q e => hkU.block q (own_lt hB q e) (fun e2 => own_ne hr2 hB (by decide) (e2 ▸ e)), fun q e => Nat.le_trans gV.size (hBb q e), ?_, by omega⟩
    exact (hkU.block g (lt_of_heap hrow2) (fun e => by have e' : g = W.heap.size := e; omega)).trans hrow2
  have HGA := hidM gA
  have HN := hidM hN
  clear hm hl hv gA gD hS hr0 hsz hxL hbL hN
  unfold dC at hA
  go_enter Tryz.func439, Tryz.ntmps439
  go_wp2_with fail
  go_region_held3 (fun w' => w'.cell? ⟨m, 0, none⟩ = some (.int .i64 1) ∧ w'.cell? ⟨m, 1, none⟩ = some (.slice lo L lc)) (first | with_reducible exact HS0.out | with_reducible exact HS1.out | with_reducible exact HS3.out | with_reducible exact HS4.out | exact HS2.out _) (first
    | (go_at_call 443; refine HC1.out.mono ?_; rintro e w1 ⟨g, rfl, g1, hg, hrow⟩; obtain ⟨a1, a2, a3⟩ := HC2.out w1 g g1 hg hrow; have HS1 := hidM (HS.out w1 a1); have HS2 : Hid (∀ o, (w1.alloc o).cell? ⟨m, 0, none⟩ = some (.int .i64 1) ∧ (w1.alloc o).cell? ⟨m, 1, none⟩ = some (.slice lo L lc)) := fun o => HS.out _ (a2 o); have HC3 := hidM a3; clear g1 hg hrow a1 a2 a3)
    | (go_at_call 353; refine HC3.out.mono ?_; rintro e w2 ⟨bo, bc, rfl, b1, b2, b3, b4, b5⟩; have HS3 := hidM (HS.out w2 b1); obtain ⟨U, hU⟩ := ex (mkU w2 W.heap.size L N (.slice bo 2 bc)); rw [hU] at b3 b4 b5; have HS4 := hidM (HS.out U b4); have HB := hidM (And.intro b3 (And.intro b4 b5)); simp only [mkU, setAll] at hU; obtain ⟨y0, y1, y2, y3, y4, y5⟩ := frz6 b2; obtain ⟨g0, g1, g2, g3, g4, g5⟩ := cell6 b2; clear b1 b2 b3 b4 b5; unfold dC))
  go_wp2_with fail
  (try simp only [Exit.inBlock, Exit.then])
  refine bodyPost_ret (results_cell31 rfl rfl (by with_reducible exact HB.out.1) (by kernel_rfl)) rfl ?_
  rw [HN.out]
  exact ⟨bo, bc, rfl, HB.out.2⟩
theorem method_data (m : Nat) (w : World) : (method 578 282 (.pointer (some ⟨m, 0, none⟩)) "colonnade/build.data").run Tryz.prog w = .ok (439, .pointer (some ⟨m, 0, none⟩)) w := by kernel_rfl
theorem mk_store {W w2 : World} {r L N : Nat} {bs : List Bool} {xs : List Int} {bo : Option Addr} {bc : Nat} (g2 : Gr W w2) (hr : W.heap.size ≤ r) (hr2 : w2.heap[r]? = some (.cells (dC 0 0 (.slice none 0 0)) 54)) (hD : DatA W w2 L bs xs bo bc) :
    (mkU w2 r L N (.slice bo 2 bc)).heap[r]? = some (.cells (dC L N (.slice bo 2 bc)) 54) ∧ Gr W (mkU w2 r L N (.slice bo 2 bc)) ∧ DatA W (mkU w2 r L N (.slice bo 2 bc)) L bs xs bo bc := by
  have hkU : Keeps w2 (mkU w2 r L N (.slice bo 2 bc)) (fun z => z = r) := setAll_kp _ _ _
  have hgU : Gr W (mkU w2 r L N (.slice bo 2 bc)) := g2.trans hkU (fun j hj (e : j = r) => by omega)
  have hk31 : Keeps w2 (mkU w2 r L N (.slice bo 2 bc)) (fun z => ∃ c, w2.heap[z]? = some (.cells c 54)) := hkU.mono fun j hj e => ⟨dC 0 0 (.slice none 0 0), by have e' : j = r := e; subst e'; exact hr2⟩
  refine ⟨?_, hgU, hD.gr (Keeps.refl W _) hk31 hgU⟩
  rw [show mkU w2 r L N (.slice bo 2 bc) = setAll w2 r _ from rfl, setAll_blk r 54 _ _ _ hr2]
  simp [setsA, dC]
theorem data17 (B n m t : Nat) (nu : Bool) (wt : Int) (vo : Option Addr) (L vc : Nat) (bs : List Bool) (lo : Option Addr) (lc : Nat) (xs : List Int) (W : World) (h : Nd B W n m t nu wt vo L vc (bs.map Value.bool) lo lc (xs.map iv)) (hL : L ≤ 4000) :
    Calls Tryz.prog 102 #[.pointer (some ⟨n, 0, none⟩)] W fun e w' => ∃ bo bc, e = .returned (.agg (dC L (offs bs) (.slice bo 2 bc))) ∧ Gr W w' ∧ DatA W w' L bs xs bo bc := by
  obtain ⟨A, hA⟩ := ex (W.alloc (.cells (dC 0 0 (.slice none 0 0)) 54))
  have gA := gr_al hA
  have hsz : A.heap.size = W.heap.size + 1 := by rw [← hA]; simp
  have hr0 := al_new hA
  obtain ⟨N, hN⟩ := ex (offs bs)
  have hS : ∀ u, Gr W u → u.cell? ⟨n, 1, none⟩ = some (.iface 282 (.pointer (some ⟨m, 0, none⟩))) ∧ u.cell? ⟨n, 4, none⟩ = some (.slice vo L vc) := fun u g => by
    obtain ⟨-, c1, -, -, c4, -⟩ := cell6 ((g.block _ (lt_of_heap h.hn) id).trans h.hn)
    exact ⟨c1, c4⟩
  have gD : Gr W A.drew := gA.tr gr_drew
  have HS0 := hidM (hS A.drew gD)
  have HC : Hid (Calls Tryz.prog 439 #[.pointer (some ⟨m, 0, none⟩), .slice vo L vc] A.drew fun e w2 => ∃ bo bc, e = .returned (.agg (dC L N (.slice bo 2 bc))) ∧ Gr W w2 ∧ w2.heap[W.heap.size]? = some (.cells (dC 0 0 (.slice none 0 0)) 54) ∧ (mkU w2 W.heap.size L N (.slice bo 2 bc)).heap[W.heap.size]? = some (.cells (dC L N (.slice bo 2 bc)) 54) ∧ Gr W (mkU w2 W.heap.size L N (.slice bo 2 bc)) ∧ DatA W (mkU w2 W.heap.size L N (.slice bo 2 bc)) L bs xs bo bc) := by
    have hD := h.gr gD
    refine (data259 m L lo lc xs vo vc bs A.drew hD.hm hD.rl hD.rv hL).mono ?_
    rintro e w2 ⟨bo, bc, rfl, g2, hda⟩
    have gW2 : Gr W w2 := gD.tr g2
    have hr2 := (g2.block _ (lt_of_heap (W := A.drew) hr0) id).trans hr0
    rw [hN]
    exact ⟨bo, bc, rfl, gW2, hr2, mk_store gW2 (Nat.le_refl _) hr2 (hda.gr gD (Keeps.refl w2 _) gW2)⟩
  have HS := hidM hS
  have HN := hidM hN
  have hmeth := method_data m
  clear h gA gD hS hr0 hsz hN
  unfold dC at hA
  go_enter Tryz.func102, Tryz.ntmps102
  go_wp2_with fail
  go_region_held3 (fun w' => w'.cell? ⟨n, 1, none⟩ = some (.iface 282 (.pointer (some ⟨m, 0, none⟩))) ∧ w'.cell? ⟨n, 4, none⟩ = some (.slice vo L vc)) (first | with_reducible exact HS0.out | with_reducible exact HS3.out | with_reducible exact HS4.out) ((go_at_call 439; refine HC.out.mono ?_; rintro e w2 ⟨bo, bc, rfl, b1, b2, b3, b4, b5⟩; have HS3 := hidM (HS.out w2 b1); obtain ⟨U, hU⟩ := ex (mkU w2 W.heap.size L N (.slice bo 2 bc)); rw [hU] at b3 b4 b5; have HS4 := hidM (HS.out U b4); have HB := hidM (And.intro b3 (And.intro b4 b5)); simp only [mkU, setAll] at hU; obtain ⟨y0, y1, y2, y3, y4, y5⟩ := frz6 b2; obtain ⟨g0, g1, g2, g3, g4, g5⟩ := cell6 b2; clear b1 b2 b3 b4 b5; unfold dC))
  go_wp2_with fail
  (try simp only [Exit.inBlock, Exit.then])
  refine bodyPost_ret (results_cell31 rfl rfl (by with_reducible exact HB.out.1) (by kernel_rfl)) rfl ?_
  rw [HN.out]
  exact ⟨bo, bc, rfl, HB.out.2⟩
theorem results_cell31t {fn : Func} {t u : Tmp} {tmps : Array Value} {g : Nat} {cs : Array Value} {w : World} (h : fn.results = #[.cell t 54, .tmp u]) (ht : tmps.getD t undef = .pointer (some ⟨g, 0, none⟩)) (hg : w.heap[g]? = some (.cells cs 54 (0, 0))) (hi : (Tryz.prog.info? 54).map (·.size) = some cs.size) :
    (results fn tmps).run Tryz.prog w = .ok (.tuple #[.agg cs, tmps.getD u undef]) w := by
  have hl := run_loadVar_row (P := Tryz.prog) w g 54 54 cs (0, 0) _ hg Tryz.underlying54 rfl hi
  unfold results
  rw [h]
  simp only [Array.mapM_eq_mapM_toList, List.mapM_cons, List.mapM_nil, ht]
  simp [asAddr, hl]
end Go.Proofs.YtknnoiomdngmfaaGreatDoor.Kit
