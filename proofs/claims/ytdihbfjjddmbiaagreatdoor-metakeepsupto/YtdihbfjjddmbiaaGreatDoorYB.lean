import Derived.Test.YtdihbfjjddmbiaaGreatDoorRE
set_option maxRecDepth 100000
set_option maxHeartbeats 4000000
namespace Go.Proofs.YtdihbfjjddmbiaaGreatDoor.Kit
open Go.RowKit Go.Shelf Go.Deep
set_option linter.unusedVariables false
set_option linter.unusedSimpArgs false
attribute [local go_sem] run_store_func
theorem RowI.put {lo hi ca b d k : Nat} {W w3 : World} {l : List FT} {cs' : Array Value} {A B : Nat → Nat} (hl : l.length ≤ big) (hle : l.length ≤ ca) (h1 : lo ≤ b) (h2 : b < hi)
    (hj : ∀ i (h : i < l.length), lo ≤ A i ∧ A i ≤ B i ∧ B i ≤ hi ∧ ¬ (A i ≤ b ∧ b < B i) ∧ (∀ j, j < i → B j ≤ A i) ∧ ∃ ao' ca', CellsAt W b (i * 7) l[i] ao' ca' ∧ RowI (A i) (B i) W d ao' ca' l[i].kids)
    (hk : k < l.length) (hb : w3.heap[b]? = some (.cells cs' 52 (0, 0))) (hs : cs'.size = ca * 7) (hm : ca ≤ maxLen) (hoth : ∀ j, j < k * 7 ∨ k * 7 + 7 ≤ j → w3.cell? ⟨b, j, none⟩ = W.cell? ⟨b, j, none⟩)
    (hkp : ∀ z, z ≠ b → ¬ (A k ≤ z ∧ z < B k) → lo ≤ z → z < hi → w3.heap[z]? = W.heap[z]?) {x : FT} {ao' : Option Addr} {ca' : Nat} (hc : CellsAt w3 b (k * 7) x ao' ca') (hr : RowI (A k) (B k) w3 d ao' ca' x.kids) :
    RowI lo hi w3 (d + 1) (some ⟨b, 0, none⟩) ca (l.set k x) := by
  refine ⟨by simpa using hl, by simpa using hle, .inr ⟨b, cs', rfl, h1, h2, hb, hs, hm, A, B, fun i hi' => ?_⟩⟩
  have hil : i < l.length := by simpa using hi'
  obtain ⟨a1, a2, a3, a4, a5, ao2, ca2, hc2, hr2⟩ := hj i hil
  refine ⟨a1, a2, a3, a4, a5, ?_⟩
  by_cases e : i = k
  · subst e
    refine ⟨ao', ca', ?_, ?_⟩
    · simpa using hc
    simpa using hr
  rw [List.getElem_set_ne (fun h => e h.symm)]
  refine ⟨ao2, ca2, ?_, hr2.kept fun z z1 z2 => hkp z ?_ ?_ (Nat.le_trans a1 z1) (Nat.lt_of_lt_of_le z2 a3)⟩
  · have q : ∀ j, j < 7 → w3.cell? ⟨b, i * 7 + j, none⟩ = W.cell? ⟨b, i * 7 + j, none⟩ := fun j hj7 => hoth _ (by omega)
    exact ⟨(q 0 (by omega)).trans hc2.c0, (q 1 (by omega)).trans hc2.c1, (q 2 (by omega)).trans hc2.c2, (q 3 (by omega)).trans hc2.c3, (q 4 (by omega)).trans hc2.c4, (q 5 (by omega)).trans hc2.c5, (q 6 (by omega)).trans hc2.c6⟩
  · intro e'; subst e'; exact a4 ⟨z1, z2⟩
  intro hz
  rcases Nat.lt_or_gt_of_ne e with hlt | hgt
  · have := (hj k hk).2.2.2.2.1 i hlt
    omega
  have := a5 k hgt
  omega
theorem RowI.more {lo hi : Nat} {W : World} : ∀ {d d' : Nat} {ao : Option Addr} {ca : Nat} {l : List FT}, RowI lo hi W d ao ca l → d ≤ d' → RowI lo hi W d' ao ca l
  | 0, d', _, _, _, h, _ => by
    obtain ⟨rfl, rfl, rfl⟩ := h
    exact RowI.nil _ _ _ _
  | d + 1, 0, _, _, _, _, hd => absurd hd (by omega)
  | d + 1, d' + 1, _, _, _, h, hd => ⟨h.1, h.2.1, h.2.2.imp id fun ⟨b, cs, e, h1, h2, h3, h4, h5, A, B, hj⟩ => ⟨b, cs, e, h1, h2, h3, h4, h5, A, B, fun i hi' => by
    obtain ⟨a1, a2, a3, a4, a5, ao2, ca2, hc2, hr2⟩ := hj i hi'
    exact ⟨a1, a2, a3, a4, a5, ao2, ca2, hc2, RowI.more hr2 (by omega)⟩⟩⟩
theorem cell_of {W : World} {b t j : Nat} {c : Array Value} {fr : Nat × Nat} (h : W.heap[b]? = some (.cells c t fr)) : W.cell? ⟨b, j, none⟩ = c[j]? := by simp [World.cell?, h]
def K52 (lo hi : Nat) (W u : World) : Prop := Keeps W u (fun z => (lo ≤ z ∧ z < hi) ∧ ∃ c : Array Value, W.heap[z]? = some (.cells c 52 (0, 0)))
theorem K52.keep {lo hi : Nat} {W u : World} (h : K52 lo hi W u) : Keeps W u (fun z => lo ≤ z ∧ z < hi) := h.mono fun _ _ h => h.1
theorem K52.trans {lo hi lo' hi' : Nat} {W u w : World} (h : K52 lo hi W u) (k : K52 lo' hi' u w) (h1 : lo ≤ lo') (h2 : hi' ≤ hi) : K52 lo hi W w := by
  refine Keeps.trans h k fun j hj ⟨hz, c, hc⟩ => ⟨⟨Nat.le_trans h1 hz.1, Nat.lt_of_lt_of_le hz.2 h2⟩, ?_⟩
  by_cases e : ∃ c : Array Value, W.heap[j]? = some (.cells c 52 (0, 0))
  · exact e
  exact ⟨c, (h.block j hj fun h => e h.2).symm.trans hc⟩
theorem K52.ofGr {lo hi : Nat} {W u : World} (g : Gr W u) : K52 lo hi W u := g.mono fun _ _ h => h.elim
def SpQ (lo hi d : Nat) (ao : Option Addr) (ca n : Nat) (W : World) (e : Ending) (w' : World) : Prop :=
  e = .returned (.tuple #[]) ∧ K52 lo hi W w' ∧ ∃ l', l'.length = n ∧ RowI lo hi w' d ao ca l'
theorem spoil48_step (d lo hi : Nat) (ao : Option Addr) (ca : Nat) (l : List FT) (W : World) (h48 : l ≠ [] → ∀ lo hi ao ca l W, RowI lo hi W d ao ca l → hi ≤ W.heap.size → Calls Tryz.prog 48 #[.slice ao l.length ca] W (SpQ lo hi d ao ca l.length W))
    (hrow : RowI lo hi W (d + 1) ao ca l) (hsz : hi ≤ W.heap.size) : Calls Tryz.prog 48 #[.slice ao l.length ca] W (SpQ lo hi (d + 1) ao ca l.length W) := by
  have hlen : l.length ≤ 1000000000000 := hrow.1
  obtain ⟨n, hn⟩ : ∃ n, n = l.length := ⟨_, rfl⟩
  rw [← hn] at hlen ⊢
  have HI : Hid (∃ l', l'.length = n ∧ RowI lo hi W (d + 1) ao ca l') := ⟨l, hn.symm, hrow⟩
  have H48 := hidM h48
  have HSZ := hidM hsz
  have HN := hidM hn
  clear hrow h48 hn hsz
  go_enter Tryz.func48, Tryz.ntmps48
  go_wp2
  go_loopw [2] (fun p wr => ∃ k : Nat, k ≤ n ∧ p = .int .i64 (k : Int) ∧ Hid (K52 lo hi W wr) ∧ Hid (∃ l', l'.length = n ∧ RowI lo hi wr (d + 1) ao ca l')) (fun p _ => n - (intOf p).toNat)
  case atStart => exact ⟨0, by omega, rfl, Keeps.refl _ _, HI.out⟩
  case round =>
    obtain ⟨k, hk, rfl, HK, HR⟩ := hrel
    by_cases hlt : k < n
    · obtain ⟨l1, hl1, hr1⟩ := HR.out
      have hkl : k < l1.length := by omega
      obtain ⟨b, cs, rfl, h1, h2, h3, h4, h5, A, B, hj⟩ : ∃ b cs, ao = some ⟨b, 0, none⟩ ∧ lo ≤ b ∧ b < hi ∧ wr.heap[b]? = some (.cells cs 52 (0, 0)) ∧ cs.size = ca * 7 ∧ ca ≤ maxLen ∧ ∃ A B : Nat → Nat, ∀ i (h : i < l1.length), lo ≤ A i ∧ A i ≤ B i ∧ B i ≤ hi ∧ ¬ (A i ≤ b ∧ b < B i) ∧ (∀ j, j < i → B j ≤ A i) ∧ ∃ ao' ca', CellsAt wr b (i * 7) l1[i] ao' ca' ∧ RowI (A i) (B i) wr d ao' ca' l1[i].kids := by
        rcases hr1.2.2 with ⟨e, -⟩ | h
        · rw [e] at hkl; simp at hkl
        exact h
      obtain ⟨a1, a2, a3, a4, a5, ao', ca', hc, hr⟩ := hj k hkl
      obtain ⟨f, hf⟩ : ∃ f, f = l1[k]'hkl := ⟨_, rfl⟩
      rw [← hf] at hc hr
      have HQ := hidM (H48.out (fun e => by have := HN.out; rw [e] at this; simp at this; omega) (A k) (B k) ao' ca' f.kids wr hr (by have := HSZ.out; have := HK.out.size; omega))
      have HJ := hidM (And.intro hr1.1 (And.intro hr1.2.1 hj))
      have HC := hidM (And.intro hc (And.intro h3 h4))
      have HA := hidM (And.intro a1 (And.intro a3 a4))
      have HB := hidM (And.intro h1 h2)
      have HM := hidM h5
      have e6 : wr.cell? ⟨b, k * 7 + 2 + 4, none⟩ = some (.slice ao' f.kids.length ca') := hc.c6
      have hltI : (k : Int) < (n : Int) := by omega
      clear hf hr1 hj hc hr h1 h2 h3 h4 h5 a1 a2 a3 a4 a5 HR
      go_wp2_with (go_at_call 48; refine HQ.out.mono ?_)
      rintro e w1 ⟨rfl, k1, ks, hks, hrk⟩
      obtain ⟨hcw, h3, h4⟩ := HC.out
      obtain ⟨a1, a3, a4⟩ := HA.out
      have hb1 : w1.heap[b]? = some (.cells cs 52 (0, 0)) := (k1.keep.block b (lt_of_heap h3) a4).trans h3
      have hcv : CellsAt w1 b (k * 7) f ao' ca' := hcw.kept (hb1.trans h3.symm)
      obtain ⟨V1, hV1⟩ := ex (w1.setCell ⟨b, k * 7, none⟩ (.string ⟨#[115, 112, 111, 105, 108, 116]⟩))
      have hb2 : V1.heap[b]? = some (.cells (cs.setIfInBounds (k * 7) (.string ⟨#[115, 112, 111, 105, 108, 116]⟩)) 52 (0, 0)) := by rw [← hV1]; exact heap_setCell_same w1 b _ cs 52 _ hb1
      obtain ⟨V2, hV2⟩ := ex (V1.setCell ⟨b, k * 7 + 2, none⟩ (.int .i64 (-(k : Int) - 1)))
      have hb3 : V2.heap[b]? = some (.cells ((cs.setIfInBounds (k * 7) (.string ⟨#[115, 112, 111, 105, 108, 116]⟩)).setIfInBounds (k * 7 + 2) (.int .i64 (-(k : Int) - 1))) 52 (0, 0)) := by rw [← hV2]; exact heap_setCell_same V1 b _ _ 52 _ hb2
      have hsz : (k * 7 + 7) ≤ cs.size := by have := HJ.out.2.1; omega
      have c0 : w1.cell? ⟨b, k * 7, none⟩ = some (.string f.name) := hcv.c0
      have c2 : V1.cell? ⟨b, k * 7 + 2, none⟩ = some (.int .i64 f.kind) := by
        rw [cell_of hb2, Array.getElem?_setIfInBounds_ne (by omega), ← cell_of hb1]; exact hcv.c2
      have z0 := frz hb1 (k * 7)
      have z2 := frz hb2 (k * 7 + 2)
      have HE : Hid (K52 lo hi W V2 ∧ ∃ l', l'.length = n ∧ RowI lo hi V2 (d + 1) (some ⟨b, 0, none⟩) ca l') := by
        have hoth : ∀ z, z ≠ b → V2.heap[z]? = w1.heap[z]? := fun z hz => by
          rw [← hV2, ← hV1, heap_setCell_other _ _ _ _ hz, heap_setCell_other _ _ _ _ hz]
        have kB : Keeps w1 V2 (fun z => z = b) := by
          rw [← hV2, ← hV1]
          exact (Keeps.setCell (S := fun z => z = b) (p := ⟨b, k * 7, none⟩) (Keeps.refl w1 _) (fun _ => rfl) _).setCell (p := ⟨b, k * 7 + 2, none⟩) (fun _ => rfl) _
        have hce : ∀ j, j ≠ k * 7 → j ≠ k * 7 + 2 → V2.cell? ⟨b, j, none⟩ = w1.cell? ⟨b, j, none⟩ := fun j j0 j2 => by
          rw [cell_of hb3, cell_of hb1, Array.getElem?_setIfInBounds_ne (by omega), Array.getElem?_setIfInBounds_ne (by omega)]
        refine ⟨(HK.out.trans k1 a1 a3).trans (show K52 lo hi w1 V2 from kB.mono fun z _ e => by rw [e]; exact ⟨HB.out, cs, hb1⟩) (Nat.le_refl _) (Nat.le_refl _), l1.set k (.mk ⟨#[115, 112, 111, 105, 108, 116]⟩ f.nul (-(k : Int) - 1) f.width f.id f.index ks), by simpa using hl1, ?_⟩
        refine RowI.put HJ.out.1 HJ.out.2.1 HB.out.1 HB.out.2 HJ.out.2.2 hkl hb3 (by simpa using h4) HM.out (fun j hj => ?_) (fun z z1 z2 z3 z4 => ?_) (ao' := ao') (ca' := ca') ⟨?_, ?_, ?_, ?_, ?_, ?_, ?_⟩ ?_
        · exact (hce j (by omega) (by omega)).trans (World.cell?_of_block (w := wr) (hb1.trans h3.symm))
        · exact (hoth z z1).trans (k1.keep.block z (by have := HSZ.out; have := HK.out.size; omega) z2)
        · rw [cell_of hb3, Array.getElem?_setIfInBounds_ne (by omega), Array.getElem?_setIfInBounds_self_of_lt (by omega)]; rfl
        · exact (hce _ (by omega) (by omega)).trans hcv.c1
        · rw [cell_of hb3, Array.getElem?_setIfInBounds_self_of_lt (by simp; omega)]; rfl
        · exact (hce _ (by omega) (by omega)).trans hcv.c3
        · exact (hce _ (by omega) (by omega)).trans hcv.c4
        · exact (hce _ (by omega) (by omega)).trans hcv.c5
        · refine (hce _ (by omega) (by omega)).trans (hcv.c6.trans ?_)
          show some (Value.slice ao' (f.kids.length : Nat) ca') = some (Value.slice ao' ks.length ca')
          rw [hks]
        refine RowI.kept hrk fun y y1 y2 => hoth y fun e => ?_
        subst e
        exact a4 ⟨y1, y2⟩
      clear k1 hks hrk hcw h3 h4 a1 a3 a4 hb1 hcv hb2 hb3 hsz
      go_wp2_with fail
      go_roundw
      case rel => exact ⟨k + 1, by omega, by simp, HE.out.1, HE.out.2⟩
      case measure => simp [intOf]; omega
    have hkn : k = n := by omega
    subst hkn
    go_wp2_with fail
    go_end0
    exact ⟨rfl, HK.out, HR.out⟩
theorem spoil48 : ∀ (d lo hi : Nat) (ao : Option Addr) (ca : Nat) (l : List FT) (W : World), RowI lo hi W d ao ca l → hi ≤ W.heap.size → Calls Tryz.prog 48 #[.slice ao l.length ca] W (SpQ lo hi d ao ca l.length W)
  | 0, lo, hi, ao, ca, l, W, h, hs => (spoil48_step 0 lo hi ao ca l W (fun hn => absurd h.1 hn) (h.more (Nat.zero_le _)) hs).mono fun e w' ⟨h1, h2, l', h3, h4⟩ => ⟨h1, h2, l', h3, by
    obtain ⟨e1, e2, e3⟩ := h
    have : l' = [] := List.length_eq_zero_iff.1 (by rw [h3, e1]; rfl)
    subst e1 e2 e3 this
    exact ⟨rfl, rfl, rfl⟩⟩
  | d + 1, lo, hi, ao, ca, l, W, h, hs => spoil48_step d lo hi ao ca l W (fun _ => spoil48 d) h hs
end Go.Proofs.YtdihbfjjddmbiaaGreatDoor.Kit
namespace Go.Proofs.YtdihbfjjddmbiaaGreatDoor.Kit
open Go.RowKit Go.Shelf Go.Deep
set_option linter.unusedVariables false
attribute [local go_sem] run_store_func
theorem info80 : (Tryz.prog.info? 52).map (fun i => (i.zero, i.size, i.bytes)) = some (some (.agg #[.string ⟨#[]⟩, .bool false, .int .i64 0, .int .i64 0, .int .i64 0, .int .i64 0, .slice none 0 0]), 7, 80) := by kernel_rfl
theorem src80 (w : World) (x : FT) (ko : Option Addr) (kc : Nat) : Src Tryz.prog 7 22 (.slice (some ⟨w.heap.size, 0, none⟩) 1 1) 1 (fcel (x, ko, kc)) (w.alloc (.cells #[Value.string x.name, .bool x.nul, .int .i64 x.kind, .int .i64 x.width, .int .i64 x.id, .int .i64 x.index, .slice ko x.kids.length kc] 52)) := by
  refine Src.ofSlice (w := w.alloc (.cells #[Value.string x.name, .bool x.nul, .int .i64 x.kind, .int .i64 x.width, .int .i64 x.id, .int .i64 x.index, .slice ko x.kids.length kc] 52)) Tryz.underlying22 ⟨w.heap.size, 0, none⟩ 1 1 (fcel (x, ko, kc)) (by simp [fcel]) (fun j v hj => ?_) (fun v hv => by simp [fcel] at hv; rcases hv with rfl | rfl | rfl | rfl | rfl | rfl | rfl <;> rfl)
  have hb' := heap_alloc_new w (.cells #[Value.string x.name, .bool x.nul, .int .i64 x.kind, .int .i64 x.width, .int .i64 x.id, .int .i64 x.index, .slice ko x.kids.length kc] 52)
  have e : (⟨w.heap.size, 0, none⟩ : Addr).add j = ⟨w.heap.size, j, none⟩ := by cases j <;> simp [Addr.add]
  rw [e]
  simp only [World.cell?, hb']
  simpa [fcel] using hj
theorem fields74 (p : Nat) (bo : Option Addr) (B : List UInt8) (bc n d rb lb : Nat) (lev : Int) (r : Rd FT) (hn : n ≤ 65535)
    (hone : ∀ W a g, RAt W p bo B bc a g → W.heap[rb]? = some (.cells #[.pointer (some ⟨p, 0, none⟩)] 109 (0, 0)) ∧ W.heap[lb]? = some (.cells #[.int .i64 lev] 3 (0, 0)) → Calls Tryz.prog 102 #[.pointer (some ⟨rb, 0, none⟩), .pointer (some ⟨lb, 0, none⟩)] W (RdQ W p bo B bc (r (a, g)) (FV d W))) :
    ∀ W a g, RAt W p bo B bc a g → W.heap[rb]? = some (.cells #[.pointer (some ⟨p, 0, none⟩)] 109 (0, 0)) ∧ W.heap[lb]? = some (.cells #[.int .i64 lev] 3 (0, 0)) → (rb ≠ p ∧ lb ≠ p) → Calls Tryz.prog 101 #[.int .i64 (n : Int), .func (.func 102) #[] #[.pointer (some ⟨rb, 0, none⟩), .pointer (some ⟨lb, 0, none⟩)]] W (RdQ W p bo B bc (sevR n r (a, g)) (fun w' l v => ∃ vo vc, v = .slice vo l.length vc ∧ l.length ≤ vc ∧ RowI W.heap.size w'.heap.size w' (d + 1) vo vc l)) := by
  intro W a0 g0 hR hbx hne
  obtain ⟨R, hRes⟩ : ∃ R, R = sevR n r (a0, g0) := ⟨_, rfl⟩
  rw [← hRes]
  have HP := hidM hR.lt
  have HN := hidM hone
  have HR0 := hidM hR
  have HX0 := hidM hbx
  have HNe := hidM hne
  have HS0 : Hid (sevK r (n - 0) (([] : List FE).map (·.1)) (a0, g0) = R) := by rw [hRes]; rfl
  clear hR hRes hone hbx hne
  go_enter Tryz.func101, Tryz.ntmps101
  go_wp2_with fail
  go_loopw [5, 7] (fun l i wr => ∃ (k : Nat) (acc : List FE) (a g : Nat) (vo : Option Addr) (vc : Nat), k ≤ n ∧ i = .int .i64 (k : Int) ∧ l = .slice vo k vc ∧ Hid (acc.length = k) ∧ Hid (FL W wr d acc vo vc) ∧ Hid (RAt wr p bo B bc a g) ∧ Hid (Keeps W wr (fun z => z = p)) ∧ Hid (sevK r (n - k) (acc.map (·.1)) (a, g) = R)) (fun _ i _ => n - (intOf i).toNat)
  case atStart => exact ⟨0, [], a0, g0, none, 0, Nat.zero_le _, rfl, rfl, rfl, FL.nil _ _ _, HR0.out, Keeps.refl _ _, HS0.out⟩
  case round =>
    obtain ⟨k, acc, a, g, vo, vc, hk, rfl, rfl, HL, HA, HR, HG, HS⟩ := hrel
    by_cases hlt : k < n
    · have hltI : (k : Int) < (n : Int) := by omega
      have HX : Hid (wr.heap[rb]? = some (.cells #[.pointer (some ⟨p, 0, none⟩)] 109 (0, 0)) ∧ wr.heap[lb]? = some (.cells #[.int .i64 lev] 3 (0, 0))) := ⟨(HG.out.block rb (lt_of_heap HX0.out.1) HNe.out.1).trans HX0.out.1, (HG.out.block lb (lt_of_heap HX0.out.2) HNe.out.2).trans HX0.out.2⟩
      go_wp2_with (go_at_call 102; refine Hid.out ?_)
      unfold Hid
      have hq := HN.out _ _ _ HR.out HX.out
      cases hr : r (a, g) with
      | error er =>
        rw [hr] at hq
        refine Calls.mono hq ?_
        rintro e' U ⟨hk', rfl⟩
        have HGe := hidM (HG.out.tr hk')
        have Hr := hidM hr
        clear hk' hq hr
        go_wp2_with fail
        exact ⟨rfl, RdQ.err HGe.out (HS.out.symm.trans (sevK_err hlt Hr.out))⟩
      | ok q =>
        obtain ⟨x, a1, g1⟩ := q
        rw [hr] at hq
        refine Calls.mono hq ?_
        rintro e' U ⟨hk', v, rfl, ⟨ko, kc, rfl, hkc, hrow⟩, hR⟩
        have HA1 := hidM (HA.out.kp2 hk' HP.out)
        have HG1 := hidM (HG.out.tr hk')
        have HR1 := hidM hR
        have HS1 : Hid (sevK r (n - (k + 1)) ((acc ++ [(x, ko, kc)]).map (·.1)) (a1, g1) = R) := by show _ = _; rw [List.map_append]; exact (sevK_ok hlt hr).symm.trans HS.out
        have HKd := hidM (And.intro hkc hrow)
        have HWs := hidM (And.intro HG.out.size hk'.size)
        have HSr := hidM (src80 U x ko kc)
        have HO : Hid ((U.alloc (.cells #[Value.string x.name, .bool x.nul, .int .i64 x.kind, .int .i64 x.width, .int .i64 x.id, .int .i64 x.index, .slice ko x.kids.length kc] 52)).ownsRow 0 52 7 (.slice vo k vc) k (acc.flatMap fcel)) := by have := HA1.out.row.own.alloc (.cells #[Value.string x.name, .bool x.nul, .int .i64 x.kind, .int .i64 x.width, .int .i64 x.id, .int .i64 x.index, .slice ko x.kids.length kc] 52); rwa [HL.out] at this
        clear hk' hq hr hR HR HG HS hkc hrow HX
        go_wp2_with (with_reducible show wpList Tryz.prog _ _ (Oper.mk (some 13) _ _ _ _ _ :: _) _ _; refine Hid.out ?_)
        unfold Hid
        refine wpList_append_anyN (P := Tryz.prog) _ rfl (.tmp 9) (.tmp 12) 22 22 rfl 52 (.agg #[.string ⟨#[]⟩, .bool false, .int .i64 0, .int .i64 0, .int .i64 0, .int .i64 0, .slice none 0 0]) 7 80 Tryz.underlying22 info80 rfl _ _ _ rfl HO.out _ _ _ rfl HSr.out (by omega) (by omega) ?_
        refine Hid.out ?_
        unfold Hid
        intro v' w1 hown hgrow hblk
        obtain ⟨vo', vc', rfl⟩ := own_formK hown
        have gA : Gr U (U.alloc (.cells #[Value.string x.name, .bool x.nul, .int .i64 x.kind, .int .i64 x.width, .int .i64 x.id, .int .i64 x.index, .slice ko x.kids.length kc] 52)) := gr_alloc U _
        have kA : Keeps U w1 (fun z => (Value.slice vo k vc).ownBlock = some z) := (gA.mono fun _ _ h => h.elim).tr (Keeps.ofGrown hgrow)
        have hnew : ∀ g, (Value.slice vo k vc).ownBlock = some g → W.heap.size ≤ g := fun g e => HA1.out.row.new g (by rw [HL.out]; exact e)
        have kW : Keeps W w1 (fun z => z = p) := HG1.out.trans kA (fun j hj h => by have := hnew j h; omega)
        have HR2 := hidM (RAt.over HR0.out HR1.out kW (kA.block p (lt_of_heap HR1.out.box) (fun h => by have := hnew p h; have := HP.out; omega)))
        have HG2 := hidM kW
        have HL2 : Hid ((acc ++ [(x, ko, kc)]).length = k + 1) := by show _ = _; rw [List.length_append, HL.out]; rfl
        have HA2 := hidM (FL.push HWs.out.1 HWs.out.2 HA.out HA1.out HL.out HKd.out.1 HKd.out.2 hown hgrow hblk)
        clear hown hgrow hblk gA kA hnew kW HO HSr HA1 HA HKd HWs
        go_wp2_with fail
        go_roundw
        case rel => exact ⟨k + 1, acc ++ [(x, ko, kc)], a1, g1, vo', vc', by omega, by simp, rfl, HL2.out, HA2.out, HR2.out, HG2.out, HS1.out⟩
        case measure => simp [intOf]; omega
    have hkn : k = n := by omega
    subst hkn
    have hltI : ¬ (k : Int) < (k : Int) := by omega
    go_wp2_with fail
    go_ret
    have hE : R = .ok (acc.map (·.1), (a, g)) := HS.out.symm.trans sevK_end
    have hv : Value.slice vo k vc = .slice vo (acc.map (·.1)).length vc := by rw [List.length_map, HL.out]
    have hrow := HA.out.rowAt (by rw [HL.out]; show _ ≤ 1000000000000; omega)
    exact RdQ.ok HG.out hE ⟨vo, vc, hv, by rw [List.length_map]; exact hrow.1, hrow.2⟩ HR.out
end Go.Proofs.YtdihbfjjddmbiaaGreatDoor.Kit
namespace Go.Proofs.YtdihbfjjddmbiaaGreatDoor.Kit
open Go.RowKit Go.Shelf Go.Deep
set_option linter.unusedVariables false
set_option linter.unusedSimpArgs false
attribute [local go_sem] run_store_func
theorem RowI.own {lo hi d ca : Nat} {W : World} {ao : Option Addr} {l : List FT} (h : RowI lo hi W (d + 1) ao ca l) : ∃ (b : Nat) (A B : Nat → Nat) (xs : List Value),
    W.ownsRow 0 52 7 (.slice ao l.length ca) l.length xs ∧ (∀ g, (Value.slice ao l.length ca).ownBlock = some g → lo ≤ g ∧ g < hi ∧ ∀ i, i < l.length → ¬ (A i ≤ g ∧ g < B i)) ∧ (l ≠ [] → ao = some ⟨b, 0, none⟩ ∧ b < W.heap.size) ∧
    ∀ i (h : i < l.length), lo ≤ A i ∧ B i ≤ hi ∧ ¬ (A i ≤ b ∧ b < B i) ∧ (∀ j, j < i → B j ≤ A i) ∧ ∃ ao' ca', CellsAt W b (i * 7) l[i] ao' ca' ∧ RowI (A i) (B i) W d ao' ca' l[i].kids := by
  rcases h.2.2 with ⟨rfl, rfl, rfl⟩ | ⟨b, cs, rfl, h1, h2, h3, h4, h5, A, B, hj⟩
  · exact ⟨0, fun _ => 0, fun _ => 0, [], World.ownsRow_nil _ _ _ _, fun g e => by simp [Value.ownBlock] at e, fun e => absurd rfl e, fun i hi => by simp at hi⟩
  have hle := h.2.1
  refine ⟨b, A, B, cs.toList.take (l.length * 7), ⟨by simp [h4]; omega, .inr ⟨b, ca, cs, rfl, Nat.zero_le _, h3, hle, h5, h4, rfl⟩⟩, fun g e => ?_, fun _ => ⟨rfl, lt_of_heap h3⟩, fun i hi => ?_⟩
  · have e' : b = g := by simpa [Value.ownBlock] using e
    subst e'
    exact ⟨h1, h2, fun i hi => (hj i hi).2.2.2.1⟩
  obtain ⟨a1, a2, a3, a4, a5, r⟩ := hj i hi
  exact ⟨a1, a3, a4, a5, r⟩
theorem src_grown (w : World) (nm : ByteArray) (k : Int) : Src Tryz.prog 7 22 (.slice (some ⟨w.heap.size, 0, none⟩) 1 1) 1 [.string nm, .bool false, .int .i64 k, .int .i64 0, .int .i64 0, .int .i64 0, .slice none 0 0] (w.alloc (.cells #[.string nm, .bool false, .int .i64 k, .int .i64 0, .int .i64 0, .int .i64 0, .slice none 0 0] 52)) :=
  src80 w (.mk nm false k 0 0 0 []) none 0
def GrQ (lo hi : Nat) (W : World) (e : Ending) (w' : World) : Prop := e = .returned (.tuple #[]) ∧ K52 lo hi W w'
theorem grow49_step (d lo hi : Nat) (ao : Option Addr) (ca : Nat) (l : List FT) (W : World) (h49 : l ≠ [] → ∀ lo hi ao ca l W, RowI lo hi W d ao ca l → hi ≤ W.heap.size → Calls Tryz.prog 49 #[.slice ao l.length ca] W (GrQ lo hi W))
    (hrow : RowI lo hi W (d + 1) ao ca l) (hsz : hi ≤ W.heap.size) : Calls Tryz.prog 49 #[.slice ao l.length ca] W (GrQ lo hi W) := by
  have hlen : l.length ≤ 1000000000000 := hrow.1
  obtain ⟨b, A, B, xs, hown, hblk, hb, hk⟩ := hrow.own
  obtain ⟨n, hn⟩ : ∃ n, n = l.length := ⟨_, rfl⟩
  rw [← hn] at hlen hown hblk ⊢
  have H49 := hidM h49
  have HSZ := hidM hsz
  have HN := hidM hn
  have HO := hidM hown
  have HBk := hidM hblk
  have HB := hidM hb
  have HK := hidM hk
  clear hrow h49 hn hsz hown hblk hb hk
  go_enter Tryz.func49, Tryz.ntmps49
  go_wp2
  go_loopw [2] (fun p wr => ∃ k : Nat, k ≤ n ∧ p = .int .i64 (k : Int) ∧ Hid (Keeps W wr (fun z => ∃ j, j < k ∧ A j ≤ z ∧ z < B j)) ∧ Hid (K52 lo hi W wr)) (fun p _ => n - (intOf p).toNat)
  case atStart => exact ⟨0, by omega, rfl, Keeps.refl _ _, Keeps.refl _ _⟩
  case round =>
    obtain ⟨k, hk, rfl, HW, HK5⟩ := hrel
    by_cases hlt : k < n
    · have hkl : k < l.length := by have := HN.out; omega
      have hne : l ≠ [] := fun e => by rw [e] at hkl; simp at hkl
      obtain ⟨rfl, hbs⟩ := HB.out hne
      obtain ⟨a1, a3, a4, a5, ao', ca', hc, hr⟩ := HK.out k hkl
      have a1' := a1
      have a3' := a3
      have hc1 := hc.kept (HW.out.block b hbs fun ⟨j, hj, hz⟩ => (HK.out j (by omega)).2.2.1 hz)
      have hr1 := hr.kept (W' := wr) fun z z1 z2 => HW.out.block z (by have := HSZ.out; omega) fun ⟨j, hj, hz⟩ => by have := a5 j hj; omega
      have HQ := hidM (H49.out hne (A k) (B k) ao' ca' _ wr hr1 (by have := HSZ.out; have := HW.out.size; omega))
      have e6 : wr.cell? ⟨b, k * 7 + 2 + 4, none⟩ = some (.slice ao' (l[k]'hkl).kids.length ca') := hc1.c6
      obtain ⟨m, hm⟩ : ∃ m, m = (l[k]'hkl).kids.length := ⟨_, rfl⟩
      rw [← hm] at e6 HQ
      have hltI : (k : Int) < (n : Int) := by omega
      clear hm hc hr hc1 hr1 a1 a3 a4 a5 hbs
      go_wp2_with (go_at_call 49; refine HQ.out.mono ?_)
      rintro e w1 ⟨rfl, k1⟩
      have HE : Hid (Keeps W w1 (fun z => ∃ j, j < k + 1 ∧ A j ≤ z ∧ z < B j)) :=
        (HW.out.mono fun z _ ⟨j, hj, hz⟩ => ⟨j, by omega, hz⟩).trans k1.keep fun z _ hz => ⟨k, by omega, hz⟩
      have HE5 : Hid (K52 lo hi W w1) := HK5.out.trans k1 a1' a3'
      clear k1
      go_wp2_with fail
      go_roundw
      case rel => exact ⟨k + 1, by omega, by simp, HE.out, HE5.out⟩
      case measure => simp [intOf]; omega
    have hkn : k = n := by omega
    subst hkn
    have hX : wr.ownsRow 0 52 7 (.slice ao k ca) k xs := row_kp HO.out fun g e => HW.out.block g (own_lt HO.out g e) fun ⟨j, hj, hz⟩ => (HBk.out g e).2.2 j (by have := HN.out; omega) hz
    have HX := hidM hX
    have HY := HK5
    clear hX
    go_wp2_with fail
    go_loopw [0, 3] (fun v p w2 => ∃ (j : Nat) (vo : Option Addr) (vc : Nat), j ≤ 9 ∧ p = .int .i64 (j : Int) ∧ v = .slice vo (k + j : Nat) vc ∧ Hid (∃ ys, w2.ownsRow 0 52 7 (.slice vo (k + j) vc) (k + j) ys) ∧ Hid (K52 lo hi W w2) ∧ Hid (∀ g, (Value.slice vo (k + j) vc).ownBlock = some g → lo ≤ g ∧ g < hi ∨ W.heap.size ≤ g)) (fun _ p _ => 9 - (intOf p).toNat)
    case atStart => exact ⟨0, ao, ca, by omega, rfl, rfl, ⟨xs, HX.out⟩, HY.out, fun g e => .inl ⟨(HBk.out g e).1, (HBk.out g e).2.1⟩⟩
    case round =>
      obtain ⟨j, vo, vc, hj, rfl, rfl, HO2, HY2, HB2⟩ := hrel
      by_cases hlt2 : j < 9
      · have hltI : (j : Int) < 9 := by omega
        obtain ⟨ys, hys⟩ := HO2.out
        obtain ⟨A0, hA0⟩ := ex (wr.alloc (.cells #[.string ⟨#[103, 114, 111, 119, 110]⟩, .bool false, .int .i64 0, .int .i64 0, .int .i64 0, .int .i64 0, .slice none 0 0] 52))
        have g0 : Gr wr A0 := by rw [← hA0]; exact gr_alloc _ _
        have HO3 : Hid (A0.ownsRow 0 52 7 (.slice vo (k + j) vc) (k + j) ys) := by rw [← hA0]; exact hys.alloc _
        have HSr : Hid (Src Tryz.prog 7 22 (.slice (some ⟨wr.heap.size, 0, none⟩) 1 1) 1 [.string ⟨#[103, 114, 111, 119, 110]⟩, .bool false, .int .i64 0, .int .i64 0, .int .i64 0, .int .i64 0, .slice none 0 0] A0) := by rw [← hA0]; exact src_grown wr _ 0
        have HG := hidM g0
        clear g0 hys
        go_wp2_with (at_builtin; refine Hid.out ?_)
        unfold Hid
        refine wpList_append_anyN (P := Tryz.prog) _ rfl (.tmp 21) (.tmp 23) 22 22 rfl 52 (.agg #[.string ⟨#[]⟩, .bool false, .int .i64 0, .int .i64 0, .int .i64 0, .int .i64 0, .slice none 0 0]) 7 80 Tryz.underlying22 info80 rfl _ _ _ rfl HO3.out _ _ _ rfl HSr.out (by omega) (by omega) ?_
        refine Hid.out ?_
        unfold Hid
        intro v' w3 hown hgrow hnew
        obtain ⟨vo', vc', rfl⟩ := own_formK hown
        have hkG := Keeps.ofGrown hgrow
        have HE : Hid (K52 lo hi W w3) := by
          refine Keeps.trans (HY2.out.trans (K52.ofGr HG.out) (Nat.le_refl _) (Nat.le_refl _)) hkG fun z hz e0 => ?_
          have e : (Value.slice vo (k + j) vc).ownBlock = some z := e0
          have hz' := (HB2.out z e).resolve_right (by omega)
          refine ⟨hz', ?_⟩
          by_cases e5 : ∃ c : Array Value, W.heap[z]? = some (.cells c 52 (0, 0))
          · exact e5
          have hs := (HY2.out.trans (K52.ofGr HG.out) (Nat.le_refl _) (Nat.le_refl _)).block z hz fun h => e5 h.2
          obtain ⟨-, ⟨h0, -⟩ | ⟨g, cap, cur, hv, -, hg, -⟩⟩ := HO3.out
          · rw [h0] at e; simp [Value.ownBlock] at e
          rw [hv] at e
          have e' : g = z := by simpa [Value.ownBlock] using e
          subst e'
          exact ⟨cur, hs.symm.trans hg⟩
        have HF : Hid (∀ g, (Value.slice vo' (k + (j + 1)) vc').ownBlock = some g → lo ≤ g ∧ g < hi ∨ W.heap.size ≤ g) := fun g e => by
          rcases hnew with q | q
          · exact HB2.out g (q ▸ e)
          have := q g e; have := HG.out.size; have := HY2.out.size
          omega
        have HO4 : Hid (∃ ys, w3.ownsRow 0 52 7 (.slice vo' (k + (j + 1)) vc') (k + (j + 1)) ys) := ⟨_, hown⟩
        clear hown hgrow hnew hkG
        go_wp2_with fail
        go_roundw
        case rel => exact ⟨j + 1, vo', vc', by omega, by simp, rfl, HO4.out, HE.out, HF.out⟩
        case measure => simp [intOf]; omega
      have hj9 : j = 9 := by omega
      subst hj9
      go_wp2_with fail
      go_end0
      exact ⟨rfl, HY2.out⟩
theorem grow49 : ∀ (d lo hi : Nat) (ao : Option Addr) (ca : Nat) (l : List FT) (W : World), RowI lo hi W d ao ca l → hi ≤ W.heap.size → Calls Tryz.prog 49 #[.slice ao l.length ca] W (GrQ lo hi W)
  | 0, lo, hi, ao, ca, l, W, h, hs => grow49_step 0 lo hi ao ca l W (fun hn => absurd h.1 hn) (h.more (Nat.zero_le _)) hs
  | d + 1, lo, hi, ao, ca, l, W, h, hs => grow49_step d lo hi ao ca l W (fun _ => grow49 d) h hs
end Go.Proofs.YtdihbfjjddmbiaaGreatDoor.Kit
