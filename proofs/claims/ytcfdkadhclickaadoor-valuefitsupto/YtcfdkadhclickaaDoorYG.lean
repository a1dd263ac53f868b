import Derived.Test.YtcfdkadhclickaaDoorYD
namespace Go.Proofs.YtcfdkadhclickaaDoor.Kit
open Go.RowKit Go.Shelf Go.Deep
set_option linter.unusedVariables false
attribute [local go_sem] run_store_func

/-! ### Turn 23: values are written over in place -/
theorem VRow.nil (S : Nat → Prop) (W : World) : ∀ (d : Nat) (ao : Option Addr), VRow S W d ao []
  | 0, _ => rfl
  | _ + 1, _ => ⟨by simp [big], fun h => absurd rfl h⟩
/-- what Turn leaves -/
def TurnQ (W : World) (D lo hi : Nat) (ao : Option Addr) (n : Nat) (e : Ending) (w' : World) : Prop :=
  e = .returned (.tuple #[]) ∧ Keeps W w' (fun z => lo ≤ z ∧ z < hi) ∧ ∃ l', l'.length = n ∧ VRow (fun z => lo ≤ z ∧ z < hi) w' D ao l'
structure TuI (W wr : World) (lo hi b n D : Nat) (P : Nat → Nat) (l : List VT) (k : Nat) : Prop where
  kp : Keeps W wr (fun z => lo ≤ z ∧ z < hi)
  row : ∃ cur, wr.heap[b]? = some (.cells cur 29 (0, 0)) ∧ cur.size = (n + 2) * 4
  done : ∀ i, i < k → ∃ v ao' ca', VCells wr b (i * 4) v ao' ca' ∧ v.list.length ≤ ca' ∧ VOk v ∧ VRow (fun z => P i ≤ z ∧ z < P (i + 1)) wr D ao' v.list
  todo : ∀ i (h : i < l.length), k ≤ i → ∃ ao', VCells wr b (i * 4) l[i] ao' (l[i].list.length + 2) ∧ VOk l[i] ∧ TRow wr D (P i) (P (i + 1)) ao' l[i].list
/-- how the blocks lie -/
structure TuP (lo hi b n : Nat) (P : Nat → Nat) : Prop where
  lo : lo ≤ b
  b0 : b < P 0
  ch : ∀ i, i < n → P i ≤ P (i + 1)
  hi : P n ≤ hi
theorem TuI.step {W wr w' : World} {lo hi b n D k : Nat} {P : Nat → Nat} {l : List VT} (h : TuI W wr lo hi b n D P l k) (hp : TuP lo hi b n P) (hn : n = l.length) (hk : k < n) (hhi : hi ≤ wr.heap.size)
    (kk : Keeps wr w' (fun z => z = b ∨ (P k ≤ z ∧ z < P (k + 1)))) (hr : ∃ cur, w'.heap[b]? = some (.cells cur 29 (0, 0)) ∧ cur.size = (n + 2) * 4)
    (ho : ∀ j, j < k * 4 ∨ k * 4 + 4 ≤ j → w'.cell? ⟨b, j, none⟩ = wr.cell? ⟨b, j, none⟩)
    (hv : ∃ v ao' ca', VCells w' b (k * 4) v ao' ca' ∧ v.list.length ≤ ca' ∧ VOk v ∧ VRow (fun z => P k ≤ z ∧ z < P (k + 1)) w' D ao' v.list) : TuI W w' lo hi b n D P l (k + 1) := by
  have c0 := chain_le hp.ch (Nat.zero_le k) (Nat.le_of_lt hk)
  have c1 := chain_le hp.ch (show k + 1 ≤ n from hk) (Nat.le_refl n)
  have c2 := hp.ch k hk
  have hb0 := hp.b0
  have hlo := hp.lo
  have hh := hp.hi
  have vc : ∀ i, i ≠ k → ∀ {v : VT} {ao : Option Addr} {ca : Nat}, VCells wr b (i * 4) v ao ca → VCells w' b (i * 4) v ao ca := fun i hi v ao ca hc =>
    ⟨(ho _ (by omega)).trans hc.c0, (ho _ (by omega)).trans hc.c1, (ho _ (by omega)).trans hc.c2, (ho _ (by omega)).trans hc.c3⟩
  have kb : ∀ i, i ≠ k → i < n → ∀ c, P i ≤ c → c < P (i + 1) → w'.heap[c]? = wr.heap[c]? := fun i hik hi c h1 h2 => by
    have d0 := chain_le hp.ch (Nat.zero_le i) (Nat.le_of_lt hi)
    have d1 := chain_le hp.ch (show i + 1 ≤ n from hi) (Nat.le_refl n)
    refine kk.block c (by omega) ?_
    rintro (e | ⟨e1, e2⟩)
    · omega
    · by_cases e : i < k
      · have := chain_le hp.ch (show i + 1 ≤ k from e) (Nat.le_of_lt hk); omega
      · have := chain_le hp.ch (show k + 1 ≤ i by omega) (Nat.le_of_lt hi); omega
  refine ⟨h.kp.trans kk (fun j hj e => ?_), hr, fun i hi => ?_, fun i hil hki => ?_⟩
  · rcases e with e | e
    · omega
    · omega
  · by_cases e : i = k
    · subst e; exact hv
    · obtain ⟨v, ao', ca', hc, hle, hok, hrw⟩ := h.done i (by omega)
      exact ⟨v, ao', ca', vc i e hc, hle, hok, hrw.kept fun c hc => kb i e (by omega) c hc.1 hc.2⟩
  · obtain ⟨ao', hc, hok, hT⟩ := h.todo i hil (by omega)
    exact ⟨ao', vc i (by omega) hc, hok, TRow.kept hT fun c h1 h2 => kb i (by omega) (by omega) c h1 h2⟩
theorem TuI.fin {W wr : World} {lo hi b n D : Nat} {P : Nat → Nat} {l : List VT} (h : TuI W wr lo hi b n D P l n) (hp : TuP lo hi b n P) (hn : n ≤ big) : ∃ l', l'.length = n ∧ VRow (fun z => lo ≤ z ∧ z < hi) wr (D + 1) (some ⟨b, 0, none⟩) l' := by
  have hbh : b < hi := by have := chain_le hp.ch (Nat.zero_le n) (Nat.le_refl n); have := hp.b0; have := hp.hi; omega
  have hlist : ∀ m, m ≤ n → ∃ l' : List VT, l'.length = m ∧ ∀ i (hi' : i < l'.length), ∃ ao' ca', VCells wr b (i * 4) l'[i] ao' ca' ∧ l'[i].list.length ≤ ca' ∧ VOk l'[i] ∧ VRow (fun z => lo ≤ z ∧ z < hi) wr D ao' l'[i].list := by
    intro m
    induction m with
    | zero => intro _; exact ⟨[], rfl, fun i hi => by simp at hi⟩
    | succ m ih =>
      intro hm
      obtain ⟨l', hl', hall⟩ := ih (by omega)
      obtain ⟨v, ao', ca', hc, hle, hok, hr⟩ := h.done m (by omega)
      refine ⟨l' ++ [v], by simp [hl'], fun i hi => ?_⟩
      by_cases e : i < l'.length
      · rw [List.getElem_append_left e]
        exact hall i e
      · have hi2 : i = l'.length := by simp at hi; omega
        subst hi2
        rw [List.getElem_append_right (Nat.le_refl _)]
        simp only [Nat.sub_self, List.getElem_cons_zero]
        rw [hl']
        refine ⟨ao', ca', hc, hle, hok, hr.wide fun c hc => ?_⟩
        have d0 := chain_le hp.ch (Nat.zero_le m) (show m ≤ n by omega)
        have d1 := chain_le hp.ch (show m + 1 ≤ n by omega) (Nat.le_refl n)
        have := hp.b0
        have := hp.lo
        have := hp.hi
        exact ⟨by omega, by omega⟩
  obtain ⟨l', hl', hall⟩ := hlist n (Nat.le_refl n)
  refine ⟨l', hl', by omega, fun _ => ⟨b, 0, rfl, ⟨hp.lo, hbh⟩, fun i hi => ?_⟩⟩
  obtain ⟨ao', ca', hc, hle, hok, hr⟩ := hall i hi
  exact ⟨ao', ca', by rw [Nat.zero_add]; exact hc, hle, hok, hr⟩
theorem cell_set_ne {w : World} {b j i : Nat} {v : Value} (h : i ≠ j) : (w.setCell ⟨b, j, none⟩ v).cell? ⟨b, i, none⟩ = w.cell? ⟨b, i, none⟩ := by
  simp [World.cell?, World.setCell, Array.getElem?_modify]
  cases e : w.heap[b]? with
  | none => rfl
  | some o =>
    cases o <;> simp [h.symm]
theorem cell_set_same {w : World} {b j t : Nat} {cur : Array Value} {v : Value} (h : w.heap[b]? = some (.cells cur t (0, 0))) (hj : j < cur.size) : (w.setCell ⟨b, j, none⟩ v).cell? ⟨b, j, none⟩ = some v := by
  have h1 := heap_setCell_same w b j cur t v h
  simp [World.cell?, h1, hj]
theorem text_ne {t : ByteArray} (h : ¬ t.size = 0) : (t.toList == []) = false := by
  rw [ByteArray.toList_eq, beq_eq_false_iff_ne]
  intro e
  have := congrArg List.length e
  simp only [Array.length_toList, List.length_nil] at this
  exact h this
theorem text_zero {t : ByteArray} (h : ¬ t.size = 0) : (⟨#[48]⟩ ++ t.extract 1 t.size : ByteArray).size = t.size := by
  rw [ByteArray.size_append, ByteArray.size_extract]
  have : (⟨#[48]⟩ : ByteArray).size = 1 := rfl
  omega
/-- one cell of a value is written -/
theorem TuI.one {W wr : World} {lo hi b n D k : Nat} {P : Nat → Nat} {l : List VT} (h : TuI W wr lo hi b n D P l k) (hp : TuP lo hi b n P) (hn : n = l.length) (hk : k < n) (hhi : hi ≤ wr.heap.size) (m : Nat) (hm : m < 4) (x : Value)
    (hv : ∃ v ao' ca', VCells (wr.setCell ⟨b, k * 4 + m, none⟩ x) b (k * 4) v ao' ca' ∧ v.list.length ≤ ca' ∧ VOk v ∧ v.list = []) : TuI W (wr.setCell ⟨b, k * 4 + m, none⟩ x) lo hi b n D P l (k + 1) := by
  obtain ⟨cur, hr, hs⟩ := h.row
  obtain ⟨v, ao', ca', hc, hle, hok, hl⟩ := hv
  refine h.step hp hn hk hhi ((Keeps.refl wr (fun z => z = b ∨ (P k ≤ z ∧ z < P (k + 1)))).setCell (p := ⟨b, k * 4 + m, none⟩) (fun _ => .inl rfl) _) ⟨_, heap_setCell_same wr b _ cur 29 x hr, by simpa using hs⟩ (fun j hj => cell_set_ne (by omega)) ⟨v, ao', ca', hc, hle, hok, ?_⟩
  rw [hl]
  exact VRow.nil _ _ _ _
/-- a value is written whole -/
theorem TuI.whole {W wr : World} {lo hi b n D k : Nat} {P : Nat → Nat} {l : List VT} (h : TuI W wr lo hi b n D P l k) (hp : TuP lo hi b n P) (hn : n = l.length) (hk : k < n) (hhi : hi ≤ wr.heap.size) :
    TuI W ((((wr.setCell ⟨b, k * 4, none⟩ (.bool false)).setCell ⟨b, k * 4 + 1, none⟩ (.int .i64 1)).setCell ⟨b, k * 4 + 2, none⟩ (.string ⟨#[]⟩)).setCell ⟨b, k * 4 + 3, none⟩ (.slice none 0 0)) lo hi b n D P l (k + 1) := by
  obtain ⟨cur, hr, hs⟩ := h.row
  have h1 := heap_setCell_same wr b (k * 4) cur 29 (.bool false) hr
  have h2 := heap_setCell_same _ b (k * 4 + 1) _ 29 (.int .i64 1) h1
  have h3 := heap_setCell_same _ b (k * 4 + 2) _ 29 (.string ⟨#[]⟩) h2
  have h4 := heap_setCell_same _ b (k * 4 + 3) _ 29 (.slice none 0 0) h3
  refine h.step hp hn hk hhi ?_ ⟨_, h4, by simpa using hs⟩ (fun j hj => ?_) ⟨.mk false 1 ⟨#[]⟩ [], none, 0, ⟨?_, ?_, ?_, ?_⟩, Nat.le_refl _, ⟨by simp [VT.num, is64], by decide⟩, VRow.nil _ _ _ _⟩
  · exact (((((Keeps.refl wr (fun z => z = b ∨ (P k ≤ z ∧ z < P (k + 1)))).setCell (p := ⟨b, k * 4, none⟩) (fun _ => .inl rfl) _).setCell (p := ⟨b, k * 4 + 1, none⟩) (fun _ => .inl rfl) _).setCell (p := ⟨b, k * 4 + 2, none⟩) (fun _ => .inl rfl) _).setCell (p := ⟨b, k * 4 + 3, none⟩) (fun _ => .inl rfl) _)
  · rw [cell_set_ne (by omega), cell_set_ne (by omega), cell_set_ne (by omega), cell_set_ne (by omega)]
  · rw [cell_set_ne (by omega), cell_set_ne (by omega), cell_set_ne (by omega)]
    exact cell_set_same hr (by omega)
  · rw [cell_set_ne (by omega), cell_set_ne (by omega)]
    exact cell_set_same h1 (by simp; omega)
  · rw [cell_set_ne (by omega)]
    exact cell_set_same h2 (by simp; omega)
  · exact cell_set_same h3 (by simp; omega)
/-- the lists within are written -/
theorem TuI.kids {W wr w' : World} {lo hi b n D k : Nat} {P : Nat → Nat} {l : List VT} (h : TuI W wr lo hi b n D P l k) (hp : TuP lo hi b n P) (hn : n = l.length) (hk : k < n) (hhi : hi ≤ wr.heap.size) {v : VT} {ao' : Option Addr} {ca' : Nat}
    (hc : VCells wr b (k * 4) v ao' ca') (hle : v.list.length ≤ ca') (hok : VOk v) (kq : Keeps wr w' (fun z => P k ≤ z ∧ z < P (k + 1))) {l' : List VT} (hl : l'.length = v.list.length) (hr : VRow (fun z => P k ≤ z ∧ z < P (k + 1)) w' D ao' l') : TuI W w' lo hi b n D P l (k + 1) := by
  obtain ⟨cur, hb, hs⟩ := h.row
  have c0 := chain_le hp.ch (Nat.zero_le k) (Nat.le_of_lt hk)
  have hb0 := hp.b0
  have e : w'.heap[b]? = wr.heap[b]? := kq.block b (lt_of_heap hb) (by omega)
  have ec : ∀ j, w'.cell? ⟨b, j, none⟩ = wr.cell? ⟨b, j, none⟩ := fun j => World.cell?_of_block (w := wr) e
  refine h.step hp hn hk hhi (kq.mono fun _ _ h => .inr h) ⟨cur, e.trans hb, hs⟩ (fun j _ => ec j) ⟨.mk v.nul v.num v.text l', ao', ca', ⟨(ec _).trans hc.c0, (ec _).trans hc.c1, (ec _).trans hc.c2, ?_⟩, by show l'.length ≤ ca'; omega, hok, hr⟩
  show w'.cell? _ = some (.slice ao' l'.length ca')
  rw [hl]
  exact (ec _).trans hc.c3
set_option maxRecDepth 100000 in
set_option maxHeartbeats 4000000 in
theorem turn_step (D : Nat) (h23 : ∀ (W : World) (lo hi : Nat) (ao : Option Addr) (l : List VT), TRow W D lo hi ao l → hi ≤ W.heap.size → Calls Tryd.prog 23 #[.slice ao l.length (l.length + 2)] W (TurnQ W D lo hi ao l.length))
    (W : World) (lo hi : Nat) (ao : Option Addr) (l : List VT) (ht : TRow W (D + 1) lo hi ao l) (hhi : hi ≤ W.heap.size) : Calls Tryd.prog 23 #[.slice ao l.length (l.length + 2)] W (TurnQ W (D + 1) lo hi ao l.length) := by
  obtain ⟨hlen, b, cur, rfl, hlo, hb, hs, hm, P, h0, hP, hh, hts⟩ := ht
  have hlen' : l.length ≤ 1000000000000 := hlen
  have H23 := hidM h23
  have HI0 : Hid (TuI W W lo hi b l.length D P l 0) := ⟨Keeps.refl _ _, ⟨cur, hb, hs⟩, fun i h => by omega, fun i h _ => hts i h⟩
  have HP : Hid (TuP lo hi b l.length P) := ⟨hlo, h0, hP, hh⟩
  have HH := hidM hhi
  obtain ⟨n, hn⟩ : ∃ n, n = l.length := ⟨_, rfl⟩
  rw [← hn] at HI0 HP hlen' ⊢
  have HN := hidM hn
  clear h23 hlen hlo hb hs hm h0 hP hh hts hhi hn
  go_enter Tryd.func23, Tryd.ntmps23
  go_wp2
  go_loopw [2] (fun p wr => ∃ k : Nat, k ≤ n ∧ p = .int .i64 (k : Int) ∧ Hid (TuI W wr lo hi b n D P l k)) (fun p _ => n - (intOf p).toNat)
  case atStart => exact ⟨0, by omega, rfl, HI0.out⟩
  case round =>
    obtain ⟨k, hk, rfl, HK⟩ := hrel
    by_cases hlt : k < n
    · have hkl : k < l.length := by have := HN.out; omega
      obtain ⟨ao', hc, hok, hT⟩ := HK.out.todo k hkl (Nat.le_refl k)
      have HX := hidM (And.intro hok hT)
      have HC := hidM hc
      obtain ⟨cur, hr, hs⟩ := HK.out.row
      have HRow := hidM (And.intro hr hs)
      have z0 := frz hr (k * 4)
      have z1 := frz hr (k * 4 + 1)
      have z2 := frz hr (k * 4 + 2)
      have z3 := frz hr (k * 4 + 3)
      obtain ⟨v, hv⟩ : ∃ v, v = l[k]'hkl := ⟨_, rfl⟩
      rw [← hv] at hc HC HX
      have HV := hidM hv
      obtain ⟨c0, c1, c2, c3⟩ := hc
      have hltI : (k : Int) < (n : Int) := by omega
      have HHr : Hid (hi ≤ wr.heap.size) := by have := HH.out; have := HK.out.kp.size; show _ ≤ _; omega
      clear hok hT hr hs hv
      cases hnul : v.nul with
      | true =>
        rw [hnul] at c0
        go_wp2
        exact ⟨⟨k + 1, by omega, by simp, HK.out.whole HP.out HN.out hlt HHr.out⟩, by simp [intOf]; omega⟩
      | false =>
        rw [hnul] at c0
        by_cases hll : 0 < v.list.length
        · have hllI : (0 : Int) < (v.list.length : Int) := by omega
          have hPk : P (k + 1) ≤ wr.heap.size := by have := chain_le HP.out.ch (show k + 1 ≤ n from hlt) (Nat.le_refl n); have := HP.out.hi; have := HHr.out; omega
          have HCall := hidM (H23.out wr (P k) (P (k + 1)) ao' v.list HX.out.2 hPk)
          clear hPk
          go_wp2_with (go_at_call 23; refine Hid.out ?_)
          unfold Hid
          refine Calls.mono HCall.out ?_
          rintro e V1 ⟨rfl, hkq, l', hl', hrl'⟩
          have HI2 : Hid (TuI W V1 lo hi b n D P l (k + 1)) := HK.out.kids HP.out HN.out hlt HHr.out HC.out (by omega) HX.out.1 hkq hl' hrl'
          clear hkq hrl' c0 c1 c2 c3 z0 z1 z2 z3
          go_wp2_with fail
          exact ⟨⟨k + 1, by omega, by simp, HI2.out⟩, by simp [intOf]; omega⟩
        · have hl0 : v.list = [] := List.eq_nil_of_length_eq_zero (by omega)
          rw [hl0] at c3
          simp only [List.length_nil] at c3
          have hcn : VCells wr b (k * 4) v ao' (v.list.length + 2) := HC.out
          have one := fun m hm x hv => HK.out.one HP.out HN.out hlt HHr.out m hm x hv
          have hsz := HRow.out.2
          have hrw := HRow.out.1
          have hok := HX.out.1
          have hsT : v.text.size ≤ 1000000000000 := hok.2
          by_cases ht0 : v.text.size = 0
          · have hte := size_nil ht0
            rw [hte] at c2
            have num : ∀ x : Int, is64 x → TuI W (wr.setCell ⟨b, k * 4 + 1, none⟩ (.int .i64 x)) lo hi b n D P l (k + 1) := fun x hx => one 1 (by omega) _ ⟨.mk v.nul x v.text [], ao', v.list.length + 2, ⟨(cell_set_ne (by omega)).trans hcn.c0, cell_set_same hrw (by omega), (cell_set_ne (by omega)).trans hcn.c2, by
                rw [cell_set_ne (by omega), hcn.c3, hl0]; rfl⟩, by show 0 ≤ _; omega, ⟨hx, hok.2⟩, rfl⟩
            have HNum := hidM num
            clear num one hcn hsz hrw hok
            by_cases hn0 : v.num = 0
            · rw [hn0] at c1
              go_wp2
              exact ⟨⟨k + 1, by omega, by simp, HNum.out 1 (by decide)⟩, by simp [intOf]; omega⟩
            · have hnb : (v.num == 0) = false := by simp [hn0]
              go_wp2
              exact ⟨⟨k + 1, by omega, by simp, HNum.out 0 (by decide)⟩, by simp [intOf]; omega⟩
          · have htb := text_ne ht0
            have HTx : Hid (TuI W (wr.setCell ⟨b, k * 4 + 2, none⟩ (.string (⟨#[48]⟩ ++ v.text.extract 1 v.text.size))) lo hi b n D P l (k + 1)) := one 2 (by omega) _ ⟨.mk v.nul v.num (⟨#[48]⟩ ++ v.text.extract 1 v.text.size) [], ao', v.list.length + 2, ⟨(cell_set_ne (by omega)).trans hcn.c0, (cell_set_ne (by omega)).trans hcn.c1, cell_set_same hrw (by omega), by
                rw [cell_set_ne (by omega), hcn.c3, hl0]; rfl⟩, by show 0 ≤ _; omega, ⟨hok.1, by
                show (⟨#[48]⟩ ++ v.text.extract 1 v.text.size : ByteArray).size ≤ 1000000000000
                have := text_zero ht0
                omega⟩, rfl⟩
            clear one hcn hsz hrw hok
            go_wp2
            all_goals first | exact ⟨⟨k + 1, by omega, by simp, HTx.out⟩, by simp [intOf]; omega⟩ | (exfalso; omega)
    · have hkn : k = n := by omega
      subst hkn
      have HF := hidM (And.intro HK.out.kp (HK.out.fin HP.out hlen'))
      go_wp2
      go_end0
      exact ⟨rfl, HF.out.1, HF.out.2⟩
/-- all depths -/
theorem turn_any : ∀ (D : Nat) (W : World) (lo hi : Nat) (ao : Option Addr) (l : List VT), TRow W D lo hi ao l → hi ≤ W.heap.size → Calls Tryd.prog 23 #[.slice ao l.length (l.length + 2)] W (TurnQ W D lo hi ao l.length)
  | 0, _, _, _, _, _, h, _ => h.elim
  | D + 1, W, lo, hi, ao, l, h, hh => turn_step D (turn_any D) W lo hi ao l h hh
end Go.Proofs.YtcfdkadhclickaaDoor.Kit
