import Derived.Test.YtjdojbbjbippoaaDoorTA
namespace Go.Proofs.YtjdojbbjbippoaaDoor.Kit
open Go.RowKit Go.Shelf Go.Deep
set_option linter.unusedVariables false
attribute [local go_sem] run_store_func

/-! ### Spoil 8: fields are written over in place -/
def SpQ (W : World) (d lo hi : Nat) (ao : Option Addr) (ca : Nat) (m : ByteArray) (n : Nat) (e : Ending) (w' : World) : Prop :=
  e = .returned (.tuple #[]) ∧ Keeps W w' (fun z => lo ≤ z ∧ z < hi) ∧ ∃ l', l'.length = n ∧ (∀ f, f ∈ l' → f.name = m) ∧ Tr w' d lo hi ao ca l'
/-- how the blocks lie -/
structure TuP (lo hi g n : Nat) (A : Nat → Nat) : Prop where
  lo : lo ≤ g
  b0 : g < A 0
  ch : ∀ i, i < n → A i ≤ A (i + 1)
  hi : A n ≤ hi
structure SpI (W wr : World) (lo hi g ca d : Nat) (A : Nat → Nat) (m : ByteArray) (l : List FT) (k : Nat) : Prop where
  kp : Keeps W wr (fun z => lo ≤ z ∧ z < hi)
  row : ∃ cur, wr.heap[g]? = some (.cells cur 38 (0, 0)) ∧ cur.size = ca * 7
  done : ∀ i, i < k → ∃ f ao' ca', f.name = m ∧ CellsAt wr g (i * 7) f ao' ca' ∧ Tr wr d (A i) (A (i + 1)) ao' ca' f.kids
  todo : ∀ i (h : i < l.length), k ≤ i → ∃ ao' ca', CellsAt wr g (i * 7) l[i] ao' ca' ∧ Tr wr d (A i) (A (i + 1)) ao' ca' l[i].kids
theorem Set7.drew {w w' : World} {g p s : Nat} {v0 v1 v2 v3 v4 v5 v6 : Value} (h : Set7 w w' g p s v0 v1 v2 v3 v4 v5 v6) : Set7 w w'.drew g p s v0 v1 v2 v3 v4 v5 v6 := ⟨h.row, h.old, h.c0, h.c1, h.c2, h.c3, h.c4, h.c5, h.c6, h.keeps.drew⟩
theorem SpI.step {W wr V1 w' : World} {lo hi g ca d k : Nat} {A : Nat → Nat} {m : ByteArray} {l l' : List FT} {b : Bool} {ao' : Option Addr} {ca' : Nat} (h : SpI W wr lo hi g ca d A m l k) (hp : TuP lo hi g l.length A) (hk : k < l.length) (hhi : hi ≤ wr.heap.size)
    (kq : Keeps wr V1 (fun z => A k ≤ z ∧ z < A (k + 1))) (ht : Tr V1 d (A k) (A (k + 1)) ao' ca' l')
    (hs : Set7 V1 w' g (k * 7) (ca * 7) (.string m) (.bool b) (.int .i64 99) (.int .i64 (k : Int)) (.int .i64 0) (.int .i64 0) (.slice ao' l'.length ca')) : SpI W w' lo hi g ca d A m l (k + 1) := by
  have c0 := chain_le hp.ch (Nat.zero_le k) (Nat.le_of_lt hk)
  have c1 := chain_le hp.ch (show k + 1 ≤ l.length from hk) (Nat.le_refl _)
  have c2 := hp.ch k hk
  have hb0 := hp.b0
  have hlo := hp.lo
  have hh := hp.hi
  have hk1 := kq.size
  obtain ⟨cur0, hg0, _⟩ := h.row
  have eg : V1.heap[g]? = wr.heap[g]? := kq.block g (lt_of_heap hg0) (by omega)
  have vc : ∀ i, i ≠ k → ∀ {f : FT} {ao : Option Addr} {ca : Nat}, CellsAt wr g (i * 7) f ao ca → CellsAt w' g (i * 7) f ao ca := fun i hi f ao ca hc => by
    have hc := hc.kept eg
    exact ⟨(hs.old _ (by omega)).trans hc.c0, (hs.old _ (by omega)).trans hc.c1, (hs.old _ (by omega)).trans hc.c2, (hs.old _ (by omega)).trans hc.c3, (hs.old _ (by omega)).trans hc.c4, (hs.old _ (by omega)).trans hc.c5, (hs.old _ (by omega)).trans hc.c6⟩
  have kb : ∀ i, i ≠ k → i < l.length → ∀ c, A i ≤ c → c < A (i + 1) → w'.heap[c]? = wr.heap[c]? := fun i hik hi c h1 h2 => by
    have d0 := chain_le hp.ch (Nat.zero_le i) (Nat.le_of_lt hi)
    have d1 := chain_le hp.ch (show i + 1 ≤ l.length from hi) (Nat.le_refl _)
    refine (hs.keeps.block c (by omega) (by omega)).trans (kq.block c (by omega) ?_)
    rintro ⟨e1, e2⟩
    by_cases e : i < k
    · have := chain_le hp.ch (show i + 1 ≤ k from e) (Nat.le_of_lt hk); omega
    · have := chain_le hp.ch (show k + 1 ≤ i by omega) (Nat.le_of_lt hi); omega
  refine ⟨(h.kp.trans kq (fun j hj e => by omega)).trans hs.keeps (fun j hj e => by omega), hs.row, fun i hi => ?_, fun i hil hki => ?_⟩
  · by_cases e : i = k
    · subst e
      exact ⟨.mk m b 99 (i : Int) 0 0 l', ao', ca', rfl, ⟨hs.c0, hs.c1, hs.c2, hs.c3, hs.c4, hs.c5, hs.c6⟩, ht.kept fun c h1 h2 => hs.keeps.block c (by omega) (by omega)⟩
    · obtain ⟨f, ao2, ca2, hn, hc, hr⟩ := h.done i (by omega)
      exact ⟨f, ao2, ca2, hn, vc i e hc, hr.kept fun c h1 h2 => kb i e (by omega) c h1 h2⟩
  · obtain ⟨ao2, ca2, hc, hr⟩ := h.todo i hil (by omega)
    exact ⟨ao2, ca2, vc i (by omega) hc, hr.kept fun c h1 h2 => kb i (by omega) hil c h1 h2⟩
theorem SpI.fin {W wr : World} {lo hi g ca d : Nat} {A : Nat → Nat} {m : ByteArray} {l : List FT} (h : SpI W wr lo hi g ca d A m l l.length) (hp : TuP lo hi g l.length A) (hn : l.length ≤ big) (hca : l.length ≤ ca) (hm : ca ≤ maxLen) : ∃ l', l'.length = l.length ∧ (∀ f, f ∈ l' → f.name = m) ∧ Tr wr (d + 1) lo hi (some ⟨g, 0, none⟩) ca l' := by
  have hlist : ∀ n, n ≤ l.length → ∃ l' : List FT, l'.length = n ∧ (∀ f, f ∈ l' → f.name = m) ∧ ∀ i (hi' : i < l'.length), ∃ ao' ca', CellsAt wr g (i * 7) l'[i] ao' ca' ∧ Tr wr d (A i) (A (i + 1)) ao' ca' l'[i].kids := by
    intro n
    induction n with
    | zero => intro _; exact ⟨[], rfl, fun f h => by simp at h, fun i hi => by simp at hi⟩
    | succ n ih =>
      intro hm
      obtain ⟨l', hl', hnm, hall⟩ := ih (by omega)
      obtain ⟨f, ao', ca', hf, hc, hr⟩ := h.done n (by omega)
      refine ⟨l' ++ [f], by simp [hl'], fun x hx => ?_, fun i hi => ?_⟩
      · rcases List.mem_append.1 hx with hx | hx
        · exact hnm x hx
        · rw [List.mem_singleton] at hx; subst hx; exact hf
      · by_cases e : i < l'.length
        · rw [List.getElem_append_left e]
          exact hall i e
        · have hi2 : i = l'.length := by simp at hi; omega
          subst hi2
          rw [List.getElem_append_right (Nat.le_refl _)]
          simp only [Nat.sub_self, List.getElem_cons_zero]
          rw [hl']
          exact ⟨ao', ca', hc, hr⟩
  obtain ⟨l', hl', hnm, hall⟩ := hlist l.length (Nat.le_refl _)
  obtain ⟨cur, hg, hs⟩ := h.row
  refine ⟨l', hl', hnm, by omega, .inr ⟨g, cur, A, rfl, hp.lo, hp.b0, by rw [hl']; exact hp.hi, hg, hs, by omega, hm, fun i hi => ⟨hp.ch i (by omega), hall i hi⟩⟩⟩
set_option maxRecDepth 100000 in
set_option maxHeartbeats 4000000 in
theorem spoil_nil (W : World) (m : ByteArray) (ao : Option Addr) (ca : Nat) : Calls Tryd.prog 8 #[.slice ao 0 ca, .string m] W fun e w' => e = .returned (.tuple #[]) ∧ W = w' := by
  go_enter Tryd.func8, Tryd.ntmps8
  go_wp2
  go_loopw [7] (fun p wr => p = .int .i64 0 ∧ wr = W) (fun p _ => 0)
  case atStart => exact ⟨rfl, rfl⟩
  case round =>
    obtain ⟨rfl, rfl⟩ := hrel
    go_wp2
    go_end0
    exact ⟨rfl, rfl⟩
set_option maxRecDepth 100000 in
set_option maxHeartbeats 4000000 in
theorem spoil_step (d : Nat) (m : ByteArray) (h8 : ∀ (W : World) (lo hi : Nat) (ao : Option Addr) (ca : Nat) (l : List FT), Tr W d lo hi ao ca l → hi ≤ W.heap.size → Calls Tryd.prog 8 #[.slice ao l.length ca, .string m] W (SpQ W d lo hi ao ca m l.length))
    (W : World) (lo hi : Nat) (ao : Option Addr) (ca : Nat) (l : List FT) (ht : Tr W (d + 1) lo hi ao ca l) (hhi : hi ≤ W.heap.size) : Calls Tryd.prog 8 #[.slice ao l.length ca, .string m] W (SpQ W (d + 1) lo hi ao ca m l.length) := by
  obtain ⟨hlen, hor⟩ := ht
  rcases hor with ⟨rfl, rfl, rfl⟩ | ⟨g, cur, A, rfl, hlo, h0, hh, hb, hs, hca, hm, hts⟩
  · refine Calls.mono (spoil_nil W m none 0) ?_
    rintro e w' ⟨rfl, rfl⟩
    exact ⟨rfl, Keeps.refl _ _, [], rfl, fun f h => by simp at h, Tr.nil _ _ _ _⟩
  have H8 := hidM h8
  have HI0 : Hid (SpI W W lo hi g ca d A m l 0) := ⟨Keeps.refl _ _, ⟨cur, hb, hs⟩, fun i h => by omega, fun i h _ => (hts i h).2⟩
  have HP : Hid (TuP lo hi g l.length A) := ⟨hlo, h0, fun i hi => (hts i hi).1, hh⟩
  have HH := hidM hhi
  have HLen := hidM (And.intro hlen (And.intro hca hm))
  obtain ⟨n, hn⟩ : ∃ n, n = l.length := ⟨_, rfl⟩
  have hnc : n ≤ ca := by omega
  have hnb : n ≤ 1000000000000 := by have : l.length ≤ 1000000000000 := hlen; omega
  rw [← hn]
  have HN := hidM hn
  clear h8 hlen hlo hb hs hm h0 hh hts hhi hn hca
  go_enter Tryd.func8, Tryd.ntmps8
  go_wp2
  go_loopw [7] (fun p wr => ∃ k : Nat, k ≤ n ∧ p = .int .i64 (k : Int) ∧ Hid (SpI W wr lo hi g ca d A m l k)) (fun p _ => n - (intOf p).toNat)
  case atStart => exact ⟨0, by omega, rfl, HI0.out⟩
  case round =>
    obtain ⟨k, hk, rfl, HK⟩ := hrel
    by_cases hlt : k < n
    · have hkl : k < l.length := by have := HN.out; omega
      obtain ⟨ao', ca', hc, hT⟩ := HK.out.todo k hkl (Nat.le_refl k)
      have HHr : Hid (hi ≤ wr.heap.size) := by have := HH.out; have := HK.out.kp.size; show _ ≤ _; omega
      have hPk : A (k + 1) ≤ wr.heap.size := by have := chain_le HP.out.ch (show k + 1 ≤ l.length from hkl) (Nat.le_refl _); have := HP.out.hi; have := HHr.out; omega
      have HCall := hidM (H8.out wr (A k) (A (k + 1)) ao' ca' l[k].kids hT hPk)
      have HC := hidM hc
      obtain ⟨c0, c1, c2, c3, c4, c5, c6⟩ := hc
      obtain ⟨q, hq⟩ : ∃ q, q = (l[k]'hkl).kids.length := ⟨_, rfl⟩
      rw [← hq] at c6 HCall
      have HQ := hidM hq
      have hltI : (k : Int) < (n : Int) := by omega
      have hlcI : (k : Int) < (ca : Int) := by omega
      clear hT hPk c0 c1 c2 c3 c4 c5 hq
      go_wp2_with (go_at_call 8; refine Hid.out ?_)
      unfold Hid
      refine Calls.mono HCall.out ?_
      rintro e V1 ⟨rfl, hkq, l', hl', hnm, hT'⟩
      obtain ⟨cur, hr, hsz⟩ := HK.out.row
      have hck0 := chain_le HP.out.ch (Nat.zero_le k) (Nat.le_of_lt hkl)
      have hgA := HP.out.b0
      have eg : V1.heap[g]? = wr.heap[g]? := hkq.block g (lt_of_heap hr) (by omega)
      have hr1 := eg.trans hr
      have hc1 := HC.out.kept eg
      have hfit : k * 7 + 7 ≤ cur.size := by omega
      obtain ⟨d0, d1, d2, d3, d4, d5, d6⟩ := hc1
      have hqq := HQ.out
      rw [← hqq] at d6
      obtain ⟨nb, hnb⟩ : ∃ nb, nb = (l[k]'hkl).nul := ⟨_, rfl⟩
      rw [← hnb] at d1
      have e0 := frz hr1 (k * 7)
      have e1 := frz hr1 (k * 7 + 1)
      have e2 := frz hr1 (k * 7 + 2)
      have e3 := frz hr1 (k * 7 + 3)
      have e4 := frz hr1 (k * 7 + 4)
      have e5 := frz hr1 (k * 7 + 5)
      have e6 := frz hr1 (k * 7 + 6)
      have hS7 := setSeven hr1 hfit (.string m) (.bool (!nb)) (.int .i64 99) (.int .i64 (k : Int)) (.int .i64 0) (.int .i64 0) (.slice ao' q ca')
      rw [hsz] at hS7
      have HP7 := hidM hS7
      have HR := hidM (And.intro hkq (And.intro hl' hT'))
      clear hkq hl' hnm hT' hr hr1 hfit hS7 hsz eg hck0 hgA c6 hqq hnb
      go_wp2_with fail
      have HIN : Hid (V1.drew.cell? ⟨g, k * 7 + 6, none⟩ = some (.slice ao' q ca')) := d6
      refine wp_region_held_drew (S := fun w' => w'.cell? ⟨g, k * 7 + 6, none⟩ = some (.slice ao' q ca')) (by kernel_rfl) (HIN.out) (fun hHeld => ?_)
      refine wpAnyH_take (i := 0) (oi := { dst := some 18, op := Go.Op.move (Go.Operand.tmp 0), type := 22, pos := "same.go:97", after := #[], guard := none }) (v := ?v0a1) rfl (by kernel_rfl) (by kernel_rfl) (by kernel_rfl) (fun _ _ _ h => h) (Or.inl ⟨by rfl, ?y0a1⟩) (by assumption) ?r0a1
      case y0a1 => (intro w hSw; go_simp; (try with_reducible rfl))
      (try simp only [Act.put]); (try simp only [List.setIfInBounds_toArray]); (try simp only [List.set_cons_succ]); (try simp only [List.set_cons_zero])
      refine wpAnyH_take (i := 1) (oi := { dst := some 19, op := Go.Op.move (Go.Operand.tmp 4), type := 3, pos := "same.go:97", after := #[], guard := none }) (v := ?v1a2) rfl (by kernel_rfl) (by kernel_rfl) (by kernel_rfl) (fun _ _ _ h => h) (Or.inl ⟨by rfl, ?y1a2⟩) (by assumption) ?r1a2
      case y1a2 => (intro w hSw; go_simp; (try with_reducible rfl))
      (try simp only [Act.put]); (try simp only [List.setIfInBounds_toArray]); (try simp only [List.set_cons_succ]); (try simp only [List.set_cons_zero])
      refine wpAnyH_take (i := 2) (oi := { dst := some 20, op := Go.Op.move (Go.Operand.tmp 1), type := 9, pos := "same.go:97", after := #[], guard := none }) (v := ?v2a3) rfl (by kernel_rfl) (by kernel_rfl) (by kernel_rfl) (fun _ _ _ h => h) (Or.inl ⟨by rfl, ?y2a3⟩) (by assumption) ?r2a3
      case y2a3 => (intro w hSw; go_simp; (try with_reducible rfl))
      (try simp only [Act.put]); (try simp only [List.setIfInBounds_toArray]); (try simp only [List.set_cons_succ]); (try simp only [List.set_cons_zero])
      refine wpAnyH_take (i := 3) (oi := { dst := some 21, op := Go.Op.move (Go.Operand.tmp 0), type := 22, pos := "same.go:97", after := #[], guard := none }) (v := ?v3a4) rfl (by kernel_rfl) (by kernel_rfl) (by kernel_rfl) (fun _ _ _ h => h) (Or.inl ⟨by rfl, ?y3a4⟩) (by assumption) ?r3a4
      case y3a4 => (intro w hSw; go_simp; (try with_reducible rfl))
      (try simp only [Act.put]); (try simp only [List.setIfInBounds_toArray]); (try simp only [List.set_cons_succ]); (try simp only [List.set_cons_zero])
      refine wpAnyH_take (i := 4) (oi := { dst := some 22, op := Go.Op.move (Go.Operand.tmp 4), type := 3, pos := "same.go:97", after := #[], guard := none }) (v := ?v4a5) rfl (by kernel_rfl) (by kernel_rfl) (by kernel_rfl) (fun _ _ _ h => h) (Or.inl ⟨by rfl, ?y4a5⟩) (by assumption) ?r4a5
      case y4a5 => (intro w hSw; go_simp; (try with_reducible rfl))
      (try simp only [Act.put]); (try simp only [List.setIfInBounds_toArray]); (try simp only [List.set_cons_succ]); (try simp only [List.set_cons_zero])
      refine wpAnyH_take (i := 5) (oi := { dst := some 23, op := Go.Op.indexAddr 22 (Go.Operand.tmp 21) (Go.Operand.tmp 22), type := 0, pos := "same.go:97", after := #[{ on := 3, ground := Go.Ground.data }, { on := 4, ground := Go.Ground.data }], guard := none }) (v := ?v5a6) rfl (by kernel_rfl) (by kernel_rfl) (by kernel_rfl) (fun _ _ _ h => h) (Or.inl ⟨by rfl, ?y5a6⟩) (by assumption) ?r5a6
      case y5a6 => (intro w hSw; go_simp; (try with_reducible rfl))
      (try simp only [Act.put]); (try simp only [List.setIfInBounds_toArray]); (try simp only [List.set_cons_succ]); (try simp only [List.set_cons_zero])
      refine wpAnyH_take (i := 6) (oi := { dst := some 24, op := Go.Op.fieldAddr 38 (Go.Operand.tmp 23) 1, type := 0, pos := "same.go:97", after := #[{ on := 5, ground := Go.Ground.data }], guard := none }) (v := ?v6a7) rfl (by kernel_rfl) (by kernel_rfl) (by kernel_rfl) (fun _ _ _ h => h) (Or.inl ⟨by rfl, ?y6a7⟩) (by assumption) ?r6a7
      case y6a7 => (intro w hSw; go_simp; (try with_reducible rfl))
      (try simp only [Act.put]); (try simp only [List.setIfInBounds_toArray]); (try simp only [List.set_cons_succ]); (try simp only [List.set_cons_zero])
      refine wpAnyH_take (i := 9) (oi := { dst := some 27, op := Go.Op.move (Go.Operand.tmp 4), type := 3, pos := "same.go:97", after := #[], guard := none }) (v := ?v9a8) rfl (by kernel_rfl) (by kernel_rfl) (by kernel_rfl) (fun _ _ _ h => h) (Or.inl ⟨by rfl, ?y9a8⟩) (by assumption) ?r9a8
      case y9a8 => (intro w hSw; go_simp; (try with_reducible rfl))
      (try simp only [Act.put]); (try simp only [List.setIfInBounds_toArray]); (try simp only [List.set_cons_succ]); (try simp only [List.set_cons_zero])
      refine wpAnyH_take (i := 10) (oi := { dst := some 28, op := Go.Op.move (Go.Operand.tmp 0), type := 22, pos := "same.go:97", after := #[], guard := none }) (v := ?v10a9) rfl (by kernel_rfl) (by kernel_rfl) (by kernel_rfl) (fun _ _ _ h => h) (Or.inl ⟨by rfl, ?y10a9⟩) (by assumption) ?r10a9
      case y10a9 => (intro w hSw; go_simp; (try with_reducible rfl))
      (try simp only [Act.put]); (try simp only [List.setIfInBounds_toArray]); (try simp only [List.set_cons_succ]); (try simp only [List.set_cons_zero])
      refine wpAnyH_take (i := 11) (oi := { dst := some 29, op := Go.Op.move (Go.Operand.tmp 4), type := 3, pos := "same.go:97", after := #[], guard := none }) (v := ?v11a10) rfl (by kernel_rfl) (by kernel_rfl) (by kernel_rfl) (fun _ _ _ h => h) (Or.inl ⟨by rfl, ?y11a10⟩) (by assumption) ?r11a10
      case y11a10 => (intro w hSw; go_simp; (try with_reducible rfl))
      (try simp only [Act.put]); (try simp only [List.setIfInBounds_toArray]); (try simp only [List.set_cons_succ]); (try simp only [List.set_cons_zero])
      refine wpAnyH_take (i := 12) (oi := { dst := some 30, op := Go.Op.indexAddr 22 (Go.Operand.tmp 28) (Go.Operand.tmp 29), type := 0, pos := "same.go:97", after := #[{ on := 10, ground := Go.Ground.data }, { on := 11, ground := Go.Ground.data }], guard := none }) (v := ?v12a11) rfl (by kernel_rfl) (by kernel_rfl) (by kernel_rfl) (fun _ _ _ h => h) (Or.inl ⟨by rfl, ?y12a11⟩) (by assumption) ?r12a11
      case y12a11 => (intro w hSw; go_simp; (try with_reducible rfl))
      (try simp only [Act.put]); (try simp only [List.setIfInBounds_toArray]); (try simp only [List.set_cons_succ]); (try simp only [List.set_cons_zero])
      refine wpAnyH_take (i := 13) (oi := { dst := some 31, op := Go.Op.fieldAddr 38 (Go.Operand.tmp 30) 2, type := 0, pos := "same.go:97", after := #[{ on := 12, ground := Go.Ground.data }], guard := none }) (v := ?v13a12) rfl (by kernel_rfl) (by kernel_rfl) (by kernel_rfl) (fun _ _ _ h => h) (Or.inl ⟨by rfl, ?y13a12⟩) (by assumption) ?r13a12
      case y13a12 => (intro w hSw; go_simp; (try with_reducible rfl))
      (try simp only [Act.put]); (try simp only [List.setIfInBounds_toArray]); (try simp only [List.set_cons_succ]); (try simp only [List.set_cons_zero])
      refine wpAnyH_take (i := 14) (oi := { dst := some 32, op := Go.Op.fieldAddr 36 (Go.Operand.tmp 31) 4, type := 0, pos := "same.go:97", after := #[{ on := 13, ground := Go.Ground.data }], guard := none }) (v := ?v14a13) rfl (by kernel_rfl) (by kernel_rfl) (by kernel_rfl) (fun _ _ _ h => h) (Or.inl ⟨by rfl, ?y14a13⟩) (by assumption) ?r14a13
      case y14a13 => (intro w hSw; go_simp; (try with_reducible rfl))
      (try simp only [Act.put]); (try simp only [List.setIfInBounds_toArray]); (try simp only [List.set_cons_succ]); (try simp only [List.set_cons_zero])
      refine wpAnyH_take (i := 15) (oi := { dst := some 33, op := Go.Op.load 22 (Go.Operand.tmp 32), type := 22, pos := "same.go:97", after := #[{ on := 14, ground := Go.Ground.data }], guard := none }) (v := ?v15a14) rfl (by kernel_rfl) (by kernel_rfl) (by kernel_rfl) (fun _ _ _ h => h) (Or.inl ⟨by rfl, ?y15a14⟩) (by assumption) ?r15a14
      case y15a14 => (intro w hSw; go_simp; (try with_reducible rfl))
      (try simp only [Act.put]); (try simp only [List.setIfInBounds_toArray]); (try simp only [List.set_cons_succ]); (try simp only [List.set_cons_zero])
      refine wpAnyH_take (i := 16) (oi := { dst := some 34, op := Go.Op.build 36 #[(0, Go.Operand.const (Go.Value.int Go.IntKind.i64 99)), (1, Go.Operand.tmp 27), (4, Go.Operand.tmp 33)], type := 36, pos := "same.go:97", after := #[{ on := 9, ground := Go.Ground.data }, { on := 15, ground := Go.Ground.data }], guard := none }) (v := ?v16a15) rfl (by kernel_rfl) (by kernel_rfl) (by kernel_rfl) (fun _ _ _ h => h) (Or.inl ⟨by rfl, ?y16a15⟩) (by assumption) ?r16a15
      case y16a15 => (intro w hSw; go_simp; (try with_reducible rfl))
      (try simp only [Act.put]); (try simp only [List.setIfInBounds_toArray]); (try simp only [List.set_cons_succ]); (try simp only [List.set_cons_zero])
      refine wpAnyH_ready (rs := [7]) (by kernel_rfl) (by simp) ?_
      refine AllReadyH.cons (o := { dst := some 25, op := Go.Op.load 4 (Go.Operand.tmp 24), type := 4, pos := "same.go:97", after := #[{ on := 6, ground := Go.Ground.data }], guard := none }) rfl (fun Kc hK => ?_) AllReadyH.nil
      go_simp
      refine hK.out _ _ (HIN.out) (fun hHeld => ?_)
      clear hK Kc
      (try simp only [Act.put]); (try simp only [List.setIfInBounds_toArray]); (try simp only [List.set_cons_succ]); (try simp only [List.set_cons_zero])
      refine wpAnyH_take (i := 8) (oi := { dst := some 26, op := Go.Op.unOp Go.UnOp.not 4 (Go.Operand.tmp 25), type := 4, pos := "same.go:97", after := #[{ on := 7, ground := Go.Ground.data }], guard := none }) (v := ?v8a16) rfl (by kernel_rfl) (by kernel_rfl) (by kernel_rfl) (fun _ _ _ h => h) (Or.inl ⟨by rfl, ?y8a16⟩) (by assumption) ?r8a16
      case y8a16 => (intro w hSw; go_simp; (try with_reducible rfl))
      (try simp only [Act.put]); (try simp only [List.setIfInBounds_toArray]); (try simp only [List.set_cons_succ]); (try simp only [List.set_cons_zero])
      refine wpAnyH_take (i := 17) (oi := { dst := some 35, op := Go.Op.build 38 #[(0, Go.Operand.tmp 20), (1, Go.Operand.tmp 26), (2, Go.Operand.tmp 34)], type := 38, pos := "same.go:97", after := #[{ on := 2, ground := Go.Ground.data }, { on := 8, ground := Go.Ground.data }, { on := 16, ground := Go.Ground.data }], guard := none }) (v := ?v17a17) rfl (by kernel_rfl) (by kernel_rfl) (by kernel_rfl) (fun _ _ _ h => h) (Or.inl ⟨by rfl, ?y17a17⟩) (by assumption) ?r17a17
      case y17a17 => (intro w hSw; go_simp; (try with_reducible rfl))
      (try simp only [Act.put]); (try simp only [List.setIfInBounds_toArray]); (try simp only [List.set_cons_succ]); (try simp only [List.set_cons_zero])
      refine wpAnyH_take (i := 18) (oi := { dst := some 36, op := Go.Op.indexAddr 22 (Go.Operand.tmp 18) (Go.Operand.tmp 19), type := 0, pos := "same.go:97", after := #[{ on := 0, ground := Go.Ground.data }, { on := 1, ground := Go.Ground.data }, { on := 0, ground := Go.Ground.phase }, { on := 1, ground := Go.Ground.phase }, { on := 2, ground := Go.Ground.phase }, { on := 3, ground := Go.Ground.phase }, { on := 4, ground := Go.Ground.phase }, { on := 5, ground := Go.Ground.phase }, { on := 6, ground := Go.Ground.phase }, { on := 7, ground := Go.Ground.phase }, { on := 8, ground := Go.Ground.phase }, { on := 9, ground := Go.Ground.phase }, { on := 10, ground := Go.Ground.phase }, { on := 11, ground := Go.Ground.phase }, { on := 12, ground := Go.Ground.phase }, { on := 13, ground := Go.Ground.phase }, { on := 14, ground := Go.Ground.phase }, { on := 15, ground := Go.Ground.phase }, { on := 16, ground := Go.Ground.phase }, { on := 17, ground := Go.Ground.phase }], guard := none }) (v := ?v18a18) rfl (by kernel_rfl) (by kernel_rfl) (by kernel_rfl) (fun _ _ _ h => h) (Or.inl ⟨by rfl, ?y18a18⟩) (by assumption) ?r18a18
      case y18a18 => (intro w hSw; go_simp; (try with_reducible rfl))
      (try simp only [Act.put]); (try simp only [List.setIfInBounds_toArray]); (try simp only [List.set_cons_succ]); (try simp only [List.set_cons_zero])
      refine wpAnyH_ready (rs := [19]) (by kernel_rfl) (by simp) ?_
      refine AllReadyH.cons (o := { dst := none, op := Go.Op.store 38 (Go.Operand.tmp 36) (Go.Operand.tmp 35), type := 0, pos := "same.go:97", after := #[{ on := 18, ground := Go.Ground.data }, { on := 17, ground := Go.Ground.data }, { on := 0, ground := Go.Ground.phase }, { on := 1, ground := Go.Ground.phase }, { on := 2, ground := Go.Ground.phase }, { on := 3, ground := Go.Ground.phase }, { on := 4, ground := Go.Ground.phase }, { on := 5, ground := Go.Ground.phase }, { on := 6, ground := Go.Ground.phase }, { on := 7, ground := Go.Ground.phase }, { on := 8, ground := Go.Ground.phase }, { on := 9, ground := Go.Ground.phase }, { on := 10, ground := Go.Ground.phase }, { on := 11, ground := Go.Ground.phase }, { on := 12, ground := Go.Ground.phase }, { on := 13, ground := Go.Ground.phase }, { on := 14, ground := Go.Ground.phase }, { on := 15, ground := Go.Ground.phase }, { on := 16, ground := Go.Ground.phase }, { on := 17, ground := Go.Ground.phase }], guard := none }) rfl (fun Kc hK => ?_) AllReadyH.nil
      go_simp
      obtain ⟨V2, hV2⟩ : ∃ V2, ((((((V1.setCell ⟨g, k * 7, none⟩ (.string m)).setCell ⟨g, k * 7 + 1, none⟩ (.bool (!nb))).setCell ⟨g, k * 7 + 2, none⟩ (.int .i64 99)).setCell ⟨g, k * 7 + 3, none⟩ (.int .i64 (k : Int))).setCell ⟨g, k * 7 + 4, none⟩ (.int .i64 0)).setCell ⟨g, k * 7 + 5, none⟩ (.int .i64 0)).setCell ⟨g, k * 7 + 6, none⟩ (.slice ao' q ca') = V2 := ⟨_, rfl⟩
      rw [hV2] at HP7 ⊢
      clear hV2
      refine hK.out _ _ HP7.out.c6 (fun hHeld => ?_)
      clear hK Kc
      (try simp only [Act.put]); (try simp only [List.setIfInBounds_toArray]); (try simp only [List.set_cons_succ]); (try simp only [List.set_cons_zero])
      refine wpAnyH_done (by kernel_rfl) ?_ _
      clear d0 d1 d2 d3 d4 d5 d6 e0 e1 e2 e3 e4 e5 e6
      go_wp2
      have HI2 : Hid (SpI W V2.drew lo hi g ca d A m l (k + 1)) := by
        have h1 := HP7.out.drew
        rw [← HR.out.2.1] at h1
        exact HK.out.step HP.out hkl HHr.out HR.out.1 HR.out.2.2 h1
      exact ⟨⟨k + 1, by omega, by simp, HI2.out⟩, by simp [intOf]; omega⟩
    · have hkn : k = n := by omega
      subst hkn
      have HF : Hid (Keeps W wr (fun z => lo ≤ z ∧ z < hi) ∧ ∃ l', l'.length = k ∧ (∀ f, f ∈ l' → f.name = m) ∧ Tr wr (d + 1) lo hi (some ⟨g, 0, none⟩) ca l') := by
        have h1 := HK.out
        have h2 := HN.out
        rw [h2] at h1 ⊢
        exact ⟨h1.kp, h1.fin HP.out HLen.out.1 HLen.out.2.1 HLen.out.2.2⟩
      go_wp2
      go_end0
      exact ⟨rfl, HF.out.1, HF.out.2⟩
/-- all depths -/
theorem spoil_any (m : ByteArray) : ∀ (d : Nat) (W : World) (lo hi : Nat) (ao : Option Addr) (ca : Nat) (l : List FT), Tr W d lo hi ao ca l → hi ≤ W.heap.size → Calls Tryd.prog 8 #[.slice ao l.length ca, .string m] W (SpQ W d lo hi ao ca m l.length)
  | 0, W, lo, hi, ao, ca, l, h, hh => by
    obtain ⟨rfl, rfl, rfl⟩ := h
    refine Calls.mono (spoil_nil W m none 0) ?_
    rintro e w' ⟨rfl, rfl⟩
    exact ⟨rfl, Keeps.refl _ _, [], rfl, fun f h => by simp at h, Tr.nil _ _ _ _⟩
  | d + 1, W, lo, hi, ao, ca, l, h, hh => spoil_step d m (spoil_any m d) W lo hi ao ca l h hh
end Go.Proofs.YtjdojbbjbippoaaDoor.Kit
