import Derived.Test.YtcfdkadhclickaaDoorYD
import Derived.Test.YtcfdkadhclickaaDoorZA
namespace Go.Proofs.YtcfdkadhclickaaDoor.Kit
open Go.RowKit Go.Shelf Go.Deep
set_option linter.unusedVariables false

/-! ### lists of one's own that have grown: each in a block of its own -/
def ZRow (W : World) : Nat → Nat → Nat → Option Addr → Nat → List VT → Prop
  | 0, _, _, ao, ca, l => l = [] ∧ ao = none ∧ ca = 0
  | d + 1, lo, hi, ao, ca, l => (l = [] ∧ ao = none ∧ ca = 0) ∨ ∃ b cur, ao = some ⟨b, 0, none⟩ ∧ lo ≤ b ∧ b < hi ∧ W.heap[b]? = some (.cells cur 29 (0, 0)) ∧ cur.size = ca * 4 ∧ l.length ≤ ca ∧ ca ≤ maxLen ∧ l.length ≤ big ∧ ∃ A B : Nat → Nat,
      (∀ i, i < l.length → lo ≤ A i ∧ A i ≤ B i ∧ B i ≤ hi ∧ ¬ (A i ≤ b ∧ b < B i)) ∧ (∀ i j, i < j → j < l.length → B i ≤ A j) ∧
      ∀ i (h : i < l.length), ∃ ao' ca', VCells W b (i * 4) l[i] ao' ca' ∧ VOk l[i] ∧ ZRow W d (A i) (B i) ao' ca' l[i].list
theorem ZRow.len {W : World} {d lo hi ca : Nat} {ao : Option Addr} {l : List VT} (h : ZRow W d lo hi ao ca l) : l.length ≤ ca ∧ l.length ≤ big := by
  cases d with
  | zero => rw [h.1]; exact ⟨Nat.zero_le _, by simp [big]⟩
  | succ d =>
    rcases h with h | ⟨b, cur, _, _, _, _, _, h, _, h', _⟩
    · rw [h.1]; exact ⟨Nat.zero_le _, by simp [big]⟩
    · exact ⟨h, h'⟩
theorem ZRow.kept {W W' : World} : ∀ {d lo hi : Nat} {ao : Option Addr} {ca : Nat} {l : List VT}, ZRow W d lo hi ao ca l → (∀ b, lo ≤ b → b < hi → W'.heap[b]? = W.heap[b]?) → ZRow W' d lo hi ao ca l
  | 0, _, _, _, _, _, h, _ => h
  | d + 1, lo, hi, ao, ca, l, h, k => by
    rcases h with h | ⟨b, cur, rfl, h1, h2, h3, h4, h5, h6, h7, A, B, h8, h9, h10⟩
    · exact .inl h
    · refine .inr ⟨b, cur, rfl, h1, h2, (k b h1 h2).trans h3, h4, h5, h6, h7, A, B, h8, h9, fun i hi => ?_⟩
      obtain ⟨ao', ca', hc, hv, hr⟩ := h10 i hi
      obtain ⟨e1, e2, e3, _⟩ := h8 i hi
      exact ⟨ao', ca', hc.kept (k b h1 h2), hv, ZRow.kept hr fun c p q => k c (by omega) (by omega)⟩
theorem ZRow.wide {W : World} : ∀ {d lo hi lo' hi' : Nat} {ao : Option Addr} {ca : Nat} {l : List VT}, ZRow W d lo hi ao ca l → lo' ≤ lo → hi ≤ hi' → ZRow W d lo' hi' ao ca l
  | 0, _, _, _, _, _, _, _, h, _, _ => h
  | d + 1, lo, hi, lo', hi', ao, ca, l, h, p, q => by
    rcases h with h | ⟨b, cur, rfl, h1, h2, h3, h4, h5, h6, h7, A, B, h8, h9, h10⟩
    · exact .inl h
    · exact .inr ⟨b, cur, rfl, by omega, by omega, h3, h4, h5, h6, h7, A, B, fun i hi => by obtain ⟨e1, e2, e3, e4⟩ := h8 i hi; exact ⟨by omega, e2, by omega, e4⟩, h9, h10⟩
theorem ZRow.more {W : World} : ∀ {d e lo hi : Nat} {ao : Option Addr} {ca : Nat} {l : List VT}, ZRow W d lo hi ao ca l → d ≤ e → ZRow W e lo hi ao ca l
  | 0, 0, _, _, _, _, _, h, _ => h
  | 0, e + 1, _, _, _, _, _, h, _ => .inl h
  | d + 1, 0, _, _, _, _, _, _, h => by omega
  | d + 1, e + 1, lo, hi, ao, ca, l, h, hde => by
    rcases h with h | ⟨b, cur, rfl, h1, h2, h3, h4, h5, h6, h7, A, B, h8, h9, h10⟩
    · exact .inl h
    · refine .inr ⟨b, cur, rfl, h1, h2, h3, h4, h5, h6, h7, A, B, h8, h9, fun i hi => ?_⟩
      obtain ⟨ao', ca', hc, hv, hr⟩ := h10 i hi
      exact ⟨ao', ca', hc, hv, ZRow.more hr (by omega)⟩
/-- as a list of values -/
theorem ZRow.row {W : World} : ∀ {d lo hi : Nat} {ao : Option Addr} {ca : Nat} {l : List VT}, ZRow W d lo hi ao ca l → VRow (fun b => lo ≤ b ∧ b < hi) W d ao l
  | 0, _, _, _, _, _, h => h.1
  | d + 1, lo, hi, ao, ca, l, h => by
    rcases h with h | ⟨b, cur, rfl, h1, h2, h3, h4, h5, h6, h7, A, B, h8, h9, h10⟩
    · rw [h.1]
      exact ⟨by simp [big], fun h => absurd rfl h⟩
    · refine ⟨h7, fun _ => ⟨b, 0, rfl, ⟨h1, h2⟩, fun i hi => ?_⟩⟩
      obtain ⟨ao', ca', hc, hv, hr⟩ := h10 i hi
      obtain ⟨e1, e2, e3, _⟩ := h8 i hi
      exact ⟨ao', ca', by rw [Nat.zero_add]; exact hc, hr.len.1, hv, hr.row.wide fun c hc => ⟨by omega, by omega⟩⟩
theorem ZRow.nil (W : World) (d lo hi : Nat) : ZRow W d lo hi none 0 [] := by
  cases d with
  | zero => exact ⟨rfl, rfl, rfl⟩
  | succ d => exact .inl ⟨rfl, rfl, rfl⟩
/-- the row's cells, as append wants them -/
theorem ZRow.owns {W : World} {d lo hi ca : Nat} {ao : Option Addr} {l : List VT} (h : ZRow W (d + 1) lo hi ao ca l) : ∃ xs, W.ownsRow 0 29 4 (.slice ao l.length ca) l.length xs ∧ ∀ g, (Value.slice ao l.length ca).ownBlock = some g → lo ≤ g ∧ g < hi := by
  rcases h with ⟨rfl, rfl, rfl⟩ | ⟨b, cur, rfl, h1, h2, h3, h4, h5, h6, h7, _⟩
  · exact ⟨[], World.ownsRow_nil W 0 29 4, fun g e => by simp [Value.ownBlock] at e⟩
  · refine ⟨cur.toList.take (l.length * 4), ⟨by simp; omega, .inr ⟨b, ca, cur, rfl, Nat.zero_le _, h3, h5, h6, h4, rfl⟩⟩, fun g e => ?_⟩
    simp [Value.ownBlock] at e
    omega
theorem add_at (b j : Nat) : (⟨b, 0, none⟩ : Addr).add j = ⟨b, j, none⟩ := by cases j <;> simp [Addr.add]
/-- one more value -/
theorem ZRow.push {wr V1 V2 V3 : World} {d lo hi ca : Nat} {ao : Option Addr} {l : List VT} {x : VT} {xo : Option Addr} {xc : Nat} {xs : List Value} {v' : Value}
    (h : ZRow wr (d + 1) lo hi ao ca l) (hlo : lo ≤ wr.heap.size) (hhi : hi ≤ wr.heap.size) (g : Gr wr V1) (hx : ZRow V1 d wr.heap.size V1.heap.size xo xc x.list) (hok : VOk x) (hl : l.length + 1 ≤ big) (g2 : Gr V1 V2)
    (hown0 : V2.ownsRow 0 29 4 (.slice ao l.length ca) l.length xs)
    (hown : V3.ownsRow 0 29 4 v' (l.length + 1) (xs ++ [.bool x.nul, .int .i64 x.num, .string x.text, .slice xo x.list.length xc])) (hgr : V2.grownBy V3 (Value.slice ao l.length ca).ownBlock)
    (hor : v'.ownBlock = (Value.slice ao l.length ca).ownBlock ∨ ∀ g, v'.ownBlock = some g → V2.heap.size ≤ g) :
    ∃ ao' ca', v' = .slice ao' (l.length + 1) ca' ∧ ZRow V3 (d + 1) lo V3.heap.size ao' ca' (l ++ [x]) ∧ Keeps wr V3 (fun z => (Value.slice ao l.length ca).ownBlock = some z) := by
  have k3 := Keeps.ofGrown hgr
  have gr2 : Gr wr V2 := g.trans g2 (fun _ _ h => h)
  have kk : Keeps wr V3 (fun z => (Value.slice ao l.length ca).ownBlock = some z) := (gr2.mono fun _ _ h => h.elim).trans k3 (fun _ _ h => h)
  have hs3 := k3.size
  have hs2 := g2.size
  have hs1 := g.size
  rcases hown.2 with ⟨rfl, e⟩ | ⟨b', ca', cur', rfl, _, hb', hn', hm', hc', ht'⟩
  · omega
  have xl : xs.length = l.length * 4 := hown0.1
  have cell' : ∀ j u, (xs ++ [.bool x.nul, .int .i64 x.num, .string x.text, .slice xo x.list.length xc])[j]? = some u → V3.cell? ⟨b', j, none⟩ = some u := fun j u hj => by
    have := hown.cells (g := b') rfl j u hj
    rwa [add_at] at this
  have newc : VCells V3 b' (l.length * 4) x xo xc := by
    refine ⟨cell' _ _ ?_, cell' _ _ ?_, cell' _ _ ?_, cell' _ _ ?_⟩
    all_goals
      rw [List.getElem?_append_right (by omega), xl]
      simp
  refine ⟨some ⟨b', 0, none⟩, ca', rfl, .inr ⟨b', cur', rfl, ?_, lt_of_heap hb', hb', hc', by simpa using hn', hm', by simpa using hl, ?_⟩, kk⟩
  · rcases hor with e | e
    · obtain ⟨_, hh⟩ := h.owns
      exact (hh.2 b' (by rw [← e]; rfl)).1
    · have := e b' rfl
      omega
  rcases h with ⟨rfl, rfl, rfl⟩ | ⟨b, cur, rfl, h1, h2, h3, h4, h5, h6, h7, A, B, h8, h9, h10⟩
  · have hb2 : V2.heap.size ≤ b' := by
      rcases hor with e | e
      · simp [Value.ownBlock] at e
      · exact e b' rfl
    have hkx : ∀ c, wr.heap.size ≤ c → c < V1.heap.size → V3.heap[c]? = V1.heap[c]? := fun c p q => (k3.block c (by omega) (by simp [Value.ownBlock])).trans (g2.block c q id)
    refine ⟨fun _ => wr.heap.size, fun _ => V1.heap.size, fun i hi => by dsimp only; exact ⟨hlo, hs1, by omega, by omega⟩, fun i j hij hj => by simp at hj; omega, fun i hi => ?_⟩
    have hi0 : i = 0 := by simp at hi; omega
    subst hi0
    exact ⟨xo, xc, by simpa using newc, hok, hx.kept hkx⟩
  · have hob : (Value.slice (some ⟨b, 0, none⟩) l.length ca).ownBlock = some b := rfl
    have hbb : b' = b ∨ V2.heap.size ≤ b' := by
      rcases hor with e | e
      · rw [hob] at e; simp [Value.ownBlock] at e; exact .inl e
      · exact .inr (e b' rfl)
    have hkx : ∀ c, wr.heap.size ≤ c → c < V1.heap.size → V3.heap[c]? = V1.heap[c]? := fun c p q => (k3.block c (by omega) (by rw [hob]; simp; omega)).trans (g2.block c q id)
    have hbl := lt_of_heap h3
    have oldc : ∀ j u, j < l.length * 4 → wr.cell? ⟨b, j, none⟩ = some u → V3.cell? ⟨b', j, none⟩ = some u := fun j u hj hu => by
      have e2 : V2.cell? ⟨b, j, none⟩ = some u := (gr2.cell hbl id).trans hu
      have hjx : j < xs.length := by omega
      have e3 := hown0.cells (g := b) rfl j xs[j] (by simp [hjx])
      rw [add_at, e2] at e3
      refine cell' j u ?_
      rw [List.getElem?_append_left hjx, List.getElem?_eq_getElem hjx]
      exact e3.symm
    refine ⟨fun i => if i < l.length then A i else wr.heap.size, fun i => if i < l.length then B i else V1.heap.size, fun i hi => ?_, fun i j hij hj => ?_, fun i hi => ?_⟩
    · dsimp only
      by_cases e : i < l.length
      · rw [if_pos e, if_pos e]
        obtain ⟨e1, e2, e3, e4⟩ := h8 i e
        refine ⟨e1, e2, by omega, ?_⟩
        rcases hbb with rfl | hbb
        · exact e4
        · omega
      · rw [if_neg e, if_neg e]
        exact ⟨hlo, hs1, by omega, by omega⟩
    · dsimp only
      simp at hj
      rw [if_pos (show i < l.length by omega)]
      by_cases e : j < l.length
      · rw [if_pos e]; exact h9 i j hij e
      · rw [if_neg e]
        have := (h8 i (by omega)).2.2.1
        omega
    · dsimp only
      by_cases e : i < l.length
      · rw [if_pos e, if_pos e, List.getElem_append_left e]
        obtain ⟨ao', ca'', hc, hv, hr⟩ := h10 i e
        obtain ⟨e1, e2, e3, e4⟩ := h8 i e
        refine ⟨ao', ca'', ⟨oldc _ _ (by omega) hc.c0, oldc _ _ (by omega) hc.c1, oldc _ _ (by omega) hc.c2, oldc _ _ (by omega) hc.c3⟩, hv, hr.kept fun c p q => kk.block c (by omega) ?_⟩
        rw [hob]
        simp
        omega
      · have hil : i = l.length := by simp at hi; omega
        subst hil
        rw [if_neg e, if_neg e]
        simp only [List.getElem_append_right (Nat.le_refl _), Nat.sub_self, List.getElem_cons_zero]
        exact ⟨xo, xc, newc, hok, hx.kept hkx⟩
end Go.Proofs.YtcfdkadhclickaaDoor.Kit
