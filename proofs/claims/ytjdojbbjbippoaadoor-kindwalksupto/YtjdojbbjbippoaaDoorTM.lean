import Derived.Test.YtjdojbbjbippoaaDoorTK
import Derived.Laws.IdiomStrings
namespace Go.Proofs.YtjdojbbjbippoaaDoor.Kit
open Go.RowKit Go.Shelf Go.Deep
set_option linter.unusedVariables false

/-! ### again 11: what holds while it writes and looks -/
structure AgL (V0 V : World) (Z : Nat) (v6 v7 : Value) (xs : List WEl) (P : Nat → List Value → List FT → Prop) : Prop where
  rw : Rw2 V (Z + 2) (Z + 4) v6 v7 xs
  els : Els V (Z + 8) xs P
  kp : Keeps V0 V (fun b => Z + 8 ≤ b)
theorem AgL.step {V0 V V' : World} {Z : Nat} {v6 v7 : Value} {xs : List WEl} {P P' : Nat → List Value → List FT → Prop} (h : AgL V0 V Z v6 v7 xs P) {i : Nat} (hi : i < xs.length) (k : Keeps V V' (fun b => xs[i].lo ≤ b ∧ b < xs[i].hi)) {ws : List Value} {ks : List FT} (he : El V' xs[i] ws ks) (hP : P' i ws ks) (hPo : ∀ j ws ks, j ≠ i → P j ws ks → P' j ws ks) : AgL V0 V' Z v6 v7 xs P' :=
  ⟨h.rw.step hi k, h.els.step hi k he hP hPo, h.kp.trans k (fun j hj t => by have := h.els.lo i hi; omega)⟩
theorem AgL.gr {V0 V V' : World} {Z : Nat} {v6 v7 : Value} {xs : List WEl} {P : Nat → List Value → List FT → Prop} (h : AgL V0 V Z v6 v7 xs P) (g : Gr V V') : AgL V0 V' Z v6 v7 xs P :=
  ⟨h.rw.gr g, h.els.gr g, h.kp.trans g (fun _ _ t => t.elim)⟩
theorem AgL.mono {V0 V : World} {Z : Nat} {v6 v7 : Value} {xs : List WEl} {P P' : Nat → List Value → List FT → Prop} (h : AgL V0 V Z v6 v7 xs P) (hP : ∀ i ws ks, i < xs.length → P i ws ks → P' i ws ks) : AgL V0 V Z v6 v7 xs P' := ⟨h.rw, h.els.mono hP, h.kp⟩
theorem El.write {V : World} {x : WEl} {ws : List Value} {ks : List FT} {gw c t : Nat} (h : El V x ws ks) (hw : wayV x = .slice (some ⟨gw, 0, none⟩) x.path.length c) (u : Value) : El (V.setCell ⟨gw, t, none⟩ u) x (ws.set t u) ks ∧ Keeps V (V.setCell ⟨gw, t, none⟩ u) (fun b => x.lo ≤ b ∧ b < x.hi) := by
  have hn := h.wn gw (by rw [hw]; rfl)
  have hb := h.bn
  have k : Keeps V (V.setCell ⟨gw, t, none⟩ u) (fun b => b = gw) := (Keeps.refl V (fun b => b = gw)).setCell (p := ⟨gw, t, none⟩) (fun _ => rfl) u
  refine ⟨⟨?_, h.wn, h.row.kept fun b h1 h2 => k.block b (by omega) (by omega), h.kl, ⟨hb.1, hb.2.1, Nat.le_trans hb.2.2 k.size⟩⟩, k.mono fun b _ e => by omega⟩
  have hr := h.way
  rw [hw] at hr ⊢
  exact own_put hr u
theorem El.spoil {V V' : World} {x : WEl} {ws : List Value} {ks : List FT} {m : ByteArray} {e : Ending} (h : El V x ws ks) (q : SpQ V x.d x.lo x.mid x.fo x.fc m ks.length e V') : ∃ ks', El V' x ws ks' ∧ (∀ f, f ∈ ks' → f.name = m) ∧ Keeps V V' (fun b => x.lo ≤ b ∧ b < x.hi) := by
  obtain ⟨_, k, l', hl, hnm, ht⟩ := q
  have hb := h.bn
  exact ⟨l', ⟨row_kp h.way fun g e => k.block g (own_lt h.way g e) (by have := h.wn g e; omega), h.wn, ht, by rw [hl]; exact h.kl, ⟨hb.1, hb.2.1, Nat.le_trans hb.2.2 k.size⟩⟩, hnm, k.mono fun b _ t => by omega⟩
theorem El.grow {V V' : World} {x : WEl} {ws : List Value} {ks : List FT} {e : Ending} (h : El V x ws ks) (q : GwQ V x.d x.lo x.mid x.fo x.fc ks e V') : El V' x ws ks ∧ Keeps V V' (fun b => x.lo ≤ b ∧ b < x.hi) := by
  obtain ⟨_, k, ht⟩ := q
  have hb := h.bn
  exact ⟨⟨row_kp h.way fun g e => k.block g (own_lt h.way g e) (by have := h.wn g e; omega), h.wn, ht, h.kl, ⟨hb.1, hb.2.1, Nat.le_trans hb.2.2 k.size⟩⟩, k.mono fun b _ t => by omega⟩
theorem El.app {V V' : World} {x : WEl} {ws : List Value} {ks : List FT} {v : Value} {k : Nat} (h : El V x ws ks) (q : GwA V V' (wayV x) 3 1 x.path.length ws v k) : El V' x ws ks ∧ Keeps V V' (fun b => x.lo ≤ b ∧ b < x.hi) := by
  have hb := h.bn
  refine ⟨⟨q.old, h.wn, h.row.kept fun b h1 h2 => q.kp.block b (by omega) (fun e => by have := h.wn b e; omega), h.kl, ⟨hb.1, hb.2.1, Nat.le_trans hb.2.2 q.kp.size⟩⟩, q.kp.mono fun b _ e => by have := h.wn b e; omega⟩
def MidA (V : World) (F : Value → Value → Value → Value → Value → Value → Act) (a : Act) (w : World) : Prop := V = w ∧ ∃ z76 z77 z78 z79 z80 z81, a = F z76 z77 z78 z79 z80 z81
theorem letter_string (w : World) (m : Nat) (hm : m < 26) : (convert 68 9 (.slice (some ⟨w.heap.size, 0, none⟩) 1 1)).run Tryd.prog (w.alloc (.cells #[.int .u8 (97 + (m : Int))] 5)) = .ok (.string ⟨#[UInt8.ofNat (97 + m)]⟩) (w.alloc (.cells #[.int .u8 (97 + (m : Int))] 5)) := by
  refine run_convert_bytes_back _ 68 9 5 ⟨w.heap.size, 0, none⟩ 1 [UInt8.ofNat (97 + m)] Tryd.underlying68 Tryd.underlying5 Tryd.underlying9 fun j hj => ?_
  have e : j = 0 := by simp at hj; omega
  subst e
  have hb := World.alloc_heap_new w (.cells #[.int .u8 (97 + (m : Int))] 5)
  refine (cell1 hb).trans ?_
  simp
  omega
theorem src_num (w : World) (u : Value) (hu : u.oneCell' = true) : Src Tryd.prog 1 26 (.slice (some ⟨w.heap.size, 0, none⟩) 1 1) 1 [u] (w.alloc (.cells #[u] 3)) := by
  refine Src.ofSlice _ Tryd.underlying26 _ _ _ _ rfl ?_ (by simpa using hu)
  intro k v hk
  match k, hk with
  | 0, hk => simp at hk; subst hk; simp [Addr.add]
  | k + 1, hk => simp at hk
/-! the words of the phases -/
def c1000 (i : Nat) : Int := 1000 * ((i : Int) + 1)
def nmOf (i : Nat) : ByteArray := ⟨#[109]⟩ ++ ⟨#[UInt8.ofNat (97 + i % 26)]⟩
def PA (xs : List WEl) (k : Nat) (i : Nat) (ws : List Value) (ks : List FT) : Prop := ∀ h : i < xs.length, (i < k → ws = wst (c1000 i) xs[i].path.length xs[i].path ∧ ∀ f, f ∈ ks → f.name = nmOf i) ∧ (k ≤ i → ws = ints xs[i].path)
def PB (xs : List WEl) (k t : Nat) (i : Nat) (ws : List Value) (ks : List FT) : Prop := ∀ h : i < xs.length, (i < k → ws = wst (c1000 i) xs[i].path.length xs[i].path ∧ ∀ f, f ∈ ks → f.name = nmOf i) ∧ (i = k → ws = wst (c1000 i) t xs[i].path) ∧ (k < i → ws = ints xs[i].path)
theorem PA.pb {xs : List WEl} {k i : Nat} {ws : List Value} {ks : List FT} (h : PA xs k i ws ks) : PB xs k 0 i ws ks := fun hi => ⟨(h hi).1, fun e => by rw [wst_zero]; exact (h hi).2 (by omega), fun e => (h hi).2 (by omega)⟩
theorem PB.other {xs : List WEl} {k t t' i : Nat} {ws : List Value} {ks : List FT} (h : PB xs k t i ws ks) (hne : i ≠ k) : PB xs k t' i ws ks := fun hi => ⟨(h hi).1, fun e => absurd e hne, (h hi).2.2⟩
theorem PB.pa {xs : List WEl} {k t i : Nat} {ws : List Value} {ks : List FT} (h : PB xs k t i ws ks) (hne : i ≠ k) : PA xs (k + 1) i ws ks := fun hi => ⟨fun e => (h hi).1 (by omega), fun e => (h hi).2.2 (by omega)⟩
end Go.Proofs.YtjdojbbjbippoaaDoor.Kit
