import Derived.Test.YtjdojbbjbippoaaDoorFH
import Derived.Test.YtjdojbbjbippoaaDoorLC
import Derived.Test.YtjdojbbjbippoaaDoorLD
import Derived.Test.YtjdojbbjbippoaaDoorKitTwo
namespace Go.Proofs.YtjdojbbjbippoaaDoor.Kit
open Go.RowKit Go.Shelf Go.Deep

/-! ### the document's list of nodes, as it lies in memory -/
/-- the ten cells of a node -/
def nodeCells (x : LS) (wb wc : Nat) (fo : Option Addr) (fc : Nat) (ao : Option Addr) (ca : Nat) : List Value :=
  [.slice (some ⟨wb, 0, none⟩) x.path.length wc, .string x.fld.name, .bool x.fld.nul, .int .i64 x.fld.kind, .int .i64 x.fld.width, .int .i64 x.fld.id, .int .i64 x.fld.index, .slice fo x.fld.kids.length fc, .slice ao x.idx ca, .bool x.inD]
structure NodeIn (S : Nat → Prop) (W : World) (x : LS) (wb wc : Nat) (fo : Option Addr) (fc : Nat) (ao : Option Addr) (ca : Nat) : Prop where
  way : W.ownsRow 0 3 1 (.slice (some ⟨wb, 0, none⟩) x.path.length wc) x.path.length (ints x.path)
  row : ∃ D, RowAt S W (D + 1) ao x.list
  kids : ∃ D, RowAt S W D fo x.fld.kids
  le : x.list.length ≤ ca
  kle : x.fld.kids.length ≤ fc
  ix : x.idx < x.list.length
def OutAt (S : Nat → Prop) (W : World) (v : Value) (out : List LS) : Prop :=
  ∃ cs, W.ownsRow 0 41 10 v out.length cs ∧ ∀ j (h : j < out.length), ∃ wb wc fo fc ao ca, (cs.drop (j * 10)).take 10 = nodeCells out[j] wb wc fo fc ao ca ∧ NodeIn S W out[j] wb wc fo fc ao ca

theorem row_apart {W : World} {t t' s s' n n' g : Nat} {v v' : Value} {xs ys : List Value} (h : W.ownsRow 0 t s v n xs) (h' : W.ownsRow 0 t' s' v' n' ys) (ht : t ≠ t') (e : v.ownBlock = some g) : v'.ownBlock ≠ some g := by
  intro e'
  rcases h.2 with ⟨rfl, _⟩ | ⟨g1, c1, cur1, rfl, _, hg1, _⟩
  · simp [Value.ownBlock] at e
  · rcases h'.2 with ⟨rfl, _⟩ | ⟨g2, c2, cur2, rfl, _, hg2, _⟩
    · simp [Value.ownBlock] at e'
    · simp [Value.ownBlock] at e e'
      subst e; subst e'
      rw [hg1] at hg2
      simp at hg2
      exact ht hg2.2
theorem row_kp {W W' : World} {t s n : Nat} {v : Value} {xs : List Value} (h : W.ownsRow 0 t s v n xs) (e : ∀ g, v.ownBlock = some g → W'.heap[g]? = W.heap[g]?) : W'.ownsRow 0 t s v n xs := by
  refine ⟨h.1, h.2.imp id ?_⟩
  rintro ⟨g, cap, cur, rfl, h0, hg, r⟩
  exact ⟨g, cap, cur, rfl, h0, (e g rfl).trans hg, r⟩
theorem way_kp {W W' : World} {v u : Value} {n m : Nat} {cs xs : List Value} (hv : W.ownsRow 0 41 10 v n cs) (hu : W.ownsRow 0 3 1 u m xs) (k : Keeps W W' (fun b => v.ownBlock = some b)) : W'.ownsRow 0 3 1 u m xs :=
  row_kp hu fun g e => k.block g (own_lt hu g e) (row_apart hu hv (by decide) e)
theorem NodeIn.keeps {S : Nat → Prop} {W W' : World} {x : LS} {wb wc : Nat} {fo : Option Addr} {fc : Nat} {ao : Option Addr} {ca : Nat} (h : NodeIn S W x wb wc fo fc ao ca) {v : Value} {n : Nat} {cs : List Value} (hv : W.ownsRow 0 41 10 v n cs)
    (k : Keeps W W' (fun b => v.ownBlock = some b)) (hS : ∀ b, S b → b < W.heap.size ∧ v.ownBlock ≠ some b) : NodeIn S W' x wb wc fo fc ao ca := by
  have hk : KpOf S W W' := fun b hb => k.block b (hS b hb).1 (hS b hb).2
  obtain ⟨D, hD⟩ := h.row
  obtain ⟨E, hE⟩ := h.kids
  exact ⟨way_kp hv h.way k, ⟨D, hD.kept hk⟩, ⟨E, hE.kept hk⟩, h.le, h.kle, h.ix⟩
/-- nothing of the list's own has changed -/
theorem OutAt.keeps {S : Nat → Prop} {W W' : World} {v : Value} {out : List LS} (h : OutAt S W v out) (k : Keeps W W' (fun _ => False)) (hS : ∀ b, S b → b < W.heap.size ∧ v.ownBlock ≠ some b) : OutAt S W' v out := by
  obtain ⟨cs, hown, hc⟩ := h
  refine ⟨cs, row_kp hown fun g e => k.block g (own_lt hown g e) id, fun j hj => ?_⟩
  obtain ⟨wb, wc, fo, fc, ao, ca, h1, h2⟩ := hc j hj
  exact ⟨wb, wc, fo, fc, ao, ca, h1, h2.keeps hown (k.mono fun _ _ h => h.elim) hS⟩
/-- one node joins -/
theorem out_snoc {S : Nat → Prop} {W W' : World} {v v' : Value} {out : List LS} {cs : List Value} (hown : W.ownsRow 0 41 10 v out.length cs)
    (hc : ∀ j (h : j < out.length), ∃ wb wc fo fc ao ca, (cs.drop (j * 10)).take 10 = nodeCells out[j] wb wc fo fc ao ca ∧ NodeIn S W out[j] wb wc fo fc ao ca)
    (k : Keeps W W' (fun b => v.ownBlock = some b)) (hS : ∀ b, S b → b < W.heap.size ∧ v.ownBlock ≠ some b) {x : LS} {wb wc : Nat} {fo : Option Addr} {fc : Nat} {ao : Option Addr} {ca : Nat}
    (hown' : W'.ownsRow 0 41 10 v' (out.length + 1) (cs ++ nodeCells x wb wc fo fc ao ca)) (hx : NodeIn S W' x wb wc fo fc ao ca) : OutAt S W' v' (out ++ [x]) := by
  have hl : cs.length = out.length * 10 := hown.1
  refine ⟨_, by rw [List.length_append]; exact hown', fun j hj => ?_⟩
  by_cases hlt : j < out.length
  · obtain ⟨wb, wc, fo, fc, ao, ca, h1, h2⟩ := hc j hlt
    refine ⟨wb, wc, fo, fc, ao, ca, ?_, ?_⟩
    · rw [List.getElem_append_left hlt, ← h1, List.drop_append_of_le_length (by omega), List.take_append_of_le_length (by simp; omega)]
    · rw [List.getElem_append_left hlt]; exact h2.keeps hown k hS
  · obtain rfl : j = out.length := by simp at hj; omega
    refine ⟨wb, wc, fo, fc, ao, ca, ?_, ?_⟩
    · rw [List.getElem_append_right (by omega), ← hl, List.drop_left]
      simp [nodeCells]
    · rw [List.getElem_append_right (by omega)]; simpa using hx
theorem own_formN {W : World} {t s n : Nat} {v : Value} {xs : List Value} (h : W.ownsRow 0 t s v n xs) : ∃ vo vc, v = .slice vo n vc := by
  rcases h.2 with ⟨rfl, rfl⟩ | ⟨g, cap, cur, rfl, _⟩
  · exact ⟨_, _, rfl⟩
  · exact ⟨_, _, rfl⟩
theorem src_node (w : World) (G : Nat) (hG : w.heap.size = G) (a b c d e f g h i j : Value) (hone : ∀ v ∈ [a, b, c, d, e, f, g, h, i, j], v.oneCell' = true) :
    Src Tryd.prog 10 28 (.slice (some ⟨G, 0, none⟩) 1 1) 1 [a, b, c, d, e, f, g, h, i, j] (w.alloc (.cells #[a, b, c, d, e, f, g, h, i, j] 41)).drew := by
  subst hG
  refine Src.ofSlice _ Tryd.underlying28 _ _ _ _ rfl ?_ (by simpa using hone)
  intro k v hk
  match k, hk with
  | 0, hk => simp at hk; subst hk; simp [Addr.add]
  | 1, hk => simp at hk; subst hk; simp [Addr.add]
  | 2, hk => simp at hk; subst hk; simp [Addr.add]
  | 3, hk => simp at hk; subst hk; simp [Addr.add]
  | 4, hk => simp at hk; subst hk; simp [Addr.add]
  | 5, hk => simp at hk; subst hk; simp [Addr.add]
  | 6, hk => simp at hk; subst hk; simp [Addr.add]
  | 7, hk => simp at hk; subst hk; simp [Addr.add]
  | 8, hk => simp at hk; subst hk; simp [Addr.add]
  | 9, hk => simp at hk; subst hk; simp [Addr.add]
  | k + 10, hk => simp at hk
noncomputable def z61 : Value := ((Tryd.prog.info? 41).bind (·.zero)).getD default
theorem c61 : z61.cells.size = 10 := by kernel_rfl
theorem info61 : (Tryd.prog.info? 41).map (fun i => (i.zero, i.size, i.bytes)) = some (some z61, 10, 136) := by kernel_rfl
theorem size3 : (Tryd.prog.info? 3).map (·.size) = some 1 := by kernel_rfl
theorem splice_front {α : Type} (L cs : List α) (h : L.length = cs.length + 1) (u : α) : (splice L 0 cs).set cs.length u = cs ++ [u] := by
  obtain ⟨t, ht⟩ : ∃ t, L.drop cs.length = [t] := by
    have : (L.drop cs.length).length = 1 := by simp; omega
    exact List.length_eq_one_iff.1 this
  simp [splice, ht]
end Go.Proofs.YtjdojbbjbippoaaDoor.Kit
