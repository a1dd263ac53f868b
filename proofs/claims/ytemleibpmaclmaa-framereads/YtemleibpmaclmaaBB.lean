import Derived.Test.YtemleibpmaclmaaBA
import Derived.Laws.EntriesVeiled
import Derived.Lib.BufferRead
import Derived.Lib.SlBytesConst
import Derived.Laws.BitsLemmas
import Derived.Laws.IdiomStrings
import Derived.Laws.BitsAllLaws
namespace Go.Proofs.Ytemleibpmaclmaa.Kit
open Go.RowKit Go.Shelf Go.Deep
set_option linter.unusedVariables false
theorem BytesAt.at {W : World} {ao : Option Addr} {bs : List UInt8} (h : BytesAt W ao bs) (hne : bs ≠ []) : ∃ b o, ao = some ⟨b, o, none⟩ ∧ ∀ i, i < bs.length → W.cell? ⟨b, o + i, none⟩ = some (.int .u8 ((bs.getD i 0).toNat : Int)) := by
  obtain ⟨b, o, e, hc⟩ := h hne
  refine ⟨b, o, e, fun i hi => ?_⟩
  rw [hc i hi, List.getD_eq_getElem?_getD, List.getElem?_eq_getElem hi]
  rfl
theorem ne_nil {α : Type} {l : List α} {i : Nat} (h : i < l.length) : l ≠ [] := fun e => by rw [e] at h; simp at h
theorem u8_beq {x y : UInt8} : (((x.toNat : Int) == (y.toNat : Int)) = true) ↔ x = y := by
  constructor
  · intro h
    have : (x.toNat : Int) = (y.toNat : Int) := by simpa using h
    exact UInt8.toNat_inj.1 (by omega)
  · rintro rfl; simp
theorem u8_bne {x y : UInt8} : (((x.toNat : Int) == (y.toNat : Int)) = false) ↔ x ≠ y := by
  rw [← Bool.not_eq_true, u8_beq]

theorem src_all {V : World} {ao : Option Addr} {ca : Nat} {bs : List UInt8} (h : BytesAt V ao bs) : Src Try.prog 1 22 (.slice ao bs.length ca) bs.length (bv bs) V := by
  cases ao with
  | none =>
    have : bs = [] := by
      cases bs with
      | nil => rfl
      | cons x l => obtain ⟨b, o, e, -⟩ := h (by simp); cases e
    subst this
    exact Src.ofNil V Try.underlying22 ca
  | some a =>
    refine Src.ofSlice V Try.underlying22 a bs.length ca (bv bs) (by simp [bv]) (fun j x hx => ?_) (fun x hx => by obtain ⟨z, _, rfl⟩ := List.mem_map.1 hx; rfl)
    have hj : j < bs.length := by have := (List.getElem?_eq_some_iff.1 hx).1; simpa [bv] using this
    obtain ⟨b, o, e, hc⟩ := h.at (ne_nil hj)
    cases e
    have e2 : (⟨b, o, none⟩ : Addr).add j = ⟨b, o + j, none⟩ := by simp [Addr.add]
    rw [e2, hc j hj, ← hx]
    unfold bv
    rw [List.getElem?_map, List.getElem?_eq_getElem hj, List.getD_eq_getElem?_getD, List.getElem?_eq_getElem hj]
    rfl
theorem BytesAt.take {W : World} {ao : Option Addr} {bs : List UInt8} (h : BytesAt W ao bs) (k : Nat) : BytesAt W ao (bs.take k) := fun hn => by
  obtain ⟨b, o, e, hc⟩ := h (by intro e; rw [e] at hn; simp at hn)
  refine ⟨b, o, e, fun i hi => ?_⟩
  have hi' : i < bs.length := by simp at hi; omega
  rw [List.getElem_take]
  exact hc i hi'
theorem bytes_string {W : World} {vo : Option Addr} {vc : Nat} {bs : List UInt8} (h : BytesAt W vo bs) : (convert 22 9 (.slice vo bs.length vc)).run Try.prog W = .ok (.string ⟨bs.toArray⟩) W := by
  cases vo with
  | none =>
    have : bs = [] := by
      cases bs with
      | nil => rfl
      | cons x l => obtain ⟨b, o, e, -⟩ := h (by simp); cases e
    subst this
    exact Go.Lib.run_convert_nil_bytes W 22 9 5 vc Try.underlying22 Try.underlying5 Try.underlying9
  | some a =>
    refine run_convert_bytes_back W 22 9 5 a vc bs Try.underlying22 Try.underlying5 Try.underlying9 fun j hj => ?_
    obtain ⟨b, o, e, hc⟩ := h (ne_nil hj)
    cases e
    rw [show (⟨b, o, none⟩ : Addr).add j = ⟨b, o + j, none⟩ by simp [Addr.add]]
    exact hc j hj
theorem Byts.bytes {w W : World} {vo : Option Addr} {vc n : Nat} {bs : List UInt8} (h : Byts w W vo vc n bs) : BytesAt W vo bs := bytes_of_own h.own
theorem Byts.cap {w W : World} {vo : Option Addr} {vc n : Nat} {bs : List UInt8} (h : Byts w W vo vc n bs) : bs.length ≤ vc := by
  have hl := h.len
  rcases h.own.2 with ⟨e, h0⟩ | ⟨g, cap, cur, e, h1, h2, h3, h4, h5, h6⟩
  · cases e; omega
  · cases e; omega
theorem Byts.empty (w : World) : Byts w (w.alloc (.cells #[] 5)) (some ⟨w.heap.size, 0, none⟩) 0 0 [] := by
  refine ⟨⟨rfl, .inr ⟨w.heap.size, 0, #[], rfl, Nat.zero_le _, heap_alloc_new w _, by omega, by decide, rfl, ?_⟩⟩, gr_alloc _ _, fun g e => ?_⟩
  · rfl
  · have : w.heap.size = g := by simpa [Value.ownBlock] using e
    omega
theorem keeps_set {w W : World} (g : Gr w W) {X k : Nat} {u : Value} (h : w.heap.size ≤ X) : Gr w (W.setCell ⟨X, k, none⟩ u) :=
  g.setCell (p := ⟨X, k, none⟩) (fun hlt => absurd hlt (by show ¬ X < _; omega)) u
structure BRow (W : World) (X n : Nat) (F : Nat → Int) : Prop where
  ex : ∃ c : Array Value, W.heap[X]? = some (.cells c 5 (0, 0)) ∧ n ≤ c.size ∧ ∀ k, k < n → c[k]? = some (.int .u8 (F k))
theorem BRow.cell {W : World} {X n : Nat} {F : Nat → Int} (h : BRow W X n F) {k : Nat} (hk : k < n) : W.cell? ⟨X, k, none⟩ = some (.int .u8 (F k)) := by
  obtain ⟨c, h1, h2, h3⟩ := h.ex
  simp only [World.cell?, h1]
  exact h3 k hk
theorem BRow.frz {W : World} {X n : Nat} {F : Nat → Int} (h : BRow W X n F) (k : Nat) : W.frozen? ⟨X, k, none⟩ = false := by
  obtain ⟨c, h1, h2, h3⟩ := h.ex
  exact Kit.frz h1 k
theorem BRow.lt {W : World} {X n : Nat} {F : Nat → Int} (h : BRow W X n F) : X < W.heap.size := by
  obtain ⟨c, h1, -⟩ := h.ex
  exact lt_of_heap h1
theorem BRow.set {W : World} {X n k : Nat} {F : Nat → Int} (h : BRow W X n F) (hk : k < n) (v : Int) : BRow (W.setCell ⟨X, k, none⟩ (.int .u8 v)) X n (fun j => if j = k then v else F j) := by
  obtain ⟨c, h1, h2, h3⟩ := h.ex
  refine ⟨_, heap_setCell_same W X k c 5 (.int .u8 v) h1, by simp [h2], fun j hj => ?_⟩
  simp only [Array.getElem?_setIfInBounds]
  by_cases e : k = j
  · subst e
    rw [if_pos rfl, if_pos rfl, if_pos (by omega)]
  · rw [if_neg e, if_neg (fun h => e h.symm)]
    exact h3 j hj
theorem BRow.kp {W W' : World} {X n : Nat} {F : Nat → Int} (h : BRow W X n F) (e : W'.heap[X]? = W.heap[X]?) : BRow W' X n F := by
  obtain ⟨c, h1, h2, h3⟩ := h.ex
  exact ⟨c, e.trans h1, h2, h3⟩
theorem BRow.congr {W : World} {X n : Nat} {F G : Nat → Int} (h : BRow W X n F) (e : ∀ k, k < n → F k = G k) : BRow W X n G := by
  obtain ⟨c, h1, h2, h3⟩ := h.ex
  exact ⟨c, h1, h2, fun k hk => by rw [h3 k hk, e k hk]⟩
theorem BRow.of_own {W : World} {vo : Option Addr} {n vc : Nat} {bs : List UInt8} (h : W.ownsRow 0 5 1 (.slice vo n vc) n (bv bs)) (h0 : 0 < n) : ∃ X, vo = some ⟨X, 0, none⟩ ∧ BRow W X n (fun k => ((bs.getD k 0).toNat : Int)) := by
  have hl : bs.length = n := by have := h.1; simpa [bv] using this
  rcases h.2 with ⟨e, h0'⟩ | ⟨g, cap, cur, e, h1, h2, h3, h4, h5, h6⟩
  · omega
  · cases e
    refine ⟨g, rfl, cur, h2, by omega, fun k hk => ?_⟩
    have h7 : (cur.toList.take (n * 1))[k]? = (bv bs)[k]? := by rw [h6]
    rw [List.getElem?_take, if_pos (by omega), Array.getElem?_toList] at h7
    rw [h7]
    unfold bv
    rw [List.getElem?_map, List.getElem?_eq_getElem (by omega), List.getD_eq_getElem?_getD, List.getElem?_eq_getElem (by omega)]
    rfl
theorem BRow.bytes {W : World} {X n : Nat} {F : Nat → Int} (h : BRow W X n F) {bs : List UInt8} (hl : bs.length = n) (hF : ∀ k, k < n → F k = ((bs.getD k 0).toNat : Int)) : BytesAt W (some ⟨X, 0, none⟩) bs := fun hn => by
  refine ⟨X, 0, rfl, fun i hi => ?_⟩
  rw [Nat.zero_add, h.cell (by omega), hF i (by omega), List.getD_eq_getElem?_getD, List.getElem?_eq_getElem hi]
  rfl
/-- nothing but a block has changed -/
theorem Byts.kp {w W W' : World} {vo : Option Addr} {vc n X : Nat} {bs : List UInt8} (h : Byts w W vo vc n bs) (k : Keeps W W' (fun g => g = X)) (hX : w.heap.size ≤ X) (hne : ¬ (Value.slice vo n vc).ownBlock = some X) : Byts w W' vo vc n bs :=
  ⟨own_kp h.own fun b e => k.block b (own_lt h.own b e) (fun q => by subst q; exact hne e), h.gr.trans k (fun j hj e => by omega), h.new⟩
theorem conv_in (W : World) (p : List UInt8) : ∃ cp V, (convert 9 22 (.string ⟨p.toArray⟩)).run Try.prog W = .ok (.slice (some ⟨W.heap.size, 0, none⟩) p.length cp) V ∧ Gr W V ∧ BytesAt V (some ⟨W.heap.size, 0, none⟩) p ∧ p.length ≤ cp := by
  have hs : (⟨p.toArray⟩ : ByteArray).size = p.length := by simp [ByteArray.size]
  have h := run_bytes_of_string W 9 22 5 (⟨p.toArray⟩ : ByteArray) Try.underlying9 Try.underlying22 Try.underlying5
  rw [hs] at h
  refine ⟨_, _, h, (Keeps.refl W _).drew.alloc _, fun hn => ⟨W.heap.size, 0, rfl, fun i hi => ?_⟩, grownCap_ge _ _ _ _⟩
  have hb := heap_alloc_new W.drew (.cells (bytesRow (⟨p.toArray⟩ : ByteArray) (grownCap W p.length 0 5)) 5 ((bytesRow (⟨p.toArray⟩ : ByteArray) (grownCap W p.length 0 5)).size, (bytesRow (⟨p.toArray⟩ : ByteArray) (grownCap W p.length 0 5)).size + 1))
  have hb' := (show W.drew.heap.size = W.heap.size from rfl) ▸ hb
  simp only [World.cell?, hb']
  simp [bytesRow, Array.getElem?_append, hi]
theorem own_set {W : World} {vo : Option Addr} {n vc k : Nat} {bs : List UInt8} (h : W.ownsRow 0 5 1 (.slice vo n vc) n (bv bs)) (hk : k < n) :
    ∃ X, vo = some ⟨X, 0, none⟩ ∧ W.cell? ⟨X, k, none⟩ = some (.int .u8 ((bs.getD k 0).toNat : Int)) ∧ W.frozen? ⟨X, k, none⟩ = false ∧ ∀ v : UInt8, (W.setCell ⟨X, k, none⟩ (.int .u8 (v.toNat : Int))).ownsRow 0 5 1 (.slice vo n vc) n (bv (bs.set k v)) := by
  obtain ⟨X, e, hb⟩ := BRow.of_own h (by omega)
  refine ⟨X, e, hb.cell hk, hb.frz k, fun v => ?_⟩
  rcases h.2 with ⟨q, -⟩ | ⟨g, cap, cur, q, h1, h2, h3, h4, h5, h6⟩
  · rw [e] at q; cases q
  · rw [e] at q
    cases q
    refine ⟨by have := h.1; simpa [bv] using this, .inr ⟨X, vc, _, by rw [e], h1, heap_setCell_same W X k cur 5 _ h2, h3, h4, by simp [h5], ?_⟩⟩
    rw [Array.toList_setIfInBounds, List.take_set, h6]
    unfold bv
    rw [List.map_set]
theorem Ap.set {w W W' : World} {vo : Option Addr} {vc n k : Nat} {bs : List UInt8} (h : Ap w W W' vo vc n vo vc n bs) (hk : k < n) :
    ∃ X, vo = some ⟨X, 0, none⟩ ∧ W'.cell? ⟨X, k, none⟩ = some (.int .u8 ((bs.getD k 0).toNat : Int)) ∧ W'.frozen? ⟨X, k, none⟩ = false ∧ ∀ v : UInt8, Ap w W (W'.setCell ⟨X, k, none⟩ (.int .u8 (v.toNat : Int))) vo vc n vo vc n (bs.set k v) := by
  obtain ⟨X, e, h1, h2, h3⟩ := own_set h.b.own hk
  have hX : (Value.slice vo n vc).ownBlock = some X := by rw [e]; rfl
  exact ⟨X, e, h1, h2, fun v => ⟨⟨h3 v, keeps_set h.b.gr (h.b.new X hX), h.b.new⟩, h.kp.setCell (p := ⟨X, k, none⟩) (fun _ => hX) _, .inl rfl⟩⟩
theorem own_ap {W W' : World} {v u : Value} {n : Nat} {xs : List Value} (o : W.ownsRow 0 5 1 v n xs) (k : Keeps W W' (fun g => u.ownBlock = some g)) (hne : ∀ g, v.ownBlock = some g → ¬ u.ownBlock = some g) : W'.ownsRow 0 5 1 v n xs :=
  own_kp o fun b e => k.block b (own_lt o b e) (hne b e)
theorem own_gr {W W' : World} {v : Value} {n : Nat} {xs : List Value} (o : W.ownsRow 0 5 1 v n xs) (g : Gr W W') : W'.ownsRow 0 5 1 v n xs := own_kp o fun b e => g.block b (own_lt o b e) id
end Go.Proofs.Ytemleibpmaclmaa.Kit
