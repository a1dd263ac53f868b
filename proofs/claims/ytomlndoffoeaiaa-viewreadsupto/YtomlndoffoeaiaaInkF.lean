import Derived.Test.YtomlndoffoeaiaaInkE
namespace Go.Proofs.Ytomlndoffoeaiaa.Kit
open Go.RowKit Go.Deep

/-- a list of bytes somewhere in memory -/
def BytesAt (w : World) (ao : Option Addr) (n : Nat) (l : List Int) : Prop :=
  0 < n → ∃ b off, ao = some ⟨b, off, none⟩ ∧ ∀ k, k < n → w.cell? ⟨b, off + k, none⟩ = some (.int .u8 (l.getD k 0))

set_option maxHeartbeats 400000 in
theorem same_some (b off b' off' n ca cb : Nat) (l : List Int) (w : World) (hn : n ≤ 9223372036854775807)
    (ha : ∀ k, k < n → w.cell? ⟨b, off + k, none⟩ = some (.int .u8 (l.getD k 0))) (hb : ∀ k, k < n → w.cell? ⟨b', off' + k, none⟩ = some (.int .u8 (l.getD k 0))) :
    Calls Try.prog 47 #[.slice (some ⟨b, off, none⟩) n ca, .slice (some ⟨b', off', none⟩) n cb] w fun e w' => e = .returned (.bool true) ∧ ∃ q, w' = w.drewN q := by
  go_enter Try.func47, Try.ntmps47
  go_wp2
  go_loopw [5] (fun i wr => ∃ k : Nat, k ≤ n ∧ i = .int .i64 k ∧ ∃ q, wr = w.drewN q) (fun i _ => n - (intOf i).toNat)
  case atStart => exact ⟨0, Nat.zero_le _, rfl, 0, rfl⟩
  case round =>
    obtain ⟨k, hk, rfl, q, rfl⟩ := hrel
    by_cases hlt : k < n
    · have h1 := ha k hlt
      have h2 := hb k hlt
      obtain ⟨z, hz⟩ : ∃ z, z = l.getD k 0 := ⟨_, rfl⟩
      rw [← hz] at h1 h2
      clear hz ha hb
      go_wp2
      go_quiet (fail)
      go_wp2
      go_roundw
      case rel => exact ⟨k + 1, by omega, by go_num, q + nq, rfl⟩
      case measure => simp [intOf]; omega
    · clear ha hb
      go_wp2
      go_ret
      exact ⟨rfl, _, rfl⟩

theorem same_zero (ao bo : Option Addr) (ca cb : Nat) (w : World) :
    Calls Try.prog 47 #[.slice ao 0 ca, .slice bo 0 cb] w fun e w' => e = .returned (.bool true) ∧ ∃ q, w' = w.drewN q := by
  go_enter Try.func47, Try.ntmps47
  go_wp2
  refine wp_loop_rounds 1 ?_
  rw [rounds_succ]
  go_wp2
  go_ret
  exact ⟨rfl, 0, rfl⟩

theorem same_all (ao bo : Option Addr) (n ca cb : Nat) (l : List Int) (w : World) (hn : n ≤ 9223372036854775807) (ha : BytesAt w ao n l) (hb : BytesAt w bo n l) :
    Calls Try.prog 47 #[.slice ao n ca, .slice bo n cb] w fun e w' => e = .returned (.bool true) ∧ ∃ q, w' = w.drewN q := by
  by_cases h : n = 0
  · subst h; exact same_zero ao bo ca cb w
  · obtain ⟨b, off, rfl, h1⟩ := ha (by omega)
    obtain ⟨b', off', rfl, h2⟩ := hb (by omega)
    exact same_some b off b' off' n ca cb l w hn h1 h2

theorem full_zero (ao : Option Addr) (c : Nat) (m : Int) (w : World) : Calls Try.prog 58 #[.slice ao 0 c, .int .u8 m] w fun e w' => e = .returned (.bool true) ∧ w = w' := by
  go_enter Try.func58, Try.ntmps58
  go_wp2
  refine wp_loop_rounds 1 ?_
  rw [rounds_succ]
  go_wp2
  go_ret
  exact ⟨rfl, rfl⟩

theorem full_some (b off n c : Nat) (m : Int) (w : World) (hn : n ≤ 9223372036854775807) (ha : ∀ k, k < n → w.cell? ⟨b, off + k, none⟩ = some (.int .u8 m)) :
    Calls Try.prog 58 #[.slice (some ⟨b, off, none⟩) n c, .int .u8 m] w fun e w' => e = .returned (.bool true) ∧ w = w' := by
  go_enter Try.func58, Try.ntmps58
  go_wp2
  go_loop [5] (fun i => ∃ k : Nat, k ≤ n ∧ i = .int .i64 k) (fun i => n - (intOf i).toNat)
  case atStart => exact ⟨0, Nat.zero_le _, rfl⟩
  case round =>
    obtain ⟨k, hk, rfl⟩ := hrel
    by_cases hlt : k < n
    · have h1 := ha k hlt
      clear ha
      go_wp2
      go_round
      case rel => exact ⟨k + 1, by omega, by go_num⟩
      case measure => simp [intOf]; omega
    · clear ha
      go_wp2
      go_ret
      exact ⟨rfl, rfl⟩

/-- a list of the law's own, full of a mark, in memory that was not there in w -/
def Marked (w wr : World) (v : Value) (n : Nat) (m : Int) : Prop :=
  wr.ownsRow 0 5 1 v n (List.replicate n (.int .u8 m)) ∧ (∀ g, v.ownBlock = some g → w.heap.size ≤ g) ∧ Keeps w wr (fun _ => False)

theorem Marked.form {w wr : World} {v : Value} {n : Nat} {m : Int} (h : Marked w wr v n m) : ∃ ao cap, v = .slice ao n cap := own_form h.1

theorem Marked.kept {w wr w' : World} {v : Value} {n : Nat} {m : Int} (h : Marked w wr v n m) (hk : Keeps wr w' (fun _ => False)) : Marked w w' v n m := by
  refine ⟨⟨h.1.1, ?_⟩, h.2.1, h.2.2.trans hk fun _ _ h => h⟩
  rcases h.1.2 with hn | ⟨g, cap, cur, rfl, hb', hgg, rest⟩
  · exact .inl hn
  · refine .inr ⟨g, cap, cur, rfl, hb', ?_, rest⟩
    rw [hk.block g (Array.getElem?_eq_some_iff.1 hgg).1 id]
    exact hgg

theorem Marked.step {w wr W w1 : World} {v v' : Value} {n : Nat} {m : Int} (h : Marked w wr v n m) (hW : Keeps wr W (fun _ => False)) (hown' : w1.ownsRow 0 5 1 v' (n + 1) (List.replicate n (.int .u8 m) ++ [.int .u8 m])) (hgrow : W.grownBy w1 v.ownBlock)
    (hblk : v'.ownBlock = v.ownBlock ∨ ∀ g, v'.ownBlock = some g → W.heap.size ≤ g) : Marked w w1 v' (n + 1) m := by
  refine ⟨by rw [List.replicate_succ']; exact hown', fun g hg => ?_, ?_⟩
  · rcases hblk with e | e
    · exact h.2.1 g (e.symm.trans hg)
    · have := e g hg; have := h.2.2.size; have := hW.size; omega
  · exact (h.2.2.trans hW fun _ _ h => h).trans (Keeps.ofGrown hgrow) fun j hj e => by have := h.2.1 j e; omega

theorem full_all (w wr : World) (v : Value) (n : Nat) (m : Int) (hn : n ≤ 9223372036854775807) (h : Marked w wr v n m) :
    Calls Try.prog 58 #[v, .int .u8 m] wr fun e w' => e = .returned (.bool true) ∧ wr = w' := by
  rcases h.1.2 with ⟨rfl, h0⟩ | ⟨g, cap, cur, rfl, _⟩
  · exact full_zero _ _ _ _
  · refine full_some g 0 n cap m wr hn fun k hk => ?_
    have := h.1.cellAt k (by omega)
    rw [Nat.zero_add, this]
    simp [hk]

/-- 'b[i] = mark', k of n done -/
def Marking (w wr : World) (g n k : Nat) (m : Int) : Prop :=
  ∃ L, OwnRow wr g 5 L ∧ L.length = n ∧ (∀ j, j < k → L[j]? = some (.int .u8 m)) ∧ Keeps w wr (fun _ => False) ∧ w.heap.size ≤ g

theorem Marking.open {w wr : World} {g n k : Nat} {m : Int} (h : Marking w wr g n k m) (hk : k < n) :
    ∃ v, wr.cell? ⟨g, k, none⟩ = some v ∧ wr.frozen? ⟨g, k, none⟩ = false ∧ Hid (Marking w (wr.setCell ⟨g, k, none⟩ (.int .u8 m)) g n (k + 1) m) := by
  obtain ⟨L, hO, hl, hm, hK, hg⟩ := h
  refine ⟨L[k]'(by omega), hO.cell (List.getElem?_eq_getElem _), hO.frozen k, L.set k (.int .u8 m), hO.set k _, by simpa using hl, fun j hj => ?_, hK.setCell (p := ⟨g, k, none⟩) (fun h => by simp at h; omega) _, hg⟩
  rw [List.getElem?_set]
  by_cases e : k = j
  · subst e; rw [if_pos rfl, if_pos (by omega)]
  · rw [if_neg e]; exact hm j (by omega)

theorem Marking.done {w wr : World} {g n : Nat} {m : Int} (h : Marking w wr g n n m) (hn : n ≤ maxLen) : Marked w wr (.slice (some ⟨g, 0, none⟩) n n) n m := by
  obtain ⟨L, hO, hl, hm, hK, hg⟩ := h
  have e : L = List.replicate n (.int .u8 m) := by
    apply List.ext_getElem?
    intro j
    by_cases hj : j < n
    · rw [hm j hj]; simp [hj]
    · rw [List.getElem?_eq_none (by omega), List.getElem?_eq_none (by simp; omega)]
  refine ⟨⟨by simp, .inr ⟨g, n, L.toArray, rfl, Nat.zero_le _, hO, Nat.le_refl _, hn, by simpa using hl, ?_⟩⟩, fun g' hg' => ?_, hK⟩
  · rw [e]; simp
  · simp [Value.ownBlock] at hg'; omega

theorem Marking.start {w w1 w2 : World} {bs : List Int} (hO : OwnRow w2 w1.heap.size 5 (bs.map (Value.int .u8))) (hK : Keeps w w1 (fun _ => False)) (hB : Below w1.heap.size w1 w2) (m : Int) : Marking w w2 w1.heap.size bs.length 0 m :=
  ⟨_, hO, by simp, fun j hj => absurd hj (by omega), hK.trans (Keeps.ofBelow hB) (fun j hj h => by have := hK.size; omega), hK.size⟩
end Go.Proofs.Ytomlndoffoeaiaa.Kit
