import Derived.Test.YtknjnclopiklaabRB
namespace Go.Proofs.Ytknjnclopiklaab.Kit
open Go.RowKit Go.Shelf Go.Deep
set_option linter.unusedVariables false

/-! ### packed bytes that lack their last ones -/
/-- less than all: wrong, or fewer bytes -/
def Lacks (n : Nat) (r : Int × List UInt8) : Prop := r.1 ≠ 0 ∨ r.2.length < n
theorem unpF_short {how : Int} {m : Nat} {out b : List UInt8} (hb : b ≠ []) (h : b.length < (firstI how b).size) : unpF how m out b = (60, []) := by
  unfold unpF
  exact unp_cut hb (Nat.le_refl _) h
theorem getD_take {l : List UInt8} {c : Nat} (h : 0 < c) : (l.take c).getD 0 0 = l.getD 0 0 := by
  rw [List.getD_eq_getElem?_getD, List.getElem?_take, if_pos h, List.getD_eq_getElem?_getD]
/-- a piece of an item's bytes -/
theorem piece_lacks {how : Int} {m n c : Nat} {out code : List UInt8} (ho : out.length < n) (hh : how = 1 ∨ how = 2) (hs : ∀ all, code.length = sizeI how (code.getD 0 0).toNat all) (hc : c < code.length) : Lacks n (unpF how m out (code.take c)) := by
  by_cases h0 : c = 0
  · subst h0
    rw [List.take_zero, unpF_nil]
    exact .inr ho
  · have hl : (code.take c).length = c := by simp; omega
    rw [unpF_short (by intro e; rw [e] at hl; simp at hl; omega) (by rw [firstI_size, getD_take (by omega), ← hs, hl]; exact hc)]
    exact .inl (by decide)
theorem there_lacks {how : Int} {m : Nat} {bs : List UInt8} {it : Nat → Nat} {code : Nat → Nat → List UInt8} (hh : how = 1 ∨ how = 2) (hm : bs.length ≤ m)
    (hit : ∀ i, i < bs.length → 0 < it i → i + it i ≤ bs.length ∧ (∀ all, (code i (it i)).length = sizeI how ((code i (it i)).getD 0 0).toNat all) ∧ ∀ rest, unpF how m (bs.take i) (code i (it i) ++ rest) = unpF how m (bs.take (i + it i)) rest) :
    ∀ (k i f c : Nat), bs.length - i ≤ k → bs.length - i ≤ f → i ≤ bs.length → c < (packGo bs it code f i).length → Lacks bs.length (unpF how m (bs.take i) ((packGo bs it code f i).take c)) := by
  intro k
  induction k with
  | zero =>
    intro i f c hk hf hi hc
    rw [packGo_end bs it code (by omega)] at hc
    exact absurd hc (by simp)
  | succ k ih =>
    intro i f c hk hf hi hc
    by_cases c1 : i < bs.length
    · have htl : (bs.take i).length = i := by simp; omega
      by_cases c2 : 0 < it i
      · obtain ⟨f', e1, e2⟩ := packGo_item (it := it) (code := code) c1 hf c2
        obtain ⟨h1, h3, h2⟩ := hit i c1 c2
        rw [e1] at hc ⊢
        rw [List.length_append] at hc
        by_cases c3 : c < (code i (it i)).length
        · rw [List.take_append_of_le_length (by omega)]
          exact piece_lacks (by rw [htl]; exact c1) hh h3 c3
        · rw [List.take_append, List.take_of_length_le (l := code i (it i)) (by omega), h2]
          exact ih _ _ _ (by omega) e2 h1 (by omega)
      · obtain ⟨f', e1, e2⟩ := packGo_lit (it := it) (code := code) c1 hf (by omega)
        obtain ⟨b1, b2, b3⟩ := litN_bound it c1
        have hl : ((bs.drop i).take (litN it bs.length i)).length = litN it bs.length i := by simp; omega
        rw [e1] at hc ⊢
        rw [List.length_append, List.length_cons, hl] at hc
        by_cases c3 : c < litN it bs.length i + 1
        · rw [List.take_append_of_le_length (by rw [List.length_cons, hl]; omega)]
          refine piece_lacks (by rw [htl]; exact c1) hh (fun all => ?_) (by rw [List.length_cons, hl]; exact c3)
          have e0 : (UInt8.ofNat (litN it bs.length i - 1) :: (bs.drop i).take (litN it bs.length i)).getD 0 0 = UInt8.ofNat (litN it bs.length i - 1) := rfl
          rw [e0, ofNat_toNat (by omega), List.length_cons, hl]
          unfold sizeI
          rw [if_neg (by omega), if_pos (by omega)]
          omega
        · rw [List.take_append, List.take_of_length_le (l := UInt8.ofNat (litN it bs.length i - 1) :: (bs.drop i).take (litN it bs.length i)) (by rw [List.length_cons, hl]; omega), unpF_next (firstI_lit hh b1 b2 hl) (by simp) (by simp; omega) (by simp) (by simp only [htl, hl]; omega) (rest := (packGo bs it code f' (i + litN it bs.length i)).take (c - (litN it bs.length i + 1))) (by
            rw [List.drop_append_of_le_length (by simp; omega)]
            rw [List.drop_of_length_le (by simp; omega), List.length_cons, hl]
            rfl), lay_lit]
          exact ih _ _ _ (by omega) e2 b3 (by omega)
    · rw [packGo_end bs it code (by omega)] at hc
      exact absurd hc (by simp)
theorem runs_lacks {m c : Nat} {bs : List UInt8} (hm : bs.length ≤ m) (hc : c < (packRunsB bs).length) : Lacks bs.length (unpF 1 m [] ((packRunsB bs).take c)) := by
  refine there_lacks (bs := bs) (it := runI bs) (code := runC bs) (.inl rfl) hm (fun i hi hp => ⟨runI_bound hi, fun all => ?_, fun rest => ?_⟩) bs.length 0 bs.length c (by omega) (by omega) (by omega) hc
  · obtain ⟨h1, h2⟩ := runI_pos hp
    unfold runC
    have e0 : ∀ x y : UInt8, [x, y].getD 0 0 = x := fun _ _ => rfl
    rw [e0, ofNat_toNat (by omega)]
    unfold sizeI
    rw [if_neg (by omega), if_neg (by omega), if_pos rfl]
    rfl
  · obtain ⟨h1, h2⟩ := runI_pos hp
    have hb := runI_bound hi
    obtain ⟨n, hn⟩ : ∃ n, n = runI bs i := ⟨_, rfl⟩
    rw [← hn] at h1 h2 hb ⊢
    have htl : (bs.take i).length = i := by simp; omega
    unfold runC
    rw [unpF_next (firstI_run h1 h2) (by simp) (by simp) (by simp) (by simp only [htl, List.length_singleton]; omega) (rest := rest) (by simp)]
    congr 1
    have hr : ∀ j, j < n → bs.getD (i + j) 0 = bs.getD i 0 := fun j hj => by
      have hs : n ≤ sameN (bs.getD i 0) (bs.drop i) := by rw [hn]; unfold runI runN; split <;> omega
      obtain ⟨q1, q2⟩ := sameN_all hs j hj
      rw [drop_get q1] at q2
      exact q2
    unfold layI
    rw [← take_succ hi]
    have := layBack_take (bs := bs) (p := i) (n - 1) (i + 1) (by omega) (by omega) (fun j hj => by
      rw [show i + 1 + j = i + (j + 1) by omega, hr (j + 1) (by omega), hr j (by omega)])
    rw [show i + 1 - i = 1 by omega, show i + 1 + (n - 1) = i + n by omega] at this
    exact this
theorem refs_lacks {m c : Nat} {bs : List UInt8} (hl : bs.length ≤ 65536) (hm : bs.length ≤ m) (hc : c < (packBackB bs).length) : Lacks bs.length (unpF 2 m [] ((packBackB bs).take c)) := by
  refine there_lacks (bs := bs) (it := backI bs) (code := backC bs) (.inr rfl) hm (fun i hi hp => ?_) bs.length 0 bs.length c (by omega) (by omega) (by omega) hc
  obtain ⟨p, hme, h4⟩ := backI_pos hp
  obtain ⟨hp1, hp2, -⟩ := metO_some hme
  have hb := backN_bound (bs := bs) (i := i) (p := p) (by omega)
  have h2 := backI_le bs i
  have heq := backI_some hme
  obtain ⟨n, hn⟩ : ∃ n, n = backI bs i := ⟨_, rfl⟩
  rw [← hn] at h4 h2 heq ⊢
  rw [← heq] at hb
  refine ⟨hb.1, fun all => ?_, fun rest => ?_⟩
  · unfold backC
    rw [hme]
    simp only
    have e0 : ∀ x y z : UInt8, [x, y, z].getD 0 0 = x := fun _ _ _ => rfl
    rw [e0, ofNat_toNat (by omega)]
    unfold sizeI
    rw [if_neg (by omega), if_neg (by omega), if_neg (by omega)]
    rfl
  have htl : (bs.take i).length = i := by simp; omega
  unfold backC
  rw [hme]
  simp only
  have hx : (UInt8.ofNat ((i - p - 1) % 256)).toNat + (UInt8.ofNat ((i - p - 1) / 256 % 256)).toNat * 256 + 1 = i - p := by
    rw [ofNat_toNat (by omega), ofNat_toNat (by omega)]
    omega
  have hf := firstI_ref (x := UInt8.ofNat ((i - p - 1) % 256)) (y := UInt8.ofNat ((i - p - 1) / 256 % 256)) (rest := rest) h4 h2
  rw [hx] at hf
  rw [unpF_next hf (by simp) (by simp) (by simp only [htl, List.length_nil]; omega) (by simp only [htl, List.length_nil]; omega) (rest := rest) (by simp)]
  congr 1
  unfold layI
  rw [List.append_nil]
  refine layBack_take n i hp2 hb.1 (fun j hj => ?_)
  have hs : n ≤ comN (bs.drop i) (bs.drop p) := by rw [heq]; unfold backN; omega
  obtain ⟨q1, q2, q3⟩ := comN_all hs j hj
  rw [drop_get q1, drop_get q2] at q3
  exact q3
theorem cut_lacks {how : Int} {c : Nat} {bs : List UInt8} (hh : how = 1 ∨ how = 2) (hl : bs.length ≤ 65536) (hc : c < (packH how bs).length) : (unpackE how ((packH how bs).take c) (bs.length : Int)).1 ≠ 0 ∧ (unpackE how ((packH how bs).take c) (bs.length : Int)).2 = [] := by
  have h : Lacks bs.length (unpF how bs.length [] ((packH how bs).take c)) := by
    rcases hh with rfl | rfl
    · exact runs_lacks (Nat.le_refl _) hc
    · exact refs_lacks hl (Nat.le_refl _) hc
  have hb : howB how = true := by unfold howB; simp; omega
  unfold unpF at h
  unfold unpackE
  rw [if_neg (by rw [hb]; simp), if_neg (by omega), Int.toNat_natCast]
  obtain ⟨r, hr⟩ : ∃ r, r = unp how bs.length ((packH how bs).take c).length [] ((packH how bs).take c) := ⟨_, rfl⟩
  rw [← hr] at h ⊢
  by_cases h1 : r.1 = 0
  · rw [if_neg (by simp [h1]), if_pos (by rcases h with h | h; exact absurd h1 h; omega)]
    exact ⟨by decide, rfl⟩
  · rw [if_pos h1]
    exact ⟨h1, rfl⟩
end Go.Proofs.Ytknjnclopiklaab.Kit
