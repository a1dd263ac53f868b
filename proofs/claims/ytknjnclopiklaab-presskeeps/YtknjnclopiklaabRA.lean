import Derived.Test.YtknjnclopiklaabQF
namespace Go.Proofs.Ytknjnclopiklaab.Kit
open Go.RowKit Go.Shelf Go.Deep
set_option linter.unusedVariables false

/-! ### there and back -/
theorem unp_fuel (how : Int) (m : Nat) : ∀ (f g : Nat) (out b : List UInt8), b.length ≤ f → b.length ≤ g → unp how m f out b = unp how m g out b
  | 0, g, out, b, hf, _ => by
    have : b = [] := List.eq_nil_of_length_eq_zero (by omega)
    subst this
    rw [unp_done, unp_done]
  | f + 1, 0, out, b, _, hg => by
    have : b = [] := List.eq_nil_of_length_eq_zero (by omega)
    subst this
    rw [unp_done, unp_done]
  | f + 1, g + 1, out, b, hf, hg => by
    unfold unp
    split
    · rfl
    rename_i hne
    split
    · rfl
    split
    · rfl
    split
    · rfl
    · have h0 : 0 < b.length := List.length_pos_iff.2 hne
      have hs := sizeI_pos how (b.getD 0 0).toNat h0
      rw [← firstI_size] at hs
      have hl : (b.drop (firstI how b).size).length ≤ b.length - 1 := by rw [List.length_drop]; omega
      exact unp_fuel how m f g _ _ (by omega) (by omega)
def unpF (how : Int) (m : Nat) (out b : List UInt8) : Int × List UInt8 := unp how m b.length out b
theorem unpF_nil (how : Int) (m : Nat) (out : List UInt8) : unpF how m out [] = (0, out) := unp_done _ _ _ _
theorem unpF_next {how : Int} {m : Nat} {out b rest : List UInt8} {it : It} (hi : firstI how b = it) (hb : b ≠ []) (h : it.size ≤ b.length) (h2 : it.back ≤ out.length + it.bytes.length) (h3 : out.length + it.bytes.length + it.again ≤ m) (hr : b.drop it.size = rest) :
    unpF how m out b = unpF how m (layI it out) rest := by
  unfold unpF
  obtain ⟨f', e1, e2⟩ := unp_next (how := how) (most := m) (f := b.length) (out := out) hb (Nat.le_refl _) (by rw [hi]; omega) (by rw [hi]; omega) (by rw [hi]; omega)
  rw [e1]
  rw [hi] at e2 ⊢
  subst hr
  exact unp_fuel how m _ _ _ _ e2 (Nat.le_refl _)
theorem ofNat_toNat {x : Nat} (h : x < 256) : (UInt8.ofNat x).toNat = x := by rw [UInt8.toNat_ofNat']; omega
theorem firstI_lit {how : Int} {n : Nat} {l rest : List UInt8} (hh : how = 1 ∨ how = 2) (h1 : 1 ≤ n) (h2 : n ≤ 128) (hl : l.length = n) : firstI how ((UInt8.ofNat (n - 1) :: l) ++ rest) = ⟨l, 0, 0, n + 1⟩ := by
  have e0 : ((UInt8.ofNat (n - 1) :: l) ++ rest).getD 0 0 = UInt8.ofNat (n - 1) := rfl
  have e1 : (UInt8.ofNat (n - 1)).toNat = n - 1 := ofNat_toNat (by omega)
  have hs : sizeI how (n - 1) ((UInt8.ofNat (n - 1) :: l) ++ rest).length = n + 1 := by
    unfold sizeI
    rw [if_neg (by omega), if_pos (by omega)]
    omega
  unfold firstI
  simp only [e0, e1, hs]
  rw [if_neg (by simp; omega), if_neg (by omega), if_pos (by omega)]
  simp [← hl]
theorem firstI_run {n : Nat} {x : UInt8} {rest : List UInt8} (h1 : 3 ≤ n) (h2 : n ≤ 130) : firstI 1 ([UInt8.ofNat (n + 125), x] ++ rest) = ⟨[x], n - 1, 1, 2⟩ := by
  have e0 : ([UInt8.ofNat (n + 125), x] ++ rest).getD 0 0 = UInt8.ofNat (n + 125) := rfl
  have e1 : (UInt8.ofNat (n + 125)).toNat = n + 125 := ofNat_toNat (by omega)
  have hs : sizeI 1 (n + 125) ([UInt8.ofNat (n + 125), x] ++ rest).length = 2 := by
    unfold sizeI
    rw [if_neg (by omega), if_neg (by omega), if_pos rfl]
  unfold firstI
  simp only [e0, e1, hs]
  rw [if_neg (by simp), if_neg (by omega), if_neg (by omega), if_pos trivial]
  simp
theorem firstI_ref {n : Nat} {x y : UInt8} {rest : List UInt8} (h1 : 4 ≤ n) (h2 : n ≤ 131) : firstI 2 ([UInt8.ofNat (n + 124), x, y] ++ rest) = ⟨[], n, x.toNat + y.toNat * 256 + 1, 3⟩ := by
  have e0 : ([UInt8.ofNat (n + 124), x, y] ++ rest).getD 0 0 = UInt8.ofNat (n + 124) := rfl
  have e1 : (UInt8.ofNat (n + 124)).toNat = n + 124 := ofNat_toNat (by omega)
  have hs : sizeI 2 (n + 124) ([UInt8.ofNat (n + 124), x, y] ++ rest).length = 3 := by
    unfold sizeI
    rw [if_neg (by omega), if_neg (by omega), if_neg (by omega)]
  unfold firstI
  simp only [e0, e1, hs]
  rw [if_neg (by simp), if_neg (by omega), if_neg (by omega), if_neg (by omega)]
  simp
theorem take_succ {bs : List UInt8} {i : Nat} (h : i < bs.length) : bs.take (i + 1) = bs.take i ++ [bs.getD i 0] := by
  rw [List.take_succ_eq_append_getElem h, List.getD_eq_getElem?_getD, List.getElem?_eq_getElem h]
  rfl
theorem layBack_take {bs : List UInt8} {p : Nat} : ∀ (n i : Nat), p < i → i + n ≤ bs.length → (∀ j, j < n → bs.getD (i + j) 0 = bs.getD (p + j) 0) → layBack (i - p) n (bs.take i) = bs.take (i + n)
  | 0, i, _, _, _ => rfl
  | n + 1, i, hp, hl, h => by
    rw [layBack_succ, layBack_take n i hp (by omega) (fun j hj => h j (by omega))]
    have hlen : (bs.take (i + n)).length = i + n := by simp; omega
    rw [hlen, show i + (n + 1) = (i + n) + 1 by omega, take_succ (by omega), h n (by omega)]
    congr 2
    rw [show i + n - (i - p) = p + n by omega, List.getD_eq_getElem?_getD, List.getElem?_take, if_pos (by omega), List.getD_eq_getElem?_getD]
theorem lay_lit {bs : List UInt8} {i n s : Nat} : layI ⟨(bs.drop i).take n, 0, 0, s⟩ (bs.take i) = bs.take (i + n) := by
  unfold layI
  rw [layBack, ← List.take_add]
/-- what the items of a place lay -/
theorem there_back {how : Int} {m : Nat} {bs : List UInt8} {it : Nat → Nat} {code : Nat → Nat → List UInt8} (hh : how = 1 ∨ how = 2) (hm : bs.length ≤ m)
    (hit : ∀ i, i < bs.length → 0 < it i → i + it i ≤ bs.length ∧ ∀ rest, unpF how m (bs.take i) (code i (it i) ++ rest) = unpF how m (bs.take (i + it i)) rest) :
    ∀ (k i f : Nat), bs.length - i ≤ k → bs.length - i ≤ f → i ≤ bs.length → unpF how m (bs.take i) (packGo bs it code f i) = (0, bs) := by
  intro k
  induction k with
  | zero =>
    intro i f hk hf hi
    rw [packGo_end bs it code (by omega), unpF_nil, List.take_of_length_le (by omega)]
  | succ k ih =>
    intro i f hk hf hi
    by_cases c : i < bs.length
    · by_cases c2 : 0 < it i
      · obtain ⟨f', e1, e2⟩ := packGo_item (it := it) (code := code) c hf c2
        obtain ⟨h1, h2⟩ := hit i c c2
        rw [e1, h2]
        exact ih _ _ (by omega) e2 h1
      · obtain ⟨f', e1, e2⟩ := packGo_lit (it := it) (code := code) c hf (by omega)
        obtain ⟨b1, b2, b3⟩ := litN_bound it c
        have hl : ((bs.drop i).take (litN it bs.length i)).length = litN it bs.length i := by simp; omega
        have htl : (bs.take i).length = i := by simp; omega
        rw [e1, unpF_next (firstI_lit hh b1 b2 hl) (by simp) (by simp; omega) (by simp) (by simp only [htl, hl]; omega) (rest := packGo bs it code f' (i + litN it bs.length i)) (by
          rw [List.drop_append_of_le_length (by simp; omega)]
          rw [List.drop_of_length_le (by simp; omega)]
          rfl), lay_lit]
        exact ih _ _ (by omega) e2 b3
    · rw [packGo_end bs it code (by omega), unpF_nil, List.take_of_length_le (by omega)]
theorem sameN_all {c : UInt8} : ∀ {l : List UInt8} {n : Nat}, n ≤ sameN c l → ∀ j, j < n → ∃ h : j < l.length, l[j] = c
  | [], n, h, j, hj => by simp [sameN] at h; omega
  | x :: l, n, h, j, hj => by
    unfold sameN at h
    split at h
    · rename_i e
      cases j with
      | zero => exact ⟨by simp, e⟩
      | succ j =>
        obtain ⟨h1, h2⟩ := sameN_all (c := c) (l := l) (n := n - 1) (by omega) j (by omega)
        exact ⟨by simp; omega, by simpa using h2⟩
    · omega
theorem comN_all : ∀ {a b : List UInt8} {n : Nat}, n ≤ comN a b → ∀ j, j < n → ∃ (h : j < a.length) (h' : j < b.length), a[j] = b[j]
  | [], b, n, h, j, hj => by simp [comN] at h; omega
  | x :: a, [], n, h, j, hj => by simp [comN] at h; omega
  | x :: a, y :: b, n, h, j, hj => by
    unfold comN at h
    split at h
    · rename_i e
      cases j with
      | zero => exact ⟨by simp, by simp, e⟩
      | succ j =>
        obtain ⟨h1, h2, h3⟩ := comN_all (a := a) (b := b) (n := n - 1) (by omega) j (by omega)
        exact ⟨by simp; omega, by simp; omega, by simpa using h3⟩
    · omega
theorem runs_back {m : Nat} {bs : List UInt8} (hm : bs.length ≤ m) : unpF 1 m [] (packRunsB bs) = (0, bs) := by
  refine there_back (bs := bs) (it := runI bs) (code := runC bs) (.inl rfl) hm (fun i hi hp => ⟨runI_bound hi, fun rest => ?_⟩) bs.length 0 bs.length (by omega) (by omega) (by omega)
  obtain ⟨h1, h2⟩ := runI_pos hp
  have hb := runI_bound hi
  obtain ⟨n, hn⟩ : ∃ n, n = runI bs i := ⟨_, rfl⟩
  rw [← hn] at h1 h2 hb ⊢
  have htl : (bs.take i).length = i := by simp; omega
  unfold runC
  rw [unpF_next (firstI_run h1 h2) (by simp) (by simp) (by simp) (by simp only [htl, List.length_singleton]; omega) (rest := rest) (by simp)]
  congr 1
  have hr : ∀ j, j < n → bs.getD (i + j) 0 = bs.getD i 0 := fun j hj => by
    have hs : n ≤ sameN (bs.getD i 0) (bs.drop i) := by rw [hn]; unfold runI runN; split <;> omega
    obtain ⟨q1, q2⟩ := sameN_all hs j hj
    rw [drop_get q1] at q2
    exact q2
  unfold layI
  rw [← take_succ hi]
  have := layBack_take (bs := bs) (p := i) (n - 1) (i + 1) (by omega) (by omega) (fun j hj => by
    rw [show i + 1 + j = i + (j + 1) by omega, hr (j + 1) (by omega), hr j (by omega)])
  rw [show i + 1 - i = 1 by omega, show i + 1 + (n - 1) = i + n by omega] at this
  exact this
theorem refs_back {m : Nat} {bs : List UInt8} (hl : bs.length ≤ 65536) (hm : bs.length ≤ m) : unpF 2 m [] (packBackB bs) = (0, bs) := by
  refine there_back (bs := bs) (it := backI bs) (code := backC bs) (.inr rfl) hm (fun i hi hp => ?_) bs.length 0 bs.length (by omega) (by omega) (by omega)
  obtain ⟨p, hme, h4⟩ := backI_pos hp
  obtain ⟨hp1, hp2, -⟩ := metO_some hme
  have hb := backN_bound (bs := bs) (i := i) (p := p) (by omega)
  have h2 := backI_le bs i
  have heq := backI_some hme
  obtain ⟨n, hn⟩ : ∃ n, n = backI bs i := ⟨_, rfl⟩
  rw [← hn] at h4 h2 heq ⊢
  rw [← heq] at hb
  refine ⟨hb.1, fun rest => ?_⟩
  have htl : (bs.take i).length = i := by simp; omega
  unfold backC
  rw [hme]
  simp only
  have hx : (UInt8.ofNat ((i - p - 1) % 256)).toNat + (UInt8.ofNat ((i - p - 1) / 256 % 256)).toNat * 256 + 1 = i - p := by
    rw [ofNat_toNat (by omega), ofNat_toNat (by omega)]
    omega
  have hf := firstI_ref (x := UInt8.ofNat ((i - p - 1) % 256)) (y := UInt8.ofNat ((i - p - 1) / 256 % 256)) (rest := rest) h4 h2
  rw [hx] at hf
  rw [unpF_next hf (by simp) (by simp) (by simp only [htl, List.length_nil]; omega) (by simp only [htl, List.length_nil]; omega) (rest := rest) (by simp)]
  congr 1
  unfold layI
  rw [List.append_nil]
  refine layBack_take n i hp2 hb.1 (fun j hj => ?_)
  have hs : n ≤ comN (bs.drop i) (bs.drop p) := by rw [heq]; unfold backN; omega
  obtain ⟨q1, q2, q3⟩ := comN_all hs j hj
  rw [drop_get q1, drop_get q2] at q3
  exact q3
theorem none_back {m : Nat} {bs : List UInt8} (hm : bs.length ≤ m) : unpF 0 m [] bs = (0, bs) := by
  by_cases h : bs = []
  · subst h; exact unpF_nil _ _ _
  · have hs : sizeI 0 (bs.getD 0 0).toNat bs.length = bs.length := by unfold sizeI; rw [if_pos rfl]
    have hf : firstI 0 bs = ⟨bs, 0, 0, bs.length⟩ := by
      unfold firstI
      simp only [hs]
      rw [if_neg (by omega), if_pos trivial]
    rw [unpF_next hf h (Nat.le_refl _) (by simp) (by simp; omega) (rest := []) (by simp), unpF_nil]
    rfl
theorem pack_back {how : Int} {m : Nat} {bs : List UInt8} (hh : howB how = true) (hl : bs.length ≤ 65536) (hm : bs.length ≤ m) : unpF how m [] (packH how bs) = (0, bs) := by
  have hc : how = 0 ∨ how = 1 ∨ how = 2 := by unfold howB at hh; simp at hh; omega
  rcases hc with rfl | rfl | rfl
  · exact none_back hm
  · exact runs_back hm
  · exact refs_back hl hm
/-! ### how long it is -/
theorem litGo_stop {it : Nat → Nat} {i : Nat} : ∀ {f n : Nat}, litGo it i n f < n + f → 0 < it (i + litGo it i n f)
  | 0, n, h => by simp [litGo] at h
  | f + 1, n, h => by
    unfold litGo at h ⊢
    split at h
    · rename_i c; rw [if_pos c]; exact c
    · rename_i c; rw [if_neg c]; exact litGo_stop (by omega)
theorem pack_len {bs : List UInt8} {it : Nat → Nat} {code : Nat → Nat → List UInt8} (hit : ∀ i, i < bs.length → 0 < it i → i + it i ≤ bs.length ∧ (code i (it i)).length + 1 ≤ it i) :
    ∀ (k i f : Nat), bs.length - i ≤ k → bs.length - i ≤ f → i ≤ bs.length → (packGo bs it code f i).length ≤ (bs.length - i) + (bs.length - i + 127) / 128 ∧ (i < bs.length → 0 < it i → (packGo bs it code f i).length + 1 ≤ (bs.length - i) + (bs.length - i - it i + 127) / 128) := by
  intro k
  induction k with
  | zero =>
    intro i f hk hf hi
    rw [packGo_end bs it code (by omega)]
    exact ⟨by simp, fun h => by omega⟩
  | succ k ih =>
    intro i f hk hf hi
    by_cases c : i < bs.length
    · by_cases c2 : 0 < it i
      · obtain ⟨f', e1, e2⟩ := packGo_item (it := it) (code := code) c hf c2
        obtain ⟨h1, h2⟩ := hit i c c2
        have := (ih (i + it i) f' (by omega) e2 h1).1
        rw [e1, List.length_append]
        have e3 : bs.length - (i + it i) = bs.length - i - it i := by omega
        rw [e3] at this
        refine ⟨by omega, fun _ _ => by omega⟩
      · obtain ⟨f', e1, e2⟩ := packGo_lit (it := it) (code := code) c hf (by omega)
        obtain ⟨b1, b2, b3⟩ := litN_bound it c
        have hl : ((bs.drop i).take (litN it bs.length i)).length = litN it bs.length i := by simp; omega
        obtain ⟨n, hn⟩ : ∃ n, n = litN it bs.length i := ⟨_, rfl⟩
        refine ⟨?_, fun _ h => by omega⟩
        rw [e1, List.length_append, List.length_cons, hl]
        have hi2 := ih (i + litN it bs.length i) f' (by omega) e2 b3
        by_cases c3 : litN it bs.length i < min 128 (bs.length - i)
        · have hp : 0 < it (i + litN it bs.length i) := by
            unfold litN at c3 ⊢
            exact litGo_stop (by omega)
          have := hi2.2 (by omega) hp
          rw [← hn] at this b1 b2 b3 c3 hp ⊢
          have h1 := (hit (i + n) (by omega) hp).1
          omega
        · have := hi2.1
          rw [← hn] at this b1 b2 b3 c3 ⊢
          omega
    · rw [packGo_end bs it code (by omega)]
      exact ⟨by simp, fun h => by omega⟩
theorem packH_len {how : Int} {bs : List UInt8} (hh : howB how = true) : (packH how bs).length ≤ bs.length + (bs.length + 127) / 128 := by
  have hc : how = 0 ∨ how = 1 ∨ how = 2 := by unfold howB at hh; simp at hh; omega
  rcases hc with rfl | rfl | rfl
  · show bs.length ≤ _; omega
  · have := (pack_len (bs := bs) (it := runI bs) (code := runC bs) (fun i hi hp => ⟨runI_bound hi, by have := runI_pos hp; simp [runC]; omega⟩) bs.length 0 bs.length (by omega) (by omega) (by omega)).1
    rw [Nat.sub_zero] at this
    exact this
  · have := (pack_len (bs := bs) (it := backI bs) (code := backC bs) (fun i hi hp => by
      obtain ⟨p, hme, h4⟩ := backI_pos hp
      refine ⟨?_, ?_⟩
      · rw [backI_some hme]; exact (backN_bound (by omega)).1
      · unfold backC; rw [hme]; simp; omega) bs.length 0 bs.length (by omega) (by omega) (by omega)).1
    rw [Nat.sub_zero] at this
    exact this
end Go.Proofs.Ytknjnclopiklaab.Kit
