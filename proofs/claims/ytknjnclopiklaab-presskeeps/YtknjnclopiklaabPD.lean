import Derived.Test.YtknjnclopiklaabBA
namespace Go.Proofs.Ytknjnclopiklaab.Kit
open Go.RowKit Go.Shelf Go.Deep
set_option linter.unusedVariables false

/-! ### packing, as a function of data -/
/-- how many bytes of one value a list begins with -/
def sameN (c : UInt8) : List UInt8 → Nat
  | [] => 0
  | x :: l => if x = c then sameN c l + 1 else 0
def runN (bs : List UInt8) (i : Nat) : Nat := min 130 (sameN (bs.getD i 0) (bs.drop i))
def runI (bs : List UInt8) (i : Nat) : Nat := if runN bs i < 3 then 0 else runN bs i
def runC (bs : List UInt8) (i n : Nat) : List UInt8 := [UInt8.ofNat (n + 125), bs.getD i 0]
theorem sameN_char {c : UInt8} : ∀ {l : List UInt8} {n : Nat}, n ≤ l.length → (∀ j (h : j < l.length), j < n → l[j] = c) → (∀ h : n < l.length, l[n] ≠ c) → sameN c l = n
  | [], n, h1, _, _ => by simp at h1; subst h1; rfl
  | x :: l, 0, _, _, h3 => by
    have := h3 (by simp)
    simp at this
    simp [sameN, this]
  | x :: l, n + 1, h1, h2, h3 => by
    have h0 := h2 0 (by simp) (by omega)
    simp at h0 h1
    have := sameN_char (c := c) (l := l) (n := n) (by omega) (fun j h hj => by have := h2 (j + 1) (by simp; omega) (by omega); simpa using this) (fun h => by have := h3 (by simp; omega); simpa using this)
    simp [sameN, h0, this]
theorem sameN_le (c : UInt8) : ∀ l : List UInt8, sameN c l ≤ l.length
  | [] => by simp [sameN]
  | x :: l => by
    have := sameN_le c l
    unfold sameN
    split <;> simp <;> omega
theorem sameN_ge {c : UInt8} : ∀ {l : List UInt8} {n : Nat}, n ≤ l.length → (∀ j (h : j < l.length), j < n → l[j] = c) → n ≤ sameN c l
  | l, 0, _, _ => by omega
  | [], n + 1, h, _ => by simp at h
  | x :: l, n + 1, h1, h2 => by
    have h0 := h2 0 (by simp) (by omega)
    simp at h0 h1
    have := sameN_ge (c := c) (l := l) (n := n) (by omega) (fun j h hj => by have := h2 (j + 1) (by simp; omega) (by omega); simpa using this)
    simp [sameN, h0]
    omega
/-- what the loop of a run has seen -/
def RunTo (bs : List UInt8) (i n : Nat) : Prop := i + n ≤ bs.length ∧ ∀ j, j < n → bs.getD (i + j) 0 = bs.getD i 0
theorem RunTo.one {bs : List UInt8} {i : Nat} (h : i < bs.length) : RunTo bs i 1 := ⟨by omega, fun j hj => by
  have : j = 0 := by omega
  subst this
  rfl⟩
theorem RunTo.zero {bs : List UInt8} {i : Nat} (h : i ≤ bs.length) : RunTo bs i 0 := ⟨by omega, fun j hj => by omega⟩
theorem RunTo.next {bs : List UInt8} {i n : Nat} (h : RunTo bs i n) (hl : i + n < bs.length) (he : bs.getD (i + n) 0 = bs.getD i 0) : RunTo bs i (n + 1) :=
  ⟨by omega, fun j hj => by
    by_cases e : j = n
    · subst e; exact he
    · exact h.2 j (by omega)⟩
theorem drop_get {bs : List UInt8} {i j : Nat} (h : j < (bs.drop i).length) : (bs.drop i)[j] = bs.getD (i + j) 0 := by
  have hl : i + j < bs.length := by simp at h; omega
  rw [List.getElem_drop, List.getD_eq_getElem?_getD, List.getElem?_eq_getElem hl]
  rfl
theorem RunTo.done {bs : List UInt8} {i n : Nat} (h : RunTo bs i n) (hn : n ≤ 130) (he : n = 130 ∨ i + n = bs.length ∨ bs.getD (i + n) 0 ≠ bs.getD i 0) : runN bs i = n := by
  have h1 : n ≤ (bs.drop i).length := by have := h.1; simp; omega
  have h2 : ∀ j (hj : j < (bs.drop i).length), j < n → (bs.drop i)[j] = bs.getD i 0 := fun j hj hjn => by rw [drop_get hj]; exact h.2 j hjn
  have hge := sameN_ge h1 h2
  unfold runN
  rcases he with e | e | e
  · omega
  · have : sameN (bs.getD i 0) (bs.drop i) ≤ n := by have := sameN_le (bs.getD i 0) (bs.drop i); rw [List.length_drop] at this; omega
    omega
  · have := sameN_char h1 h2 (fun hh => by rw [drop_get hh]; exact e)
    omega
theorem runN_le (bs : List UInt8) (i : Nat) : runN bs i ≤ 130 := by unfold runN; omega
/-- where a literal ends -/
def litGo (it : Nat → Nat) (i : Nat) : Nat → Nat → Nat
  | n, 0 => n
  | n, f + 1 => if 0 < it (i + n) then n else litGo it i (n + 1) f
def litN (it : Nat → Nat) (len i : Nat) : Nat := litGo it i 1 (min 128 (len - i) - 1)
theorem litGo_done {it : Nat → Nat} {i : Nat} : ∀ {f n m : Nat}, n ≤ m → m ≤ n + f → (∀ k, n ≤ k → k < m → it (i + k) = 0) → (m = n + f ∨ 0 < it (i + m)) → litGo it i n f = m
  | 0, n, m, h1, h2, _, _ => by simp [litGo]; omega
  | f + 1, n, m, h1, h2, h3, h4 => by
    unfold litGo
    by_cases e : n = m
    · subst e
      rcases h4 with h4 | h4
      · omega
      · simp [h4]
    · have h0 := h3 n (Nat.le_refl _) (by omega)
      rw [if_neg (by omega)]
      exact litGo_done (by omega) (by omega) (fun k hk hkm => h3 k (by omega) hkm) (by rcases h4 with h4 | h4; exact .inl (by omega); exact .inr h4)
theorem litGo_bound (it : Nat → Nat) (i : Nat) : ∀ (f n : Nat), n ≤ litGo it i n f ∧ litGo it i n f ≤ n + f
  | 0, n => by simp [litGo]
  | f + 1, n => by
    unfold litGo
    split
    · omega
    · have := litGo_bound it i f (n + 1); omega
theorem litN_bound (it : Nat → Nat) {len i : Nat} (h : i < len) : 1 ≤ litN it len i ∧ litN it len i ≤ 128 ∧ i + litN it len i ≤ len := by
  have := litGo_bound it i (min 128 (len - i) - 1) 1
  unfold litN
  omega
/-- items, from a place on -/
def packGo (bs : List UInt8) (it : Nat → Nat) (code : Nat → Nat → List UInt8) : Nat → Nat → List UInt8
  | 0, _ => []
  | f + 1, i => if i < bs.length then (if 0 < it i then code i (it i) ++ packGo bs it code f (i + it i)
      else (UInt8.ofNat (litN it bs.length i - 1) :: (bs.drop i).take (litN it bs.length i)) ++ packGo bs it code f (i + litN it bs.length i)) else []
def packG (bs : List UInt8) (it : Nat → Nat) (code : Nat → Nat → List UInt8) : List UInt8 := packGo bs it code bs.length 0
theorem packGo_end (bs : List UInt8) (it : Nat → Nat) (code : Nat → Nat → List UInt8) {f i : Nat} (h : bs.length ≤ i) : packGo bs it code f i = [] := by
  cases f with
  | zero => rfl
  | succ f => unfold packGo; rw [if_neg (by omega)]
theorem packGo_item {bs : List UInt8} {it : Nat → Nat} {code : Nat → Nat → List UInt8} {f i : Nat} (h : i < bs.length) (hf : bs.length - i ≤ f) (hi : 0 < it i) : ∃ f', packGo bs it code f i = code i (it i) ++ packGo bs it code f' (i + it i) ∧ bs.length - (i + it i) ≤ f' := by
  cases f with
  | zero => omega
  | succ f => exact ⟨f, by rw [packGo, if_pos h, if_pos hi], by omega⟩
theorem packGo_lit {bs : List UInt8} {it : Nat → Nat} {code : Nat → Nat → List UInt8} {f i : Nat} (h : i < bs.length) (hf : bs.length - i ≤ f) (hi : it i = 0) : ∃ f', packGo bs it code f i = (UInt8.ofNat (litN it bs.length i - 1) :: (bs.drop i).take (litN it bs.length i)) ++ packGo bs it code f' (i + litN it bs.length i) ∧ bs.length - (i + litN it bs.length i) ≤ f' := by
  cases f with
  | zero => omega
  | succ f => exact ⟨f, by rw [packGo, if_pos h, if_neg (by omega)], by have := litN_bound it h; omega⟩
/-- the latest earlier place of the same four bytes -/
def four (bs : List UInt8) (i : Nat) : List UInt8 := (bs.drop i).take 4
def metGo (bs : List UInt8) (q : List UInt8) : Nat → Option Nat
  | 0 => none
  | p + 1 => if four bs p = q then some p else metGo bs q p
def metO (bs : List UInt8) (i : Nat) : Option Nat := if i + 4 ≤ bs.length then metGo bs (four bs i) i else none
def metZ (o : Option Nat) : Int := match o with | none => -1 | some p => (p : Int)
theorem metGo_lt {bs q : List UInt8} : ∀ {n p : Nat}, metGo bs q n = some p → p < n ∧ four bs p = q
  | 0, p, h => by simp [metGo] at h
  | n + 1, p, h => by
    unfold metGo at h
    split at h
    · rename_i e
      have : n = p := by simpa using h
      subst this
      exact ⟨by omega, e⟩
    · have := metGo_lt h
      exact ⟨by omega, this.2⟩
def comN : List UInt8 → List UInt8 → Nat
  | x :: a, y :: b => if x = y then comN a b + 1 else 0
  | _, _ => 0
def backN (bs : List UInt8) (i p : Nat) : Nat := min 131 (comN (bs.drop i) (bs.drop p))
def backI (bs : List UInt8) (i : Nat) : Nat := match metO bs i with | none => 0 | some p => backN bs i p
def backC (bs : List UInt8) (i n : Nat) : List UInt8 := match metO bs i with | none => [] | some p => [UInt8.ofNat (n + 124), UInt8.ofNat ((i - p - 1) % 256), UInt8.ofNat ((i - p - 1) / 256 % 256)]
def packRunsB (bs : List UInt8) : List UInt8 := packG bs (runI bs) (runC bs)
def packBackB (bs : List UInt8) : List UInt8 := packG bs (backI bs) (backC bs)
theorem awake1 : packRunsB [97, 97, 97, 98] = [128, 97, 0, 98] := by decide +kernel
theorem awake2 : packBackB [97, 98, 99, 97, 98, 99, 97, 98, 99, 120] = [2, 97, 98, 99, 130, 2, 0, 0, 120] := by decide +kernel
end Go.Proofs.Ytknjnclopiklaab.Kit
