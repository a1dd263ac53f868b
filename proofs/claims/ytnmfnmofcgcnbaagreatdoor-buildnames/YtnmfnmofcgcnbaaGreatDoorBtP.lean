import Derived.Test.YtnmfnmofcgcnbaaGreatDoorBtB
import Derived.RangeFuncNested
import Derived.RangeFuncFrom
import Derived.RangeFuncBound
import Derived.RangeFuncCalls
import Derived.RangeFuncLeaves
import Derived.Shelf.Abstract
import Derived.Shelf.RegionOpen
import Derived.OwnWalkIn
import Derived.TacticsInMore
import Derived.LoopNIn
import Derived.LoopIn
import Derived.Test.YtnmfnmofcgcnbaaGreatDoorBtI
set_option linter.unusedVariables false
set_option linter.unusedSimpArgs false
set_option maxRecDepth 100000
set_option maxHeartbeats 4000000
namespace Go.Proofs.YtnmfnmofcgcnbaaGreatDoor.Bits
open Go.Proofs.YtnmfnmofcgcnbaaGreatDoor.Kit
open Go.RowKit
/-! ### runs -/
def bump (l : List (Nat × Nat)) : List (Nat × Nat) := l.set (l.length - 1) ((l.getD (l.length - 1) (0, 0)).1, (l.getD (l.length - 1) (0, 0)).2 + 1)
theorem bump_snoc (l : List (Nat × Nat)) (a b : Nat) : bump (l ++ [(a, b)]) = l ++ [(a, b + 1)] := by simp [bump]
def rf (f : Nat → Bool) : Nat → List (Nat × Nat)
  | 0 => []
  | n + 1 => if f n = true then (if 0 < n ∧ f (n - 1) = true then bump (rf f n) else rf f n ++ [(n, 1)]) else rf f n
theorem rf_no {f : Nat → Bool} {n : Nat} (h : f n = false) : rf f (n + 1) = rf f n := by simp [rf, h]
theorem rf_new {f : Nat → Bool} {n : Nat} (h : f n = true) (h' : n = 0 ∨ f (n - 1) = false) : rf f (n + 1) = rf f n ++ [(n, 1)] := by
  rw [rf, if_pos h, if_neg]
  rintro ⟨h0, h1⟩
  rcases h' with e | e
  · omega
  · rw [e] at h1; exact absurd h1 (by decide)
theorem rf_bump {f : Nat → Bool} {n : Nat} (h : f n = true) (h0 : 0 < n) (h' : f (n - 1) = true) : rf f (n + 1) = bump (rf f n) := by
  rw [rf, if_pos h, if_pos ⟨h0, h'⟩]
theorem rf_last {f : Nat → Bool} : ∀ {n : Nat}, f n = true → ∃ l a b, rf f (n + 1) = l ++ [(a, b)] ∧ a + b = n + 1 := by
  intro n
  induction n with
  | zero => intro h; exact ⟨[], 0, 1, by rw [rf_new h (.inl rfl)]; rfl, rfl⟩
  | succ n ih =>
    intro h
    cases hp : f n
    · exact ⟨_, _, _, rf_new h (.inr hp), rfl⟩
    · obtain ⟨l, a, b, e, hs⟩ := ih hp
      exact ⟨l, a, b + 1, by rw [rf_bump h (by omega) hp, e, bump_snoc], by omega⟩
def runSum (l : List (Nat × Nat)) : Nat := (l.map Prod.snd).sum
theorem runSum_snoc (l : List (Nat × Nat)) (a b : Nat) : runSum (l ++ [(a, b)]) = runSum l + b := by simp [runSum]
theorem rf_sum (f : Nat → Bool) (n : Nat) : runSum (rf f n) = cn f n := by
  induction n with
  | zero => rfl
  | succ n ih =>
    cases h : f n
    · rw [rf_no h, ih]; simp [cn, h]
    · by_cases h' : 0 < n ∧ f (n - 1) = true
      · obtain ⟨k, rfl⟩ : ∃ k, n = k + 1 := ⟨n - 1, by omega⟩
        obtain ⟨l, a, b, e, _⟩ := rf_last h'.2
        simp only [Nat.add_sub_cancel] at e
        rw [rf_bump h h'.1 h'.2, e, bump_snoc, runSum_snoc]
        rw [e, runSum_snoc] at ih
        simp only [cn, h, Bool.toNat_true] at ih ⊢
        omega
      · have h'' : n = 0 ∨ f (n - 1) = false := by
          by_cases h0 : n = 0
          · exact .inl h0
          · right; cases e : f (n - 1)
            · rfl
            · exact absurd ⟨by omega, e⟩ h'
        rw [rf_new h h'', runSum_snoc, ih]
        simp [cn, h]
theorem rf_len_succ (f : Nat → Bool) (n : Nat) : (rf f n).length ≤ (rf f (n + 1)).length := by
  simp only [rf]
  split
  · split
    · simp [bump]
    · simp
  · exact Nat.le_refl _
theorem rf_len_mono (f : Nat → Bool) {a b : Nat} (h : a ≤ b) : (rf f a).length ≤ (rf f b).length := by
  induction b with
  | zero => rw [show a = 0 by omega]; exact Nat.le_refl _
  | succ n ih =>
    by_cases e : a = n + 1
    · rw [e]; exact Nat.le_refl _
    · exact Nat.le_trans (ih (by omega)) (rf_len_succ f n)
theorem rf_len_le (f : Nat → Bool) (n : Nat) : (rf f n).length ≤ n := by
  induction n with
  | zero => exact Nat.le_refl _
  | succ n ih =>
    simp only [rf]
    split
    · split
      · simp [bump]; omega
      · simp; omega
    · omega
theorem rf_false {f : Nat → Bool} {p : Nat} : ∀ {q : Nat}, p ≤ q → (∀ j, p ≤ j → j < q → f j = false) → rf f q = rf f p := by
  intro q
  induction q with
  | zero => intro h _; rw [show p = 0 by omega]
  | succ q ih =>
    intro h hf
    by_cases e : p = q + 1
    · rw [e]
    · rw [rf_no (hf q (by omega) (by omega)), ih (by omega) fun j h1 h2 => hf j h1 (by omega)]
theorem rf_run {f : Nat → Bool} {p : Nat} (hp : p = 0 ∨ f (p - 1) = false) : ∀ {m : Nat}, 0 < m → (∀ j, p ≤ j → j < p + m → f j = true) → rf f (p + m) = rf f p ++ [(p, m)] := by
  intro m
  induction m with
  | zero => intro h; omega
  | succ m ih =>
    intro _ ht
    by_cases h0 : m = 0
    · subst h0; exact rf_new (ht p (Nat.le_refl _) (by omega)) hp
    · rw [← Nat.add_assoc, rf_bump (ht (p + m) (by omega) (by omega)) (by omega) (ht (p + m - 1) (by omega) (by omega)), ih (by omega) fun j h1 h2 => ht j h1 (by omega), bump_snoc]
theorem bump_append (l t : List (Nat × Nat)) (h : t ≠ []) : bump (l ++ t) = l ++ bump t := by
  obtain ⟨x, y, e⟩ : ∃ x y, t = x ++ [y] := ⟨t.dropLast, t.getLast h, (List.dropLast_concat_getLast h).symm⟩
  obtain ⟨a, b⟩ := y
  rw [e, ← List.append_assoc, bump_snoc, bump_snoc, List.append_assoc]
theorem bump_ne {t : List (Nat × Nat)} (h : t ≠ []) : bump t ≠ [] := by
  intro e
  have := congrArg List.length e
  simp [bump] at this
  exact h this
theorem rf_pre {f : Nat → Bool} {q : Nat} (hq : f q = false) : ∀ {i : Nat}, q ≤ i → ∃ t, rf f i = rf f q ++ t ∧ (q < i → f (i - 1) = true → t ≠ []) := by
  intro i
  induction i with
  | zero => intro h; rw [show q = 0 by omega]; exact ⟨[], by simp, fun h => by omega⟩
  | succ i ih =>
    intro h
    by_cases e : q = i + 1
    · subst e; exact ⟨[], by simp, fun h => by omega⟩
    · obtain ⟨t, ht, hn⟩ := ih (by omega)
      cases hi : f i
      · exact ⟨t, by rw [rf_no hi, ht], fun _ h => by simp [hi] at h⟩
      · have hqi : q ≠ i := by intro e; rw [e, hi] at hq; exact absurd hq (by decide)
        by_cases h' : f (i - 1) = true
        · have hne := hn (by omega) h'
          exact ⟨bump t, by rw [rf_bump hi (by omega) h', ht, bump_append _ _ hne], fun _ _ => bump_ne hne⟩
        · refine ⟨t ++ [(i, 1)], by rw [rf_new hi (.inr (by simpa using h')), ht, List.append_assoc], fun _ _ => by simp⟩
theorem rf_prefix {f : Nat → Bool} {q n : Nat} (h : q ≤ n) (hq : q = n ∨ f q = false) : rf f q <+: rf f n := by
  rcases hq with rfl | hq
  · exact List.prefix_refl _
  · obtain ⟨t, e, _⟩ := rf_pre hq h
    exact ⟨t, e.symm⟩
/-- every run lies among the bits -/
theorem rf_bound {f : Nat → Bool} {n : Nat} : ∀ r ∈ rf f n, r.1 + r.2 ≤ n := by
  induction n with
  | zero => intro r h; simp [rf] at h
  | succ n ih =>
    intro r hr
    cases h : f n
    · rw [rf_no h] at hr; have := ih r hr; omega
    · by_cases h' : 0 < n ∧ f (n - 1) = true
      · obtain ⟨k, rfl⟩ : ∃ k, n = k + 1 := ⟨n - 1, by omega⟩
        obtain ⟨l, a, b, e, hab⟩ := rf_last h'.2
        simp only [Nat.add_sub_cancel] at e hab
        rw [rf_bump h h'.1 h'.2, e, bump_snoc] at hr
        rw [e] at ih
        rcases List.mem_append.1 hr with h1 | h1
        · have := ih r (List.mem_append.2 (.inl h1)); omega
        · simp at h1; subst h1; simp; omega
      · have h'' : n = 0 ∨ f (n - 1) = false := by
          by_cases h0 : n = 0
          · exact .inl h0
          · right; cases e : f (n - 1)
            · rfl
            · exact absurd ⟨by omega, e⟩ h'
        rw [rf_new h h''] at hr
        rcases List.mem_append.1 hr with h1 | h1
        · have := ih r h1; omega
        · simp at h1; subst h1; simp; 
/-- what a prefix of the runs says of places -/
theorem rf_place {f : Nat → Bool} : ∀ {n : Nat} {pre : List (Nat × Nat)} {a b : Nat}, pre ++ [(a, b)] <+: rf f n → ∀ j, j < b → a + j < n ∧ f (a + j) = true ∧ cn f (a + j) = runSum pre + j := by
  intro n
  induction n with
  | zero => intro pre a b h; simp [rf] at h
  | succ n ih =>
    intro pre a b hp j hj
    cases h : f n
    · rw [rf_no h] at hp
      have := ih hp j hj
      exact ⟨by omega, this.2⟩
    · by_cases h' : 0 < n ∧ f (n - 1) = true
      · obtain ⟨k, rfl⟩ : ∃ k, n = k + 1 := ⟨n - 1, by omega⟩
        obtain ⟨l, a', b', e, hab⟩ := rf_last h'.2
        simp only [Nat.add_sub_cancel] at e hab
        rw [rf_bump h h'.1 h'.2, e, bump_snoc] at hp
        rw [e] at ih
        rcases List.prefix_concat_iff.1 hp with h1 | h1
        · have h2 := List.append_inj' h1 rfl
          simp at h2
          obtain ⟨rfl, rfl, rfl⟩ := h2
          by_cases hj' : j < b'
          · have := ih (List.prefix_refl _) j hj'
            exact ⟨by omega, this.2⟩
          · have hjb : a + j = k + 1 := by omega
            have hs := rf_sum f (k + 1)
            rw [e, runSum_snoc] at hs
            refine ⟨by omega, by rw [hjb]; exact h, ?_⟩
            rw [hjb, ← hs]; omega
        · have := ih (h1.trans (List.prefix_append _ _)) j hj
          exact ⟨by omega, this.2⟩
      · have h'' : n = 0 ∨ f (n - 1) = false := by
          by_cases h0 : n = 0
          · exact .inl h0
          · right; cases e : f (n - 1)
            · rfl
            · exact absurd ⟨by omega, e⟩ h'
        rw [rf_new h h''] at hp
        rcases List.prefix_concat_iff.1 hp with h1 | h1
        · have h2 := List.append_inj' h1 rfl
          simp at h2
          obtain ⟨rfl, rfl, rfl⟩ := h2
          have hj0 : j = 0 := by omega
          subst hj0
          exact ⟨by omega, by simpa using h, by simpa using (rf_sum f a).symm⟩
        · have := ih h1 j hj
          exact ⟨by omega, this.2⟩
/-- the cells of runs -/
def runCells (l : List (Nat × Nat)) : List Value := l.flatMap fun r => [.int .i64 r.1, .int .i64 r.2]
theorem runCells_snoc (l : List (Nat × Nat)) (r : Nat × Nat) : runCells (l ++ [r]) = runCells l ++ [.int .i64 r.1, .int .i64 r.2] := by simp [runCells]
theorem runCells_length (l : List (Nat × Nat)) : (runCells l).length = l.length * 2 := by
  induction l with
  | nil => rfl
  | cons a l ih => simp [runCells] at ih ⊢; omega
theorem runCells_get (l : List (Nat × Nat)) (i : Nat) (h : i < l.length) : (runCells l)[2 * i]? = some (.int .i64 (l.getD i (0, 0)).1) ∧ (runCells l)[2 * i + 1]? = some (.int .i64 (l.getD i (0, 0)).2) := by
  induction l generalizing i with
  | nil => simp at h
  | cons a l ih =>
    cases i with
    | zero => simp [runCells]
    | succ i =>
      have := ih i (by simpa using h)
      simp only [runCells, List.flatMap_cons] at this ⊢
      rw [show 2 * (i + 1) = 2 * i + 2 by omega, show 2 * i + 2 + 1 = 2 * i + 1 + 2 by omega]
      simpa using this
theorem runCells_bump (l : List (Nat × Nat)) (h : l ≠ []) : runCells (bump l) = (runCells l).set (2 * (l.length - 1) + 1) (.int .i64 (((l.getD (l.length - 1) (0, 0)).2 + 1 : Nat) : Int)) := by
  obtain ⟨x, y, rfl⟩ : ∃ x y, l = x ++ [y] := ⟨l.dropLast, l.getLast h, (List.dropLast_concat_getLast h).symm⟩
  obtain ⟨a, b⟩ := y
  have hl := runCells_length x
  rw [bump_snoc, runCells_snoc, runCells_snoc, List.set_append_right _ _ (by simp; omega)]
  simp only [List.length_append, List.length_cons, List.length_nil, Nat.add_sub_cancel, hl]
  rw [show 2 * x.length + 1 - x.length * 2 = 1 by omega]
  simp
end Go.Proofs.YtnmfnmofcgcnbaaGreatDoor.Bits
namespace Go.Proofs.YtnmfnmofcgcnbaaGreatDoor.Bits
open Go.Proofs.YtnmfnmofcgcnbaaGreatDoor.Kit
open Go.RowKit Go.Shelf Go.Deep
attribute [local go_sem] Oper.semAt_some

/-- what the iterator reads -/
def KpOf (S : Nat → Prop) (W W' : World) : Prop := ∀ b, S b → W'.heap[b]? = W.heap[b]?
def encR (x : Nat × Nat) : Array Value := #[.int .i64 (min x.1 1000000000 : Nat), .int .i64 (min x.2 1000000000 : Nat)]
structure Held (W : World) (b1 b2 b3 : Nat) (ao : Option Addr) (ca : Nat) (kl : List Nat) (first e : Nat) : Prop where
  tab : Tab W
  c1 : W.cell? ⟨b1, 0, none⟩ = some (.slice ao kl.length ca)
  c2 : W.cell? ⟨b2, 0, none⟩ = some (.int .i64 (first : Int))
  c3 : W.cell? ⟨b3, 0, none⟩ = some (.int .i64 (e : Int))
  bytes : BytesAt W ao kl
def HeldS (b1 b2 b3 : Nat) (ao : Option Addr) (b : Nat) : Prop := b = 3 ∨ b = b1 ∨ b = b2 ∨ b = b3 ∨ ao.map (·.block) = some b
theorem Held.kept {W W' : World} {b1 b2 b3 : Nat} {ao : Option Addr} {ca : Nat} {kl : List Nat} {first e : Nat} (h : Held W b1 b2 b3 ao ca kl first e) (k : KpOf (HeldS b1 b2 b3 ao) W W') : Held W' b1 b2 b3 ao ca kl first e := by
  refine ⟨fun j hj => ?_, ?_, ?_, ?_, fun hn => ?_⟩
  · rw [World.cell?_of_block (w := W) (k 3 (.inl rfl))]; exact h.tab j hj
  · rw [World.cell?_of_block (w := W) (k b1 (.inr (.inl rfl)))]; exact h.c1
  · rw [World.cell?_of_block (w := W) (k b2 (.inr (.inr (.inl rfl))))]; exact h.c2
  · rw [World.cell?_of_block (w := W) (k b3 (.inr (.inr (.inr (.inl rfl)))))]; exact h.c3
  · obtain ⟨b, off, rfl, hc⟩ := h.bytes hn
    exact ⟨b, off, rfl, fun j hj => by rw [World.cell?_of_block (w := W) (k b (.inr (.inr (.inr (.inr rfl)))))]; exact hc j hj⟩
theorem Held.drewN {W : World} {b1 b2 b3 : Nat} {ao : Option Addr} {ca : Nat} {kl : List Nat} {first e : Nat} (h : Held W b1 b2 b3 ao ca kl first e) (q : Nat) : Held (W.drewN q) b1 b2 b3 ao ca kl first e := ⟨h.tab, h.c1, h.c2, h.c3, h.bytes⟩
theorem grown_drewN (W : World) (q : Nat) : W.grownBy (W.drewN q) none := ⟨rfl, rfl, rfl, Nat.le_refl _, fun _ _ _ => rfl⟩

theorem find_from (ao : Option Addr) (ca : Nat) (kl : List Nat) (hl : Bytes kl) (hlen : kl.length ≤ 10000000) (first m : Nat) (he : first + m ≤ 8 * kl.length) (A : Nat) (h1 : first ≤ A) (h2 : A ≤ first + m) (on : Bool) (w : World) (hT : Tab w) (hb : BytesAt w ao kl) :
    Calls Tryz.prog 134 #[.slice ao kl.length ca, .int .i64 A, .int .i64 (first + m : Nat), .bool on] w fun x w' => ∃ B : Nat, x = .returned (.int .i64 B) ∧ Hid (B = first + fnd (fun k => bitAt kl (first + k)) on m (A - first)) ∧ ∃ q, w' = w.drewN q := by
  refine (find_any ao ca kl hl (by omega) A (first + m) on h2 he w hT hb).mono ?_
  rintro e w' ⟨rfl, q, rfl⟩
  refine ⟨_, rfl, ?_, q, rfl⟩
  show _ = _
  rw [← fnd_shift, show first + (A - first) = A by omega]

theorem runs1_in (n : Nat) (hn : 1 ≤ n) (l b1 b2 b3 : Nat) (ao : Option Addr) (ca : Nat) (kl : List Nat) (hl : Bytes kl) (hlen : kl.length ≤ 10000000) (first m : Nat) (he : first + m ≤ 8 * kl.length) (J Jx : List (Nat × Nat) → World → Prop)
    (hA : ∀ pre W q, J pre W → J pre (W.drewN q)) (hAx : ∀ pre W q, Jx pre W → Jx pre (W.drewN q))
    (hY : ∀ pre x W, J pre W → pre.length < (rf (fun k => bitAt kl (first + k)) m).length → YieldAt Fence.wide (n - 1) Tryz.prog l (encR x) W fun e W' =>
      (e = .returned (.bool true) ∧ J (pre ++ [x]) W' ∧ KpOf (HeldS b1 b2 b3 ao) W W') ∨ (e = .returned (.bool false) ∧ Jx (pre ++ [x]) W'))
    (W : World) (hH : Held W b1 b2 b3 ao ca kl first (first + m)) (h0 : J [] W) :
    CallsIn Fence.wide n Tryz.prog 133 #[.func (.yield l) #[] #[], .pointer (some ⟨b1, 0, none⟩), .pointer (some ⟨b2, 0, none⟩), .pointer (some ⟨b3, 0, none⟩)] W fun e W' => (∃ v, e = .returned v) ∧
      ((∃ ys, ys = rf (fun k => bitAt kl (first + k)) m ∧ J ys W') ∨ (∃ pre, pre <+: rf (fun k => bitAt kl (first + k)) m ∧ Jx pre W')) := by
  have HH : Hid (Held W b1 b2 b3 ao ca kl first (first + m)) := hH
  have h1 := hH.c1
  have h2 := hH.c2
  have h3 := hH.c3
  obtain ⟨en, hen⟩ : ∃ en, en = first + m := ⟨_, rfl⟩
  have HE : Hid (first + m = en) := hen.symm
  have hff : ∀ A, first ≤ A → A ≤ en → ∀ on w, Tab w → BytesAt w ao kl → Calls Tryz.prog 134 #[.slice ao kl.length ca, .int .i64 A, .int .i64 (en : Int), .bool on] w fun x w' => ∃ B : Nat, x = .returned (.int .i64 B) ∧ Hid (B = first + fnd (fun k => bitAt kl (first + k)) on m (A - first)) ∧ ∃ q, w' = w.drewN q := by
    rw [hen]; exact fun A h1 h2 on w hT hb => find_from ao ca kl hl hlen first m he A h1 h2 on w hT hb
  have HFF : Hid _ := hff
  obtain ⟨f, HF⟩ : ∃ f : Nat → Bool, f = fun k => bitAt kl (first + k) := ⟨_, rfl⟩
  rw [← HF] at HFF hY ⊢
  rw [← hen] at h3 HH
  have hen2 : first ≤ en := by omega
  have hen3 : en ≤ 100000000 := by omega
  clear hH hen HF hff
  refine callsIn_of_wp Tryz.func133 rfl trivial ?_ rfl
  simp only [Tryz.ntmps133, List.size_toArray, List.length_cons, List.length_nil, Nat.reduceAdd, Nat.reduceSub, Array.replicate_succ, Array.replicate_zero, List.push_toArray, List.append_toArray, List.nil_append, List.cons_append]
  gi_wp2_with fail
  refine ⟨trivial, ?_⟩
  gi_at_call 134
  refine (callsIn_wide.2 (HFF.out first (by omega) (by omega) true _ HH.out.tab HH.out.bytes)).mono ?_
  rintro e w' ⟨A0, rfl, HA0, q, rfl⟩
  have HR0 : Hid (A0 = first + fnd f true m 0) := by have := HA0.out; rw [Nat.sub_self] at this; exact this
  have HJ0 : Hid (J [] (W.drewN q)) := hA _ _ _ h0
  have HW0 : Hid (Held (W.drewN q) b1 b2 b3 ao ca kl first en) := HH.out.drewN q
  clear HA0 HH h0 h1 h2 h3
  gi_wp2
  gi_loopw [5] (fun p wr => ∃ A : Nat, first ≤ A ∧ A ≤ en ∧ p = .int .i64 A ∧ Hid ((A < en → f (A - first) = true) ∧ (A = first ∨ A = en ∨ f (A - first - 1) = false) ∧ J (rf f (A - first)) wr ∧ Held wr b1 b2 b3 ao ca kl first en)) (fun p _ => en - (intOf p).toNat)
  case atStart =>
    have hle := @fnd_le f true m 0
    have e1 := HE.out
    have e2 := HR0.out
    refine ⟨A0, by omega, by omega, rfl, fun hlt => ?_, ?_, ?_, HW0.out⟩
    · rw [e2, Nat.add_sub_cancel_left]; exact fnd_at (by omega)
    · by_cases hz : fnd f true m 0 = 0
      · left; omega
      · right; right
        rw [e2, Nat.add_sub_cancel_left]
        exact fnd_ahead (on := true) (e := m) (Nat.zero_le _) (by omega)
    · have e3 : rf f (A0 - first) = [] := by
        rw [e2, Nat.add_sub_cancel_left]
        exact rf_false (p := 0) (Nat.zero_le _) fun j h1 h2 => fnd_ahead (on := true) (e := m) h1 h2
      rw [e3]; exact HJ0.out
  case round =>
    clear HR0 HJ0 HW0
    obtain ⟨A, hA1, hA2, rfl, HD⟩ := hrel
    have h1 := HD.out.2.2.2.c1
    have h2 := HD.out.2.2.2.c2
    have h3 := HD.out.2.2.2.c3
    by_cases hlt : A < en
    · gi_wp2_with fail
      refine ⟨trivial, ?_⟩
      gi_at_call 134
      refine (callsIn_wide.2 (HFF.out A hA1 hA2 false _ HD.out.2.2.2.tab HD.out.2.2.2.bytes)).mono ?_
      rintro e w' ⟨B, rfl, HB, q1, rfl⟩
      have hle := @fnd_le f false m (A - first)
      have e1 := HE.out
      have e2 := HB.out
      have hge := @fnd_ge f false m (A - first) (by omega)
      have hfA := HD.out.1 hlt
      have hne : A - first ≠ fnd f false m (A - first) := by
        intro e
        have := fnd_at (f := f) (on := false) (e := m) (a := A - first) (by omega)
        rw [← e, hfA] at this
        exact absurd this (by decide)
      have hAB : A < B := by omega
      have hBe : B ≤ en := by omega
      have hrun : rf f (B - first) = rf f (A - first) ++ [(A - first, B - A)] := by
        have hp : A - first = 0 ∨ f (A - first - 1) = false := by
          rcases HD.out.2.1 with e | e | e
          · left; omega
          · omega
          · exact .inr e
        have := rf_run (f := f) hp (m := B - A) (by omega) fun j h1 h2 => by
          have := fnd_ahead (f := f) (on := false) (e := m) h1 (show j < fnd f false m (A - first) by omega)
          simpa using this
        rw [show A - first + (B - A) = B - first by omega] at this
        exact this
      have hBq : B - first = m ∨ f (B - first) = false := by
        by_cases hbe : B - first = m
        · exact .inl hbe
        · right
          have := fnd_at (f := f) (on := false) (e := m) (a := A - first) (by omega)
          rwa [show fnd f false m (A - first) = B - first by omega] at this
      have hlenp : (rf f (A - first)).length < (rf f m).length := by
        have := rf_len_mono f (show B - first ≤ m by omega)
        rw [hrun] at this
        simp at this
        omega
      obtain ⟨fn, tmps, assign, body, hy, hR⟩ := hY _ (A - first, B - A) (wr.drewN q1) (hA _ _ _ HD.out.2.2.1) hlenp
      have hE : encR (A - first, B - A) = #[.int .i64 ((A : Int) - first), .int .i64 ((B : Int) - A)] := by
        simp only [encR]
        rw [show ((min (A - first) 1000000000 : Nat) : Int) = (A : Int) - first by omega, show ((min (B - A) 1000000000 : Nat) : Int) = (B : Int) - A by omega]
      rw [hE] at hy
      have HF2 : Hid (rf f (B - first) = rf f (A - first) ++ [(A - first, B - A)] ∧ (B - first = m ∨ f (B - first) = false)) := ⟨hrun, hBq⟩
      have HW : Hid (Held (wr.drewN q1) b1 b2 b3 ao ca kl first en) := HD.out.2.2.2.drewN q1
      clear hle e1 e2 hge hfA hne hrun hBq hlenp hE HD HB
      gi_wp2
      refine hR.mono ?_
      rintro e W3 (⟨rfl, hJ3, hk3⟩ | ⟨rfl, hJx3⟩)
      · have HJ3 : Hid (J (rf f (B - first)) W3) := by show J _ _; rw [HF2.out.1]; exact hJ3
        have HW3 : Hid (Held W3 b1 b2 b3 ao ca kl first en) := HW.out.kept hk3
        have g1 := HW3.out.c1
        have g3 := HW3.out.c3
        clear hJ3 hk3 hR hy HW h1 h2 h3
        gi_wp2_with fail
        refine ⟨trivial, ?_⟩
        gi_at_call 134
        refine (callsIn_wide.2 (HFF.out B (by omega) hBe true _ HW3.out.tab HW3.out.bytes)).mono ?_
        rintro e w' ⟨A2, rfl, HA2, q2, rfl⟩
        have hle2 := @fnd_le f true m (B - first)
        have hge2 := @fnd_ge f true m (B - first) (by have := HE.out; omega)
        have hA2e := HA2.out
        have hE2 := HE.out
        have hb1 : B ≤ A2 := by omega
        have hb2 : A2 ≤ en := by omega
        have HD2 : Hid ((A2 < en → f (A2 - first) = true) ∧ (A2 = first ∨ A2 = en ∨ f (A2 - first - 1) = false) ∧ J (rf f (A2 - first)) (W3.drewN q2) ∧ Held (W3.drewN q2) b1 b2 b3 ao ca kl first en) := by
          refine ⟨fun h => ?_, ?_, ?_, HW3.out.drewN q2⟩
          · have := fnd_at (f := f) (on := true) (e := m) (a := B - first) (by omega)
            rwa [show fnd f true m (B - first) = A2 - first by omega] at this
          · by_cases hx : A2 = en
            · exact .inr (.inl hx)
            · right; right
              by_cases hy' : A2 = B
              · exfalso
                have h5 := fnd_at (f := f) (on := true) (e := m) (a := B - first) (by omega)
                rw [show fnd f true m (B - first) = B - first by omega] at h5
                rcases HF2.out.2 with h6 | h6
                · omega
                · rw [h6] at h5; exact absurd h5 (by decide)
              · exact fnd_ahead (f := f) (on := true) (e := m) (a := B - first) (by omega) (by omega)
          · have h7 : rf f (A2 - first) = rf f (B - first) := rf_false (by omega) fun j h1 h2 => fnd_ahead (f := f) (on := true) (e := m) (a := B - first) h1 (by omega)
            rw [h7]
            exact hA _ _ _ HJ3.out
        clear hle2 hge2 hA2e hE2 HA2 HJ3 HW3 g1 g3 HF2
        gi_wp2
        go_roundw
        case rel => exact ⟨A2, by omega, by omega, rfl, HD2⟩
        case measure => simp [intOf]; omega
      · have HX : Hid (∃ pre, pre <+: rf f m ∧ Jx pre W3) := ⟨rf f (B - first), rf_prefix (by have := HE.out; omega) HF2.out.2, by rw [HF2.out.1]; exact hJx3⟩
        clear hJx3 hR hy HW h1 h2 h3 HF2
        gi_wp2
        refine bodyPost_ret (results_none rfl _ _ _) rfl ?_
        exact ⟨⟨_, rfl⟩, .inr HX.out⟩
    · have hAe : A = en := by omega
      have HX : Hid (∃ ys, ys = rf f m ∧ J ys wr) := ⟨rf f (A - first), by rw [show A - first = m by have := HE.out; omega], HD.out.2.2.1⟩
      clear HD
      gi_wp2
      go_end0
      exact ⟨⟨_, rfl⟩, .inl HX.out⟩
end Go.Proofs.YtnmfnmofcgcnbaaGreatDoor.Bits
namespace Go.Proofs.YtnmfnmofcgcnbaaGreatDoor.Bits
open Go.Proofs.YtnmfnmofcgcnbaaGreatDoor.Kit
open Go.RowKit Go.Shelf Go.Deep
attribute [local go_sem] Oper.semAt_some

theorem Held.below {w W : World} {b1 b2 b3 : Nat} {ao : Option Addr} {ca : Nat} {kl : List Nat} {first e : Nat} (h : Held w b1 b2 b3 ao ca kl first e) (k : Below w.heap.size w W) : Held W b1 b2 b3 ao ca kl first e := by
  have hk : ∀ (p : Addr) (v : Value), w.cell? p = some v → W.cell? p = some v := fun p v h => (k.cell (p := p) (block_lt_of_cell h)).trans h
  refine ⟨fun j hj => hk _ _ (h.tab j hj), hk _ _ h.c1, hk _ _ h.c2, hk _ _ h.c3, fun hn => ?_⟩
  obtain ⟨b, off, rfl, hc⟩ := h.bytes hn
  exact ⟨b, off, rfl, fun j hj => hk _ _ (hc j hj)⟩

theorem runs_stops (n : Nat) (hn : 1 ≤ n) (b1 b2 b3 : Nat) (ao : Option Addr) (ca : Nat) (kl : List Nat) (hl : Bytes kl) (hlen : kl.length ≤ 10000000) (first m : Nat) (he : first + m ≤ 8 * kl.length) (w : World) (hH : Held w b1 b2 b3 ao ca kl first (first + m)) :
    SeqStopsK Fence.wide n Tryz.prog 133 #[.pointer (some ⟨b1, 0, none⟩), .pointer (some ⟨b2, 0, none⟩), .pointer (some ⟨b3, 0, none⟩)] encR (KpOf (HeldS b1 b2 b3 ao))
      (fun xs => xs = rf (fun k => bitAt kl (first + k)) m) (fun pre => pre <+: rf (fun k => bitAt kl (first + k)) m) (rf (fun k => bitAt kl (first + k)) m).length w :=
  fun l J Jx W hW hJ hJx hY h0 =>
    runs1_in n hn l b1 b2 b3 ao ca kl hl hlen first m he J Jx (fun pre W q h => hJ pre W _ none h (grown_drewN W q) (fun r e => by cases e)) (fun pre W q h => hJx pre W _ none h (grown_drewN W q) (fun r e => by cases e)) hY W (hH.below hW) h0

theorem empty1_in (n : Nat) (hn : 1 ≤ n) (l : Nat) (W : World) :
    CallsIn Fence.wide n Tryz.prog 131 #[.func (.yield l) #[] #[]] W fun e W' => (∃ v, e = .returned v) ∧ W' = W := by
  refine callsIn_of_wp Tryz.func131 rfl trivial ?_ rfl
  simp only [Tryz.ntmps131, List.size_toArray, List.length_cons, List.length_nil, Nat.reduceAdd, Nat.reduceSub, Array.replicate_succ, Array.replicate_zero, List.push_toArray, List.append_toArray, List.nil_append, List.cons_append]
  gi_wp2
  go_end0
  exact ⟨⟨_, rfl⟩, rfl⟩
theorem empty_stops (n : Nat) (hn : 1 ≤ n) (Kp : World → World → Prop) (w : World) :
    SeqStopsK Fence.wide n Tryz.prog 131 #[] encR Kp (fun xs => xs = []) (fun _ => False) 0 w :=
  fun l J Jx W hW hJ hJx hY h0 => (empty1_in n hn l W).mono fun e W' ⟨hv, hw⟩ => ⟨hv, .inl ⟨[], rfl, by rw [hw]; exact h0⟩⟩

/-! ### slices.Clone, Runs -/
theorem src_bytes (w : World) (ao : Option Addr) (c : Nat) (l : List Nat) (hb : BytesAt w ao l) (t : Nat) (cs : Array Value) :
    Src Tryz.prog 1 38 (.slice ao l.length c) l.length (l.map fun x : Nat => .int .u8 x) (w.alloc (.cells cs t)) := by
  cases ao with
  | none =>
    have h0 : l = [] := by
      by_cases h : 0 < l.length
      · obtain ⟨b, off, e, _⟩ := hb h; cases e
      · exact List.eq_nil_of_length_eq_zero (by omega)
    subst h0
    exact Src.ofNil _ Tryz.underlying38 c
  | some ad =>
    refine Src.ofSlice _ Tryz.underlying38 _ _ _ _ (by simp) ?_ (by intro u hu; obtain ⟨x, _, rfl⟩ := List.mem_map.1 hu; rfl)
    intro j v hj
    have hjl : j < l.length := by have := (List.getElem?_eq_some_iff.1 hj).1; simpa using this
    obtain ⟨b', off', e, hc⟩ := hb (by omega)
    simp only [Option.some.injEq] at e
    subst e
    have h1 := (Keeps.none_alloc w (.cells cs t)).cell' (hc j hjl) id
    simp only [List.getElem?_map, List.getElem?_eq_getElem hjl, Option.map_some, Option.some.injEq] at hj
    subst hj
    rw [Addr.add_lit, h1]
    simp [List.getElem?_eq_getElem hjl]

theorem clone_any (ao : Option Addr) (c : Nat) (l : List Nat) (hlen : l.length ≤ 10000000) (w : World) (hb : BytesAt w ao l) :
    Calls Tryz.prog 132 #[.slice ao l.length c] w fun e w' => ∃ v, e = .returned v ∧ New w w' 5 v (l.map fun x : Nat => .int .u8 x) := by
  have HS : Hid (∀ t cs, Src Tryz.prog 1 38 (.slice ao l.length c) l.length (l.map fun x : Nat => .int .u8 x) (w.alloc (.cells cs t))) := fun t cs => src_bytes w ao c l hb t cs
  cases ao with
  | none =>
    have h0 : l = [] := by
      by_cases h : 0 < l.length
      · obtain ⟨b, off, e, _⟩ := hb h; cases e
      · exact List.eq_nil_of_length_eq_zero (by omega)
    subst h0
    clear hb HS
    have hq : ∀ w, (binOp .eql 38 (.slice none 0 c) (.slice none 0 0)).run Tryz.prog w = .ok (.bool true) w := fun w => by kernel_rfl
    go_enter Tryz.func132, Tryz.ntmps132
    go_wp2
    go_ret
    exact ⟨_, rfl, New.nil w 5⟩
  | some ad =>
    clear hb
    have hq : ∀ w, (binOp .eql 38 (.slice (some ad) l.length c) (.slice none 0 0)).run Tryz.prog w = .ok (.bool false) w := fun w => by kernel_rfl
    go_enter Tryz.func132, Tryz.ntmps132
    go_wp2_with (first | (at_builtin; refine wpList_append_any _ rfl (.tmp 5) (.tmp 6) 38 38 rfl 5 (.int .u8 0) 1 Tryz.underlying38 info5 rfl _ _ _ rfl ((New.empty w 5).own rfl) _ _ _ rfl (HS.out _ _) ?h63 ?hby ?_))
    case h63 => simp; omega
    case hby => simp; omega
    intro v' w1 hown' hgrow hblk
    obtain ⟨ao', cap', rfl⟩ := own_form hown'
    have HN : Hid (New w w1 5 (.slice ao' l.length cap') (l.map fun x : Nat => .int .u8 x)) := (New.empty w 5).step (n' := l.length) (Keeps.refl _ _) hown' (by simp) hgrow (by simpa using hblk)
    clear hown' hgrow hblk
    go_wp2
    go_ret
    exact ⟨_, rfl, HN.out⟩

theorem rf_congr {f g : Nat → Bool} : ∀ {n : Nat}, (∀ i, i < n → f i = g i) → rf f n = rf g n := by
  intro n
  induction n with
  | zero => intro _; rfl
  | succ n ih =>
    intro h
    have e1 := h n (by omega)
    have e2 : 0 < n → f (n - 1) = g (n - 1) := fun h0 => h _ (by omega)
    simp only [rf, ih fun i hi => h i (by omega), e1]
    by_cases h0 : 0 < n
    · rw [e2 h0]
    · simp [h0]
theorem cn_congr {f g : Nat → Bool} : ∀ {n : Nat}, (∀ i, i < n → f i = g i) → cn f n = cn g n := by
  intro n
  induction n with
  | zero => intro _; rfl
  | succ n ih => intro h; simp only [cn, ih fun i hi => h i (by omega), h n (by omega)]

/-- the value that Runs hands back -/
def Iter (w w' : World) (v : Value) (f : Nat → Bool) (m : Nat) : Prop :=
  ∃ b1 b2 b3 ao ca kl first, v = .func (.func 133) #[] #[.pointer (some ⟨b1, 0, none⟩), .pointer (some ⟨b2, 0, none⟩), .pointer (some ⟨b3, 0, none⟩)] ∧
    Bytes kl ∧ kl.length ≤ 10000000 ∧ first + m ≤ 8 * kl.length ∧ Held w' b1 b2 b3 ao ca kl first (first + m) ∧ (∀ k, k < m → bitAt kl (first + k) = f k) ∧ Keeps w w' (fun _ => False) ∧
    (∀ b, HeldS b1 b2 b3 ao b → b = 3 ∨ (w.heap.size ≤ b ∧ b < w'.heap.size))

theorem sub_bit (l : List Nat) (fr m k : Nat) (hk : k < m) (h : fr + m ≤ 8 * l.length) : bitAt ((l.drop (fr / 8)).take (need (fr + m) - fr / 8)) (fr % 8 + k) = bitAt l (fr + k) := by
  unfold bitAt
  have h1 : (fr % 8 + k) / 8 < need (fr + m) - fr / 8 := by unfold need; omega
  rw [show (fr % 8 + k) % 8 = (fr + k) % 8 by omega]
  congr 1
  simp only [List.getD_eq_getElem?_getD, List.getElem?_take, h1, if_true, List.getElem?_drop]
  rw [show fr / 8 + (fr % 8 + k) / 8 = (fr + k) / 8 by omega]
theorem sub_bytes {l : List Nat} (hl : Bytes l) (a n : Nat) : Bytes ((l.drop a).take n) := fun x hx => hl x (List.mem_of_mem_drop (List.mem_of_mem_take hx))
theorem sub_at {w : World} {b off : Nat} {l : List Nat} (hb : BytesAt w (some ⟨b, off, none⟩) l) (a n : Nat) (h : a + n ≤ l.length) : BytesAt w (some ⟨b, off + a, none⟩) ((l.drop a).take n) := by
  intro hn
  have hlen : ((l.drop a).take n).length = n := by rw [List.length_take, List.length_drop]; omega
  rw [hlen] at hn
  obtain ⟨b', off', e, hc⟩ := hb (by omega)
  simp only [Option.some.injEq, Addr.mk.injEq, and_true] at e
  obtain ⟨rfl, rfl⟩ := e
  refine ⟨b, off + a, rfl, fun k hk => ?_⟩
  rw [hlen] at hk
  rw [Nat.add_assoc, hc (a + k) (by omega)]
  simp [List.getD, hk]
theorem New.bytes {w w' : World} {v : Value} {l : List Nat} (h : New w w' 5 v (l.map fun x : Nat => .int .u8 x)) : ∃ ao cap, v = .slice ao l.length cap ∧ BytesAt w' ao l ∧ (∀ b, ao.map (·.block) = some b → w.heap.size ≤ b ∧ b < w'.heap.size) ∧ (ao = none ∨ ∃ b off, ao = some ⟨b, off, none⟩) ∧ l.length ≤ cap ∧ cap ≤ maxLen := by
  have h1 := h.own (show (l.map fun x : Nat => Value.int .u8 x).length = l.length by simp)
  rcases h1.2 with ⟨rfl, h0⟩ | ⟨g, cap, cur, rfl, _, hgg, hc1, hc2, _⟩
  · exact ⟨none, 0, by rw [h0], fun hn => by omega, fun b hb => by simp at hb, .inl rfl, by omega, by simp [maxLen]⟩
  · refine ⟨_, cap, rfl, fun hn => ⟨g, 0, rfl, fun k hk => ?_⟩, fun b hb => ?_, .inr ⟨g, 0, rfl⟩, hc1, hc2⟩
    · rw [Nat.zero_add, h1.cellAt k (by omega)]
      simp [hk]
    · simp at hb; subst hb
      exact ⟨h.2.1 g rfl, (Array.getElem?_eq_some_iff.1 hgg).1⟩

theorem cellNew (W : World) (v : Value) (t : TypeId) : (W.alloc (.cells #[v] t)).cell? ⟨W.heap.size, 0, none⟩ = some v ∧ (W.alloc (.cells #[v] t)).frozen? ⟨W.heap.size, 0, none⟩ = false := by
  have h := heap_alloc_new W (.cells #[v] t)
  exact ⟨by rw [cell_of_row _ _ 0 _ _ _ h]; rfl, frozen_of_row _ _ 0 _ _ h⟩
theorem cellAlloc {W : World} {a : Addr} {v : Value} (o : Obj) (h : W.cell? a = some v) : (W.alloc o).cell? a = some v := (Keeps.none_alloc W o).cell' h id
theorem Iter.mk' {w w1 : World} {ao : Option Addr} {cap : Nat} {kl : List Nat} {first m : Nat} {f : Nat → Bool} (hT : Tab w) (hN : New w w1 5 (.slice ao kl.length cap) (kl.map fun x : Nat => .int .u8 x)) (hkl : Bytes kl) (hlen : kl.length ≤ 10000000) (he : first + m ≤ 8 * kl.length) (hf : ∀ k, k < m → bitAt kl (first + k) = f k) :
    Iter w (((w1.alloc (.cells #[.slice ao kl.length cap] 38)).alloc (.cells #[.int .i64 (first : Int)] 3)).alloc (.cells #[.int .i64 (((first + m : Nat)) : Int)] 3))
      (.func (.func 133) #[] #[.pointer (some ⟨w1.heap.size, 0, none⟩), .pointer (some ⟨w1.heap.size + 1, 0, none⟩), .pointer (some ⟨w1.heap.size + 1 + 1, 0, none⟩)]) f m := by
  obtain ⟨ao', cap', he', hB, hin, _⟩ := hN.bytes
  simp only [Value.slice.injEq, true_and] at he'
  obtain ⟨rfl, rfl⟩ := he'
  have hk : Keeps w1 (((w1.alloc (.cells #[.slice ao kl.length cap] 38)).alloc (.cells #[.int .i64 (first : Int)] 3)).alloc (.cells #[.int .i64 (((first + m : Nat)) : Int)] 3)) (fun _ => False) := (((Keeps.refl _ _).alloc _).alloc _).alloc _
  have hsz := hN.2.2.size
  refine ⟨_, _, _, ao, cap, kl, first, rfl, hkl, hlen, he, ⟨(hT.kept hN.2.2 id).kept hk id, ?_, ?_, ?_, hB.kept0 hk⟩, hf, hN.2.2.trans hk fun _ _ h => h, fun b hb => ?_⟩
  · have := cellNew w1 (.slice ao kl.length cap) 38
    exact cellAlloc _ (cellAlloc _ this.1)
  · have := cellNew (w1.alloc (.cells #[.slice ao kl.length cap] 38)) (.int .i64 (first : Int)) 3
    rw [World.size_alloc] at this
    exact cellAlloc _ this.1
  · have := cellNew ((w1.alloc (.cells #[.slice ao kl.length cap] 38)).alloc (.cells #[.int .i64 (first : Int)] 3)) (.int .i64 (((first + m : Nat)) : Int)) 3
    rw [World.size_alloc, World.size_alloc] at this
    exact this.1
  · rcases hb with rfl | rfl | rfl | rfl | hb
    · exact .inl rfl
    · right; simp; omega
    · right; simp; omega
    · right; simp; omega
    · right; have := hin b hb; simp; omega

theorem runs_ok (ao : Option Addr) (ca : Nat) (l : List Nat) (hl : Bytes l) (hn : l.length ≤ 10000000) (hca : l.length ≤ ca) (hcb : ca ≤ 9223372036854775807) (fr m : Nat) (h : fr + m ≤ 8 * l.length) (w : World) (hT : Tab w) (hb : BytesAt w ao l) :
    Calls Tryz.prog 127 #[.slice ao l.length ca, .int .i64 fr, .int .i64 m] w fun e w' => ∃ v, e = .returned v ∧ Iter w w' v (fun k => bitAt l (fr + k)) m := by
  have hmf : ∀ (fn : Fn) (first cap : Array Value) (w : World), (Instr.makeFunc fn first cap).run Tryz.prog w = .ok (.func fn first cap) w := fun _ _ _ _ => rfl
  have hT' : Hid (Tab w) := hT
  by_cases hl0 : l = []
  · subst hl0
    obtain rfl : fr = 0 := by simp at h; omega
    obtain rfl : m = 0 := by simp at h; omega
    clear hb hT
    go_enter Tryz.func127, Tryz.ntmps127
    go_wp2_with (first | (go_at_call 126; refine (refused_ok _ 0 ca (by omega) 0 0 (by omega) _).mono ?_; rintro e w' ⟨rfl, rfl⟩) | (go_at_call 99; refine (need_pos 0 (by omega) _).mono ?_; rintro e w' ⟨rfl, rfl⟩))
    have hcl := fun ao c => clone_any ao c [] (by simp) w (fun h => by simp at h)
    refine (hcl _ _).mono ?_
    rintro e w1 ⟨v, rfl, hN⟩
    obtain ⟨ao1, cap1, rfl, _⟩ := hN.bytes
    have HI : Hid (Iter w _ _ (fun k => bitAt [] (0 + k)) 0) := Iter.mk' (first := 0) hT'.out hN (fun x hx => by simp at hx) (by simp) (by simp) (fun k hk => by omega)
    clear hcl hN
    go_wp2
    go_ret
    exact ⟨_, rfl, HI.out⟩
  · obtain ⟨b, off, rfl, _⟩ := hb (List.length_pos_iff.2 hl0)
    have hn1 : need (fr + m) ≤ ca := by unfold need; omega
    have hn2 : (fr : Int) / 8 ≤ (need (fr + m) : Int) := by unfold need; omega
    have hn3 : fr / 8 + (need (fr + m) - fr / 8) ≤ l.length := by unfold need; omega
    have hkl : ((l.drop (fr / 8)).take (need (fr + m) - fr / 8)).length = need (fr + m) - fr / 8 := by rw [List.length_take, List.length_drop]; omega
    have hB := sub_at hb (fr / 8) (need (fr + m) - fr / 8) hn3
    have HL : Hid (Bytes ((l.drop (fr / 8)).take (need (fr + m) - fr / 8)) ∧ ∀ k, k < m → bitAt ((l.drop (fr / 8)).take (need (fr + m) - fr / 8)) (fr % 8 + k) = bitAt l (fr + k)) := ⟨sub_bytes hl _ _, fun k hk => sub_bit l fr m k hk h⟩
    have hen : fr % 8 + m ≤ 8 * (need (fr + m) - fr / 8) := by unfold need; omega
    obtain ⟨kl, hkl'⟩ : ∃ kl, kl = (l.drop (fr / 8)).take (need (fr + m) - fr / 8) := ⟨_, rfl⟩
    rw [← hkl'] at hB HL hkl
    have hfr8 : fr / 8 ≤ need (fr + m) := by unfold need; omega
    clear hkl' hb hT
    by_cases hz : ca = fr / 8
    · have hcl := clone_any (some ⟨b, off, none⟩) 0 kl (by omega) w (fun h => by omega)
      have hkl0 : kl.length = 0 := by omega
      rw [hkl0] at hcl
      subst hz
      go_enter Tryz.func127, Tryz.ntmps127
      go_wp2_with (first | (go_at_call 126; refine (refused_ok _ l.length _ (by omega) fr m h _).mono ?_; rintro e w' ⟨rfl, rfl⟩) | (go_at_call 99; refine (need_pos (fr + m) (by omega) _).mono ?_; rintro e w' ⟨rfl, rfl⟩))
      refine hcl.mono ?_
      rintro e w1 ⟨v, rfl, hN⟩
      obtain ⟨ao1, cap1, rfl, _⟩ := hN.bytes
      have HI : Hid (Iter w _ _ (fun k => bitAt l (fr + k)) m) := Iter.mk' hT'.out hN HL.out.1 (by omega) (by omega) HL.out.2
      rw [hkl0] at HI ⊢
      clear hcl hN
      go_wp2
      go_ret
      exact ⟨_, rfl, HI.out⟩
    · have hcl := clone_any (some ⟨b, off + fr / 8, none⟩) (ca - fr / 8) kl (by omega) w hB
      rw [hkl] at hcl
      go_enter Tryz.func127, Tryz.ntmps127
      go_wp2_with (first | (go_at_call 126; refine (refused_ok _ l.length ca (by omega) fr m h _).mono ?_; rintro e w' ⟨rfl, rfl⟩) | (go_at_call 99; refine (need_pos (fr + m) (by omega) _).mono ?_; rintro e w' ⟨rfl, rfl⟩))
      refine hcl.mono ?_
      rintro e w1 ⟨v, rfl, hN⟩
      obtain ⟨ao1, cap1, rfl, _⟩ := hN.bytes
      have HI : Hid (Iter w _ _ (fun k => bitAt l (fr + k)) m) := Iter.mk' hT'.out hN HL.out.1 (by omega) (by omega) HL.out.2
      rw [hkl] at HI ⊢
      clear hcl hN
      go_wp2
      go_ret
      exact ⟨_, rfl, HI.out⟩
end Go.Proofs.YtnmfnmofcgcnbaaGreatDoor.Bits
