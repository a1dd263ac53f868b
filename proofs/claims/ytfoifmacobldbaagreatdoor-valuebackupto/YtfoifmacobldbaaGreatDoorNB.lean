import Derived.Test.YtfoifmacobldbaaGreatDoorQE
import Derived.Test.YtfoifmacobldbaaGreatDoorQA
import Derived.Test.YtfoifmacobldbaaGreatDoorFG
import Derived.Shelf.Spec.TrailingZeros
set_option maxRecDepth 100000
set_option maxHeartbeats 4000000
namespace Go.Proofs.YtfoifmacobldbaaGreatDoor.QF
open Go.Proofs.YtfoifmacobldbaaGreatDoor.Kit
open Go.Lib Go.Proofs.YtfoifmacobldbaaGreatDoor.QB Go.Proofs.YtfoifmacobldbaaGreatDoor.QC Go.Proofs.YtfoifmacobldbaaGreatDoor.QD Go.Proofs.YtfoifmacobldbaaGreatDoor.QE
set_option linter.unusedVariables false
/-! ### all that stands in no list, there and back -/
def u64 (n : Int) : Nat := (if n < 0 then n + 18446744073709551616 else n).toNat
def s64 (u : Nat) : Int := if u < 9223372036854775808 then u else (u : Int) - 18446744073709551616
def is64 (n : Int) : Prop := -9223372036854775808 ≤ n ∧ n ≤ 9223372036854775807
theorem s64_u64 {n : Int} (h : is64 n) : s64 (u64 n) = n := by
  unfold s64 u64
  obtain ⟨h1, h2⟩ := h
  split <;> split <;> omega
theorem u64_lt {n : Int} (h : is64 n) : u64 n < 2 ^ 64 := by
  unfold u64
  obtain ⟨h1, h2⟩ := h
  split <;> omega
def floatT (b : Nat) : Bs := if 2 ^ 63 ≤ b then 45 :: sizeT (b - 2 ^ 63) else sizeT b
def floatO (row : Bs) : Nat := match row with
  | [] => sizeO []
  | c :: r => if c = 45 then sizeO r ||| 2 ^ 63 else sizeO (c :: r)
theorem hexT_row : ∀ (n m : Nat), ∀ c ∈ hexT n m, rowB c = true
  | 0, m, c, h => by cases h
  | n + 1, m, c, h => by
    unfold hexT at h
    rcases List.mem_append.1 h with h | h
    · exact hexT_row n _ c h
    · rw [List.mem_singleton] at h
      subst h
      exact hexD_row (by omega)
theorem size_row (b : Nat) : (∀ c ∈ sizeT b, rowB c = true) ∧ ∃ c r, sizeT b = c :: r ∧ c ≠ 93 ∧ c ≠ 45 ∧ (c = 110 → ∃ r', sizeT b = [110, 97, 110] ++ r') := by
  unfold sizeT
  split
  · exact ⟨by decide, _, _, rfl, by decide, by decide, fun e => absurd e (by decide)⟩
  · split
    · split
      · exact ⟨by decide, _, _, rfl, by decide, by decide, fun e => absurd e (by decide)⟩
      · refine ⟨fun c hc => ?_, _, _, rfl, by decide, by decide, fun _ => ⟨_, rfl⟩⟩
        rcases List.mem_append.1 hc with hc | hc
        · have : c = 110 ∨ c = 97 ∨ c = 110 := by simpa using hc
          rcases this with rfl | rfl | rfl <;> decide
        · exact hexT_row _ _ c hc
    · refine ⟨fun c hc => ?_, ?_⟩
      · rcases List.mem_append.1 hc with hc | hc
        · exact digit_rowB (dec_row _ c hc)
        · rcases List.mem_cons.1 hc with rfl | hc
          · decide
          · exact (itoa_row _).1 c hc
      · obtain ⟨c, r, e, hc⟩ := dec_head (fracP b / 2 ^ tzN 64 (fracP b))
        rw [e]
        refine ⟨c, _, rfl, fun q => ?_, fun q => ?_, fun q => ?_⟩
        · subst q; revert hc; decide
        · subst q; revert hc; decide
        · subst q; exact absurd hc (by decide)
theorem float_back (b : Nat) (hb : b < 2 ^ 64) : floatO (floatT b) = b := by
  unfold floatT
  split
  · rename_i h
    show (if (45 : UInt8) = 45 then sizeO (sizeT (b - 2 ^ 63)) ||| 2 ^ 63 else sizeO (45 :: sizeT (b - 2 ^ 63))) = b
    rw [if_pos rfl, size_back _ (by omega), Nat.or_comm]
    have e := Nat.two_pow_add_eq_or_of_lt (show b - 2 ^ 63 < 2 ^ 63 by omega) 1
    rw [Nat.mul_one] at e
    rw [← e]
    omega
  · rename_i h
    obtain ⟨c, r, e, h1, h2, -⟩ := (size_row b).2
    have hs := size_back b (by omega)
    rw [e] at hs ⊢
    show (if c = 45 then _ else sizeO (c :: r)) = b
    rw [if_neg h2]
    exact hs
def numT (k n : Int) : Bs := if k = 2 then (if n = 1 then [116, 114, 117, 101] else [102, 97, 108, 115, 101]) else if k = 10 then decDigits (u64 n) else if k = 11 then floatT (u64 n) else itoa n
def numC (k : Int) (row : Bs) : Int := if k = 2 then (if row = [116, 114, 117, 101] then 1 else 0) else if k = 10 then s64 (valU (2 ^ 64 - 1) (parseUintB 64 row)) else if k = 11 then s64 (floatO row) else valI (-9223372036854775808) 9223372036854775807 (row.head? == some 45) (parseIntB 64 row)
theorem num_back {k n : Int} (h : is64 n) (h2 : k = 2 → n = 0 ∨ n = 1) : numC k (numT k n) = n := by
  unfold numC numT
  by_cases k2 : k = 2
  · rw [if_pos k2, if_pos k2]
    rcases h2 k2 with rfl | rfl <;> decide
  · rw [if_neg k2, if_neg k2]
    by_cases k10 : k = 10
    · rw [if_pos k10, if_pos k10, uint_back 64 _ (by decide) (u64_lt h)]
      exact s64_u64 h
    · rw [if_neg k10, if_neg k10]
      by_cases k11 : k = 11
      · rw [if_pos k11, if_pos k11, float_back _ (u64_lt h)]
        exact s64_u64 h
      · rw [if_neg k11, if_neg k11, int_back 64 n (by omega) (by decide) (by have := h.1; omega) (by have := h.2; omega)]
        rfl
theorem num_row (k n : Int) : (∀ c ∈ numT k n, rowB c = true) ∧ (∃ c r, numT k n = c :: r ∧ c ≠ 93) ∧ numT k n ≠ nullT := by
  unfold numT
  split
  · split
    · exact ⟨by decide, ⟨_, _, rfl, by decide⟩, by decide⟩
    · exact ⟨by decide, ⟨_, _, rfl, by decide⟩, by decide⟩
  · split
    · obtain ⟨c, r, e, hc⟩ := dec_head (u64 n)
      refine ⟨fun c hc => digit_rowB (dec_row _ c hc), ⟨c, r, e, fun q => by subst q; revert hc; decide⟩, fun q => ?_⟩
      rw [e] at q
      simp only [nullT, List.cons.injEq] at q
      obtain ⟨rfl, -⟩ := q
      revert hc; decide
    · split
      · unfold floatT
        split
        · refine ⟨fun c hc => ?_, ⟨_, _, rfl, by decide⟩, fun q => by simp [nullT] at q⟩
          rcases List.mem_cons.1 hc with rfl | hc
          · decide
          · exact (size_row _).1 c hc
        · obtain ⟨h1, c, r, e, h2, h3, h4⟩ := size_row (u64 n)
          refine ⟨h1, ⟨c, r, e, h2⟩, fun q => ?_⟩
          have hc : c = 110 := by
            rw [e] at q
            simp only [nullT, List.cons.injEq] at q
            exact q.1
          obtain ⟨r', e'⟩ := h4 hc
          rw [e'] at q
          simp [nullT] at q
      · obtain ⟨h1, c, r, e, h2, h3⟩ := itoa_row n
        refine ⟨h1, ⟨c, r, e, h2⟩, fun q => ?_⟩
        rw [e] at q
        simp only [nullT, List.cons.injEq] at q
        exact h3 q.1
/-! Bytes -/
def hex2 (c : UInt8) : Bs := [hexD (c.toNat / 16), hexD (c.toNat % 16)]
def rdHex : Bs → Option (Bs × Bs)
  | [] => none
  | c :: r => if c = 34 then some ([], r) else match r with
    | [] => none
    | d :: r' => match hexV c, hexV d with
      | some a, some b => match rdHex r' with
        | none => none
        | some (l, t) => some (UInt8.ofNat (a * 16 + b) :: l, t)
      | _, _ => none
theorem hexD_ne {d : Nat} (h : d < 16) : hexD d ≠ 34 := by
  have : d = 0 ∨ d = 1 ∨ d = 2 ∨ d = 3 ∨ d = 4 ∨ d = 5 ∨ d = 6 ∨ d = 7 ∨ d = 8 ∨ d = 9 ∨ d = 10 ∨ d = 11 ∨ d = 12 ∨ d = 13 ∨ d = 14 ∨ d = 15 := by omega
  rcases this with rfl | rfl | rfl | rfl | rfl | rfl | rfl | rfl | rfl | rfl | rfl | rfl | rfl | rfl | rfl | rfl <;> decide
theorem hexV_some {c : UInt8} {d : Nat} (h : hexV c = some d) : d < 16 ∧ hexD d = c := by
  unfold hexV at h
  split at h
  · rename_i hc
    injection h with h
    subst h
    refine ⟨by omega, ?_⟩
    unfold hexD
    rw [if_pos (by omega), show 48 + (c.toNat - 48) = c.toNat by omega]
    simp
  · split at h
    · rename_i hc
      injection h with h
      subst h
      refine ⟨by omega, ?_⟩
      unfold hexD
      rw [if_neg (by omega), show 87 + (c.toNat - 87) = c.toNat by omega]
      simp
    · cases h
theorem hex_there : ∀ (l t : Bs), rdHex (l.flatMap hex2 ++ 34 :: t) = some (l, t)
  | [], t => by
    show rdHex (34 :: t) = _
    unfold rdHex
    rw [if_pos rfl]
  | c :: l, t => by
    have ih := hex_there l t
    have hc := c.toNat_lt
    show rdHex (hexD (c.toNat / 16) :: hexD (c.toNat % 16) :: (l.flatMap hex2 ++ 34 :: t)) = _
    unfold rdHex
    rw [if_neg (hexD_ne (by omega))]
    simp only
    rw [hexV_D (by omega), hexV_D (by omega)]
    simp only
    rw [ih, show c.toNat / 16 * 16 + c.toNat % 16 = c.toNat by omega]
    simp
theorem hex_rd : ∀ (s l t : Bs), rdHex s = some (l, t) → s = l.flatMap hex2 ++ 34 :: t
  | [], l, t, h => by simp [rdHex] at h
  | [c], l, t, h => by
    unfold rdHex at h
    split at h
    · rename_i hc
      subst hc
      simp only [Option.some.injEq, Prod.mk.injEq] at h
      obtain ⟨rfl, rfl⟩ := h
      rfl
    · cases h
  | c :: d :: r, l, t, h => by
    unfold rdHex at h
    split at h
    · rename_i hc
      subst hc
      simp only [Option.some.injEq, Prod.mk.injEq] at h
      obtain ⟨rfl, rfl⟩ := h
      rfl
    · simp only at h
      split at h
      · rename_i a b ha hb
        split at h
        · cases h
        · rename_i l' t' e
          simp only [Option.some.injEq, Prod.mk.injEq] at h
          obtain ⟨rfl, rfl⟩ := h
          have ih := hex_rd _ _ _ e
          obtain ⟨a1, a2⟩ := hexV_some ha
          obtain ⟨b1, b2⟩ := hexV_some hb
          have hv : (UInt8.ofNat (a * 16 + b)).toNat = a * 16 + b := by
            simp only [UInt8.toNat_ofNat']
            omega
          rw [List.flatMap_cons]
          unfold hex2
          rw [hv, show (a * 16 + b) / 16 = a by omega, show (a * 16 + b) % 16 = b by omega, a2, b2, ih]
          rfl
      · cases h
/-! the leaves -/
section
variable (nb : Int → Int → Bool)
def lf (f : FT) (x : VT) : Prop :=
  if f.kind = 12 then x = .mk false 0 x.text [] ∧ validD x.text.data.toList = true
  else if f.kind = 13 then x = .mk false 0 x.text []
  else if f.kind = 14 then x = .mk false 0 x.text [] ∧ (x.text.size : Int) = f.width
  else x = .mk false x.num ⟨#[]⟩ [] ∧ is64 x.num ∧ nb f.kind x.num = true
def leafT (f : FT) (x : VT) : Bs :=
  if f.kind = 12 then 34 :: (x.text.data.toList.flatMap esc ++ [34])
  else if f.kind = 13 ∨ f.kind = 14 then [120, 34] ++ (x.text.data.toList.flatMap hex2 ++ [34])
  else numT f.kind x.num
def numO (k : Int) (row : Bs) : Option Int := if nb k (numC k row) = true ∧ numT k (numC k row) = row ∧ (-9223372036854775808 ≤ numC k row ∧ numC k row ≤ 9223372036854775807) then some (numC k row) else none
def txtV (l : Bs) : VT := .mk false 0 ⟨l.toArray⟩ []
def leafR (f : FT) (s : Bs) : Option (VT × Bs) :=
  if f.kind = 12 then match takes [34] s with
    | none => none
    | some s1 => match rdLet (s1.length + 1) s1 with
      | none => none
      | some (l, t) => some (txtV l, t)
  else if f.kind = 13 ∨ f.kind = 14 then match takes [120, 34] s with
    | none => none
    | some s1 => match rdHex s1 with
      | none => none
      | some (l, t) => if f.kind = 14 ∧ (l.length : Int) ≠ f.width then none else some (txtV l, t)
  else match numO nb f.kind (s.takeWhile rowB) with
    | none => none
    | some n => some (.mk false n ⟨#[]⟩ [], s.dropWhile rowB)
variable {nb}
theorem bytes_eq (t : ByteArray) : (⟨t.data.toList.toArray⟩ : ByteArray) = t := by cases t; simp
theorem flat_len (l : Bs) : l.length ≤ (l.flatMap esc).length := by
  induction l with
  | nil => simp
  | cons c l ih =>
    rw [List.flatMap_cons, List.length_append, List.length_cons]
    have : 1 ≤ (esc c).length := by
      unfold esc
      split
      · simp
      · obtain ⟨r, e⟩ := escaped_start c
        rw [e]; simp
    omega
theorem leaf_fst (f : FT) (x : VT) (h : lf nb f x) : Fst (leafT f x) := by
  unfold leafT
  split
  · exact ⟨_, _, rfl, by decide⟩
  · split
    · exact ⟨_, _, rfl, by decide⟩
    · obtain ⟨c, r, e, hc⟩ := (num_row f.kind x.num).2.1
      exact ⟨c, r, e, hc⟩
theorem leaf_there (h2 : ∀ n, nb 2 n = true → n = 0 ∨ n = 1) (f : FT) (x : VT) (t : Bs) (h : lf nb f x) (ht : Stop t) : leafR nb f (leafT f x ++ t) = some (x, t) ∧ isNullB (leafT f x ++ t) = false := by
  unfold lf at h
  unfold leafT leafR
  by_cases k12 : f.kind = 12
  · rw [if_pos k12] at h
    simp only [if_pos k12]
    refine ⟨?_, not_null (by decide)⟩
    rw [List.cons_append, takes_one]
    simp only
    rw [List.append_assoc, List.singleton_append, let_there _ _ _ (by have := flat_len x.text.data.toList; simp only [List.length_append]; omega) h.2]
    simp only [txtV, bytes_eq]
    rw [← h.1]
  · rw [if_neg k12] at h
    simp only [if_neg k12]
    by_cases k13 : f.kind = 13 ∨ f.kind = 14
    · simp only [if_pos k13]
      refine ⟨?_, not_null (by decide)⟩
      rw [List.append_assoc, takes_app]
      simp only
      rw [List.append_assoc, List.singleton_append, hex_there]
      simp only
      have hx : x = .mk false 0 x.text [] := by
        rcases k13 with k | k
        · rw [if_pos k] at h; exact h
        · rw [if_neg (by omega), if_pos k] at h; exact h.1
      rw [if_neg (fun q => by
        have k14 := q.1
        rw [if_neg (by omega), if_pos k14] at h
        exact q.2 h.2)]
      simp only [txtV, bytes_eq]
      rw [← hx]
    · simp only [if_neg k13]
      rw [if_neg (fun q => k13 (.inl q)), if_neg (fun q => k13 (.inr q))] at h
      obtain ⟨r1, r2, r3⟩ := num_row f.kind x.num
      obtain ⟨t1, t2⟩ := tw_stop (p := rowB) (r := t) r1 (fun c r e => (stop_row ht c r e).1)
      have hb := num_back (k := f.kind) h.2.1 (fun q => h2 _ (by have := h.2.2; rwa [q] at this))
      refine ⟨?_, ?_⟩
      · rw [t1, t2]
        unfold numO
        rw [hb, if_pos ⟨h.2.2, rfl, h.2.1.1, h.2.1.2⟩]
        simp only
        rw [← h.1]
      · unfold isNullB
        rw [t1]
        have : (numT f.kind x.num == nullT) = false := by simpa using r3
        rw [this, Bool.false_and]
theorem leaf_back (f : FT) (s : Bs) (x : VT) (t : Bs) (h : leafR nb f s = some (x, t)) : s = leafT f x ++ t ∧ x.nul = false ∧ lf nb f x := by
  unfold leafR at h
  unfold leafT lf
  by_cases k12 : f.kind = 12
  · simp only [if_pos k12] at h ⊢
    split at h
    · cases h
    · rename_i s1 e1
      split at h
      · cases h
      · rename_i l t' e2
        simp only [Option.some.injEq, Prod.mk.injEq] at h
        obtain ⟨rfl, rfl⟩ := h
        obtain ⟨g1, g2⟩ := let_back _ _ _ _ e2
        refine ⟨?_, rfl, rfl, by simpa [txtV, VT.text] using g2⟩
        rw [takes_some e1, g1]
        simp [txtV, VT.text]
  · simp only [if_neg k12] at h ⊢
    by_cases k13 : f.kind = 13 ∨ f.kind = 14
    · simp only [if_pos k13] at h ⊢
      split at h
      · cases h
      · rename_i s1 e1
        split at h
        · cases h
        · rename_i l t' e2
          split at h
          · cases h
          · rename_i hw
            simp only [Option.some.injEq, Prod.mk.injEq] at h
            obtain ⟨rfl, rfl⟩ := h
            have g1 := hex_rd _ _ _ e2
            refine ⟨?_, rfl, ?_⟩
            · rw [takes_some e1, g1]
              simp [txtV, VT.text]
            · rcases k13 with k | k
              · rw [if_pos k]
                rfl
              · rw [if_neg (by omega), if_pos k]
                refine ⟨rfl, ?_⟩
                have : (l.length : Int) = f.width := Classical.byContradiction fun q => hw ⟨k, q⟩
                simpa [txtV, VT.text, ByteArray.size] using this
    · simp only [if_neg k13] at h ⊢
      rw [if_neg (fun q => k13 (.inl q)), if_neg (fun q => k13 (.inr q))]
      split at h
      · cases h
      · rename_i n e
        simp only [Option.some.injEq, Prod.mk.injEq] at h
        obtain ⟨rfl, rfl⟩ := h
        unfold numO at e
        split at e
        · rename_i hc
          injection e with e
          subst e
          refine ⟨?_, rfl, rfl, hc.2.2, hc.1⟩
          show s = numT f.kind (numC f.kind (s.takeWhile rowB)) ++ _
          rw [hc.2.1, List.takeWhile_append_dropWhile]
        · cases e
end
end Go.Proofs.YtfoifmacobldbaaGreatDoor.QF
namespace Go.Proofs.YtfoifmacobldbaaGreatDoor.Kit
open Go.RowKit Go.Shelf Go.Deep Go.Sort
set_option linter.unusedVariables false
set_option linter.unusedSimpArgs false
/-! ### the tables of the library -/
structure Tbs (W : World) : Prop where
  pow : Lib.TabIs Tryz.prog W "internal/strconv.uint64pow10" .u64 Lib.pow10Tab
  bru : TabAt 3 Lib.deBruijn64tab W
  syn : ∃ te pe, W.cell? ⟨6, 0, none⟩ = some (.iface te pe)
  rng : ∃ te pe, W.cell? ⟨7, 0, none⟩ = some (.iface te pe)
theorem gr_drewN {w : World} : ∀ (k : Nat), Gr w (w.drewN k)
  | k => ⟨rfl, rfl, rfl, Nat.le_refl _, fun _ _ _ => rfl⟩
theorem gr_grow {w : World} {k : Nat} {os : Array Obj} : Gr w (grow (w.drewN k) os) := by
  refine (gr_drewN k).trans ⟨rfl, rfl, rfl, ?_, fun j hj _ => ?_⟩ (fun _ _ h => h)
  · simp [grow]
  · simp only [grow]
    exact Array.getElem?_append_left hj
theorem Tbs.kp {w W : World} {S : Nat → Prop} (h : Tbs w) (g : Keeps w W S) (hS : ∀ b, b < 9 → ¬ S b) : Tbs W := by
  refine ⟨?_, fun j hj => g.cell' (h.bru j hj) (hS 3 (by omega)), ?_, ?_⟩
  · have h0 := h.pow
    unfold Lib.TabIs World.var? at h0 ⊢
    have hg : Tryz.prog.globalNamed "internal/strconv.uint64pow10" = some 2 := by kernel_rfl
    simp only [hg, Option.bind_some] at h0 ⊢
    have hlt : 2 < w.heap.size := by
      rcases Nat.lt_or_ge 2 w.heap.size with h' | h'
      · exact h'
      · rw [Array.getElem?_eq_none h'] at h0; simp at h0
    rw [g.block 2 hlt (hS 2 (by omega))]
    exact h0
  · obtain ⟨a, b, e⟩ := h.syn
    exact ⟨a, b, g.cell' e (hS 6 (by omega))⟩
  · obtain ⟨a, b, e⟩ := h.rng
    exact ⟨a, b, g.cell' e (hS 7 (by omega))⟩
theorem Tbs.gr {w W : World} (h : Tbs w) (g : Gr w W) : Tbs W := h.kp g (fun _ _ h => h)
theorem ctz_tz : ∀ (n x : Nat), 0 < x → x < 2 ^ n → Lib.ctzFrom n x = QD.tzN n x
  | 0, x, h0, h => by simp at h; omega
  | n + 1, x, h0, h => by
    unfold Lib.ctzFrom QD.tzN
    by_cases hx : x % 2 = 1
    · rw [if_pos hx, if_neg (by omega)]
    · rw [if_neg hx, if_pos (by omega), ctz_tz n (x / 2) (by omega) (by rw [Nat.pow_succ] at h; omega)]
      omega
theorem tz138_core (x k idx : Nat) (w : World) (hx0 : ((x : Int) == 0) = false)
    (key : IntKind.u64.wrap (bits BinOp.and IntKind.u64 (x : Int) (IntKind.u64.wrap (-(x : Int))) * 285870213051353865) / 288230376151711744 = (idx : Int))
    (hi : idx < 64) (hk : k < 64) (hcell : w.cell? ⟨3, idx, none⟩ = some (.int .u8 k)) :
    Calls Tryz.prog 138 #[.int .u64 x] w fun e w' => e = .returned (.int .i64 k) ∧ w' = w := by
  go_enter Tryz.func138, Tryz.ntmps138
  go_wp2_with (simp only [key])
  go_ret
  exact ⟨rfl, rfl⟩
theorem tz138 (x : Nat) (h0 : x ≠ 0) (hx : x < 18446744073709551616) (w : World) (hT : Tbs w) : Calls Tryz.prog 138 #[.int .u64 x] w fun e w' => e = .returned (.int .i64 (QD.tzN 64 x : Nat)) ∧ w' = w := by
  obtain ⟨hlow, hk⟩ := Lib.lowest_bit 64 x h0 hx
  obtain ⟨hi, htab⟩ := Lib.deBruijn64_at _ hk
  have hcell := hT.bru _ hi
  rw [htab] at hcell
  have h := tz138_core x _ _ w (by simp; omega) (tz64_key x _ hx h0 hlow) hi hk hcell
  have e : Lib.ctz 64 x = QD.tzN 64 x := by
    unfold Lib.ctz
    rw [if_neg h0]
    exact ctz_tz 64 x (by omega) hx
  rwa [e] at h
end Go.Proofs.YtfoifmacobldbaaGreatDoor.Kit
