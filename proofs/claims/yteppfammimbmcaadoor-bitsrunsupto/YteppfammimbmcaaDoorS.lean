import Derived.Test.YteppfammimbmcaaDoorH
import Derived.Test.YteppfammimbmcaaDoorK
import Derived.Test.YteppfammimbmcaaDoorL
import Derived.Test.YteppfammimbmcaaDoorM
import Derived.Test.YteppfammimbmcaaDoorN
import Derived.Test.YteppfammimbmcaaDoorR
namespace Go.Proofs.YteppfammimbmcaaDoor.Kit
open Go.RowKit Go.Deep
set_option linter.unusedVariables false

/-! ### what the document answers, call by call -/
def errOf (n : Nat) (fr m : Int) : Int := if fr < 0 ∨ m < 0 then 1 else if 8 * (n : Int) < fr + m then 2 else 0
def fromL (l : List Nat) (fr : Int) (k : Nat) : Bool := bitAt l (fr.toNat + k)
def getV (l : List Nat) (i : Int) : Bool := if errOf l.length i 1 = 0 then bitAt l i.toNat else false
def countV (l : List Nat) (fr m : Int) : Int := if errOf l.length fr m = 0 then (cn (fromL l fr) m.toNat : Nat) else 0
def listV (l : List Nat) (fr m : Int) : List Bool := if errOf l.length fr m = 0 then (List.range m.toNat).map (fromL l fr) else []
def cutV (l : List Nat) (fr m : Int) : List Nat := if errOf l.length fr m = 0 then mk (fromL l fr) m.toNat else []
def runsV (l : List Nat) (fr m : Int) : List (Nat × Nat) := if errOf l.length fr m = 0 then rf (fromL l fr) m.toNat else []
def nextV (l : List Nat) (fr m : Int) (on : Bool) : Int := if errOf l.length fr m = 0 then nextOf (fromL l fr) on m.toNat else -1
def needV (m : Int) : Int := if m < 0 then 0 else (need m.toNat : Nat)
def errJ (n n' : Nat) (m : Int) : Int := if m < 0 then 1 else if 8 * (n : Int) < m ∨ 8 * (n' : Int) < m then 2 else 0
def joinV (op : Bool → Bool → Bool) (l r : List Nat) (m : Int) : List Nat := if errJ l.length r.length m = 0 then mk (fun k => op (bitAt l k) (bitAt r k)) m.toNat else []
def notV (l : List Nat) (m : Int) : List Nat := if errOf l.length 0 m = 0 then mk (fun k => !bitAt l k) m.toNat else []
def errP (l : List Nat) (fr m k : Int) : Int := if k < 0 then 1 else if errOf l.length fr m = 0 then (if pl (fromL l fr) k.toNat m.toNat = m.toNat then 2 else 0) else errOf l.length fr m
def placeV (l : List Nat) (fr m k : Int) : Int := if errP l fr m k = 0 then (pl (fromL l fr) k.toNat m.toNat : Nat) else 0

theorem errOf_neg {n : Nat} {fr m : Int} (h : fr < 0 ∨ m < 0) : errOf n fr m = 1 := if_pos h
theorem errOf_range {n fr m : Nat} (h : 8 * n < fr + m) : errOf n fr m = 2 := by unfold errOf; rw [if_neg (by omega), if_pos (by omega)]
theorem errOf_ok {n fr m : Nat} (h : fr + m ≤ 8 * n) : errOf n fr m = 0 := by unfold errOf; rw [if_neg (by omega), if_neg (by omega)]
theorem errJ_neg {n n' : Nat} {m : Int} (h : m < 0) : errJ n n' m = 1 := if_pos h
theorem errJ_range {n n' m : Nat} (h : 8 * n < m ∨ 8 * n' < m) : errJ n n' m = 2 := by unfold errJ; rw [if_neg (by omega), if_pos (by omega)]
theorem errJ_ok {n n' m : Nat} (h : m ≤ 8 * n) (h' : m ≤ 8 * n') : errJ n n' m = 0 := by unfold errJ; rw [if_neg (by omega), if_neg (by omega)]

/-- a map somewhere in memory, as a call is handed it -/
structure MapAt (w : World) (v : Value) (l : List Nat) : Prop where
  form : ∃ ao ca, v = .slice ao l.length ca ∧ BytesAt w ao l ∧ l.length ≤ ca ∧ ca ≤ 9223372036854775807
  bytes : Bytes l
  len : l.length ≤ 10000000
theorem MapAt.kept {w w' : World} {v : Value} {l : List Nat} (h : MapAt w v l) (k : Keeps w w' (fun _ => False)) : MapAt w' v l := by
  obtain ⟨⟨ao, ca, e, hb, r⟩, h2, h3⟩ := h
  exact ⟨⟨ao, ca, e, hb.kept0 k, r⟩, h2, h3⟩
def i64 (x : Int) : Prop := -9223372036854775808 ≤ x ∧ x ≤ 9223372036854775807
abbrev cellsB (l : List Nat) : List Value := l.map fun x : Nat => .int .u8 x
abbrev cellsO (l : List Bool) : List Value := l.map Value.bool
theorem bools_eq (f : Nat → Bool) (fr n : Nat) : bools f fr n = cellsO ((List.range n).map fun k => f (fr + k)) := by simp [bools]

/-- three ways: below 0, not there, there -/
theorem ways {P : Int → Int → Prop} (n : Nat) (hneg : ∀ fr m, fr < 0 ∨ m < 0 → P fr m) (hrange : ∀ fr m : Nat, fr ≤ 9223372036854775807 → m ≤ 9223372036854775807 → 8 * n < fr + m → P fr m) (hok : ∀ fr m : Nat, fr + m ≤ 8 * n → P fr m) (fr m : Int) (hf : i64 fr) (hm : i64 m) : P fr m := by
  by_cases h : fr < 0 ∨ m < 0
  · exact hneg fr m h
  · obtain ⟨a, rfl⟩ : ∃ a : Nat, fr = a := ⟨fr.toNat, by omega⟩
    obtain ⟨b, rfl⟩ : ∃ b : Nat, m = b := ⟨m.toNat, by omega⟩
    by_cases h2 : 8 * n < a + b
    · exact hrange a b (by have := hf.2; omega) (by have := hm.2; omega) h2
    · exact hok a b (by omega)

theorem get_all (v : Value) (l : List Nat) (i : Int) (hi : i64 i) (w : World) (hA : MapAt w v l) :
    Calls Tryd.prog 26 #[v, .int .i64 i] w fun e w' => e = .returned (.tuple #[.bool (getV l i), .int .i64 (errOf l.length i 1)]) ∧ Keeps w w' (fun _ => False) := by
  obtain ⟨⟨ao, ca, rfl, hb, hc1, hc2⟩, hl, hlen⟩ := hA
  by_cases h : i < 0
  · refine (get_neg ao l.length ca i h w).mono ?_
    rintro e w' ⟨rfl, rfl⟩
    unfold getV
    rw [errOf_neg (.inl h)]
    exact ⟨rfl, Keeps.refl _ _⟩
  · obtain ⟨a, rfl⟩ : ∃ a : Nat, i = a := ⟨i.toNat, by omega⟩
    by_cases h2 : 8 * l.length ≤ a
    · refine (get_range ao l.length ca (by omega) a (by have := hi.2; omega) h2 w).mono ?_
      rintro e w' ⟨rfl, rfl⟩
      have e2 : errOf l.length a 1 = 2 := errOf_range (m := 1) (by omega)
      unfold getV
      rw [e2]
      exact ⟨rfl, Keeps.refl _ _⟩
    · refine (get_ok ao ca l hl (by omega) a (by omega) w hb).mono ?_
      rintro e w' ⟨rfl, rfl⟩
      have e2 : errOf l.length a 1 = 0 := errOf_ok (m := 1) (by omega)
      unfold getV
      rw [e2]
      exact ⟨rfl, Keeps.refl _ _⟩

theorem rget_all (v : Value) (l : List Nat) (i : Int) (hi : i64 i) (w : World) (hA : MapAt w v l) :
    Calls Tryd.prog 32 #[v, .int .i64 i] w fun e w' => e = .returned (.tuple #[.bool (getV l i), .int .i64 (errOf l.length i 1)]) ∧ Keeps w w' (fun _ => False) := by
  obtain ⟨⟨ao, ca, rfl, hb, hc1, hc2⟩, hl, hlen⟩ := hA
  by_cases h : i < 0
  · refine (rget_neg ao l.length ca i h w).mono ?_
    rintro e w' ⟨rfl, rfl⟩
    unfold getV
    rw [errOf_neg (.inl h)]
    exact ⟨rfl, Keeps.refl _ _⟩
  · obtain ⟨a, rfl⟩ : ∃ a : Nat, i = a := ⟨i.toNat, by omega⟩
    by_cases h2 : 8 * l.length ≤ a
    · refine (rget_range ao l.length ca (by omega) a (by have := hi.2; omega) h2 w).mono ?_
      rintro e w' ⟨rfl, rfl⟩
      have e2 : errOf l.length a 1 = 2 := errOf_range (m := 1) (by omega)
      unfold getV
      rw [e2]
      exact ⟨rfl, Keeps.refl _ _⟩
    · refine (rget_ok ao ca l hl (by omega) a (by omega) w hb).mono ?_
      rintro e w' ⟨rfl, rfl⟩
      have e2 : errOf l.length a 1 = 0 := errOf_ok (m := 1) (by omega)
      unfold getV
      rw [e2]
      exact ⟨rfl, Keeps.refl _ _⟩

theorem count_all (v : Value) (l : List Nat) (fr m : Int) (hfr : i64 fr) (hm : i64 m) (w : World) (hT : Tab w) (hA : MapAt w v l) :
    Calls Tryd.prog 19 #[v, .int .i64 fr, .int .i64 m] w fun e w' => e = .returned (.tuple #[.int .i64 (countV l fr m), .int .i64 (errOf l.length fr m)]) ∧ Keeps w w' (fun _ => False) := by
  obtain ⟨⟨ao, ca, rfl, hb, hc1, hc2⟩, hl, hlen⟩ := hA
  refine ways (P := fun fr m => Calls Tryd.prog 19 #[.slice ao l.length ca, .int .i64 fr, .int .i64 m] w fun e w' => e = .returned (.tuple #[.int .i64 (countV l fr m), .int .i64 (errOf l.length fr m)]) ∧ Keeps w w' (fun _ => False)) l.length (fun fr m h => ?_) (fun fr m h1 h2 h => ?_) (fun fr m h => ?_) fr m hfr hm
  · refine (count_neg ao l.length ca fr m h w).mono ?_
    rintro e w' ⟨rfl, rfl⟩; unfold countV; rw [errOf_neg h]; exact ⟨rfl, Keeps.refl _ _⟩
  · refine (count_range ao l.length ca (by omega) fr m h1 h2 h w).mono ?_
    rintro e w' ⟨rfl, rfl⟩; unfold countV; rw [errOf_range h]; exact ⟨rfl, Keeps.refl _ _⟩
  · refine (count_ok ao ca l hl hlen hc1 hc2 fr m h w hT hb).mono ?_
    rintro e w' ⟨rfl, hk⟩; unfold countV; rw [errOf_ok h]; exact ⟨rfl, hk⟩

theorem rcount_all (v : Value) (l : List Nat) (fr m : Int) (hfr : i64 fr) (hm : i64 m) (w : World) (hA : MapAt w v l) :
    Calls Tryd.prog 33 #[v, .int .i64 fr, .int .i64 m] w fun e w' => e = .returned (.tuple #[.int .i64 (countV l fr m), .int .i64 (errOf l.length fr m)]) ∧ Keeps w w' (fun _ => False) := by
  obtain ⟨⟨ao, ca, rfl, hb, hc1, hc2⟩, hl, hlen⟩ := hA
  refine ways (P := fun fr m => Calls Tryd.prog 33 #[.slice ao l.length ca, .int .i64 fr, .int .i64 m] w fun e w' => e = .returned (.tuple #[.int .i64 (countV l fr m), .int .i64 (errOf l.length fr m)]) ∧ Keeps w w' (fun _ => False)) l.length (fun fr m h => ?_) (fun fr m h1 h2 h => ?_) (fun fr m h => ?_) fr m hfr hm
  · refine (rcount_neg ao l.length ca fr m h w).mono ?_
    rintro e w' ⟨rfl, rfl⟩; unfold countV; rw [errOf_neg h]; exact ⟨rfl, Keeps.refl _ _⟩
  · refine (rcount_range ao l.length ca (by omega) fr m h1 h2 h w).mono ?_
    rintro e w' ⟨rfl, rfl⟩; unfold countV; rw [errOf_range h]; exact ⟨rfl, Keeps.refl _ _⟩
  · refine (rcount_ok ao ca l hl hlen fr m h w hb).mono ?_
    rintro e w' ⟨rfl, hk⟩; unfold countV; rw [errOf_ok h]; exact ⟨rfl, hk⟩

theorem list_all (v : Value) (l : List Nat) (fr m : Int) (hfr : i64 fr) (hm : i64 m) (w : World) (hA : MapAt w v l) :
    Calls Tryd.prog 18 #[v, .int .i64 fr, .int .i64 m] w fun e w' => ∃ v', e = .returned (.tuple #[v', .int .i64 (errOf l.length fr m)]) ∧ New w w' 4 v' (cellsO (listV l fr m)) := by
  obtain ⟨⟨ao, ca, rfl, hb, hc1, hc2⟩, hl, hlen⟩ := hA
  refine ways (P := fun fr m => Calls Tryd.prog 18 #[.slice ao l.length ca, .int .i64 fr, .int .i64 m] w fun e w' => ∃ v', e = .returned (.tuple #[v', .int .i64 (errOf l.length fr m)]) ∧ New w w' 4 v' (cellsO (listV l fr m))) l.length (fun fr m h => ?_) (fun fr m h1 h2 h => ?_) (fun fr m h => ?_) fr m hfr hm
  · refine (list_neg ao l.length ca fr m h w).mono ?_
    rintro e w' ⟨rfl, rfl⟩; unfold listV; rw [errOf_neg h]; exact ⟨_, rfl, New.nil _ _⟩
  · refine (list_range ao l.length ca (by omega) fr m h1 h2 h w).mono ?_
    rintro e w' ⟨rfl, rfl⟩; unfold listV; rw [errOf_range h]; exact ⟨_, rfl, New.nil _ _⟩
  · refine (list_ok ao ca l hl hlen fr m h w hb).mono ?_
    rintro e w' ⟨v', rfl, hk⟩; unfold listV; rw [errOf_ok h, if_pos rfl]; rw [bools_eq] at hk; exact ⟨_, rfl, hk⟩

theorem rlist_all (v : Value) (l : List Nat) (fr m : Int) (hfr : i64 fr) (hm : i64 m) (w : World) (hA : MapAt w v l) :
    Calls Tryd.prog 35 #[v, .int .i64 fr, .int .i64 m] w fun e w' => ∃ v', e = .returned (.tuple #[v', .int .i64 (errOf l.length fr m)]) ∧ New w w' 4 v' (cellsO (listV l fr m)) := by
  obtain ⟨⟨ao, ca, rfl, hb, hc1, hc2⟩, hl, hlen⟩ := hA
  refine ways (P := fun fr m => Calls Tryd.prog 35 #[.slice ao l.length ca, .int .i64 fr, .int .i64 m] w fun e w' => ∃ v', e = .returned (.tuple #[v', .int .i64 (errOf l.length fr m)]) ∧ New w w' 4 v' (cellsO (listV l fr m))) l.length (fun fr m h => ?_) (fun fr m h1 h2 h => ?_) (fun fr m h => ?_) fr m hfr hm
  · refine (rlist_neg ao l.length ca fr m h w).mono ?_
    rintro e w' ⟨rfl, rfl⟩; unfold listV; rw [errOf_neg h]; exact ⟨_, rfl, New.nil _ _⟩
  · refine (rlist_range ao l.length ca (by omega) fr m h1 h2 h w).mono ?_
    rintro e w' ⟨rfl, rfl⟩; unfold listV; rw [errOf_range h]; exact ⟨_, rfl, New.nil _ _⟩
  · refine (rlist_ok ao ca l hl hlen fr m h w hb).mono ?_
    rintro e w' ⟨v', rfl, hk⟩; unfold listV; rw [errOf_ok h, if_pos rfl]; rw [bools_eq] at hk; exact ⟨_, rfl, hk⟩

theorem cut_all (v : Value) (l : List Nat) (fr m : Int) (hfr : i64 fr) (hm : i64 m) (w : World) (hA : MapAt w v l) :
    Calls Tryd.prog 20 #[v, .int .i64 fr, .int .i64 m] w fun e w' => ∃ v', e = .returned (.tuple #[v', .int .i64 (errOf l.length fr m)]) ∧ New w w' 5 v' (cellsB (cutV l fr m)) := by
  obtain ⟨⟨ao, ca, rfl, hb, hc1, hc2⟩, hl, hlen⟩ := hA
  refine ways (P := fun fr m => Calls Tryd.prog 20 #[.slice ao l.length ca, .int .i64 fr, .int .i64 m] w fun e w' => ∃ v', e = .returned (.tuple #[v', .int .i64 (errOf l.length fr m)]) ∧ New w w' 5 v' (cellsB (cutV l fr m))) l.length (fun fr m h => ?_) (fun fr m h1 h2 h => ?_) (fun fr m h => ?_) fr m hfr hm
  · refine (cut_neg ao l.length ca fr m h w).mono ?_
    rintro e w' ⟨rfl, rfl⟩; unfold cutV; rw [errOf_neg h]; exact ⟨_, rfl, New.nil _ _⟩
  · refine (cut_range ao l.length ca (by omega) fr m h1 h2 h w).mono ?_
    rintro e w' ⟨rfl, rfl⟩; unfold cutV; rw [errOf_range h]; exact ⟨_, rfl, New.nil _ _⟩
  · refine (cut_ok ao ca l hl hlen fr m h w hb).mono ?_
    rintro e w' ⟨v', rfl, hk⟩; unfold cutV; rw [errOf_ok h, if_pos rfl]; exact ⟨_, rfl, hk⟩

theorem rcut_all (v : Value) (l : List Nat) (fr m : Int) (hfr : i64 fr) (hm : i64 m) (w : World) (hA : MapAt w v l) :
    Calls Tryd.prog 36 #[v, .int .i64 fr, .int .i64 m] w fun e w' => ∃ v', e = .returned (.tuple #[v', .int .i64 (errOf l.length fr m)]) ∧ New w w' 5 v' (cellsB (cutV l fr m)) := by
  obtain ⟨⟨ao, ca, rfl, hb, hc1, hc2⟩, hl, hlen⟩ := hA
  refine ways (P := fun fr m => Calls Tryd.prog 36 #[.slice ao l.length ca, .int .i64 fr, .int .i64 m] w fun e w' => ∃ v', e = .returned (.tuple #[v', .int .i64 (errOf l.length fr m)]) ∧ New w w' 5 v' (cellsB (cutV l fr m))) l.length (fun fr m h => ?_) (fun fr m h1 h2 h => ?_) (fun fr m h => ?_) fr m hfr hm
  · refine (rcut_neg ao l.length ca fr m h w).mono ?_
    rintro e w' ⟨rfl, rfl⟩; unfold cutV; rw [errOf_neg h]; exact ⟨_, rfl, New.nil _ _⟩
  · refine (rcut_range ao l.length ca (by omega) fr m h1 h2 h w).mono ?_
    rintro e w' ⟨rfl, rfl⟩; unfold cutV; rw [errOf_range h]; exact ⟨_, rfl, New.nil _ _⟩
  · refine (rcut_ok ao ca l hl hlen fr m h w hb).mono ?_
    rintro e w' ⟨v', rfl, hk⟩; unfold cutV; rw [errOf_ok h, if_pos rfl]; exact ⟨_, rfl, hk⟩

theorem next_conv (l : List Nat) (fr m : Nat) (on : Bool) : (if fnd (bitAt l) on (fr + m) fr = fr + m then -1 else (fnd (bitAt l) on (fr + m) fr : Int) - fr) = nextOf (fun k => bitAt l (fr + k)) on m := by
  have h := fnd_shift (bitAt l) on fr m 0
  rw [Nat.add_zero] at h
  unfold nextOf
  rw [h]
  by_cases e : fnd (fun k => bitAt l (fr + k)) on m 0 = m
  · rw [if_pos (by omega), if_pos e]
  · rw [if_neg (by omega), if_neg e]
    omega

theorem next_all (v : Value) (l : List Nat) (on : Bool) (fr m : Int) (hfr : i64 fr) (hm : i64 m) (w : World) (hT : Tab w) (hA : MapAt w v l) :
    Calls Tryd.prog 21 #[v, .int .i64 fr, .int .i64 m, .bool on] w fun e w' => e = .returned (.int .i64 (nextV l fr m on)) ∧ Keeps w w' (fun _ => False) := by
  obtain ⟨⟨ao, ca, rfl, hb, hc1, hc2⟩, hl, hlen⟩ := hA
  refine ways (P := fun fr m => Calls Tryd.prog 21 #[.slice ao l.length ca, .int .i64 fr, .int .i64 m, .bool on] w fun e w' => e = .returned (.int .i64 (nextV l fr m on)) ∧ Keeps w w' (fun _ => False)) l.length (fun fr m h => ?_) (fun fr m h1 h2 h => ?_) (fun fr m h => ?_) fr m hfr hm
  · refine (next_neg ao l.length ca fr m on h w).mono ?_
    rintro e w' ⟨rfl, rfl⟩; unfold nextV; rw [errOf_neg h]; exact ⟨rfl, Keeps.refl _ _⟩
  · refine (next_range ao l.length ca (by omega) fr m on h1 h2 h w).mono ?_
    rintro e w' ⟨rfl, rfl⟩; unfold nextV; rw [errOf_range h]; exact ⟨rfl, Keeps.refl _ _⟩
  · refine (next_ok ao ca l hl (by omega) fr m on h w hT hb).mono ?_
    rintro e w' ⟨rfl, q, rfl⟩; unfold nextV; rw [errOf_ok h, if_pos rfl, next_conv]; exact ⟨rfl, (Keeps.refl _ _).drewN q⟩

theorem rnext_all (v : Value) (l : List Nat) (on : Bool) (fr m : Int) (hfr : i64 fr) (hm : i64 m) (w : World) (hA : MapAt w v l) :
    Calls Tryd.prog 39 #[v, .int .i64 fr, .int .i64 m, .bool on] w fun e w' => e = .returned (.int .i64 (nextV l fr m on)) ∧ Keeps w w' (fun _ => False) := by
  obtain ⟨⟨ao, ca, rfl, hb, hc1, hc2⟩, hl, hlen⟩ := hA
  refine ways (P := fun fr m => Calls Tryd.prog 39 #[.slice ao l.length ca, .int .i64 fr, .int .i64 m, .bool on] w fun e w' => e = .returned (.int .i64 (nextV l fr m on)) ∧ Keeps w w' (fun _ => False)) l.length (fun fr m h => ?_) (fun fr m h1 h2 h => ?_) (fun fr m h => ?_) fr m hfr hm
  · refine (rnext_neg ao l.length ca fr m on h w).mono ?_
    rintro e w' ⟨rfl, rfl⟩; unfold nextV; rw [errOf_neg h]; exact ⟨rfl, Keeps.refl _ _⟩
  · refine (rnext_range ao l.length ca (by omega) fr m on h1 h2 h w).mono ?_
    rintro e w' ⟨rfl, rfl⟩; unfold nextV; rw [errOf_range h]; exact ⟨rfl, Keeps.refl _ _⟩
  · refine (rnext_ok ao ca l hl hlen fr m on h w hb).mono ?_
    rintro e w' ⟨rfl, hk⟩; unfold nextV; rw [errOf_ok h, if_pos rfl]; exact ⟨rfl, hk⟩

theorem rruns_all (v : Value) (l : List Nat) (fr m : Int) (hfr : i64 fr) (hm : i64 m) (w : World) (hA : MapAt w v l) :
    Calls Tryd.prog 16 #[v, .int .i64 fr, .int .i64 m] w fun e w' => ∃ v', e = .returned v' ∧ NewS 2 w w' 50 v' (runsV l fr m).length (runCells (runsV l fr m)) := by
  obtain ⟨⟨ao, ca, rfl, hb, hc1, hc2⟩, hl, hlen⟩ := hA
  refine ways (P := fun fr m => Calls Tryd.prog 16 #[.slice ao l.length ca, .int .i64 fr, .int .i64 m] w fun e w' => ∃ v', e = .returned v' ∧ NewS 2 w w' 50 v' (runsV l fr m).length (runCells (runsV l fr m))) l.length (fun fr m h => ?_) (fun fr m h1 h2 h => ?_) (fun fr m h => ?_) fr m hfr hm
  · refine (rruns_neg ao l.length ca fr m h w).mono ?_
    rintro e w' ⟨rfl, rfl⟩; unfold runsV; rw [errOf_neg h]; exact ⟨_, rfl, NewS.nil _ _ _⟩
  · refine (rruns_range ao l.length ca (by omega) fr m h1 h2 h w).mono ?_
    rintro e w' ⟨rfl, rfl⟩; unfold runsV; rw [errOf_range h]; exact ⟨_, rfl, NewS.nil _ _ _⟩
  · refine (rruns_ok ao ca l hl hlen fr m h w hb).mono ?_
    rintro e w' ⟨v', rfl, hk⟩; unfold runsV; rw [errOf_ok h, if_pos rfl]; exact ⟨_, rfl, hk⟩

theorem place_conv (f : Nat → Bool) (k m : Nat) : placeOf f k m = .tuple #[.int .i64 (if (if pl f k m = m then (2 : Int) else 0) = 0 then (pl f k m : Nat) else 0 : Int), .int .i64 (if pl f k m = m then 2 else 0)] := by
  unfold placeOf
  by_cases h : pl f k m = m
  · simp [h]
  · simp [h]

theorem place_all (v : Value) (l : List Nat) (fr m k : Int) (hfr : i64 fr) (hm : i64 m) (hki : i64 k) (w : World) (hT : Tab w) (hA : MapAt w v l) :
    Calls Tryd.prog 31 #[v, .int .i64 fr, .int .i64 m, .int .i64 k] w fun e w' => e = .returned (.tuple #[.int .i64 (placeV l fr m k), .int .i64 (errP l fr m k)]) ∧ Keeps w w' (fun _ => False) := by
  obtain ⟨⟨ao, ca, rfl, hb, hc1, hc2⟩, hl, hlen⟩ := hA
  by_cases hk : k < 0
  · refine (place_negk ao l.length ca fr m k hk w).mono ?_
    rintro e w' ⟨rfl, hk'⟩
    have e : errP l fr m k = 1 := if_pos hk
    unfold placeV
    rw [e]
    exact ⟨rfl, hk'⟩
  · obtain ⟨k, rfl⟩ : ∃ a : Nat, k = a := ⟨k.toNat, by omega⟩
    refine ways (P := fun fr m => Calls Tryd.prog 31 #[.slice ao l.length ca, .int .i64 fr, .int .i64 m, .int .i64 k] w fun e w' => e = .returned (.tuple #[.int .i64 (placeV l fr m k), .int .i64 (errP l fr m k)]) ∧ Keeps w w' (fun _ => False)) l.length (fun fr m h => ?_) (fun fr m h1 h2 h => ?_) (fun fr m h => ?_) fr m hfr hm
    · refine (place_neg ao l.length ca fr m k (by omega) h w).mono ?_
      rintro e w' ⟨rfl, hk'⟩
      have e : errP l fr m k = 1 := by unfold errP; rw [if_neg hk, errOf_neg h]; rfl
      unfold placeV
      rw [e]
      exact ⟨rfl, hk'⟩
    · refine (place_range ao l.length ca (by omega) fr m k (by omega) h1 h2 h w).mono ?_
      rintro e w' ⟨rfl, hk'⟩
      have e : errP l fr m k = 2 := by unfold errP; rw [if_neg hk, errOf_range h]; rfl
      unfold placeV
      rw [e]
      exact ⟨rfl, hk'⟩
    · refine (place_ok ao ca l hl hlen hc1 hc2 fr m k (by have := hki.2; omega) h w hT hb).mono ?_
      rintro e w' ⟨rfl, hk'⟩
      have e : errP l fr m k = if pl (fun k => bitAt l (fr + k)) k m = m then 2 else 0 := by unfold errP; rw [if_neg hk, errOf_ok h]; rfl
      unfold placeV
      rw [e, place_conv]
      exact ⟨rfl, hk'⟩

theorem rplace_all (v : Value) (l : List Nat) (fr m k : Int) (hfr : i64 fr) (hm : i64 m) (hki : i64 k) (w : World) (hA : MapAt w v l) :
    Calls Tryd.prog 40 #[v, .int .i64 fr, .int .i64 m, .int .i64 k] w fun e w' => e = .returned (.tuple #[.int .i64 (placeV l fr m k), .int .i64 (errP l fr m k)]) ∧ Keeps w w' (fun _ => False) := by
  obtain ⟨⟨ao, ca, rfl, hb, hc1, hc2⟩, hl, hlen⟩ := hA
  by_cases hk : k < 0
  · refine (rplace_neg ao l.length ca fr m k (.inr (.inr hk)) w).mono ?_
    rintro e w' ⟨rfl, rfl⟩; have hk' := Keeps.refl w (fun _ => False)
    have e : errP l fr m k = 1 := if_pos hk
    unfold placeV
    rw [e]
    exact ⟨rfl, hk'⟩
  · obtain ⟨k, rfl⟩ : ∃ a : Nat, k = a := ⟨k.toNat, by omega⟩
    refine ways (P := fun fr m => Calls Tryd.prog 40 #[.slice ao l.length ca, .int .i64 fr, .int .i64 m, .int .i64 k] w fun e w' => e = .returned (.tuple #[.int .i64 (placeV l fr m k), .int .i64 (errP l fr m k)]) ∧ Keeps w w' (fun _ => False)) l.length (fun fr m h => ?_) (fun fr m h1 h2 h => ?_) (fun fr m h => ?_) fr m hfr hm
    · refine (rplace_neg ao l.length ca fr m k (by omega) w).mono ?_
      rintro e w' ⟨rfl, rfl⟩; have hk' := Keeps.refl w (fun _ => False)
      have e : errP l fr m k = 1 := by unfold errP; rw [if_neg hk, errOf_neg h]; rfl
      unfold placeV
      rw [e]
      exact ⟨rfl, hk'⟩
    · refine (rplace_range ao l.length ca (by omega) fr m k h1 h2 h w).mono ?_
      rintro e w' ⟨rfl, rfl⟩; have hk' := Keeps.refl w (fun _ => False)
      have e : errP l fr m k = 2 := by unfold errP; rw [if_neg hk, errOf_range h]; rfl
      unfold placeV
      rw [e]
      exact ⟨rfl, hk'⟩
    · refine (rplace_ok ao ca l hl hlen fr m k (by have := hki.2; omega) h w hb).mono ?_
      rintro e w' ⟨rfl, hk'⟩
      have e : errP l fr m k = if pl (fun k => bitAt l (fr + k)) k m = m then 2 else 0 := by unfold errP; rw [if_neg hk, errOf_ok h]; rfl
      unfold placeV
      rw [e, place_conv]
      exact ⟨rfl, hk'⟩

theorem and2_all (v u : Value) (l r : List Nat) (m : Int) (hm : i64 m) (w : World) (hA : MapAt w v l) (hB : MapAt w u r) :
    Calls Tryd.prog 27 #[v, u, .int .i64 m] w fun e w' => ∃ v', e = .returned (.tuple #[v', .int .i64 (errJ l.length r.length m)]) ∧ New w w' 5 v' (cellsB (joinV (fun a b => a && b) l r m)) := by
  obtain ⟨⟨ao, ca, rfl, hb, hc1, hc2⟩, hl, hlen⟩ := hA
  obtain ⟨⟨ao', ca', rfl, hb', hc1', hc2'⟩, hl', hlen'⟩ := hB
  unfold joinV
  by_cases h : m < 0
  · refine (and2_neg ao ao' l.length ca r.length ca' m h w).mono ?_
    rintro e w' ⟨rfl, rfl⟩; rw [errJ_neg h]; exact ⟨_, rfl, New.nil _ _⟩
  · obtain ⟨m, rfl⟩ : ∃ a : Nat, m = a := ⟨m.toNat, by omega⟩
    by_cases h2 : 8 * l.length < m ∨ 8 * r.length < m
    · refine (and2_range ao ao' l.length ca r.length ca' (by omega) (by omega) m (by have := hm.2; omega) h2 w).mono ?_
      rintro e w' ⟨rfl, rfl⟩; rw [errJ_range h2]; exact ⟨_, rfl, New.nil _ _⟩
    · refine (and2_ok ao ao' ca ca' l r hl hl' hlen hlen' m (by omega) (by omega) w hb hb').mono ?_
      rintro e w' ⟨v', rfl, hk⟩; rw [errJ_ok (by omega) (by omega), if_pos rfl]; exact ⟨_, rfl, hk⟩
theorem rand_all (v u : Value) (l r : List Nat) (m : Int) (hm : i64 m) (w : World) (hA : MapAt w v l) (hB : MapAt w u r) :
    Calls Tryd.prog 37 #[.int .i64 0, v, u, .int .i64 m] w fun e w' => ∃ v', e = .returned (.tuple #[v', .int .i64 (errJ l.length r.length m)]) ∧ New w w' 5 v' (cellsB (joinV (fun a b => a && b) l r m)) := by
  obtain ⟨⟨ao, ca, rfl, hb, hc1, hc2⟩, hl, hlen⟩ := hA
  obtain ⟨⟨ao', ca', rfl, hb', hc1', hc2'⟩, hl', hlen'⟩ := hB
  unfold joinV
  by_cases h : m < 0
  · refine (rjoined_neg 0 ao ao' l.length ca r.length ca' m h w).mono ?_
    rintro e w' ⟨rfl, rfl⟩; rw [errJ_neg h]; exact ⟨_, rfl, New.nil _ _⟩
  · obtain ⟨m, rfl⟩ : ∃ a : Nat, m = a := ⟨m.toNat, by omega⟩
    by_cases h2 : 8 * l.length < m ∨ 8 * r.length < m
    · refine (rjoined_range 0 ao ao' ca r.length ca' l hl hlen (by omega) m (by have := hm.2; omega) h2 w hb).mono ?_
      rintro e w' ⟨rfl, hk⟩; rw [errJ_range h2]; exact ⟨_, rfl, (New.nil w 5).kept hk⟩
    · refine (rjoined_and ao ao' ca ca' l r hl hl' hlen hlen' m (by omega) (by omega) w hb hb').mono ?_
      rintro e w' ⟨v', rfl, hk⟩; rw [errJ_ok (by omega) (by omega), if_pos rfl]; exact ⟨_, rfl, hk⟩

theorem or2_all (v u : Value) (l r : List Nat) (m : Int) (hm : i64 m) (w : World) (hA : MapAt w v l) (hB : MapAt w u r) :
    Calls Tryd.prog 28 #[v, u, .int .i64 m] w fun e w' => ∃ v', e = .returned (.tuple #[v', .int .i64 (errJ l.length r.length m)]) ∧ New w w' 5 v' (cellsB (joinV (fun a b => a || b) l r m)) := by
  obtain ⟨⟨ao, ca, rfl, hb, hc1, hc2⟩, hl, hlen⟩ := hA
  obtain ⟨⟨ao', ca', rfl, hb', hc1', hc2'⟩, hl', hlen'⟩ := hB
  unfold joinV
  by_cases h : m < 0
  · refine (or2_neg ao ao' l.length ca r.length ca' m h w).mono ?_
    rintro e w' ⟨rfl, rfl⟩; rw [errJ_neg h]; exact ⟨_, rfl, New.nil _ _⟩
  · obtain ⟨m, rfl⟩ : ∃ a : Nat, m = a := ⟨m.toNat, by omega⟩
    by_cases h2 : 8 * l.length < m ∨ 8 * r.length < m
    · refine (or2_range ao ao' l.length ca r.length ca' (by omega) (by omega) m (by have := hm.2; omega) h2 w).mono ?_
      rintro e w' ⟨rfl, rfl⟩; rw [errJ_range h2]; exact ⟨_, rfl, New.nil _ _⟩
    · refine (or2_ok ao ao' ca ca' l r hl hl' hlen hlen' m (by omega) (by omega) w hb hb').mono ?_
      rintro e w' ⟨v', rfl, hk⟩; rw [errJ_ok (by omega) (by omega), if_pos rfl]; exact ⟨_, rfl, hk⟩
theorem ror_all (v u : Value) (l r : List Nat) (m : Int) (hm : i64 m) (w : World) (hA : MapAt w v l) (hB : MapAt w u r) :
    Calls Tryd.prog 37 #[.int .i64 1, v, u, .int .i64 m] w fun e w' => ∃ v', e = .returned (.tuple #[v', .int .i64 (errJ l.length r.length m)]) ∧ New w w' 5 v' (cellsB (joinV (fun a b => a || b) l r m)) := by
  obtain ⟨⟨ao, ca, rfl, hb, hc1, hc2⟩, hl, hlen⟩ := hA
  obtain ⟨⟨ao', ca', rfl, hb', hc1', hc2'⟩, hl', hlen'⟩ := hB
  unfold joinV
  by_cases h : m < 0
  · refine (rjoined_neg 1 ao ao' l.length ca r.length ca' m h w).mono ?_
    rintro e w' ⟨rfl, rfl⟩; rw [errJ_neg h]; exact ⟨_, rfl, New.nil _ _⟩
  · obtain ⟨m, rfl⟩ : ∃ a : Nat, m = a := ⟨m.toNat, by omega⟩
    by_cases h2 : 8 * l.length < m ∨ 8 * r.length < m
    · refine (rjoined_range 1 ao ao' ca r.length ca' l hl hlen (by omega) m (by have := hm.2; omega) h2 w hb).mono ?_
      rintro e w' ⟨rfl, hk⟩; rw [errJ_range h2]; exact ⟨_, rfl, (New.nil w 5).kept hk⟩
    · refine (rjoined_or ao ao' ca ca' l r hl hl' hlen hlen' m (by omega) (by omega) w hb hb').mono ?_
      rintro e w' ⟨v', rfl, hk⟩; rw [errJ_ok (by omega) (by omega), if_pos rfl]; exact ⟨_, rfl, hk⟩

theorem xor2_all (v u : Value) (l r : List Nat) (m : Int) (hm : i64 m) (w : World) (hA : MapAt w v l) (hB : MapAt w u r) :
    Calls Tryd.prog 29 #[v, u, .int .i64 m] w fun e w' => ∃ v', e = .returned (.tuple #[v', .int .i64 (errJ l.length r.length m)]) ∧ New w w' 5 v' (cellsB (joinV (fun a b => a ^^ b) l r m)) := by
  obtain ⟨⟨ao, ca, rfl, hb, hc1, hc2⟩, hl, hlen⟩ := hA
  obtain ⟨⟨ao', ca', rfl, hb', hc1', hc2'⟩, hl', hlen'⟩ := hB
  unfold joinV
  by_cases h : m < 0
  · refine (xor2_neg ao ao' l.length ca r.length ca' m h w).mono ?_
    rintro e w' ⟨rfl, rfl⟩; rw [errJ_neg h]; exact ⟨_, rfl, New.nil _ _⟩
  · obtain ⟨m, rfl⟩ : ∃ a : Nat, m = a := ⟨m.toNat, by omega⟩
    by_cases h2 : 8 * l.length < m ∨ 8 * r.length < m
    · refine (xor2_range ao ao' l.length ca r.length ca' (by omega) (by omega) m (by have := hm.2; omega) h2 w).mono ?_
      rintro e w' ⟨rfl, rfl⟩; rw [errJ_range h2]; exact ⟨_, rfl, New.nil _ _⟩
    · refine (xor2_ok ao ao' ca ca' l r hl hl' hlen hlen' m (by omega) (by omega) w hb hb').mono ?_
      rintro e w' ⟨v', rfl, hk⟩; rw [errJ_ok (by omega) (by omega), if_pos rfl]; exact ⟨_, rfl, hk⟩
theorem rxor_all (v u : Value) (l r : List Nat) (m : Int) (hm : i64 m) (w : World) (hA : MapAt w v l) (hB : MapAt w u r) :
    Calls Tryd.prog 37 #[.int .i64 2, v, u, .int .i64 m] w fun e w' => ∃ v', e = .returned (.tuple #[v', .int .i64 (errJ l.length r.length m)]) ∧ New w w' 5 v' (cellsB (joinV (fun a b => a ^^ b) l r m)) := by
  obtain ⟨⟨ao, ca, rfl, hb, hc1, hc2⟩, hl, hlen⟩ := hA
  obtain ⟨⟨ao', ca', rfl, hb', hc1', hc2'⟩, hl', hlen'⟩ := hB
  unfold joinV
  by_cases h : m < 0
  · refine (rjoined_neg 2 ao ao' l.length ca r.length ca' m h w).mono ?_
    rintro e w' ⟨rfl, rfl⟩; rw [errJ_neg h]; exact ⟨_, rfl, New.nil _ _⟩
  · obtain ⟨m, rfl⟩ : ∃ a : Nat, m = a := ⟨m.toNat, by omega⟩
    by_cases h2 : 8 * l.length < m ∨ 8 * r.length < m
    · refine (rjoined_range 2 ao ao' ca r.length ca' l hl hlen (by omega) m (by have := hm.2; omega) h2 w hb).mono ?_
      rintro e w' ⟨rfl, hk⟩; rw [errJ_range h2]; exact ⟨_, rfl, (New.nil w 5).kept hk⟩
    · refine (rjoined_xor ao ao' ca ca' l r hl hl' hlen hlen' m (by omega) (by omega) w hb hb').mono ?_
      rintro e w' ⟨v', rfl, hk⟩; rw [errJ_ok (by omega) (by omega), if_pos rfl]; exact ⟨_, rfl, hk⟩

theorem not2_all (v : Value) (l : List Nat) (m : Int) (hm : i64 m) (w : World) (hA : MapAt w v l) :
    Calls Tryd.prog 30 #[v, .int .i64 m] w fun e w' => ∃ v', e = .returned (.tuple #[v', .int .i64 (errOf l.length 0 m)]) ∧ New w w' 5 v' (cellsB (notV l m)) := by
  obtain ⟨⟨ao, ca, rfl, hb, hc1, hc2⟩, hl, hlen⟩ := hA
  unfold notV
  by_cases h : m < 0
  · refine (not2_neg ao l.length ca m h w).mono ?_
    rintro e w' ⟨rfl, rfl⟩; rw [errOf_neg (.inr h)]; exact ⟨_, rfl, New.nil _ _⟩
  · obtain ⟨m, rfl⟩ : ∃ a : Nat, m = a := ⟨m.toNat, by omega⟩
    by_cases h2 : 8 * l.length < m
    · refine (not2_range ao l.length ca (by omega) m (by have := hm.2; omega) h2 w).mono ?_
      rintro e w' ⟨rfl, rfl⟩
      have e : errOf l.length 0 m = 2 := errOf_range (fr := 0) (by omega)
      rw [e]; exact ⟨_, rfl, New.nil _ _⟩
    · refine (not2_ok ao ca l hl hlen m (by omega) w hb).mono ?_
      rintro e w' ⟨v', rfl, hk⟩
      have e : errOf l.length 0 m = 0 := errOf_ok (fr := 0) (by omega)
      rw [e, if_pos rfl]; exact ⟨_, rfl, hk⟩

theorem rnot_all (v : Value) (l : List Nat) (m : Int) (hm : i64 m) (w : World) (hA : MapAt w v l) :
    Calls Tryd.prog 38 #[v, .int .i64 m] w fun e w' => ∃ v', e = .returned (.tuple #[v', .int .i64 (errOf l.length 0 m)]) ∧ New w w' 5 v' (cellsB (notV l m)) := by
  obtain ⟨⟨ao, ca, rfl, hb, hc1, hc2⟩, hl, hlen⟩ := hA
  unfold notV
  by_cases h : m < 0
  · refine (rnot_neg ao l.length ca m h w).mono ?_
    rintro e w' ⟨rfl, rfl⟩; rw [errOf_neg (.inr h)]; exact ⟨_, rfl, New.nil _ _⟩
  · obtain ⟨m, rfl⟩ : ∃ a : Nat, m = a := ⟨m.toNat, by omega⟩
    by_cases h2 : 8 * l.length < m
    · refine (rnot_range ao l.length ca (by omega) m (by have := hm.2; omega) h2 w).mono ?_
      rintro e w' ⟨rfl, rfl⟩
      have e : errOf l.length 0 m = 2 := errOf_range (fr := 0) (by omega)
      rw [e]; exact ⟨_, rfl, New.nil _ _⟩
    · refine (rnot_ok ao ca l hl hlen m (by omega) w hb).mono ?_
      rintro e w' ⟨v', rfl, hk⟩
      have e : errOf l.length 0 m = 0 := errOf_ok (fr := 0) (by omega)
      rw [e, if_pos rfl]; exact ⟨_, rfl, hk⟩

theorem need_all (m : Int) (hm : i64 m) (w : World) : Calls Tryd.prog 22 #[.int .i64 m] w fun e w' => e = .returned (.int .i64 (needV m)) ∧ w = w' := by
  unfold needV
  by_cases h : m < 0
  · rw [if_pos h]; exact need_neg m (by omega) w
  · rw [if_neg h]
    obtain ⟨m, rfl⟩ : ∃ a : Nat, m = a := ⟨m.toNat, by omega⟩
    exact need_pos m (by have := hm.2; omega) w
theorem rneed_all (m : Int) (hm : i64 m) (w : World) : Calls Tryd.prog 41 #[.int .i64 m] w fun e w' => e = .returned (.int .i64 (needV m)) ∧ w = w' := by
  unfold needV
  by_cases h : m < 0
  · rw [if_pos h]; exact rneed_neg m h w
  · rw [if_neg h]
    obtain ⟨m, rfl⟩ : ∃ a : Nat, m = a := ⟨m.toNat, by omega⟩
    exact rneed_pos m (by have := hm.2; omega) w
end Go.Proofs.YteppfammimbmcaaDoor.Kit
