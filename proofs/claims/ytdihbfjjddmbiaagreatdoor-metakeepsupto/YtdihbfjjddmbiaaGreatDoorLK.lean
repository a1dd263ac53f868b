import Derived.Test.YtdihbfjjddmbiaaGreatDoorRX
import Derived.Test.YtdihbfjjddmbiaaGreatDoorVC
import Derived.Deep.RegionHeld3
import Derived.Test.YtdihbfjjddmbiaaGreatDoorHA
import Derived.Test.YtdihbfjjddmbiaaGreatDoorLD
import Derived.Test.YtdihbfjjddmbiaaGreatDoorFG
set_option maxRecDepth 100000
set_option maxHeartbeats 4000000
namespace Go.Proofs.YtdihbfjjddmbiaaGreatDoor.Kit
open Go.RowKit Go.Shelf Go.Deep
set_option linter.unusedVariables false
attribute [local go_sem] run_store_func
def letB (c : Nat) : Bool := (decide (97 ≤ c) && decide (c ≤ 122)) || (decide (65 ≤ c) && decide (c ≤ 90)) || decide (c = 95)
def okc (j c : Nat) : Bool := letB c || (digitB c && decide (j ≠ 0))
theorem wordB_eq (c : Nat) : wordB c = (letB c || digitB c) := by
  unfold wordB letB
  cases decide (97 ≤ c) && decide (c ≤ 122) <;> cases decide (65 ≤ c) && decide (c ≤ 90) <;> cases digitB c <;> cases decide (c = 95) <;> rfl
theorem let_digit {c : Nat} (h : letB c = true) : digitB c = false := by
  unfold letB at h
  unfold digitB
  simp only [Bool.or_eq_true, Bool.and_eq_true, decide_eq_true_eq] at h
  rw [Bool.and_eq_false_iff]
  simp only [decide_eq_false_iff_not]
  omega
theorem byte_at (s : ByteArray) (k : Nat) (h : k < s.size) : s.data.toList[k]? = some (s[k]'h) := by rw [Array.getElem?_toList]; exact Array.getElem?_eq_getElem h
theorem name_yes {s : ByteArray} (h0 : 0 < s.size) (h1 : s.size ≤ 48) (h : ∀ j (hj : j < s.size), okc j (s[j]'hj).toNat = true) : nameB s = true := by
  have hb : s.data.toList[0]! = s[0]'h0 := by
    rw [getElem!_pos s.data.toList 0 (by simpa using h0)]
    rfl
  have e0 := h 0 h0
  unfold okc at e0
  simp at e0
  unfold nameB
  rw [hb]
  simp only [Bool.and_eq_true, decide_eq_true_eq, Bool.not_eq_true', List.all_eq_true]
  refine ⟨⟨⟨h0, h1⟩, let_digit e0⟩, fun b hb => ?_⟩
  obtain ⟨j, hj⟩ := List.mem_iff_getElem?.1 hb
  have hjl : j < s.size := by have := (List.getElem?_eq_some_iff.1 hj).1; simpa using this
  rw [byte_at s j hjl] at hj
  have := h j hjl
  cases hj
  rw [wordB_eq]
  unfold okc at this
  cases hl : letB (s[j]'hjl).toNat with
  | true => rfl
  | false => rw [hl] at this; simp at this; simp [this.1]
theorem name_no {s : ByteArray} {j : Nat} (hj : j < s.size) (h : okc j (s[j]'hj).toNat = false) : nameB s = false := by
  unfold okc at h
  simp only [Bool.or_eq_false_iff] at h
  obtain ⟨h1, h2⟩ := h
  cases hn : nameB s with
  | false => rfl
  | true =>
    exfalso
    unfold nameB at hn
    simp only [Bool.and_eq_true, decide_eq_true_eq, Bool.not_eq_true', List.all_eq_true] at hn
    obtain ⟨⟨⟨a1, a2⟩, a3⟩, a4⟩ := hn
    have hw := a4 (s[j]'hj) (List.mem_of_getElem? (byte_at s j hj))
    rw [wordB_eq, h1, Bool.false_or] at hw
    rw [hw] at h2
    have hj0 : j = 0 := by simpa using h2
    subst hj0
    have hb : s.data.toList[0]! = s[0]'hj := by
      rw [getElem!_pos s.data.toList 0 (by simpa using hj)]
      rfl
    rw [hb, hw] at a3
    cases a3
theorem namedR_any (s : ByteArray) (W : World) : Calls Tryz.prog 50 #[.string s] W fun e w' => e = .returned (.bool (nameB s)) ∧ w' = W := by
  go_enter Tryz.func50, Tryz.ntmps50
  by_cases h0 : s.size < 1
  · have HN : Hid (nameB s = false) := by show _ = _; unfold nameB; rw [show decide (0 < s.size) = false from decide_eq_false (by omega)]; rfl
    have h0I : (s.size : Int) < 1 := by omega
    go_wp2
    go_ret
    exact ⟨by rw [HN.out]; rfl, rfl⟩
  have h0I : ¬ (s.size : Int) < 1 := by omega
  by_cases h48 : 48 < s.size
  · have HN : Hid (nameB s = false) := by show _ = _; unfold nameB; rw [show decide (s.size ≤ 48) = false from decide_eq_false (by omega)]; simp
    have h48I : (48 : Int) < (s.size : Int) := by omega
    go_wp2
    go_ret
    exact ⟨by rw [HN.out]; rfl, rfl⟩
  have h48I : ¬ (48 : Int) < (s.size : Int) := by omega
  go_wp2
  go_loop [3] (fun i => ∃ k : Nat, k ≤ s.size ∧ i = .int .i64 (k : Int) ∧ Hid (∀ j (hj : j < s.size), j < k → okc j (s[j]'hj).toNat = true)) (fun i => s.size - (intOf i).toNat)
  case atStart => exact ⟨0, by omega, rfl, fun j hj h => by omega⟩
  case round =>
    obtain ⟨k, hk, rfl, HK⟩ := hrel
    by_cases hlt : k < s.size
    · have hltI : (k : Int) < (s.size : Int) := by omega
      have HStep : Hid (okc k (s[k]'hlt).toNat = true → ∀ j (hj : j < s.size), j < k + 1 → okc j (s[j]'hj).toNat = true) := fun h j hj hlt' => by
        by_cases e : j = k
        · subst e; exact h
        exact HK.out j hj (by omega)
      have HNo : Hid (okc k (s[k]'hlt).toNat = false → nameB s = false) := fun h => name_no hlt h
      have hC : (s[k]'hlt).toNat < 256 := UInt8.toNat_lt _
      by_cases r0 : (s[k]'hlt).toNat ≤ 47
      · skip
        have a97 : ¬ (97 : Int) ≤ ((s[k]'hlt).toNat : Int) := by omega
        have a65 : ¬ (65 : Int) ≤ ((s[k]'hlt).toNat : Int) := by omega
        have a48 : ¬ (48 : Int) ≤ ((s[k]'hlt).toNat : Int) := by omega
        have b122 : ((s[k]'hlt).toNat : Int) ≤ 122 := by omega
        have b90 : ((s[k]'hlt).toNat : Int) ≤ 90 := by omega
        have b57 : ((s[k]'hlt).toNat : Int) ≤ 57 := by omega
        have c95 : (((s[k]'hlt).toNat : Int) == 95) = false := beqF (by omega)
        have HOk : Hid (okc k (s[k]'hlt).toNat = false) := by show _ = _; unfold okc letB digitB; simp; omega
        clear hC r0
        go_wp2
        go_ret
        exact ⟨by rw [HNo.out HOk.out]; rfl, rfl⟩
      by_cases r1 : (s[k]'hlt).toNat ≤ 57
      · skip
        have a97 : ¬ (97 : Int) ≤ ((s[k]'hlt).toNat : Int) := by omega
        have a65 : ¬ (65 : Int) ≤ ((s[k]'hlt).toNat : Int) := by omega
        have a48 : (48 : Int) ≤ ((s[k]'hlt).toNat : Int) := by omega
        have b122 : ((s[k]'hlt).toNat : Int) ≤ 122 := by omega
        have b90 : ((s[k]'hlt).toNat : Int) ≤ 90 := by omega
        have b57 : ((s[k]'hlt).toNat : Int) ≤ 57 := by omega
        have c95 : (((s[k]'hlt).toNat : Int) == 95) = false := beqF (by omega)
        by_cases k0 : k = 0
        · have k0b : ((k : Int) == 0) = true := by simp [k0]
          have hd : decide (k ≠ 0) = false := by simp [k0]
          have HOk : Hid (okc k (s[k]'hlt).toNat = false) := by show _ = _; unfold okc letB digitB; rw [hd]; simp; omega
          clear hd
          clear k0 hC r0 r1
          go_wp2
          go_ret
          exact ⟨by rw [HNo.out HOk.out]; rfl, rfl⟩
        have k0b : ((k : Int) == 0) = false := beqF (by omega)
        have HOk : Hid (okc k (s[k]'hlt).toNat = true) := by show _ = _; unfold okc letB digitB; simp [k0]; omega
        clear k0 hC r0 r1
        go_wp2
        go_round
        case rel => exact ⟨k + 1, by omega, by simp, HStep.out HOk.out⟩
        case measure => simp [intOf]; omega
      by_cases r2 : (s[k]'hlt).toNat ≤ 64
      · skip
        have a97 : ¬ (97 : Int) ≤ ((s[k]'hlt).toNat : Int) := by omega
        have a65 : ¬ (65 : Int) ≤ ((s[k]'hlt).toNat : Int) := by omega
        have a48 : (48 : Int) ≤ ((s[k]'hlt).toNat : Int) := by omega
        have b122 : ((s[k]'hlt).toNat : Int) ≤ 122 := by omega
        have b90 : ((s[k]'hlt).toNat : Int) ≤ 90 := by omega
        have b57 : ¬ ((s[k]'hlt).toNat : Int) ≤ 57 := by omega
        have c95 : (((s[k]'hlt).toNat : Int) == 95) = false := beqF (by omega)
        have HOk : Hid (okc k (s[k]'hlt).toNat = false) := by show _ = _; unfold okc letB digitB; simp; omega
        clear hC r0 r1 r2
        go_wp2
        go_ret
        exact ⟨by rw [HNo.out HOk.out]; rfl, rfl⟩
      by_cases r3 : (s[k]'hlt).toNat ≤ 90
      · skip
        have a97 : ¬ (97 : Int) ≤ ((s[k]'hlt).toNat : Int) := by omega
        have a65 : (65 : Int) ≤ ((s[k]'hlt).toNat : Int) := by omega
        have a48 : (48 : Int) ≤ ((s[k]'hlt).toNat : Int) := by omega
        have b122 : ((s[k]'hlt).toNat : Int) ≤ 122 := by omega
        have b90 : ((s[k]'hlt).toNat : Int) ≤ 90 := by omega
        have b57 : ¬ ((s[k]'hlt).toNat : Int) ≤ 57 := by omega
        have c95 : (((s[k]'hlt).toNat : Int) == 95) = false := beqF (by omega)
        have HOk : Hid (okc k (s[k]'hlt).toNat = true) := by show _ = _; unfold okc letB; simp; omega
        clear hC r0 r1 r2 r3
        go_wp2
        go_round
        case rel => exact ⟨k + 1, by omega, by simp, HStep.out HOk.out⟩
        case measure => simp [intOf]; omega
      by_cases r4 : (s[k]'hlt).toNat ≤ 94
      · skip
        have a97 : ¬ (97 : Int) ≤ ((s[k]'hlt).toNat : Int) := by omega
        have a65 : (65 : Int) ≤ ((s[k]'hlt).toNat : Int) := by omega
        have a48 : (48 : Int) ≤ ((s[k]'hlt).toNat : Int) := by omega
        have b122 : ((s[k]'hlt).toNat : Int) ≤ 122 := by omega
        have b90 : ¬ ((s[k]'hlt).toNat : Int) ≤ 90 := by omega
        have b57 : ¬ ((s[k]'hlt).toNat : Int) ≤ 57 := by omega
        have c95 : (((s[k]'hlt).toNat : Int) == 95) = false := beqF (by omega)
        have HOk : Hid (okc k (s[k]'hlt).toNat = false) := by show _ = _; unfold okc letB digitB; simp; omega
        clear hC r0 r1 r2 r3 r4
        go_wp2
        go_ret
        exact ⟨by rw [HNo.out HOk.out]; rfl, rfl⟩
      by_cases r5 : (s[k]'hlt).toNat ≤ 95
      · skip
        have a97 : ¬ (97 : Int) ≤ ((s[k]'hlt).toNat : Int) := by omega
        have a65 : (65 : Int) ≤ ((s[k]'hlt).toNat : Int) := by omega
        have a48 : (48 : Int) ≤ ((s[k]'hlt).toNat : Int) := by omega
        have b122 : ((s[k]'hlt).toNat : Int) ≤ 122 := by omega
        have b90 : ¬ ((s[k]'hlt).toNat : Int) ≤ 90 := by omega
        have b57 : ¬ ((s[k]'hlt).toNat : Int) ≤ 57 := by omega
        have c95 : (((s[k]'hlt).toNat : Int) == 95) = true := by simp; omega
        have HOk : Hid (okc k (s[k]'hlt).toNat = true) := by show _ = _; unfold okc letB; simp; omega
        clear hC r0 r1 r2 r3 r4 r5
        go_wp2
        go_round
        case rel => exact ⟨k + 1, by omega, by simp, HStep.out HOk.out⟩
        case measure => simp [intOf]; omega
      by_cases r6 : (s[k]'hlt).toNat ≤ 96
      · skip
        have a97 : ¬ (97 : Int) ≤ ((s[k]'hlt).toNat : Int) := by omega
        have a65 : (65 : Int) ≤ ((s[k]'hlt).toNat : Int) := by omega
        have a48 : (48 : Int) ≤ ((s[k]'hlt).toNat : Int) := by omega
        have b122 : ((s[k]'hlt).toNat : Int) ≤ 122 := by omega
        have b90 : ¬ ((s[k]'hlt).toNat : Int) ≤ 90 := by omega
        have b57 : ¬ ((s[k]'hlt).toNat : Int) ≤ 57 := by omega
        have c95 : (((s[k]'hlt).toNat : Int) == 95) = false := beqF (by omega)
        have HOk : Hid (okc k (s[k]'hlt).toNat = false) := by show _ = _; unfold okc letB digitB; simp; omega
        clear hC r0 r1 r2 r3 r4 r5 r6
        go_wp2
        go_ret
        exact ⟨by rw [HNo.out HOk.out]; rfl, rfl⟩
      by_cases r7 : (s[k]'hlt).toNat ≤ 122
      · skip
        have a97 : (97 : Int) ≤ ((s[k]'hlt).toNat : Int) := by omega
        have a65 : (65 : Int) ≤ ((s[k]'hlt).toNat : Int) := by omega
        have a48 : (48 : Int) ≤ ((s[k]'hlt).toNat : Int) := by omega
        have b122 : ((s[k]'hlt).toNat : Int) ≤ 122 := by omega
        have b90 : ¬ ((s[k]'hlt).toNat : Int) ≤ 90 := by omega
        have b57 : ¬ ((s[k]'hlt).toNat : Int) ≤ 57 := by omega
        have c95 : (((s[k]'hlt).toNat : Int) == 95) = false := beqF (by omega)
        have HOk : Hid (okc k (s[k]'hlt).toNat = true) := by show _ = _; unfold okc letB; simp; omega
        clear hC r0 r1 r2 r3 r4 r5 r6 r7
        go_wp2
        go_round
        case rel => exact ⟨k + 1, by omega, by simp, HStep.out HOk.out⟩
        case measure => simp [intOf]; omega
      have a97 : (97 : Int) ≤ ((s[k]'hlt).toNat : Int) := by omega
      have a65 : (65 : Int) ≤ ((s[k]'hlt).toNat : Int) := by omega
      have a48 : (48 : Int) ≤ ((s[k]'hlt).toNat : Int) := by omega
      have b122 : ¬ ((s[k]'hlt).toNat : Int) ≤ 122 := by omega
      have b90 : ¬ ((s[k]'hlt).toNat : Int) ≤ 90 := by omega
      have b57 : ¬ ((s[k]'hlt).toNat : Int) ≤ 57 := by omega
      have c95 : (((s[k]'hlt).toNat : Int) == 95) = false := beqF (by omega)
      have HOk : Hid (okc k (s[k]'hlt).toNat = false) := by show _ = _; unfold okc letB digitB; simp; omega
      clear hC r0 r1 r2 r3 r4 r5 r6 r7
      go_wp2
      go_ret
      exact ⟨by rw [HNo.out HOk.out]; rfl, rfl⟩
    have hltI : ¬ (k : Int) < (s.size : Int) := by omega
    have HY : Hid (nameB s = true) := name_yes (by omega) (by omega) fun j hj => HK.out j hj (by omega)
    go_wp2
    go_ret
    exact ⟨by rw [HY.out]; rfl, rfl⟩
def unl (l : List FT) : Prop := ∀ i (hi : i < l.length) j (hj : j < l.length), j < i → sEq l[i].name l[j].name = false
theorem unlike_any (S : Nat → Prop) (d : Nat) (ao : Option Addr) (ca : Nat) (l : List FT) (W : World) (hr : RowAt S W d ao l) : Calls Tryz.prog 29 #[.slice ao l.length ca] W fun e w' => ∃ z : Bool, e = .returned (.bool z) ∧ Gr W w' ∧ (z = true ↔ unl l) := by
  have hlen : l.length ≤ 1000000000000 := hr.len
  have HR : Hid (l ≠ [] → ∃ b o, ao = some ⟨b, o, none⟩ ∧ ∀ i (h : i < l.length), W.cell? ⟨b, o + i * 7, none⟩ = some (.string l[i].name)) := fun hne => by
    cases d with
    | zero => exact absurd hr hne
    | succ d =>
      obtain ⟨b, o, e, _, h⟩ := hr.2 hne
      exact ⟨b, o, e, fun i hi => by obtain ⟨a, c, h1, _⟩ := h i hi; exact h1.c0⟩
  obtain ⟨L, hL⟩ : ∃ L, L = l.length := ⟨_, rfl⟩
  rw [← hL] at hlen ⊢
  have HL : Hid (L = l.length) := hL
  clear hr hL
  go_enter Tryz.func29, Tryz.ntmps29
  go_wp2
  go_loopw [3] (fun p wr => ∃ i : Nat, i ≤ L ∧ p = .int .i64 (i : Int) ∧ Hid (Gr W wr ∧ ∀ i' (hi : i' < l.length) j (hj : j < l.length), i' < i → j < i' → sEq l[i'].name l[j].name = false)) (fun p _ => L - (intOf p).toNat)
  case atStart => exact ⟨0, by omega, rfl, Keeps.refl _ _, fun i' hi j hj h => by omega⟩
  case round =>
    obtain ⟨i, hi, rfl, HK⟩ := hrel
    by_cases hlt : i < L
    · have hltI : (i : Int) < (L : Int) := by omega
      have hil : i < l.length := by rw [← HL.out]; exact hlt
      obtain ⟨b, o, hao, hcs⟩ := HR.out (fun e => by rw [e] at hil; simp at hil)
      have HC := hidM hcs
      have HIl := hidM hil
      subst hao
      clear hcs hil
      go_wp2
      go_loopw [4] (fun p wr' => ∃ j : Nat, j ≤ i ∧ p = .int .i64 (j : Int) ∧ Hid (Gr W wr' ∧ ∀ (hi : i < l.length) j' (hj : j' < l.length), j' < j → sEq l[i].name l[j'].name = false)) (fun p _ => i - (intOf p).toNat)
      case atStart => exact ⟨0, by omega, rfl, HK.out.1, fun hi j' hj h => by omega⟩
      case round =>
        obtain ⟨j, hj, rfl, HJ⟩ := hrel
        by_cases hji : j < i
        · have hjI : (j : Int) < (i : Int) := by omega
          have hil := HIl.out
          have hjl : j < l.length := by omega
          have HNx : Hid (sEq l[i].name l[j].name = false → ∀ (hi : i < l.length) j' (hj : j' < l.length), j' < j + 1 → sEq l[i].name l[j'].name = false) := fun h hi j' hj' hlt => by
            by_cases e : j' = j
            · subst e; exact h
            exact HJ.out.2 hi j' hj' (by omega)
          have HBad : Hid (sEq l[i].name l[j].name = true → ¬ unl l) := fun h hu => by
            have := hu i hil j hjl hji
            rw [h] at this; cases this
          obtain ⟨ni, hni⟩ : ∃ ni, ni = l[i].name := ⟨_, rfl⟩
          obtain ⟨nj, hnj⟩ : ∃ nj, nj = l[j].name := ⟨_, rfl⟩
          have g1 := HJ.out.1.cell' (HC.out i hil) id
          have g2 := HJ.out.1.cell' (HC.out j hjl) id
          rw [← hni] at g1
          rw [← hnj] at g2
          rw [← hni, ← hnj] at HNx HBad
          have HIN : Hid (Hid (Gr W wr.drew) ∧ wr.drew.cell? ⟨b, o + i * 7, none⟩ = some (.string ni) ∧ wr.drew.cell? ⟨b, o + j * 7, none⟩ = some (.string nj)) := ⟨HJ.out.1.tr gr_drew, g1, g2⟩
          have hi0 : (0 : Int) ≤ (i : Int) := by omega
          have hj0 : (0 : Int) ≤ (j : Int) := by omega
          have hjL : (j : Int) < (L : Int) := by omega
          unfold sEq at HNx HBad
          clear hni hnj g1 g2 hil hjl
          cases hse : (ni.toList == nj.toList) with
          | true =>
            go_wp2
            refine wp_region_held_drew (S := fun w' => Hid (Gr W w') ∧ w'.cell? ⟨b, o + i * 7, none⟩ = some (.string ni) ∧ w'.cell? ⟨b, o + j * 7, none⟩ = some (.string nj)) (by kernel_rfl) (HIN.out) (fun hHeld => ?_)
            refine tk 0 ?_
            refine tk 1 ?_
            refine tk 2 ?_
            refine tk 3 ?_
            refine tk 4 ?_
            refine tk 5 ?_
            refine tk 6 ?_
            refine tk 7 ?_
            refine tk 8 ?_
            refine tk 9 ?_
            refine tk 10 ?_
            refine wpAnyH_done (by kernel_rfl) ?_ _
            have HG := hidM hHeld.1.out
            clear hHeld HIN
            go_wp2
            go_ret
            first | exact .inl ⟨rfl, HG.out, HBad.out hse⟩ | exact ⟨false, rfl, HG.out, ⟨fun h => (by cases h), fun h => absurd h (HBad.out hse)⟩⟩
          | false =>
            go_wp2
            refine wp_region_held_drew (S := fun w' => Hid (Gr W w') ∧ w'.cell? ⟨b, o + i * 7, none⟩ = some (.string ni) ∧ w'.cell? ⟨b, o + j * 7, none⟩ = some (.string nj)) (by kernel_rfl) (HIN.out) (fun hHeld => ?_)
            refine tk 0 ?_
            refine tk 1 ?_
            refine tk 2 ?_
            refine tk 3 ?_
            refine tk 4 ?_
            refine tk 5 ?_
            refine tk 6 ?_
            refine tk 7 ?_
            refine tk 8 ?_
            refine tk 9 ?_
            refine tk 10 ?_
            refine wpAnyH_done (by kernel_rfl) ?_ _
            have HG := hidM hHeld.1.out
            clear hHeld HIN
            go_wp2
            go_roundw
            case rel => exact ⟨j + 1, by omega, by simp, HG.out, HNx.out hse⟩
            case measure => simp [intOf]; omega
        have hjI : ¬ (j : Int) < (i : Int) := by omega
        have HNx : Hid (Gr W wr ∧ ∀ i' (hi : i' < l.length) j (hj : j < l.length), i' < i + 1 → j < i' → sEq l[i'].name l[j].name = false) := by
          refine ⟨HJ.out.1, fun i' hi' j' hj' h1 h2 => ?_⟩
          by_cases e : i' = i
          · subst e; exact HJ.out.2 hi' j' hj' (by omega)
          exact HK.out.2 i' hi' j' hj' (by omega) h2
        clear HJ HK
        go_wp2
        go_roundw
        case rel => exact ⟨i + 1, by omega, by simp, HNx.out⟩
        case measure => simp [intOf]; omega
    have hltI : ¬ (i : Int) < (L : Int) := by omega
    have HU : Hid (unl l) := fun i' hi' j hj h => HK.out.2 i' hi' j hj (by have := HL.out; omega) h
    have HG := hidM HK.out.1
    clear HK
    go_wp2
    go_ret
    first | exact .inr ⟨rfl, HG.out, HU.out⟩ | exact ⟨true, rfl, HG.out, ⟨fun _ => HU.out, fun _ => rfl⟩⟩
end Go.Proofs.YtdihbfjjddmbiaaGreatDoor.Kit
namespace Go.Proofs.YtdihbfjjddmbiaaGreatDoor.Kit
open Go.RowKit Go.Shelf Go.Deep
set_option linter.unusedVariables false
attribute [local go_sem] run_store_func
theorem row_ne_box {W : World} {t n B : Nat} {v : Value} {xs : List Value} {c : Array Value} (h : W.ownsRow 0 3 1 v n xs) (hB : W.heap[B]? = some (.cells c t)) (ht : t ≠ 3) : v.ownBlock ≠ some B := fun e => by
  rcases h.2 with ⟨rfl, _⟩ | ⟨g, cap, cur, rfl, _, hg, _⟩
  · simp [Value.ownBlock] at e
  simp [Value.ownBlock] at e
  subst e
  rw [hg] at hB
  simp at hB
  exact ht hB.2.symm
end Go.Proofs.YtdihbfjjddmbiaaGreatDoor.Kit
namespace Go.Proofs.YtdihbfjjddmbiaaGreatDoor.Kit
open Go.RowKit Go.Shelf Go.Deep
def FaultIs (E : Int × Int) (N : List LS) (er : Int) (p : List Nat) (k : Int) : Prop :=
  (E.1 ≠ 0 ∧ er = E.1 ∧ p = [] ∧ k = E.2) ∨ (E.1 = 0 ∧ AllR N ∧ er = 0 ∧ p = [] ∧ k = 0) ∨
  (E.1 = 0 ∧ ∃ L x, (L ++ [x]) <+: N ∧ AllR L ∧ wrongE x L.length (tkL L) ≠ 0 ∧ er = wrongE x L.length (tkL L) ∧ p = x.path ∧ k = 0)
theorem FaultIs.one {E : Int × Int} {N : List LS} {er er' : Int} {p p' : List Nat} {k k' : Int} (h : FaultIs E N er p k) (h' : FaultIs E N er' p' k') : er = er' ∧ p = p' ∧ k = k' := by
  rcases h with ⟨a, rfl, rfl, rfl⟩ | ⟨a, b, rfl, rfl, rfl⟩ | ⟨a, L, x, h1, h2, h3, rfl, rfl, rfl⟩ <;> rcases h' with ⟨a', rfl, rfl, rfl⟩ | ⟨a', b', rfl, rfl, rfl⟩ | ⟨a', L', x', h1', h2', h3', rfl, rfl, rfl⟩
  · exact ⟨rfl, rfl, rfl⟩
  · exact absurd a' a
  · exact absurd a' a
  · exact absurd a a'
  · exact ⟨rfl, rfl, rfl⟩
  · exact absurd (b.pre h1') h3'
  · exact absurd a a'
  · exact absurd (b'.pre h1) h3
  obtain ⟨rfl, rfl⟩ := first_eq h1 h1' h2 h2' h3 h3'
  exact ⟨rfl, rfl, rfl⟩
end Go.Proofs.YtdihbfjjddmbiaaGreatDoor.Kit
namespace Go.Proofs.YtdihbfjjddmbiaaGreatDoor.Kit
open Go.RowKit Go.Shelf Go.Deep
set_option linter.unusedVariables false
attribute [local go_sem] run_store_func
theorem row_kp {W W' : World} {t s n : Nat} {v : Value} {xs : List Value} (h : W.ownsRow 0 t s v n xs) (e : ∀ g, v.ownBlock = some g → W'.heap[g]? = W.heap[g]?) : W'.ownsRow 0 t s v n xs := by
  refine ⟨h.1, h.2.imp id ?_⟩
  rintro ⟨g, cap, cur, rfl, h0, hg, r⟩
  exact ⟨g, cap, cur, rfl, h0, (e g rfl).trans hg, r⟩
theorem check_walk2 (fo no : Option Addr) (nf cf nn cn : Nat) (Q : Int → Option Addr → Nat → Nat → Int → World → Prop) (hQ : ∀ er vo vn vc tt A B b c, Q er vo vn vc tt A → A.heap[b]? = some (.cells c 67) → Keeps A B (fun k => k = b) → Q er vo vn vc tt B) (w : World)
    (hl : ∀ W, Gr w W → Calls Tryz.prog 52 #[.agg #[.slice fo nf cf, .slice no nn cn]] W fun e w' => ∃ er vo vn vc tt k, e = .returned (.tuple #[.agg #[.int .i64 er, .slice vo vn vc, .int .i64 tt], .int .i64 k]) ∧ Gr W w' ∧ Q er vo vn vc tt w') :
    ∀ W, Gr w W → Calls Tryz.prog 33 #[.agg #[.slice fo nf cf, .slice no nn cn]] W fun e w' => ∃ er vo vn vc tt, e = .returned (.agg #[.int .i64 er, .slice vo vn vc, .int .i64 tt]) ∧ Gr W w' ∧ Q er vo vn vc tt w' := by
  intro W g
  have HL : Hid (∀ W', Gr W W' → Calls Tryz.prog 52 #[.agg #[.slice fo nf cf, .slice no nn cn]] W' fun e w' => ∃ er vo vn vc tt k, e = .returned (.tuple #[.agg #[.int .i64 er, .slice vo vn vc, .int .i64 tt], .int .i64 k]) ∧ Gr W' w' ∧ Q er vo vn vc tt w') := fun W' g' => hl W' (g.tr g')
  have HQ : Hid _ := hQ
  clear hl g hQ
  have hx2 : ((W.alloc (.cells #[.slice fo nf cf, .slice no nn cn] 25)).alloc (.cells #[.int .i64 0, .slice none 0 0, .int .i64 0] 67)).heap[W.heap.size + 1]? = some (.cells #[.int .i64 0, .slice none 0 0, .int .i64 0] 67) := by
    have := World.alloc_heap_new (W.alloc (.cells #[.slice fo nf cf, .slice no nn cn] 25)) (.cells #[.int .i64 0, .slice none 0 0, .int .i64 0] 67)
    rw [World.size_alloc] at this
    exact this
  have HG0 : Hid (Gr W ((W.alloc (.cells #[.slice fo nf cf, .slice no nn cn] 25)).alloc (.cells #[.int .i64 0, .slice none 0 0, .int .i64 0] 67))) := (gr_alloc W _).alloc _
  have HX := hidM hx2
  clear hx2
  go_enter Tryz.func33, Tryz.ntmps33
  go_wp2_with (go_at_call 52; refine Hid.out ?_)
  unfold Hid
  refine Calls.mono (HL.out _ HG0.out) ?_
  rintro e W1 ⟨er, vo, vn, vc, tt, k, rfl, hg1, hq⟩
  have hx3 := (hg1.block _ (lt_of_heap HX.out) (fun h => h)).trans HX.out
  have hx4 : (W1.alloc (.cells #[.int .i64 er, .slice vo vn vc, .int .i64 tt] 67)).heap[W.heap.size + 1]? = _ := ((gr_alloc W1 _).block _ (lt_of_heap hx3) (fun h => h)).trans hx3
  obtain ⟨y0, y1, y2⟩ := cell3 hx4
  obtain ⟨y3, y4, y5⟩ := fz3 hx4
  have e0 := setc (j := 0) hx4 (.int .i64 er)
  have e1 := setc (j := 1) e0 (.slice vo vn vc)
  have e2 := setc (j := 2) e1 (.int .i64 tt)
  have k5 : Keeps (W1.alloc (.cells #[.int .i64 er, .slice vo vn vc, .int .i64 tt] 67)) _ (fun b => b = W.heap.size + 1) := keep1 (j := 2) (keep1 (j := 1) (keep1 (j := 0) (Keeps.refl (W1.alloc (.cells #[.int .i64 er, .slice vo vn vc, .int .i64 tt] 67)) (fun b => b = W.heap.size + 1)) (.int .i64 er)) (.slice vo vn vc)) (.int .i64 tt)
  have HE := hidM (And.intro e2 (And.intro k5 (And.intro hg1 (And.intro hq hx3))))
  clear hx3 hx4 e0 e1 e2 k5 hg1 hq
  go_wp2_with fail
  obtain ⟨e2, k5, hg1, hq, hx3⟩ := HE.out
  have hk : Keeps W1 _ (fun b => b = W.heap.size + 1) := (Keeps.trans (S := fun b => b = W.heap.size + 1) ((gr_alloc W1 _).mono fun _ _ h => h.elim) k5 (fun _ _ h => h))
  have hqe := HQ.out _ _ _ _ _ _ _ _ _ hq hx3 hk
  have hge := (HG0.out.tr hg1).trans hk (fun j hj h => by omega)
  obtain ⟨v0, v1, v2⟩ := cell3 (e2.trans (by simp : _ = some (Obj.cells #[.int .i64 er, .slice vo vn vc, .int .i64 tt] 67 (0, 0))))
  refine bodyPost_ret (v := .agg #[.int .i64 er, .slice vo vn vc, .int .i64 tt]) ?_ rfl ⟨er, vo, vn, vc, tt, rfl, hge, hqe⟩
  simp [results, Tryz.f33, go_sem, v0, v1, v2]
def FaultQ (E : Int × Int) (N : List LS) (er : Int) (vo : Option Addr) (vn vc : Nat) (k : Int) (W : World) : Prop := ∃ p : List Nat, p.length = vn ∧ FaultIs E N er p k ∧ W.ownsRow 0 3 1 (.slice vo vn vc) vn (ints p)
theorem FaultQ.kept (E : Int × Int) (N : List LS) (er : Int) (vo : Option Addr) (vn vc : Nat) (k : Int) (A B : World) (b : Nat) (c : Array Value) (h : FaultQ E N er vo vn vc k A) (hb : A.heap[b]? = some (.cells c 67)) (hk : Keeps A B (fun k => k = b)) : FaultQ E N er vo vn vc k B := by
  obtain ⟨p, h1, h2, h3⟩ := h
  exact ⟨p, h1, h2, row_kp h3 fun q e => hk.block q (own_lt h3 q e) fun h => row_ne_box h3 hb (by decide) (by rw [e, h])⟩
theorem check_fault {S : Nat → Prop} {D : Nat} {fo no : Option Addr} {cf cn : Nat} {fs : List FT} {ns : List (ByteArray × ByteArray)} {w : World} (hT : Tab w) (hr : RowAt S w D fo fs) (hcf : fs.length ≤ cf) (hD : D ≤ big) (hS : ∀ b, S b → b < w.heap.size) (hn : NotesAt w no ns) :
    ∀ W, Gr w W → Calls Tryz.prog 33 #[.agg #[.slice fo fs.length cf, .slice no ns.length cn]] W fun e w' => ∃ er vo vn vc tt, e = .returned (.agg #[.int .i64 er, .slice vo vn vc, .int .i64 tt]) ∧ Gr W w' ∧ FaultQ (listsE fs.length ns) (nodes D fs [] false) er vo vn vc tt w' := by
  refine check_walk2 fo no fs.length cf ns.length cn _ (FaultQ.kept _ _) w fun W g => ?_
  refine Calls.mono (look_walk S D fo no cf cn fs ns W (hT.gr g) (hr.kept fun b hb => g.block b (hS b hb) id) hcf hD (fun b hb => by have := hS b hb; have := g.size; omega) (hn.gr g)) ?_
  rintro e w' ⟨hg, h | h | h⟩
  · obtain ⟨h1, rfl⟩ := h
    exact ⟨_, none, 0, 0, _, 0, rfl, hg, [], rfl, .inl ⟨h1, rfl, rfl, rfl⟩, World.ownsRow_nil _ _ _ _⟩
  · obtain ⟨h1, h2, rfl⟩ := h
    exact ⟨0, none, 0, 0, 0, _, rfl, hg, [], rfl, .inr (.inl ⟨h1, h2, rfl, rfl, rfl⟩), World.ownsRow_nil _ _ _ _⟩
  obtain ⟨h1, L, x, vo, vc, h2, h3, h4, rfl, h5, h6⟩ := h
  exact ⟨_, vo, _, vc, 0, _, rfl, hg, x.path, rfl, .inr (.inr ⟨h1, L, x, h2, h3, h4, rfl, rfl, rfl⟩), h5⟩
end Go.Proofs.YtdihbfjjddmbiaaGreatDoor.Kit
