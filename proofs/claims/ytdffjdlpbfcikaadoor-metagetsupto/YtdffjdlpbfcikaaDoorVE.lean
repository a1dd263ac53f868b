import Derived.Test.YtdffjdlpbfcikaaDoorVC
import Derived.Deep.RegionHeld3
namespace Go.Proofs.YtdffjdlpbfcikaaDoor.Kit
open Go.RowKit Go.Shelf Go.Deep
set_option linter.unusedVariables false
attribute [local go_sem] run_store_func

def letB (c : Nat) : Bool := (decide (97 ≤ c) && decide (c ≤ 122)) || (decide (65 ≤ c) && decide (c ≤ 90)) || decide (c = 95)
def okc (j c : Nat) : Bool := letB c || (digitB c && decide (j ≠ 0))
theorem wordB_eq (c : Nat) : wordB c = (letB c || digitB c) := by
  unfold wordB letB
  cases decide (97 ≤ c) && decide (c ≤ 122) <;> cases decide (65 ≤ c) && decide (c ≤ 90) <;> cases digitB c <;> cases decide (c = 95) <;> rfl
theorem let_digit {c : Nat} (h : letB c = true) : digitB c = false := by
  unfold letB at h
  unfold digitB
  simp only [Bool.or_eq_true, Bool.and_eq_true, decide_eq_true_eq] at h
  rw [Bool.and_eq_false_iff]
  simp only [decide_eq_false_iff_not]
  omega
theorem byte_at (s : ByteArray) (k : Nat) (h : k < s.size) : s.data.toList[k]? = some (s[k]'h) := by rw [Array.getElem?_toList]; exact Array.getElem?_eq_getElem h
theorem name_yes {s : ByteArray} (h0 : 0 < s.size) (h1 : s.size ≤ 48) (h : ∀ j (hj : j < s.size), okc j (s[j]'hj).toNat = true) : nameB s = true := by
  have hb : s.data.toList[0]! = s[0]'h0 := by
    rw [getElem!_pos s.data.toList 0 (by simpa using h0)]
    rfl
  have e0 := h 0 h0
  unfold okc at e0
  simp at e0
  unfold nameB
  rw [hb]
  simp only [Bool.and_eq_true, decide_eq_true_eq, Bool.not_eq_true', List.all_eq_true]
  refine ⟨⟨⟨h0, h1⟩, let_digit e0⟩, fun b hb => ?_⟩
  obtain ⟨j, hj⟩ := List.mem_iff_getElem?.1 hb
  have hjl : j < s.size := by have := (List.getElem?_eq_some_iff.1 hj).1; simpa using this
  rw [byte_at s j hjl] at hj
  have := h j hjl
  cases hj
  rw [wordB_eq]
  unfold okc at this
  cases hl : letB (s[j]'hjl).toNat with
  | true => rfl
  | false => rw [hl] at this; simp at this; simp [this.1]
theorem name_no {s : ByteArray} {j : Nat} (hj : j < s.size) (h : okc j (s[j]'hj).toNat = false) : nameB s = false := by
  unfold okc at h
  simp only [Bool.or_eq_false_iff] at h
  obtain ⟨h1, h2⟩ := h
  cases hn : nameB s with
  | false => rfl
  | true =>
    exfalso
    unfold nameB at hn
    simp only [Bool.and_eq_true, decide_eq_true_eq, Bool.not_eq_true', List.all_eq_true] at hn
    obtain ⟨⟨⟨a1, a2⟩, a3⟩, a4⟩ := hn
    have hw := a4 (s[j]'hj) (List.mem_of_getElem? (byte_at s j hj))
    rw [wordB_eq, h1, Bool.false_or] at hw
    rw [hw] at h2
    have hj0 : j = 0 := by simpa using h2
    subst hj0
    have hb : s.data.toList[0]! = s[0]'hj := by
      rw [getElem!_pos s.data.toList 0 (by simpa using hj)]
      rfl
    rw [hb, hw] at a3
    cases a3
set_option maxRecDepth 100000 in
set_option maxHeartbeats 4000000 in
theorem namedR_any (s : ByteArray) (W : World) : Calls Tryd.prog 63 #[.string s] W fun e w' => e = .returned (.bool (nameB s)) ∧ w' = W := by
  go_enter Tryd.func63, Tryd.ntmps63
  by_cases h0 : s.size < 1
  · have HN : Hid (nameB s = false) := by show _ = _; unfold nameB; rw [show decide (0 < s.size) = false from decide_eq_false (by omega)]; rfl
    have h0I : (s.size : Int) < 1 := by omega
    go_wp2
    go_ret
    exact ⟨by rw [HN.out]; rfl, rfl⟩
  have h0I : ¬ (s.size : Int) < 1 := by omega
  by_cases h48 : 48 < s.size
  · have HN : Hid (nameB s = false) := by show _ = _; unfold nameB; rw [show decide (s.size ≤ 48) = false from decide_eq_false (by omega)]; simp
    have h48I : (48 : Int) < (s.size : Int) := by omega
    go_wp2
    go_ret
    exact ⟨by rw [HN.out]; rfl, rfl⟩
  have h48I : ¬ (48 : Int) < (s.size : Int) := by omega
  go_wp2
  go_loop [3] (fun i => ∃ k : Nat, k ≤ s.size ∧ i = .int .i64 (k : Int) ∧ Hid (∀ j (hj : j < s.size), j < k → okc j (s[j]'hj).toNat = true)) (fun i => s.size - (intOf i).toNat)
  case atStart => exact ⟨0, by omega, rfl, fun j hj h => by omega⟩
  case round =>
    obtain ⟨k, hk, rfl, HK⟩ := hrel
    by_cases hlt : k < s.size
    · have hltI : (k : Int) < (s.size : Int) := by omega
      have HStep : Hid (okc k (s[k]'hlt).toNat = true → ∀ j (hj : j < s.size), j < k + 1 → okc j (s[j]'hj).toNat = true) := fun h j hj hlt' => by
        by_cases e : j = k
        · subst e; exact h
        · exact HK.out j hj (by omega)
      have HNo : Hid (okc k (s[k]'hlt).toNat = false → nameB s = false) := fun h => name_no hlt h
      have hC : (s[k]'hlt).toNat < 256 := UInt8.toNat_lt _
      by_cases r0 : (s[k]'hlt).toNat ≤ 47
      · skip
        have a97 : ¬ (97 : Int) ≤ ((s[k]'hlt).toNat : Int) := by omega
        have a65 : ¬ (65 : Int) ≤ ((s[k]'hlt).toNat : Int) := by omega
        have a48 : ¬ (48 : Int) ≤ ((s[k]'hlt).toNat : Int) := by omega
        have b122 : ((s[k]'hlt).toNat : Int) ≤ 122 := by omega
        have b90 : ((s[k]'hlt).toNat : Int) ≤ 90 := by omega
        have b57 : ((s[k]'hlt).toNat : Int) ≤ 57 := by omega
        have c95 : (((s[k]'hlt).toNat : Int) == 95) = false := beqF (by omega)
        have HOk : Hid (okc k (s[k]'hlt).toNat = false) := by show _ = _; unfold okc letB digitB; simp; omega
        clear hC r0
        go_wp2
        go_ret
        exact ⟨by rw [HNo.out HOk.out]; rfl, rfl⟩
      by_cases r1 : (s[k]'hlt).toNat ≤ 57
      · skip
        have a97 : ¬ (97 : Int) ≤ ((s[k]'hlt).toNat : Int) := by omega
        have a65 : ¬ (65 : Int) ≤ ((s[k]'hlt).toNat : Int) := by omega
        have a48 : (48 : Int) ≤ ((s[k]'hlt).toNat : Int) := by omega
        have b122 : ((s[k]'hlt).toNat : Int) ≤ 122 := by omega
        have b90 : ((s[k]'hlt).toNat : Int) ≤ 90 := by omega
        have b57 : ((s[k]'hlt).toNat : Int) ≤ 57 := by omega
        have c95 : (((s[k]'hlt).toNat : Int) == 95) = false := beqF (by omega)
        by_cases k0 : k = 0
        · have k0b : ((k : Int) == 0) = true := by simp [k0]
          have hd : decide (k ≠ 0) = false := by simp [k0]
          have HOk : Hid (okc k (s[k]'hlt).toNat = false) := by show _ = _; unfold okc letB digitB; rw [hd]; simp; omega
          clear hd
          clear k0 hC r0 r1
          go_wp2
          go_ret
          exact ⟨by rw [HNo.out HOk.out]; rfl, rfl⟩
        · have k0b : ((k : Int) == 0) = false := beqF (by omega)
          have HOk : Hid (okc k (s[k]'hlt).toNat = true) := by show _ = _; unfold okc letB digitB; simp [k0]; omega
          clear k0 hC r0 r1
          go_wp2
          go_round
          case rel => exact ⟨k + 1, by omega, by simp, HStep.out HOk.out⟩
          case measure => simp [intOf]; omega
      by_cases r2 : (s[k]'hlt).toNat ≤ 64
      · skip
        have a97 : ¬ (97 : Int) ≤ ((s[k]'hlt).toNat : Int) := by omega
        have a65 : ¬ (65 : Int) ≤ ((s[k]'hlt).toNat : Int) := by omega
        have a48 : (48 : Int) ≤ ((s[k]'hlt).toNat : Int) := by omega
        have b122 : ((s[k]'hlt).toNat : Int) ≤ 122 := by omega
        have b90 : ((s[k]'hlt).toNat : Int) ≤ 90 := by omega
        have b57 : ¬ ((s[k]'hlt).toNat : Int) ≤ 57 := by omega
        have c95 : (((s[k]'hlt).toNat : Int) == 95) = false := beqF (by omega)
        have HOk : Hid (okc k (s[k]'hlt).toNat = false) := by show _ = _; unfold okc letB digitB; simp; omega
        clear hC r0 r1 r2
        go_wp2
        go_ret
        exact ⟨by rw [HNo.out HOk.out]; rfl, rfl⟩
      by_cases r3 : (s[k]'hlt).toNat ≤ 90
      · skip
        have a97 : ¬ (97 : Int) ≤ ((s[k]'hlt).toNat : Int) := by omega
        have a65 : (65 : Int) ≤ ((s[k]'hlt).toNat : Int) := by omega
        have a48 : (48 : Int) ≤ ((s[k]'hlt).toNat : Int) := by omega
        have b122 : ((s[k]'hlt).toNat : Int) ≤ 122 := by omega
        have b90 : ((s[k]'hlt).toNat : Int) ≤ 90 := by omega
        have b57 : ¬ ((s[k]'hlt).toNat : Int) ≤ 57 := by omega
        have c95 : (((s[k]'hlt).toNat : Int) == 95) = false := beqF (by omega)
        have HOk : Hid (okc k (s[k]'hlt).toNat = true) := by show _ = _; unfold okc letB; simp; omega
        clear hC r0 r1 r2 r3
        go_wp2
        go_round
        case rel => exact ⟨k + 1, by omega, by simp, HStep.out HOk.out⟩
        case measure => simp [intOf]; omega
      by_cases r4 : (s[k]'hlt).toNat ≤ 94
      · skip
        have a97 : ¬ (97 : Int) ≤ ((s[k]'hlt).toNat : Int) := by omega
        have a65 : (65 : Int) ≤ ((s[k]'hlt).toNat : Int) := by omega
        have a48 : (48 : Int) ≤ ((s[k]'hlt).toNat : Int) := by omega
        have b122 : ((s[k]'hlt).toNat : Int) ≤ 122 := by omega
        have b90 : ¬ ((s[k]'hlt).toNat : Int) ≤ 90 := by omega
        have b57 : ¬ ((s[k]'hlt).toNat : Int) ≤ 57 := by omega
        have c95 : (((s[k]'hlt).toNat : Int) == 95) = false := beqF (by omega)
        have HOk : Hid (okc k (s[k]'hlt).toNat = false) := by show _ = _; unfold okc letB digitB; simp; omega
        clear hC r0 r1 r2 r3 r4
        go_wp2
        go_ret
        exact ⟨by rw [HNo.out HOk.out]; rfl, rfl⟩
      by_cases r5 : (s[k]'hlt).toNat ≤ 95
      · skip
        have a97 : ¬ (97 : Int) ≤ ((s[k]'hlt).toNat : Int) := by omega
        have a65 : (65 : Int) ≤ ((s[k]'hlt).toNat : Int) := by omega
        have a48 : (48 : Int) ≤ ((s[k]'hlt).toNat : Int) := by omega
        have b122 : ((s[k]'hlt).toNat : Int) ≤ 122 := by omega
        have b90 : ¬ ((s[k]'hlt).toNat : Int) ≤ 90 := by omega
        have b57 : ¬ ((s[k]'hlt).toNat : Int) ≤ 57 := by omega
        have c95 : (((s[k]'hlt).toNat : Int) == 95) = true := by simp; omega
        have HOk : Hid (okc k (s[k]'hlt).toNat = true) := by show _ = _; unfold okc letB; simp; omega
        clear hC r0 r1 r2 r3 r4 r5
        go_wp2
        go_round
        case rel => exact ⟨k + 1, by omega, by simp, HStep.out HOk.out⟩
        case measure => simp [intOf]; omega
      by_cases r6 : (s[k]'hlt).toNat ≤ 96
      · skip
        have a97 : ¬ (97 : Int) ≤ ((s[k]'hlt).toNat : Int) := by omega
        have a65 : (65 : Int) ≤ ((s[k]'hlt).toNat : Int) := by omega
        have a48 : (48 : Int) ≤ ((s[k]'hlt).toNat : Int) := by omega
        have b122 : ((s[k]'hlt).toNat : Int) ≤ 122 := by omega
        have b90 : ¬ ((s[k]'hlt).toNat : Int) ≤ 90 := by omega
        have b57 : ¬ ((s[k]'hlt).toNat : Int) ≤ 57 := by omega
        have c95 : (((s[k]'hlt).toNat : Int) == 95) = false := beqF (by omega)
        have HOk : Hid (okc k (s[k]'hlt).toNat = false) := by show _ = _; unfold okc letB digitB; simp; omega
        clear hC r0 r1 r2 r3 r4 r5 r6
        go_wp2
        go_ret
        exact ⟨by rw [HNo.out HOk.out]; rfl, rfl⟩
      by_cases r7 : (s[k]'hlt).toNat ≤ 122
      · skip
        have a97 : (97 : Int) ≤ ((s[k]'hlt).toNat : Int) := by omega
        have a65 : (65 : Int) ≤ ((s[k]'hlt).toNat : Int) := by omega
        have a48 : (48 : Int) ≤ ((s[k]'hlt).toNat : Int) := by omega
        have b122 : ((s[k]'hlt).toNat : Int) ≤ 122 := by omega
        have b90 : ¬ ((s[k]'hlt).toNat : Int) ≤ 90 := by omega
        have b57 : ¬ ((s[k]'hlt).toNat : Int) ≤ 57 := by omega
        have c95 : (((s[k]'hlt).toNat : Int) == 95) = false := beqF (by omega)
        have HOk : Hid (okc k (s[k]'hlt).toNat = true) := by show _ = _; unfold okc letB; simp; omega
        clear hC r0 r1 r2 r3 r4 r5 r6 r7
        go_wp2
        go_round
        case rel => exact ⟨k + 1, by omega, by simp, HStep.out HOk.out⟩
        case measure => simp [intOf]; omega
      have a97 : (97 : Int) ≤ ((s[k]'hlt).toNat : Int) := by omega
      have a65 : (65 : Int) ≤ ((s[k]'hlt).toNat : Int) := by omega
      have a48 : (48 : Int) ≤ ((s[k]'hlt).toNat : Int) := by omega
      have b122 : ¬ ((s[k]'hlt).toNat : Int) ≤ 122 := by omega
      have b90 : ¬ ((s[k]'hlt).toNat : Int) ≤ 90 := by omega
      have b57 : ¬ ((s[k]'hlt).toNat : Int) ≤ 57 := by omega
      have c95 : (((s[k]'hlt).toNat : Int) == 95) = false := beqF (by omega)
      have HOk : Hid (okc k (s[k]'hlt).toNat = false) := by show _ = _; unfold okc letB digitB; simp; omega
      clear hC r0 r1 r2 r3 r4 r5 r6 r7
      go_wp2
      go_ret
      exact ⟨by rw [HNo.out HOk.out]; rfl, rfl⟩
    · have hltI : ¬ (k : Int) < (s.size : Int) := by omega
      have HY : Hid (nameB s = true) := name_yes (by omega) (by omega) fun j hj => HK.out j hj (by omega)
      go_wp2
      go_ret
      exact ⟨by rw [HY.out]; rfl, rfl⟩
/-- no two names are one -/
def unl (l : List FT) : Prop := ∀ i (hi : i < l.length) j (hj : j < l.length), j < i → sEq l[i].name l[j].name = false
set_option maxRecDepth 100000 in
set_option maxHeartbeats 4000000 in
theorem unlike_any (S : Nat → Prop) (d : Nat) (ao : Option Addr) (ca : Nat) (l : List FT) (W : World) (hr : RowAt S W d ao l) : Calls Tryd.prog 50 #[.slice ao l.length ca] W fun e w' => ∃ z : Bool, e = .returned (.bool z) ∧ Gr W w' ∧ (z = true ↔ unl l) := by
  have hlen : l.length ≤ 1000000000000 := hr.len
  have HR : Hid (l ≠ [] → ∃ b o, ao = some ⟨b, o, none⟩ ∧ ∀ i (h : i < l.length), W.cell? ⟨b, o + i * 7, none⟩ = some (.string l[i].name)) := fun hne => by
    cases d with
    | zero => exact absurd hr hne
    | succ d =>
      obtain ⟨b, o, e, _, h⟩ := hr.2 hne
      exact ⟨b, o, e, fun i hi => by obtain ⟨a, c, h1, _⟩ := h i hi; exact h1.c0⟩
  obtain ⟨L, hL⟩ : ∃ L, L = l.length := ⟨_, rfl⟩
  rw [← hL] at hlen ⊢
  have HL : Hid (L = l.length) := hL
  clear hr hL
  go_enter Tryd.func50, Tryd.ntmps50
  go_wp2
  go_loopw [3] (fun p wr => ∃ i : Nat, i ≤ L ∧ p = .int .i64 (i : Int) ∧ Hid (Gr W wr ∧ ∀ i' (hi : i' < l.length) j (hj : j < l.length), i' < i → j < i' → sEq l[i'].name l[j].name = false)) (fun p _ => L - (intOf p).toNat)
  case atStart => exact ⟨0, by omega, rfl, Keeps.refl _ _, fun i' hi j hj h => by omega⟩
  case round =>
    obtain ⟨i, hi, rfl, HK⟩ := hrel
    by_cases hlt : i < L
    · have hltI : (i : Int) < (L : Int) := by omega
      have hil : i < l.length := by rw [← HL.out]; exact hlt
      obtain ⟨b, o, hao, hcs⟩ := HR.out (fun e => by rw [e] at hil; simp at hil)
      have HC := hidM hcs
      have HIl := hidM hil
      subst hao
      clear hcs hil
      go_wp2
      go_loopw [4] (fun p wr' => ∃ j : Nat, j ≤ i ∧ p = .int .i64 (j : Int) ∧ Hid (Gr W wr' ∧ ∀ (hi : i < l.length) j' (hj : j' < l.length), j' < j → sEq l[i].name l[j'].name = false)) (fun p _ => i - (intOf p).toNat)
      case atStart => exact ⟨0, by omega, rfl, HK.out.1, fun hi j' hj h => by omega⟩
      case round =>
        obtain ⟨j, hj, rfl, HJ⟩ := hrel
        by_cases hji : j < i
        · have hjI : (j : Int) < (i : Int) := by omega
          have hil := HIl.out
          have hjl : j < l.length := by omega
          have HNx : Hid (sEq l[i].name l[j].name = false → ∀ (hi : i < l.length) j' (hj : j' < l.length), j' < j + 1 → sEq l[i].name l[j'].name = false) := fun h hi j' hj' hlt => by
            by_cases e : j' = j
            · subst e; exact h
            · exact HJ.out.2 hi j' hj' (by omega)
          have HBad : Hid (sEq l[i].name l[j].name = true → ¬ unl l) := fun h hu => by
            have := hu i hil j hjl hji
            rw [h] at this; cases this
          obtain ⟨ni, hni⟩ : ∃ ni, ni = l[i].name := ⟨_, rfl⟩
          obtain ⟨nj, hnj⟩ : ∃ nj, nj = l[j].name := ⟨_, rfl⟩
          have g1 := HJ.out.1.cell' (HC.out i hil) id
          have g2 := HJ.out.1.cell' (HC.out j hjl) id
          rw [← hni] at g1
          rw [← hnj] at g2
          rw [← hni, ← hnj] at HNx HBad
          have HIN : Hid (Hid (Gr W wr.drew) ∧ wr.drew.cell? ⟨b, o + i * 7, none⟩ = some (.string ni) ∧ wr.drew.cell? ⟨b, o + j * 7, none⟩ = some (.string nj)) := ⟨HJ.out.1.trans gr_drew (fun _ _ h => h), g1, g2⟩
          have hi0 : (0 : Int) ≤ (i : Int) := by omega
          have hj0 : (0 : Int) ≤ (j : Int) := by omega
          have hjL : (j : Int) < (L : Int) := by omega
          unfold sEq at HNx HBad
          clear hni hnj g1 g2 hil hjl
          cases hse : (ni.toList == nj.toList) with
          | true =>
            go_wp2
            refine wp_region_held_drew (S := fun w' => Hid (Gr W w') ∧ w'.cell? ⟨b, o + i * 7, none⟩ = some (.string ni) ∧ w'.cell? ⟨b, o + j * 7, none⟩ = some (.string nj)) (by kernel_rfl) (HIN.out) (fun hHeld => ?_)
            refine wpAnyH_take (i := 0) (oi := { dst := some 16, op := Op.move (Operand.tmp 0), type := 23, pos := "may.go:25", after := #[], guard := none }) (v := ?v0za1) rfl (by kernel_rfl) (by kernel_rfl) (by kernel_rfl) (fun _ _ _ h => h) (Or.inl ⟨by rfl, ?y0za1⟩) (by assumption) ?r0za1
            case y0za1 => (intro w hSw; obtain ⟨-, s1, s2⟩ := hSw; go_simp; (try with_reducible rfl))
            (try simp only [Act.put]); (try simp only [List.setIfInBounds_toArray]); (try simp only [List.set_cons_succ]); (try simp only [List.set_cons_zero])
            refine wpAnyH_take (i := 1) (oi := { dst := some 17, op := Op.move (Operand.tmp 3), type := 3, pos := "may.go:25", after := #[], guard := none }) (v := ?v1za2) rfl (by kernel_rfl) (by kernel_rfl) (by kernel_rfl) (fun _ _ _ h => h) (Or.inl ⟨by rfl, ?y1za2⟩) (by assumption) ?r1za2
            case y1za2 => (intro w hSw; obtain ⟨-, s1, s2⟩ := hSw; go_simp; (try with_reducible rfl))
            (try simp only [Act.put]); (try simp only [List.setIfInBounds_toArray]); (try simp only [List.set_cons_succ]); (try simp only [List.set_cons_zero])
            refine wpAnyH_take (i := 2) (oi := { dst := some 18, op := Op.indexAddr 23 (Operand.tmp 16) (Operand.tmp 17), type := 0, pos := "may.go:25", after := #[{ on := 0, ground := Ground.data }, { on := 1, ground := Ground.data }], guard := none }) (v := ?v2za3) rfl (by kernel_rfl) (by kernel_rfl) (by kernel_rfl) (fun _ _ _ h => h) (Or.inl ⟨by rfl, ?y2za3⟩) (by assumption) ?r2za3
            case y2za3 => (intro w hSw; obtain ⟨-, s1, s2⟩ := hSw; go_simp; (try with_reducible rfl))
            (try simp only [Act.put]); (try simp only [List.setIfInBounds_toArray]); (try simp only [List.set_cons_succ]); (try simp only [List.set_cons_zero])
            refine wpAnyH_take (i := 3) (oi := { dst := some 19, op := Op.fieldAddr 80 (Operand.tmp 18) 0, type := 0, pos := "may.go:25", after := #[{ on := 2, ground := Ground.data }], guard := none }) (v := ?v3za4) rfl (by kernel_rfl) (by kernel_rfl) (by kernel_rfl) (fun _ _ _ h => h) (Or.inl ⟨by rfl, ?y3za4⟩) (by assumption) ?r3za4
            case y3za4 => (intro w hSw; obtain ⟨-, s1, s2⟩ := hSw; go_simp; (try with_reducible rfl))
            (try simp only [Act.put]); (try simp only [List.setIfInBounds_toArray]); (try simp only [List.set_cons_succ]); (try simp only [List.set_cons_zero])
            refine wpAnyH_take (i := 4) (oi := { dst := some 20, op := Op.load 9 (Operand.tmp 19), type := 9, pos := "may.go:25", after := #[{ on := 3, ground := Ground.data }], guard := none }) (v := ?v4za5) rfl (by kernel_rfl) (by kernel_rfl) (by kernel_rfl) (fun _ _ _ h => h) (Or.inl ⟨by rfl, ?y4za5⟩) (by assumption) ?r4za5
            case y4za5 => (intro w hSw; obtain ⟨-, s1, s2⟩ := hSw; go_simp; (try with_reducible rfl))
            (try simp only [Act.put]); (try simp only [List.setIfInBounds_toArray]); (try simp only [List.set_cons_succ]); (try simp only [List.set_cons_zero])
            refine wpAnyH_take (i := 5) (oi := { dst := some 21, op := Op.move (Operand.tmp 0), type := 23, pos := "may.go:25", after := #[], guard := none }) (v := ?v5za6) rfl (by kernel_rfl) (by kernel_rfl) (by kernel_rfl) (fun _ _ _ h => h) (Or.inl ⟨by rfl, ?y5za6⟩) (by assumption) ?r5za6
            case y5za6 => (intro w hSw; obtain ⟨-, s1, s2⟩ := hSw; go_simp; (try with_reducible rfl))
            (try simp only [Act.put]); (try simp only [List.setIfInBounds_toArray]); (try simp only [List.set_cons_succ]); (try simp only [List.set_cons_zero])
            refine wpAnyH_take (i := 6) (oi := { dst := some 22, op := Op.move (Operand.tmp 4), type := 3, pos := "may.go:25", after := #[], guard := none }) (v := ?v6za7) rfl (by kernel_rfl) (by kernel_rfl) (by kernel_rfl) (fun _ _ _ h => h) (Or.inl ⟨by rfl, ?y6za7⟩) (by assumption) ?r6za7
            case y6za7 => (intro w hSw; obtain ⟨-, s1, s2⟩ := hSw; go_simp; (try with_reducible rfl))
            (try simp only [Act.put]); (try simp only [List.setIfInBounds_toArray]); (try simp only [List.set_cons_succ]); (try simp only [List.set_cons_zero])
            refine wpAnyH_take (i := 7) (oi := { dst := some 23, op := Op.indexAddr 23 (Operand.tmp 21) (Operand.tmp 22), type := 0, pos := "may.go:25", after := #[{ on := 5, ground := Ground.data }, { on := 6, ground := Ground.data }], guard := none }) (v := ?v7za8) rfl (by kernel_rfl) (by kernel_rfl) (by kernel_rfl) (fun _ _ _ h => h) (Or.inl ⟨by rfl, ?y7za8⟩) (by assumption) ?r7za8
            case y7za8 => (intro w hSw; obtain ⟨-, s1, s2⟩ := hSw; go_simp; (try with_reducible rfl))
            (try simp only [Act.put]); (try simp only [List.setIfInBounds_toArray]); (try simp only [List.set_cons_succ]); (try simp only [List.set_cons_zero])
            refine wpAnyH_take (i := 8) (oi := { dst := some 24, op := Op.fieldAddr 80 (Operand.tmp 23) 0, type := 0, pos := "may.go:25", after := #[{ on := 7, ground := Ground.data }], guard := none }) (v := ?v8za9) rfl (by kernel_rfl) (by kernel_rfl) (by kernel_rfl) (fun _ _ _ h => h) (Or.inl ⟨by rfl, ?y8za9⟩) (by assumption) ?r8za9
            case y8za9 => (intro w hSw; obtain ⟨-, s1, s2⟩ := hSw; go_simp; (try with_reducible rfl))
            (try simp only [Act.put]); (try simp only [List.setIfInBounds_toArray]); (try simp only [List.set_cons_succ]); (try simp only [List.set_cons_zero])
            refine wpAnyH_take (i := 9) (oi := { dst := some 25, op := Op.load 9 (Operand.tmp 24), type := 9, pos := "may.go:25", after := #[{ on := 8, ground := Ground.data }], guard := none }) (v := ?v9za10) rfl (by kernel_rfl) (by kernel_rfl) (by kernel_rfl) (fun _ _ _ h => h) (Or.inl ⟨by rfl, ?y9za10⟩) (by assumption) ?r9za10
            case y9za10 => (intro w hSw; obtain ⟨-, s1, s2⟩ := hSw; go_simp; (try with_reducible rfl))
            (try simp only [Act.put]); (try simp only [List.setIfInBounds_toArray]); (try simp only [List.set_cons_succ]); (try simp only [List.set_cons_zero])
            refine wpAnyH_take (i := 10) (oi := { dst := some 26, op := Op.binOp BinOp.eql 9 (Operand.tmp 20) (Operand.tmp 25) 9, type := 4, pos := "may.go:25", after := #[{ on := 4, ground := Ground.data }, { on := 9, ground := Ground.data }], guard := none }) (v := ?v10za11) rfl (by kernel_rfl) (by kernel_rfl) (by kernel_rfl) (fun _ _ _ h => h) (Or.inl ⟨by rfl, ?y10za11⟩) (by assumption) ?r10za11
            case y10za11 => (intro w hSw; obtain ⟨-, s1, s2⟩ := hSw; go_simp; (try with_reducible rfl))
            (try simp only [Act.put]); (try simp only [List.setIfInBounds_toArray]); (try simp only [List.set_cons_succ]); (try simp only [List.set_cons_zero])
            refine wpAnyH_done (by kernel_rfl) ?_ _
            have HG := hidM hHeld.1.out
            clear hHeld HIN
            go_wp2
            go_ret
            first | exact .inl ⟨rfl, HG.out, HBad.out hse⟩ | exact ⟨false, rfl, HG.out, ⟨fun h => (by cases h), fun h => absurd h (HBad.out hse)⟩⟩
          | false =>
            go_wp2
            refine wp_region_held_drew (S := fun w' => Hid (Gr W w') ∧ w'.cell? ⟨b, o + i * 7, none⟩ = some (.string ni) ∧ w'.cell? ⟨b, o + j * 7, none⟩ = some (.string nj)) (by kernel_rfl) (HIN.out) (fun hHeld => ?_)
            refine wpAnyH_take (i := 0) (oi := { dst := some 16, op := Op.move (Operand.tmp 0), type := 23, pos := "may.go:25", after := #[], guard := none }) (v := ?v0zb1) rfl (by kernel_rfl) (by kernel_rfl) (by kernel_rfl) (fun _ _ _ h => h) (Or.inl ⟨by rfl, ?y0zb1⟩) (by assumption) ?r0zb1
            case y0zb1 => (intro w hSw; obtain ⟨-, s1, s2⟩ := hSw; go_simp; (try with_reducible rfl))
            (try simp only [Act.put]); (try simp only [List.setIfInBounds_toArray]); (try simp only [List.set_cons_succ]); (try simp only [List.set_cons_zero])
            refine wpAnyH_take (i := 1) (oi := { dst := some 17, op := Op.move (Operand.tmp 3), type := 3, pos := "may.go:25", after := #[], guard := none }) (v := ?v1zb2) rfl (by kernel_rfl) (by kernel_rfl) (by kernel_rfl) (fun _ _ _ h => h) (Or.inl ⟨by rfl, ?y1zb2⟩) (by assumption) ?r1zb2
            case y1zb2 => (intro w hSw; obtain ⟨-, s1, s2⟩ := hSw; go_simp; (try with_reducible rfl))
            (try simp only [Act.put]); (try simp only [List.setIfInBounds_toArray]); (try simp only [List.set_cons_succ]); (try simp only [List.set_cons_zero])
            refine wpAnyH_take (i := 2) (oi := { dst := some 18, op := Op.indexAddr 23 (Operand.tmp 16) (Operand.tmp 17), type := 0, pos := "may.go:25", after := #[{ on := 0, ground := Ground.data }, { on := 1, ground := Ground.data }], guard := none }) (v := ?v2zb3) rfl (by kernel_rfl) (by kernel_rfl) (by kernel_rfl) (fun _ _ _ h => h) (Or.inl ⟨by rfl, ?y2zb3⟩) (by assumption) ?r2zb3
            case y2zb3 => (intro w hSw; obtain ⟨-, s1, s2⟩ := hSw; go_simp; (try with_reducible rfl))
            (try simp only [Act.put]); (try simp only [List.setIfInBounds_toArray]); (try simp only [List.set_cons_succ]); (try simp only [List.set_cons_zero])
            refine wpAnyH_take (i := 3) (oi := { dst := some 19, op := Op.fieldAddr 80 (Operand.tmp 18) 0, type := 0, pos := "may.go:25", after := #[{ on := 2, ground := Ground.data }], guard := none }) (v := ?v3zb4) rfl (by kernel_rfl) (by kernel_rfl) (by kernel_rfl) (fun _ _ _ h => h) (Or.inl ⟨by rfl, ?y3zb4⟩) (by assumption) ?r3zb4
            case y3zb4 => (intro w hSw; obtain ⟨-, s1, s2⟩ := hSw; go_simp; (try with_reducible rfl))
            (try simp only [Act.put]); (try simp only [List.setIfInBounds_toArray]); (try simp only [List.set_cons_succ]); (try simp only [List.set_cons_zero])
            refine wpAnyH_take (i := 4) (oi := { dst := some 20, op := Op.load 9 (Operand.tmp 19), type := 9, pos := "may.go:25", after := #[{ on := 3, ground := Ground.data }], guard := none }) (v := ?v4zb5) rfl (by kernel_rfl) (by kernel_rfl) (by kernel_rfl) (fun _ _ _ h => h) (Or.inl ⟨by rfl, ?y4zb5⟩) (by assumption) ?r4zb5
            case y4zb5 => (intro w hSw; obtain ⟨-, s1, s2⟩ := hSw; go_simp; (try with_reducible rfl))
            (try simp only [Act.put]); (try simp only [List.setIfInBounds_toArray]); (try simp only [List.set_cons_succ]); (try simp only [List.set_cons_zero])
            refine wpAnyH_take (i := 5) (oi := { dst := some 21, op := Op.move (Operand.tmp 0), type := 23, pos := "may.go:25", after := #[], guard := none }) (v := ?v5zb6) rfl (by kernel_rfl) (by kernel_rfl) (by kernel_rfl) (fun _ _ _ h => h) (Or.inl ⟨by rfl, ?y5zb6⟩) (by assumption) ?r5zb6
            case y5zb6 => (intro w hSw; obtain ⟨-, s1, s2⟩ := hSw; go_simp; (try with_reducible rfl))
            (try simp only [Act.put]); (try simp only [List.setIfInBounds_toArray]); (try simp only [List.set_cons_succ]); (try simp only [List.set_cons_zero])
            refine wpAnyH_take (i := 6) (oi := { dst := some 22, op := Op.move (Operand.tmp 4), type := 3, pos := "may.go:25", after := #[], guard := none }) (v := ?v6zb7) rfl (by kernel_rfl) (by kernel_rfl) (by kernel_rfl) (fun _ _ _ h => h) (Or.inl ⟨by rfl, ?y6zb7⟩) (by assumption) ?r6zb7
            case y6zb7 => (intro w hSw; obtain ⟨-, s1, s2⟩ := hSw; go_simp; (try with_reducible rfl))
            (try simp only [Act.put]); (try simp only [List.setIfInBounds_toArray]); (try simp only [List.set_cons_succ]); (try simp only [List.set_cons_zero])
            refine wpAnyH_take (i := 7) (oi := { dst := some 23, op := Op.indexAddr 23 (Operand.tmp 21) (Operand.tmp 22), type := 0, pos := "may.go:25", after := #[{ on := 5, ground := Ground.data }, { on := 6, ground := Ground.data }], guard := none }) (v := ?v7zb8) rfl (by kernel_rfl) (by kernel_rfl) (by kernel_rfl) (fun _ _ _ h => h) (Or.inl ⟨by rfl, ?y7zb8⟩) (by assumption) ?r7zb8
            case y7zb8 => (intro w hSw; obtain ⟨-, s1, s2⟩ := hSw; go_simp; (try with_reducible rfl))
            (try simp only [Act.put]); (try simp only [List.setIfInBounds_toArray]); (try simp only [List.set_cons_succ]); (try simp only [List.set_cons_zero])
            refine wpAnyH_take (i := 8) (oi := { dst := some 24, op := Op.fieldAddr 80 (Operand.tmp 23) 0, type := 0, pos := "may.go:25", after := #[{ on := 7, ground := Ground.data }], guard := none }) (v := ?v8zb9) rfl (by kernel_rfl) (by kernel_rfl) (by kernel_rfl) (fun _ _ _ h => h) (Or.inl ⟨by rfl, ?y8zb9⟩) (by assumption) ?r8zb9
            case y8zb9 => (intro w hSw; obtain ⟨-, s1, s2⟩ := hSw; go_simp; (try with_reducible rfl))
            (try simp only [Act.put]); (try simp only [List.setIfInBounds_toArray]); (try simp only [List.set_cons_succ]); (try simp only [List.set_cons_zero])
            refine wpAnyH_take (i := 9) (oi := { dst := some 25, op := Op.load 9 (Operand.tmp 24), type := 9, pos := "may.go:25", after := #[{ on := 8, ground := Ground.data }], guard := none }) (v := ?v9zb10) rfl (by kernel_rfl) (by kernel_rfl) (by kernel_rfl) (fun _ _ _ h => h) (Or.inl ⟨by rfl, ?y9zb10⟩) (by assumption) ?r9zb10
            case y9zb10 => (intro w hSw; obtain ⟨-, s1, s2⟩ := hSw; go_simp; (try with_reducible rfl))
            (try simp only [Act.put]); (try simp only [List.setIfInBounds_toArray]); (try simp only [List.set_cons_succ]); (try simp only [List.set_cons_zero])
            refine wpAnyH_take (i := 10) (oi := { dst := some 26, op := Op.binOp BinOp.eql 9 (Operand.tmp 20) (Operand.tmp 25) 9, type := 4, pos := "may.go:25", after := #[{ on := 4, ground := Ground.data }, { on := 9, ground := Ground.data }], guard := none }) (v := ?v10zb11) rfl (by kernel_rfl) (by kernel_rfl) (by kernel_rfl) (fun _ _ _ h => h) (Or.inl ⟨by rfl, ?y10zb11⟩) (by assumption) ?r10zb11
            case y10zb11 => (intro w hSw; obtain ⟨-, s1, s2⟩ := hSw; go_simp; (try with_reducible rfl))
            (try simp only [Act.put]); (try simp only [List.setIfInBounds_toArray]); (try simp only [List.set_cons_succ]); (try simp only [List.set_cons_zero])
            refine wpAnyH_done (by kernel_rfl) ?_ _
            have HG := hidM hHeld.1.out
            clear hHeld HIN
            go_wp2
            go_roundw
            case rel => exact ⟨j + 1, by omega, by simp, HG.out, HNx.out hse⟩
            case measure => simp [intOf]; omega
        · have hjI : ¬ (j : Int) < (i : Int) := by omega
          have HNx : Hid (Gr W wr ∧ ∀ i' (hi : i' < l.length) j (hj : j < l.length), i' < i + 1 → j < i' → sEq l[i'].name l[j].name = false) := by
            refine ⟨HJ.out.1, fun i' hi' j' hj' h1 h2 => ?_⟩
            by_cases e : i' = i
            · subst e; exact HJ.out.2 hi' j' hj' (by omega)
            · exact HK.out.2 i' hi' j' hj' (by omega) h2
          clear HJ HK
          go_wp2
          go_roundw
          case rel => exact ⟨i + 1, by omega, by simp, HNx.out⟩
          case measure => simp [intOf]; omega
    · have hltI : ¬ (i : Int) < (L : Int) := by omega
      have HU : Hid (unl l) := fun i' hi' j hj h => HK.out.2 i' hi' j hj (by have := HL.out; omega) h
      have HG := hidM HK.out.1
      clear HK
      go_wp2
      go_ret
      first | exact .inr ⟨rfl, HG.out, HU.out⟩ | exact ⟨true, rfl, HG.out, ⟨fun _ => HU.out, fun _ => rfl⟩⟩
end Go.Proofs.YtdffjdlpbfcikaaDoor.Kit
