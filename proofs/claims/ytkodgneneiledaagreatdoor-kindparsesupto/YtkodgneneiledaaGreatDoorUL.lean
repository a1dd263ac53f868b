import Derived.Test.YtkodgneneiledaaGreatDoorUG
import Derived.Deep.MidRow
set_option maxRecDepth 100000
set_option maxHeartbeats 4000000
namespace Go.Proofs.YtkodgneneiledaaGreatDoor.Kit
open Go.RowKit Go.Shelf Go.Deep
set_option linter.unusedVariables false
def iQ : Int → Value → Prop := fun z v => v = .int .i64 z
def OfC (F : Nat) (of : ByteArray → Int) : Prop := ∀ x w, Calls Tryz.prog F #[.string x] w fun e w' => e = .returned (.int .i64 (of x)) ∧ Gr w w'
theorem mean79 (p : Nat) (s : ByteArray) (h : OfC 92 numO) : PrC p s 88 #[.pointer (some ⟨p, 0, none⟩), .func (.func 92) #[] #[]] (meanP s.data.toList numO) iQ := by
  intro no W a g hR
  have HN := hidP (word_any p s no W a g hR)
  have HF := hidP h
  clear hR h
  obtain ⟨x, b, g', e⟩ : ∃ x b g', wordP s.data.toList (a, g) = .ok (x, (b, g')) := ⟨_, _, _, rfl⟩
  rw [e] at HN
  unfold meanP
  rw [Pr.bind_ok e]
  clear e
  obtain ⟨x, o⟩ := x
  have HX := hidP (HF.out x)
  clear HF
  generalize numO x = z at HX ⊢
  by_cases h0 : z < 0
  · rw [if_pos h0]
    go_enter Tryz.func88, Tryz.ntmps88
    go_wp2_with (first | (go_at_call 86; refine Calls.mono HN.out ?_; rintro e u ⟨hk, hg, v, rfl, rfl, ht⟩; have HK := hidP hk; have HR := hidP ht; have HGG := hidP hg; clear hk ht hg) | (go_at_call 92; refine Calls.mono (HX.out _) ?_; rintro e u2 ⟨rfl, hg⟩; have HG := hidP hg; clear hg))
    exact ⟨rfl, PrQ.err (HK.out.gr HG.out) rfl⟩
  rw [if_neg h0]
  go_enter Tryz.func88, Tryz.ntmps88
  go_wp2_with (first | (go_at_call 86; refine Calls.mono HN.out ?_; rintro e u ⟨hk, hg, v, rfl, rfl, ht⟩; have HK := hidP hk; have HR := hidP ht; have HGG := hidP hg; clear hk ht hg) | (go_at_call 92; refine Calls.mono (HX.out _) ?_; rintro e u2 ⟨rfl, hg⟩; have HG := hidP hg; clear hg))
  go_ret
  exact PrQ.ok (HK.out.gr HG.out) (by rw [HGG.out]) rfl (HR.out.gr HG.out)
theorem decN_succ {l : List UInt8} {k : Nat} {b : UInt8} (h : l[k]? = some b) : decN (l.take (k + 1)) = 10 * decN (l.take k) + (b.toNat - 48) := by
  unfold decN
  rw [List.take_add_one, h, List.foldl_append]
  rfl
theorem number79 : OfC 92 numO := by
  intro s w
  by_cases h1 : s.size < 1
  · have HV : Hid (numO s = -1) := if_pos (.inl h1)
    have i1 : (s.size : Int) < 1 := by omega
    go_enter Tryz.func92, Tryz.ntmps92
    go_wp2_with fail
    go_ret
    exact ⟨congrArg (fun z => Ending.returned (.int .i64 z)) HV.out.symm, Keeps.refl _ _⟩
  by_cases h4 : 4 < s.size
  · have HV : Hid (numO s = -1) := if_pos (.inr (.inl h4))
    have i1 : ¬ ((s.size : Int) < 1) := by omega
    have i4 : (4 : Int) < (s.size : Int) := by omega
    go_enter Tryz.func92, Tryz.ntmps92
    go_wp2_with fail
    go_ret
    exact ⟨congrArg (fun z => Ending.returned (.int .i64 z)) HV.out.symm, Keeps.refl _ _⟩
  have h0 : 0 < s.size := by omega
  have i1 : ¬ ((s.size : Int) < 1) := by omega
  have i4 : ¬ ((4 : Int) < (s.size : Int)) := by omega
  have hhd : s.data.toList.headD 0 = s[0]'h0 := by
    have := drop_at h0
    rw [List.drop_zero] at this
    rw [this]; rfl
  have e48 : (((s[0]'h0).toNat : Int) == 48) = decide (s[0]'h0 = 48) := by
    rw [Bool.eq_iff_iff]; simp only [beq_iff_eq, decide_eq_true_eq]
    exact ⟨fun h => UInt8.toNat_inj.1 (by show (s[0]'h0).toNat = 48; omega), fun h => by rw [h]; rfl⟩
  by_cases hz : s[0]'h0 = 48 ∧ 1 < s.size
  · have HV : Hid (numO s = -1) := if_pos (.inr (.inr ⟨by rw [hhd]; exact hz.1, hz.2⟩))
    rw [decide_eq_true hz.1] at e48
    have i2 : (1 : Int) < (s.size : Int) := by omega
    clear hhd
    generalize s[0]'h0 = c0 at e48 ⊢
    go_enter Tryz.func92, Tryz.ntmps92
    go_wp2_with fail
    go_ret
    exact ⟨congrArg (fun z => Ending.returned (.int .i64 z)) HV.out.symm, Keeps.refl _ _⟩
  have HO : Hid (numO s = if s.data.toList.all (fun b => digitB b.toNat) then (decN s.data.toList : Int) else -1) := if_neg (by
    rintro (h | h | h)
    · exact h1 h
    · exact h4 h
    exact hz ⟨by rw [← hhd]; exact h.1, h.2⟩)
  clear hhd
  by_cases hc : s[0]'h0 = 48
  · rw [decide_eq_true hc] at e48
    have i2 : ¬ ((1 : Int) < (s.size : Int)) := fun h => hz ⟨hc, by omega⟩
    clear hz hc
    go_enter Tryz.func92, Tryz.ntmps92
    go_wp2_with fail
    clear e48 i1 i4 i2
    go_loop [3, 25] (fun v i => ∃ k : Nat, k ≤ s.size ∧ i = .int .i64 (k : Int) ∧ ∃ n : Nat, v = .int .i64 (n : Int) ∧ Hid (n = decN (s.data.toList.take k) ∧ n < 10 ^ k ∧ (s.data.toList.take k).all (fun b => digitB b.toNat) = true)) (fun _ i => s.size - (intOf i).toNat)
    case atStart => exact ⟨0, by omega, rfl, 0, rfl, rfl, by decide, by simp⟩
    case round =>
      obtain ⟨k, hk, rfl, n, rfl, HK⟩ := hrel
      by_cases hlt : k < s.size
      · have hb : s.data.toList[k]? = some (s[k]'hlt) := by
          rw [Array.getElem?_toList]
          exact Array.getElem?_eq_getElem hlt
        have hw := fun w => isDigit_any (s[k]'hlt).toNat w
        have HA := hidP (all_succ (p := fun b => digitB b.toNat) hb HK.out.2.2)
        have HDN := hidP (decN_succ hb)
        have HW : Hid ((s.data.toList.all fun b => digitB b.toNat) = true → digitB (s[k]'hlt).toNat = true) := fun h => by
          rw [List.all_eq_true] at h
          exact h _ (List.mem_of_getElem? hb)
        clear hb
        have hn : n < 1000 := Nat.lt_of_lt_of_le HK.out.2.1 (Nat.pow_le_pow_right (n := 10) (by decide) (show k ≤ 3 by omega))
        cases hd : digitB (s[k]'hlt).toNat with
        | true =>
          rw [hd] at hw HA
          have hr : 48 ≤ (s[k]'hlt).toNat ∧ (s[k]'hlt).toNat ≤ 57 := by unfold digitB at hd; simpa using hd
          clear hd HW
          have w1 : IntKind.u8.wrap (((s[k]'hlt).toNat : Int) - 48) = (((s[k]'hlt).toNat - 48 : Nat) : Int) := by rw [IntKind.wrap_u8]; omega
          have w2 : IntKind.i64.wrap ((((s[k]'hlt).toNat - 48 : Nat) : Int)) = (((s[k]'hlt).toNat - 48 : Nat) : Int) := by rw [IntKind.wrap_i64]; omega
          have w3 : IntKind.i64.wrap (10 * (n : Int)) = ((10 * n : Nat) : Int) := by rw [IntKind.wrap_i64]; omega
          have w4 : IntKind.i64.wrap (((10 * n : Nat) : Int) + (((s[k]'hlt).toNat - 48 : Nat) : Int)) = ((10 * n + ((s[k]'hlt).toNat - 48) : Nat) : Int) := by rw [IntKind.wrap_i64]; omega
          have HN : Hid (10 * n + ((s[k]'hlt).toNat - 48) = decN (s.data.toList.take (k + 1)) ∧ 10 * n + ((s[k]'hlt).toNat - 48) < 10 ^ (k + 1)) := by
            refine ⟨by rw [HDN.out, ← HK.out.1], ?_⟩
            have := HK.out.2.1
            rw [Nat.pow_succ]; omega
          go_wp2_with (go_at_call 114; refine (hw _).mono ?_; rintro e w' ⟨rfl, rfl⟩)
          go_round
          case rel => exact ⟨k + 1, by omega, by go_num, 10 * n + ((s[k]'hlt).toNat - 48), by go_num, HN.out.1, HN.out.2, HA.out⟩
          case measure => simp [intOf]; omega
        | false =>
          rw [hd] at hw
          have HV : Hid (numO s = -1) := by
            rw [Hid, HO.out]
            exact if_neg fun h => by have := HW.out h; rw [hd] at this; cases this
          clear hd HW HA HDN
          go_wp2_with (go_at_call 114; refine (hw _).mono ?_; rintro e w' ⟨rfl, rfl⟩)
          go_ret
          exact ⟨congrArg (fun z => Ending.returned (.int .i64 z)) HV.out.symm, Keeps.refl _ _⟩
      obtain rfl : k = s.size := by omega
      have HV : Hid (numO s = (n : Int)) := by
        have h1 := HK.out.1
        have h2 := HK.out.2.2
        rw [List.take_of_length_le (by simp)] at h1 h2
        rw [Hid, HO.out, if_pos h2, h1]
      go_wp2_with fail
      go_ret
      exact ⟨congrArg (fun z => Ending.returned (.int .i64 z)) HV.out.symm, Keeps.refl _ _⟩
  rw [decide_eq_false hc] at e48
  clear hz hc
  go_enter Tryz.func92, Tryz.ntmps92
  go_wp2_with fail
  clear e48 i1 i4
  go_loop [3, 25] (fun v i => ∃ k : Nat, k ≤ s.size ∧ i = .int .i64 (k : Int) ∧ ∃ n : Nat, v = .int .i64 (n : Int) ∧ Hid (n = decN (s.data.toList.take k) ∧ n < 10 ^ k ∧ (s.data.toList.take k).all (fun b => digitB b.toNat) = true)) (fun _ i => s.size - (intOf i).toNat)
  case atStart => exact ⟨0, by omega, rfl, 0, rfl, rfl, by decide, by simp⟩
  case round =>
    obtain ⟨k, hk, rfl, n, rfl, HK⟩ := hrel
    by_cases hlt : k < s.size
    · have hb : s.data.toList[k]? = some (s[k]'hlt) := by
        rw [Array.getElem?_toList]
        exact Array.getElem?_eq_getElem hlt
      have hw := fun w => isDigit_any (s[k]'hlt).toNat w
      have HA := hidP (all_succ (p := fun b => digitB b.toNat) hb HK.out.2.2)
      have HDN := hidP (decN_succ hb)
      have HW : Hid ((s.data.toList.all fun b => digitB b.toNat) = true → digitB (s[k]'hlt).toNat = true) := fun h => by
        rw [List.all_eq_true] at h
        exact h _ (List.mem_of_getElem? hb)
      clear hb
      have hn : n < 1000 := Nat.lt_of_lt_of_le HK.out.2.1 (Nat.pow_le_pow_right (n := 10) (by decide) (show k ≤ 3 by omega))
      cases hd : digitB (s[k]'hlt).toNat with
      | true =>
        rw [hd] at hw HA
        have hr : 48 ≤ (s[k]'hlt).toNat ∧ (s[k]'hlt).toNat ≤ 57 := by unfold digitB at hd; simpa using hd
        clear hd HW
        have w1 : IntKind.u8.wrap (((s[k]'hlt).toNat : Int) - 48) = (((s[k]'hlt).toNat - 48 : Nat) : Int) := by rw [IntKind.wrap_u8]; omega
        have w2 : IntKind.i64.wrap ((((s[k]'hlt).toNat - 48 : Nat) : Int)) = (((s[k]'hlt).toNat - 48 : Nat) : Int) := by rw [IntKind.wrap_i64]; omega
        have w3 : IntKind.i64.wrap (10 * (n : Int)) = ((10 * n : Nat) : Int) := by rw [IntKind.wrap_i64]; omega
        have w4 : IntKind.i64.wrap (((10 * n : Nat) : Int) + (((s[k]'hlt).toNat - 48 : Nat) : Int)) = ((10 * n + ((s[k]'hlt).toNat - 48) : Nat) : Int) := by rw [IntKind.wrap_i64]; omega
        have HN : Hid (10 * n + ((s[k]'hlt).toNat - 48) = decN (s.data.toList.take (k + 1)) ∧ 10 * n + ((s[k]'hlt).toNat - 48) < 10 ^ (k + 1)) := by
          refine ⟨by rw [HDN.out, ← HK.out.1], ?_⟩
          have := HK.out.2.1
          rw [Nat.pow_succ]; omega
        go_wp2_with (go_at_call 114; refine (hw _).mono ?_; rintro e w' ⟨rfl, rfl⟩)
        go_round
        case rel => exact ⟨k + 1, by omega, by go_num, 10 * n + ((s[k]'hlt).toNat - 48), by go_num, HN.out.1, HN.out.2, HA.out⟩
        case measure => simp [intOf]; omega
      | false =>
        rw [hd] at hw
        have HV : Hid (numO s = -1) := by
          rw [Hid, HO.out]
          exact if_neg fun h => by have := HW.out h; rw [hd] at this; cases this
        clear hd HW HA HDN
        go_wp2_with (go_at_call 114; refine (hw _).mono ?_; rintro e w' ⟨rfl, rfl⟩)
        go_ret
        exact ⟨congrArg (fun z => Ending.returned (.int .i64 z)) HV.out.symm, Keeps.refl _ _⟩
    obtain rfl : k = s.size := by omega
    have HV : Hid (numO s = (n : Int)) := by
      have h1 := HK.out.1
      have h2 := HK.out.2.2
      rw [List.take_of_length_le (by simp)] at h1 h2
      rw [Hid, HO.out, if_pos h2, h1]
    go_wp2_with fail
    go_ret
    exact ⟨congrArg (fun z => Ending.returned (.int .i64 z)) HV.out.symm, Keeps.refl _ _⟩
def OfT (F : Nat) (of : ByteArray → Int) : Prop := ∀ x w, Tab w → Calls Tryz.prog F #[.string x] w fun e w' => e = .returned (.int .i64 (of x)) ∧ Gr w w'
def PrT {α : Type} (p : Nat) (s : ByteArray) (F : Nat) (args : Array Value) (r : Pr α) (V : α → Value → Prop) : Prop :=
  ∀ no W a g, TAt W p s a no → Tab W → Calls Tryz.prog F args W (PrQ W p s no g (r (a, g)) V)
theorem tab_kp {W u : World} {p : Nat} (h : Tab W) (k : KpR W u p) (hp : p ≠ 0) : Tab u := h.kp (k.block 0 h.1 fun e => hp e.symm)
theorem mean78 (p : Nat) (hp : p ≠ 0) (s : ByteArray) (h : OfT 89 kindO) : PrT p s 88 #[.pointer (some ⟨p, 0, none⟩), .func (.func 89) #[] #[]] (meanP s.data.toList kindO) iQ := by
  intro no W a g hR hT
  have HN := hidP (word_any p s no W a g hR)
  have HF := hidP h
  have HT := hidP hT
  clear hR h hT
  obtain ⟨x, b, g', e⟩ : ∃ x b g', wordP s.data.toList (a, g) = .ok (x, (b, g')) := ⟨_, _, _, rfl⟩
  rw [e] at HN
  unfold meanP
  rw [Pr.bind_ok e]
  clear e
  obtain ⟨x, o⟩ := x
  have HX := hidP (HF.out x)
  clear HF
  generalize kindO x = z at HX ⊢
  by_cases h0 : z < 0
  · rw [if_pos h0]
    go_enter Tryz.func88, Tryz.ntmps88
    go_wp2_with (first | (go_at_call 86; refine Calls.mono HN.out ?_; rintro e u ⟨hk, hg, v, rfl, rfl, ht⟩; have HK := hidP hk; have HR := hidP ht; have HGG := hidP hg; have HU := hidP (tab_kp HT.out hk hp); clear hk ht hg) | (go_at_call 89; refine Calls.mono (HX.out _ HU.out) ?_; rintro e u2 ⟨rfl, hg⟩; have HG := hidP hg; clear hg))
    exact ⟨rfl, PrQ.err (HK.out.gr HG.out) rfl⟩
  rw [if_neg h0]
  go_enter Tryz.func88, Tryz.ntmps88
  go_wp2_with (first | (go_at_call 86; refine Calls.mono HN.out ?_; rintro e u ⟨hk, hg, v, rfl, rfl, ht⟩; have HK := hidP hk; have HR := hidP ht; have HGG := hidP hg; have HU := hidP (tab_kp HT.out hk hp); clear hk ht hg) | (go_at_call 89; refine Calls.mono (HX.out _ HU.out) ?_; rintro e u2 ⟨rfl, hg⟩; have HG := hidP hg; clear hg))
  go_ret
  exact PrQ.ok (HK.out.gr HG.out) (by rw [HGG.out]) rfl (HR.out.gr HG.out)
theorem mean80 (p : Nat) (hp : p ≠ 0) (s : ByteArray) (h : OfT 93 indexO) : PrT p s 88 #[.pointer (some ⟨p, 0, none⟩), .func (.func 93) #[] #[]] (meanP s.data.toList indexO) iQ := by
  intro no W a g hR hT
  have HN := hidP (word_any p s no W a g hR)
  have HF := hidP h
  have HT := hidP hT
  clear hR h hT
  obtain ⟨x, b, g', e⟩ : ∃ x b g', wordP s.data.toList (a, g) = .ok (x, (b, g')) := ⟨_, _, _, rfl⟩
  rw [e] at HN
  unfold meanP
  rw [Pr.bind_ok e]
  clear e
  obtain ⟨x, o⟩ := x
  have HX := hidP (HF.out x)
  clear HF
  generalize indexO x = z at HX ⊢
  by_cases h0 : z < 0
  · rw [if_pos h0]
    go_enter Tryz.func88, Tryz.ntmps88
    go_wp2_with (first | (go_at_call 86; refine Calls.mono HN.out ?_; rintro e u ⟨hk, hg, v, rfl, rfl, ht⟩; have HK := hidP hk; have HR := hidP ht; have HGG := hidP hg; have HU := hidP (tab_kp HT.out hk hp); clear hk ht hg) | (go_at_call 93; refine Calls.mono (HX.out _ HU.out) ?_; rintro e u2 ⟨rfl, hg⟩; have HG := hidP hg; clear hg))
    exact ⟨rfl, PrQ.err (HK.out.gr HG.out) rfl⟩
  rw [if_neg h0]
  go_enter Tryz.func88, Tryz.ntmps88
  go_wp2_with (first | (go_at_call 86; refine Calls.mono HN.out ?_; rintro e u ⟨hk, hg, v, rfl, rfl, ht⟩; have HK := hidP hk; have HR := hidP ht; have HGG := hidP hg; have HU := hidP (tab_kp HT.out hk hp); clear hk ht hg) | (go_at_call 93; refine Calls.mono (HX.out _ HU.out) ?_; rintro e u2 ⟨rfl, hg⟩; have HG := hidP hg; clear hg))
  go_ret
  exact PrQ.ok (HK.out.gr HG.out) (by rw [HGG.out]) rfl (HR.out.gr HG.out)
theorem isIndex82 (k : Int) (w : World) : Calls Tryz.prog 115 #[.int .i64 k] w fun e w' => e = .returned (.bool (indexB k)) ∧ w' = w := by
  go_enter Tryz.func115, Tryz.ntmps115
  go_wp2
  all_goals
    go_ret
    refine ⟨congrArg (fun b => Ending.returned (.bool b)) ?_, rfl⟩
    rw [Bool.eq_iff_iff]
    simp [indexB]
    try omega
theorem index80 (h : OfT 89 kindO) : OfT 93 indexO := by
  intro x w hT
  have HX := hidP (h x w hT)
  clear h hT
  unfold indexO
  generalize kindO x = z at HX ⊢
  have HI := hidP (fun w => isIndex82 z w)
  cases hb : indexB z with
  | true =>
    rw [hb] at HI
    rw [if_pos rfl]
    go_enter Tryz.func93, Tryz.ntmps93
    go_wp2_with (first | (go_at_call 89; refine Calls.mono HX.out ?_; rintro e u ⟨rfl, hg⟩; have HG := hidP hg; clear hg) | (go_at_call 115; refine Calls.mono (HI.out _) ?_; rintro e u2 ⟨rfl, rfl⟩))
    go_ret
    exact ⟨rfl, HG.out⟩
  | false =>
    rw [hb] at HI
    rw [if_neg (by decide)]
    go_enter Tryz.func93, Tryz.ntmps93
    go_wp2_with (first | (go_at_call 89; refine Calls.mono HX.out ?_; rintro e u ⟨rfl, hg⟩; have HG := hidP hg; clear hg) | (go_at_call 115; refine Calls.mono (HI.out _) ?_; rintro e u2 ⟨rfl, rfl⟩))
    go_ret
    exact ⟨rfl, HG.out⟩
def rowV (k : Nat) : List Value := [.string ⟨(wordK k).toArray⟩, .int .i64 (bytesK k), .int .i64 (bufsK k), .int .i64 (leastK k), .int .i64 (mostK k)]
def tabL (n : Nat) : List Value := (List.range n).flatMap rowV
theorem tabL_len : ∀ n, (tabL n).length = 5 * n
  | 0 => rfl
  | n + 1 => by
    have := tabL_len n
    unfold tabL at this ⊢
    rw [List.range_succ, List.flatMap_append, List.length_append, this]
    simp [rowV]; omega
theorem tabL_get : ∀ n j v, (tabL n)[j]? = some v → j / 5 < n ∧ (rowV (j / 5))[j % 5]? = some v
  | 0, j, v, h => by simp [tabL] at h
  | n + 1, j, v, h => by
    have hl := tabL_len n
    have e : tabL (n + 1) = tabL n ++ rowV n := by unfold tabL; rw [List.range_succ, List.flatMap_append]; simp
    rw [e] at h
    by_cases hj : j < 5 * n
    · rw [List.getElem?_append_left (by omega)] at h
      have := tabL_get n j v h
      exact ⟨by omega, this.2⟩
    rw [List.getElem?_append_right (by omega), hl] at h
    have h5 : j - 5 * n < 5 := (List.getElem?_eq_some_iff.1 h).1
    have e1 : j / 5 = n := by omega
    have e2 : j % 5 = j - 5 * n := by omega
    rw [e1, e2]
    exact ⟨by omega, h⟩
theorem tab_range {w : World} (hT : Tab w) : w.rangeAt 0 0 (tabL 21) := fun j v h => by
  obtain ⟨h1, h2⟩ := tabL_get 21 j v h
  obtain ⟨a, b, c, d, e⟩ := hT.2 (j / 5) h1
  have h5 : j % 5 < 5 := by omega
  have ej : j = j / 5 * 5 + j % 5 := by omega
  rw [Nat.zero_add]
  generalize j % 5 = i at h2 h5 ej
  generalize j / 5 = k at *
  subst ej
  match i, h5 with
  | 0, _ => cases h2; exact a
  | 1, _ => cases h2; exact b
  | 2, _ => cases h2; exact c
  | 3, _ => cases h2; exact d
  | 4, _ => cases h2; exact e
theorem tab_index : ∀ k : Nat, k < 21 → ∀ wr, (Instr.index 137 (.agg (tabL 21).toArray) (.int .i64 (k : Int))).run Tryz.prog wr = .ok (.agg #[.string ⟨(wordK k).toArray⟩, .int .i64 (bytesK k), .int .i64 (bufsK k), .int .i64 (leastK k), .int .i64 (mostK k)]) wr := by
  intro k hk
  match k, hk with
  | 0, _ => intro wr; show Eq _ _; kernel_rfl
  | 1, _ => intro wr; show Eq _ _; kernel_rfl
  | 2, _ => intro wr; show Eq _ _; kernel_rfl
  | 3, _ => intro wr; show Eq _ _; kernel_rfl
  | 4, _ => intro wr; show Eq _ _; kernel_rfl
  | 5, _ => intro wr; show Eq _ _; kernel_rfl
  | 6, _ => intro wr; show Eq _ _; kernel_rfl
  | 7, _ => intro wr; show Eq _ _; kernel_rfl
  | 8, _ => intro wr; show Eq _ _; kernel_rfl
  | 9, _ => intro wr; show Eq _ _; kernel_rfl
  | 10, _ => intro wr; show Eq _ _; kernel_rfl
  | 11, _ => intro wr; show Eq _ _; kernel_rfl
  | 12, _ => intro wr; show Eq _ _; kernel_rfl
  | 13, _ => intro wr; show Eq _ _; kernel_rfl
  | 14, _ => intro wr; show Eq _ _; kernel_rfl
  | 15, _ => intro wr; show Eq _ _; kernel_rfl
  | 16, _ => intro wr; show Eq _ _; kernel_rfl
  | 17, _ => intro wr; show Eq _ _; kernel_rfl
  | 18, _ => intro wr; show Eq _ _; kernel_rfl
  | 19, _ => intro wr; show Eq _ _; kernel_rfl
  | 20, _ => intro wr; show Eq _ _; kernel_rfl
  | n + 21, h => exact absurd h (by omega)
theorem kindO_at {x : ByteArray} {k : Nat} (hk : k < 21) (h0 : 0 < k) (hx : x.data.toList = wordK k) (hn : ∀ j, j < k → 0 < j → x.data.toList ≠ wordK j) : kindO x = (k : Int) := by
  unfold kindO
  have : (List.range 21).find? (fun k => decide (0 < k) && decide (x.data.toList = wordK k)) = some k := by
    rw [List.find?_range_eq_some]
    refine ⟨by simp [h0, hx], by simpa using hk, fun j hj => ?_⟩
    by_cases hj0 : 0 < j
    · simp [hn j hj hj0]
    simp [hj0]
  rw [this]; rfl
theorem kindO_none {x : ByteArray} (hn : ∀ j, j < 21 → 0 < j → x.data.toList ≠ wordK j) : kindO x = -1 := by
  unfold kindO
  have : (List.range 21).find? (fun k => decide (0 < k) && decide (x.data.toList = wordK k)) = none := by
    rw [List.find?_eq_none]
    intro j hj
    have hj' : j < 21 := by simpa using hj
    by_cases hj0 : 0 < j
    · simp [hn j hj' hj0]
    simp [hj0]
  rw [this]; rfl
theorem kind78 : OfT 89 kindO := by
  intro x w hT
  obtain ⟨R, hRes⟩ : ∃ R, R = kindO x := ⟨_, rfl⟩
  rw [← hRes]
  have HRes := hidP hRes
  clear hRes
  have HC := hidP (tab_range hT)
  have HL := hidP (tabL_len 21)
  have HI := hidP tab_index
  clear hT
  go_enter Tryz.func89, Tryz.ntmps89
  go_wp2_with fail
  refine wp_load_mid 137 (.global 0) rfl 0 0 rfl (tabL 21) (.array 21 136) HC.out (by kernel_rfl) rfl (by kernel_rfl) ?_
  go_wp2_with fail
  generalize hL : (tabL 21).toArray = L
  rw [hL] at HI
  clear hL
  go_loopw [6] (fun i wr => ∃ k : Nat, k ≤ 21 ∧ i = .int .i64 (k : Int) ∧ Hid (Gr w wr ∧ ∀ j, j < k → 0 < j → x.data.toList ≠ wordK j)) (fun i _ => 21 - (intOf i).toNat)
  case atStart => exact ⟨0, by omega, rfl, Keeps.refl _ _, fun j h => absurd h (by omega)⟩
  case round =>
    obtain ⟨k, hk, rfl, HK⟩ := hrel
    by_cases hlt : k < 21
    · have hi : (k : Int) < 21 := by omega
      have hx := HI.out k hlt
      obtain ⟨nm, hnm⟩ : ∃ nm : ByteArray, nm = ⟨(wordK k).toArray⟩ := ⟨_, rfl⟩
      have HW : Hid (nm.data.toList = wordK k) := by show _ = _; rw [hnm]
      rw [← hnm] at hx
      clear hnm
      generalize bytesK k = y1 at hx
      generalize bufsK k = y2 at hx
      generalize leastK k = y3 at hx
      generalize mostK k = y4 at hx
      have HG1 : Hid (Gr w (wr.alloc (.cells #[.string nm, .int .i64 y1, .int .i64 y2, .int .i64 y3, .int .i64 y4] 136))) := HK.out.1.alloc _
      by_cases h0 : 0 < k
      · have HQ : Hid (∀ V, Calls Tryz.prog 113 #[.int .i64 (k : Int)] V fun e w' => e = .returned (.bool true) ∧ w' = V) := fun V => by
          have := isKind_any (k : Int) V
          rwa [show kindB (k : Int) = true by unfold kindB; simp; omega] at this
        by_cases hx2 : (nm.toList == x.toList) = true
        · have HE : Hid (kindO x = (k : Int)) := kindO_at hlt h0 (by rw [← HW.out]; exact (by simpa [ByteArray.toList_eq] using hx2 : nm.data.toList = x.data.toList).symm) HK.out.2
          go_wp2_with (go_at_call 113; refine Calls.mono (HQ.out _) ?_; rintro e u ⟨rfl, rfl⟩)
          go_ret
          exact ⟨(congrArg (fun z => Ending.returned (Value.int .i64 z)) (HRes.out.trans HE.out)).symm, HG1.out⟩
        have hx3 : (nm.toList == x.toList) = false := by simpa using hx2
        have HN : Hid (∀ j, j < k + 1 → 0 < j → x.data.toList ≠ wordK j) := fun j hj hj0 => by
          by_cases e : j = k
          · rw [e, ← HW.out]
            intro he
            exact hx2 (by simp [ByteArray.toList_eq, he])
          exact HK.out.2 j (by omega) hj0
        clear hx2
        go_wp2_with (go_at_call 113; refine Calls.mono (HQ.out _) ?_; rintro e u ⟨rfl, rfl⟩)
        go_roundw
        case rel => exact ⟨k + 1, by omega, by simp, HG1.out, HN.out⟩
        case measure => simp [intOf]; omega
      have HQ : Hid (∀ V, Calls Tryz.prog 113 #[.int .i64 (k : Int)] V fun e w' => e = .returned (.bool false) ∧ w' = V) := fun V => by
        have := isKind_any (k : Int) V
        rwa [show kindB (k : Int) = false by unfold kindB; simp; omega] at this
      have HN : Hid (∀ j, j < k + 1 → 0 < j → x.data.toList ≠ wordK j) := fun j hj hj0 => absurd hj0 (by omega)
      go_wp2_with (go_at_call 113; refine Calls.mono (HQ.out _) ?_; rintro e u ⟨rfl, rfl⟩)
      go_roundw
      case rel => exact ⟨k + 1, by omega, by simp, HG1.out, HN.out⟩
      case measure => simp [intOf]; omega
    have hi : ¬ (k : Int) < 21 := by omega
    have HE : Hid (kindO x = -1) := kindO_none fun j hj hj0 => HK.out.2 j (by omega) hj0
    go_wp2_with fail
    go_ret
    exact ⟨(congrArg (fun z => Ending.returned (Value.int .i64 z)) (HRes.out.trans HE.out)).symm, HK.out.1⟩
end Go.Proofs.YtkodgneneiledaaGreatDoor.Kit
