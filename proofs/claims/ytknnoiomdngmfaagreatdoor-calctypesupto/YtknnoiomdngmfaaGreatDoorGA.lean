import Derived.Test.YtknnoiomdngmfaaGreatDoorFE
import Derived.Test.YtknnoiomdngmfaaGreatDoorKitTwo
set_option maxRecDepth 100000
set_option maxHeartbeats 4000000
namespace Go.Proofs.YtknnoiomdngmfaaGreatDoor.Kit
open Go.RowKit Go.Shelf Go.Deep
set_option linter.unusedVariables false
attribute [local go_sem] run_store_func
theorem letter_any (c : Nat) (w : World) : Calls Tryz.prog 167 #[.int .u8 (c : Int)] w fun e w' => e = .returned (.bool (wordB c)) ∧ w' = w := by
  go_enter Tryz.func167, Tryz.ntmps167
  go_wp2
  all_goals
    go_ret
    refine ⟨congrArg (fun b => Ending.returned (.bool b)) ?_, rfl⟩
    rw [Bool.eq_iff_iff]
    simp [wordB, digitB]
    try omega
theorem nulls_any (f : FT) (ao : Option Addr) (ca : Nat) (S : Nat → Prop) (d : Nat) (w : World) (hr : RowAt S w d ao f.kids) (hk : f.kind = 20 → f.kids ≠ []) :
    Calls Tryz.prog 114 #[fldV f ao ca] w fun e w' => e = .returned (.bool (nullB f)) ∧ Gr w w' := by
  obtain ⟨nm, nu, kd, wd, di, ix, ks⟩ := f
  show Calls Tryz.prog 114 #[.agg #[.string nm, .bool nu, .int .i64 kd, .int .i64 wd, .int .i64 di, .int .i64 ix, .slice ao ks.length ca]] w _
  obtain ⟨nb, hnb⟩ := ex (nullB ⟨nm, nu, kd, wd, di, ix, ks⟩)
  rw [hnb]
  simp only [FT.kind, FT.kids] at hr hk
  by_cases h1 : kd = 1
  · have e : nb = nu := by rw [← hnb]; simp [nullB, FT.kind, FT.nul, h1]
    subst e
    clear hr hk hnb
    go_enter Tryz.func114, Tryz.ntmps114
    go_wp2
    go_ret
    exact ⟨rfl, gr_alloc _ _⟩
  have q1 := beqF h1
  by_cases h2 : kd = 18
  · have e : nb = !nu := by rw [← hnb]; simp [nullB, FT.kind, FT.nul, h2]
    subst e
    clear hr hk hnb
    go_enter Tryz.func114, Tryz.ntmps114
    go_wp2
    go_ret
    exact ⟨rfl, gr_alloc _ _⟩
  have q2 := beqF h2
  by_cases h3 : kd = 20
  · have hne := hk h3
    cases d with
    | zero => exact absurd hr hne
    | succ d =>
      obtain ⟨b, o, rfl, hSb, hcs⟩ := hr.2 hne
      have hpos : 0 < ks.length := List.length_pos_iff.2 hne
      obtain ⟨ao', ca', hc, _, _⟩ := hcs 0 hpos
      have hn : ks[0]? = some ks[0] := List.getElem?_eq_getElem hpos
      have e : nb = (nu == (ks[0]).nul) := by rw [← hnb]; simp [nullB, FT.kind, FT.nul, FT.kids, h3, hn]
      have c1 : ∀ o', (w.alloc o').cell? ⟨b, o + 1, none⟩ = some (.bool (ks[0]).nul) := fun o' => (gr_alloc w o').cell' (by have := hc.c1; simpa using this) (fun h => h)
      have hposI : (0 : Int) < (ks.length : Int) := by omega
      generalize (ks[0]).nul = kn at c1 e
      subst e
      clear hr hk hcs hc hn hne hnb
      go_enter Tryz.func114, Tryz.ntmps114
      go_wp2
      go_region
      go_wp2
      go_ret
      exact ⟨rfl, by first | exact (gr_alloc _ _) | exact (gr_alloc _ _).drew⟩
  have q3 := beqF h3
  have e : nb = true := by rw [← hnb]; simp [nullB, FT.kind, h1, h2, h3]
  subst e
  clear hr hk hnb
  go_enter Tryz.func114, Tryz.ntmps114
  go_wp2
  go_ret
  exact ⟨rfl, gr_alloc _ _⟩
theorem widthB_mk (nm : ByteArray) (nu : Bool) (kd wd di ix : Int) (ks : List FT) : widthB ⟨nm, nu, kd, wd, di, ix, ks⟩ = if kd = 14 then decide (1 ≤ wd) && decide (wd ≤ 16) else if kd = 16 then decide (1 ≤ wd) && decide (wd ≤ 64) else decide (wd = 0) := rfl
theorem dictB_mk (nm : ByteArray) (nu : Bool) (kd wd di ix : Int) (ks : List FT) : dictB ⟨nm, nu, kd, wd, di, ix, ks⟩ = if kd = 19 then (decide (0 ≤ di) && decide (di < 32)) && (decide (3 ≤ ix) && decide (ix ≤ 10)) else decide (di = 0) && decide (ix = 0) := rfl
theorem shaped_any (f : FT) (ao : Option Addr) (ca : Nat) (w : World) (hl : f.kids.length ≤ big) : Calls Tryz.prog 113 #[typV f ao ca] w fun e w' => e = .returned (.bool (tableB f)) ∧ Gr w w' := by
  obtain ⟨nm, nu, kd, wd, di, ix, ks⟩ := f
  show Calls Tryz.prog 113 #[.agg #[.int .i64 kd, .int .i64 wd, .int .i64 di, .int .i64 ix, .slice ao ks.length ca]] w _
  have hll : ks.length ≤ 1000000000000 := hl
  obtain ⟨tb, htb⟩ := ex (tableB ⟨nm, nu, kd, wd, di, ix, ks⟩)
  rw [htb]
  obtain ⟨L, hL⟩ := ex (ks.length)
  rw [hL] at hll ⊢
  have HB : Hid (tb = (kindB kd && (decide (leastK kd.toNat ≤ (L : Int)) && decide ((L : Int) ≤ mostK kd.toNat) && widthB ⟨nm, nu, kd, wd, di, ix, ks⟩ && dictB ⟨nm, nu, kd, wd, di, ix, ks⟩))) := by rw [← htb, ← hL]; rfl
  clear hl htb hL
  by_cases h14 : kd = 14
  · subst h14
    replace HB : Hid (tb = (decide (L = 0) && (decide (1 ≤ wd) && decide (wd ≤ 16)) && (decide (di = 0) && decide (ix = 0)))) := HB.out.trans (by rw [Bool.eq_iff_iff, widthB_mk, dictB_mk]; simp [kindB, leastK, mostK])
    clear hll
    go_enter Tryz.func113, Tryz.ntmps113
    go_wp2
    go_region
    go_wp2
    all_goals
      go_ret
      refine ⟨congrArg (fun b => Ending.returned (.bool b)) ?_, (gr_alloc _ _).drew⟩
      rw [HB.out, Bool.eq_iff_iff]
      simp
      omega
  have q14 := beqF h14
  by_cases h15 : kd = 15
  · subst h15
    replace HB : Hid (tb = (decide (L = 1) && decide (wd = 0) && (decide (di = 0) && decide (ix = 0)))) := HB.out.trans (by rw [Bool.eq_iff_iff, widthB_mk, dictB_mk]; simp [kindB, leastK, mostK]; omega)
    clear hll
    go_enter Tryz.func113, Tryz.ntmps113
    go_wp2
    go_region
    go_wp2
    all_goals
      go_ret
      refine ⟨congrArg (fun b => Ending.returned (.bool b)) ?_, (gr_alloc _ _).drew⟩
      rw [HB.out, Bool.eq_iff_iff]
      simp
      omega
  have q15 := beqF h15
  by_cases h16 : kd = 16
  · subst h16
    replace HB : Hid (tb = (decide (L = 1) && (decide (1 ≤ wd) && decide (wd ≤ 64)) && (decide (di = 0) && decide (ix = 0)))) := HB.out.trans (by rw [Bool.eq_iff_iff, widthB_mk, dictB_mk]; simp [kindB, leastK, mostK]; omega)
    clear hll
    go_enter Tryz.func113, Tryz.ntmps113
    go_wp2
    go_region
    go_wp2
    all_goals
      go_ret
      refine ⟨congrArg (fun b => Ending.returned (.bool b)) ?_, (gr_alloc _ _).drew⟩
      rw [HB.out, Bool.eq_iff_iff]
      simp
      omega
  have q16 := beqF h16
  by_cases h17 : kd = 17
  · subst h17
    replace HB : Hid (tb = (decide (L ≤ 32) && decide (wd = 0) && (decide (di = 0) && decide (ix = 0)))) := HB.out.trans (by rw [Bool.eq_iff_iff, widthB_mk, dictB_mk]; simp [kindB, leastK, mostK]; omega)
    clear hll
    go_enter Tryz.func113, Tryz.ntmps113
    go_wp2
    go_region
    go_wp2
    all_goals
      go_ret
      refine ⟨congrArg (fun b => Ending.returned (.bool b)) ?_, (gr_alloc _ _).drew⟩
      rw [HB.out, Bool.eq_iff_iff]
      simp
      omega
  have q17 := beqF h17
  by_cases h18 : kd = 18
  · subst h18
    replace HB : Hid (tb = ((decide (1 ≤ L) && decide (L ≤ 32)) && decide (wd = 0) && (decide (di = 0) && decide (ix = 0)))) := HB.out.trans (by rw [Bool.eq_iff_iff, widthB_mk, dictB_mk]; simp [kindB, leastK, mostK]; omega)
    clear hll
    go_enter Tryz.func113, Tryz.ntmps113
    go_wp2
    go_region
    go_wp2
    all_goals
      go_ret
      refine ⟨congrArg (fun b => Ending.returned (.bool b)) ?_, (gr_alloc _ _).drew⟩
      rw [HB.out, Bool.eq_iff_iff]
      simp
      omega
  have q18 := beqF h18
  by_cases h19 : kd = 19
  · subst h19
    replace HB : Hid (tb = (decide (L = 1) && decide (wd = 0) && ((decide (0 ≤ di) && decide (di < 32)) && (decide (3 ≤ ix) && decide (ix ≤ 10))))) := HB.out.trans (by rw [Bool.eq_iff_iff, widthB_mk, dictB_mk]; simp [kindB, leastK, mostK]; omega)
    clear hll
    go_enter Tryz.func113, Tryz.ntmps113
    go_wp2
    go_region
    go_wp2
    all_goals
      go_ret
      refine ⟨congrArg (fun b => Ending.returned (.bool b)) ?_, (gr_alloc _ _).drew⟩
      rw [HB.out, Bool.eq_iff_iff]
      simp
      omega
  have q19 := beqF h19
  by_cases h20 : kd = 20
  · subst h20
    replace HB : Hid (tb = (decide (L = 1) && decide (wd = 0) && (decide (di = 0) && decide (ix = 0)))) := HB.out.trans (by rw [Bool.eq_iff_iff, widthB_mk, dictB_mk]; simp [kindB, leastK, mostK]; omega)
    clear hll
    go_enter Tryz.func113, Tryz.ntmps113
    go_wp2
    go_region
    go_wp2
    all_goals
      go_ret
      refine ⟨congrArg (fun b => Ending.returned (.bool b)) ?_, (gr_alloc _ _).drew⟩
      rw [HB.out, Bool.eq_iff_iff]
      simp
      omega
  have q20 := beqF h20
  have hlk : leastK kd.toNat = 0 ∧ mostK kd.toNat = 0 := by
    have e : ∀ n : Nat, n ≠ 15 → n ≠ 16 → n ≠ 17 → n ≠ 18 → n ≠ 19 → n ≠ 20 → leastK n = 0 ∧ mostK n = 0 := fun n a b c d e f => ⟨by unfold leastK; split <;> first | rfl | contradiction, by unfold mostK; split <;> first | rfl | contradiction⟩
    exact e _ (by omega) (by omega) (by omega) (by omega) (by omega) (by omega)
  replace HB : Hid (tb = ((decide (1 ≤ kd) && decide (kd ≤ 20)) && decide (L = 0) && decide (wd = 0) && (decide (di = 0) && decide (ix = 0)))) := HB.out.trans (by rw [Bool.eq_iff_iff, hlk.1, hlk.2, widthB_mk, dictB_mk]; simp [kindB, h14, h16, h19]; omega)
  clear hlk h14 h15 h16 h17 h18 h19 h20
  clear hll
  go_enter Tryz.func113, Tryz.ntmps113
  go_wp2
  go_region
  go_wp2
  all_goals
    go_ret
    refine ⟨congrArg (fun b => Ending.returned (.bool b)) ?_, (gr_alloc _ _).drew⟩
    rw [HB.out, Bool.eq_iff_iff]
    simp
    omega
theorem isNameR_any (s : ByteArray) (w : World) : Calls Tryz.prog 112 #[.string s] w fun e w' => e = .returned (.bool (nameB s)) ∧ w' = w := by
  go_enter Tryz.func112, Tryz.ntmps112
  by_cases h0 : s.size = 0
  · go_wp2_with fail
    go_ret
    exact ⟨congrArg (fun b => Ending.returned (.bool b)) (by simp [nameB, h0]), rfl⟩
  by_cases h48 : 48 < s.size
  · go_wp2_with fail
    go_ret
    exact ⟨congrArg (fun b => Ending.returned (.bool b)) (by simp [nameB]; omega), rfl⟩
  have h0' : 0 < s.size := by omega
  have hb : s.data.toList[0]! = s[0]'h0' := by
    rw [getElem!_pos s.data.toList 0 (by simpa using h0')]
    rfl
  have hi0 : ¬ ((s.size : Int) < 1) := by omega
  have hi1 : ¬ ((48 : Int) < (s.size : Int)) := by omega
  have hn : nameB s = ((!(digitB (s[0]'h0').toNat)) && s.data.toList.all fun b => wordB b.toNat) := by
    unfold nameB
    rw [hb]
    simp [h0', show s.size ≤ 48 by omega]
  have HN : Hid _ := hn
  have HD : Hid (digitB (s[0]'h0').toNat = (decide (48 ≤ (s[0]'h0').toNat) && decide ((s[0]'h0').toNat ≤ 57))) := rfl
  clear hb hn
  by_cases d1 : 48 ≤ (s[0]'h0').toNat ∧ (s[0]'h0').toNat ≤ 57
  · have d2 : (48 : Int) ≤ ((s[0]'h0').toNat : Int) := by omega
    have d3 : ((s[0]'h0').toNat : Int) ≤ 57 := by omega
    have HZ : Hid (nameB s = false) := by show _ = _; rw [HN.out, HD.out, decide_eq_true d1.1, decide_eq_true d1.2]; rfl
    clear d1
    go_wp2_with fail
    go_ret
    exact ⟨congrArg (fun b => Ending.returned (.bool b)) HZ.out.symm, rfl⟩
  have HN2 : Hid (nameB s = (s.data.toList.all fun b => wordB b.toNat)) := by
    show _ = _
    rw [HN.out, HD.out]
    have : (decide (48 ≤ (s[0]'h0').toNat) && decide ((s[0]'h0').toNat ≤ 57)) = false := by
      rw [Bool.eq_false_iff]; intro h; simp at h; exact d1 ⟨h.1, h.2⟩
    rw [this]; rfl
  have hpart : ((s[0]'h0').toNat : Int) < 48 ∨ (48 ≤ ((s[0]'h0').toNat : Int) ∧ 57 < ((s[0]'h0').toNat : Int)) := by omega
  clear HN HD d1
  rcases hpart with d2 | ⟨d2, d3⟩
  all_goals
    go_wp2_with fail
    go_loop [3] (fun i => ∃ k : Nat, k ≤ s.size ∧ i = .int .i64 (k : Int) ∧ Hid ((s.data.toList.take k).all (fun b => wordB b.toNat) = true)) (fun i => s.size - (intOf i).toNat)
    case atStart => exact ⟨0, by omega, rfl, by simp [Hid]⟩
    case round =>
      obtain ⟨k, hk, rfl, HK⟩ := hrel
      by_cases hlt : k < s.size
      · have hb : s.data.toList[k]? = some (s[k]'hlt) := by
          rw [Array.getElem?_toList]
          exact Array.getElem?_eq_getElem hlt
        have hw := fun w => letter_any (s[k]'hlt).toNat w
        have hA := all_succ (p := fun b => wordB b.toNat) hb HK.out
        have HB : Hid _ := hb
        clear hb
        have HW : Hid ((s.data.toList.all fun b => wordB b.toNat) = true → wordB (s[k]'hlt).toNat = true) := fun h => by
          rw [List.all_eq_true] at h
          exact h _ (List.mem_of_getElem? HB.out)
        generalize wordB (s[k]'hlt).toNat = wb at hw hA HW
        have HA : Hid _ := hA
        clear hA HB
        cases wb with
        | true =>
          go_wp2_with (go_at_call 167; refine (hw _).mono ?_; rintro e w' ⟨rfl, rfl⟩)
          go_round
          case rel => exact ⟨k + 1, by omega, by simp, HA.out⟩
          case measure => simp [intOf]; omega
        | false =>
          go_wp2_with (go_at_call 167; refine (hw _).mono ?_; rintro e w' ⟨rfl, rfl⟩)
          go_ret
          refine ⟨congrArg (fun b => Ending.returned (.bool b)) ?_, rfl⟩
          rw [HN2.out]
          cases hx : (s.data.toList.all fun b => wordB b.toNat) with
          | true => exact absurd (HW.out hx) (by decide)
          | false => rfl
      obtain rfl : k = s.size := by omega
      have hall := HK.out
      rw [List.take_of_length_le (by simp)] at hall
      have HM : Hid (nameB s = true) := by show _ = _; rw [HN2.out, hall]
      clear hall
      go_wp2_with fail
      go_ret
      exact ⟨congrArg (fun b => Ending.returned (.bool b)) HM.out.symm, rfl⟩
end Go.Proofs.YtknnoiomdngmfaaGreatDoor.Kit
namespace Go.Proofs.YtknnoiomdngmfaaGreatDoor.Kit
open Go.RowKit Go.Shelf Go.Deep
set_option linter.unusedVariables false
attribute [local go_sem] Oper.semAt_some run_store_func
def tkL (l : List LS) : Nat → Bool := fun n => l.any fun s => decide (s.fld.kind = 19) && decide (s.fld.id.toNat = n)
def AllR (l : List LS) : Prop := ∀ k (h : k < l.length), wrongE l[k] k (tkL (l.take k)) = 0
theorem AllR.nil : AllR [] := fun k h => by simp at h
theorem AllR.snoc {l : List LS} {x : LS} (h : AllR l) (hx : wrongE x l.length (tkL l) = 0) : AllR (l ++ [x]) := by
  intro k hk
  by_cases e : k < l.length
  · rw [List.getElem_append_left e, List.take_append_of_le_length (by omega)]
    exact h k e
  have e2 : k = l.length := by simp at hk; omega
  subst e2
  rw [List.getElem_append_right (by omega)]
  simp [hx]
theorem tkL_snoc (l : List LS) (x : LS) (n : Nat) : tkL (l ++ [x]) n = (tkL l n || (decide (x.fld.kind = 19) && decide (x.fld.id.toNat = n))) := by simp [tkL]
def schV (fo no : Option Addr) (nf cf nn cn : Nat) : Value := .agg #[.slice fo nf cf, .slice no nn cn]
theorem AllR.len {l : List LS} (h : AllR l) : l.length ≤ 256 := by
  by_cases hl : 256 < l.length
  · have := h 256 hl
    unfold wrongE wr at this
    split at this
    · omega
    simp at this
  omega
def tkA (t : Nat → Bool) : Array Value := #[.bool (t 0), .bool (t 1), .bool (t 2), .bool (t 3), .bool (t 4), .bool (t 5), .bool (t 6), .bool (t 7), .bool (t 8), .bool (t 9), .bool (t 10), .bool (t 11), .bool (t 12), .bool (t 13), .bool (t 14), .bool (t 15), .bool (t 16), .bool (t 17), .bool (t 18), .bool (t 19), .bool (t 20), .bool (t 21), .bool (t 22), .bool (t 23), .bool (t 24), .bool (t 25), .bool (t 26), .bool (t 27), .bool (t 28), .bool (t 29), .bool (t 30), .bool (t 31)]
theorem tkA_get (t : Nat → Bool) (k : Nat) (hk : k < 32) : (tkA t)[k]? = some (.bool (t k)) := by
  have e : tkA t = ((List.range 32).map fun j => Value.bool (t j)).toArray := rfl
  rw [e]; simp [hk]
theorem tkA_set (t : Nat → Bool) (k : Nat) (hk : k < 32) : (tkA t).setIfInBounds k (.bool true) = tkA (fun n => t n || decide (k = n)) := by
  have e : ∀ t, tkA t = ((List.range 32).map fun j => Value.bool (t j)).toArray := fun _ => rfl
  rw [e, e]
  apply Array.ext'
  simp only [Array.toList_setIfInBounds]
  apply List.ext_getElem
  · simp
  intro j h1 h2
  simp at h1
  by_cases hj : k = j
  · subst hj; simp
  rw [List.getElem_set_ne hj]; simp [hj]
structure LI (w W : World) (A r : Nat) (P : List LS) : Prop where
  gr : Gr w W
  a : W.heap[A]? = some (.cells #[.int .i64 (P.length : Int)] 3)
  t : W.heap[A + 1]? = some (.cells (tkA (tkL P)) 152)
  r2 : W.heap[r]? = some (.cells #[.int .i64 0, .slice none 0 0, .int .i64 0] 60)
  r3 : W.heap[r + 1]? = some (.cells #[.int .i64 0] 3)
  ok : AllR P
theorem LI.kept {w W W' : World} {A r : Nat} {P : List LS} (h : LI w W A r P) (g : Gr w W') (k : ∀ b, b = A ∨ b = A + 1 ∨ b = r ∨ b = r + 1 → W'.heap[b]? = W.heap[b]?) : LI w W' A r P :=
  ⟨g, (k _ (.inl rfl)).trans h.a, (k _ (.inr (.inl rfl))).trans h.t, (k _ (.inr (.inr (.inl rfl)))).trans h.r2, (k _ (.inr (.inr (.inr rfl)))).trans h.r3, h.ok⟩
structure LX (w W : World) (r Z : Nat) (P : List LS) (L : List LS) (x : LS) (vo : Option Addr) (vc : Nat) : Prop where
  e : P = L ++ [x]
  ok : AllR L
  bad : wrongE x L.length (tkL L) ≠ 0
  gr : Gr w W
  r2 : W.heap[r]? = some (.cells #[.int .i64 (wrongE x L.length (tkL L)), .slice vo x.path.length vc, .int .i64 0] 60)
  r3 : W.heap[r + 1]? = some (.cells #[.int .i64 (L.length : Int)] 3)
  own : W.ownsRow 0 3 1 (.slice vo x.path.length vc) x.path.length (ints x.path)
  new : ∀ g, (Value.slice vo x.path.length vc).ownBlock = some g → Z ≤ g
theorem LX.kept {w W W' : World} {r Z : Nat} {P L : List LS} {x : LS} {vo : Option Addr} {vc : Nat} (h : LX w W r Z P L x vo vc) (g : Gr w W') (k : ∀ b, b = r ∨ b = r + 1 ∨ (Z ≤ b ∧ b < W.heap.size) → W'.heap[b]? = W.heap[b]?) : LX w W' r Z P L x vo vc :=
  ⟨h.e, h.ok, h.bad, g, (k _ (.inl rfl)).trans h.r2, (k _ (.inr (.inl rfl))).trans h.r3, own_kp h.own fun b e => k b (.inr (.inr ⟨h.new b e, own_lt h.own b e⟩)), h.new⟩
theorem gr_below {w W W' : World} {B : Nat} (h : Gr w W) (hB : w.heap.size ≤ B) (b : Below B W W') : Gr w W' :=
  h.trans (T := fun k => B ≤ k) (Keeps.ofBelow b) (fun j hj hk => by omega)
end Go.Proofs.YtknnoiomdngmfaaGreatDoor.Kit
