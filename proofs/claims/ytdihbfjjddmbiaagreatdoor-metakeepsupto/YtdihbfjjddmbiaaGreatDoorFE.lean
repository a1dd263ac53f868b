import Derived.Test.YtdihbfjjddmbiaaGreatDoorEC
import Derived.Deep.RegionHeld3
set_option maxRecDepth 100000
set_option maxHeartbeats 4000000
namespace Go.Proofs.YtdihbfjjddmbiaaGreatDoor.Kit
open Go.RowKit Go.Shelf Go.Deep
set_option linter.unusedVariables false
attribute [local go_sem] run_store_func
abbrev Gr (w w' : World) : Prop := Keeps w w' (fun _ => False)
def digitB (c : Nat) : Bool := decide (48 ≤ c) && decide (c ≤ 57)
def wordB (c : Nat) : Bool := (decide (97 ≤ c) && decide (c ≤ 122)) || (decide (65 ≤ c) && decide (c ≤ 90)) || digitB c || decide (c = 95)
theorem isDigit_any (c : Nat) (w : World) : Calls Tryz.prog 94 #[.int .u8 (c : Int)] w fun e w' => e = .returned (.bool (digitB c)) ∧ w' = w := by
  go_enter Tryz.func94, Tryz.ntmps94
  go_wp2
  all_goals
    go_ret
    refine ⟨congrArg (fun b => Ending.returned (.bool b)) ?_, rfl⟩
    rw [Bool.eq_iff_iff]
    simp [digitB]
    try omega
theorem isWordByte_any (c : Nat) (w : World) : Calls Tryz.prog 95 #[.int .u8 (c : Int)] w fun e w' => e = .returned (.bool (wordB c)) ∧ w' = w := by
  go_enter Tryz.func95, Tryz.ntmps95
  go_wp2_with (go_at_call 94; refine (isDigit_any _ _).mono ?_; rintro e w' ⟨rfl, rfl⟩)
  all_goals
    go_ret
    refine ⟨congrArg (fun b => Ending.returned (.bool b)) ?_, rfl⟩
    rw [Bool.eq_iff_iff]
    simp [wordB, *]
    try omega
theorem all_succ {l : List UInt8} {p : UInt8 → Bool} {k : Nat} {b : UInt8} (h : l[k]? = some b) (hk : (l.take k).all p = true) : (l.take (k + 1)).all p = p b := by
  rw [List.take_add_one, h]
  simp [hk]
def nameB (s : ByteArray) : Bool := decide (0 < s.size) && decide (s.size ≤ 48) && !(digitB (s.data.toList[0]!).toNat) && s.data.toList.all fun b => wordB b.toNat
theorem isName_any (s : ByteArray) (w : World) : Calls Tryz.prog 85 #[.string s] w fun e w' => e = .returned (.bool (nameB s)) ∧ w' = w := by
  go_enter Tryz.func85, Tryz.ntmps85
  by_cases h0 : s.size = 0
  · go_wp2_with fail
    go_ret
    exact ⟨congrArg (fun b => Ending.returned (.bool b)) (by simp [nameB, h0]), rfl⟩
  by_cases h48 : 48 < s.size
  · go_wp2_with fail
    go_ret
    exact ⟨congrArg (fun b => Ending.returned (.bool b)) (by simp [nameB]; omega), rfl⟩
  have h0' : 0 < s.size := by omega
  have hb : s.data.toList[0]! = s[0]'h0' := by
    rw [getElem!_pos s.data.toList 0 (by simpa using h0')]
    rfl
  have hb1 := isDigit_any (s[0]'h0').toNat w
  have hi0 : ((s.size : Int) == 0) = false := by
    have : (s.size : Int) ≠ 0 := by omega
    simpa using this
  have hi1 : ¬ ((48 : Int) < (s.size : Int)) := by omega
  have hn : nameB s = ((!(digitB (s[0]'h0').toNat)) && s.data.toList.all fun b => wordB b.toNat) := by
    unfold nameB
    rw [hb]
    simp [h0', show s.size ≤ 48 by omega]
  generalize digitB (s[0]'h0').toNat = dg at hb1 hn
  have HN : Hid _ := hn
  clear hb hn
  cases dg with
  | true =>
    go_wp2_with (go_at_call 94; refine hb1.mono ?_; rintro e w' ⟨rfl, rfl⟩)
    go_ret
    exact ⟨congrArg (fun b => Ending.returned (.bool b)) (by rw [HN.out]; rfl), rfl⟩
  | false =>
    go_wp2_with (go_at_call 94; refine hb1.mono ?_; rintro e w' ⟨rfl, rfl⟩)
    clear hb1
    go_loop [19] (fun i => ∃ k : Nat, k ≤ s.size ∧ i = .int .i64 (k : Int) ∧ Hid ((s.data.toList.take k).all (fun b => wordB b.toNat) = true)) (fun i => s.size - (intOf i).toNat)
    case atStart => exact ⟨0, by omega, rfl, by simp [Hid]⟩
    case round =>
      obtain ⟨k, hk, rfl, HK⟩ := hrel
      by_cases hlt : k < s.size
      · have hb : s.data.toList[k]? = some (s[k]'hlt) := by
          rw [Array.getElem?_toList]
          exact Array.getElem?_eq_getElem hlt
        have hw := fun w => isWordByte_any (s[k]'hlt).toNat w
        have hA := all_succ (p := fun b => wordB b.toNat) hb HK.out
        have HB : Hid _ := hb
        clear hb
        have HW : Hid ((s.data.toList.all fun b => wordB b.toNat) = true → wordB (s[k]'hlt).toNat = true) := fun h => by
          rw [List.all_eq_true] at h
          exact h _ (List.mem_of_getElem? HB.out)
        generalize wordB (s[k]'hlt).toNat = wb at hw hA HW
        have HA : Hid _ := hA
        clear hA HB
        cases wb with
        | true =>
          go_wp2_with (go_at_call 95; refine (hw _).mono ?_; rintro e w' ⟨rfl, rfl⟩)
          go_round
          case rel => exact ⟨k + 1, by omega, by simp, HA.out⟩
          case measure => simp [intOf]; omega
        | false =>
          go_wp2_with (go_at_call 95; refine (hw _).mono ?_; rintro e w' ⟨rfl, rfl⟩)
          go_ret
          refine ⟨congrArg (fun b => Ending.returned (.bool b)) ?_, rfl⟩
          rw [HN.out]
          cases hx : (s.data.toList.all fun b => wordB b.toNat) with
          | true => exact absurd (HW.out hx) (by decide)
          | false => rfl
      obtain rfl : k = s.size := by omega
      have hall := HK.out
      rw [List.take_of_length_le (by simp)] at hall
      have HM : Hid (nameB s = true) := by show _ = _; rw [HN.out, hall]; rfl
      clear hall
      go_wp2_with fail
      go_ret
      exact ⟨congrArg (fun b => Ending.returned (.bool b)) HM.out.symm, rfl⟩
end Go.Proofs.YtdihbfjjddmbiaaGreatDoor.Kit
namespace Go.Proofs.YtdihbfjjddmbiaaGreatDoor.Kit
open Go.RowKit Go.Shelf Go.Deep
set_option linter.unusedVariables false
attribute [local go_sem] run_store_func
def typV (f : FT) (ao : Option Addr) (ca : Nat) : Value := .agg #[.int .i64 f.kind, .int .i64 f.width, .int .i64 f.id, .int .i64 f.index, .slice ao f.kids.length ca]
def fldV (f : FT) (ao : Option Addr) (ca : Nat) : Value := .agg #[.string f.name, .bool f.nul, .int .i64 f.kind, .int .i64 f.width, .int .i64 f.id, .int .i64 f.index, .slice ao f.kids.length ca]
def kindB (k : Int) : Bool := decide (0 < k) && decide (k < 21)
def indexB (k : Int) : Bool := decide (3 ≤ k) && decide (k ≤ 10)
def widthB (f : FT) : Bool := if f.kind = 14 then decide (1 ≤ f.width) && decide (f.width ≤ 16) else if f.kind = 16 then decide (1 ≤ f.width) && decide (f.width ≤ 64) else decide (f.width = 0)
def dictB (f : FT) : Bool := if f.kind = 19 then (decide (0 ≤ f.id) && decide (f.id < 32)) && indexB f.index else decide (f.id = 0) && decide (f.index = 0)
theorem isKind_any (k : Int) (w : World) : Calls Tryz.prog 98 #[.int .i64 k] w fun e w' => e = .returned (.bool (kindB k)) ∧ w' = w := by
  go_enter Tryz.func98, Tryz.ntmps98
  go_wp2
  all_goals
    go_ret
    refine ⟨congrArg (fun b => Ending.returned (.bool b)) ?_, rfl⟩
    rw [Bool.eq_iff_iff]
    simp [kindB]
    try omega
theorem isIndex_any (k : Int) (w : World) : Calls Tryz.prog 107 #[.int .i64 k] w fun e w' => e = .returned (.bool (indexB k)) ∧ w' = w := by
  go_enter Tryz.func107, Tryz.ntmps107
  go_wp2
  all_goals
    go_ret
    refine ⟨congrArg (fun b => Ending.returned (.bool b)) ?_, rfl⟩
    rw [Bool.eq_iff_iff]
    simp [indexB]
    try omega
theorem beqF {a b : Int} (h : ¬ a = b) : (a == b) = false := by simpa using h
theorem gr_alloc (w : World) (o : Obj) : Gr w (w.alloc o) := (Keeps.refl w _).alloc o
theorem gr_al {W A : World} {o : Obj} (h : W.alloc o = A) : Gr W A := h ▸ gr_alloc W o
theorem fitsWidth_any (f : FT) (ao : Option Addr) (ca : Nat) (w : World) : Calls Tryz.prog 99 #[typV f ao ca] w fun e w' => e = .returned (.bool (widthB f)) ∧ Gr w w' := by
  unfold typV widthB
  go_enter Tryz.func99, Tryz.ntmps99
  by_cases h14 : f.kind = 14
  · rw [if_pos h14]
    go_wp2
    all_goals
      go_ret
      refine ⟨congrArg (fun b => Ending.returned (.bool b)) ?_, gr_alloc _ _⟩
      rw [Bool.eq_iff_iff]
      simp
      try omega
  have q1 := beqF h14
  rw [if_neg h14]
  by_cases h16 : f.kind = 16
  · rw [if_pos h16]
    go_wp2
    all_goals
      go_ret
      refine ⟨congrArg (fun b => Ending.returned (.bool b)) ?_, gr_alloc _ _⟩
      rw [Bool.eq_iff_iff]
      simp
      try omega
  have q2 := beqF h16
  rw [if_neg h16]
  go_wp2
  go_ret
  refine ⟨congrArg (fun b => Ending.returned (.bool b)) ?_, gr_alloc _ _⟩
  rw [Bool.eq_iff_iff]
  simp
theorem fitsDict_any (f : FT) (ao : Option Addr) (ca : Nat) (w : World) : Calls Tryz.prog 100 #[typV f ao ca] w fun e w' => e = .returned (.bool (dictB f)) ∧ Gr w w' := by
  unfold typV dictB
  go_enter Tryz.func100, Tryz.ntmps100
  have hi := fun w => isIndex_any f.index w
  by_cases h19 : f.kind = 19
  · rw [if_pos h19]
    go_wp2_with (go_at_call 107; refine (hi _).mono ?_; rintro e w' ⟨rfl, rfl⟩)
    all_goals
      go_ret
      refine ⟨congrArg (fun b => Ending.returned (.bool b)) ?_, gr_alloc _ _⟩
      rw [Bool.eq_iff_iff]
      simp
      try omega
  have q1 := beqF h19
  rw [if_neg h19]
  go_wp2_with fail
  all_goals
    go_ret
    refine ⟨congrArg (fun b => Ending.returned (.bool b)) ?_, gr_alloc _ _⟩
    rw [Bool.eq_iff_iff]
    simp [*]
    try omega
end Go.Proofs.YtdihbfjjddmbiaaGreatDoor.Kit
namespace Go.Proofs.YtdihbfjjddmbiaaGreatDoor.Kit
open Go.RowKit Go.Shelf Go.Deep
set_option linter.unusedVariables false
attribute [local go_sem] run_store_func
def wordK : Nat → List UInt8
  | 1 => [110, 117, 108, 108] | 2 => [98, 111, 111, 108] | 3 => [105, 110, 116, 56] | 4 => [105, 110, 116, 49, 54] | 5 => [105, 110, 116, 51, 50] | 6 => [105, 110, 116, 54, 52]
  | 7 => [117, 105, 110, 116, 56] | 8 => [117, 105, 110, 116, 49, 54] | 9 => [117, 105, 110, 116, 51, 50] | 10 => [117, 105, 110, 116, 54, 52] | 11 => [102, 108, 111, 97, 116, 54, 52]
  | 12 => [116, 101, 120, 116] | 13 => [98, 121, 116, 101, 115] | 14 => [102, 105, 120, 101, 100] | 15 => [108, 105, 115, 116] | 16 => [115, 112, 97, 110] | 17 => [115, 116, 114, 117, 99, 116]
  | 18 => [99, 104, 111, 105, 99, 101] | 19 => [100, 105, 99, 116] | 20 => [114, 117, 110, 115] | _ => []
def bytesK : Nat → Int
  | 3 => 1 | 4 => 2 | 5 => 4 | 6 => 8 | 7 => 1 | 8 => 2 | 9 => 4 | 10 => 8 | 11 => 8 | _ => 0
def bufsK : Nat → Int
  | 0 => 0 | 1 => 0 | 12 => 3 | 13 => 3 | 16 => 1 | 17 => 1 | 20 => 0 | _ => 2
def leastK : Nat → Int
  | 15 => 1 | 16 => 1 | 18 => 1 | 19 => 1 | 20 => 1 | _ => 0
def mostK : Nat → Int
  | 15 => 1 | 16 => 1 | 17 => 32 | 18 => 32 | 19 => 1 | 20 => 1 | _ => 0
structure KRow (W : World) (k : Nat) : Prop where
  c0 : W.cell? ⟨0, k * 5, none⟩ = some (.string ⟨(wordK k).toArray⟩)
  c1 : W.cell? ⟨0, k * 5 + 1, none⟩ = some (.int .i64 (bytesK k))
  c2 : W.cell? ⟨0, k * 5 + 2, none⟩ = some (.int .i64 (bufsK k))
  c3 : W.cell? ⟨0, k * 5 + 3, none⟩ = some (.int .i64 (leastK k))
  c4 : W.cell? ⟨0, k * 5 + 4, none⟩ = some (.int .i64 (mostK k))
def Tab (W : World) : Prop := 0 < W.heap.size ∧ ∀ k, k < 21 → KRow W k
theorem Tab.kp {W W' : World} (h : Tab W) (e : W'.heap[0]? = W.heap[0]?) : Tab W' := by
  refine ⟨?_, fun k hk => ?_⟩
  · rw [Array.getElem?_eq_getElem h.1] at e
    exact (Array.getElem?_eq_some_iff.1 e).1
  have k' : ∀ j, W'.cell? ⟨0, j, none⟩ = W.cell? ⟨0, j, none⟩ := fun j => World.cell?_of_block (w := W) e
  have := h.2 k hk
  exact ⟨(k' _).trans this.c0, (k' _).trans this.c1, (k' _).trans this.c2, (k' _).trans this.c3, (k' _).trans this.c4⟩
theorem Tab.gr {W W' : World} (h : Tab W) (g : Gr W W') : Tab W' := h.kp (g.block 0 h.1 id)
def tableB (f : FT) : Bool := kindB f.kind && (decide (leastK f.kind.toNat ≤ (f.kids.length : Int)) && decide ((f.kids.length : Int) ≤ mostK f.kind.toNat) && widthB f && dictB f)
theorem fitsTable_any (f : FT) (ao : Option Addr) (ca : Nat) (w : World) (hT : Tab w) (hl : f.kids.length ≤ big) : Calls Tryz.prog 88 #[typV f ao ca] w fun e w' => e = .returned (.bool (tableB f)) ∧ Gr w w' := by
  obtain ⟨nm, nu, kd, wd, di, ix, ks⟩ := f
  have hk : ∀ w, Calls Tryz.prog 98 #[.int .i64 kd] w fun e w' => e = .returned (.bool (kindB kd)) ∧ w' = w := fun w => isKind_any kd w
  have hll : ks.length ≤ 1000000000000 := hl
  obtain ⟨wb, hwb⟩ : ∃ wb, wb = widthB ⟨nm, nu, kd, wd, di, ix, ks⟩ := ⟨_, rfl⟩
  obtain ⟨db, hdb⟩ : ∃ db, db = dictB ⟨nm, nu, kd, wd, di, ix, ks⟩ := ⟨_, rfl⟩
  have hw : ∀ w, Calls Tryz.prog 99 #[.agg #[.int .i64 kd, .int .i64 wd, .int .i64 di, .int .i64 ix, .slice ao ks.length ca]] w fun e w' => e = .returned (.bool wb) ∧ Gr w w' := by rw [hwb]; exact fitsWidth_any ⟨nm, nu, kd, wd, di, ix, ks⟩ ao ca
  have hd : ∀ w, Calls Tryz.prog 100 #[.agg #[.int .i64 kd, .int .i64 wd, .int .i64 di, .int .i64 ix, .slice ao ks.length ca]] w fun e w' => e = .returned (.bool db) ∧ Gr w w' := by rw [hdb]; exact fitsDict_any ⟨nm, nu, kd, wd, di, ix, ks⟩ ao ca
  have hB : tableB ⟨nm, nu, kd, wd, di, ix, ks⟩ = (kindB kd && (decide (leastK kd.toNat ≤ (ks.length : Int)) && decide ((ks.length : Int) ≤ mostK kd.toNat) && wb && db)) := by rw [hwb, hdb]; rfl
  show Calls Tryz.prog 88 #[.agg #[.int .i64 kd, .int .i64 wd, .int .i64 di, .int .i64 ix, .slice ao ks.length ca]] w _
  have hK : kindB kd = true → ∃ k : Nat, k < 21 ∧ kd = k := fun h => by
    simp [kindB] at h
    exact ⟨kd.toNat, by omega, by omega⟩
  clear hwb hdb hl
  generalize tableB ⟨nm, nu, kd, wd, di, ix, ks⟩ = tb at hB
  generalize hkb : kindB kd = kb at hk hB hK
  cases kb with
  | false =>
    subst hB
    clear hK hw hd hT hkb
    go_enter Tryz.func88, Tryz.ntmps88
    go_wp2_with (go_at_call 98; refine (hk _).mono ?_; rintro e w' ⟨rfl, rfl⟩)
    go_ret
    exact ⟨rfl, gr_alloc _ _⟩
  | true =>
    obtain ⟨k, hk21, rfl⟩ := hK rfl
    have hr := hT.2 k hk21
    rw [Int.toNat_natCast] at hB
    simp only [Bool.true_and] at hB
    obtain ⟨c0, c1, c2, c3, c4⟩ := hr
    have b0 : ∀ o, (w.alloc o).cell? ⟨0, k * 5, none⟩ = some (.string ⟨(wordK k).toArray⟩) := fun o => (gr_alloc w o).cell' c0 id
    have b1 : ∀ o, (w.alloc o).cell? ⟨0, k * 5 + 1, none⟩ = some (.int .i64 (bytesK k)) := fun o => (gr_alloc w o).cell' c1 id
    have b2 : ∀ o, (w.alloc o).cell? ⟨0, k * 5 + 2, none⟩ = some (.int .i64 (bufsK k)) := fun o => (gr_alloc w o).cell' c2 id
    have b3 : ∀ o, (w.alloc o).cell? ⟨0, k * 5 + 3, none⟩ = some (.int .i64 (leastK k)) := fun o => (gr_alloc w o).cell' c3 id
    have b4 : ∀ o, (w.alloc o).cell? ⟨0, k * 5 + 4, none⟩ = some (.int .i64 (mostK k)) := fun o => (gr_alloc w o).cell' c4 id
    generalize wordK k = e0 at b0
    generalize bytesK k = e1 at b1
    generalize bufsK k = e2 at b2
    generalize leastK k = e3 at b3 hB
    generalize mostK k = e4 at b4 hB
    have HB : Hid _ := hB
    have HL : Hid _ := hll
    obtain ⟨L, hL⟩ := ex (ks.length)
    rw [hL] at hll hw hd ⊢
    have HB : Hid (tb = (decide (e3 ≤ (L : Int)) && decide ((L : Int) ≤ e4) && wb && db)) := by rw [← hL]; exact hB
    clear hT c0 c1 c2 c3 c4 hB hkb hL HL
    go_enter Tryz.func88, Tryz.ntmps88
    go_wp2_with (go_at_call 98; refine (hk _).mono ?_; rintro e w' ⟨rfl, rfl⟩)
    go_region
    obtain ⟨W2, hW2⟩ := ex (((w.alloc (.cells #[.int .i64 (k : Int), .int .i64 wd, .int .i64 di, .int .i64 ix, .slice ao L ca] 50)).alloc (.cells #[.string ⟨e0.toArray⟩, .int .i64 e1, .int .i64 e2, .int .i64 e3, .int .i64 e4] 141)).drew)
    have HG : Hid (Gr w W2) := by rw [← hW2]; exact (((Keeps.refl w _).alloc _).alloc _).drew
    have x1 : W2.heap[w.heap.size]? = some (.cells #[.int .i64 (k : Int), .int .i64 wd, .int .i64 di, .int .i64 ix, .slice ao L ca] 50) := by
      rw [← hW2]; exact (Below.heap_alloc _ _ _ (by simp)).trans (World.alloc_heap_new w _)
    have x2 : W2.heap[w.heap.size + 1]? = some (.cells #[.string ⟨e0.toArray⟩, .int .i64 e1, .int .i64 e2, .int .i64 e3, .int .i64 e4] 141) := by
      rw [← hW2]
      have := World.alloc_heap_new (w.alloc (.cells #[.int .i64 (k : Int), .int .i64 wd, .int .i64 di, .int .i64 ix, .slice ao L ca] 50)) (.cells #[.string ⟨e0.toArray⟩, .int .i64 e1, .int .i64 e2, .int .i64 e3, .int .i64 e4] 141)
      rw [World.size_alloc] at this
      exact this
    have HX : Hid _ := And.intro x1 x2
    have y0 : ∀ W3, Gr W2 W3 → W3.heap[w.heap.size]? = some (.cells #[.int .i64 (k : Int), .int .i64 wd, .int .i64 di, .int .i64 ix, .slice ao L ca] 50) := fun W3 g => (g.block _ (Array.getElem?_eq_some_iff.1 x1).1 (fun h => h)).trans x1
    have HY : Hid _ := y0
    obtain ⟨z0, z1, z2, z3, z4⟩ := ce5 x1
    have z5 : W2.cell? ⟨w.heap.size + 1, 3, none⟩ = some (.int .i64 e3) := by simp [World.cell?, x2]
    have z6 : W2.cell? ⟨w.heap.size + 1, 4, none⟩ = some (.int .i64 e4) := by simp [World.cell?, x2]
    rw [hW2]
    clear hW2 x1 x2 y0 b0 b1 b2 b3 b4 hk
    by_cases g1 : e3 ≤ (L : Int)
    · by_cases g2 : (L : Int) ≤ e4
      · cases wb with
        | true =>
          go_wp2_with (first
            | (go_at_call 99; refine (hw _).mono ?_; clear hw; rintro e w2 ⟨rfl, hg2⟩; have y := HY.out w2 hg2; have z0 : w2.cell? ⟨w.heap.size, 0, none⟩ = some (.int .i64 (k : Int)) := (by simp [World.cell?, y]); have z1 : w2.cell? ⟨w.heap.size, 1, none⟩ = some (.int .i64 wd) := (by simp [World.cell?, y]); have z2 : w2.cell? ⟨w.heap.size, 2, none⟩ = some (.int .i64 di) := (by simp [World.cell?, y]); have z3 : w2.cell? ⟨w.heap.size, 3, none⟩ = some (.int .i64 ix) := (by simp [World.cell?, y]); have z4 : w2.cell? ⟨w.heap.size, 4, none⟩ = some (.slice ao L ca) := (by simp [World.cell?, y]); have HG2 : Hid (Gr w w2) := HG.out.tr hg2; clear y hg2)
            | (go_at_call 100; refine (hd _).mono ?_; clear hd; rintro e w3 ⟨rfl, hg3⟩; have HG3 : Hid (Gr w w3) := HG2.out.tr hg3; clear hg3))
          go_ret
          exact ⟨congrArg (fun b => Ending.returned (.bool b)) (by rw [HB.out]; simp [g1, g2]), HG3.out⟩
        | false =>
          go_wp2_with (go_at_call 99; refine (hw _).mono ?_; clear hw; rintro e w2 ⟨rfl, hg2⟩; have HG2 : Hid (Gr w w2) := HG.out.tr hg2; clear hg2)
          go_ret
          exact ⟨congrArg (fun b => Ending.returned (.bool b)) (by rw [HB.out]; simp), HG2.out⟩
      go_wp2_with fail
      go_ret
      exact ⟨congrArg (fun b => Ending.returned (.bool b)) (by rw [HB.out, decide_eq_false (Int.not_le.2 g2)]; simp), HG.out⟩
    go_wp2_with fail
    go_ret
    exact ⟨congrArg (fun b => Ending.returned (.bool b)) (by rw [HB.out, decide_eq_false (Int.not_le.2 g1)]; simp), HG.out⟩
end Go.Proofs.YtdihbfjjddmbiaaGreatDoor.Kit
namespace Go.Proofs.YtdihbfjjddmbiaaGreatDoor.Kit
open Go.RowKit Go.Shelf Go.Deep
set_option linter.unusedVariables false
attribute [local go_sem] run_store_func
def nullB (f : FT) : Bool := if f.kind = 1 then f.nul else if f.kind = 18 then !f.nul else if f.kind = 20 then f.nul == ((f.kids[0]?.map FT.nul).getD false) else true
theorem fitsNull_any (f : FT) (ao : Option Addr) (ca : Nat) (S : Nat → Prop) (d : Nat) (w : World) (hr : RowAt S w d ao f.kids) (hk : f.kind = 20 → f.kids ≠ []) :
    Calls Tryz.prog 89 #[fldV f ao ca] w fun e w' => e = .returned (.bool (nullB f)) ∧ Gr w w' := by
  obtain ⟨nm, nu, kd, wd, di, ix, ks⟩ := f
  show Calls Tryz.prog 89 #[.agg #[.string nm, .bool nu, .int .i64 kd, .int .i64 wd, .int .i64 di, .int .i64 ix, .slice ao ks.length ca]] w _
  obtain ⟨nb, hnb⟩ := ex (nullB ⟨nm, nu, kd, wd, di, ix, ks⟩)
  rw [hnb]
  simp only [FT.kind, FT.kids] at hr hk
  by_cases h1 : kd = 1
  · have e : nb = nu := by rw [← hnb]; simp [nullB, FT.kind, FT.nul, h1]
    subst e
    clear hr hk hnb
    go_enter Tryz.func89, Tryz.ntmps89
    go_wp2
    go_ret
    exact ⟨rfl, gr_alloc _ _⟩
  have q1 := beqF h1
  by_cases h2 : kd = 18
  · have e : nb = !nu := by rw [← hnb]; simp [nullB, FT.kind, FT.nul, h2]
    subst e
    clear hr hk hnb
    go_enter Tryz.func89, Tryz.ntmps89
    go_wp2
    go_ret
    exact ⟨rfl, gr_alloc _ _⟩
  have q2 := beqF h2
  by_cases h3 : kd = 20
  · have hne := hk h3
    cases d with
    | zero => exact absurd hr hne
    | succ d =>
      obtain ⟨b, o, rfl, hSb, hcs⟩ := hr.2 hne
      have hpos : 0 < ks.length := List.length_pos_iff.2 hne
      obtain ⟨ao', ca', hc, _, _⟩ := hcs 0 hpos
      have hn : ks[0]? = some ks[0] := List.getElem?_eq_getElem hpos
      have e : nb = (nu == (ks[0]).nul) := by rw [← hnb]; simp [nullB, FT.kind, FT.nul, FT.kids, h3, hn]
      have c1 : ∀ o', (w.alloc o').cell? ⟨b, o + 1, none⟩ = some (.bool (ks[0]).nul) := fun o' => (gr_alloc w o').cell' (by have := hc.c1; simpa using this) (fun h => h)
      have hposI : (0 : Int) < (ks.length : Int) := by omega
      generalize (ks[0]).nul = kn at c1 e
      subst e
      clear hr hk hcs hc hn hne hnb
      go_enter Tryz.func89, Tryz.ntmps89
      go_wp2
      go_region
      go_wp2
      go_ret
      exact ⟨rfl, by first | exact (gr_alloc _ _) | exact (gr_alloc _ _).drew⟩
  have q3 := beqF h3
  have e : nb = true := by rw [← hnb]; simp [nullB, FT.kind, h1, h2, h3]
  subst e
  clear hr hk hnb
  go_enter Tryz.func89, Tryz.ntmps89
  go_wp2
  go_ret
  exact ⟨rfl, gr_alloc _ _⟩
theorem number_exact (ao : Option Addr) (L ca wb m wc i : Nat) (inD : Bool) (hb : m ≤ 1000000000000) (w : World) (hc : w.cell? ⟨wb, m, none⟩ = some (.int .i64 (i : Int))) :
    Calls Tryz.prog 87 #[.agg #[.slice ao L ca, .slice (some ⟨wb, 0, none⟩) (m + 1) wc, .bool inD]] w fun e w' => e = .returned (.int .i64 (i : Int)) ∧ w' = w.alloc (.cells #[.slice ao L ca, .slice (some ⟨wb, 0, none⟩) (m + 1) wc, .bool inD] 119) := by
  have hc : ∀ o, (w.alloc o).cell? ⟨wb, m, none⟩ = some (.int .i64 (i : Int)) := fun o => (gr_alloc w o).cell' hc (fun h => h)
  go_enter Tryz.func87, Tryz.ntmps87
  go_wp2
  go_ret
  exact ⟨rfl, rfl⟩
end Go.Proofs.YtdihbfjjddmbiaaGreatDoor.Kit
namespace Go.Proofs.YtdihbfjjddmbiaaGreatDoor.Kit
open Go.RowKit Go.Shelf Go.Deep
set_option linter.unusedVariables false
attribute [local go_sem] run_store_func
structure SpotF (w : World) (x : Spot) (f : FT) (b o i m : Nat) (ao' : Option Addr) (ca' : Nat) : Prop where
  ao : x.ao = some ⟨b, o, none⟩
  len : x.path.length = m + 1
  lt : i < x.list.length
  bl : x.list.length ≤ 1000000000000
  bm : m ≤ 1000000000000
  wc : w.cell? ⟨x.wb, m, none⟩ = some (.int .i64 (i : Int))
  cs : CellsAt w b (o + i * 7) f ao' ca'
  fe : x.list[i]? = some f
theorem AtS.f {S O : Nat → Prop} {x : Spot} {w : World} (h : AtS S O x w) : ∃ f b o i m ao' ca', SpotF w x f b o i m ao' ca' ∧ f.kids.length ≤ ca' ∧ RowAt S w x.d ao' f.kids ∧ S b ∧ ∃ p, x.path = p ++ [i] := by
  obtain ⟨p, i, hp, hi⟩ := h.ix
  have hne : x.list ≠ [] := fun e => by rw [e] at hi; simp at hi
  obtain ⟨b, o, he, hS, hcs⟩ := h.row.2 hne
  obtain ⟨ao', ca', hc, hle, hr⟩ := hcs i hi
  have hl : x.path.length = p.length + 1 := by rw [hp]; simp
  have hw := h.way
  rw [hl, hp, ints_snoc] at hw
  refine ⟨x.list[i], b, o, i, p.length, ao', ca', ⟨he, hl, hi, h.row.1, by have := h.deep; unfold big at this; omega, ?_, hc, List.getElem?_eq_getElem hi⟩, hle, hr, hS, p, hp⟩
  rw [hw.cellAt p.length (by simp), List.getElem?_append_right (by simp [ints])]
  simp [ints]
theorem SpotF.gr {w w' : World} {x : Spot} {f : FT} {b o i m : Nat} {ao' : Option Addr} {ca' : Nat} (h : SpotF w x f b o i m ao' ca') (g : Gr w w') : SpotF w' x f b o i m ao' ca' :=
  ⟨h.ao, h.len, h.lt, h.bl, h.bm, g.cell' h.wc (fun h => h), h.cs.kept (g.block b (block_lt_of_cell h.cs.c0) (fun h => h)), h.fe⟩
def spotV (x : Spot) : Value := .agg #[.slice x.ao x.list.length x.ca, .slice (some ⟨x.wb, 0, none⟩) x.path.length x.wc, .bool x.inD]
theorem setc {W : World} {B t j : Nat} {c : Array Value} (h : W.heap[B]? = some (.cells c t (0, 0))) (v : Value) : (W.setCell ⟨B, j, none⟩ v).heap[B]? = some (.cells (c.setIfInBounds j v) t (0, 0)) := by
  obtain ⟨hlt, hk⟩ := Array.getElem?_eq_some_iff.1 h
  simp [World.setCell, hlt, Array.getElem_modify_self, hk]
theorem keep1 {W W' : World} {B j : Nat} (h : Keeps W W' (fun b => b = B)) (v : Value) : Keeps W (W'.setCell ⟨B, j, none⟩ v) (fun b => b = B) := h.setCell (p := ⟨B, j, none⟩) (fun _ => rfl) v
theorem set7 {W : World} {B t : Nat} {z0 z1 z2 z3 z4 z5 z6 : Value} (u0 u1 u2 u3 u4 u5 u6 : Value) (h : W.heap[B]? = some (.cells #[z0, z1, z2, z3, z4, z5, z6] t (0, 0))) :
    (((((((W.setCell ⟨B, 0, none⟩ u0).setCell ⟨B, 1, none⟩ u1).setCell ⟨B, 2, none⟩ u2).setCell ⟨B, 3, none⟩ u3).setCell ⟨B, 4, none⟩ u4).setCell ⟨B, 5, none⟩ u5).setCell ⟨B, 6, none⟩ u6).heap[B]? = some (.cells #[u0, u1, u2, u3, u4, u5, u6] t (0, 0)) ∧
    Keeps W (((((((W.setCell ⟨B, 0, none⟩ u0).setCell ⟨B, 1, none⟩ u1).setCell ⟨B, 2, none⟩ u2).setCell ⟨B, 3, none⟩ u3).setCell ⟨B, 4, none⟩ u4).setCell ⟨B, 5, none⟩ u5).setCell ⟨B, 6, none⟩ u6) (fun b => b = B) := by
  refine ⟨?_, keep1 (keep1 (keep1 (keep1 (keep1 (keep1 (keep1 (Keeps.refl W _) _) _) _) _) _) _) _⟩
  have e0 := setc (j := 0) h u0
  have e1 := setc (j := 1) e0 u1
  have e2 := setc (j := 2) e1 u2
  have e3 := setc (j := 3) e2 u3
  have e4 := setc (j := 4) e3 u4
  have e5 := setc (j := 5) e4 u5
  have e6 := setc (j := 6) e5 u6
  rw [e6]
  simp
theorem field_any (x : Spot) (f : FT) (b o i m : Nat) (ao' : Option Addr) (ca' : Nat) (w : World) (h : SpotF w x f b o i m ao' ca') :
    Calls Tryz.prog 70 #[spotV x] w fun e w' => e = .returned (fldV f ao' ca') ∧ Gr w w' := by
  obtain ⟨h1, h2, h3, h4, h5, h6, ⟨g0, g1, g2, g3, g4, g5, g6⟩, -⟩ := h
  unfold spotV fldV
  rw [h1, h2]
  generalize x.list.length = L at *
  generalize x.ca = ca at *
  generalize x.wb = wb at *
  generalize x.wc = wc at *
  generalize x.inD = inD at *
  generalize f.name = f0 at *
  generalize f.nul = f1 at *
  generalize f.kind = f2 at *
  generalize f.width = f3 at *
  generalize f.id = f4 at *
  generalize f.index = f5 at *
  generalize f.kids.length = f6 at *
  clear h1 h2
  have hiI : (i : Int) < (L : Int) := by omega
  obtain ⟨W0, hW⟩ : ∃ W0, W0 = (w.alloc (.cells #[.slice (some ⟨b, o, none⟩) L ca, .slice (some ⟨wb, 0, none⟩) (m + 1) wc, .bool inD] 119)).alloc (.cells #[.string ⟨#[]⟩, .bool false, .int .i64 0, .int .i64 0, .int .i64 0, .int .i64 0, .slice none 0 0] 52) := ⟨_, rfl⟩
  have hgr : Gr w W0 := by rw [hW]; exact ((Keeps.refl w _).alloc _).alloc _
  have k0 := hgr.cell' g0 (fun h => h)
  have k1 := hgr.cell' g1 (fun h => h)
  have k2 := hgr.cell' g2 (fun h => h)
  have k3 := hgr.cell' g3 (fun h => h)
  have k4 := hgr.cell' g4 (fun h => h)
  have k5 := hgr.cell' g5 (fun h => h)
  have k6 := hgr.cell' g6 (fun h => h)
  have kw := hgr.cell' h6 (fun h => h)
  have x1 : W0.heap[w.heap.size]? = some (.cells #[.slice (some ⟨b, o, none⟩) L ca, .slice (some ⟨wb, 0, none⟩) (m + 1) wc, .bool inD] 119) := by
    rw [hW]; exact (Below.heap_alloc _ _ _ (by simp)).trans (World.alloc_heap_new w _)
  have x2 : W0.heap[w.heap.size + 1]? = some (.cells #[.string ⟨#[]⟩, .bool false, .int .i64 0, .int .i64 0, .int .i64 0, .int .i64 0, .slice none 0 0] 52) := by
    rw [hW]
    have := World.alloc_heap_new (w.alloc (.cells #[.slice (some ⟨b, o, none⟩) L ca, .slice (some ⟨wb, 0, none⟩) (m + 1) wc, .bool inD] 119)) (.cells #[.string ⟨#[]⟩, .bool false, .int .i64 0, .int .i64 0, .int .i64 0, .int .i64 0, .slice none 0 0] 52)
    rw [World.size_alloc] at this
    exact this
  clear g0 g1 g2 g3 g4 g5 g6 h6
  go_enter Tryz.func70, Tryz.ntmps70
  go_wp2
  rw [← hW]
  have HG : Hid _ := hgr
  obtain ⟨B, hB⟩ : ∃ B, B = w.heap.size := ⟨_, rfl⟩
  rw [← hB] at x1 x2 ⊢
  obtain ⟨p0, p1, p2⟩ := ce3 x1
  have hn := fun W hc => number_exact (some ⟨b, o, none⟩) L ca wb m wc i inD h5 W hc
  have HX : Hid _ := x2
  have HB : Hid _ := hB
  clear hW hgr x1 x2 hB
  have a0 : ∀ x, (W0.alloc x).cell? ⟨B, 0, none⟩ = some (.slice (some ⟨b, o, none⟩) L ca) := fun x => (gr_alloc W0 x).cell' p0 (fun h => h)
  have r0 : ∀ x, (W0.alloc x).cell? ⟨b, o + i * 7, none⟩ = _ := fun x => (gr_alloc W0 x).cell' k0 (fun h => h)
  have r1 : ∀ x, (W0.alloc x).cell? ⟨b, o + i * 7 + 1, none⟩ = _ := fun x => (gr_alloc W0 x).cell' k1 (fun h => h)
  have r2 : ∀ x, (W0.alloc x).cell? ⟨b, o + i * 7 + 2, none⟩ = _ := fun x => (gr_alloc W0 x).cell' k2 (fun h => h)
  have r3 : ∀ x, (W0.alloc x).cell? ⟨b, o + i * 7 + 3, none⟩ = _ := fun x => (gr_alloc W0 x).cell' k3 (fun h => h)
  have r4 : ∀ x, (W0.alloc x).cell? ⟨b, o + i * 7 + 4, none⟩ = _ := fun x => (gr_alloc W0 x).cell' k4 (fun h => h)
  have r5 : ∀ x, (W0.alloc x).cell? ⟨b, o + i * 7 + 5, none⟩ = _ := fun x => (gr_alloc W0 x).cell' k5 (fun h => h)
  have r6 : ∀ x, (W0.alloc x).cell? ⟨b, o + i * 7 + 6, none⟩ = _ := fun x => (gr_alloc W0 x).cell' k6 (fun h => h)
  have yb : ∀ x, (W0.alloc x).heap[B + 1]? = some (.cells #[.string ⟨#[]⟩, .bool false, .int .i64 0, .int .i64 0, .int .i64 0, .int .i64 0, .slice none 0 0] 52) := fun x => ((gr_alloc W0 x).block _ (Array.getElem?_eq_some_iff.1 HX.out).1 (fun h => h)).trans HX.out
  have y0 : ∀ x, (W0.alloc x).cell? ⟨B + 1, 0, none⟩ = some (.string ⟨#[]⟩) := fun x => by simp [World.cell?, yb x]
  have z0 : ∀ x, (W0.alloc x).frozen? ⟨B + 1, 0, none⟩ = false := fun x => by simp [World.frozen?, yb x]
  have y1 : ∀ x, (W0.alloc x).cell? ⟨B + 1, 1, none⟩ = some (.bool false) := fun x => by simp [World.cell?, yb x]
  have z1 : ∀ x, (W0.alloc x).frozen? ⟨B + 1, 1, none⟩ = false := fun x => by simp [World.frozen?, yb x]
  have y2 : ∀ x, (W0.alloc x).cell? ⟨B + 1, 2, none⟩ = some (.int .i64 0) := fun x => by simp [World.cell?, yb x]
  have z2 : ∀ x, (W0.alloc x).frozen? ⟨B + 1, 2, none⟩ = false := fun x => by simp [World.frozen?, yb x]
  have y3 : ∀ x, (W0.alloc x).cell? ⟨B + 1, 3, none⟩ = some (.int .i64 0) := fun x => by simp [World.cell?, yb x]
  have z3 : ∀ x, (W0.alloc x).frozen? ⟨B + 1, 3, none⟩ = false := fun x => by simp [World.frozen?, yb x]
  have y4 : ∀ x, (W0.alloc x).cell? ⟨B + 1, 4, none⟩ = some (.int .i64 0) := fun x => by simp [World.cell?, yb x]
  have z4 : ∀ x, (W0.alloc x).frozen? ⟨B + 1, 4, none⟩ = false := fun x => by simp [World.frozen?, yb x]
  have y5 : ∀ x, (W0.alloc x).cell? ⟨B + 1, 5, none⟩ = some (.int .i64 0) := fun x => by simp [World.cell?, yb x]
  have z5 : ∀ x, (W0.alloc x).frozen? ⟨B + 1, 5, none⟩ = false := fun x => by simp [World.frozen?, yb x]
  have y6 : ∀ x, (W0.alloc x).cell? ⟨B + 1, 6, none⟩ = some (.slice none 0 0) := fun x => by simp [World.cell?, yb x]
  have z6 : ∀ x, (W0.alloc x).frozen? ⟨B + 1, 6, none⟩ = false := fun x => by simp [World.frozen?, yb x]
  have HYB : Hid _ := yb
  clear yb
  go_region_with (go_at_call 87; refine (hn _ (by first | exact kw | simpa using kw)).mono ?_; rintro e w' ⟨rfl, rfl⟩)
  all_goals
    obtain ⟨e7, k7⟩ := set7 (.string f0) (.bool f1) (.int .i64 f2) (.int .i64 f3) (.int .i64 f4) (.int .i64 f5) (.slice ao' f6 ca') (HYB.out (.cells #[.slice (some ⟨b, o, none⟩) L ca, .slice (some ⟨wb, 0, none⟩) (m + 1) wc, .bool inD] 119))
    generalize (((((((W0.alloc (.cells #[.slice (some ⟨b, o, none⟩) L ca, .slice (some ⟨wb, 0, none⟩) (m + 1) wc, .bool inD] 119)).setCell ⟨B + 1, 0, none⟩ (.string f0)).setCell ⟨B + 1, 1, none⟩ (.bool f1)).setCell ⟨B + 1, 2, none⟩ (.int .i64 f2)).setCell ⟨B + 1, 3, none⟩ (.int .i64 f3)).setCell ⟨B + 1, 4, none⟩ (.int .i64 f4)).setCell ⟨B + 1, 5, none⟩ (.int .i64 f5)).setCell ⟨B + 1, 6, none⟩ (.slice ao' f6 ca') = W4 at *
    have HE : Hid (Gr w W4) := HG.out.trans (T := fun k => k = B + 1) (((gr_alloc W0 _).mono fun _ _ h => h.elim).tr k7) (fun j hj h => by have := HB.out; omega)
    obtain ⟨t0, t1, t2, t3, t4, t5, t6⟩ := ce7 e7
    clear e7 k7 y0 y1 y2 y3 y4 y5 y6 z0 z1 z2 z3 z4 z5 z6 r0 r1 r2 r3 r4 r5 r6 a0 p0 p1 p2 k0 k1 k2 k3 k4 k5 k6 hn kw HYB HX HG
    go_wp2_with fail
    refine bodyPost_ret (v := .agg #[.string f0, .bool f1, .int .i64 f2, .int .i64 f3, .int .i64 f4, .int .i64 f5, .slice ao' f6 ca']) ?_ rfl ?_
    · simp [results, Tryz.f70, go_sem, t0, t1, t2, t3, t4, t5, t6]
    exact ⟨rfl, HE.out.drew⟩
end Go.Proofs.YtdihbfjjddmbiaaGreatDoor.Kit
