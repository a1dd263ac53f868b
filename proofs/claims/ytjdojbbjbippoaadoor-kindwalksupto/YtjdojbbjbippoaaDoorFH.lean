import Derived.Test.YtjdojbbjbippoaaDoorEC
import Derived.Deep.RegionHeld3
namespace Go.Proofs.YtjdojbbjbippoaaDoor.Kit
open Go.RowKit Go.Shelf Go.Deep
set_option linter.unusedVariables false
attribute [local go_sem] run_store_func

abbrev Gr (w w' : World) : Prop := Keeps w w' (fun _ => False)
def digitB (c : Nat) : Bool := decide (48 ≤ c) && decide (c ≤ 57)
def wordB (c : Nat) : Bool := (decide (97 ≤ c) && decide (c ≤ 122)) || (decide (65 ≤ c) && decide (c ≤ 90)) || digitB c || decide (c = 95)

set_option maxRecDepth 100000 in
set_option maxHeartbeats 1000000 in
theorem isDigit_any (c : Nat) (w : World) : Calls Tryd.prog 65 #[.int .u8 (c : Int)] w fun e w' => e = .returned (.bool (digitB c)) ∧ w' = w := by
  go_enter Tryd.func65, Tryd.ntmps65
  go_wp2
  all_goals
    go_ret
    refine ⟨congrArg (fun b => Ending.returned (.bool b)) ?_, rfl⟩
    rw [Bool.eq_iff_iff]
    simp [digitB]
    try omega
set_option maxRecDepth 100000 in
set_option maxHeartbeats 1000000 in
theorem isWordByte_any (c : Nat) (w : World) : Calls Tryd.prog 66 #[.int .u8 (c : Int)] w fun e w' => e = .returned (.bool (wordB c)) ∧ w' = w := by
  go_enter Tryd.func66, Tryd.ntmps66
  go_wp2_with (go_at_call 65; refine (isDigit_any _ _).mono ?_; rintro e w' ⟨rfl, rfl⟩)
  all_goals
    go_ret
    refine ⟨congrArg (fun b => Ending.returned (.bool b)) ?_, rfl⟩
    rw [Bool.eq_iff_iff]
    simp [wordB, *]
    try omega
theorem all_succ {l : List UInt8} {p : UInt8 → Bool} {k : Nat} {b : UInt8} (h : l[k]? = some b) (hk : (l.take k).all p = true) : (l.take (k + 1)).all p = p b := by
  rw [List.take_add_one, h]
  simp [hk]
def nameB (s : ByteArray) : Bool := decide (0 < s.size) && decide (s.size ≤ 48) && !(digitB (s.data.toList[0]!).toNat) && s.data.toList.all fun b => wordB b.toNat
set_option maxRecDepth 100000 in
set_option maxHeartbeats 1000000 in
theorem isName_any (s : ByteArray) (w : World) : Calls Tryd.prog 57 #[.string s] w fun e w' => e = .returned (.bool (nameB s)) ∧ w' = w := by
  go_enter Tryd.func57, Tryd.ntmps57
  by_cases h0 : s.size = 0
  · go_wp2_with fail
    go_ret
    exact ⟨congrArg (fun b => Ending.returned (.bool b)) (by simp [nameB, h0]), rfl⟩
  · by_cases h48 : 48 < s.size
    · go_wp2_with fail
      go_ret
      exact ⟨congrArg (fun b => Ending.returned (.bool b)) (by simp [nameB]; omega), rfl⟩
    · have h0' : 0 < s.size := by omega
      have hb : s.data.toList[0]! = s[0]'h0' := by
        rw [getElem!_pos s.data.toList 0 (by simpa using h0')]
        rfl
      have hb1 := isDigit_any (s[0]'h0').toNat w
      have hi0 : ((s.size : Int) == 0) = false := by
        have : (s.size : Int) ≠ 0 := by omega
        simpa using this
      have hi1 : ¬ ((48 : Int) < (s.size : Int)) := by omega
      have hn : nameB s = ((!(digitB (s[0]'h0').toNat)) && s.data.toList.all fun b => wordB b.toNat) := by
        unfold nameB
        rw [hb]
        simp [h0', show s.size ≤ 48 by omega]
      generalize digitB (s[0]'h0').toNat = dg at hb1 hn
      have HN : Hid _ := hn
      clear hb hn
      cases dg with
      | true =>
        go_wp2_with (go_at_call 65; refine hb1.mono ?_; rintro e w' ⟨rfl, rfl⟩)
        go_ret
        exact ⟨congrArg (fun b => Ending.returned (.bool b)) (by rw [HN.out]; rfl), rfl⟩
      | false =>
        go_wp2_with (go_at_call 65; refine hb1.mono ?_; rintro e w' ⟨rfl, rfl⟩)
        clear hb1
        go_loop [19] (fun i => ∃ k : Nat, k ≤ s.size ∧ i = .int .i64 (k : Int) ∧ Hid ((s.data.toList.take k).all (fun b => wordB b.toNat) = true)) (fun i => s.size - (intOf i).toNat)
        case atStart => exact ⟨0, by omega, rfl, by simp [Hid]⟩
        case round =>
          obtain ⟨k, hk, rfl, HK⟩ := hrel
          by_cases hlt : k < s.size
          · have hb : s.data.toList[k]? = some (s[k]'hlt) := by
              rw [Array.getElem?_toList]
              exact Array.getElem?_eq_getElem hlt
            have hw := fun w => isWordByte_any (s[k]'hlt).toNat w
            have hA := all_succ (p := fun b => wordB b.toNat) hb HK.out
            have HB : Hid _ := hb
            clear hb
            have HW : Hid ((s.data.toList.all fun b => wordB b.toNat) = true → wordB (s[k]'hlt).toNat = true) := fun h => by
              rw [List.all_eq_true] at h
              exact h _ (List.mem_of_getElem? HB.out)
            generalize wordB (s[k]'hlt).toNat = wb at hw hA HW
            have HA : Hid _ := hA
            clear hA HB
            cases wb with
            | true =>
              go_wp2_with (go_at_call 66; refine (hw _).mono ?_; rintro e w' ⟨rfl, rfl⟩)
              go_round
              case rel => exact ⟨k + 1, by omega, by simp, HA.out⟩
              case measure => simp [intOf]; omega
            | false =>
              go_wp2_with (go_at_call 66; refine (hw _).mono ?_; rintro e w' ⟨rfl, rfl⟩)
              go_ret
              refine ⟨congrArg (fun b => Ending.returned (.bool b)) ?_, rfl⟩
              rw [HN.out]
              cases hx : (s.data.toList.all fun b => wordB b.toNat) with
              | true => exact absurd (HW.out hx) (by decide)
              | false => rfl
          · obtain rfl : k = s.size := by omega
            have hall := HK.out
            rw [List.take_of_length_le (by simp)] at hall
            have HM : Hid (nameB s = true) := by show _ = _; rw [HN.out, hall]; rfl
            clear hall
            go_wp2_with fail
            go_ret
            exact ⟨congrArg (fun b => Ending.returned (.bool b)) HM.out.symm, rfl⟩
end Go.Proofs.YtjdojbbjbippoaaDoor.Kit
namespace Go.Proofs.YtjdojbbjbippoaaDoor.Kit
open Go.RowKit Go.Shelf Go.Deep
set_option linter.unusedVariables false
attribute [local go_sem] run_store_func

def typV (f : FT) (ao : Option Addr) (ca : Nat) : Value := .agg #[.int .i64 f.kind, .int .i64 f.width, .int .i64 f.id, .int .i64 f.index, .slice ao f.kids.length ca]
def fldV (f : FT) (ao : Option Addr) (ca : Nat) : Value := .agg #[.string f.name, .bool f.nul, .int .i64 f.kind, .int .i64 f.width, .int .i64 f.id, .int .i64 f.index, .slice ao f.kids.length ca]
def kindB (k : Int) : Bool := decide (0 < k) && decide (k < 21)
def indexB (k : Int) : Bool := decide (3 ≤ k) && decide (k ≤ 10)
def widthB (f : FT) : Bool := if f.kind = 14 then decide (1 ≤ f.width) && decide (f.width ≤ 16) else if f.kind = 16 then decide (1 ≤ f.width) && decide (f.width ≤ 64) else decide (f.width = 0)
def dictB (f : FT) : Bool := if f.kind = 19 then (decide (0 ≤ f.id) && decide (f.id < 32)) && indexB f.index else decide (f.id = 0) && decide (f.index = 0)

set_option maxRecDepth 100000 in
set_option maxHeartbeats 1000000 in
theorem isKind_any (k : Int) (w : World) : Calls Tryd.prog 67 #[.int .i64 k] w fun e w' => e = .returned (.bool (kindB k)) ∧ w' = w := by
  go_enter Tryd.func67, Tryd.ntmps67
  go_wp2
  all_goals
    go_ret
    refine ⟨congrArg (fun b => Ending.returned (.bool b)) ?_, rfl⟩
    rw [Bool.eq_iff_iff]
    simp [kindB]
    try omega
set_option maxRecDepth 100000 in
set_option maxHeartbeats 1000000 in
theorem isIndex_any (k : Int) (w : World) : Calls Tryd.prog 74 #[.int .i64 k] w fun e w' => e = .returned (.bool (indexB k)) ∧ w' = w := by
  go_enter Tryd.func74, Tryd.ntmps74
  go_wp2
  all_goals
    go_ret
    refine ⟨congrArg (fun b => Ending.returned (.bool b)) ?_, rfl⟩
    rw [Bool.eq_iff_iff]
    simp [indexB]
    try omega
theorem beqF {a b : Int} (h : ¬ a = b) : (a == b) = false := by simpa using h
theorem gr_alloc (w : World) (o : Obj) : Gr w (w.alloc o) := (Keeps.refl w _).alloc o
set_option maxRecDepth 100000 in
set_option maxHeartbeats 1000000 in
theorem fitsWidth_any (f : FT) (ao : Option Addr) (ca : Nat) (w : World) : Calls Tryd.prog 68 #[typV f ao ca] w fun e w' => e = .returned (.bool (widthB f)) ∧ Gr w w' := by
  unfold typV widthB
  go_enter Tryd.func68, Tryd.ntmps68
  by_cases h14 : f.kind = 14
  · rw [if_pos h14]
    go_wp2
    all_goals
      go_ret
      refine ⟨congrArg (fun b => Ending.returned (.bool b)) ?_, gr_alloc _ _⟩
      rw [Bool.eq_iff_iff]
      simp
      try omega
  · have q1 := beqF h14
    rw [if_neg h14]
    by_cases h16 : f.kind = 16
    · rw [if_pos h16]
      go_wp2
      all_goals
        go_ret
        refine ⟨congrArg (fun b => Ending.returned (.bool b)) ?_, gr_alloc _ _⟩
        rw [Bool.eq_iff_iff]
        simp
        try omega
    · have q2 := beqF h16
      rw [if_neg h16]
      go_wp2
      go_ret
      refine ⟨congrArg (fun b => Ending.returned (.bool b)) ?_, gr_alloc _ _⟩
      rw [Bool.eq_iff_iff]
      simp
set_option maxRecDepth 100000 in
set_option maxHeartbeats 1000000 in
theorem fitsDict_any (f : FT) (ao : Option Addr) (ca : Nat) (w : World) : Calls Tryd.prog 69 #[typV f ao ca] w fun e w' => e = .returned (.bool (dictB f)) ∧ Gr w w' := by
  unfold typV dictB
  go_enter Tryd.func69, Tryd.ntmps69
  have hi := fun w => isIndex_any f.index w
  by_cases h19 : f.kind = 19
  · rw [if_pos h19]
    go_wp2_with (go_at_call 74; refine (hi _).mono ?_; rintro e w' ⟨rfl, rfl⟩)
    all_goals
      go_ret
      refine ⟨congrArg (fun b => Ending.returned (.bool b)) ?_, gr_alloc _ _⟩
      rw [Bool.eq_iff_iff]
      simp
      try omega
  · have q1 := beqF h19
    rw [if_neg h19]
    go_wp2_with fail
    all_goals
      go_ret
      refine ⟨congrArg (fun b => Ending.returned (.bool b)) ?_, gr_alloc _ _⟩
      rw [Bool.eq_iff_iff]
      simp [*]
      try omega
end Go.Proofs.YtjdojbbjbippoaaDoor.Kit
namespace Go.Proofs.YtjdojbbjbippoaaDoor.Kit
open Go.RowKit Go.Shelf Go.Deep
set_option linter.unusedVariables false
attribute [local go_sem] run_store_func

def wordK : Nat → List UInt8
  | 1 => [110, 117, 108, 108] | 2 => [98, 111, 111, 108] | 3 => [105, 110, 116, 56] | 4 => [105, 110, 116, 49, 54] | 5 => [105, 110, 116, 51, 50] | 6 => [105, 110, 116, 54, 52]
  | 7 => [117, 105, 110, 116, 56] | 8 => [117, 105, 110, 116, 49, 54] | 9 => [117, 105, 110, 116, 51, 50] | 10 => [117, 105, 110, 116, 54, 52] | 11 => [102, 108, 111, 97, 116, 54, 52]
  | 12 => [116, 101, 120, 116] | 13 => [98, 121, 116, 101, 115] | 14 => [102, 105, 120, 101, 100] | 15 => [108, 105, 115, 116] | 16 => [115, 112, 97, 110] | 17 => [115, 116, 114, 117, 99, 116]
  | 18 => [99, 104, 111, 105, 99, 101] | 19 => [100, 105, 99, 116] | 20 => [114, 117, 110, 115] | _ => []
def bytesK : Nat → Int
  | 3 => 1 | 4 => 2 | 5 => 4 | 6 => 8 | 7 => 1 | 8 => 2 | 9 => 4 | 10 => 8 | 11 => 8 | _ => 0
def bufsK : Nat → Int
  | 0 => 0 | 1 => 0 | 12 => 3 | 13 => 3 | 16 => 1 | 17 => 1 | 20 => 0 | _ => 2
def leastK : Nat → Int
  | 15 => 1 | 16 => 1 | 18 => 1 | 19 => 1 | 20 => 1 | _ => 0
def mostK : Nat → Int
  | 15 => 1 | 16 => 1 | 17 => 32 | 18 => 32 | 19 => 1 | 20 => 1 | _ => 0
structure KRow (W : World) (k : Nat) : Prop where
  c0 : W.cell? ⟨0, k * 5, none⟩ = some (.string ⟨(wordK k).toArray⟩)
  c1 : W.cell? ⟨0, k * 5 + 1, none⟩ = some (.int .i64 (bytesK k))
  c2 : W.cell? ⟨0, k * 5 + 2, none⟩ = some (.int .i64 (bufsK k))
  c3 : W.cell? ⟨0, k * 5 + 3, none⟩ = some (.int .i64 (leastK k))
  c4 : W.cell? ⟨0, k * 5 + 4, none⟩ = some (.int .i64 (mostK k))
def Tab (W : World) : Prop := 0 < W.heap.size ∧ ∀ k, k < 21 → KRow W k
theorem Tab.kp {W W' : World} (h : Tab W) (e : W'.heap[0]? = W.heap[0]?) : Tab W' := by
  refine ⟨?_, fun k hk => ?_⟩
  · rw [Array.getElem?_eq_getElem h.1] at e
    exact (Array.getElem?_eq_some_iff.1 e).1
  · have k' : ∀ j, W'.cell? ⟨0, j, none⟩ = W.cell? ⟨0, j, none⟩ := fun j => World.cell?_of_block (w := W) e
    have := h.2 k hk
    exact ⟨(k' _).trans this.c0, (k' _).trans this.c1, (k' _).trans this.c2, (k' _).trans this.c3, (k' _).trans this.c4⟩
theorem Tab.gr {W W' : World} (h : Tab W) (g : Gr W W') : Tab W' := h.kp (g.block 0 h.1 id)
def tableB (f : FT) : Bool := kindB f.kind && (decide (leastK f.kind.toNat ≤ (f.kids.length : Int)) && decide ((f.kids.length : Int) ≤ mostK f.kind.toNat) && widthB f && dictB f)

set_option maxRecDepth 100000 in
set_option maxHeartbeats 1000000 in
theorem fitsTable_any (f : FT) (ao : Option Addr) (ca : Nat) (w : World) (hT : Tab w) (hl : f.kids.length ≤ big) : Calls Tryd.prog 58 #[typV f ao ca] w fun e w' => e = .returned (.bool (tableB f)) ∧ Gr w w' := by
  obtain ⟨nm, nu, kd, wd, di, ix, ks⟩ := f
  have hk : ∀ w, Calls Tryd.prog 67 #[.int .i64 kd] w fun e w' => e = .returned (.bool (kindB kd)) ∧ w' = w := fun w => isKind_any kd w
  have hll : ks.length ≤ 1000000000000 := hl
  obtain ⟨wb, hwb⟩ : ∃ wb, wb = widthB ⟨nm, nu, kd, wd, di, ix, ks⟩ := ⟨_, rfl⟩
  obtain ⟨db, hdb⟩ : ∃ db, db = dictB ⟨nm, nu, kd, wd, di, ix, ks⟩ := ⟨_, rfl⟩
  have hw : ∀ w, Calls Tryd.prog 68 #[.agg #[.int .i64 kd, .int .i64 wd, .int .i64 di, .int .i64 ix, .slice ao ks.length ca]] w fun e w' => e = .returned (.bool wb) ∧ Gr w w' := by rw [hwb]; exact fitsWidth_any ⟨nm, nu, kd, wd, di, ix, ks⟩ ao ca
  have hd : ∀ w, Calls Tryd.prog 69 #[.agg #[.int .i64 kd, .int .i64 wd, .int .i64 di, .int .i64 ix, .slice ao ks.length ca]] w fun e w' => e = .returned (.bool db) ∧ Gr w w' := by rw [hdb]; exact fitsDict_any ⟨nm, nu, kd, wd, di, ix, ks⟩ ao ca
  have hB : tableB ⟨nm, nu, kd, wd, di, ix, ks⟩ = (kindB kd && (decide (leastK kd.toNat ≤ (ks.length : Int)) && decide ((ks.length : Int) ≤ mostK kd.toNat) && wb && db)) := by rw [hwb, hdb]; rfl
  show Calls Tryd.prog 58 #[.agg #[.int .i64 kd, .int .i64 wd, .int .i64 di, .int .i64 ix, .slice ao ks.length ca]] w _
  have hK : kindB kd = true → ∃ k : Nat, k < 21 ∧ kd = k := fun h => by
    simp [kindB] at h
    exact ⟨kd.toNat, by omega, by omega⟩
  clear hwb hdb hl
  generalize tableB ⟨nm, nu, kd, wd, di, ix, ks⟩ = tb at hB
  generalize hkb : kindB kd = kb at hk hB hK
  cases kb with
  | false =>
    subst hB
    clear hK hw hd hT hkb
    go_enter Tryd.func58, Tryd.ntmps58
    go_wp2_with (go_at_call 67; refine (hk _).mono ?_; rintro e w' ⟨rfl, rfl⟩)
    go_ret
    exact ⟨rfl, gr_alloc _ _⟩
  | true =>
    obtain ⟨k, hk21, rfl⟩ := hK rfl
    have hr := hT.2 k hk21
    rw [Int.toNat_natCast] at hB
    simp only [Bool.true_and] at hB
    obtain ⟨c0, c1, c2, c3, c4⟩ := hr
    have b0 : ∀ o, (w.alloc o).cell? ⟨0, k * 5, none⟩ = some (.string ⟨(wordK k).toArray⟩) := fun o => (gr_alloc w o).cell' c0 id
    have b1 : ∀ o, (w.alloc o).cell? ⟨0, k * 5 + 1, none⟩ = some (.int .i64 (bytesK k)) := fun o => (gr_alloc w o).cell' c1 id
    have b2 : ∀ o, (w.alloc o).cell? ⟨0, k * 5 + 2, none⟩ = some (.int .i64 (bufsK k)) := fun o => (gr_alloc w o).cell' c2 id
    have b3 : ∀ o, (w.alloc o).cell? ⟨0, k * 5 + 3, none⟩ = some (.int .i64 (leastK k)) := fun o => (gr_alloc w o).cell' c3 id
    have b4 : ∀ o, (w.alloc o).cell? ⟨0, k * 5 + 4, none⟩ = some (.int .i64 (mostK k)) := fun o => (gr_alloc w o).cell' c4 id
    generalize wordK k = e0 at b0
    generalize bytesK k = e1 at b1
    generalize bufsK k = e2 at b2
    generalize leastK k = e3 at b3 hB
    generalize mostK k = e4 at b4 hB
    have HB : Hid _ := hB
    have HL : Hid _ := hll
    obtain ⟨L, hL⟩ : ∃ L, ks.length = L := ⟨_, rfl⟩
    rw [hL] at hll hw hd ⊢
    have HB : Hid (tb = (decide (e3 ≤ (L : Int)) && decide ((L : Int) ≤ e4) && wb && db)) := by rw [← hL]; exact hB
    clear hT c0 c1 c2 c3 c4 hB hkb hL HL
    go_enter Tryd.func58, Tryd.ntmps58
    go_wp2_with (go_at_call 67; refine (hk _).mono ?_; rintro e w' ⟨rfl, rfl⟩)
    go_region
    obtain ⟨W2, hW2⟩ : ∃ W2, ((w.alloc (.cells #[.int .i64 (k : Int), .int .i64 wd, .int .i64 di, .int .i64 ix, .slice ao L ca] 36)).alloc (.cells #[.string ⟨e0.toArray⟩, .int .i64 e1, .int .i64 e2, .int .i64 e3, .int .i64 e4] 109)).drew = W2 := ⟨_, rfl⟩
    have HG : Hid (Gr w W2) := by rw [← hW2]; exact (((Keeps.refl w _).alloc _).alloc _).drew
    have x1 : W2.heap[w.heap.size]? = some (.cells #[.int .i64 (k : Int), .int .i64 wd, .int .i64 di, .int .i64 ix, .slice ao L ca] 36) := by
      rw [← hW2]; exact (Below.heap_alloc _ _ _ (by simp)).trans (World.alloc_heap_new w _)
    have x2 : W2.heap[w.heap.size + 1]? = some (.cells #[.string ⟨e0.toArray⟩, .int .i64 e1, .int .i64 e2, .int .i64 e3, .int .i64 e4] 109) := by
      rw [← hW2]
      have := World.alloc_heap_new (w.alloc (.cells #[.int .i64 (k : Int), .int .i64 wd, .int .i64 di, .int .i64 ix, .slice ao L ca] 36)) (.cells #[.string ⟨e0.toArray⟩, .int .i64 e1, .int .i64 e2, .int .i64 e3, .int .i64 e4] 109)
      rw [World.size_alloc] at this
      exact this
    have HX : Hid _ := And.intro x1 x2
    have y0 : ∀ W3, Gr W2 W3 → W3.heap[w.heap.size]? = some (.cells #[.int .i64 (k : Int), .int .i64 wd, .int .i64 di, .int .i64 ix, .slice ao L ca] 36) := fun W3 g => (g.block _ (Array.getElem?_eq_some_iff.1 x1).1 (fun h => h)).trans x1
    have HY : Hid _ := y0
    have z0 : W2.cell? ⟨w.heap.size, 0, none⟩ = some (.int .i64 (k : Int)) := by simp [World.cell?, x1]
    have z1 : W2.cell? ⟨w.heap.size, 1, none⟩ = some (.int .i64 wd) := by simp [World.cell?, x1]
    have z2 : W2.cell? ⟨w.heap.size, 2, none⟩ = some (.int .i64 di) := by simp [World.cell?, x1]
    have z3 : W2.cell? ⟨w.heap.size, 3, none⟩ = some (.int .i64 ix) := by simp [World.cell?, x1]
    have z4 : W2.cell? ⟨w.heap.size, 4, none⟩ = some (.slice ao L ca) := by simp [World.cell?, x1]
    have z5 : W2.cell? ⟨w.heap.size + 1, 3, none⟩ = some (.int .i64 e3) := by simp [World.cell?, x2]
    have z6 : W2.cell? ⟨w.heap.size + 1, 4, none⟩ = some (.int .i64 e4) := by simp [World.cell?, x2]
    rw [hW2]
    clear hW2 x1 x2 y0 b0 b1 b2 b3 b4 hk
    by_cases g1 : e3 ≤ (L : Int)
    · by_cases g2 : (L : Int) ≤ e4
      · cases wb with
        | true =>
          go_wp2_with (first
            | (go_at_call 68; refine (hw _).mono ?_; clear hw; rintro e w2 ⟨rfl, hg2⟩; have y := HY.out w2 hg2; have z0 : w2.cell? ⟨w.heap.size, 0, none⟩ = some (.int .i64 (k : Int)) := (by simp [World.cell?, y]); have z1 : w2.cell? ⟨w.heap.size, 1, none⟩ = some (.int .i64 wd) := (by simp [World.cell?, y]); have z2 : w2.cell? ⟨w.heap.size, 2, none⟩ = some (.int .i64 di) := (by simp [World.cell?, y]); have z3 : w2.cell? ⟨w.heap.size, 3, none⟩ = some (.int .i64 ix) := (by simp [World.cell?, y]); have z4 : w2.cell? ⟨w.heap.size, 4, none⟩ = some (.slice ao L ca) := (by simp [World.cell?, y]); have HG2 : Hid (Gr w w2) := HG.out.trans hg2 (fun _ _ h => h); clear y hg2)
            | (go_at_call 69; refine (hd _).mono ?_; clear hd; rintro e w3 ⟨rfl, hg3⟩; have HG3 : Hid (Gr w w3) := HG2.out.trans hg3 (fun _ _ h => h); clear hg3))
          go_ret
          exact ⟨congrArg (fun b => Ending.returned (.bool b)) (by rw [HB.out]; simp [g1, g2]), HG3.out⟩
        | false =>
          go_wp2_with (go_at_call 68; refine (hw _).mono ?_; clear hw; rintro e w2 ⟨rfl, hg2⟩; have HG2 : Hid (Gr w w2) := HG.out.trans hg2 (fun _ _ h => h); clear hg2)
          go_ret
          exact ⟨congrArg (fun b => Ending.returned (.bool b)) (by rw [HB.out]; simp), HG2.out⟩
      · go_wp2_with fail
        go_ret
        exact ⟨congrArg (fun b => Ending.returned (.bool b)) (by rw [HB.out, decide_eq_false (Int.not_le.2 g2)]; simp), HG.out⟩
    · go_wp2_with fail
      go_ret
      exact ⟨congrArg (fun b => Ending.returned (.bool b)) (by rw [HB.out, decide_eq_false (Int.not_le.2 g1)]; simp), HG.out⟩
end Go.Proofs.YtjdojbbjbippoaaDoor.Kit
namespace Go.Proofs.YtjdojbbjbippoaaDoor.Kit
open Go.RowKit Go.Shelf Go.Deep
set_option linter.unusedVariables false
attribute [local go_sem] run_store_func

/-- may the field be nullable as it is; k0: its first child is -/
def nullB (f : FT) : Bool := if f.kind = 1 then f.nul else if f.kind = 18 then !f.nul else if f.kind = 20 then f.nul == ((f.kids[0]?.map FT.nul).getD false) else true

set_option maxRecDepth 100000 in
set_option maxHeartbeats 1000000 in
theorem fitsNull_any (f : FT) (ao : Option Addr) (ca : Nat) (S : Nat → Prop) (d : Nat) (w : World) (hr : RowAt S w d ao f.kids) (hk : f.kind = 20 → f.kids ≠ []) :
    Calls Tryd.prog 59 #[fldV f ao ca] w fun e w' => e = .returned (.bool (nullB f)) ∧ Gr w w' := by
  obtain ⟨nm, nu, kd, wd, di, ix, ks⟩ := f
  show Calls Tryd.prog 59 #[.agg #[.string nm, .bool nu, .int .i64 kd, .int .i64 wd, .int .i64 di, .int .i64 ix, .slice ao ks.length ca]] w _
  obtain ⟨nb, hnb⟩ : ∃ nb, nullB ⟨nm, nu, kd, wd, di, ix, ks⟩ = nb := ⟨_, rfl⟩
  rw [hnb]
  simp only [FT.kind, FT.kids] at hr hk
  by_cases h1 : kd = 1
  · have e : nb = nu := by rw [← hnb]; simp [nullB, FT.kind, FT.nul, h1]
    subst e
    clear hr hk hnb
    go_enter Tryd.func59, Tryd.ntmps59
    go_wp2
    go_ret
    exact ⟨rfl, gr_alloc _ _⟩
  · have q1 := beqF h1
    by_cases h2 : kd = 18
    · have e : nb = !nu := by rw [← hnb]; simp [nullB, FT.kind, FT.nul, h2]
      subst e
      clear hr hk hnb
      go_enter Tryd.func59, Tryd.ntmps59
      go_wp2
      go_ret
      exact ⟨rfl, gr_alloc _ _⟩
    · have q2 := beqF h2
      by_cases h3 : kd = 20
      · have hne := hk h3
        cases d with
        | zero => exact absurd hr hne
        | succ d =>
          obtain ⟨b, o, rfl, hSb, hcs⟩ := hr.2 hne
          have hpos : 0 < ks.length := List.length_pos_iff.2 hne
          obtain ⟨ao', ca', hc, _, _⟩ := hcs 0 hpos
          have hn : ks[0]? = some ks[0] := List.getElem?_eq_getElem hpos
          have e : nb = (nu == (ks[0]).nul) := by rw [← hnb]; simp [nullB, FT.kind, FT.nul, FT.kids, h3, hn]
          have c1 : ∀ o', (w.alloc o').cell? ⟨b, o + 1, none⟩ = some (.bool (ks[0]).nul) := fun o' => (gr_alloc w o').cell' (by have := hc.c1; simpa using this) (fun h => h)
          have hposI : (0 : Int) < (ks.length : Int) := by omega
          generalize (ks[0]).nul = kn at c1 e
          subst e
          clear hr hk hcs hc hn hne hnb
          go_enter Tryd.func59, Tryd.ntmps59
          go_wp2
          go_region
          go_wp2
          go_ret
          exact ⟨rfl, by first | exact (gr_alloc _ _) | exact (gr_alloc _ _).drew⟩
      · have q3 := beqF h3
        have e : nb = true := by rw [← hnb]; simp [nullB, FT.kind, h1, h2, h3]
        subst e
        clear hr hk hnb
        go_enter Tryd.func59, Tryd.ntmps59
        go_wp2
        go_ret
        exact ⟨rfl, gr_alloc _ _⟩
set_option maxRecDepth 100000 in
set_option maxHeartbeats 1000000 in
/-- the spot's number -/
theorem number_exact (ao : Option Addr) (L ca wb m wc i : Nat) (inD : Bool) (hb : m ≤ 1000000000000) (w : World) (hc : w.cell? ⟨wb, m, none⟩ = some (.int .i64 (i : Int))) :
    Calls Tryd.prog 41 #[.agg #[.slice ao L ca, .slice (some ⟨wb, 0, none⟩) (m + 1) wc, .bool inD]] w fun e w' => e = .returned (.int .i64 (i : Int)) ∧ w' = w.alloc (.cells #[.slice ao L ca, .slice (some ⟨wb, 0, none⟩) (m + 1) wc, .bool inD] 62) := by
  have hc : ∀ o, (w.alloc o).cell? ⟨wb, m, none⟩ = some (.int .i64 (i : Int)) := fun o => (gr_alloc w o).cell' hc (fun h => h)
  go_enter Tryd.func41, Tryd.ntmps41
  go_wp2
  go_ret
  exact ⟨rfl, rfl⟩
end Go.Proofs.YtjdojbbjbippoaaDoor.Kit
namespace Go.Proofs.YtjdojbbjbippoaaDoor.Kit
open Go.RowKit Go.Shelf Go.Deep
set_option linter.unusedVariables false
attribute [local go_sem] run_store_func

/-- the spot's own field, in letters -/
structure SpotF (w : World) (x : Spot) (f : FT) (b o i m : Nat) (ao' : Option Addr) (ca' : Nat) : Prop where
  ao : x.ao = some ⟨b, o, none⟩
  len : x.path.length = m + 1
  lt : i < x.list.length
  bl : x.list.length ≤ 1000000000000
  bm : m ≤ 1000000000000
  wc : w.cell? ⟨x.wb, m, none⟩ = some (.int .i64 (i : Int))
  cs : CellsAt w b (o + i * 7) f ao' ca'
  fe : x.list[i]? = some f
theorem AtS.f {S O : Nat → Prop} {x : Spot} {w : World} (h : AtS S O x w) : ∃ f b o i m ao' ca', SpotF w x f b o i m ao' ca' ∧ f.kids.length ≤ ca' ∧ RowAt S w x.d ao' f.kids ∧ S b ∧ ∃ p, x.path = p ++ [i] := by
  obtain ⟨p, i, hp, hi⟩ := h.ix
  have hne : x.list ≠ [] := fun e => by rw [e] at hi; simp at hi
  obtain ⟨b, o, he, hS, hcs⟩ := h.row.2 hne
  obtain ⟨ao', ca', hc, hle, hr⟩ := hcs i hi
  have hl : x.path.length = p.length + 1 := by rw [hp]; simp
  have hw := h.way
  rw [hl, hp, ints_snoc] at hw
  refine ⟨x.list[i], b, o, i, p.length, ao', ca', ⟨he, hl, hi, h.row.1, by have := h.deep; unfold big at this; omega, ?_, hc, List.getElem?_eq_getElem hi⟩, hle, hr, hS, p, hp⟩
  rw [hw.cellAt p.length (by simp), List.getElem?_append_right (by simp [ints])]
  simp [ints]
theorem SpotF.gr {w w' : World} {x : Spot} {f : FT} {b o i m : Nat} {ao' : Option Addr} {ca' : Nat} (h : SpotF w x f b o i m ao' ca') (g : Gr w w') : SpotF w' x f b o i m ao' ca' :=
  ⟨h.ao, h.len, h.lt, h.bl, h.bm, g.cell' h.wc (fun h => h), h.cs.kept (g.block b (block_lt_of_cell h.cs.c0) (fun h => h)), h.fe⟩
def spotV (x : Spot) : Value := .agg #[.slice x.ao x.list.length x.ca, .slice (some ⟨x.wb, 0, none⟩) x.path.length x.wc, .bool x.inD]

theorem setc {W : World} {B t j : Nat} {c : Array Value} (h : W.heap[B]? = some (.cells c t (0, 0))) (v : Value) : (W.setCell ⟨B, j, none⟩ v).heap[B]? = some (.cells (c.setIfInBounds j v) t (0, 0)) := by
  obtain ⟨hlt, hk⟩ := Array.getElem?_eq_some_iff.1 h
  simp [World.setCell, hlt, Array.getElem_modify_self, hk]
theorem keep1 {W W' : World} {B j : Nat} (h : Keeps W W' (fun b => b = B)) (v : Value) : Keeps W (W'.setCell ⟨B, j, none⟩ v) (fun b => b = B) := h.setCell (p := ⟨B, j, none⟩) (fun _ => rfl) v
theorem set7 {W : World} {B t : Nat} {z0 z1 z2 z3 z4 z5 z6 : Value} (u0 u1 u2 u3 u4 u5 u6 : Value) (h : W.heap[B]? = some (.cells #[z0, z1, z2, z3, z4, z5, z6] t (0, 0))) :
    (((((((W.setCell ⟨B, 0, none⟩ u0).setCell ⟨B, 1, none⟩ u1).setCell ⟨B, 2, none⟩ u2).setCell ⟨B, 3, none⟩ u3).setCell ⟨B, 4, none⟩ u4).setCell ⟨B, 5, none⟩ u5).setCell ⟨B, 6, none⟩ u6).heap[B]? = some (.cells #[u0, u1, u2, u3, u4, u5, u6] t (0, 0)) ∧
    Keeps W (((((((W.setCell ⟨B, 0, none⟩ u0).setCell ⟨B, 1, none⟩ u1).setCell ⟨B, 2, none⟩ u2).setCell ⟨B, 3, none⟩ u3).setCell ⟨B, 4, none⟩ u4).setCell ⟨B, 5, none⟩ u5).setCell ⟨B, 6, none⟩ u6) (fun b => b = B) := by
  refine ⟨?_, keep1 (keep1 (keep1 (keep1 (keep1 (keep1 (keep1 (Keeps.refl W _) _) _) _) _) _) _) _⟩
  have e0 := setc (j := 0) h u0
  have e1 := setc (j := 1) e0 u1
  have e2 := setc (j := 2) e1 u2
  have e3 := setc (j := 3) e2 u3
  have e4 := setc (j := 4) e3 u4
  have e5 := setc (j := 5) e4 u5
  have e6 := setc (j := 6) e5 u6
  rw [e6]
  simp
set_option maxRecDepth 100000 in
set_option maxHeartbeats 2000000 in
theorem field_any (x : Spot) (f : FT) (b o i m : Nat) (ao' : Option Addr) (ca' : Nat) (w : World) (h : SpotF w x f b o i m ao' ca') :
    Calls Tryd.prog 25 #[spotV x] w fun e w' => e = .returned (fldV f ao' ca') ∧ Gr w w' := by
  obtain ⟨h1, h2, h3, h4, h5, h6, ⟨g0, g1, g2, g3, g4, g5, g6⟩, -⟩ := h
  unfold spotV fldV
  rw [h1, h2]
  generalize x.list.length = L at *
  generalize x.ca = ca at *
  generalize x.wb = wb at *
  generalize x.wc = wc at *
  generalize x.inD = inD at *
  generalize f.name = f0 at *
  generalize f.nul = f1 at *
  generalize f.kind = f2 at *
  generalize f.width = f3 at *
  generalize f.id = f4 at *
  generalize f.index = f5 at *
  generalize f.kids.length = f6 at *
  clear h1 h2
  have hiI : (i : Int) < (L : Int) := by omega
  obtain ⟨W0, hW⟩ : ∃ W0, W0 = (w.alloc (.cells #[.slice (some ⟨b, o, none⟩) L ca, .slice (some ⟨wb, 0, none⟩) (m + 1) wc, .bool inD] 62)).alloc (.cells #[.string ⟨#[]⟩, .bool false, .int .i64 0, .int .i64 0, .int .i64 0, .int .i64 0, .slice none 0 0] 38) := ⟨_, rfl⟩
  have hgr : Gr w W0 := by rw [hW]; exact ((Keeps.refl w _).alloc _).alloc _
  have k0 := hgr.cell' g0 (fun h => h)
  have k1 := hgr.cell' g1 (fun h => h)
  have k2 := hgr.cell' g2 (fun h => h)
  have k3 := hgr.cell' g3 (fun h => h)
  have k4 := hgr.cell' g4 (fun h => h)
  have k5 := hgr.cell' g5 (fun h => h)
  have k6 := hgr.cell' g6 (fun h => h)
  have kw := hgr.cell' h6 (fun h => h)
  have x1 : W0.heap[w.heap.size]? = some (.cells #[.slice (some ⟨b, o, none⟩) L ca, .slice (some ⟨wb, 0, none⟩) (m + 1) wc, .bool inD] 62) := by
    rw [hW]; exact (Below.heap_alloc _ _ _ (by simp)).trans (World.alloc_heap_new w _)
  have x2 : W0.heap[w.heap.size + 1]? = some (.cells #[.string ⟨#[]⟩, .bool false, .int .i64 0, .int .i64 0, .int .i64 0, .int .i64 0, .slice none 0 0] 38) := by
    rw [hW]
    have := World.alloc_heap_new (w.alloc (.cells #[.slice (some ⟨b, o, none⟩) L ca, .slice (some ⟨wb, 0, none⟩) (m + 1) wc, .bool inD] 62)) (.cells #[.string ⟨#[]⟩, .bool false, .int .i64 0, .int .i64 0, .int .i64 0, .int .i64 0, .slice none 0 0] 38)
    rw [World.size_alloc] at this
    exact this
  clear g0 g1 g2 g3 g4 g5 g6 h6
  go_enter Tryd.func25, Tryd.ntmps25
  go_wp2
  rw [← hW]
  have HG : Hid _ := hgr
  obtain ⟨B, hB⟩ : ∃ B, B = w.heap.size := ⟨_, rfl⟩
  rw [← hB] at x1 x2 ⊢
  have p0 : W0.cell? ⟨B, 0, none⟩ = some (.slice (some ⟨b, o, none⟩) L ca) := by simp [World.cell?, x1]
  have p1 : W0.cell? ⟨B, 1, none⟩ = some (.slice (some ⟨wb, 0, none⟩) (m + 1) wc) := by simp [World.cell?, x1]
  have p2 : W0.cell? ⟨B, 2, none⟩ = some (.bool inD) := by simp [World.cell?, x1]
  have hn := fun W hc => number_exact (some ⟨b, o, none⟩) L ca wb m wc i inD h5 W hc
  have HX : Hid _ := x2
  have HB : Hid _ := hB
  clear hW hgr x1 x2 hB
  have a0 : ∀ x, (W0.alloc x).cell? ⟨B, 0, none⟩ = some (.slice (some ⟨b, o, none⟩) L ca) := fun x => (gr_alloc W0 x).cell' p0 (fun h => h)
  have r0 : ∀ x, (W0.alloc x).cell? ⟨b, o + i * 7, none⟩ = _ := fun x => (gr_alloc W0 x).cell' k0 (fun h => h)
  have r1 : ∀ x, (W0.alloc x).cell? ⟨b, o + i * 7 + 1, none⟩ = _ := fun x => (gr_alloc W0 x).cell' k1 (fun h => h)
  have r2 : ∀ x, (W0.alloc x).cell? ⟨b, o + i * 7 + 2, none⟩ = _ := fun x => (gr_alloc W0 x).cell' k2 (fun h => h)
  have r3 : ∀ x, (W0.alloc x).cell? ⟨b, o + i * 7 + 3, none⟩ = _ := fun x => (gr_alloc W0 x).cell' k3 (fun h => h)
  have r4 : ∀ x, (W0.alloc x).cell? ⟨b, o + i * 7 + 4, none⟩ = _ := fun x => (gr_alloc W0 x).cell' k4 (fun h => h)
  have r5 : ∀ x, (W0.alloc x).cell? ⟨b, o + i * 7 + 5, none⟩ = _ := fun x => (gr_alloc W0 x).cell' k5 (fun h => h)
  have r6 : ∀ x, (W0.alloc x).cell? ⟨b, o + i * 7 + 6, none⟩ = _ := fun x => (gr_alloc W0 x).cell' k6 (fun h => h)
  have yb : ∀ x, (W0.alloc x).heap[B + 1]? = some (.cells #[.string ⟨#[]⟩, .bool false, .int .i64 0, .int .i64 0, .int .i64 0, .int .i64 0, .slice none 0 0] 38) := fun x => ((gr_alloc W0 x).block _ (Array.getElem?_eq_some_iff.1 HX.out).1 (fun h => h)).trans HX.out
  have y0 : ∀ x, (W0.alloc x).cell? ⟨B + 1, 0, none⟩ = some (.string ⟨#[]⟩) := fun x => by simp [World.cell?, yb x]
  have z0 : ∀ x, (W0.alloc x).frozen? ⟨B + 1, 0, none⟩ = false := fun x => by simp [World.frozen?, yb x]
  have y1 : ∀ x, (W0.alloc x).cell? ⟨B + 1, 1, none⟩ = some (.bool false) := fun x => by simp [World.cell?, yb x]
  have z1 : ∀ x, (W0.alloc x).frozen? ⟨B + 1, 1, none⟩ = false := fun x => by simp [World.frozen?, yb x]
  have y2 : ∀ x, (W0.alloc x).cell? ⟨B + 1, 2, none⟩ = some (.int .i64 0) := fun x => by simp [World.cell?, yb x]
  have z2 : ∀ x, (W0.alloc x).frozen? ⟨B + 1, 2, none⟩ = false := fun x => by simp [World.frozen?, yb x]
  have y3 : ∀ x, (W0.alloc x).cell? ⟨B + 1, 3, none⟩ = some (.int .i64 0) := fun x => by simp [World.cell?, yb x]
  have z3 : ∀ x, (W0.alloc x).frozen? ⟨B + 1, 3, none⟩ = false := fun x => by simp [World.frozen?, yb x]
  have y4 : ∀ x, (W0.alloc x).cell? ⟨B + 1, 4, none⟩ = some (.int .i64 0) := fun x => by simp [World.cell?, yb x]
  have z4 : ∀ x, (W0.alloc x).frozen? ⟨B + 1, 4, none⟩ = false := fun x => by simp [World.frozen?, yb x]
  have y5 : ∀ x, (W0.alloc x).cell? ⟨B + 1, 5, none⟩ = some (.int .i64 0) := fun x => by simp [World.cell?, yb x]
  have z5 : ∀ x, (W0.alloc x).frozen? ⟨B + 1, 5, none⟩ = false := fun x => by simp [World.frozen?, yb x]
  have y6 : ∀ x, (W0.alloc x).cell? ⟨B + 1, 6, none⟩ = some (.slice none 0 0) := fun x => by simp [World.cell?, yb x]
  have z6 : ∀ x, (W0.alloc x).frozen? ⟨B + 1, 6, none⟩ = false := fun x => by simp [World.frozen?, yb x]
  have HYB : Hid _ := yb
  clear yb
  go_region_with (go_at_call 41; refine (hn _ (by first | exact kw | simpa using kw)).mono ?_; rintro e w' ⟨rfl, rfl⟩)
  all_goals
    obtain ⟨e7, k7⟩ := set7 (.string f0) (.bool f1) (.int .i64 f2) (.int .i64 f3) (.int .i64 f4) (.int .i64 f5) (.slice ao' f6 ca') (HYB.out (.cells #[.slice (some ⟨b, o, none⟩) L ca, .slice (some ⟨wb, 0, none⟩) (m + 1) wc, .bool inD] 62))
    generalize (((((((W0.alloc (.cells #[.slice (some ⟨b, o, none⟩) L ca, .slice (some ⟨wb, 0, none⟩) (m + 1) wc, .bool inD] 62)).setCell ⟨B + 1, 0, none⟩ (.string f0)).setCell ⟨B + 1, 1, none⟩ (.bool f1)).setCell ⟨B + 1, 2, none⟩ (.int .i64 f2)).setCell ⟨B + 1, 3, none⟩ (.int .i64 f3)).setCell ⟨B + 1, 4, none⟩ (.int .i64 f4)).setCell ⟨B + 1, 5, none⟩ (.int .i64 f5)).setCell ⟨B + 1, 6, none⟩ (.slice ao' f6 ca') = W4 at *
    have HE : Hid (Gr w W4) := HG.out.trans (T := fun k => k = B + 1) (((gr_alloc W0 _).mono fun _ _ h => h.elim).trans k7 (fun _ _ h => h)) (fun j hj h => by have := HB.out; omega)
    have t0 : W4.cell? ⟨B + 1, 0, none⟩ = some (.string f0) := by simp [World.cell?, e7]
    have t1 : W4.cell? ⟨B + 1, 1, none⟩ = some (.bool f1) := by simp [World.cell?, e7]
    have t2 : W4.cell? ⟨B + 1, 2, none⟩ = some (.int .i64 f2) := by simp [World.cell?, e7]
    have t3 : W4.cell? ⟨B + 1, 3, none⟩ = some (.int .i64 f3) := by simp [World.cell?, e7]
    have t4 : W4.cell? ⟨B + 1, 4, none⟩ = some (.int .i64 f4) := by simp [World.cell?, e7]
    have t5 : W4.cell? ⟨B + 1, 5, none⟩ = some (.int .i64 f5) := by simp [World.cell?, e7]
    have t6 : W4.cell? ⟨B + 1, 6, none⟩ = some (.slice ao' f6 ca') := by simp [World.cell?, e7]
    clear e7 k7 y0 y1 y2 y3 y4 y5 y6 z0 z1 z2 z3 z4 z5 z6 r0 r1 r2 r3 r4 r5 r6 a0 p0 p1 p2 k0 k1 k2 k3 k4 k5 k6 hn kw HYB HX HG
    go_wp2_with fail
    refine bodyPost_ret (v := .agg #[.string f0, .bool f1, .int .i64 f2, .int .i64 f3, .int .i64 f4, .int .i64 f5, .slice ao' f6 ca']) ?_ rfl ?_
    · simp [results, Tryd.f25, go_sem, t0, t1, t2, t3, t4, t5, t6]
    · exact ⟨rfl, HE.out.drew⟩
end Go.Proofs.YtjdojbbjbippoaaDoor.Kit
namespace Go.Proofs.YtjdojbbjbippoaaDoor.Kit
open Go.RowKit Go.Shelf Go.Deep
set_option linter.unusedVariables false
attribute [local go_sem] run_store_func

def sEq (a b : ByteArray) : Bool := a.toList == b.toList
set_option maxRecDepth 100000 in
set_option maxHeartbeats 1000000 in
theorem named_any (f : FT) (ao : Option Addr) (ca nb : Nat) (nm : ByteArray) (w : World) (hn : w.cell? ⟨nb, 0, none⟩ = some (.string nm)) :
    Calls Tryd.prog 50 #[fldV f ao ca, .pointer (some ⟨nb, 0, none⟩)] w fun e w' => e = .returned (.bool (sEq f.name nm)) ∧ Gr w w' := by
  have hn : ∀ o, (w.alloc o).cell? ⟨nb, 0, none⟩ = some (.string nm) := fun o => (gr_alloc w o).cell' hn (fun h => h)
  unfold fldV
  go_enter Tryd.func50, Tryd.ntmps50
  go_wp2
  go_ret
  exact ⟨rfl, gr_alloc _ _⟩

/-- the first field of that name -/
def idxOf (l : List FT) (nm : ByteArray) : Int := if l.findIdx (fun f => sEq f.name nm) < l.length then (l.findIdx (fun f => sEq f.name nm) : Nat) else -1
theorem idxOf_none {l : List FT} {nm : ByteArray} (h : ∀ i (h : i < l.length), (sEq l[i].name nm) = false) : idxOf l nm = -1 := by
  unfold idxOf
  rw [if_neg]
  intro hlt
  have := List.findIdx_getElem (w := hlt)
  rw [h _ hlt] at this
  cases this
theorem idxOf_some {l : List FT} {nm : ByteArray} {k : Nat} (hk : k < l.length) (h : ∀ i (h : i < l.length), i < k → (sEq l[i].name nm) = false) (hx : (sEq l[k].name nm) = true) : idxOf l nm = k := by
  have : l.findIdx (fun f => sEq f.name nm) = k := by
    rw [List.findIdx_eq hk]
    exact ⟨hx, fun j hj => by rw [h j (by omega) hj]⟩
  unfold idxOf
  rw [this, if_pos hk]

set_option maxRecDepth 100000 in
set_option maxHeartbeats 2000000 in
theorem indexFunc_any (S : Nat → Prop) (d : Nat) (ao : Option Addr) (ca nb : Nat) (l : List FT) (nm : ByteArray) (w : World) (hr : RowAt S w d ao l) (hn : w.cell? ⟨nb, 0, none⟩ = some (.string nm)) :
    Calls Tryd.prog 49 #[.slice ao l.length ca, .func (.func 50) #[] #[.pointer (some ⟨nb, 0, none⟩)]] w fun e w' => e = .returned (.int .i64 (idxOf l nm)) ∧ Gr w w' := by
  have hlen : l.length ≤ 1000000000000 := hr.len
  have HR : Hid (l ≠ [] → ∃ b o, ao = some ⟨b, o, none⟩ ∧ ∀ i (h : i < l.length), ∃ ao' ca', CellsAt w b (o + i * 7) l[i] ao' ca') := fun hne => by
    cases d with
    | zero => exact absurd hr hne
    | succ d =>
      obtain ⟨b, o, e, _, h⟩ := hr.2 hne
      exact ⟨b, o, e, fun i hi => by obtain ⟨a, c, h1, _⟩ := h i hi; exact ⟨a, c, h1⟩⟩
  have HN : Hid _ := hn
  obtain ⟨L, hL⟩ : ∃ L, L = l.length := ⟨_, rfl⟩
  rw [← hL] at hlen ⊢
  have HL : Hid (L = l.length) := hL
  clear hr hn hL
  go_enter Tryd.func49, Tryd.ntmps49
  go_wp2
  go_loopw [8] (fun i wr => ∃ k : Nat, k ≤ L ∧ i = .int .i64 (k : Int) ∧ Hid (Gr w wr ∧ ∀ i (h : i < l.length), i < k → (sEq l[i].name nm) = false)) (fun i _ => L - (intOf i).toNat)
  case atStart => exact ⟨0, by omega, rfl, Keeps.refl _ _, fun i h h0 => by omega⟩
  case round =>
    obtain ⟨k, hk, rfl, HK⟩ := hrel
    by_cases hlt : k < L
    · have hl := HL.out
      have hkl : k < l.length := by omega
      obtain ⟨b, o, rfl, hcs⟩ := HR.out (fun e => by rw [e] at hkl; simp at hkl)
      obtain ⟨ao', ca', hc⟩ := hcs k hkl
      obtain ⟨g0, g1, g2, g3, g4, g5, g6⟩ := hc.kept (HK.out.1.block b (block_lt_of_cell hc.c0) (fun h => h))
      have hnn : wr.cell? ⟨nb, 0, none⟩ = some (.string nm) := HK.out.1.cell' HN.out (fun h => h)
      have hcall : Calls Tryd.prog 50 #[.agg #[.string l[k].name, .bool l[k].nul, .int .i64 l[k].kind, .int .i64 l[k].width, .int .i64 l[k].id, .int .i64 l[k].index, .slice ao' l[k].kids.length ca'], .pointer (some ⟨nb, 0, none⟩)] wr fun e w' => e = .returned (.bool (sEq l[k].name nm)) ∧ Gr wr w' := named_any l[k] ao' ca' nb nm wr hnn
      have HE : Hid _ := @idxOf_some l nm k hkl HK.out.2
      have HM : Hid ((sEq l[k].name nm) = false → ∀ i (h : i < l.length), i < k + 1 → (sEq l[i].name nm) = false) := fun hx i hi hlt => by
        by_cases e : i = k
        · subst e; exact hx
        · exact HK.out.2 i hi (by omega)
      have HG : Hid (Gr w wr) := HK.out.1
      generalize l[k].name = f0 at *
      generalize l[k].nul = f1 at *
      generalize l[k].kind = f2 at *
      generalize l[k].width = f3 at *
      generalize l[k].id = f4 at *
      generalize l[k].index = f5 at *
      generalize l[k].kids.length = f6 at *
      generalize (sEq f0 nm) = eq at *
      clear hc hcs hl hkl HK hnn
      cases eq with
      | true =>
        go_wp2_with (go_at_call 50; refine hcall.mono ?_; rintro e w2 ⟨rfl, hg⟩)
        go_ret
        exact ⟨congrArg (fun z => Ending.returned (.int .i64 z)) (HE.out (by trivial)).symm, HG.out.trans hg (fun _ _ h => h)⟩
      | false =>
        go_wp2_with (go_at_call 50; refine hcall.mono ?_; rintro e w2 ⟨rfl, hg⟩)
        go_roundw
        case rel => exact ⟨k + 1, by omega, by simp, HG.out.trans hg (fun _ _ h => h), HM.out (by trivial)⟩
        case measure => simp [intOf]; omega
    · have HE : Hid (idxOf l nm = -1) := idxOf_none fun i hi => HK.out.2 i hi (by have := HL.out; omega)
      have HG : Hid (Gr w wr) := HK.out.1
      have hkL : k = L := by omega
      subst hkL
      clear HK
      go_wp2_with fail
      go_ret
      exact ⟨congrArg (fun z => Ending.returned (.int .i64 z)) HE.out.symm, HG.out⟩
set_option maxRecDepth 100000 in
set_option maxHeartbeats 1000000 in
theorem numberOfName_any (S : Nat → Prop) (d : Nat) (ao : Option Addr) (ca : Nat) (l : List FT) (nm : ByteArray) (w : World) (hr : RowAt S w d ao l) (hS : ∀ b, S b → b < w.heap.size) :
    Calls Tryd.prog 34 #[.slice ao l.length ca, .string nm] w fun e w' => e = .returned (.int .i64 (idxOf l nm)) ∧ Gr w w' := by
  have hc := indexFunc_any S d ao ca w.heap.size l nm (w.alloc (.cells #[.string nm] 9)) (hr.kept fun b h => (gr_alloc w _).block b (hS b h) (fun h => h)) (cell_new w _ 9)
  have HC : Hid _ := hc
  clear hc hr
  generalize l.length = L at *
  go_enter Tryd.func34, Tryd.ntmps34
  go_wp2_with (go_at_call 49; refine Calls.mono HC.out ?_; rintro e w2 ⟨rfl, hg⟩)
  go_ret
  exact ⟨rfl, (gr_alloc w _).trans hg (fun _ _ h => h)⟩
end Go.Proofs.YtjdojbbjbippoaaDoor.Kit
namespace Go.Proofs.YtjdojbbjbippoaaDoor.Kit
open Go.RowKit Go.Shelf Go.Deep
set_option linter.unusedVariables false
attribute [local go_sem] run_store_func

theorem hidM {p : Prop} (h : p) : Hid p := h
def takV (t : Nat → Bool) : Value := .agg #[.bool (t 0), .bool (t 1), .bool (t 2), .bool (t 3), .bool (t 4), .bool (t 5), .bool (t 6), .bool (t 7), .bool (t 8), .bool (t 9), .bool (t 10), .bool (t 11), .bool (t 12), .bool (t 13), .bool (t 14), .bool (t 15), .bool (t 16), .bool (t 17), .bool (t 18), .bool (t 19), .bool (t 20), .bool (t 21), .bool (t 22), .bool (t 23), .bool (t 24), .bool (t 25), .bool (t 26), .bool (t 27), .bool (t 28), .bool (t 29), .bool (t 30), .bool (t 31)]
/-- what is wrong, in letters -/
def wr (m : Nat) (ahead : Int) (nameR : Bool) (idx i : Int) (tabR nulR inD : Bool) (f2 : Int) (kid : Bool) (tk : Bool) : Int :=
  if 64 < m then 33 else if 256 ≤ ahead then 34 else if nameR = false then 30 else if idx ≠ i then 31 else if tabR = false then 32 else if nulR = false then 35
  else if inD = true ∧ (f2 = 19 ∨ f2 = 20) then 36 else if f2 = 19 ∧ (kid = true ∨ tk = true) then 36 else 0
/-- the three boxes of the call -/
structure WB (W : World) (B F : Nat) (ao : Option Addr) (L ca wb m wc : Nat) (inD : Bool) (t : Nat → Bool) (f0 : ByteArray) (f1 : Bool) (f2 f3 f4 f5 : Int) (ao' : Option Addr) (f6 ca' : Nat) : Prop where
  hb : W.heap[B]? = some (.cells #[.slice ao L ca, .slice (some ⟨wb, 0, none⟩) m wc, .bool inD] 62)
  ht : W.heap[B + 1]? = some (.cells #[.bool (t 0), .bool (t 1), .bool (t 2), .bool (t 3), .bool (t 4), .bool (t 5), .bool (t 6), .bool (t 7), .bool (t 8), .bool (t 9), .bool (t 10), .bool (t 11), .bool (t 12), .bool (t 13), .bool (t 14), .bool (t 15), .bool (t 16), .bool (t 17), .bool (t 18), .bool (t 19), .bool (t 20), .bool (t 21), .bool (t 22), .bool (t 23), .bool (t 24), .bool (t 25), .bool (t 26), .bool (t 27), .bool (t 28), .bool (t 29), .bool (t 30), .bool (t 31)] 85)
  hf : W.heap[F]? = some (.cells #[.string f0, .bool f1, .int .i64 f2, .int .i64 f3, .int .i64 f4, .int .i64 f5, .slice ao' f6 ca'] 38)
theorem lt_of_heap {W : World} {B : Nat} {o : Obj} (h : W.heap[B]? = some o) : B < W.heap.size := (Array.getElem?_eq_some_iff.1 h).1
theorem WB.gr {W W' : World} {B F : Nat} {ao : Option Addr} {L ca wb m wc : Nat} {inD : Bool} {t : Nat → Bool} {f0 : ByteArray} {f1 : Bool} {f2 f3 f4 f5 : Int} {ao' : Option Addr} {f6 ca' : Nat} (h : WB W B F ao L ca wb m wc inD t f0 f1 f2 f3 f4 f5 ao' f6 ca') (g : Gr W W') : WB W' B F ao L ca wb m wc inD t f0 f1 f2 f3 f4 f5 ao' f6 ca' :=
  ⟨(g.block _ (lt_of_heap h.hb) (fun h => h)).trans h.hb, (g.block _ (lt_of_heap h.ht) (fun h => h)).trans h.ht, (g.block _ (lt_of_heap h.hf) (fun h => h)).trans h.hf⟩
theorem WB.cells {W : World} {B F : Nat} {ao : Option Addr} {L ca wb m wc : Nat} {inD : Bool} {t : Nat → Bool} {f0 : ByteArray} {f1 : Bool} {f2 f3 f4 f5 : Int} {ao' : Option Addr} {f6 ca' : Nat} (h : WB W B F ao L ca wb m wc inD t f0 f1 f2 f3 f4 f5 ao' f6 ca') :
    W.cell? ⟨B, 0, none⟩ = some (.slice ao L ca) ∧ W.cell? ⟨B, 1, none⟩ = some (.slice (some ⟨wb, 0, none⟩) m wc) ∧ W.cell? ⟨B, 2, none⟩ = some (.bool inD) ∧ W.cell? ⟨F, 0, none⟩ = some (.string f0) ∧ W.cell? ⟨F, 1, none⟩ = some (.bool f1) ∧ W.cell? ⟨F, 2, none⟩ = some (.int .i64 f2) ∧ W.cell? ⟨F, 3, none⟩ = some (.int .i64 f3) ∧ W.cell? ⟨F, 4, none⟩ = some (.int .i64 f4) ∧ W.cell? ⟨F, 5, none⟩ = some (.int .i64 f5) ∧ W.cell? ⟨F, 6, none⟩ = some (.slice ao' f6 ca') := by
  obtain ⟨hb, ht, hf⟩ := h
  refine ⟨?_, ?_, ?_, ?_, ?_, ?_, ?_, ?_, ?_, ?_⟩ <;> simp [World.cell?, hb, hf]
theorem WB.tk {W : World} {B F : Nat} {ao : Option Addr} {L ca wb m wc : Nat} {inD : Bool} {t : Nat → Bool} {f0 : ByteArray} {f1 : Bool} {f2 f3 f4 f5 : Int} {ao' : Option Addr} {f6 ca' : Nat} (h : WB W B F ao L ca wb m wc inD t f0 f1 f2 f3 f4 f5 ao' f6 ca') (k : Nat) (hk : k < 32) : W.cell? ⟨B + 1, k, none⟩ = some (.bool (t k)) := by
  have ht := h.ht
  simp only [World.cell?, ht]
  have e : (#[.bool (t 0), .bool (t 1), .bool (t 2), .bool (t 3), .bool (t 4), .bool (t 5), .bool (t 6), .bool (t 7), .bool (t 8), .bool (t 9), .bool (t 10), .bool (t 11), .bool (t 12), .bool (t 13), .bool (t 14), .bool (t 15), .bool (t 16), .bool (t 17), .bool (t 18), .bool (t 19), .bool (t 20), .bool (t 21), .bool (t 22), .bool (t 23), .bool (t 24), .bool (t 25), .bool (t 26), .bool (t 27), .bool (t 28), .bool (t 29), .bool (t 30), .bool (t 31)] : Array Value) = ((List.range 32).map fun j => Value.bool (t j)).toArray := rfl
  rw [e]
  simp [hk]
theorem ws_of {w : World} {B F : Nat} {ao : Option Addr} {L ca wb m wc : Nat} {inD : Bool} {t : Nat → Bool} {f0 : ByteArray} {f1 : Bool} {f2 f3 f4 f5 : Int} {ao' : Option Addr} {f6 ca' : Nat} {W : World} (g : Gr w W) (h : WB W B F ao L ca wb m wc inD t f0 f1 f2 f3 f4 f5 ao' f6 ca') : Hid (Gr w W ∧ WB W B F ao L ca wb m wc inD t f0 f1 f2 f3 f4 f5 ao' f6 ca') ∧ W.cell? ⟨B, 0, none⟩ = some (.slice ao L ca) ∧ W.cell? ⟨B, 1, none⟩ = some (.slice (some ⟨wb, 0, none⟩) m wc) ∧ W.cell? ⟨B, 2, none⟩ = some (.bool inD) ∧ W.cell? ⟨F, 0, none⟩ = some (.string f0) :=
  ⟨⟨g, h⟩, h.cells.1, h.cells.2.1, h.cells.2.2.1, h.cells.2.2.2.1⟩
theorem ws_kept {w : World} {B F : Nat} {ao : Option Addr} {L ca wb m wc : Nat} {inD : Bool} {t : Nat → Bool} {f0 : ByteArray} {f1 : Bool} {f2 f3 f4 f5 : Int} {ao' : Option Addr} {f6 ca' : Nat} {W W' : World} (h : Hid (Gr w W ∧ WB W B F ao L ca wb m wc inD t f0 f1 f2 f3 f4 f5 ao' f6 ca') ∧ W.cell? ⟨B, 0, none⟩ = some (.slice ao L ca) ∧ W.cell? ⟨B, 1, none⟩ = some (.slice (some ⟨wb, 0, none⟩) m wc) ∧ W.cell? ⟨B, 2, none⟩ = some (.bool inD) ∧ W.cell? ⟨F, 0, none⟩ = some (.string f0)) (k : Hid (Gr W W')) : Hid (Gr w W' ∧ WB W' B F ao L ca wb m wc inD t f0 f1 f2 f3 f4 f5 ao' f6 ca') ∧ W'.cell? ⟨B, 0, none⟩ = some (.slice ao L ca) ∧ W'.cell? ⟨B, 1, none⟩ = some (.slice (some ⟨wb, 0, none⟩) m wc) ∧ W'.cell? ⟨B, 2, none⟩ = some (.bool inD) ∧ W'.cell? ⟨F, 0, none⟩ = some (.string f0) :=
  ws_of (h.1.out.1.trans k.out (fun _ _ h => h)) (h.1.out.2.gr k.out)
theorem gr_drew {w : World} : Gr w w.drew := (Keeps.refl w _).drew
theorem ws_gr {w : World} {B F : Nat} {ao : Option Addr} {L ca wb m wc : Nat} {inD : Bool} {t : Nat → Bool} {f0 : ByteArray} {f1 : Bool} {f2 f3 f4 f5 : Int} {ao' : Option Addr} {f6 ca' : Nat} {W : World} (h : Hid (Gr w W ∧ WB W B F ao L ca wb m wc inD t f0 f1 f2 f3 f4 f5 ao' f6 ca') ∧ W.cell? ⟨B, 0, none⟩ = some (.slice ao L ca) ∧ W.cell? ⟨B, 1, none⟩ = some (.slice (some ⟨wb, 0, none⟩) m wc) ∧ W.cell? ⟨B, 2, none⟩ = some (.bool inD) ∧ W.cell? ⟨F, 0, none⟩ = some (.string f0)) : Gr w W := h.1.out.1

set_option maxRecDepth 100000 in
set_option maxHeartbeats 4000000 in
theorem wrong_walk (ao : Option Addr) (L ca wb m wc : Nat) (inD : Bool) (i : Nat) (t : Nat → Bool) (ahead : Int) (f0 : ByteArray) (f1 : Bool) (f2 f3 f4 f5 : Int) (ao' : Option Addr) (f6 ca' : Nat) (nameR : Bool) (idx : Int) (tabR nulR kid : Bool) (w : World) (hm : m ≤ 1000000000000)
    (hF : ∀ W, Gr w W → Calls Tryd.prog 25 #[.agg #[.slice ao L ca, .slice (some ⟨wb, 0, none⟩) m wc, .bool inD]] W fun e w' => e = .returned (.agg #[.string f0, .bool f1, .int .i64 f2, .int .i64 f3, .int .i64 f4, .int .i64 f5, .slice ao' f6 ca']) ∧ Gr W w')
    (hName : ∀ W, Calls Tryd.prog 57 #[.string f0] W fun e w' => e = .returned (.bool nameR) ∧ w' = W)
    (hIdx : ∀ W, Gr w W → Calls Tryd.prog 34 #[.slice ao L ca, .string f0] W fun e w' => e = .returned (.int .i64 idx) ∧ Gr W w')
    (hNum : ∀ W, Gr w W → Calls Tryd.prog 41 #[.agg #[.slice ao L ca, .slice (some ⟨wb, 0, none⟩) m wc, .bool inD]] W fun e w' => e = .returned (.int .i64 (i : Int)) ∧ Gr W w')
    (hTab : ∀ W, Gr w W → Calls Tryd.prog 58 #[.agg #[.int .i64 f2, .int .i64 f3, .int .i64 f4, .int .i64 f5, .slice ao' f6 ca']] W fun e w' => e = .returned (.bool tabR) ∧ Gr W w')
    (hNul : tabR = true → ∀ W, Gr w W → Calls Tryd.prog 59 #[.agg #[.string f0, .bool f1, .int .i64 f2, .int .i64 f3, .int .i64 f4, .int .i64 f5, .slice ao' f6 ca']] W fun e w' => e = .returned (.bool nulR) ∧ Gr W w')
    (hKid : tabR = true → f2 = 19 → ∃ b o k, ao' = some ⟨b, o, none⟩ ∧ 0 < f6 ∧ w.cell? ⟨b, o + 1, none⟩ = some (.bool kid) ∧ k < 32 ∧ f4 = (k : Nat)) :
    Calls Tryd.prog 43 #[.agg #[.slice ao L ca, .slice (some ⟨wb, 0, none⟩) m wc, .bool inD], .int .i64 ahead, takV t] w fun e w' => e = .returned (.int .i64 (wr m ahead nameR idx i tabR nulR inD f2 kid (t f4.toNat))) ∧ Gr w w' := by
  have HF : Hid _ := hF
  have HNa : Hid _ := hName
  have HI : Hid _ := hIdx
  have HNu : Hid _ := hNum
  have HT : Hid _ := hTab
  have HU : Hid _ := hNul
  have HK : Hid _ := hKid
  clear hF hName hIdx hNum hTab hNul hKid
  unfold takV
  obtain ⟨W0, hW0⟩ : ∃ W0, W0 = (w.alloc (.cells #[.slice ao L ca, .slice (some ⟨wb, 0, none⟩) m wc, .bool inD] 62)).alloc (.cells #[.bool (t 0), .bool (t 1), .bool (t 2), .bool (t 3), .bool (t 4), .bool (t 5), .bool (t 6), .bool (t 7), .bool (t 8), .bool (t 9), .bool (t 10), .bool (t 11), .bool (t 12), .bool (t 13), .bool (t 14), .bool (t 15), .bool (t 16), .bool (t 17), .bool (t 18), .bool (t 19), .bool (t 20), .bool (t 21), .bool (t 22), .bool (t 23), .bool (t 24), .bool (t 25), .bool (t 26), .bool (t 27), .bool (t 28), .bool (t 29), .bool (t 30), .bool (t 31)] 85) := ⟨_, rfl⟩
  have HG0 : Hid (Gr w W0) := by rw [hW0]; exact ((Keeps.refl w _).alloc _).alloc _
  have x1 : W0.heap[w.heap.size]? = some (.cells #[.slice ao L ca, .slice (some ⟨wb, 0, none⟩) m wc, .bool inD] 62) := by
    rw [hW0]; exact (Below.heap_alloc _ _ _ (by simp)).trans (World.alloc_heap_new w _)
  have x2 : W0.heap[w.heap.size + 1]? = some (.cells #[.bool (t 0), .bool (t 1), .bool (t 2), .bool (t 3), .bool (t 4), .bool (t 5), .bool (t 6), .bool (t 7), .bool (t 8), .bool (t 9), .bool (t 10), .bool (t 11), .bool (t 12), .bool (t 13), .bool (t 14), .bool (t 15), .bool (t 16), .bool (t 17), .bool (t 18), .bool (t 19), .bool (t 20), .bool (t 21), .bool (t 22), .bool (t 23), .bool (t 24), .bool (t 25), .bool (t 26), .bool (t 27), .bool (t 28), .bool (t 29), .bool (t 30), .bool (t 31)] 85) := by
    rw [hW0]
    have := World.alloc_heap_new (w.alloc (.cells #[.slice ao L ca, .slice (some ⟨wb, 0, none⟩) m wc, .bool inD] 62)) (.cells #[.bool (t 0), .bool (t 1), .bool (t 2), .bool (t 3), .bool (t 4), .bool (t 5), .bool (t 6), .bool (t 7), .bool (t 8), .bool (t 9), .bool (t 10), .bool (t 11), .bool (t 12), .bool (t 13), .bool (t 14), .bool (t 15), .bool (t 16), .bool (t 17), .bool (t 18), .bool (t 19), .bool (t 20), .bool (t 21), .bool (t 22), .bool (t 23), .bool (t 24), .bool (t 25), .bool (t 26), .bool (t 27), .bool (t 28), .bool (t 29), .bool (t 30), .bool (t 31)] 85)
    rw [World.size_alloc] at this
    exact this
  go_enter Tryd.func43, Tryd.ntmps43
  have p0 : W0.cell? ⟨w.heap.size, 0, none⟩ = some (.slice ao L ca) := by simp [World.cell?, x1]
  have p1 : W0.cell? ⟨w.heap.size, 1, none⟩ = some (.slice (some ⟨wb, 0, none⟩) m wc) := by simp [World.cell?, x1]
  have p2 : W0.cell? ⟨w.heap.size, 2, none⟩ = some (.bool inD) := by simp [World.cell?, x1]
  go_wp2_with fail
  rw [← hW0]
  refine Calls.mono (HF.out W0 HG0.out) ?_
  rintro e W1 ⟨rfl, hg1⟩
  obtain ⟨W2, hW2⟩ : ∃ W2, W1.alloc (.cells #[.string f0, .bool f1, .int .i64 f2, .int .i64 f3, .int .i64 f4, .int .i64 f5, .slice ao' f6 ca'] 38) = W2 := ⟨_, rfl⟩
  have HG2 : Hid (Gr w W2) := by rw [← hW2]; exact (HG0.out.trans hg1 (fun _ _ h => h)).alloc _
  have HW2 : Hid (WB W2 w.heap.size W1.heap.size ao L ca wb m wc inD t f0 f1 f2 f3 f4 f5 ao' f6 ca') := by
    have g : Gr W0 W2 := by rw [← hW2]; exact hg1.alloc _
    exact ⟨(g.block _ (lt_of_heap x1) (fun h => h)).trans x1, (g.block _ (lt_of_heap x2) (fun h => h)).trans x2, by rw [← hW2]; exact World.alloc_heap_new W1 _⟩
  clear x1 x2 p0 p1 p2 hg1 hW0 HG0 HF
  obtain ⟨p0, p1, p2, q0, q1, q2, q3, q4, q5, q6⟩ := HW2.out.cells
  by_cases c1 : 64 < m
  · have c1' : (64 : Int) < (m : Int) := by omega
    go_wp2_with fail
    go_ret
    exact ⟨congrArg (fun z => Ending.returned (.int .i64 z)) (by simp [wr, c1]), HG2.out⟩
  · have c1' : ¬ (64 : Int) < (m : Int) := by omega
    by_cases c2 : 256 ≤ ahead
    · go_wp2_with fail
      go_ret
      exact ⟨congrArg (fun z => Ending.returned (.int .i64 z)) (by simp [wr, c1, c2]), HG2.out⟩
    · have HC2 : Hid (¬ 256 ≤ ahead) := c2
      go_wp2_with fail
      refine Calls.mono (HNa.out _) ?_
      rintro e w' ⟨rfl, rfl⟩
      clear hW2
      cases nameR with
      | false =>
        go_wp2_with fail
        go_ret
        exact ⟨congrArg (fun z => Ending.returned (.int .i64 z)) (by simp [wr, c1, c2]), HG2.out⟩
      | true =>
        generalize W1.heap.size = F at *
        obtain ⟨B, hB⟩ : ∃ B, B = w.heap.size := ⟨_, rfl⟩
        have HB : Hid (B = w.heap.size) := hB
        rw [← hB] at p0 p1 p2 HW2 ⊢
        clear hB
        go_wp2_with fail
        have HIN : Hid (Hid (Gr w w'.drew ∧ WB w'.drew B F ao L ca wb m wc inD t f0 f1 f2 f3 f4 f5 ao' f6 ca') ∧ w'.drew.cell? ⟨B, 0, none⟩ = some (.slice ao L ca) ∧ w'.drew.cell? ⟨B, 1, none⟩ = some (.slice (some ⟨wb, 0, none⟩) m wc) ∧ w'.drew.cell? ⟨B, 2, none⟩ = some (.bool inD) ∧ w'.drew.cell? ⟨F, 0, none⟩ = some (.string f0)) := ws_of (HG2.out.drew) (HW2.out.gr gr_drew)
        clear p0 p1 p2 q0 q1 q2 q3 q4 q5 q6
        go_region_held3 (fun w' => Hid (Gr w w' ∧ WB w' B F ao L ca wb m wc inD t f0 f1 f2 f3 f4 f5 ao' f6 ca') ∧ w'.cell? ⟨B, 0, none⟩ = some (.slice ao L ca) ∧ w'.cell? ⟨B, 1, none⟩ = some (.slice (some ⟨wb, 0, none⟩) m wc) ∧ w'.cell? ⟨B, 2, none⟩ = some (.bool inD) ∧ w'.cell? ⟨F, 0, none⟩ = some (.string f0)) (first | with_reducible exact HIN.out | with_reducible exact ws_kept (by assumption) hk2 | with_reducible exact ws_kept (by assumption) hk1) (first | (go_at_call 34; refine Calls.mono (HI.out _ (ws_gr (by assumption))) ?_; rintro e v1 ⟨rfl, hk1⟩; replace hk1 := hidM hk1) | (go_at_call 41; refine Calls.mono (HNu.out _ (ws_gr (by assumption))) ?_; rintro e v2 ⟨rfl, hk2⟩; replace hk2 := hidM hk2))
        rename_i hHeld
        have HG3 := hidM hHeld.1.out.1
        have HW3 := hidM hHeld.1.out.2
        clear hHeld hk1 hk2 HIN HG2 HW2 HI HNu
        obtain ⟨p0, p1, p2, q0, q1, q2, q3, q4, q5, q6⟩ := HW3.out.cells
        by_cases c4 : idx = (i : Int)
        · have c4' : (idx != (i : Int)) = false := by simp [c4]
          go_wp2_with fail
          refine Calls.mono (HT.out _ HG3.out) ?_
          rintro e v3 ⟨rfl, hg4⟩
          have HG4 := hidM (HG3.out.trans hg4 (fun _ _ h => h))
          have HW4 := hidM (HW3.out.gr hg4)
          clear p0 p1 p2 q0 q1 q2 q3 q4 q5 q6 hg4 HT
          clear HG3 HW3
          obtain ⟨p0, p1, p2, q0, q1, q2, q3, q4, q5, q6⟩ := HW4.out.cells
          cases tabR with
          | false =>
            go_wp2_with fail
            go_ret
            exact ⟨congrArg (fun z => Ending.returned (.int .i64 z)) (by simp [wr, c1, c2, c4]), HG4.out⟩
          | true =>
            go_wp2_with fail
            refine Calls.mono (HU.out (by trivial) _ HG4.out) ?_
            rintro e v4 ⟨rfl, hg5⟩
            have HG5 := hidM (HG4.out.trans hg5 (fun _ _ h => h))
            have HW5 := hidM (HW4.out.gr hg5)
            clear p0 p1 p2 q0 q1 q2 q3 q4 q5 q6 hg5 HU
            clear HG4 HW4
            obtain ⟨p0, p1, p2, q0, q1, q2, q3, q4, q5, q6⟩ := HW5.out.cells
            cases nulR with
            | false =>
              go_wp2_with fail
              go_ret
              exact ⟨congrArg (fun z => Ending.returned (.int .i64 z)) (by simp [wr, c1, c2, c4]), HG5.out⟩
            | true =>
              by_cases c5 : inD = true ∧ (f2 = 19 ∨ f2 = 20)
              · have HE : Hid (wr m ahead true idx i true true inD f2 kid (t f4.toNat) = 36) := by show _ = _; simp [wr, c1, c2, c4, c5.1, c5.2]
                obtain ⟨c6, c7⟩ := c5
                subst c6
                rcases c7 with c7 | c7
                · go_wp2_with fail
                  go_ret
                  exact ⟨congrArg (fun z => Ending.returned (.int .i64 z)) HE.out.symm, HG5.out⟩
                · have c8 : (f2 == 19) = false := by simp [c7]
                  go_wp2_with fail
                  go_ret
                  exact ⟨congrArg (fun z => Ending.returned (.int .i64 z)) HE.out.symm, HG5.out⟩
              · by_cases c6 : f2 = 19
                · have hi : inD = false := by
                    cases inD with
                    | false => rfl
                    | true => exact absurd ⟨rfl, .inl c6⟩ c5
                  obtain ⟨b, o, k, rfl, hf6, hkid, hk32, hfk⟩ := HK.out (by trivial) c6
                  have z1 : v4.cell? ⟨b, o + 1, none⟩ = some (.bool kid) := HG5.out.cell' hkid (fun h => h)
                  have z2 : v4.cell? ⟨B + 1, k, none⟩ = some (.bool (t k)) := HW5.out.tk k hk32
                  have hf6I : (0 : Int) < (f6 : Int) := by omega
                  have HE : Hid (wr m ahead true idx i true true inD f2 kid (t f4.toNat) = if kid = true ∨ t k = true then 36 else 0) := by show _ = _; simp [wr, c1, Int.not_le.2 c2, c4, c6, hi, hfk]
                  subst hi hfk
                  subst c6
                  generalize t k = tk at z2 HE
                  clear hkid HK HW5
                  cases kid with
                  | true =>
                    go_wp2_with fail
                    go_ret
                    exact ⟨congrArg (fun z => Ending.returned (.int .i64 z)) (by rw [HE.out]; simp), HG5.out⟩
                  | false =>
                    cases tk with
                    | true =>
                      go_wp2_with fail
                      go_ret
                      exact ⟨congrArg (fun z => Ending.returned (.int .i64 z)) (by rw [HE.out]; simp), HG5.out⟩
                    | false =>
                      go_wp2_with fail
                      go_ret
                      exact ⟨congrArg (fun z => Ending.returned (.int .i64 z)) (by rw [HE.out]; simp), HG5.out⟩
                · have c6' := beqF c6
                  have HE : Hid (wr m ahead true idx i true true inD f2 kid (t f4.toNat) = 0) := by show _ = _; unfold wr; rw [if_neg c1, if_neg (Int.not_le.2 c2), if_neg (by simp), if_neg (by simp [c4]), if_neg (by simp), if_neg (by simp), if_neg c5, if_neg (by simp [c6])]
                  clear HK
                  cases inD with
                  | false =>
                    go_wp2_with fail
                    go_ret
                    exact ⟨congrArg (fun z => Ending.returned (.int .i64 z)) HE.out.symm, HG5.out⟩
                  | true =>
                    have c7' : (f2 == 20) = false := beqF fun e => c5 ⟨rfl, .inr e⟩
                    go_wp2_with fail
                    go_ret
                    exact ⟨congrArg (fun z => Ending.returned (.int .i64 z)) HE.out.symm, HG5.out⟩
        · have c4' : (idx != (i : Int)) = true := by simp [c4]
          go_wp2_with fail
          go_ret
          exact ⟨congrArg (fun z => Ending.returned (.int .i64 z)) (by simp [wr, c1, c2, c4]), HG3.out⟩
end Go.Proofs.YtjdojbbjbippoaaDoor.Kit
namespace Go.Proofs.YtjdojbbjbippoaaDoor.Kit
open Go.RowKit Go.Shelf Go.Deep
set_option linter.unusedVariables false
attribute [local go_sem] run_store_func

def LS.idx (s : LS) : Nat := s.path.getLastD 0
def LS.fld (s : LS) : FT := (s.list[s.idx]?).getD default
def kid0 (f : FT) : Bool := (f.kids[0]?.map FT.nul).getD false
def wrongE (s : LS) (ahead : Nat) (t : Nat → Bool) : Int :=
  wr s.path.length ahead (nameB s.fld.name) (idxOf s.list s.fld.name) s.idx (tableB s.fld) (nullB s.fld) s.inD s.fld.kind (kid0 s.fld) (t s.fld.id.toNat)
theorem tab_kids {f : FT} (h : tableB f = true) : (f.kind = 19 → f.kids ≠ [] ∧ 0 ≤ f.id ∧ f.id < 32) ∧ (f.kind = 20 → f.kids ≠ []) := by
  unfold tableB dictB at h
  refine ⟨fun e => ?_, fun e => ?_⟩
  · rw [e] at h
    simp [leastK] at h
    refine ⟨fun e2 => ?_, h.2.2.1.1, h.2.2.1.2⟩
    rw [e2] at h
    simp at h
  · rw [e] at h
    simp [leastK] at h
    intro e2
    rw [e2] at h
    simp at h
theorem wrong_any (x : Spot) (S O : Nat → Prop) (t : Nat → Bool) (ahead : Nat) (w : World) (hx : AtS S O x w) (hT : Tab w) (hS : ∀ b, S b → b < w.heap.size) :
    Calls Tryd.prog 43 #[spotV x, .int .i64 (ahead : Int), takV t] w fun e w' => e = .returned (.int .i64 (wrongE x.ls ahead t)) ∧ Gr w w' := by
  obtain ⟨f, b, o, i, m, ao', ca', hf, hle, hr, hSb, p, hp⟩ := hx.f
  have hi : x.ls.idx = i := by show x.path.getLastD 0 = i; rw [hp]; simp
  have hfe : x.ls.fld = f := by show (x.list[x.ls.idx]?).getD default = f; rw [hi, hf.fe]; rfl
  have hrow : ∀ W, Gr w W → RowAt S W (x.d + 1) x.ao x.list := fun W g => hx.row.kept fun b h => g.block b (hS b h) id
  have hrk : ∀ W, Gr w W → RowAt S W x.d ao' f.kids := fun W g => hr.kept fun b h => g.block b (hS b h) id
  have hSg : ∀ W, Gr w W → ∀ b, S b → b < W.heap.size := fun W g b h => Nat.lt_of_lt_of_le (hS b h) g.size
  have := wrong_walk x.ao x.list.length x.ca x.wb x.path.length x.wc x.inD i t ahead f.name f.nul f.kind f.width f.id f.index ao' f.kids.length ca' (nameB f.name) (idxOf x.list f.name) (tableB f) (nullB f) (kid0 f) w
    (by have := hx.deep; unfold big at this; omega)
    (fun W g => field_any x f b o i m ao' ca' W (hf.gr g))
    (fun W => isName_any f.name W)
    (fun W g => numberOfName_any S (x.d + 1) x.ao x.ca x.list f.name W (hrow W g) (hSg W g))
    (fun W g => by
      have h2 := hf.gr g
      rw [hf.len]
      exact (number_exact x.ao x.list.length x.ca x.wb m x.wc i x.inD h2.bm W h2.wc).mono fun e w' h => ⟨h.1, by rw [h.2]; exact gr_alloc _ _⟩)
    (fun W g => fitsTable_any f ao' ca' W (hT.gr g) hr.len)
    (fun ht W g => fitsNull_any f ao' ca' S x.d W (hrk W g) (tab_kids ht).2)
    (fun ht hk => by
      obtain ⟨h1, h2, h3⟩ := (tab_kids ht).1 hk
      cases hd : x.d with
      | zero => rw [hd] at hr; exact absurd hr h1
      | succ d =>
        rw [hd] at hr
        obtain ⟨b', o', e, _, hcs⟩ := hr.2 h1
        have hpos : 0 < f.kids.length := List.length_pos_iff.2 h1
        obtain ⟨ao2, ca2, hc, _⟩ := hcs 0 hpos
        refine ⟨b', o', f.id.toNat, e, hpos, ?_, by omega, by omega⟩
        have := hc.c1
        simp only [Nat.zero_mul, Nat.add_zero] at this
        rw [this]
        simp [kid0, List.getElem?_eq_getElem hpos])
  unfold wrongE
  rw [hfe, hi]
  exact this

set_option maxRecDepth 100000 in
set_option maxHeartbeats 1000000 in
/-- slices.Clone of a list that isn't nil -/
theorem clone_any (b n c : Nat) (l : List Nat) (hl : l.length = n) (hb : n ≤ big) (w : World) (h : w.ownsRow 0 3 1 (.slice (some ⟨b, 0, none⟩) n c) n (ints l)) :
    Calls Tryd.prog 27 #[.slice (some ⟨b, 0, none⟩) n c] w fun e w' => ∃ vo vc, e = .returned (.slice vo n vc) ∧ w'.ownsRow 0 3 1 (.slice vo n vc) n (ints l) ∧ Gr w w' ∧ (∀ g, (Value.slice vo n vc).ownBlock = some g → w.heap.size ≤ g) := by
  have hb2 : n ≤ 1000000000000 := hb
  have hs : ∀ o, Src Tryd.prog 1 26 (.slice (some ⟨b, 0, none⟩) n c) n (ints l) (w.alloc o) := fun o => by
    have h2 : (w.alloc o).ownsRow 0 3 1 (.slice (some ⟨b, 0, none⟩) n c) n (ints l) := own_kp h fun g e => (gr_alloc w o).block g (own_lt h g e) id
    exact Src.ofSlice (w := w.alloc o) Tryd.underlying26 ⟨b, 0, none⟩ n c (ints l) (by simp [ints, hl]) (h2.cells rfl) (fun u hu => by simp [ints] at hu; obtain ⟨a, _, rfl⟩ := hu; rfl)
  have HS : Hid _ := hs
  have HE : Hid ((w.alloc (.cells #[] 3)).ownsRow 0 3 1 (.slice (some ⟨w.heap.size, 0, none⟩) 0 0) 0 []) := ⟨rfl, .inr ⟨w.heap.size, 0, #[], rfl, Nat.zero_le _, World.alloc_heap_new w _, Nat.le_refl _, Nat.zero_le _, rfl, rfl⟩⟩
  have hq : ∀ w, (binOp .eql 26 (.slice (some ⟨b, 0, none⟩) n c) (.slice none 0 0)).run Tryd.prog w = .ok (.bool false) w := fun w => by kernel_rfl
  clear hs h
  go_enter Tryd.func27, Tryd.ntmps27
  go_wp2_with (at_builtin; refine Hid.out ?_)
  unfold Hid
  refine wpList_append_any _ rfl (.tmp 5) (.tmp 6) 26 26 rfl 3 (.int .i64 0) 8 Tryd.underlying26 info3 rfl _ 0 [] rfl HE.out _ n (ints l) rfl (HS.out _) (by omega) (by omega) ?_
  intro v' w1 hown' hgrow hblk
  rw [Nat.zero_add, List.nil_append] at hown'
  obtain ⟨vo, vc, rfl⟩ : ∃ vo vc, v' = .slice vo n vc := by
    rcases hown'.2 with ⟨rfl, h0⟩ | ⟨g, cap, cur, rfl, _⟩
    · exact ⟨none, 0, by rw [h0]⟩
    · exact ⟨_, _, rfl⟩
  have HF : Hid (w1.ownsRow 0 3 1 (.slice vo n vc) n (ints l) ∧ Gr w w1 ∧ (∀ g, (Value.slice vo n vc).ownBlock = some g → w.heap.size ≤ g)) := by
    refine ⟨hown', (gr_alloc w _).trans (Keeps.ofGrown hgrow) (fun j hj e => by have e' : (Value.slice (some ⟨w.heap.size, 0, none⟩) 0 0).ownBlock = some j := e; cases e'; exact absurd hj (Nat.lt_irrefl w.heap.size)), fun g e => ?_⟩
    rcases hblk with h | h
    · rw [h] at e
      have e' : (Value.slice (some ⟨w.heap.size, 0, none⟩) 0 0).ownBlock = some g := e
      cases e'; exact Nat.le_refl w.heap.size
    · have := h g e; simp at this; omega
  clear hown' hgrow hblk
  go_wp2
  go_ret
  exact ⟨_, _, rfl, HF.out.1, HF.out.2.1, HF.out.2.2⟩

/-! ### notes -/
def NotesAt (W : World) (no : Option Addr) (l : List (ByteArray × ByteArray)) : Prop :=
  l.length ≤ big ∧ (l ≠ [] → ∃ b o, no = some ⟨b, o, none⟩ ∧ ∀ i (h : i < l.length), W.cell? ⟨b, o + i * 2, none⟩ = some (.string l[i].1) ∧ W.cell? ⟨b, o + i * 2 + 1, none⟩ = some (.string l[i].2))
theorem NotesAt.gr {W W' : World} {no : Option Addr} {l : List (ByteArray × ByteArray)} (h : NotesAt W no l) (g : Gr W W') : NotesAt W' no l :=
  ⟨h.1, fun hn => by
    obtain ⟨b, o, e, hc⟩ := h.2 hn
    exact ⟨b, o, e, fun i hi => ⟨g.cell' (hc i hi).1 (fun h => h), g.cell' (hc i hi).2 (fun h => h)⟩⟩⟩
def noteBad (n : ByteArray × ByteArray) : Bool := decide (256 < n.1.size) || decide (256 < n.2.size)
/-- what is wrong with the lists themselves: the error, and its number -/
def listsE (nf : Nat) (l : List (ByteArray × ByteArray)) : Int × Int :=
  if 32 < nf then (34, 32) else if 16 < l.length then (34, 16) else if l.findIdx noteBad < l.length then (37, l.findIdx noteBad) else (0, 0)
def fltV (e : Int) (p : Value) (a : Int) : Value := .agg #[.int .i64 e, p, .int .i64 a]

theorem cell3 {W : World} {B t : Nat} {x y z : Value} (h : W.heap[B]? = some (.cells #[x, y, z] t)) : W.cell? ⟨B, 0, none⟩ = some x ∧ W.cell? ⟨B, 1, none⟩ = some y ∧ W.cell? ⟨B, 2, none⟩ = some z := by simp [World.cell?, h]
theorem frz {W : World} {B t : Nat} {c : Array Value} (h : W.heap[B]? = some (.cells c t)) (j : Nat) : W.frozen? ⟨B, j, none⟩ = false := by simp [World.frozen?, h]
theorem idx_bad {l : List (ByteArray × ByteArray)} {k : Nat} (hk : k < l.length) (h : ∀ i (h : i < l.length), i < k → noteBad l[i] = false) (hx : noteBad l[k] = true) : l.findIdx noteBad = k := by
  rw [List.findIdx_eq hk]
  exact ⟨hx, fun j hj => by rw [h j (by omega) hj]⟩
theorem idx_good {l : List (ByteArray × ByteArray)} (h : ∀ i (h : i < l.length), noteBad l[i] = false) : ¬ l.findIdx noteBad < l.length := fun hlt => by
  have := List.findIdx_getElem (w := hlt)
  rw [h _ hlt] at this
  cases this
set_option maxRecDepth 100000 in
set_option maxHeartbeats 2000000 in
theorem lists_any (fo no : Option Addr) (nf cf cn : Nat) (l : List (ByteArray × ByteArray)) (w : World) (hn : NotesAt w no l) :
    Calls Tryd.prog 42 #[.agg #[.slice fo nf cf, .slice no l.length cn]] w fun e w' => e = .returned (fltV (listsE nf l).1 (.slice none 0 0) (listsE nf l).2) ∧ Gr w w' := by
  have HN : Hid _ := hn
  obtain ⟨E, hE⟩ : ∃ E, E = listsE nf l := ⟨_, rfl⟩
  rw [← hE]
  have HE : Hid _ := hE
  obtain ⟨L, hL⟩ : ∃ L, L = l.length := ⟨_, rfl⟩
  rw [← hL]
  have HL : Hid _ := hL
  clear hn hE hL
  unfold fltV
  go_enter Tryd.func42, Tryd.ntmps42
  have hbx : ∀ (x y z : Value), ((w.alloc (.cells #[.slice fo nf cf, .slice no L cn] 25)).alloc (.cells #[x, y, z] 48)).heap[w.heap.size + 1]? = some (.cells #[x, y, z] 48) := fun x y z => by
    have := World.alloc_heap_new (w.alloc (.cells #[.slice fo nf cf, .slice no L cn] 25)) (.cells #[x, y, z] 48)
    rw [World.size_alloc] at this
    exact this
  have HX : Hid _ := hbx
  have HG : Hid (∀ o o', Gr w ((w.alloc o).alloc o')) := fun o o' => (gr_alloc w o).alloc o'
  clear hbx
  by_cases c1 : 32 < nf
  · have c1' : (32 : Int) < (nf : Int) := by omega
    go_wp2
    obtain ⟨t0, t1, t2⟩ := cell3 (HX.out (.int .i64 34) (.slice none 0 0) (.int .i64 32))
    refine bodyPost_ret (v := .agg #[.int .i64 34, .slice none 0 0, .int .i64 32]) ?_ rfl ?_
    · simp [results, Tryd.f42, go_sem, t0, t1, t2]
    · exact ⟨by rw [HE.out]; simp [listsE, c1], HG.out _ _⟩
  · have c1' : ¬ (32 : Int) < (nf : Int) := by omega
    by_cases c2 : 16 < L
    · have c2' : (16 : Int) < (L : Int) := by omega
      go_wp2
      obtain ⟨t0, t1, t2⟩ := cell3 (HX.out (.int .i64 34) (.slice none 0 0) (.int .i64 16))
      refine bodyPost_ret (v := .agg #[.int .i64 34, .slice none 0 0, .int .i64 16]) ?_ rfl ?_
      · simp [results, Tryd.f42, go_sem, t0, t1, t2]
      · exact ⟨by rw [HE.out]; have := HL.out; simp [listsE, c1, ← this, c2], HG.out _ _⟩
    · have c2' : ¬ (16 : Int) < (L : Int) := by omega
      have HC : Hid (¬ 32 < nf ∧ ¬ 16 < L) := ⟨c1, c2⟩
      have hL16 : L ≤ 16 := by omega
      go_wp2
      have HX0 := hidM (HX.out (.int .i64 0) (.slice none 0 0) (.int .i64 0))
      have HG0 := hidM (HG.out (.cells #[.slice fo nf cf, .slice no L cn] 25) (.cells #[.int .i64 0, .slice none 0 0, .int .i64 0] 48))
      generalize ((w.alloc (.cells #[.slice fo nf cf, .slice no L cn] 25)).alloc (.cells #[.int .i64 0, .slice none 0 0, .int .i64 0] 48)) = W0 at *
      clear HX HG
      obtain ⟨B, hB⟩ : ∃ B, B = w.heap.size + 1 := ⟨_, rfl⟩
      rw [← hB] at HX0 ⊢
      have HB : Hid _ := hB
      clear hB
      go_loopw [18] (fun i wr => ∃ k : Nat, k ≤ L ∧ i = .int .i64 (k : Int) ∧ Hid (Gr w wr ∧ wr.heap[B]? = some (.cells #[.int .i64 0, .slice none 0 0, .int .i64 0] 48) ∧ ∀ i (h : i < l.length), i < k → noteBad l[i] = false)) (fun i _ => L - (intOf i).toNat)
      case atStart => exact ⟨0, by omega, rfl, HG0.out, HX0.out, fun i h h0 => by omega⟩
      case round =>
        clear HX0 HG0
        obtain ⟨k, hk, rfl, HK⟩ := hrel
        by_cases hlt : k < L
        · have hl := HL.out
          have hkl : k < l.length := by omega
          obtain ⟨b, o, rfl, hcs⟩ := HN.out.2 (fun e => by rw [e] at hkl; simp at hkl)
          obtain ⟨g0, g1⟩ := hcs k hkl
          replace g0 := HK.out.1.cell' g0 (fun h => h)
          replace g1 := HK.out.1.cell' g1 (fun h => h)
          have HBk : Hid (noteBad l[k] = (decide (256 < l[k].1.size) || decide (256 < l[k].2.size))) := rfl
          have HE1 : Hid (noteBad l[k] = true → E = (37, (k : Int))) := fun hx => by
            have e := idx_bad hkl HK.out.2.2 hx
            rw [HE.out]; unfold listsE
            rw [if_neg HC.out.1, if_neg (by have := HC.out.2; omega), e, if_pos hkl]
          have HM : Hid (noteBad l[k] = false → ∀ i (h : i < l.length), i < k + 1 → noteBad l[i] = false) := fun hx i hi hlt => by
            by_cases e : i = k
            · subst e; exact hx
            · exact HK.out.2.2 i hi (by omega)
          have HW : Hid (Gr w wr ∧ wr.heap[B]? = some (.cells #[.int .i64 0, .slice none 0 0, .int .i64 0] 48)) := ⟨HK.out.1, HK.out.2.1⟩
          have hbx : ∀ o, (wr.alloc o).heap[B]? = some (.cells #[.int .i64 0, .slice none 0 0, .int .i64 0] 48) := fun o => ((gr_alloc wr o).block _ (lt_of_heap HK.out.2.1) (fun h => h)).trans HK.out.2.1
          have y0 := fun o => (cell3 (hbx o)).1
          have y1 := fun o => (cell3 (hbx o)).2.1
          have y2 := fun o => (cell3 (hbx o)).2.2
          have y3 := fun o => frz (hbx o) 0
          have y4 := fun o => frz (hbx o) 1
          have y5 := fun o => frz (hbx o) 2
          have HBX : Hid _ := hbx
          generalize noteBad l[k] = nb at HBk HE1 HM
          generalize l[k].1 = n0 at *
          generalize l[k].2 = n1 at *
          clear hcs hl hkl HK HN hbx
          have fin : ∀ W4, W4 = (((wr.alloc (.cells #[.string n0, .string n1] 79)).setCell ⟨B, 0, none⟩ (.int .i64 37)).setCell ⟨B, 1, none⟩ (.slice none 0 0)).setCell ⟨B, 2, none⟩ (.int .i64 (k : Int)) → W4.heap[B]? = some (.cells #[.int .i64 37, .slice none 0 0, .int .i64 (k : Int)] 48) ∧ Gr w W4 := by
            intro W4 e
            refine ⟨?_, ?_⟩
            · rw [e, setc (j := 2) (setc (j := 1) (setc (j := 0) (HBX.out _) _) _) _]; simp
            · rw [e]
              have k1 : Keeps (wr.alloc (.cells #[.string n0, .string n1] 79)) _ (fun b => b = B) := keep1 (j := 2) (keep1 (j := 1) (keep1 (j := 0) (Keeps.refl (wr.alloc (.cells #[.string n0, .string n1] 79)) (fun b => b = B)) (.int .i64 37)) (.slice none 0 0)) (.int .i64 (k : Int))
              exact (HW.out.1.alloc _).trans (T := fun b => b = B) k1 (fun j hj h => by have := HB.out; omega)
          have HFN : Hid _ := fin
          clear fin
          by_cases d1 : 256 < n0.size
          · have d1' : (256 : Int) < (n0.size : Int) := by omega
            have hnb : nb = true := by rw [HBk.out]; simp [d1]
            have HE2 := hidM (HE1.out hnb)
            clear HE1 HM HBk
            go_wp2_with fail
            obtain ⟨hb4, hg4⟩ := HFN.out _ rfl
            obtain ⟨t0, t1, t2⟩ := cell3 hb4
            refine bodyPost_ret (v := .agg #[.int .i64 37, .slice none 0 0, .int .i64 (k : Int)]) ?_ rfl ?_
            · simp [results, Tryd.f42, go_sem, t0, t1, t2]
            · exact ⟨by rw [HE2.out], hg4⟩
          · have d1' : ¬ (256 : Int) < (n0.size : Int) := by omega
            by_cases d2 : 256 < n1.size
            · have d2' : (256 : Int) < (n1.size : Int) := by omega
              have hnb : nb = true := by rw [HBk.out]; simp [d2]
              have HE2 := hidM (HE1.out hnb)
              clear HE1 HM HBk
              go_wp2_with fail
              obtain ⟨hb4, hg4⟩ := HFN.out _ rfl
              obtain ⟨t0, t1, t2⟩ := cell3 hb4
              refine bodyPost_ret (v := .agg #[.int .i64 37, .slice none 0 0, .int .i64 (k : Int)]) ?_ rfl ?_
              · simp [results, Tryd.f42, go_sem, t0, t1, t2]
              · exact ⟨by rw [HE2.out], hg4⟩
            · have d2' : ¬ (256 : Int) < (n1.size : Int) := by omega
              have hnb : nb = false := by rw [HBk.out]; simp; omega
              have HM2 := hidM (HM.out hnb)
              clear HE1 HM HBk
              go_wp2_with fail
              go_roundw
              case rel => exact ⟨k + 1, by omega, by simp, HW.out.1.alloc _, HBX.out _, HM2.out⟩
              case measure => simp [intOf]; omega
        · have HE1 : Hid (E = (0, 0)) := by
            have e := idx_good (l := l) fun i hi => HK.out.2.2 i hi (by have := HL.out; omega)
            show _ = _
            rw [HE.out]; unfold listsE
            rw [if_neg HC.out.1, if_neg (by have := HC.out.2; have := HL.out; omega), if_neg e]
          have hg := HK.out.1
          have hbx := HK.out.2.1
          obtain ⟨y0, y1, y2⟩ := cell3 hbx
          have y3 := frz hbx 0
          have y4 := frz hbx 1
          have y5 := frz hbx 2
          have fin : ∀ W4, W4 = ((wr.setCell ⟨B, 0, none⟩ (.int .i64 0)).setCell ⟨B, 1, none⟩ (.slice none 0 0)).setCell ⟨B, 2, none⟩ (.int .i64 0) → W4.heap[B]? = some (.cells #[.int .i64 0, .slice none 0 0, .int .i64 0] 48) ∧ Gr w W4 := by
            intro W4 e
            refine ⟨?_, ?_⟩
            · rw [e, setc (j := 2) (setc (j := 1) (setc (j := 0) hbx _) _) _]; simp
            · rw [e]
              have k1 : Keeps wr _ (fun b => b = B) := keep1 (j := 2) (keep1 (j := 1) (keep1 (j := 0) (Keeps.refl wr (fun b => b = B)) (.int .i64 0)) (.slice none 0 0)) (.int .i64 0)
              exact hg.trans (T := fun b => b = B) k1 (fun j hj h => by have := HB.out; omega)
          have HFN : Hid _ := fin
          have hkL : k = L := by omega
          subst hkL
          clear fin HK hg hbx HN
          go_wp2_with fail
          obtain ⟨hb4, hg4⟩ := HFN.out _ rfl
          obtain ⟨t0, t1, t2⟩ := cell3 hb4
          refine bodyPost_ret (v := .agg #[.int .i64 0, .slice none 0 0, .int .i64 0]) ?_ rfl ?_
          · simp [results, Tryd.f42, go_sem, t0, t1, t2]
          · exact ⟨by rw [HE1.out], hg4⟩
end Go.Proofs.YtjdojbbjbippoaaDoor.Kit
