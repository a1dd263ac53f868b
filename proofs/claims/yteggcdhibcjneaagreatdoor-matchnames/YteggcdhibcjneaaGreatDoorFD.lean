import Derived.Test.YteggcdhibcjneaaGreatDoorEB
import Derived.Deep.RegionHeld3
set_option maxRecDepth 100000
set_option maxHeartbeats 4000000
namespace Go.Proofs.YteggcdhibcjneaaGreatDoor.Kit
open Go.RowKit Go.Shelf Go.Deep
set_option linter.unusedVariables false
attribute [local go_sem] Oper.semAt_some run_store_func

theorem yieldAny {m m' : Nat} {P : Program} {l : Nat} {args : Array Value} {W : World} {R : Ending → World → Prop} (h : YieldAt Fence.wide m P l args W R) : YieldAt Fence.wide m' P l args W R := by
  obtain ⟨fn, tmps, assign, body, hy, hR⟩ := h
  exact ⟨fn, tmps, assign, body, hy, hR.1, fun c cs _ => hR.2 c cs fun d hd => by cases hd⟩

theorem each1_seq (n B : Nat) (S : Nat → Prop) (D : Nat) (ao : Option Addr) (ca : Nat) (list : List FT) (w : World) (hB : w.cell? ⟨B, 0, none⟩ = some (.slice ao list.length ca)) (hr : RowAt S w D ao list) (hca : list.length ≤ ca) (hD : D ≤ big) (hS : ∀ b, S b → b < w.heap.size) :
    SeqOwn n Tryz.prog 70 #[.pointer (some ⟨B, 0, none⟩)] encS (fun O _ x W => AtS S O x W) S (fun xs => xs.map Spot.ls = nodes D list [] false) (fun pre => pre ≠ [] ∧ pre.map Spot.ls <+: nodes D list [] false) w := by
  intro l J Jx W hW hJ hJx hY h0
  have hlB : W.cell? ⟨B, 0, none⟩ = some (.slice ao list.length ca) := hW.cell' hB id
  have hBl : B < W.heap.size := block_lt_of_cell hlB
  have hSl : ∀ b, S b → b < W.heap.size := fun b h => Nat.lt_of_lt_of_le (hS b h) hW.size
  have hrW : RowAt S W D ao list := hr.kept fun b h => hW.block b (hS b h) id
  have hdown := down_in (bw := W.heap.size + 1) (by_ := W.heap.size) (bd := W.heap.size + 2) hJ hJx (fun m O pre x W1 h1 h2 => yieldAny (m' := m) (hY O pre x W1 h1 h2)) D
  obtain ⟨W2, hW2⟩ : ∃ W2, (((W.alloc (.cells #[.func (.yield l) #[] #[]] 152)).alloc (.cells #[.slice none 0 0] 34)).alloc (.cells #[.nilFunc] 153)).setCell ⟨W.heap.size + 2, 0, none⟩ (.func (.func 71) #[] #[.pointer (some ⟨W.heap.size + 1, 0, none⟩), .pointer (some ⟨W.heap.size, 0, none⟩), .pointer (some ⟨W.heap.size + 2, 0, none⟩)]) = W2 := ⟨_, rfl⟩
  have b1 : Boxed (((W.alloc (.cells #[.func (.yield l) #[] #[]] 152)).alloc (.cells #[.slice none 0 0] 34)).alloc (.cells #[.nilFunc] 153)) (W.heap.size + 2) 153 .nilFunc := by
    have := Boxed.new ((W.alloc (.cells #[.func (.yield l) #[] #[]] 152)).alloc (.cells #[.slice none 0 0] 34)) 153 .nilFunc
    simpa using this
  have b2 : Boxed W2 W.heap.size 152 (.func (.yield l) #[] #[]) := by
    rw [← hW2]; exact Boxed.other (((Boxed.new W 152 _).alloc _).alloc _) (by omega) _
  have b3 : Boxed W2 (W.heap.size + 1) 34 (.slice none 0 0) := by
    rw [← hW2]
    refine Boxed.other (Boxed.alloc ?_ _) (by omega) _
    have := Boxed.new (W.alloc (.cells #[.func (.yield l) #[] #[]] 152)) 34 (.slice none 0 0)
    simpa using this
  have b4 : Boxed W2 (W.heap.size + 2) 153 (.func (.func 71) #[] #[.pointer (some ⟨W.heap.size + 1, 0, none⟩), .pointer (some ⟨W.heap.size, 0, none⟩), .pointer (some ⟨W.heap.size + 2, 0, none⟩)]) := by
    rw [← hW2]; exact Boxed.set _ b1
  have hk2 : Keeps W W2 (fun _ => False) := by
    rw [← hW2]; exact ((((Keeps.refl W _).alloc _).alloc _).alloc _).setCell (fun h => by simp at h; omega) _
  have hsz : W2.heap.size = W.heap.size + 3 := by rw [← hW2]; simp [World.setCell]
  have hc := hdown (n - 1) (fun b => b = W.heap.size + 1 ∨ b = W.heap.size ∨ b = W.heap.size + 2) [] W2 ao ca list [] false (hrW.kept fun b h => hk2.block b (hSl b h) id) hca (by simpa using hD)
    ⟨b2, b4, ⟨none, 0, b3, World.ownsRow_nil _ _ _ _, fun g e => by simp [Value.ownBlock] at e⟩, .inl rfl, .inr (.inl rfl), .inr (.inr rfl)⟩
    (hJ _ _ _ _ _ h0 hk2 fun b h => ⟨by rw [hsz]; omega, .inr (by omega)⟩) (fun b h => by rw [hsz]; omega) (fun b h => ⟨by rw [hsz]; have := hSl b h; omega, fun e => by have := hSl b h; omega⟩)
  have q1 := b4.cell
  have q2 : W2.cell? ⟨B, 0, none⟩ = some (.slice ao list.length ca) := hk2.cell' hlB id
  have q3 := b1.cell
  have q4 := b1.frozen
  have HC : Hid _ := hc
  clear hW hJ hJx hY h0 hB hr hrW hdown b2 b3 b4 hk2 hsz hc hlB b1
  refine callsIn_of_wp Tryz.func70 rfl trivial ?_ rfl
  simp only [Tryz.ntmps70, List.size_toArray, List.length_cons, List.length_nil, Nat.reduceAdd, Nat.reduceSub, Array.replicate_succ, Array.replicate_zero, List.push_toArray, List.append_toArray, List.nil_append, List.cons_append]
  gi_wp2_with fail
  refine ⟨trivial, fun h => (by cases h), CallsIn.mono HC.out ?_⟩
  rintro e W3 (⟨rfl, O', xs, h1, h2, _⟩ | ⟨rfl, xs, h1, h2, h3⟩)
  · have HE : Hid (∃ O xs, xs.map Spot.ls = nodes D list [] false ∧ J O xs W3) := ⟨O', xs, h1, by simpa using h2⟩
    clear h1 h2
    gi_wp2
    go_end0
    exact ⟨⟨_, rfl⟩, .inl HE.out⟩
  · have HE : Hid (∃ pre, (pre ≠ [] ∧ pre.map Spot.ls <+: nodes D list [] false) ∧ Jx pre W3) := ⟨xs, ⟨h2, h1⟩, by simpa using h3⟩
    clear h1 h2 h3
    gi_wp2
    go_end0
    exact ⟨⟨_, rfl⟩, .inr HE.out⟩

theorem each_any (v : Value) (ao : Option Addr) (n ca : Nat) (hv : v = .slice ao n ca) (w : World) :
    Calls Tryz.prog 52 #[v] w fun e w' => e = .returned (.func (.func 70) #[] #[.pointer (some ⟨w.heap.size, 0, none⟩)]) ∧ w' = w.alloc (.cells #[v] 27) := by
  subst hv
  go_enter Tryz.func52, Tryz.ntmps52
  go_wp2
  go_ret
  exact ⟨rfl, rfl⟩
end Go.Proofs.YteggcdhibcjneaaGreatDoor.Kit
namespace Go.Proofs.YteggcdhibcjneaaGreatDoor.Kit
open Go.RowKit Go.Shelf Go.Deep
set_option linter.unusedVariables false
attribute [local go_sem] run_store_func
abbrev Gr (w w' : World) : Prop := Keeps w w' (fun _ => False)
def digitB (c : Nat) : Bool := decide (48 ≤ c) && decide (c ≤ 57)
def wordB (c : Nat) : Bool := (decide (97 ≤ c) && decide (c ≤ 122)) || (decide (65 ≤ c) && decide (c ≤ 90)) || digitB c || decide (c = 95)

theorem isDigit_any (c : Nat) (w : World) : Calls Tryz.prog 94 #[.int .u8 (c : Int)] w fun e w' => e = .returned (.bool (digitB c)) ∧ w' = w := by
  go_enter Tryz.func94, Tryz.ntmps94
  go_wp2
  all_goals
    go_ret
    refine ⟨congrArg (fun b => Ending.returned (.bool b)) ?_, rfl⟩
    rw [Bool.eq_iff_iff]
    simp [digitB]
    try omega
theorem isWordByte_any (c : Nat) (w : World) : Calls Tryz.prog 95 #[.int .u8 (c : Int)] w fun e w' => e = .returned (.bool (wordB c)) ∧ w' = w := by
  go_enter Tryz.func95, Tryz.ntmps95
  go_wp2_with (go_at_call 94; refine (isDigit_any _ _).mono ?_; rintro e w' ⟨rfl, rfl⟩)
  all_goals
    go_ret
    refine ⟨congrArg (fun b => Ending.returned (.bool b)) ?_, rfl⟩
    rw [Bool.eq_iff_iff]
    simp [wordB, *]
    try omega
theorem all_succ {l : List UInt8} {p : UInt8 → Bool} {k : Nat} {b : UInt8} (h : l[k]? = some b) (hk : (l.take k).all p = true) : (l.take (k + 1)).all p = p b := by
  rw [List.take_add_one, h]
  simp [hk]
def nameB (s : ByteArray) : Bool := decide (0 < s.size) && decide (s.size ≤ 48) && !(digitB (s.data.toList[0]!).toNat) && s.data.toList.all fun b => wordB b.toNat
theorem isName_any (s : ByteArray) (w : World) : Calls Tryz.prog 72 #[.string s] w fun e w' => e = .returned (.bool (nameB s)) ∧ w' = w := by
  go_enter Tryz.func72, Tryz.ntmps72
  by_cases h0 : s.size = 0
  · go_wp2_with fail
    go_ret
    exact ⟨congrArg (fun b => Ending.returned (.bool b)) (by simp [nameB, h0]), rfl⟩
  · by_cases h48 : 48 < s.size
    · go_wp2_with fail
      go_ret
      exact ⟨congrArg (fun b => Ending.returned (.bool b)) (by simp [nameB]; omega), rfl⟩
    · have h0' : 0 < s.size := by omega
      have hb : s.data.toList[0]! = s[0]'h0' := by
        rw [getElem!_pos s.data.toList 0 (by simpa using h0')]
        rfl
      have hb1 := isDigit_any (s[0]'h0').toNat w
      have hi0 : ((s.size : Int) == 0) = false := by
        have : (s.size : Int) ≠ 0 := by omega
        simpa using this
      have hi1 : ¬ ((48 : Int) < (s.size : Int)) := by omega
      have hn : nameB s = ((!(digitB (s[0]'h0').toNat)) && s.data.toList.all fun b => wordB b.toNat) := by
        unfold nameB
        rw [hb]
        simp [h0', show s.size ≤ 48 by omega]
      generalize digitB (s[0]'h0').toNat = dg at hb1 hn
      have HN : Hid _ := hn
      clear hb hn
      cases dg with
      | true =>
        go_wp2_with (go_at_call 94; refine hb1.mono ?_; rintro e w' ⟨rfl, rfl⟩)
        go_ret
        exact ⟨congrArg (fun b => Ending.returned (.bool b)) (by rw [HN.out]; rfl), rfl⟩
      | false =>
        go_wp2_with (go_at_call 94; refine hb1.mono ?_; rintro e w' ⟨rfl, rfl⟩)
        clear hb1
        go_loop [19] (fun i => ∃ k : Nat, k ≤ s.size ∧ i = .int .i64 (k : Int) ∧ Hid ((s.data.toList.take k).all (fun b => wordB b.toNat) = true)) (fun i => s.size - (intOf i).toNat)
        case atStart => exact ⟨0, by omega, rfl, by simp [Hid]⟩
        case round =>
          obtain ⟨k, hk, rfl, HK⟩ := hrel
          by_cases hlt : k < s.size
          · have hb : s.data.toList[k]? = some (s[k]'hlt) := by
              rw [Array.getElem?_toList]
              exact Array.getElem?_eq_getElem hlt
            have hw := fun w => isWordByte_any (s[k]'hlt).toNat w
            have hA := all_succ (p := fun b => wordB b.toNat) hb HK.out
            have HB : Hid _ := hb
            clear hb
            have HW : Hid ((s.data.toList.all fun b => wordB b.toNat) = true → wordB (s[k]'hlt).toNat = true) := fun h => by
              rw [List.all_eq_true] at h
              exact h _ (List.mem_of_getElem? HB.out)
            generalize wordB (s[k]'hlt).toNat = wb at hw hA HW
            have HA : Hid _ := hA
            clear hA HB
            cases wb with
            | true =>
              go_wp2_with (go_at_call 95; refine (hw _).mono ?_; rintro e w' ⟨rfl, rfl⟩)
              go_round
              case rel => exact ⟨k + 1, by omega, by simp, HA.out⟩
              case measure => simp [intOf]; omega
            | false =>
              go_wp2_with (go_at_call 95; refine (hw _).mono ?_; rintro e w' ⟨rfl, rfl⟩)
              go_ret
              refine ⟨congrArg (fun b => Ending.returned (.bool b)) ?_, rfl⟩
              rw [HN.out]
              cases hx : (s.data.toList.all fun b => wordB b.toNat) with
              | true => exact absurd (HW.out hx) (by decide)
              | false => rfl
          · obtain rfl : k = s.size := by omega
            have hall := HK.out
            rw [List.take_of_length_le (by simp)] at hall
            have HM : Hid (nameB s = true) := by show _ = _; rw [HN.out, hall]; rfl
            clear hall
            go_wp2_with fail
            go_ret
            exact ⟨congrArg (fun b => Ending.returned (.bool b)) HM.out.symm, rfl⟩
def typV (f : FT) (ao : Option Addr) (ca : Nat) : Value := .agg #[.int .i64 f.kind, .int .i64 f.width, .int .i64 f.id, .int .i64 f.index, .slice ao f.kids.length ca]
def fldV (f : FT) (ao : Option Addr) (ca : Nat) : Value := .agg #[.string f.name, .bool f.nul, .int .i64 f.kind, .int .i64 f.width, .int .i64 f.id, .int .i64 f.index, .slice ao f.kids.length ca]
def kindB (k : Int) : Bool := decide (0 < k) && decide (k < 21)
def indexB (k : Int) : Bool := decide (3 ≤ k) && decide (k ≤ 10)
def widthB (f : FT) : Bool := if f.kind = 14 then decide (1 ≤ f.width) && decide (f.width ≤ 16) else if f.kind = 16 then decide (1 ≤ f.width) && decide (f.width ≤ 64) else decide (f.width = 0)
def dictB (f : FT) : Bool := if f.kind = 19 then (decide (0 ≤ f.id) && decide (f.id < 32)) && indexB f.index else decide (f.id = 0) && decide (f.index = 0)

theorem isKind_any (k : Int) (w : World) : Calls Tryz.prog 98 #[.int .i64 k] w fun e w' => e = .returned (.bool (kindB k)) ∧ w' = w := by
  go_enter Tryz.func98, Tryz.ntmps98
  go_wp2
  all_goals
    go_ret
    refine ⟨congrArg (fun b => Ending.returned (.bool b)) ?_, rfl⟩
    rw [Bool.eq_iff_iff]
    simp [kindB]
    try omega
theorem isIndex_any (k : Int) (w : World) : Calls Tryz.prog 120 #[.int .i64 k] w fun e w' => e = .returned (.bool (indexB k)) ∧ w' = w := by
  go_enter Tryz.func120, Tryz.ntmps120
  go_wp2
  all_goals
    go_ret
    refine ⟨congrArg (fun b => Ending.returned (.bool b)) ?_, rfl⟩
    rw [Bool.eq_iff_iff]
    simp [indexB]
    try omega
theorem beqF {a b : Int} (h : ¬ a = b) : (a == b) = false := by simpa using h
theorem gr_alloc (w : World) (o : Obj) : Gr w (w.alloc o) := (Keeps.refl w _).alloc o
theorem fitsWidth_any (f : FT) (ao : Option Addr) (ca : Nat) (w : World) : Calls Tryz.prog 99 #[typV f ao ca] w fun e w' => e = .returned (.bool (widthB f)) ∧ Gr w w' := by
  unfold typV widthB
  go_enter Tryz.func99, Tryz.ntmps99
  by_cases h14 : f.kind = 14
  · rw [if_pos h14]
    go_wp2
    all_goals
      go_ret
      refine ⟨congrArg (fun b => Ending.returned (.bool b)) ?_, gr_alloc _ _⟩
      rw [Bool.eq_iff_iff]
      simp
      try omega
  · have q1 := beqF h14
    rw [if_neg h14]
    by_cases h16 : f.kind = 16
    · rw [if_pos h16]
      go_wp2
      all_goals
        go_ret
        refine ⟨congrArg (fun b => Ending.returned (.bool b)) ?_, gr_alloc _ _⟩
        rw [Bool.eq_iff_iff]
        simp
        try omega
    · have q2 := beqF h16
      rw [if_neg h16]
      go_wp2
      go_ret
      refine ⟨congrArg (fun b => Ending.returned (.bool b)) ?_, gr_alloc _ _⟩
      rw [Bool.eq_iff_iff]
      simp
theorem fitsDict_any (f : FT) (ao : Option Addr) (ca : Nat) (w : World) : Calls Tryz.prog 100 #[typV f ao ca] w fun e w' => e = .returned (.bool (dictB f)) ∧ Gr w w' := by
  unfold typV dictB
  go_enter Tryz.func100, Tryz.ntmps100
  have hi := fun w => isIndex_any f.index w
  by_cases h19 : f.kind = 19
  · rw [if_pos h19]
    go_wp2_with (go_at_call 120; refine (hi _).mono ?_; rintro e w' ⟨rfl, rfl⟩)
    all_goals
      go_ret
      refine ⟨congrArg (fun b => Ending.returned (.bool b)) ?_, gr_alloc _ _⟩
      rw [Bool.eq_iff_iff]
      simp
      try omega
  · have q1 := beqF h19
    rw [if_neg h19]
    go_wp2_with fail
    all_goals
      go_ret
      refine ⟨congrArg (fun b => Ending.returned (.bool b)) ?_, gr_alloc _ _⟩
      rw [Bool.eq_iff_iff]
      simp [*]
      try omega
def wordK : Nat → List UInt8
  | 1 => [110, 117, 108, 108] | 2 => [98, 111, 111, 108] | 3 => [105, 110, 116, 56] | 4 => [105, 110, 116, 49, 54] | 5 => [105, 110, 116, 51, 50] | 6 => [105, 110, 116, 54, 52]
  | 7 => [117, 105, 110, 116, 56] | 8 => [117, 105, 110, 116, 49, 54] | 9 => [117, 105, 110, 116, 51, 50] | 10 => [117, 105, 110, 116, 54, 52] | 11 => [102, 108, 111, 97, 116, 54, 52]
  | 12 => [116, 101, 120, 116] | 13 => [98, 121, 116, 101, 115] | 14 => [102, 105, 120, 101, 100] | 15 => [108, 105, 115, 116] | 16 => [115, 112, 97, 110] | 17 => [115, 116, 114, 117, 99, 116]
  | 18 => [99, 104, 111, 105, 99, 101] | 19 => [100, 105, 99, 116] | 20 => [114, 117, 110, 115] | _ => []
def bytesK : Nat → Int
  | 3 => 1 | 4 => 2 | 5 => 4 | 6 => 8 | 7 => 1 | 8 => 2 | 9 => 4 | 10 => 8 | 11 => 8 | _ => 0
def bufsK : Nat → Int
  | 0 => 0 | 1 => 0 | 12 => 3 | 13 => 3 | 16 => 1 | 17 => 1 | 20 => 0 | _ => 2
def leastK : Nat → Int
  | 15 => 1 | 16 => 1 | 18 => 1 | 19 => 1 | 20 => 1 | _ => 0
def mostK : Nat → Int
  | 15 => 1 | 16 => 1 | 17 => 32 | 18 => 32 | 19 => 1 | 20 => 1 | _ => 0
structure KRow (W : World) (k : Nat) : Prop where
  c0 : W.cell? ⟨0, k * 5, none⟩ = some (.string ⟨(wordK k).toArray⟩)
  c1 : W.cell? ⟨0, k * 5 + 1, none⟩ = some (.int .i64 (bytesK k))
  c2 : W.cell? ⟨0, k * 5 + 2, none⟩ = some (.int .i64 (bufsK k))
  c3 : W.cell? ⟨0, k * 5 + 3, none⟩ = some (.int .i64 (leastK k))
  c4 : W.cell? ⟨0, k * 5 + 4, none⟩ = some (.int .i64 (mostK k))
def Tab (W : World) : Prop := 0 < W.heap.size ∧ ∀ k, k < 21 → KRow W k
theorem Tab.kp {W W' : World} (h : Tab W) (e : W'.heap[0]? = W.heap[0]?) : Tab W' := by
  refine ⟨?_, fun k hk => ?_⟩
  · rw [Array.getElem?_eq_getElem h.1] at e
    exact (Array.getElem?_eq_some_iff.1 e).1
  · have k' : ∀ j, W'.cell? ⟨0, j, none⟩ = W.cell? ⟨0, j, none⟩ := fun j => World.cell?_of_block (w := W) e
    have := h.2 k hk
    exact ⟨(k' _).trans this.c0, (k' _).trans this.c1, (k' _).trans this.c2, (k' _).trans this.c3, (k' _).trans this.c4⟩
theorem Tab.gr {W W' : World} (h : Tab W) (g : Gr W W') : Tab W' := h.kp (g.block 0 h.1 id)
def tableB (f : FT) : Bool := kindB f.kind && (decide (leastK f.kind.toNat ≤ (f.kids.length : Int)) && decide ((f.kids.length : Int) ≤ mostK f.kind.toNat) && widthB f && dictB f)

theorem fitsTable_any (f : FT) (ao : Option Addr) (ca : Nat) (w : World) (hT : Tab w) (hl : f.kids.length ≤ big) : Calls Tryz.prog 75 #[typV f ao ca] w fun e w' => e = .returned (.bool (tableB f)) ∧ Gr w w' := by
  obtain ⟨nm, nu, kd, wd, di, ix, ks⟩ := f
  have hk : ∀ w, Calls Tryz.prog 98 #[.int .i64 kd] w fun e w' => e = .returned (.bool (kindB kd)) ∧ w' = w := fun w => isKind_any kd w
  have hll : ks.length ≤ 1000000000000 := hl
  obtain ⟨wb, hwb⟩ : ∃ wb, wb = widthB ⟨nm, nu, kd, wd, di, ix, ks⟩ := ⟨_, rfl⟩
  obtain ⟨db, hdb⟩ : ∃ db, db = dictB ⟨nm, nu, kd, wd, di, ix, ks⟩ := ⟨_, rfl⟩
  have hw : ∀ w, Calls Tryz.prog 99 #[.agg #[.int .i64 kd, .int .i64 wd, .int .i64 di, .int .i64 ix, .slice ao ks.length ca]] w fun e w' => e = .returned (.bool wb) ∧ Gr w w' := by rw [hwb]; exact fitsWidth_any ⟨nm, nu, kd, wd, di, ix, ks⟩ ao ca
  have hd : ∀ w, Calls Tryz.prog 100 #[.agg #[.int .i64 kd, .int .i64 wd, .int .i64 di, .int .i64 ix, .slice ao ks.length ca]] w fun e w' => e = .returned (.bool db) ∧ Gr w w' := by rw [hdb]; exact fitsDict_any ⟨nm, nu, kd, wd, di, ix, ks⟩ ao ca
  have hB : tableB ⟨nm, nu, kd, wd, di, ix, ks⟩ = (kindB kd && (decide (leastK kd.toNat ≤ (ks.length : Int)) && decide ((ks.length : Int) ≤ mostK kd.toNat) && wb && db)) := by rw [hwb, hdb]; rfl
  show Calls Tryz.prog 75 #[.agg #[.int .i64 kd, .int .i64 wd, .int .i64 di, .int .i64 ix, .slice ao ks.length ca]] w _
  have hK : kindB kd = true → ∃ k : Nat, k < 21 ∧ kd = k := fun h => by
    simp [kindB] at h
    exact ⟨kd.toNat, by omega, by omega⟩
  clear hwb hdb hl
  generalize tableB ⟨nm, nu, kd, wd, di, ix, ks⟩ = tb at hB
  generalize hkb : kindB kd = kb at hk hB hK
  cases kb with
  | false =>
    subst hB
    clear hK hw hd hT hkb
    go_enter Tryz.func75, Tryz.ntmps75
    go_wp2_with (go_at_call 98; refine (hk _).mono ?_; rintro e w' ⟨rfl, rfl⟩)
    go_ret
    exact ⟨rfl, gr_alloc _ _⟩
  | true =>
    obtain ⟨k, hk21, rfl⟩ := hK rfl
    have hr := hT.2 k hk21
    rw [Int.toNat_natCast] at hB
    simp only [Bool.true_and] at hB
    obtain ⟨c0, c1, c2, c3, c4⟩ := hr
    have b0 : ∀ o, (w.alloc o).cell? ⟨0, k * 5, none⟩ = some (.string ⟨(wordK k).toArray⟩) := fun o => (gr_alloc w o).cell' c0 id
    have b0d : ∀ o o', ((w.alloc o).alloc o').cell? ⟨0, k * 5, none⟩ = some (.string ⟨(wordK k).toArray⟩) := fun o o' => ((gr_alloc w o).alloc o').cell' c0 id
    have b1 : ∀ o, (w.alloc o).cell? ⟨0, k * 5 + 1, none⟩ = some (.int .i64 (bytesK k)) := fun o => (gr_alloc w o).cell' c1 id
    have b1d : ∀ o o', ((w.alloc o).alloc o').cell? ⟨0, k * 5 + 1, none⟩ = some (.int .i64 (bytesK k)) := fun o o' => ((gr_alloc w o).alloc o').cell' c1 id
    have b2 : ∀ o, (w.alloc o).cell? ⟨0, k * 5 + 2, none⟩ = some (.int .i64 (bufsK k)) := fun o => (gr_alloc w o).cell' c2 id
    have b2d : ∀ o o', ((w.alloc o).alloc o').cell? ⟨0, k * 5 + 2, none⟩ = some (.int .i64 (bufsK k)) := fun o o' => ((gr_alloc w o).alloc o').cell' c2 id
    have b3 : ∀ o, (w.alloc o).cell? ⟨0, k * 5 + 3, none⟩ = some (.int .i64 (leastK k)) := fun o => (gr_alloc w o).cell' c3 id
    have b3d : ∀ o o', ((w.alloc o).alloc o').cell? ⟨0, k * 5 + 3, none⟩ = some (.int .i64 (leastK k)) := fun o o' => ((gr_alloc w o).alloc o').cell' c3 id
    have b4 : ∀ o, (w.alloc o).cell? ⟨0, k * 5 + 4, none⟩ = some (.int .i64 (mostK k)) := fun o => (gr_alloc w o).cell' c4 id
    have b4d : ∀ o o', ((w.alloc o).alloc o').cell? ⟨0, k * 5 + 4, none⟩ = some (.int .i64 (mostK k)) := fun o o' => ((gr_alloc w o).alloc o').cell' c4 id
    generalize wordK k = e0 at b0 b0d
    generalize bytesK k = e1 at b1 b1d
    generalize bufsK k = e2 at b2 b2d
    generalize leastK k = e3 at b3 b3d hB
    generalize mostK k = e4 at b4 b4d hB
    have HB : Hid _ := hB
    have HL : Hid _ := hll
    obtain ⟨L, hL⟩ : ∃ L, ks.length = L := ⟨_, rfl⟩
    rw [hL] at hll hw hd ⊢
    have HB : Hid (tb = (decide (e3 ≤ (L : Int)) && decide ((L : Int) ≤ e4) && wb && db)) := by rw [← hL]; exact hB
    clear hT c0 c1 c2 c3 c4 hB hkb hL HL
    go_enter Tryz.func75, Tryz.ntmps75
    go_wp2_with (go_at_call 98; refine (hk _).mono ?_; rintro e w' ⟨rfl, rfl⟩)
    go_region
    obtain ⟨W2, hW2⟩ : ∃ W2, ((w.alloc (.cells #[.int .i64 (k : Int), .int .i64 wd, .int .i64 di, .int .i64 ix, .slice ao L ca] 45)).alloc (.cells #[.string ⟨e0.toArray⟩, .int .i64 e1, .int .i64 e2, .int .i64 e3, .int .i64 e4] 184)).drew = W2 := ⟨_, rfl⟩
    have HG : Hid (Gr w W2) := by rw [← hW2]; exact (((Keeps.refl w _).alloc _).alloc _).drew
    have x1 : W2.heap[w.heap.size]? = some (.cells #[.int .i64 (k : Int), .int .i64 wd, .int .i64 di, .int .i64 ix, .slice ao L ca] 45) := by
      rw [← hW2]; exact (Below.heap_alloc _ _ _ (by simp)).trans (World.alloc_heap_new w _)
    have x2 : W2.heap[w.heap.size + 1]? = some (.cells #[.string ⟨e0.toArray⟩, .int .i64 e1, .int .i64 e2, .int .i64 e3, .int .i64 e4] 184) := by
      rw [← hW2]
      have := World.alloc_heap_new (w.alloc (.cells #[.int .i64 (k : Int), .int .i64 wd, .int .i64 di, .int .i64 ix, .slice ao L ca] 45)) (.cells #[.string ⟨e0.toArray⟩, .int .i64 e1, .int .i64 e2, .int .i64 e3, .int .i64 e4] 184)
      rw [World.size_alloc] at this
      exact this
    have HX : Hid _ := And.intro x1 x2
    have y0 : ∀ W3, Gr W2 W3 → W3.heap[w.heap.size]? = some (.cells #[.int .i64 (k : Int), .int .i64 wd, .int .i64 di, .int .i64 ix, .slice ao L ca] 45) := fun W3 g => (g.block _ (Array.getElem?_eq_some_iff.1 x1).1 (fun h => h)).trans x1
    have HY : Hid _ := y0
    have z0 : W2.cell? ⟨w.heap.size, 0, none⟩ = some (.int .i64 (k : Int)) := by simp [World.cell?, x1]
    have z1 : W2.cell? ⟨w.heap.size, 1, none⟩ = some (.int .i64 wd) := by simp [World.cell?, x1]
    have z2 : W2.cell? ⟨w.heap.size, 2, none⟩ = some (.int .i64 di) := by simp [World.cell?, x1]
    have z3 : W2.cell? ⟨w.heap.size, 3, none⟩ = some (.int .i64 ix) := by simp [World.cell?, x1]
    have z4 : W2.cell? ⟨w.heap.size, 4, none⟩ = some (.slice ao L ca) := by simp [World.cell?, x1]
    have z5 : W2.cell? ⟨w.heap.size + 1, 3, none⟩ = some (.int .i64 e3) := by simp [World.cell?, x2]
    have z6 : W2.cell? ⟨w.heap.size + 1, 4, none⟩ = some (.int .i64 e4) := by simp [World.cell?, x2]
    rw [hW2]
    clear hW2 x1 x2 y0 b0 b1 b2 b3 b4 hk
    by_cases g1 : e3 ≤ (L : Int)
    · by_cases g2 : (L : Int) ≤ e4
      · cases wb with
        | true =>
          go_wp2_with (first
            | (go_at_call 99; refine (hw _).mono ?_; clear hw; rintro e w2 ⟨rfl, hg2⟩; have y := HY.out w2 hg2; have z0 : w2.cell? ⟨w.heap.size, 0, none⟩ = some (.int .i64 (k : Int)) := (by simp [World.cell?, y]); have z1 : w2.cell? ⟨w.heap.size, 1, none⟩ = some (.int .i64 wd) := (by simp [World.cell?, y]); have z2 : w2.cell? ⟨w.heap.size, 2, none⟩ = some (.int .i64 di) := (by simp [World.cell?, y]); have z3 : w2.cell? ⟨w.heap.size, 3, none⟩ = some (.int .i64 ix) := (by simp [World.cell?, y]); have z4 : w2.cell? ⟨w.heap.size, 4, none⟩ = some (.slice ao L ca) := (by simp [World.cell?, y]); have HG2 : Hid (Gr w w2) := HG.out.trans hg2 (fun _ _ h => h); clear y hg2)
            | (go_at_call 100; refine (hd _).mono ?_; clear hd; rintro e w3 ⟨rfl, hg3⟩; have HG3 : Hid (Gr w w3) := HG2.out.trans hg3 (fun _ _ h => h); clear hg3))
          go_ret
          exact ⟨congrArg (fun b => Ending.returned (.bool b)) (by rw [HB.out]; simp [g1, g2]), HG3.out⟩
        | false =>
          go_wp2_with (go_at_call 99; refine (hw _).mono ?_; clear hw; rintro e w2 ⟨rfl, hg2⟩; have HG2 : Hid (Gr w w2) := HG.out.trans hg2 (fun _ _ h => h); clear hg2)
          go_ret
          exact ⟨congrArg (fun b => Ending.returned (.bool b)) (by rw [HB.out]; simp), HG2.out⟩
      · go_wp2_with fail
        go_ret
        exact ⟨congrArg (fun b => Ending.returned (.bool b)) (by rw [HB.out, decide_eq_false (Int.not_le.2 g2)]; simp), HG.out⟩
    · go_wp2_with fail
      go_ret
      exact ⟨congrArg (fun b => Ending.returned (.bool b)) (by rw [HB.out, decide_eq_false (Int.not_le.2 g1)]; simp), HG.out⟩
/-- may the field be nullable as it is; k0: its first child is -/
def nullB (f : FT) : Bool := if f.kind = 1 then f.nul else if f.kind = 18 then !f.nul else if f.kind = 20 then f.nul == ((f.kids[0]?.map FT.nul).getD false) else true

theorem fitsNull_any (f : FT) (ao : Option Addr) (ca : Nat) (S : Nat → Prop) (d : Nat) (w : World) (hr : RowAt S w d ao f.kids) (hk : f.kind = 20 → f.kids ≠ []) :
    Calls Tryz.prog 76 #[fldV f ao ca] w fun e w' => e = .returned (.bool (nullB f)) ∧ Gr w w' := by
  obtain ⟨nm, nu, kd, wd, di, ix, ks⟩ := f
  show Calls Tryz.prog 76 #[.agg #[.string nm, .bool nu, .int .i64 kd, .int .i64 wd, .int .i64 di, .int .i64 ix, .slice ao ks.length ca]] w _
  obtain ⟨nb, hnb⟩ : ∃ nb, nullB ⟨nm, nu, kd, wd, di, ix, ks⟩ = nb := ⟨_, rfl⟩
  rw [hnb]
  simp only [FT.kind, FT.kids] at hr hk
  by_cases h1 : kd = 1
  · have e : nb = nu := by rw [← hnb]; simp [nullB, FT.kind, FT.nul, h1]
    subst e
    clear hr hk hnb
    go_enter Tryz.func76, Tryz.ntmps76
    go_wp2
    go_ret
    exact ⟨rfl, gr_alloc _ _⟩
  · have q1 := beqF h1
    by_cases h2 : kd = 18
    · have e : nb = !nu := by rw [← hnb]; simp [nullB, FT.kind, FT.nul, h2]
      subst e
      clear hr hk hnb
      go_enter Tryz.func76, Tryz.ntmps76
      go_wp2
      go_ret
      exact ⟨rfl, gr_alloc _ _⟩
    · have q2 := beqF h2
      by_cases h3 : kd = 20
      · have hne := hk h3
        cases d with
        | zero => exact absurd hr hne
        | succ d =>
          obtain ⟨b, o, rfl, hSb, hcs⟩ := hr.2 hne
          have hpos : 0 < ks.length := List.length_pos_iff.2 hne
          obtain ⟨ao', ca', hc, _, _⟩ := hcs 0 hpos
          have hn : ks[0]? = some ks[0] := List.getElem?_eq_getElem hpos
          have e : nb = (nu == (ks[0]).nul) := by rw [← hnb]; simp [nullB, FT.kind, FT.nul, FT.kids, h3, hn]
          have c1 : ∀ o', (w.alloc o').cell? ⟨b, o + 1, none⟩ = some (.bool (ks[0]).nul) := fun o' => (gr_alloc w o').cell' (by have := hc.c1; simpa using this) (fun h => h)
          have hposI : (0 : Int) < (ks.length : Int) := by omega
          generalize (ks[0]).nul = kn at c1 e
          subst e
          clear hr hk hcs hc hn hne hnb
          go_enter Tryz.func76, Tryz.ntmps76
          go_wp2
          go_region
          go_wp2
          go_ret
          exact ⟨rfl, by first | exact (gr_alloc _ _) | exact (gr_alloc _ _).drew⟩
      · have q3 := beqF h3
        have e : nb = true := by rw [← hnb]; simp [nullB, FT.kind, h1, h2, h3]
        subst e
        clear hr hk hnb
        go_enter Tryz.func76, Tryz.ntmps76
        go_wp2
        go_ret
        exact ⟨rfl, gr_alloc _ _⟩
/-- the spot's number -/
theorem number_exact (ao : Option Addr) (L ca wb m wc i : Nat) (inD : Bool) (hb : m ≤ 1000000000000) (w : World) (hc : w.cell? ⟨wb, m, none⟩ = some (.int .i64 (i : Int))) :
    Calls Tryz.prog 74 #[.agg #[.slice ao L ca, .slice (some ⟨wb, 0, none⟩) (m + 1) wc, .bool inD]] w fun e w' => e = .returned (.int .i64 (i : Int)) ∧ w' = w.alloc (.cells #[.slice ao L ca, .slice (some ⟨wb, 0, none⟩) (m + 1) wc, .bool inD] 119) := by
  have hc : ∀ o, (w.alloc o).cell? ⟨wb, m, none⟩ = some (.int .i64 (i : Int)) := fun o => (gr_alloc w o).cell' hc (fun h => h)
  go_enter Tryz.func74, Tryz.ntmps74
  go_wp2
  go_ret
  exact ⟨rfl, rfl⟩
end Go.Proofs.YteggcdhibcjneaaGreatDoor.Kit
