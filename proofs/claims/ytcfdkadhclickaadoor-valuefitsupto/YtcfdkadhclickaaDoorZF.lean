import Derived.Shelf.Strings.Repeat
import Derived.Test.YtcfdkadhclickaaDoorProg
import Derived.Test.YtcfdkadhclickaaDoorZD
import Derived.Test.YtcfdkadhclickaaDoorZC
import Derived.Deep.RegionHeld3
import Derived.Laws.IdiomStrings
/-
  DERIVED: THE SHELF's CONTRACTS AT THIS DUMP, IN PLAIN WORDS (tools/lay-plain.mjs out of 'YtcfdkadhclickaaDoorZS.lean', which tools/lay-shelf.mjs wrote): THE SAME DECLARATIONS UNDER THE SAME NAMES: 'import', 'namespace', 'open', 'def', 'theorem' AND NOTHING ELSE: no command of the shelf's: FOR A HAND-IN. Each laying: the table of numbers ('.._ren') and one theorem, a field a fact of the dump's own or the kernel's comparison; each contract: ONE APPLICATION.
-/
namespace Go.Proofs
open Go.Shelf
def Tryd.lays105_ren : Go.Shelf.Ren := ⟨fun | 105 => 52 | 212 => 77 | 99 => 78 | 165 => 79 | 166 => 80 | 170 => 81 | 169 => 82 | 263 => 97 | 264 => 98 | 206 => 99 | 240 => 100 | 241 => 101 | 276 => 112 | 277 => 113 | n => n, fun | 9 => 9 | 3 => 3 | 4 => 4 | 20 => 20 | 0 => 0 | 46 => 103 | 109 => 104 | 5 => 5 | 72 => 109 | 76 => 113 | 51 => 133 | 146 => 134 | 53 => 50 | 148 => 136 | 70 => 107 | 37 => 78 | 75 => 112 | 127 => 138 | 164 => 157 | 80 => 116 | n => n, fun | n => n⟩
theorem Tryd.lays105 : Go.Proofs.Lays.n105 Tryd.prog Tryd.lays105_ren := {
  mixed := by kernel_rfl
  f99 := Tryd.func78.trans (congrArg some (by kernel_rfl))
  f105 := Tryd.func52.trans (congrArg some (by kernel_rfl))
  f165 := Tryd.func79.trans (congrArg some (by kernel_rfl))
  f166 := Tryd.func80.trans (congrArg some (by kernel_rfl))
  f169 := Tryd.func82.trans (congrArg some (by kernel_rfl))
  f170 := Tryd.func81.trans (congrArg some (by kernel_rfl))
  f206 := Tryd.func99.trans (congrArg some (by kernel_rfl))
  f212 := Tryd.func77.trans (congrArg some (by kernel_rfl))
  f240 := Tryd.func100.trans (congrArg some (by kernel_rfl))
  f241 := Tryd.func101.trans (congrArg some (by kernel_rfl))
  f263 := Tryd.func97.trans (congrArg some (by kernel_rfl))
  f264 := Tryd.func98.trans (congrArg some (by kernel_rfl))
  f276 := Tryd.func112.trans (congrArg some (by kernel_rfl))
  f277 := Tryd.func113.trans (congrArg some (by kernel_rfl))
  t0 := Tryd.underlying0
  a0 := Tryd.isAgg0
  z0 := Tryd.sizeOf0
  v0 := Tryd.zeroValue0
  t3 := Tryd.underlying3
  a3 := Tryd.isAgg3
  z3 := Tryd.sizeOf3
  v3 := Tryd.zeroValue3
  t4 := Tryd.underlying4
  a4 := Tryd.isAgg4
  z4 := Tryd.sizeOf4
  v4 := Tryd.zeroValue4
  t5 := Tryd.underlying5
  a5 := Tryd.isAgg5
  z5 := Tryd.sizeOf5
  v5 := Tryd.zeroValue5
  t9 := Tryd.underlying9
  a9 := Tryd.isAgg9
  z9 := Tryd.sizeOf9
  v9 := Tryd.zeroValue9
  t20 := Tryd.underlying20
  a20 := Tryd.isAgg20
  z20 := Tryd.sizeOf20
  v20 := Tryd.zeroValue20
  t37 := Tryd.underlying78
  a37 := Tryd.isAgg78
  z37 := Tryd.sizeOf78
  v37 := Tryd.zeroValue78
  t46 := Tryd.underlying103
  a46 := Tryd.isAgg103
  z46 := Tryd.sizeOf103
  v46 := Tryd.zeroValue103
  t51 := Tryd.underlying133
  a51 := Tryd.isAgg133
  z51 := Tryd.sizeOf133
  v51 := Tryd.zeroValue133
  t53 := Tryd.underlying50
  a53 := Tryd.isAgg50
  z53 := Tryd.sizeOf50
  v53 := Tryd.zeroValue50
  t70 := Tryd.underlying107
  a70 := Tryd.isAgg107
  z70 := Tryd.sizeOf107
  v70 := Tryd.zeroValue107
  t72 := Tryd.underlying109
  a72 := Tryd.isAgg109
  z72 := Tryd.sizeOf109
  v72 := Tryd.zeroValue109
  t75 := Tryd.underlying112
  a75 := Tryd.isAgg112
  z75 := Tryd.sizeOf112
  v75 := Tryd.zeroValue112
  t76 := Tryd.underlying113
  a76 := Tryd.isAgg113
  z76 := Tryd.sizeOf113
  v76 := Tryd.zeroValue113
  t109 := Tryd.underlying104
  a109 := Tryd.isAgg104
  z109 := Tryd.sizeOf104
  v109 := Tryd.zeroValue104
  t127 := Tryd.underlying138
  a127 := Tryd.isAgg138
  z127 := Tryd.sizeOf138
  v127 := Tryd.zeroValue138
  t146 := Tryd.underlying134
  a146 := Tryd.isAgg134
  z146 := Tryd.sizeOf134
  v146 := Tryd.zeroValue134
  t148 := Tryd.underlying136
  a148 := Tryd.isAgg136
  z148 := Tryd.sizeOf136
  v148 := Tryd.zeroValue136
  t164 := Tryd.underlying157
  a164 := Tryd.isAgg157
  z164 := Tryd.sizeOf157
  v164 := Tryd.zeroValue157 }
theorem Tryd.Builder_Extra_105 : Builder.Extra Tryd.prog Tryd.lays105_ren := {
  sizeBuilder := by kernel_rfl
  liesBuilder := by kernel_rfl
  t5 := Tryd.underlying5
  a5 := Tryd.isAgg5
  z5 := Tryd.sizeOf5
  v5 := Tryd.zeroValue5
  infoByte := by kernel_rfl
  cellsByte := by kernel_rfl
  sizeByte := by kernel_rfl
  neB5 := by decide }
open Go.RowKit Go.Lib in
/-- THE MAIN CASE: at least two copies of a string that is not empty. (LAID: no walk: one application.) -/
theorem Tryd.strings_Repeat_main (s : ByteArray) (c : Nat) (w : World) (hc2 : 2 ≤ c) (hc : c ≤ 9223372036854775807) (hlen : s.size * c ≤ 140737488355328) (h0 : 0 < s.size) :
    Calls Tryd.prog 52 #[.string s, .int .i64 c] w fun e w' => e = .returned (.string ⟨(Lib.repeatL s.data.toList c).toArray⟩) ∧ Below w.heap.size w w' := Any.strings_Repeat_main Tryd.lays105 Tryd.Builder_Extra_105 s c w hc2 hc hlen h0
open Go.RowKit Go.Lib in
theorem Tryd.strings_Repeat_zero (s : ByteArray) (w : World) :
    Calls Tryd.prog 52 #[.string s, .int .i64 0] w fun e w' => e = .returned (.string ⟨#[]⟩) ∧ w' = w := Any.strings_Repeat_zero Tryd.lays105 s w
open Go.RowKit Go.Lib in
theorem Tryd.strings_Repeat_one (s : ByteArray) (w : World) :
    Calls Tryd.prog 52 #[.string s, .int .i64 1] w fun e w' => e = .returned (.string s) ∧ w' = w := Any.strings_Repeat_one Tryd.lays105 s w
open Go.RowKit Go.Lib in
/-- Copies of the empty string. (LAID: no walk: one application.) -/
theorem Tryd.strings_Repeat_empty (s : ByteArray) (c : Nat) (w : World) (hc2 : 2 ≤ c) (hc : c ≤ 9223372036854775807) (h0 : s.size = 0) :
    Calls Tryd.prog 52 #[.string s, .int .i64 c] w fun e w' => e = .returned (.string ⟨#[]⟩) ∧ w' = w := Any.strings_Repeat_empty Tryd.lays105 s c w hc2 hc h0
open Go.RowKit Go.Lib in
/-- count < 0: "It panics if count is negative". (LAID: no walk: one application.) -/
theorem Tryd.strings_Repeat_negative (s : ByteArray) (c : Int) (w : World) (hc : c < 0) :
    Calls Tryd.prog 52 #[.string s, .int .i64 c] w fun e w' => e = .panicked [{ v := repeatPanic Tryd.lays105_ren "strings: negative Repeat count", recovered := false }] ∧ w' = w := Any.strings_Repeat_negative Tryd.lays105 s c w hc
open Go.RowKit Go.Lib in
/-- len(s) * count is no int: ".. or if the result of (len(s) * count) overflows". (LAID: no walk: one application.) -/
theorem Tryd.strings_Repeat_overflow (s : ByteArray) (c : Nat) (w : World) (hc : c ≤ 9223372036854775807) (hs : s.size ≤ 9223372036854775807) (hbig : 9223372036854775807 < s.size * c) :
    Calls Tryd.prog 52 #[.string s, .int .i64 c] w fun e w' => e = .panicked [{ v := repeatPanic Tryd.lays105_ren "strings: Repeat output length overflow", recovered := false }] ∧ w' = w := Any.strings_Repeat_overflow Tryd.lays105 s c w hc hs hbig
open Go.RowKit Go.Lib in
/-- **strings.Repeat: count ≥ 0, the result within one allocation: count copies of s.** (LAID: no walk: one application.) -/
theorem Tryd.strings_Repeat (s : ByteArray) (c : Nat) (w : World) (hc : c ≤ 9223372036854775807) (hlen : s.size * c ≤ 140737488355328) :
    Calls Tryd.prog 52 #[.string s, .int .i64 c] w fun e w' => e = .returned (.string ⟨(Lib.repeatL s.data.toList c).toArray⟩) ∧ Below w.heap.size w w' := Any.strings_Repeat Tryd.lays105 Tryd.Builder_Extra_105 s c w hc hlen
end Go.Proofs
namespace Go.Proofs.YtcfdkadhclickaaDoor.Kit
open Go.RowKit Go.Shelf Go.Deep
set_option linter.unusedVariables false
attribute [local go_sem] run_store_func

/-! ### zero 36 and the document's zeroOf 34 -/
/-- what they answer: the value, its lists in blocks of their own -/
def ZeC (F : Nat) (w : World) (fv : Value) (D : Nat) (v : VT) : Prop := ∀ W, Gr w W → Calls Tryd.prog F #[fv] W fun e w' => ∃ o c, e = .returned (.agg #[.bool v.nul, .int .i64 v.num, .string v.text, .slice o v.list.length c]) ∧ Gr W w' ∧ ZRow w' D W.heap.size w'.heap.size o c v.list
theorem rep_zero (n : Nat) : (⟨(Lib.repeatL (⟨#[0]⟩ : ByteArray).data.toList n).toArray⟩ : ByteArray) = zT n := by
  unfold zT
  congr 2
  show Lib.repeatL [0] n = _
  induction n with
  | zero => rfl
  | succ n ih => rw [List.replicate_succ, ← ih]; rfl
/-- the end: the result's box is written -/
theorem put4_keeps (V : World) (R : Nat) (a b c d : Value) : Keeps V ((((V.setCell ⟨R, 0, none⟩ a).setCell ⟨R, 1, none⟩ b).setCell ⟨R, 2, none⟩ c).setCell ⟨R, 3, none⟩ d) (fun z => z = R) :=
  ((((Keeps.refl V (fun z => z = R)).setCell (p := ⟨R, 0, none⟩) (fun _ => rfl) _).setCell (p := ⟨R, 1, none⟩) (fun _ => rfl) _).setCell (p := ⟨R, 2, none⟩) (fun _ => rfl) _).setCell (p := ⟨R, 3, none⟩) (fun _ => rfl) _
set_option maxRecDepth 100000 in
set_option maxHeartbeats 4000000 in
theorem zr_nul (f2 : Int) (f0 : ByteArray) (f3 f4 f5 : Int) (ao : Option Addr) (n ca : Nat) (w : World) (DD : Nat) :
    ZeC 36 w (.agg #[.string f0, .bool true, .int .i64 f2, .int .i64 f3, .int .i64 f4, .int .i64 f5, .slice ao n ca]) DD (.mk true 0 ⟨#[]⟩ []) := by
  intro W g
  clear g
  have hA := alloc3 W (.cells #[.string f0, .bool true, .int .i64 f2, .int .i64 f3, .int .i64 f4, .int .i64 f5, .slice ao n ca] 26) (.cells #[.bool true, .int .i64 0, .string ⟨#[]⟩, .slice none 0 0] 29) (.cells #[.bool false, .int .i64 0, .string ⟨#[]⟩, .slice none 0 0] 29)
  have gV : Gr W (((W.alloc (.cells #[.string f0, .bool true, .int .i64 f2, .int .i64 f3, .int .i64 f4, .int .i64 f5, .slice ao n ca] 26)).alloc (.cells #[.bool true, .int .i64 0, .string ⟨#[]⟩, .slice none 0 0] 29)).alloc (.cells #[.bool false, .int .i64 0, .string ⟨#[]⟩, .slice none 0 0] 29)) := (((Keeps.refl W _).alloc _).alloc _).alloc _
  have HA := hidM (And.intro hA.2.1 gV)
  clear hA gV
  go_enter Tryd.func36, Tryd.ntmps36
  go_wp2
  (try simp only [Exit.inBlock, Exit.then])
  exact bodyPost_ret (results_cell_row rfl _ _ _ _ _ _ _ rfl HA.out.1 Tryd.underlying29 rfl (by kernel_rfl)) rfl ⟨none, 0, rfl, HA.out.2, ZRow.nil _ _ _ _⟩
set_option maxRecDepth 100000 in
set_option maxHeartbeats 4000000 in
theorem zr_else (f2 : Int) (f0 : ByteArray) (f3 f4 f5 : Int) (ao : Option Addr) (n ca : Nat) (w : World) (DD : Nat) (hk : f2 ≠ 14 ∧ f2 ≠ 16 ∧ f2 ≠ 17 ∧ f2 ≠ 18 ∧ f2 ≠ 19 ∧ f2 ≠ 20) :
    ZeC 36 w (.agg #[.string f0, .bool false, .int .i64 f2, .int .i64 f3, .int .i64 f4, .int .i64 f5, .slice ao n ca]) DD (.mk false 0 ⟨#[]⟩ []) := by
  intro W g
  have e14 : (f2 == 14) = false := by simp; omega
  have e16 : (f2 == 16) = false := by simp; omega
  have e17 : (f2 == 17) = false := by simp; omega
  have e18 : (f2 == 18) = false := by simp; omega
  have e19 : (f2 == 19) = false := by simp; omega
  have e20 : (f2 == 20) = false := by simp; omega
  clear hk
  clear g
  have hA := alloc4 W (.cells #[.string f0, .bool false, .int .i64 f2, .int .i64 f3, .int .i64 f4, .int .i64 f5, .slice ao n ca] 26) (.cells #[.bool false, .int .i64 0, .string ⟨#[]⟩, .slice none 0 0] 29) (.cells #[.bool false, .int .i64 0, .string ⟨#[]⟩, .slice none 0 0] 29) (.cells #[.int .i64 f2, .int .i64 f3, .int .i64 f4, .int .i64 f5, .slice ao n ca] 24)
  have gV : Gr W ((((W.alloc (.cells #[.string f0, .bool false, .int .i64 f2, .int .i64 f3, .int .i64 f4, .int .i64 f5, .slice ao n ca] 26)).alloc (.cells #[.bool false, .int .i64 0, .string ⟨#[]⟩, .slice none 0 0] 29)).alloc (.cells #[.bool false, .int .i64 0, .string ⟨#[]⟩, .slice none 0 0] 29)).alloc (.cells #[.int .i64 f2, .int .i64 f3, .int .i64 f4, .int .i64 f5, .slice ao n ca] 24)) := ((((Keeps.refl W _).alloc _).alloc _).alloc _).alloc _
  have HA := hidM (And.intro hA.2.1 gV)
  clear hA gV
  go_enter Tryd.func36, Tryd.ntmps36
  go_wp2
  (try simp only [Exit.inBlock, Exit.then])
  exact bodyPost_ret (results_cell_row rfl _ _ _ _ _ _ _ rfl HA.out.1 Tryd.underlying29 rfl (by kernel_rfl)) rfl ⟨none, 0, rfl, HA.out.2, ZRow.nil _ _ _ _⟩
set_option maxRecDepth 100000 in
set_option maxHeartbeats 4000000 in
theorem zr19 (f0 : ByteArray) (f3 f4 f5 : Int) (n ca : Nat) (w : World) (DD : Nat) (kb ko : Nat) (k0 : ByteArray) (k1 : Bool) (k2 k3 k4 k5 : Int) (kp : Option Addr) (kn kc : Nat) (v : VT) (hn : 0 < n) (g0 : w.cell? ⟨kb, ko, none⟩ = some (.string k0)) (g1 : w.cell? ⟨kb, ko + 1, none⟩ = some (.bool k1)) (g2 : w.cell? ⟨kb, ko + 2, none⟩ = some (.int .i64 k2)) (g3 : w.cell? ⟨kb, ko + 3, none⟩ = some (.int .i64 k3)) (g4 : w.cell? ⟨kb, ko + 4, none⟩ = some (.int .i64 k4)) (g5 : w.cell? ⟨kb, ko + 5, none⟩ = some (.int .i64 k5)) (g6 : w.cell? ⟨kb, ko + 6, none⟩ = some (.slice kp kn kc)) (hF : ZeC 36 w (.agg #[.string k0, .bool k1, .int .i64 k2, .int .i64 k3, .int .i64 k4, .int .i64 k5, .slice kp kn kc]) DD v) :
    ZeC 36 w (.agg #[.string f0, .bool false, .int .i64 19, .int .i64 f3, .int .i64 f4, .int .i64 f5, .slice (some ⟨kb, ko, none⟩) n ca]) DD (v) := by
  have HF := hidM hF
  intro W g
  obtain ⟨V, hV⟩ : ∃ V, (((W.alloc (.cells #[.string f0, .bool false, .int .i64 19, .int .i64 f3, .int .i64 f4, .int .i64 f5, .slice (some ⟨kb, ko, none⟩) n ca] 26)).alloc (.cells #[.bool false, .int .i64 0, .string ⟨#[]⟩, .slice none 0 0] 29)).alloc (.cells #[.bool false, .int .i64 0, .string ⟨#[]⟩, .slice none 0 0] 29)).alloc (.cells #[.int .i64 19, .int .i64 f3, .int .i64 f4, .int .i64 f5, .slice (some ⟨kb, ko, none⟩) n ca] 24) = V := ⟨_, rfl⟩
  have hA := alloc4 W (.cells #[.string f0, .bool false, .int .i64 19, .int .i64 f3, .int .i64 f4, .int .i64 f5, .slice (some ⟨kb, ko, none⟩) n ca] 26) (.cells #[.bool false, .int .i64 0, .string ⟨#[]⟩, .slice none 0 0] 29) (.cells #[.bool false, .int .i64 0, .string ⟨#[]⟩, .slice none 0 0] 29) (.cells #[.int .i64 19, .int .i64 f3, .int .i64 f4, .int .i64 f5, .slice (some ⟨kb, ko, none⟩) n ca] 24)
  rw [hV] at hA
  obtain ⟨b7, bR, b3, b4', gV⟩ := hA
  have HbR : Hid (B4 V (W.heap.size + 1) false 0 ⟨#[]⟩ none 0 0) := bR
  have HbY : Hid (B4 V (W.heap.size + 1 + 1) false 0 ⟨#[]⟩ none 0 0) := b3
  have HbT : Hid (B5 V (W.heap.size + 1 + 1 + 1) 19 f3 f4 f5 (some ⟨kb, ko, none⟩) n ca) := b4'
  have gg : Gr w V := g.trans gV (fun _ _ h => h)
  have hsz : V.heap.size = W.heap.size + 4 := by rw [← hV]; simp
  have HA4 : Hid (∀ o1 o2 o3 o4, Gr W ((((W.alloc o1).alloc o2).alloc o3).alloc o4)) := fun o1 o2 o3 o4 => (((gr_alloc W o1).alloc o2).alloc o3).alloc o4
  have g0 := fun o1 o2 o3 o4 => gr_c (g.trans (HA4.out o1 o2 o3 o4) (fun _ _ h => h)) g0
  have g1 := fun o1 o2 o3 o4 => gr_c (g.trans (HA4.out o1 o2 o3 o4) (fun _ _ h => h)) g1
  have g2 := fun o1 o2 o3 o4 => gr_c (g.trans (HA4.out o1 o2 o3 o4) (fun _ _ h => h)) g2
  have g3 := fun o1 o2 o3 o4 => gr_c (g.trans (HA4.out o1 o2 o3 o4) (fun _ _ h => h)) g3
  have g4 := fun o1 o2 o3 o4 => gr_c (g.trans (HA4.out o1 o2 o3 o4) (fun _ _ h => h)) g4
  have g5 := fun o1 o2 o3 o4 => gr_c (g.trans (HA4.out o1 o2 o3 o4) (fun _ _ h => h)) g5
  have g6 := fun o1 o2 o3 o4 => gr_c (g.trans (HA4.out o1 o2 o3 o4) (fun _ _ h => h)) g6
  have hn' : (0 : Int) < (n : Int) := by omega
  have HG := hidM gV
  have HGg := hidM gg
  have Hs := hidM hsz
  have HV := hidM hV
  clear gV gg g hsz b7 bR b3 b4' hV hF
  go_enter Tryd.func36, Tryd.ntmps36
  go_wp2_with (go_at_call 36; refine Hid.out ?_)
  unfold Hid
  rw [HV.out]
  refine Calls.mono (HF.out _ HGg.out) ?_
  rintro e w2 ⟨o, c, rfl, hg2, hz⟩
  have HE := hidM hg2
  have HZ := hidM hz
  clear hz g0 g1 g2 g3 g4 g5 g6
  have bR2 : B4 w2 (W.heap.size + 1) false 0 ⟨#[]⟩ none 0 0 := (hg2.block _ (lt_of_heap HbR.out) id).trans HbR.out
  obtain ⟨r0, r1, r2, r3⟩ := B4.cells bR2
  have z0 := frz bR2 0
  have z1 := frz bR2 1
  have z2 := frz bR2 2
  have z3 := frz bR2 3
  have HbR2 := hidM bR2
  clear bR2 hg2
  go_wp2_with fail
  have hb3 := put4_box (.bool v.nul) (.int .i64 v.num) (.string v.text) (.slice o v.list.length c) (HbR2.out)
  have k3 := put4_keeps w2 (W.heap.size + 1) (.bool v.nul) (.int .i64 v.num) (.string v.text) (.slice o v.list.length c)
  have hsz := k3.size
  have hs := Hs.out
  (try simp only [Exit.inBlock, Exit.then])
  refine bodyPost_ret (results_cell_row rfl _ _ _ _ _ _ _ rfl hb3 Tryd.underlying29 rfl (by kernel_rfl)) rfl ⟨o, c, rfl, ?_, ?_⟩
  · exact (HG.out.trans HE.out (fun _ _ h => h)).trans k3 (fun j hj e => by omega)
  · exact (HZ.out.kept fun b h1 h2 => k3.block b h2 (by omega)).wide (by omega) hsz
set_option maxRecDepth 100000 in
set_option maxHeartbeats 4000000 in
theorem zr20 (f0 : ByteArray) (f3 f4 f5 : Int) (n ca : Nat) (w : World) (DD : Nat) (kb ko : Nat) (k0 : ByteArray) (k1 : Bool) (k2 k3 k4 k5 : Int) (kp : Option Addr) (kn kc : Nat) (v : VT) (hn : 0 < n) (g0 : w.cell? ⟨kb, ko, none⟩ = some (.string k0)) (g1 : w.cell? ⟨kb, ko + 1, none⟩ = some (.bool k1)) (g2 : w.cell? ⟨kb, ko + 2, none⟩ = some (.int .i64 k2)) (g3 : w.cell? ⟨kb, ko + 3, none⟩ = some (.int .i64 k3)) (g4 : w.cell? ⟨kb, ko + 4, none⟩ = some (.int .i64 k4)) (g5 : w.cell? ⟨kb, ko + 5, none⟩ = some (.int .i64 k5)) (g6 : w.cell? ⟨kb, ko + 6, none⟩ = some (.slice kp kn kc)) (hF : ZeC 36 w (.agg #[.string k0, .bool k1, .int .i64 k2, .int .i64 k3, .int .i64 k4, .int .i64 k5, .slice kp kn kc]) DD v) :
    ZeC 36 w (.agg #[.string f0, .bool false, .int .i64 20, .int .i64 f3, .int .i64 f4, .int .i64 f5, .slice (some ⟨kb, ko, none⟩) n ca]) DD (v) := by
  have HF := hidM hF
  intro W g
  obtain ⟨V, hV⟩ : ∃ V, (((W.alloc (.cells #[.string f0, .bool false, .int .i64 20, .int .i64 f3, .int .i64 f4, .int .i64 f5, .slice (some ⟨kb, ko, none⟩) n ca] 26)).alloc (.cells #[.bool false, .int .i64 0, .string ⟨#[]⟩, .slice none 0 0] 29)).alloc (.cells #[.bool false, .int .i64 0, .string ⟨#[]⟩, .slice none 0 0] 29)).alloc (.cells #[.int .i64 20, .int .i64 f3, .int .i64 f4, .int .i64 f5, .slice (some ⟨kb, ko, none⟩) n ca] 24) = V := ⟨_, rfl⟩
  have hA := alloc4 W (.cells #[.string f0, .bool false, .int .i64 20, .int .i64 f3, .int .i64 f4, .int .i64 f5, .slice (some ⟨kb, ko, none⟩) n ca] 26) (.cells #[.bool false, .int .i64 0, .string ⟨#[]⟩, .slice none 0 0] 29) (.cells #[.bool false, .int .i64 0, .string ⟨#[]⟩, .slice none 0 0] 29) (.cells #[.int .i64 20, .int .i64 f3, .int .i64 f4, .int .i64 f5, .slice (some ⟨kb, ko, none⟩) n ca] 24)
  rw [hV] at hA
  obtain ⟨b7, bR, b3, b4', gV⟩ := hA
  have HbR : Hid (B4 V (W.heap.size + 1) false 0 ⟨#[]⟩ none 0 0) := bR
  have HbY : Hid (B4 V (W.heap.size + 1 + 1) false 0 ⟨#[]⟩ none 0 0) := b3
  have HbT : Hid (B5 V (W.heap.size + 1 + 1 + 1) 20 f3 f4 f5 (some ⟨kb, ko, none⟩) n ca) := b4'
  have gg : Gr w V := g.trans gV (fun _ _ h => h)
  have hsz : V.heap.size = W.heap.size + 4 := by rw [← hV]; simp
  have HA4 : Hid (∀ o1 o2 o3 o4, Gr W ((((W.alloc o1).alloc o2).alloc o3).alloc o4)) := fun o1 o2 o3 o4 => (((gr_alloc W o1).alloc o2).alloc o3).alloc o4
  have g0 := fun o1 o2 o3 o4 => gr_c (g.trans (HA4.out o1 o2 o3 o4) (fun _ _ h => h)) g0
  have g1 := fun o1 o2 o3 o4 => gr_c (g.trans (HA4.out o1 o2 o3 o4) (fun _ _ h => h)) g1
  have g2 := fun o1 o2 o3 o4 => gr_c (g.trans (HA4.out o1 o2 o3 o4) (fun _ _ h => h)) g2
  have g3 := fun o1 o2 o3 o4 => gr_c (g.trans (HA4.out o1 o2 o3 o4) (fun _ _ h => h)) g3
  have g4 := fun o1 o2 o3 o4 => gr_c (g.trans (HA4.out o1 o2 o3 o4) (fun _ _ h => h)) g4
  have g5 := fun o1 o2 o3 o4 => gr_c (g.trans (HA4.out o1 o2 o3 o4) (fun _ _ h => h)) g5
  have g6 := fun o1 o2 o3 o4 => gr_c (g.trans (HA4.out o1 o2 o3 o4) (fun _ _ h => h)) g6
  have hn' : (0 : Int) < (n : Int) := by omega
  have HG := hidM gV
  have HGg := hidM gg
  have Hs := hidM hsz
  have HV := hidM hV
  clear gV gg g hsz b7 bR b3 b4' hV hF
  go_enter Tryd.func36, Tryd.ntmps36
  go_wp2_with (go_at_call 36; refine Hid.out ?_)
  unfold Hid
  rw [HV.out]
  refine Calls.mono (HF.out _ HGg.out) ?_
  rintro e w2 ⟨o, c, rfl, hg2, hz⟩
  have HE := hidM hg2
  have HZ := hidM hz
  clear hz g0 g1 g2 g3 g4 g5 g6
  have bR2 : B4 w2 (W.heap.size + 1) false 0 ⟨#[]⟩ none 0 0 := (hg2.block _ (lt_of_heap HbR.out) id).trans HbR.out
  obtain ⟨r0, r1, r2, r3⟩ := B4.cells bR2
  have z0 := frz bR2 0
  have z1 := frz bR2 1
  have z2 := frz bR2 2
  have z3 := frz bR2 3
  have HbR2 := hidM bR2
  clear bR2 hg2
  go_wp2_with fail
  have hb3 := put4_box (.bool v.nul) (.int .i64 v.num) (.string v.text) (.slice o v.list.length c) (HbR2.out)
  have k3 := put4_keeps w2 (W.heap.size + 1) (.bool v.nul) (.int .i64 v.num) (.string v.text) (.slice o v.list.length c)
  have hsz := k3.size
  have hs := Hs.out
  (try simp only [Exit.inBlock, Exit.then])
  refine bodyPost_ret (results_cell_row rfl _ _ _ _ _ _ _ rfl hb3 Tryd.underlying29 rfl (by kernel_rfl)) rfl ⟨o, c, rfl, ?_, ?_⟩
  · exact (HG.out.trans HE.out (fun _ _ h => h)).trans k3 (fun j hj e => by omega)
  · exact (HZ.out.kept fun b h1 h2 => k3.block b h2 (by omega)).wide (by omega) hsz
set_option maxRecDepth 100000 in
set_option maxHeartbeats 4000000 in
theorem zr14 (f0 : ByteArray) (f3 f4 f5 : Int) (ao : Option Addr) (n ca : Nat) (w : World) (DD : Nat) (h0 : 1 ≤ f3) (h1 : f3 ≤ 4096) :
    ZeC 36 w (.agg #[.string f0, .bool false, .int .i64 14, .int .i64 f3, .int .i64 f4, .int .i64 f5, .slice ao n ca]) DD (.mk false 0 (zT f3.toNat) []) := by
  have HRp : Hid (∀ W, Calls Tryd.prog 52 #[.string ⟨#[0]⟩, .int .i64 f3] W fun e w' => e = .returned (.string (zT f3.toNat)) ∧ Gr W w') := fun W => by
    have h := Tryd.strings_Repeat ⟨#[0]⟩ f3.toNat W (by omega) (by show 1 * f3.toNat ≤ _; omega)
    rw [show ((f3.toNat : Nat) : Int) = f3 by omega] at h
    refine h.mono ?_
    rintro e w' ⟨rfl, hb⟩
    refine ⟨?_, (Keeps.ofBelow hb).mono (fun b h h' => by omega)⟩
    rw [show (⟨(Lib.repeatL (⟨#[0]⟩ : ByteArray).data.toList f3.toNat).toArray⟩ : ByteArray) = zT f3.toNat from rep_zero _]
  intro W g
  obtain ⟨V, hV⟩ : ∃ V, (((W.alloc (.cells #[.string f0, .bool false, .int .i64 14, .int .i64 f3, .int .i64 f4, .int .i64 f5, .slice ao n ca] 26)).alloc (.cells #[.bool false, .int .i64 0, .string ⟨#[]⟩, .slice none 0 0] 29)).alloc (.cells #[.bool false, .int .i64 0, .string ⟨#[]⟩, .slice none 0 0] 29)).alloc (.cells #[.int .i64 14, .int .i64 f3, .int .i64 f4, .int .i64 f5, .slice ao n ca] 24) = V := ⟨_, rfl⟩
  have hA := alloc4 W (.cells #[.string f0, .bool false, .int .i64 14, .int .i64 f3, .int .i64 f4, .int .i64 f5, .slice ao n ca] 26) (.cells #[.bool false, .int .i64 0, .string ⟨#[]⟩, .slice none 0 0] 29) (.cells #[.bool false, .int .i64 0, .string ⟨#[]⟩, .slice none 0 0] 29) (.cells #[.int .i64 14, .int .i64 f3, .int .i64 f4, .int .i64 f5, .slice ao n ca] 24)
  rw [hV] at hA
  obtain ⟨b7, bR, b3, b4', gV⟩ := hA
  have HbR : Hid (B4 V (W.heap.size + 1) false 0 ⟨#[]⟩ none 0 0) := bR
  have HbY : Hid (B4 V (W.heap.size + 1 + 1) false 0 ⟨#[]⟩ none 0 0) := b3
  have HbT : Hid (B5 V (W.heap.size + 1 + 1 + 1) 14 f3 f4 f5 ao n ca) := b4'
  have gg : Gr w V := g.trans gV (fun _ _ h => h)
  have hsz : V.heap.size = W.heap.size + 4 := by rw [← hV]; simp
  have HA4 : Hid (∀ o1 o2 o3 o4, Gr W ((((W.alloc o1).alloc o2).alloc o3).alloc o4)) := fun o1 o2 o3 o4 => (((gr_alloc W o1).alloc o2).alloc o3).alloc o4
  have HG := hidM gV
  have HGg := hidM gg
  have Hs := hidM hsz
  have HV := hidM hV
  clear gV gg g hsz b7 bR b3 b4' hV h0 h1
  go_enter Tryd.func36, Tryd.ntmps36
  go_wp2_with (go_at_call 52; refine Hid.out ?_)
  unfold Hid
  rw [HV.out]
  refine Calls.mono (HRp.out V) ?_
  rintro e w2 ⟨rfl, hg2⟩
  have HE := hidM hg2
  have bR2 : B4 w2 (W.heap.size + 1) false 0 ⟨#[]⟩ none 0 0 := (hg2.block _ (lt_of_heap HbR.out) id).trans HbR.out
  have bY2 : B4 w2 (W.heap.size + 1 + 1) false 0 ⟨#[]⟩ none 0 0 := (hg2.block _ (lt_of_heap HbY.out) id).trans HbY.out
  obtain ⟨r0, r1, r2, r3⟩ := B4.cells bR2
  have z0 := frz bR2 0
  have z1 := frz bR2 1
  have z2 := frz bR2 2
  have z3 := frz bR2 3
  obtain ⟨y0, y1, y2, y3⟩ := B4.cells bY2
  have u2 := frz bY2 2
  have u3 := frz bY2 3
  have HbY2 := hidM bY2
  have HbR2 := hidM bR2
  clear bR2 bY2 hg2
  go_wp2_with fail
  obtain ⟨w3, hw3⟩ : ∃ w3, w2.setCell ⟨W.heap.size + 1 + 1, 2, none⟩ (.string (zT f3.toNat)) = w3 := ⟨_, rfl⟩
  rw [hw3]
  have ky : Keeps w2 w3 (fun z => z = W.heap.size + 1 + 1) := by rw [← hw3]; exact (Keeps.refl w2 (fun z => z = W.heap.size + 1 + 1)).setCell (p := ⟨W.heap.size + 1 + 1, 2, none⟩) (fun _ => rfl) _
  have hbR3 : B4 w3 (W.heap.size + 1) false 0 ⟨#[]⟩ none 0 0 := (ky.block _ (lt_of_heap HbR2.out) (by omega)).trans HbR2.out
  have hb3 := put4_box (.bool false) (.int .i64 0) (.string (zT f3.toNat)) (.slice none 0 0) (hbR3)
  have k3 := put4_keeps w3 (W.heap.size + 1) (.bool false) (.int .i64 0) (.string (zT f3.toNat)) (.slice none 0 0)
  have hsz := k3.size
  have hs := Hs.out
  (try simp only [Exit.inBlock, Exit.then])
  refine bodyPost_ret (results_cell_row rfl _ _ _ _ _ _ _ rfl hb3 Tryd.underlying29 rfl (by kernel_rfl)) rfl ⟨none, 0, rfl, ?_, ?_⟩
  · exact ((HG.out.trans HE.out (fun _ _ h => h)).trans ky (fun j hj e => by omega)).trans k3 (fun j hj e => by omega)
  · exact ZRow.nil _ _ _ _
set_option maxRecDepth 100000 in
set_option maxHeartbeats 4000000 in
theorem dz_nul (f2 : Int) (f0 : ByteArray) (f3 f4 f5 : Int) (ao : Option Addr) (n ca : Nat) (w : World) (DD : Nat) (h20 : (f2 == 20) = false) :
    ZeC 34 w (.agg #[.string f0, .bool true, .int .i64 f2, .int .i64 f3, .int .i64 f4, .int .i64 f5, .slice ao n ca]) DD (.mk true 0 ⟨#[]⟩ []) := by
  intro W g
  clear g
  have hA := alloc3 W (.cells #[.string f0, .bool true, .int .i64 f2, .int .i64 f3, .int .i64 f4, .int .i64 f5, .slice ao n ca] 26) (.cells #[.bool true, .int .i64 0, .string ⟨#[]⟩, .slice none 0 0] 29) (.cells #[.int .i64 f2, .int .i64 f3, .int .i64 f4, .int .i64 f5, .slice ao n ca] 24)
  have gV : Gr W (((W.alloc (.cells #[.string f0, .bool true, .int .i64 f2, .int .i64 f3, .int .i64 f4, .int .i64 f5, .slice ao n ca] 26)).alloc (.cells #[.bool true, .int .i64 0, .string ⟨#[]⟩, .slice none 0 0] 29)).alloc (.cells #[.int .i64 f2, .int .i64 f3, .int .i64 f4, .int .i64 f5, .slice ao n ca] 24)) := (((Keeps.refl W _).alloc _).alloc _).alloc _
  have HA := hidM (And.intro hA.2.1 gV)
  clear hA gV
  go_enter Tryd.func34, Tryd.ntmps34
  go_wp2
  (try simp only [Exit.inBlock, Exit.then])
  exact bodyPost_ret (results_cell_row rfl _ _ _ _ _ _ _ rfl HA.out.1 Tryd.underlying29 rfl (by kernel_rfl)) rfl ⟨none, 0, rfl, HA.out.2, ZRow.nil _ _ _ _⟩
set_option maxRecDepth 100000 in
set_option maxHeartbeats 4000000 in
theorem dz_else (f2 : Int) (f0 : ByteArray) (f3 f4 f5 : Int) (ao : Option Addr) (n ca : Nat) (w : World) (DD : Nat) (hk : f2 ≠ 14 ∧ f2 ≠ 16 ∧ f2 ≠ 17 ∧ f2 ≠ 18 ∧ f2 ≠ 19 ∧ f2 ≠ 20) :
    ZeC 34 w (.agg #[.string f0, .bool false, .int .i64 f2, .int .i64 f3, .int .i64 f4, .int .i64 f5, .slice ao n ca]) DD (.mk false 0 ⟨#[]⟩ []) := by
  intro W g
  have e14 : (f2 == 14) = false := by simp; omega
  have e16 : (f2 == 16) = false := by simp; omega
  have e17 : (f2 == 17) = false := by simp; omega
  have e18 : (f2 == 18) = false := by simp; omega
  have e19 : (f2 == 19) = false := by simp; omega
  have e20 : (f2 == 20) = false := by simp; omega
  clear hk
  clear g
  have hA := alloc4 W (.cells #[.string f0, .bool false, .int .i64 f2, .int .i64 f3, .int .i64 f4, .int .i64 f5, .slice ao n ca] 26) (.cells #[.bool false, .int .i64 0, .string ⟨#[]⟩, .slice none 0 0] 29) (.cells #[.int .i64 f2, .int .i64 f3, .int .i64 f4, .int .i64 f5, .slice ao n ca] 24) (.cells #[.bool false, .int .i64 0, .string ⟨#[]⟩, .slice none 0 0] 29)
  have gV : Gr W ((((W.alloc (.cells #[.string f0, .bool false, .int .i64 f2, .int .i64 f3, .int .i64 f4, .int .i64 f5, .slice ao n ca] 26)).alloc (.cells #[.bool false, .int .i64 0, .string ⟨#[]⟩, .slice none 0 0] 29)).alloc (.cells #[.int .i64 f2, .int .i64 f3, .int .i64 f4, .int .i64 f5, .slice ao n ca] 24)).alloc (.cells #[.bool false, .int .i64 0, .string ⟨#[]⟩, .slice none 0 0] 29)) := ((((Keeps.refl W _).alloc _).alloc _).alloc _).alloc _
  have HA := hidM (And.intro hA.2.1 gV)
  clear hA gV
  go_enter Tryd.func34, Tryd.ntmps34
  go_wp2
  (try simp only [Exit.inBlock, Exit.then])
  exact bodyPost_ret (results_cell_row rfl _ _ _ _ _ _ _ rfl HA.out.1 Tryd.underlying29 rfl (by kernel_rfl)) rfl ⟨none, 0, rfl, HA.out.2, ZRow.nil _ _ _ _⟩
set_option maxRecDepth 100000 in
set_option maxHeartbeats 4000000 in
theorem dz19 (f0 : ByteArray) (f3 f4 f5 : Int) (n ca : Nat) (w : World) (DD : Nat) (kb ko : Nat) (k0 : ByteArray) (k1 : Bool) (k2 k3 k4 k5 : Int) (kp : Option Addr) (kn kc : Nat) (v : VT) (hn : 0 < n) (g0 : w.cell? ⟨kb, ko, none⟩ = some (.string k0)) (g1 : w.cell? ⟨kb, ko + 1, none⟩ = some (.bool k1)) (g2 : w.cell? ⟨kb, ko + 2, none⟩ = some (.int .i64 k2)) (g3 : w.cell? ⟨kb, ko + 3, none⟩ = some (.int .i64 k3)) (g4 : w.cell? ⟨kb, ko + 4, none⟩ = some (.int .i64 k4)) (g5 : w.cell? ⟨kb, ko + 5, none⟩ = some (.int .i64 k5)) (g6 : w.cell? ⟨kb, ko + 6, none⟩ = some (.slice kp kn kc)) (hF : ZeC 34 w (.agg #[.string k0, .bool k1, .int .i64 k2, .int .i64 k3, .int .i64 k4, .int .i64 k5, .slice kp kn kc]) DD v) :
    ZeC 34 w (.agg #[.string f0, .bool false, .int .i64 19, .int .i64 f3, .int .i64 f4, .int .i64 f5, .slice (some ⟨kb, ko, none⟩) n ca]) DD (v) := by
  have HF := hidM hF
  intro W g
  obtain ⟨V, hV⟩ : ∃ V, (((W.alloc (.cells #[.string f0, .bool false, .int .i64 19, .int .i64 f3, .int .i64 f4, .int .i64 f5, .slice (some ⟨kb, ko, none⟩) n ca] 26)).alloc (.cells #[.bool false, .int .i64 0, .string ⟨#[]⟩, .slice none 0 0] 29)).alloc (.cells #[.int .i64 19, .int .i64 f3, .int .i64 f4, .int .i64 f5, .slice (some ⟨kb, ko, none⟩) n ca] 24)).alloc (.cells #[.bool false, .int .i64 0, .string ⟨#[]⟩, .slice none 0 0] 29) = V := ⟨_, rfl⟩
  have hA := alloc4 W (.cells #[.string f0, .bool false, .int .i64 19, .int .i64 f3, .int .i64 f4, .int .i64 f5, .slice (some ⟨kb, ko, none⟩) n ca] 26) (.cells #[.bool false, .int .i64 0, .string ⟨#[]⟩, .slice none 0 0] 29) (.cells #[.int .i64 19, .int .i64 f3, .int .i64 f4, .int .i64 f5, .slice (some ⟨kb, ko, none⟩) n ca] 24) (.cells #[.bool false, .int .i64 0, .string ⟨#[]⟩, .slice none 0 0] 29)
  rw [hV] at hA
  obtain ⟨b7, bR, b3, b4', gV⟩ := hA
  have HbR : Hid (B4 V (W.heap.size + 1) false 0 ⟨#[]⟩ none 0 0) := bR
  have HbY : Hid (B4 V (W.heap.size + 1 + 1 + 1) false 0 ⟨#[]⟩ none 0 0) := b4'
  have HbT : Hid (B5 V (W.heap.size + 1 + 1) 19 f3 f4 f5 (some ⟨kb, ko, none⟩) n ca) := b3
  have gg : Gr w V := g.trans gV (fun _ _ h => h)
  have hsz : V.heap.size = W.heap.size + 4 := by rw [← hV]; simp
  have HA4 : Hid (∀ o1 o2 o3 o4, Gr W ((((W.alloc o1).alloc o2).alloc o3).alloc o4)) := fun o1 o2 o3 o4 => (((gr_alloc W o1).alloc o2).alloc o3).alloc o4
  have g0 := fun o1 o2 o3 o4 => gr_c (g.trans (HA4.out o1 o2 o3 o4) (fun _ _ h => h)) g0
  have g1 := fun o1 o2 o3 o4 => gr_c (g.trans (HA4.out o1 o2 o3 o4) (fun _ _ h => h)) g1
  have g2 := fun o1 o2 o3 o4 => gr_c (g.trans (HA4.out o1 o2 o3 o4) (fun _ _ h => h)) g2
  have g3 := fun o1 o2 o3 o4 => gr_c (g.trans (HA4.out o1 o2 o3 o4) (fun _ _ h => h)) g3
  have g4 := fun o1 o2 o3 o4 => gr_c (g.trans (HA4.out o1 o2 o3 o4) (fun _ _ h => h)) g4
  have g5 := fun o1 o2 o3 o4 => gr_c (g.trans (HA4.out o1 o2 o3 o4) (fun _ _ h => h)) g5
  have g6 := fun o1 o2 o3 o4 => gr_c (g.trans (HA4.out o1 o2 o3 o4) (fun _ _ h => h)) g6
  have hn' : (0 : Int) < (n : Int) := by omega
  have HG := hidM gV
  have HGg := hidM gg
  have Hs := hidM hsz
  have HV := hidM hV
  clear gV gg g hsz b7 bR b3 b4' hV hF
  go_enter Tryd.func34, Tryd.ntmps34
  go_wp2_with (go_at_call 34; refine Hid.out ?_)
  unfold Hid
  rw [HV.out]
  refine Calls.mono (HF.out _ HGg.out) ?_
  rintro e w2 ⟨o, c, rfl, hg2, hz⟩
  have HE := hidM hg2
  have HZ := hidM hz
  clear hz g0 g1 g2 g3 g4 g5 g6
  have bR2 : B4 w2 (W.heap.size + 1) false 0 ⟨#[]⟩ none 0 0 := (hg2.block _ (lt_of_heap HbR.out) id).trans HbR.out
  obtain ⟨r0, r1, r2, r3⟩ := B4.cells bR2
  have z0 := frz bR2 0
  have z1 := frz bR2 1
  have z2 := frz bR2 2
  have z3 := frz bR2 3
  have HbR2 := hidM bR2
  clear bR2 hg2
  go_wp2_with fail
  have hb3 := put4_box (.bool v.nul) (.int .i64 v.num) (.string v.text) (.slice o v.list.length c) (HbR2.out)
  have k3 := put4_keeps w2 (W.heap.size + 1) (.bool v.nul) (.int .i64 v.num) (.string v.text) (.slice o v.list.length c)
  have hsz := k3.size
  have hs := Hs.out
  (try simp only [Exit.inBlock, Exit.then])
  refine bodyPost_ret (results_cell_row rfl _ _ _ _ _ _ _ rfl hb3 Tryd.underlying29 rfl (by kernel_rfl)) rfl ⟨o, c, rfl, ?_, ?_⟩
  · exact (HG.out.trans HE.out (fun _ _ h => h)).trans k3 (fun j hj e => by omega)
  · exact (HZ.out.kept fun b h1 h2 => k3.block b h2 (by omega)).wide (by omega) hsz
set_option maxRecDepth 100000 in
set_option maxHeartbeats 4000000 in
theorem dz20 (f1 : Bool) (f0 : ByteArray) (f3 f4 f5 : Int) (n ca : Nat) (w : World) (DD : Nat) (kb ko : Nat) (k0 : ByteArray) (k1 : Bool) (k2 k3 k4 k5 : Int) (kp : Option Addr) (kn kc : Nat) (v : VT) (hn : 0 < n) (g0 : w.cell? ⟨kb, ko, none⟩ = some (.string k0)) (g1 : w.cell? ⟨kb, ko + 1, none⟩ = some (.bool k1)) (g2 : w.cell? ⟨kb, ko + 2, none⟩ = some (.int .i64 k2)) (g3 : w.cell? ⟨kb, ko + 3, none⟩ = some (.int .i64 k3)) (g4 : w.cell? ⟨kb, ko + 4, none⟩ = some (.int .i64 k4)) (g5 : w.cell? ⟨kb, ko + 5, none⟩ = some (.int .i64 k5)) (g6 : w.cell? ⟨kb, ko + 6, none⟩ = some (.slice kp kn kc)) (hF : ZeC 34 w (.agg #[.string k0, .bool k1, .int .i64 k2, .int .i64 k3, .int .i64 k4, .int .i64 k5, .slice kp kn kc]) DD v) :
    ZeC 34 w (.agg #[.string f0, .bool f1, .int .i64 20, .int .i64 f3, .int .i64 f4, .int .i64 f5, .slice (some ⟨kb, ko, none⟩) n ca]) DD (v) := by
  have HF := hidM hF
  intro W g
  obtain ⟨V, hV⟩ : ∃ V, (((W.alloc (.cells #[.string f0, .bool f1, .int .i64 20, .int .i64 f3, .int .i64 f4, .int .i64 f5, .slice (some ⟨kb, ko, none⟩) n ca] 26)).alloc (.cells #[.bool false, .int .i64 0, .string ⟨#[]⟩, .slice none 0 0] 29)).alloc (.cells #[.int .i64 20, .int .i64 f3, .int .i64 f4, .int .i64 f5, .slice (some ⟨kb, ko, none⟩) n ca] 24)).alloc (.cells #[.bool false, .int .i64 0, .string ⟨#[]⟩, .slice none 0 0] 29) = V := ⟨_, rfl⟩
  have hA := alloc4 W (.cells #[.string f0, .bool f1, .int .i64 20, .int .i64 f3, .int .i64 f4, .int .i64 f5, .slice (some ⟨kb, ko, none⟩) n ca] 26) (.cells #[.bool false, .int .i64 0, .string ⟨#[]⟩, .slice none 0 0] 29) (.cells #[.int .i64 20, .int .i64 f3, .int .i64 f4, .int .i64 f5, .slice (some ⟨kb, ko, none⟩) n ca] 24) (.cells #[.bool false, .int .i64 0, .string ⟨#[]⟩, .slice none 0 0] 29)
  rw [hV] at hA
  obtain ⟨b7, bR, b3, b4', gV⟩ := hA
  have HbR : Hid (B4 V (W.heap.size + 1) false 0 ⟨#[]⟩ none 0 0) := bR
  have HbY : Hid (B4 V (W.heap.size + 1 + 1 + 1) false 0 ⟨#[]⟩ none 0 0) := b4'
  have HbT : Hid (B5 V (W.heap.size + 1 + 1) 20 f3 f4 f5 (some ⟨kb, ko, none⟩) n ca) := b3
  have gg : Gr w V := g.trans gV (fun _ _ h => h)
  have hsz : V.heap.size = W.heap.size + 4 := by rw [← hV]; simp
  have HA4 : Hid (∀ o1 o2 o3 o4, Gr W ((((W.alloc o1).alloc o2).alloc o3).alloc o4)) := fun o1 o2 o3 o4 => (((gr_alloc W o1).alloc o2).alloc o3).alloc o4
  have g0 := fun o1 o2 o3 o4 => gr_c (g.trans (HA4.out o1 o2 o3 o4) (fun _ _ h => h)) g0
  have g1 := fun o1 o2 o3 o4 => gr_c (g.trans (HA4.out o1 o2 o3 o4) (fun _ _ h => h)) g1
  have g2 := fun o1 o2 o3 o4 => gr_c (g.trans (HA4.out o1 o2 o3 o4) (fun _ _ h => h)) g2
  have g3 := fun o1 o2 o3 o4 => gr_c (g.trans (HA4.out o1 o2 o3 o4) (fun _ _ h => h)) g3
  have g4 := fun o1 o2 o3 o4 => gr_c (g.trans (HA4.out o1 o2 o3 o4) (fun _ _ h => h)) g4
  have g5 := fun o1 o2 o3 o4 => gr_c (g.trans (HA4.out o1 o2 o3 o4) (fun _ _ h => h)) g5
  have g6 := fun o1 o2 o3 o4 => gr_c (g.trans (HA4.out o1 o2 o3 o4) (fun _ _ h => h)) g6
  have hn' : (0 : Int) < (n : Int) := by omega
  have HG := hidM gV
  have HGg := hidM gg
  have Hs := hidM hsz
  have HV := hidM hV
  clear gV gg g hsz b7 bR b3 b4' hV hF
  go_enter Tryd.func34, Tryd.ntmps34
  cases f1
  all_goals
    go_wp2_with (go_at_call 34; refine Hid.out ?_)
    unfold Hid
    rw [HV.out]
    refine Calls.mono (HF.out _ HGg.out) ?_
    rintro e w2 ⟨o, c, rfl, hg2, hz⟩
    have HE := hidM hg2
    have HZ := hidM hz
    clear hz g0 g1 g2 g3 g4 g5 g6
    have bR2 : B4 w2 (W.heap.size + 1) false 0 ⟨#[]⟩ none 0 0 := (hg2.block _ (lt_of_heap HbR.out) id).trans HbR.out
    obtain ⟨r0, r1, r2, r3⟩ := B4.cells bR2
    have z0 := frz bR2 0
    have z1 := frz bR2 1
    have z2 := frz bR2 2
    have z3 := frz bR2 3
    have HbR2 := hidM bR2
    clear bR2 hg2
    go_wp2_with fail
    have hb3 := put4_box (.bool v.nul) (.int .i64 v.num) (.string v.text) (.slice o v.list.length c) (HbR2.out)
    have k3 := put4_keeps w2 (W.heap.size + 1) (.bool v.nul) (.int .i64 v.num) (.string v.text) (.slice o v.list.length c)
    have hsz := k3.size
    have hs := Hs.out
    (try simp only [Exit.inBlock, Exit.then])
    refine bodyPost_ret (results_cell_row rfl _ _ _ _ _ _ _ rfl hb3 Tryd.underlying29 rfl (by kernel_rfl)) rfl ⟨o, c, rfl, ?_, ?_⟩
    · exact (HG.out.trans HE.out (fun _ _ h => h)).trans k3 (fun j hj e => by omega)
    · exact (HZ.out.kept fun b h1 h2 => k3.block b h2 (by omega)).wide (by omega) hsz
end Go.Proofs.YtcfdkadhclickaaDoor.Kit
namespace Go.Proofs.YtcfdkadhclickaaDoor.Kit
open Go.RowKit Go.Shelf Go.Deep
set_option linter.unusedVariables false
attribute [local go_sem] run_store_func

theorem info5u : (Tryd.prog.info? 5).map (fun i => (i.zero, i.size, i.bytes)) = some (some (.int .u8 0), 1, 1) := by kernel_rfl
theorem make_bytes (n : Nat) (h : n ≤ 4096) (w : World) : (Instr.makeSlice 78 (.int .i64 (n : Int)) (.int .i64 (n : Int))).run Tryd.prog w = .ok (.slice (some ⟨w.heap.size, 0, none⟩) n n) (w.alloc (.cells (madeCells #[.int .u8 0] n) 5)) := by
  obtain ⟨i, hi, hzz⟩ := Option.map_eq_some_iff.1 info5u
  simp only [Prod.mk.injEq] at hzz
  obtain ⟨hz, hs, hb⟩ := hzz
  have hb' : (i.bytes : Int) * (n : Int) ≤ 281474976710656 := by rw [hb]; omega
  have hr := run_make (P := Tryd.prog) w 78 5 i _ Tryd.underlying78 hi hz .i64 .i64 n n (by omega) (Int.le_refl _) hb' (by omega)
  simp only [Int.toNat_natCast, hs, Nat.mul_one] at hr
  exact hr
theorem conv_zero (n : Nat) (w : World) (G : Nat) (hG : G = w.heap.size) : (convert 78 9 (.slice (some ⟨G, 0, none⟩) n n)).run Tryd.prog (w.alloc (.cells (madeCells #[.int .u8 0] n) 5)) = .ok (.string (zT n)) (w.alloc (.cells (madeCells #[.int .u8 0] n) 5)) := by
  subst hG
  have h := run_convert_bytes_back (P := Tryd.prog) (w.alloc (.cells (madeCells #[.int .u8 0] n) 5)) 78 9 5 ⟨w.heap.size, 0, none⟩ n (List.replicate n 0) Tryd.underlying78 Tryd.underlying5 Tryd.underlying9 ?_
  · simpa [zT] using h
  · intro j hj
    have hj' : j < n := by simpa using hj
    rw [add_at]
    simp only [World.cell?, heap_alloc_new]
    simp [madeCells, hj', Nat.mod_one]
set_option maxRecDepth 100000 in
set_option maxHeartbeats 4000000 in
theorem dz14 (f0 : ByteArray) (f3 f4 f5 : Int) (ao : Option Addr) (n ca : Nat) (w : World) (DD : Nat) (h0 : 1 ≤ f3) (h1 : f3 ≤ 4096) :
    ZeC 34 w (.agg #[.string f0, .bool false, .int .i64 14, .int .i64 f3, .int .i64 f4, .int .i64 f5, .slice ao n ca]) DD (.mk false 0 (zT f3.toNat) []) := by
  obtain ⟨m, rfl⟩ : ∃ m : Nat, f3 = (m : Int) := ⟨f3.toNat, by omega⟩
  rw [show ((m : Int)).toNat = m by omega]
  intro W g
  have hmk := make_bytes m (by omega)
  have hcv := conv_zero m
  clear g h0 h1
  have hA := alloc4 W (.cells #[.string f0, .bool false, .int .i64 14, .int .i64 (m : Int), .int .i64 f4, .int .i64 f5, .slice ao n ca] 26) (.cells #[.bool false, .int .i64 0, .string (zT m), .slice none 0 0] 29) (.cells #[.int .i64 14, .int .i64 (m : Int), .int .i64 f4, .int .i64 f5, .slice ao n ca] 24) (.cells #[.bool false, .int .i64 0, .string (zT m), .slice none 0 0] 29)
  have gV : Gr W (((((W.alloc (.cells #[.string f0, .bool false, .int .i64 14, .int .i64 (m : Int), .int .i64 f4, .int .i64 f5, .slice ao n ca] 26)).alloc (.cells #[.bool false, .int .i64 0, .string (zT m), .slice none 0 0] 29)).alloc (.cells #[.int .i64 14, .int .i64 (m : Int), .int .i64 f4, .int .i64 f5, .slice ao n ca] 24)).alloc (.cells #[.bool false, .int .i64 0, .string (zT m), .slice none 0 0] 29)).alloc (.cells (madeCells #[.int .u8 0] m) 5)) := (((((Keeps.refl W _).alloc _).alloc _).alloc _).alloc _).alloc _
  have hR := (Below.heap_alloc _ (.cells (madeCells #[.int .u8 0] m) 5) _ (lt_of_heap hA.2.1)).trans hA.2.1
  have HA := hidM (And.intro hR gV)
  clear hA gV hR
  go_enter Tryd.func34, Tryd.ntmps34
  go_wp2
  (try simp only [Exit.inBlock, Exit.then])
  exact bodyPost_ret (results_cell_row rfl _ _ _ _ _ _ _ rfl HA.out.1 Tryd.underlying29 rfl (by kernel_rfl)) rfl ⟨none, 0, rfl, HA.out.2, ZRow.nil _ _ _ _⟩
/-- a list of one value, just made -/
theorem ZRow.one {w2 : World} {d lo c : Nat} {o : Option Addr} {v : VT} (h : ZRow w2 d lo w2.heap.size o c v.list) (hok : VOk v) (hlo : lo ≤ w2.heap.size) :
    ZRow (w2.alloc (.cells #[.bool v.nul, .int .i64 v.num, .string v.text, .slice o v.list.length c] 29)) (d + 1) lo (w2.heap.size + 1) (some ⟨w2.heap.size, 0, none⟩) 1 [v] := by
  have hb := heap_alloc_new w2 (.cells #[.bool v.nul, .int .i64 v.num, .string v.text, .slice o v.list.length c] 29)
  refine .inr ⟨w2.heap.size, _, rfl, hlo, by omega, hb, by simp, by simp, by decide, by simp [big], fun _ => lo, fun _ => w2.heap.size, fun i hi => by dsimp only; exact ⟨Nat.le_refl _, hlo, by omega, by omega⟩, fun i j hij hj => by simp at hj; omega, fun i hi => ?_⟩
  have hi0 : i = 0 := by simp at hi; omega
  subst hi0
  refine ⟨o, c, ?_, hok, h.kept fun b h1 h2 => Below.heap_alloc w2 _ b h2⟩
  simp only [List.getElem_cons_zero, Nat.zero_mul]
  have hc : ∀ j u, (#[.bool v.nul, .int .i64 v.num, .string v.text, .slice o v.list.length c] : Array Value)[j]? = some u → (w2.alloc (.cells #[.bool v.nul, .int .i64 v.num, .string v.text, .slice o v.list.length c] 29)).cell? ⟨w2.heap.size, j, none⟩ = some u := fun j u hj => by
    simp only [World.cell?, heap_alloc_new]
    exact hj
  exact ⟨hc 0 _ rfl, hc 1 _ rfl, hc 2 _ rfl, hc 3 _ rfl⟩
set_option maxRecDepth 100000 in
set_option maxHeartbeats 4000000 in
theorem zr18 (f0 : ByteArray) (f3 f4 f5 : Int) (n ca : Nat) (w : World) (DD : Nat) (kb ko : Nat) (k0 : ByteArray) (k1 : Bool) (k2 k3 k4 k5 : Int) (kp : Option Addr) (kn kc : Nat) (v : VT) (hok : VOk v) (hn : 0 < n) (g0 : w.cell? ⟨kb, ko, none⟩ = some (.string k0)) (g1 : w.cell? ⟨kb, ko + 1, none⟩ = some (.bool k1)) (g2 : w.cell? ⟨kb, ko + 2, none⟩ = some (.int .i64 k2)) (g3 : w.cell? ⟨kb, ko + 3, none⟩ = some (.int .i64 k3)) (g4 : w.cell? ⟨kb, ko + 4, none⟩ = some (.int .i64 k4)) (g5 : w.cell? ⟨kb, ko + 5, none⟩ = some (.int .i64 k5)) (g6 : w.cell? ⟨kb, ko + 6, none⟩ = some (.slice kp kn kc)) (hF : ZeC 36 w (.agg #[.string k0, .bool k1, .int .i64 k2, .int .i64 k3, .int .i64 k4, .int .i64 k5, .slice kp kn kc]) DD v) :
    ZeC 36 w (.agg #[.string f0, .bool false, .int .i64 18, .int .i64 f3, .int .i64 f4, .int .i64 f5, .slice (some ⟨kb, ko, none⟩) n ca]) (DD + 1) (.mk false 0 ⟨#[]⟩ [v]) := by
  have HF := hidM hF
  intro W g
  obtain ⟨V, hV⟩ : ∃ V, (((W.alloc (.cells #[.string f0, .bool false, .int .i64 18, .int .i64 f3, .int .i64 f4, .int .i64 f5, .slice (some ⟨kb, ko, none⟩) n ca] 26)).alloc (.cells #[.bool false, .int .i64 0, .string ⟨#[]⟩, .slice none 0 0] 29)).alloc (.cells #[.bool false, .int .i64 0, .string ⟨#[]⟩, .slice none 0 0] 29)).alloc (.cells #[.int .i64 18, .int .i64 f3, .int .i64 f4, .int .i64 f5, .slice (some ⟨kb, ko, none⟩) n ca] 24) = V := ⟨_, rfl⟩
  have hA := alloc4 W (.cells #[.string f0, .bool false, .int .i64 18, .int .i64 f3, .int .i64 f4, .int .i64 f5, .slice (some ⟨kb, ko, none⟩) n ca] 26) (.cells #[.bool false, .int .i64 0, .string ⟨#[]⟩, .slice none 0 0] 29) (.cells #[.bool false, .int .i64 0, .string ⟨#[]⟩, .slice none 0 0] 29) (.cells #[.int .i64 18, .int .i64 f3, .int .i64 f4, .int .i64 f5, .slice (some ⟨kb, ko, none⟩) n ca] 24)
  rw [hV] at hA
  obtain ⟨b7, bR, b3, b4', gV⟩ := hA
  have HbR : Hid (B4 V (W.heap.size + 1) false 0 ⟨#[]⟩ none 0 0) := bR
  have HbY : Hid (B4 V (W.heap.size + 1 + 1) false 0 ⟨#[]⟩ none 0 0) := b3
  have HbT : Hid (B5 V (W.heap.size + 1 + 1 + 1) 18 f3 f4 f5 (some ⟨kb, ko, none⟩) n ca) := b4'
  have gg : Gr w V := g.trans gV (fun _ _ h => h)
  have hsz : V.heap.size = W.heap.size + 4 := by rw [← hV]; simp
  have HA4 : Hid (∀ o1 o2 o3 o4, Gr W ((((W.alloc o1).alloc o2).alloc o3).alloc o4)) := fun o1 o2 o3 o4 => (((gr_alloc W o1).alloc o2).alloc o3).alloc o4
  have g0 := fun o1 o2 o3 o4 => gr_c (g.trans (HA4.out o1 o2 o3 o4) (fun _ _ h => h)) g0
  have g1 := fun o1 o2 o3 o4 => gr_c (g.trans (HA4.out o1 o2 o3 o4) (fun _ _ h => h)) g1
  have g2 := fun o1 o2 o3 o4 => gr_c (g.trans (HA4.out o1 o2 o3 o4) (fun _ _ h => h)) g2
  have g3 := fun o1 o2 o3 o4 => gr_c (g.trans (HA4.out o1 o2 o3 o4) (fun _ _ h => h)) g3
  have g4 := fun o1 o2 o3 o4 => gr_c (g.trans (HA4.out o1 o2 o3 o4) (fun _ _ h => h)) g4
  have g5 := fun o1 o2 o3 o4 => gr_c (g.trans (HA4.out o1 o2 o3 o4) (fun _ _ h => h)) g5
  have g6 := fun o1 o2 o3 o4 => gr_c (g.trans (HA4.out o1 o2 o3 o4) (fun _ _ h => h)) g6
  have hn' : (0 : Int) < (n : Int) := by omega
  have HG := hidM gV
  have HGg := hidM gg
  have Hs := hidM hsz
  have HV := hidM hV
  clear gV gg g hsz b7 bR b3 b4' hV hF
  go_enter Tryd.func36, Tryd.ntmps36
  go_wp2_with (go_at_call 36; refine Hid.out ?_)
  unfold Hid
  rw [HV.out]
  refine Calls.mono (HF.out _ HGg.out) ?_
  rintro e w2 ⟨o, c, rfl, hg2, hz⟩
  have HE := hidM hg2
  have HZ := hidM (And.intro hz hok)
  clear hz hok g0 g1 g2 g3 g4 g5 g6
  obtain ⟨w3, hw3⟩ : ∃ w3, w2.alloc (.cells #[.bool v.nul, .int .i64 v.num, .string v.text, .slice o v.list.length c] 29) = w3 := ⟨_, rfl⟩
  have hs3 : w3.heap.size = w2.heap.size + 1 := by rw [← hw3]; simp
  have hg3 : Gr w2 w3 := by rw [← hw3]; exact gr_alloc w2 _
  have HZ3 : Hid (ZRow w3 (DD + 1) V.heap.size w3.heap.size (some ⟨w2.heap.size, 0, none⟩) 1 [v]) := by rw [← hw3]; rw [show (w2.alloc (.cells #[.bool v.nul, .int .i64 v.num, .string v.text, .slice o v.list.length c] 29)).heap.size = w2.heap.size + 1 by simp]; exact HZ.out.1.one HZ.out.2 hg2.size
  replace hg2 := hg2.trans hg3 (fun _ _ h => h)
  have HE3 := hidM hg2
  obtain ⟨b, hb⟩ : ∃ b, b = w2.heap.size := ⟨_, rfl⟩
  rw [← hb] at HZ3
  have HS3 : Hid (w3.heap.size = b + 1 ∧ V.heap.size ≤ b) := ⟨by rw [hs3, hb], by rw [hb]; exact HE.out.size⟩
  have HW3 := hidM hw3
  clear hs3 hg3 hw3
  have bR2 : B4 w3 (W.heap.size + 1) false 0 ⟨#[]⟩ none 0 0 := (hg2.block _ (lt_of_heap HbR.out) id).trans HbR.out
  have bY2 : B4 w3 (W.heap.size + 1 + 1) false 0 ⟨#[]⟩ none 0 0 := (hg2.block _ (lt_of_heap HbY.out) id).trans HbY.out
  obtain ⟨r0, r1, r2, r3⟩ := B4.cells bR2
  have z0 := frz bR2 0
  have z1 := frz bR2 1
  have z2 := frz bR2 2
  have z3 := frz bR2 3
  obtain ⟨y0, y1, y2, y3⟩ := B4.cells bY2
  have u2 := frz bY2 2
  have u3 := frz bY2 3
  have HbY2 := hidM bY2
  have HbR2 := hidM bR2
  clear bR2 bY2 hg2
  clear y3
  have y3 : w3.cell? ⟨W.heap.size + 1 + 1, 3, none⟩ = some (.slice none 0 0) := (B4.cells HbY2.out).2.2.2
  have hw3 := HW3.out
  go_wp2_with fail
  clear hw3
  rw [← hb]
  clear hb
  obtain ⟨w4, hw4⟩ : ∃ w4, w3.setCell ⟨W.heap.size + 1 + 1, 3, none⟩ (.slice (some ⟨b, 0, none⟩) 1 1) = w4 := ⟨_, rfl⟩
  rw [hw4]
  have ky : Keeps w3 w4 (fun z => z = W.heap.size + 1 + 1) := by rw [← hw4]; exact (Keeps.refl w3 (fun z => z = W.heap.size + 1 + 1)).setCell (p := ⟨W.heap.size + 1 + 1, 3, none⟩) (fun _ => rfl) _
  have hbR3 : B4 w4 (W.heap.size + 1) false 0 ⟨#[]⟩ none 0 0 := (ky.block _ (lt_of_heap HbR2.out) (by omega)).trans HbR2.out
  have hky := ky.size
  have hsb := HS3.out
  have hb3 := put4_box (.bool false) (.int .i64 0) (.string ⟨#[]⟩) (.slice (some ⟨b, 0, none⟩) 1 1) (hbR3)
  have k3 := put4_keeps w4 (W.heap.size + 1) (.bool false) (.int .i64 0) (.string ⟨#[]⟩) (.slice (some ⟨b, 0, none⟩) 1 1)
  have hsz := k3.size
  have hs := Hs.out
  (try simp only [Exit.inBlock, Exit.then])
  refine bodyPost_ret (results_cell_row rfl _ _ _ _ _ _ _ rfl hb3 Tryd.underlying29 rfl (by kernel_rfl)) rfl ⟨some ⟨b, 0, none⟩, 1, rfl, ?_, ?_⟩
  · exact ((HG.out.trans HE3.out (fun _ _ h => h)).trans ky (fun j hj e => by omega)).trans k3 (fun j hj e => by omega)
  · exact ((HZ3.out.kept fun c h1 h2 => ky.block c h2 (by omega)).kept fun c h1 h2 => k3.block c (by omega) (by omega)).wide (by omega) (by omega)
end Go.Proofs.YtcfdkadhclickaaDoor.Kit
