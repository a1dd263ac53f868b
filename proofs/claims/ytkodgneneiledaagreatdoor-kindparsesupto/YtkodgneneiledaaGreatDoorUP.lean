import Derived.Test.YtkodgneneiledaaGreatDoorUO
import Derived.Test.YtkodgneneiledaaGreatDoorSF
import Derived.Shelf.LaysM
import Derived.Shelf.Strconv.Clone
import Derived.Test.YtkodgneneiledaaGreatDoorProg
set_option maxRecDepth 100000
set_option maxHeartbeats 4000000
namespace Go.Proofs.YtkodgneneiledaaGreatDoor.Kit
open Go.RowKit Go.Shelf Go.Deep
set_option linter.unusedVariables false
attribute [local go_sem] run_store_func
theorem blank80 (c : UInt8) (w : World) : Calls Tryz.prog 80 #[.int .u8 (c.toNat : Int)] w fun e w' => e = .returned (.bool (blankB c)) ∧ w' = w := by
  have hb : blankB c = (decide (c.toNat = 32) || decide (c.toNat = 9) || decide (c.toNat = 10)) := by
    unfold blankB
    rw [Bool.eq_iff_iff]
    simp only [Bool.or_eq_true, beq_iff_eq, decide_eq_true_eq]
    constructor
    · rintro ((rfl | rfl) | rfl) <;> decide
    rintro ((h | h) | h)
    · exact .inl (.inl (UInt8.toNat_inj.1 h))
    · exact .inl (.inr (UInt8.toNat_inj.1 h))
    exact .inr (UInt8.toNat_inj.1 h)
  rw [hb]
  clear hb
  generalize c.toNat = n
  go_enter Tryz.func80, Tryz.ntmps80
  go_wp2
  all_goals
    go_ret
    refine ⟨congrArg (fun b => Ending.returned (.bool b)) ?_, rfl⟩
    rw [Bool.eq_iff_iff]
    simp
    try omega
theorem letter_any (c : Nat) (w : World) : Calls Tryz.prog 81 #[.int .u8 (c : Int)] w fun e w' => e = .returned (.bool (wordB c)) ∧ w' = w := by
  go_enter Tryz.func81, Tryz.ntmps81
  go_wp2
  all_goals
    go_ret
    refine ⟨congrArg (fun b => Ending.returned (.bool b)) ?_, rfl⟩
    rw [Bool.eq_iff_iff]
    simp [wordB, digitB]
    try omega
theorem hex_iff : ∀ (m : Fin 16) (c : Fin 256), (hxB m.val = UInt8.ofNat c.val) ↔ hexV (UInt8.ofNat c.val) = some m.val := by decide +kernel
theorem hex_at {m : Nat} (hm : m < 16) (c : UInt8) : (hxB m = c) ↔ hexV c = some m := by
  have := hex_iff ⟨m, hm⟩ ⟨c.toNat, c.toNat_lt⟩
  simpa using this
theorem index_hexI (m : Nat) (hm : m < 16) : ∀ w, (Instr.index 9 (.string ⟨#[48, 49, 50, 51, 52, 53, 54, 55, 56, 57, 97, 98, 99, 100, 101, 102]⟩) (.int .i64 (m : Int))).run Tryz.prog w = .ok (.int .u8 ((hxB m).toNat : Int)) w := by
  have hc : m = 0 ∨ m = 1 ∨ m = 2 ∨ m = 3 ∨ m = 4 ∨ m = 5 ∨ m = 6 ∨ m = 7 ∨ m = 8 ∨ m = 9 ∨ m = 10 ∨ m = 11 ∨ m = 12 ∨ m = 13 ∨ m = 14 ∨ m = 15 := by omega
  rcases hc with rfl | rfl | rfl | rfl | rfl | rfl | rfl | rfl | rfl | rfl | rfl | rfl | rfl | rfl | rfl | rfl <;> (intro w; show Eq _ _; kernel_rfl)
def hexI (c : UInt8) : Int := (hexV c).elim (-1) fun n => (n : Int)
theorem hexOf110 (c : UInt8) (w : World) : Calls Tryz.prog 110 #[.int .u8 (c.toNat : Int)] w fun e w' => e = .returned (.int .i64 (hexI c)) ∧ w' = w := by
  obtain ⟨R, hRes⟩ : ∃ R, R = hexI c := ⟨_, rfl⟩
  rw [← hRes]
  have HRes := hidP hRes
  clear hRes
  go_enter Tryz.func110, Tryz.ntmps110
  go_wp2_with fail
  go_loopw [3] (fun i wr => ∃ k : Nat, k ≤ 16 ∧ i = .int .i64 (k : Int) ∧ Hid (wr = w ∧ ∀ j, j < k → hxB j ≠ c)) (fun i _ => 16 - (intOf i).toNat)
  case atStart => exact ⟨0, by omega, rfl, rfl, fun j h => absurd h (by omega)⟩
  case round =>
    obtain ⟨k, hk, rfl, HK⟩ := hrel
    by_cases hlt : k < 16
    · have hi : (k : Int) < 16 := by omega
      have hx := index_hexI k hlt
      have hadd : IntKind.i64.wrap ((k : Int) + 1) = ((k + 1 : Nat) : Int) := by rw [IntKind.wrap_i64]; omega
      by_cases hc : hxB k = c
      · have he : (((hxB k).toNat : Int) == (c.toNat : Int)) = true := by rw [hc]; simp
        have HE : Hid (R = (k : Int)) := by show R = _; rw [HRes.out]; unfold hexI; rw [(hex_at hlt c).1 hc]; rfl
        clear hc
        go_wp2_with fail
        go_ret
        exact ⟨(congrArg (fun z => Ending.returned (Value.int .i64 z)) HE.out).symm, HK.out.1⟩
      have he : (((hxB k).toNat : Int) == (c.toNat : Int)) = false := beq_eq_false_iff_ne.2 fun h => hc (UInt8.toNat_inj.1 (by omega))
      have HN : Hid (wr = w ∧ ∀ j, j < k + 1 → hxB j ≠ c) := ⟨HK.out.1, fun j hj => by
        by_cases e : j = k
        · rw [e]; exact hc
        exact HK.out.2 j (by omega)⟩
      clear hc
      go_wp2_with fail
      go_roundw
      case rel => exact ⟨k + 1, by omega, by simp, HN.out⟩
      case measure => simp [intOf]; omega
    have hi : ¬ (k : Int) < 16 := by omega
    have HE : Hid (R = -1) := by
      show R = _; rw [HRes.out]; unfold hexI
      cases hv : hexV c with
      | none => rfl
      | some n =>
        have hn := hex_lt hv
        exact absurd ((hex_at hn c).2 hv) (HK.out.2 n (by omega))
    go_wp2_with fail
    go_ret
    exact ⟨(congrArg (fun z => Ending.returned (Value.int .i64 z)) HE.out).symm, HK.out.1⟩
end Go.Proofs.YtkodgneneiledaaGreatDoor.Kit
namespace Go.Proofs
open Go.Shelf
def Tryz.laysM316_ren : Go.Shelf.Ren := ⟨fun | 316 => 112 | n => n, fun | 9 => 9 | 3 => 3 | 4 => 4 | 37 => 111 | 0 => 0 | 127 => 133 | 5 => 5 | n => n, fun | n => n⟩
theorem Tryz.laysM316 : Go.Proofs.LaysM.n316 Tryz.prog Tryz.laysM316_ren := {
  mixed := by kernel_rfl
  f316 := Tryz.func112.trans (congrArg some (by kernel_rfl))
  t0 := Tryz.underlying0
  a0 := Tryz.isAgg0
  z0 := Tryz.sizeOf0
  v0 := Tryz.zeroValue0
  t3 := Tryz.underlying3
  a3 := Tryz.isAgg3
  z3 := Tryz.sizeOf3
  v3 := Tryz.zeroValue3
  t4 := Tryz.underlying4
  a4 := Tryz.isAgg4
  z4 := Tryz.sizeOf4
  v4 := Tryz.zeroValue4
  t9 := Tryz.underlying9
  a9 := Tryz.isAgg9
  z9 := Tryz.sizeOf9
  v9 := Tryz.zeroValue9
  t37 := Tryz.underlying111
  a37 := Tryz.isAgg111
  z37 := Tryz.sizeOf111
  v37 := Tryz.zeroValue111
  t127 := Tryz.underlying133
  a127 := Tryz.isAgg133
  z127 := Tryz.sizeOf133
  v127 := Tryz.zeroValue133
  t5 := Tryz.underlying5
  a5 := Tryz.isAgg5
  z5 := Tryz.sizeOf5
  v5 := Tryz.zeroValue5
  i0 := by kernel_rfl
  i3 := by kernel_rfl
  i4 := by kernel_rfl
  i5 := by kernel_rfl
  i9 := by kernel_rfl
  i37 := by kernel_rfl
  i127 := by kernel_rfl }
open Go.RowKit in
theorem Tryz.stringslite_Clone (s : ByteArray) (w : World) (hlim : s.size ≤ 281474976710656) :
    Calls Tryz.prog 112 #[.string s] w fun e w' => e = .returned (.string s) ∧ Below w.heap.size w w' := Any.stringslite_Clone Tryz.laysM316 s w hlim
end Go.Proofs
namespace Go.Proofs.YtkodgneneiledaaGreatDoor.Kit
open Go.RowKit Go.Shelf Go.Deep
set_option linter.unusedVariables false
attribute [local go_sem] run_store_func
theorem put2_box {V : World} {Y t : Nat} {x0 x1 : Value} (y0 y1 : Value) (h : V.heap[Y]? = some (.cells #[x0, x1] t (0, 0))) : ((V.setCell ⟨Y, 0, none⟩ y0).setCell ⟨Y, 1, none⟩ y1).heap[Y]? = some (.cells #[y0, y1] t (0, 0)) := by
  have h0 : (V.setCell ⟨Y, 0, none⟩ y0).heap[Y]? = some (.cells #[y0, x1] t (0, 0)) := heap_setCell_same _ Y 0 _ _ y0 h
  have h1 : ((V.setCell ⟨Y, 0, none⟩ y0).setCell ⟨Y, 1, none⟩ y1).heap[Y]? = some (.cells #[y0, y1] t (0, 0)) := heap_setCell_same _ Y 1 _ _ y1 h0
  exact h1
theorem put2_keeps (V : World) (Y : Nat) (y0 y1 : Value) : Keeps V ((V.setCell ⟨Y, 0, none⟩ y0).setCell ⟨Y, 1, none⟩ y1) (fun z => z = Y) :=
  ((Keeps.refl V (fun z => z = Y)).setCell (p := ⟨Y, 0, none⟩) (fun _ => rfl) _).setCell (p := ⟨Y, 1, none⟩) (fun _ => rfl) _
theorem put5_box {V : World} {Y t : Nat} {x0 x1 x2 x3 x4 : Value} (y0 y1 y2 y3 y4 : Value) (h : V.heap[Y]? = some (.cells #[x0, x1, x2, x3, x4] t (0, 0))) : (((((V.setCell ⟨Y, 0, none⟩ y0).setCell ⟨Y, 1, none⟩ y1).setCell ⟨Y, 2, none⟩ y2).setCell ⟨Y, 3, none⟩ y3).setCell ⟨Y, 4, none⟩ y4).heap[Y]? = some (.cells #[y0, y1, y2, y3, y4] t (0, 0)) := by
  have h0 : (V.setCell ⟨Y, 0, none⟩ y0).heap[Y]? = some (.cells #[y0, x1, x2, x3, x4] t (0, 0)) := heap_setCell_same _ Y 0 _ _ y0 h
  have h1 : ((V.setCell ⟨Y, 0, none⟩ y0).setCell ⟨Y, 1, none⟩ y1).heap[Y]? = some (.cells #[y0, y1, x2, x3, x4] t (0, 0)) := heap_setCell_same _ Y 1 _ _ y1 h0
  have h2 : (((V.setCell ⟨Y, 0, none⟩ y0).setCell ⟨Y, 1, none⟩ y1).setCell ⟨Y, 2, none⟩ y2).heap[Y]? = some (.cells #[y0, y1, y2, x3, x4] t (0, 0)) := heap_setCell_same _ Y 2 _ _ y2 h1
  have h3 : ((((V.setCell ⟨Y, 0, none⟩ y0).setCell ⟨Y, 1, none⟩ y1).setCell ⟨Y, 2, none⟩ y2).setCell ⟨Y, 3, none⟩ y3).heap[Y]? = some (.cells #[y0, y1, y2, y3, x4] t (0, 0)) := heap_setCell_same _ Y 3 _ _ y3 h2
  have h4 : (((((V.setCell ⟨Y, 0, none⟩ y0).setCell ⟨Y, 1, none⟩ y1).setCell ⟨Y, 2, none⟩ y2).setCell ⟨Y, 3, none⟩ y3).setCell ⟨Y, 4, none⟩ y4).heap[Y]? = some (.cells #[y0, y1, y2, y3, y4] t (0, 0)) := heap_setCell_same _ Y 4 _ _ y4 h3
  exact h4
theorem put5_keeps (V : World) (Y : Nat) (y0 y1 y2 y3 y4 : Value) : Keeps V (((((V.setCell ⟨Y, 0, none⟩ y0).setCell ⟨Y, 1, none⟩ y1).setCell ⟨Y, 2, none⟩ y2).setCell ⟨Y, 3, none⟩ y3).setCell ⟨Y, 4, none⟩ y4) (fun z => z = Y) :=
  (((((Keeps.refl V (fun z => z = Y)).setCell (p := ⟨Y, 0, none⟩) (fun _ => rfl) _).setCell (p := ⟨Y, 1, none⟩) (fun _ => rfl) _).setCell (p := ⟨Y, 2, none⟩) (fun _ => rfl) _).setCell (p := ⟨Y, 3, none⟩) (fun _ => rfl) _).setCell (p := ⟨Y, 4, none⟩) (fun _ => rfl) _
theorem put7_box {V : World} {Y t : Nat} {x0 x1 x2 x3 x4 x5 x6 : Value} (y0 y1 y2 y3 y4 y5 y6 : Value) (h : V.heap[Y]? = some (.cells #[x0, x1, x2, x3, x4, x5, x6] t (0, 0))) : (((((((V.setCell ⟨Y, 0, none⟩ y0).setCell ⟨Y, 1, none⟩ y1).setCell ⟨Y, 2, none⟩ y2).setCell ⟨Y, 3, none⟩ y3).setCell ⟨Y, 4, none⟩ y4).setCell ⟨Y, 5, none⟩ y5).setCell ⟨Y, 6, none⟩ y6).heap[Y]? = some (.cells #[y0, y1, y2, y3, y4, y5, y6] t (0, 0)) := by
  have h0 : (V.setCell ⟨Y, 0, none⟩ y0).heap[Y]? = some (.cells #[y0, x1, x2, x3, x4, x5, x6] t (0, 0)) := heap_setCell_same _ Y 0 _ _ y0 h
  have h1 : ((V.setCell ⟨Y, 0, none⟩ y0).setCell ⟨Y, 1, none⟩ y1).heap[Y]? = some (.cells #[y0, y1, x2, x3, x4, x5, x6] t (0, 0)) := heap_setCell_same _ Y 1 _ _ y1 h0
  have h2 : (((V.setCell ⟨Y, 0, none⟩ y0).setCell ⟨Y, 1, none⟩ y1).setCell ⟨Y, 2, none⟩ y2).heap[Y]? = some (.cells #[y0, y1, y2, x3, x4, x5, x6] t (0, 0)) := heap_setCell_same _ Y 2 _ _ y2 h1
  have h3 : ((((V.setCell ⟨Y, 0, none⟩ y0).setCell ⟨Y, 1, none⟩ y1).setCell ⟨Y, 2, none⟩ y2).setCell ⟨Y, 3, none⟩ y3).heap[Y]? = some (.cells #[y0, y1, y2, y3, x4, x5, x6] t (0, 0)) := heap_setCell_same _ Y 3 _ _ y3 h2
  have h4 : (((((V.setCell ⟨Y, 0, none⟩ y0).setCell ⟨Y, 1, none⟩ y1).setCell ⟨Y, 2, none⟩ y2).setCell ⟨Y, 3, none⟩ y3).setCell ⟨Y, 4, none⟩ y4).heap[Y]? = some (.cells #[y0, y1, y2, y3, y4, x5, x6] t (0, 0)) := heap_setCell_same _ Y 4 _ _ y4 h3
  have h5 : ((((((V.setCell ⟨Y, 0, none⟩ y0).setCell ⟨Y, 1, none⟩ y1).setCell ⟨Y, 2, none⟩ y2).setCell ⟨Y, 3, none⟩ y3).setCell ⟨Y, 4, none⟩ y4).setCell ⟨Y, 5, none⟩ y5).heap[Y]? = some (.cells #[y0, y1, y2, y3, y4, y5, x6] t (0, 0)) := heap_setCell_same _ Y 5 _ _ y5 h4
  have h6 : (((((((V.setCell ⟨Y, 0, none⟩ y0).setCell ⟨Y, 1, none⟩ y1).setCell ⟨Y, 2, none⟩ y2).setCell ⟨Y, 3, none⟩ y3).setCell ⟨Y, 4, none⟩ y4).setCell ⟨Y, 5, none⟩ y5).setCell ⟨Y, 6, none⟩ y6).heap[Y]? = some (.cells #[y0, y1, y2, y3, y4, y5, y6] t (0, 0)) := heap_setCell_same _ Y 6 _ _ y6 h5
  exact h6
theorem put7_keeps (V : World) (Y : Nat) (y0 y1 y2 y3 y4 y5 y6 : Value) : Keeps V (((((((V.setCell ⟨Y, 0, none⟩ y0).setCell ⟨Y, 1, none⟩ y1).setCell ⟨Y, 2, none⟩ y2).setCell ⟨Y, 3, none⟩ y3).setCell ⟨Y, 4, none⟩ y4).setCell ⟨Y, 5, none⟩ y5).setCell ⟨Y, 6, none⟩ y6) (fun z => z = Y) :=
  (((((((Keeps.refl V (fun z => z = Y)).setCell (p := ⟨Y, 0, none⟩) (fun _ => rfl) _).setCell (p := ⟨Y, 1, none⟩) (fun _ => rfl) _).setCell (p := ⟨Y, 2, none⟩) (fun _ => rfl) _).setCell (p := ⟨Y, 3, none⟩) (fun _ => rfl) _).setCell (p := ⟨Y, 4, none⟩) (fun _ => rfl) _).setCell (p := ⟨Y, 5, none⟩) (fun _ => rfl) _).setCell (p := ⟨Y, 6, none⟩) (fun _ => rfl) _
theorem results_cell59 {fn : Func} {t : Tmp} {tmps : Array Value} {g : Nat} {cs : Array Value} {w : World} (h : fn.results = #[.cell t 70]) (ht : tmps.getD t undef = .pointer (some ⟨g, 0, none⟩)) (hg : w.heap[g]? = some (.cells cs 70 (0, 0))) (hi : (Tryz.prog.info? 70).map (·.size) = some cs.size) :
    (results fn tmps).run Tryz.prog w = .ok (.agg cs) w := by
  have hl := run_loadVar_row (P := Tryz.prog) w g 70 70 cs (0, 0) _ hg Tryz.underlying70 rfl hi
  unfold results
  rw [h]
  simp only [Array.mapM_eq_mapM_toList, List.mapM_cons, List.mapM_nil, ht]
  simp [asAddr, hl]
theorem results_cell39 {fn : Func} {t : Tmp} {tmps : Array Value} {g : Nat} {cs : Array Value} {w : World} (h : fn.results = #[.cell t 35]) (ht : tmps.getD t undef = .pointer (some ⟨g, 0, none⟩)) (hg : w.heap[g]? = some (.cells cs 35 (0, 0))) (hi : (Tryz.prog.info? 35).map (·.size) = some cs.size) :
    (results fn tmps).run Tryz.prog w = .ok (.agg cs) w := by
  have hl := run_loadVar_row (P := Tryz.prog) w g 35 35 cs (0, 0) _ hg Tryz.underlying35 rfl hi
  unfold results
  rw [h]
  simp only [Array.mapM_eq_mapM_toList, List.mapM_cons, List.mapM_nil, ht]
  simp [asAddr, hl]
theorem results_cell41 {fn : Func} {t : Tmp} {tmps : Array Value} {g : Nat} {cs : Array Value} {w : World} (h : fn.results = #[.cell t 37]) (ht : tmps.getD t undef = .pointer (some ⟨g, 0, none⟩)) (hg : w.heap[g]? = some (.cells cs 37 (0, 0))) (hi : (Tryz.prog.info? 37).map (·.size) = some cs.size) :
    (results fn tmps).run Tryz.prog w = .ok (.agg cs) w := by
  have hl := run_loadVar_row (P := Tryz.prog) w g 37 37 cs (0, 0) _ hg Tryz.underlying37 rfl hi
  unfold results
  rw [h]
  simp only [Array.mapM_eq_mapM_toList, List.mapM_cons, List.mapM_nil, ht]
  simp [asAddr, hl]
theorem results_cell26 {fn : Func} {t : Tmp} {tmps : Array Value} {g : Nat} {cs : Array Value} {w : World} (h : fn.results = #[.cell t 27]) (ht : tmps.getD t undef = .pointer (some ⟨g, 0, none⟩)) (hg : w.heap[g]? = some (.cells cs 27 (0, 0))) (hi : (Tryz.prog.info? 27).map (·.size) = some cs.size) :
    (results fn tmps).run Tryz.prog w = .ok (.agg cs) w := by
  have hl := run_loadVar_row (P := Tryz.prog) w g 27 27 cs (0, 0) _ hg Tryz.underlying27 rfl hi
  unfold results
  rw [h]
  simp only [Array.mapM_eq_mapM_toList, List.mapM_cons, List.mapM_nil, ht]
  simp [asAddr, hl]
theorem set_other {U : World} {c i q : Nat} (v : Value) (h : q ≠ c) : (U.setCell ⟨c, i, none⟩ v).heap[q]? = U.heap[q]? := heap_setCell_other U ⟨c, i, none⟩ q v h
theorem note30 (p : Nat) (s : ByteArray) : PrC p s 53 #[.pointer (some ⟨p, 0, none⟩)] (noteP s.data.toList) (fun x v => v = .agg #[.string x.1, .string x.2]) := by
  intro no W a g hR
  obtain ⟨R, hRes⟩ : ∃ R, R = noteP s.data.toList (a, g) := ⟨_, rfl⟩
  rw [← hRes]
  have HRes := hidP hRes
  have HQ := hidP (quoted50 p s no)
  obtain ⟨V0, hV0⟩ : ∃ V0, W.alloc (.cells #[.string ⟨#[]⟩, .string ⟨#[]⟩] 70) = V0 := ⟨_, rfl⟩
  have g0' : Gr W V0 := by rw [← hV0]; exact gr_alloc W _
  have HBx0 : Hid (V0.heap[W.heap.size]? = some (.cells #[.string ⟨#[]⟩, .string ⟨#[]⟩] 70 (0, 0))) := by show _ = _; rw [← hV0]; exact heap_alloc_new W _
  have HR0 := hidP (hR.gr g0')
  have HG0 : Hid (KpR W V0 p) := g0'.mono fun _ _ h => h.elim
  have HNe : Hid (p < W.heap.size) := hR.lt
  obtain ⟨b, hb⟩ : ∃ b, b = W.heap.size := ⟨_, rfl⟩
  have HV := hidP hV0
  clear hRes hR g0' hV0
  go_enter Tryz.func53, Tryz.ntmps53
  go_wp2_with (go_at_call 79; refine Hid.out ?_)
  unfold Hid
  rw [HV.out, ← hb]
  rw [← hb] at HBx0
  have HB := hidP hb
  clear HV hb
  have hq := HQ.out V0 a g HR0.out
  cases hr : quotedP s.data.toList (a, g) with
  | error o =>
    rw [hr] at hq
    refine Calls.mono hq ?_
    rintro e' U ⟨hk, rfl⟩
    have HGe := hidP (HG0.out.trans hk fun _ _ h => h)
    have HE : Hid (R = .error o) := by show R = _; rw [HRes.out]; exact Pr.bind_err hr
    clear hk hq hr
    go_wp2_with fail
    exact ⟨rfl, PrQ.err HGe.out HE.out⟩
  | ok q =>
    obtain ⟨x1, a1, g1⟩ := q
    rw [hr] at hq
    obtain rfl : g1 = g := (fw_quoted _ _ _ _ hr).2
    have Hr1 := hidP hr
    refine Calls.mono hq ?_
    rintro e' U1 ⟨hk, _, v, rfl, rfl, hR⟩
    have HR1 := hidP hR
    have HG1 := hidP (HG0.out.trans hk fun _ _ h => h)
    have HBx1 := hidP ((hk.block b (lt_of_heap HBx0.out) (by have := HNe.out; have := HB.out; omega)).trans HBx0.out)
    clear hk hq hr hR HBx0 HG0 HR0
    go_wp2_with (go_at_call 79; refine Hid.out ?_)
    unfold Hid
    have hq := HQ.out U1 a1 g1 HR1.out
    cases hr : quotedP s.data.toList (a1, g1) with
    | error o =>
      rw [hr] at hq
      refine Calls.mono hq ?_
      rintro e' U ⟨hk, rfl⟩
      have HGe := hidP (HG1.out.trans hk fun _ _ h => h)
      have HE : Hid (R = .error o) := by show R = _; rw [HRes.out]; exact (Pr.bind_ok Hr1.out).trans (Pr.bind_err hr)
      clear hk hq hr
      go_wp2_with fail
      exact ⟨rfl, PrQ.err HGe.out HE.out⟩
    | ok q =>
      obtain ⟨x2, a2, g2⟩ := q
      rw [hr] at hq
      obtain rfl : g2 = g1 := (fw_quoted _ _ _ _ hr).2
      have HE : Hid (R = .ok ((x1, x2), (a2, g2))) := by show R = _; rw [HRes.out]; exact (Pr.bind_ok Hr1.out).trans (Pr.bind_ok hr)
      refine Calls.mono hq ?_
      rintro e' U2 ⟨hk, _, v, rfl, rfl, hR⟩
      have HR2 := hidP hR
      have HG2 := hidP (HG1.out.trans hk fun _ _ h => h)
      have HBx2 := hidP ((hk.block b (lt_of_heap HBx1.out) (by have := HNe.out; have := HB.out; omega)).trans HBx1.out)
      clear hk hq hr hR HBx1 HG1 HR1
      have z0 := frz HBx2.out 0
      have z1 := frz HBx2.out 1
      have t0 : U2.cell? ⟨b, 0, none⟩ = some (.string ⟨#[]⟩) := by simp [World.cell?, HBx2.out]
      have t1 : U2.cell? ⟨b, 1, none⟩ = some (.string ⟨#[]⟩) := by simp [World.cell?, HBx2.out]
      go_wp2_with fail
      have hb3 := put2_box (.string x1) (.string x2) HBx2.out
      have k3 := put2_keeps U2 b (.string x1) (.string x2)
      have kW : KpR W _ p := HG2.out.trans k3 fun j hj h => by have := HB.out; omega
      (try simp only [Exit.inBlock, Exit.then])
      exact bodyPost_ret (results_cell59 rfl rfl hb3 (by kernel_rfl)) rfl (PrQ.ok kW HE.out rfl ⟨(k3.block p (lt_of_heap HR2.out.box) (by have := HNe.out; have := HB.out; omega)).trans HR2.out.box, HR2.out.len, HR2.out.pos⟩)
theorem clone76 (x : ByteArray) (hx : x.size ≤ 281474976710656) (w : World) : Calls Tryz.prog 87 #[.string x] w fun e w' => e = .returned (.string x) ∧ Gr w w' := by
  have HQ := hidP (Tryz.stringslite_Clone x w hx)
  go_enter Tryz.func87, Tryz.ntmps87
  go_wp2_with (go_at_call 112; refine Calls.mono HQ.out ?_; rintro e u ⟨rfl, hb⟩; have HB := hidP hb; clear hb)
  go_ret
  exact ⟨rfl, (Keeps.ofBelow HB.out).mono fun k hk h => by omega⟩
end Go.Proofs.YtkodgneneiledaaGreatDoor.Kit
