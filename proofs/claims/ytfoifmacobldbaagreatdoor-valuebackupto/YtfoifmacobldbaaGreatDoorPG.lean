import Derived.Test.YtfoifmacobldbaaGreatDoorNB
import Derived.Test.YtfoifmacobldbaaGreatDoorQA
import Derived.Test.YtfoifmacobldbaaGreatDoorFG
import Derived.Laws.IdiomStrings
import Derived.Test.YtfoifmacobldbaaGreatDoorFE
import Derived.Deep.RegionHeld3
import Derived.Test.YtfoifmacobldbaaGreatDoorNC
set_option maxRecDepth 100000
set_option maxHeartbeats 4000000
namespace Go.Proofs.YtfoifmacobldbaaGreatDoor.Kit
open Go.RowKit Go.Deep
set_option linter.unusedVariables false
set_option linter.unusedSimpArgs false
/-! ### Print and Parse: questions of a byte -/
theorem u8_eq' (c d : UInt8) : (c == d) = decide (c.toNat = d.toNat) := by
  rw [Bool.eq_iff_iff]
  simp only [beq_iff_eq, decide_eq_true_eq]
  exact UInt8.toNat_inj.symm
theorem u8_ne' (c d : UInt8) : (c != d) = !decide (c.toNat = d.toNat) := by
  rw [← u8_eq']; rfl
theorem plainB_nat (c : UInt8) : QE.plainB c = (decide (32 ≤ c.toNat) && !decide (c.toNat = 34) && !decide (c.toNat = 92) && !decide (c.toNat = 127)) := by
  unfold QE.plainB
  simp only [u8_eq', u8_ne', UInt8.le_iff_toNat_le, show (48 : UInt8).toNat = 48 from rfl, show (57 : UInt8).toNat = 57 from rfl, show (97 : UInt8).toNat = 97 from rfl, show (122 : UInt8).toNat = 122 from rfl, show (65 : UInt8).toNat = 65 from rfl, show (90 : UInt8).toNat = 90 from rfl, show (45 : UInt8).toNat = 45 from rfl, show (95 : UInt8).toNat = 95 from rfl, show (34 : UInt8).toNat = 34 from rfl, show (92 : UInt8).toNat = 92 from rfl, show (127 : UInt8).toNat = 127 from rfl]
theorem rowB_nat (c : UInt8) : QB.rowB c = ((decide (48 ≤ c.toNat) && decide (c.toNat ≤ 57)) || (decide (97 ≤ c.toNat) && decide (c.toNat ≤ 122)) || decide (c.toNat = 45)) := by
  unfold QB.rowB
  simp only [u8_eq', u8_ne', UInt8.le_iff_toNat_le, show (48 : UInt8).toNat = 48 from rfl, show (57 : UInt8).toNat = 57 from rfl, show (97 : UInt8).toNat = 97 from rfl, show (122 : UInt8).toNat = 122 from rfl, show (65 : UInt8).toNat = 65 from rfl, show (90 : UInt8).toNat = 90 from rfl, show (45 : UInt8).toNat = 45 from rfl, show (95 : UInt8).toNat = 95 from rfl, show (34 : UInt8).toNat = 34 from rfl, show (92 : UInt8).toNat = 92 from rfl, show (127 : UInt8).toNat = 127 from rfl]
theorem aloneB_nat (c : UInt8) : QB.aloneB c = ((decide (65 ≤ c.toNat) && decide (c.toNat ≤ 90)) || decide (c.toNat = 95)) := by
  unfold QB.aloneB
  simp only [u8_eq', u8_ne', UInt8.le_iff_toNat_le, show (48 : UInt8).toNat = 48 from rfl, show (57 : UInt8).toNat = 57 from rfl, show (97 : UInt8).toNat = 97 from rfl, show (122 : UInt8).toNat = 122 from rfl, show (65 : UInt8).toNat = 65 from rfl, show (90 : UInt8).toNat = 90 from rfl, show (45 : UInt8).toNat = 45 from rfl, show (95 : UInt8).toNat = 95 from rfl, show (34 : UInt8).toNat = 34 from rfl, show (92 : UInt8).toNat = 92 from rfl, show (127 : UInt8).toNat = 127 from rfl]
theorem plain81 (c : UInt8) (w : World) : Calls Tryz.prog 81 #[.int .u8 (c.toNat : Int)] w fun e w' => e = .returned (.bool (QE.plainB c)) ∧ w' = w := by
  have hb := plainB_nat c
  rw [hb]
  clear hb
  generalize c.toNat = n
  go_enter Tryz.func81, Tryz.ntmps81
  go_wp2
  all_goals
    go_ret
    refine ⟨congrArg (fun b => Ending.returned (.bool b)) ?_, rfl⟩
    rw [Bool.eq_iff_iff]
    simp
    try omega
theorem row96 (c : UInt8) (w : World) : Calls Tryz.prog 96 #[.int .u8 (c.toNat : Int)] w fun e w' => e = .returned (.bool (QB.rowB c)) ∧ w' = w := by
  have hb := rowB_nat c
  rw [hb]
  clear hb
  generalize c.toNat = n
  go_enter Tryz.func96, Tryz.ntmps96
  go_wp2
  all_goals
    go_ret
    refine ⟨congrArg (fun b => Ending.returned (.bool b)) ?_, rfl⟩
    rw [Bool.eq_iff_iff]
    simp
    try omega
theorem alone97 (c : UInt8) (w : World) : Calls Tryz.prog 97 #[.int .u8 (c.toNat : Int)] w fun e w' => e = .returned (.bool (QB.aloneB c)) ∧ w' = w := by
  have hb := aloneB_nat c
  rw [hb]
  clear hb
  generalize c.toNat = n
  go_enter Tryz.func97, Tryz.ntmps97
  go_wp2
  all_goals
    go_ret
    refine ⟨congrArg (fun b => Ending.returned (.bool b)) ?_, rfl⟩
    rw [Bool.eq_iff_iff]
    simp
    try omega
theorem name102a (n : Nat) (b1 b2 : Bool) (hr : ∀ w, Calls Tryz.prog 96 #[.int .u8 (n : Int)] w fun e w' => e = .returned (.bool b1) ∧ w' = w) (ha : ∀ w, Calls Tryz.prog 97 #[.int .u8 (n : Int)] w fun e w' => e = .returned (.bool b2) ∧ w' = w) (w : World) : Calls Tryz.prog 102 #[.int .u8 (n : Int)] w fun e w' => e = .returned (.bool ((b1 && !decide (n = 45)) || b2)) ∧ w' = w := by
  cases b1
  · go_enter Tryz.func102, Tryz.ntmps102
    go_wp2_with (first | (go_at_call 96; refine (hr _).mono ?_; rintro e w' ⟨rfl, rfl⟩) | (go_at_call 97; refine (ha _).mono ?_; rintro e w' ⟨rfl, rfl⟩))
    go_ret
    exact ⟨by simp, rfl⟩
  · by_cases h : (n : Int) = 45
    · obtain rfl : n = 45 := by omega
      clear h
      rw [show ((45 : Nat) : Int) = 45 from rfl] at hr ha ⊢
      go_enter Tryz.func102, Tryz.ntmps102
      go_wp2_with (first | (go_at_call 96; refine (hr _).mono ?_; rintro e w' ⟨rfl, rfl⟩) | (go_at_call 97; refine (ha _).mono ?_; rintro e w' ⟨rfl, rfl⟩))
      go_ret
      exact ⟨by simp, rfl⟩
    · go_enter Tryz.func102, Tryz.ntmps102
      go_wp2_with (first | (go_at_call 96; refine (hr _).mono ?_; rintro e w' ⟨rfl, rfl⟩) | (go_at_call 97; refine (ha _).mono ?_; rintro e w' ⟨rfl, rfl⟩))
      go_ret
      exact ⟨by have : ¬ n = 45 := by omega
                simp [this], rfl⟩
theorem name102 (c : UInt8) (w : World) : Calls Tryz.prog 102 #[.int .u8 (c.toNat : Int)] w fun e w' => e = .returned (.bool (QB.nameBt c)) ∧ w' = w := by
  have h := name102a c.toNat (QB.rowB c) (QB.aloneB c) (row96 c) (alone97 c) w
  unfold QB.nameBt
  rw [u8_ne', show (45 : UInt8).toNat = 45 from rfl]
  exact h
end Go.Proofs.YtfoifmacobldbaaGreatDoor.Kit
namespace Go.Proofs.YtfoifmacobldbaaGreatDoor.Kit
open Go.RowKit Go.Shelf Go.Deep
set_option linter.unusedVariables false
set_option linter.unusedSimpArgs false
attribute [local go_sem] run_store_func
/-! ### how a byte that isn't plain is written -/
theorem index_hexP (m : Nat) (hm : m < 16) : ∀ w, (Instr.index 9 (.string ⟨#[48, 49, 50, 51, 52, 53, 54, 55, 56, 57, 97, 98, 99, 100, 101, 102]⟩) (.int .u8 (m : Int))).run Tryz.prog w = .ok (.int .u8 ((QC.hexD m).toNat : Int)) w := by
  have hc : m = 0 ∨ m = 1 ∨ m = 2 ∨ m = 3 ∨ m = 4 ∨ m = 5 ∨ m = 6 ∨ m = 7 ∨ m = 8 ∨ m = 9 ∨ m = 10 ∨ m = 11 ∨ m = 12 ∨ m = 13 ∨ m = 14 ∨ m = 15 := by omega
  rcases hc with rfl | rfl | rfl | rfl | rfl | rfl | rfl | rfl | rfl | rfl | rfl | rfl | rfl | rfl | rfl | rfl <;> (intro w; show Eq _ _; kernel_rfl)
theorem bits_and15 (c : Nat) (h : c < 256) : bits .and .u8 (c : Int) 15 = (c : Int) % 16 := by
  have key : ∀ x : Fin 256, bits .and .u8 (x.val : Int) 15 = (x.val : Int) % 16 := by decide +kernel
  exact key ⟨c, h⟩
def escN (n : Nat) : List UInt8 := if n = 9 then [92, 116] else if n = 10 then [92, 110] else if n = 13 then [92, 114] else if n = 34 then [92, 34] else if n = 92 then [92, 92] else [92, 120, QC.hexD (n / 16), QC.hexD (n % 16)]
theorem escN_eq (c : UInt8) : escN c.toNat = QE.escaped c := by
  unfold escN QE.escaped
  have k : ∀ d : UInt8, (c.toNat = d.toNat) = (c = d) := fun d => propext UInt8.toNat_inj
  rw [show (9 : Nat) = (9 : UInt8).toNat from rfl, show (10 : Nat) = (10 : UInt8).toNat from rfl, show (13 : Nat) = (13 : UInt8).toNat from rfl, show (34 : Nat) = (34 : UInt8).toNat from rfl, show (92 : Nat) = (92 : UInt8).toNat from rfl]
  simp only [k]
theorem escN82 (n : Nat) (hn : n < 256) (w : World) : Calls Tryz.prog 82 #[.int .u8 (n : Int)] w fun e w' => e = .returned (.string ⟨(escN n).toArray⟩) ∧ Gr w w' := by
  go_enter Tryz.func82, Tryz.ntmps82
  by_cases h1 : (n : Int) = 9
  · go_wp2
    go_ret
    exact ⟨by rw [show n = 9 by omega]; rfl, Keeps.refl _ _⟩
  by_cases h2 : (n : Int) = 10
  · go_wp2
    go_ret
    exact ⟨by rw [show n = 10 by omega]; rfl, Keeps.refl _ _⟩
  by_cases h3 : (n : Int) = 13
  · go_wp2
    go_ret
    exact ⟨by rw [show n = 13 by omega]; rfl, Keeps.refl _ _⟩
  by_cases h4 : (n : Int) = 34
  · go_wp2
    go_ret
    exact ⟨by rw [show n = 34 by omega]; rfl, Keeps.refl _ _⟩
  by_cases h5 : (n : Int) = 92
  · go_wp2
    go_ret
    exact ⟨by rw [show n = 92 by omega]; rfl, Keeps.refl _ _⟩
  have he : escN n = [92, 120, QC.hexD (n / 16), QC.hexD (n % 16)] := by
    unfold escN
    rw [if_neg (by omega), if_neg (by omega), if_neg (by omega), if_neg (by omega), if_neg (by omega)]
  rw [he]
  clear he
  go_wp2
  have hbt := bits_and15 n hn
  have hx1 : ∀ w, (Instr.index 9 (.string ⟨#[48, 49, 50, 51, 52, 53, 54, 55, 56, 57, 97, 98, 99, 100, 101, 102]⟩) (.int .u8 ((n : Int) / 16))).run Tryz.prog w = .ok (.int .u8 ((QC.hexD (n / 16)).toNat : Int)) w := by
    have h := index_hexP (n / 16) (by omega)
    rwa [Int.natCast_ediv] at h
  have hx2 : ∀ w, (Instr.index 9 (.string ⟨#[48, 49, 50, 51, 52, 53, 54, 55, 56, 57, 97, 98, 99, 100, 101, 102]⟩) (.int .u8 ((n : Int) % 16))).run Tryz.prog w = .ok (.int .u8 ((QC.hexD (n % 16)).toNat : Int)) w := by
    have h := index_hexP (n % 16) (by omega)
    rwa [Int.natCast_emod] at h
  refine wp_region_held_drew (S := fun w' => Hid (Gr w w')) (by kernel_rfl) (gr_drew) (fun hHeld => ?_)
  refine wpAnyH_take (i := 0) (oi := { dst := some 14, op := Op.move (Operand.tmp 0), type := 5, pos := "print.go:79", after := #[], guard := none }) (v := ?v0u1) rfl (by kernel_rfl) (by kernel_rfl) (by kernel_rfl) (fun _ _ _ h => h) (Or.inl ⟨by rfl, ?y0u1⟩) (by assumption) ?r0u1
  case y0u1 => (intro w hSw; go_simp; (try with_reducible rfl))
  (try simp only [Act.put]); (try simp only [List.setIfInBounds_toArray]); (try simp only [List.set_cons_succ]); (try simp only [List.set_cons_zero])
  refine wpAnyH_take (i := 1) (oi := { dst := some 15, op := Op.binOp BinOp.shr 5 (Operand.tmp 14) (Operand.const (Value.int IntKind.u64 4)) 98, type := 5, pos := "print.go:79", after := #[{ on := 0, ground := Ground.data }], guard := none }) (v := ?v1u2) rfl (by kernel_rfl) (by kernel_rfl) (by kernel_rfl) (fun _ _ _ h => h) (Or.inl ⟨by rfl, ?y1u2⟩) (by assumption) ?r1u2
  case y1u2 => (intro w hSw; go_simp; (try with_reducible rfl))
  (try simp only [Act.put]); (try simp only [List.setIfInBounds_toArray]); (try simp only [List.set_cons_succ]); (try simp only [List.set_cons_zero])
  refine wpAnyH_take (i := 2) (oi := { dst := some 16, op := Op.index 9 (Operand.const (Value.string { data := #[48, 49, 50, 51, 52, 53, 54, 55, 56, 57, 97, 98, 99, 100, 101, 102] })) (Operand.tmp 15), type := 5, pos := "print.go:79", after := #[{ on := 1, ground := Ground.data }], guard := none }) (v := ?v2u3) rfl (by kernel_rfl) (by kernel_rfl) (by kernel_rfl) (fun _ _ _ h => h) (Or.inl ⟨by rfl, ?y2u3⟩) (by assumption) ?r2u3
  case y2u3 => (intro w hSw; go_simp; (try with_reducible rfl))
  (try simp only [Act.put]); (try simp only [List.setIfInBounds_toArray]); (try simp only [List.set_cons_succ]); (try simp only [List.set_cons_zero])
  refine wpAnyH_take (i := 3) (oi := { dst := some 17, op := Op.move (Operand.tmp 0), type := 5, pos := "print.go:79", after := #[], guard := none }) (v := ?v3u4) rfl (by kernel_rfl) (by kernel_rfl) (by kernel_rfl) (fun _ _ _ h => h) (Or.inl ⟨by rfl, ?y3u4⟩) (by assumption) ?r3u4
  case y3u4 => (intro w hSw; go_simp; (try with_reducible rfl))
  (try simp only [Act.put]); (try simp only [List.setIfInBounds_toArray]); (try simp only [List.set_cons_succ]); (try simp only [List.set_cons_zero])
  refine wpAnyH_take (i := 4) (oi := { dst := some 18, op := Op.binOp BinOp.and 5 (Operand.tmp 17) (Operand.const (Value.int IntKind.u8 15)) 5, type := 5, pos := "print.go:79", after := #[{ on := 3, ground := Ground.data }], guard := none }) (v := ?v4u5) rfl (by kernel_rfl) (by kernel_rfl) (by kernel_rfl) (fun _ _ _ h => h) (Or.inl ⟨by rfl, ?y4u5⟩) (by assumption) ?r4u5
  case y4u5 => (intro w hSw; go_simp; (try with_reducible rfl))
  (try simp only [Act.put]); (try simp only [List.setIfInBounds_toArray]); (try simp only [List.set_cons_succ]); (try simp only [List.set_cons_zero])
  refine wpAnyH_take (i := 5) (oi := { dst := some 19, op := Op.index 9 (Operand.const (Value.string { data := #[48, 49, 50, 51, 52, 53, 54, 55, 56, 57, 97, 98, 99, 100, 101, 102] })) (Operand.tmp 18), type := 5, pos := "print.go:79", after := #[{ on := 4, ground := Ground.data }], guard := none }) (v := ?v5u6) rfl (by kernel_rfl) (by kernel_rfl) (by kernel_rfl) (fun _ _ _ h => h) (Or.inl ⟨by rfl, ?y5u6⟩) (by assumption) ?r5u6
  case y5u6 => (intro w hSw; go_simp; (try with_reducible rfl))
  (try simp only [Act.put]); (try simp only [List.setIfInBounds_toArray]); (try simp only [List.set_cons_succ]); (try simp only [List.set_cons_zero])
  refine wpAnyH_ready (rs := [6]) (by kernel_rfl) (by simp) ?_
  refine AllReadyH.cons (o := { dst := some 20, op := Op.buildSlice 52 4 #[(0, Operand.const (Value.int IntKind.u8 92)), (1, Operand.const (Value.int IntKind.u8 120)), (2, Operand.tmp 16), (3, Operand.tmp 19)], type := 52, pos := "print.go:79", after := #[{ on := 2, ground := Ground.data }, { on := 5, ground := Ground.data }], guard := none }) rfl (fun Kc hK => ?_) AllReadyH.nil
  go_simp
  refine hK.out _ _ (gr_drew.trans (gr_alloc _ _) (fun _ _ h => h)) (fun hHeld => ?_)
  clear hK Kc
  (try simp only [Act.put]); (try simp only [List.setIfInBounds_toArray]); (try simp only [List.set_cons_succ]); (try simp only [List.set_cons_zero])
  refine wpAnyH_ready (rs := [7]) (by kernel_rfl) (by simp) ?_
  refine AllReadyH.cons (o := { dst := some 21, op := Op.convert 52 9 (Operand.tmp 20), type := 9, pos := "print.go:79", after := #[{ on := 6, ground := Ground.data }], guard := none }) rfl (fun Kc hK => ?_) AllReadyH.nil
  have hcv : (convert 52 9 (.slice (some ⟨w.heap.size, 0, none⟩) 4 4)).run Tryz.prog ((w.alloc (.cells #[.int .u8 92, .int .u8 120, .int .u8 ((QC.hexD (n / 16)).toNat : Int), .int .u8 ((QC.hexD (n % 16)).toNat : Int)] 5)).drew) = .ok (.string ⟨#[92, 120, QC.hexD (n / 16), QC.hexD (n % 16)]⟩) _ := run_convert_bytes_back _ 52 9 5 ⟨w.heap.size, 0, none⟩ 4 [92, 120, QC.hexD (n / 16), QC.hexD (n % 16)] Tryz.underlying52 Tryz.underlying5 Tryz.underlying9 (fun j hj => by match j, hj with | 0, _ => go_simp | 1, _ => go_simp | 2, _ => go_simp | 3, _ => go_simp)
  go_simp
  refine hK.out _ _ ((gr_alloc _ _).trans gr_drew (fun _ _ h => h)) (fun hHeld => ?_)
  clear hK Kc
  (try simp only [Act.put]); (try simp only [List.setIfInBounds_toArray]); (try simp only [List.set_cons_succ]); (try simp only [List.set_cons_zero])
  refine wpAnyH_take (i := 8) (oi := { dst := some 2, op := Op.assign (Operand.tmp 21), type := 9, pos := "print.go:79", after := #[{ on := 7, ground := Ground.data }, { on := 0, ground := Ground.phase }, { on := 1, ground := Ground.phase }, { on := 2, ground := Ground.phase }, { on := 3, ground := Ground.phase }, { on := 4, ground := Ground.phase }, { on := 5, ground := Ground.phase }, { on := 6, ground := Ground.phase }, { on := 7, ground := Ground.phase }], guard := none }) (v := ?v8u7) rfl (by kernel_rfl) (by kernel_rfl) (by kernel_rfl) (fun _ _ _ h => h) (Or.inl ⟨by rfl, ?y8u7⟩) (by assumption) ?r8u7
  case y8u7 => (intro w hSw; go_simp; (try with_reducible rfl))
  (try simp only [Act.put]); (try simp only [List.setIfInBounds_toArray]); (try simp only [List.set_cons_succ]); (try simp only [List.set_cons_zero])
  refine wpAnyH_done (by kernel_rfl) ?_ _
  clear hHeld
  go_wp2
  go_ret
  exact ⟨rfl, by first | exact (gr_alloc _ _).trans gr_drew (fun _ _ h => h) | exact gr_drew.trans (gr_alloc _ _) (fun _ _ h => h)⟩
theorem escaped82 (c : UInt8) (w : World) : Calls Tryz.prog 82 #[.int .u8 (c.toNat : Int)] w fun e w' => e = .returned (.string ⟨(QE.escaped c).toArray⟩) ∧ Gr w w' := by
  rw [← escN_eq]
  exact escN82 c.toNat (UInt8.toNat_lt _) w
end Go.Proofs.YtfoifmacobldbaaGreatDoor.Kit
namespace Go.Proofs.YtfoifmacobldbaaGreatDoor.Kit
open Go.RowKit Go.Shelf Go.Deep
set_option linter.unusedVariables false
set_option linter.unusedSimpArgs false
/-! ### Parse's reader in memory: a text, how far it is read, its error; at block p -/
structure Rd (W : World) (p : Nat) (s : ByteArray) (a : Nat) (er : Int) : Prop where
  box : W.heap[p]? = some (.cells #[.string s, .int .i64 (a : Int), .int .i64 er] 63 (0, 0))
  len : s.size ≤ 65536
  pos : a ≤ s.size
theorem Rd.cells {W : World} {p : Nat} {s : ByteArray} {a : Nat} {er : Int} (h : Rd W p s a er) : W.cell? ⟨p, 0, none⟩ = some (.string s) ∧ W.cell? ⟨p, 1, none⟩ = some (.int .i64 (a : Int)) ∧ W.cell? ⟨p, 2, none⟩ = some (.int .i64 er) := by simp [World.cell?, h.box]
theorem Rd.frz {W : World} {p : Nat} {s : ByteArray} {a : Nat} {er : Int} (h : Rd W p s a er) : W.frozen? ⟨p, 1, none⟩ = false ∧ W.frozen? ⟨p, 2, none⟩ = false := by simp [World.frozen?, h.box]
theorem Rd.lt {W : World} {p : Nat} {s : ByteArray} {a : Nat} {er : Int} (h : Rd W p s a er) : p < W.heap.size := (Array.getElem?_eq_some_iff.1 h.box).1
theorem Rd.gr {W W' : World} {p : Nat} {s : ByteArray} {a : Nat} {er : Int} (h : Rd W p s a er) (k : Gr W W') : Rd W' p s a er := ⟨(k.block p h.lt id).trans h.box, h.len, h.pos⟩
theorem Rd.set {W : World} {p : Nat} {s : ByteArray} {a a' : Nat} {er : Int} (h : Rd W p s a er) (ha : a' ≤ s.size) : Rd (W.setCell ⟨p, 1, none⟩ (.int .i64 (a' : Int))) p s a' er := by
  refine ⟨?_, h.len, ha⟩
  rw [heap_setCell_same W p 1 _ _ _ h.box]
  simp
theorem Rd.bad {W : World} {p : Nat} {s : ByteArray} {a : Nat} {er : Int} (h : Rd W p s a er) : Rd (W.setCell ⟨p, 2, none⟩ (.int .i64 8)) p s a 8 := by
  refine ⟨?_, h.len, h.pos⟩
  rw [heap_setCell_same W p 2 _ _ _ h.box]
  simp
theorem wrong30 (p : Nat) (s : ByteArray) (W : World) (a : Nat) (er : Int) (hR : Rd W p s a er) : Calls Tryz.prog 30 #[.pointer (some ⟨p, 0, none⟩)] W fun e W' => e = .returned (.bool false) ∧ Keeps W W' (fun z => z = p) ∧ Rd W' p s a 8 := by
  have HR := hidM hR
  have d2 := hR.cells.2.2
  have z2 := hR.frz.2
  clear hR
  go_enter Tryz.func30, Tryz.ntmps30
  go_wp2
  go_ret
  exact ⟨rfl, (Keeps.refl W (fun z => z = p)).setCell (p := ⟨p, 2, none⟩) (fun _ => rfl) _, HR.out.bad⟩
/-! ### FormatUint, base 16, of fourteen digits -/
theorem hexT_cons : ∀ (n m : Nat), QC.hexT (n + 1) m = QC.hexD (m / 16 ^ n % 16) :: QC.hexT n m
  | 0, m => by simp [QC.hexT]
  | n + 1, m => by
    have ih := hexT_cons n (m / 16)
    show QC.hexT (n + 1) (m / 16) ++ [QC.hexD (m % 16)] = _
    rw [ih, Nat.div_div_eq_div_mul, Nat.pow_succ, Nat.mul_comm (16 ^ n) 16]
    rfl
def hcs (j m : Nat) : List Value := List.replicate (65 - j) (.int .u8 0) ++ (QC.hexT j m).map fun b => .int .u8 (b.toNat : Int)
theorem hexT_length : ∀ (n m : Nat), (QC.hexT n m).length = n := QD.hexT_len
theorem hcs_len (j m : Nat) (h : j ≤ 65) : (hcs j m).length = 65 := by
  simp [hcs, hexT_length]; omega
theorem hcs_set (j m : Nat) (h : j < 65) : (hcs j m).set (64 - j) (.int .u8 ((QC.hexD (m / 16 ^ j % 16)).toNat : Int)) = hcs (j + 1) m := by
  unfold hcs
  rw [hexT_cons, show 65 - j = (64 - j) + 1 by omega, List.replicate_succ', List.append_assoc, List.set_append_right _ _ (by simp)]
  simp
theorem index_hexZ (m : Nat) (hm : m < 16) : ∀ w, (Instr.index 9 (.string ⟨#[48, 49, 50, 51, 52, 53, 54, 55, 56, 57, 97, 98, 99, 100, 101, 102, 103, 104, 105, 106, 107, 108, 109, 110, 111, 112, 113, 114, 115, 116, 117, 118, 119, 120, 121, 122]⟩) (.int .u64 (m : Int))).run Tryz.prog w = .ok (.int .u8 ((QC.hexD m).toNat : Int)) w := by
  have hc : m = 0 ∨ m = 1 ∨ m = 2 ∨ m = 3 ∨ m = 4 ∨ m = 5 ∨ m = 6 ∨ m = 7 ∨ m = 8 ∨ m = 9 ∨ m = 10 ∨ m = 11 ∨ m = 12 ∨ m = 13 ∨ m = 14 ∨ m = 15 := by omega
  rcases hc with rfl | rfl | rfl | rfl | rfl | rfl | rfl | rfl | rfl | rfl | rfl | rfl | rfl | rfl | rfl | rfl <;> (intro w; show Eq _ _; kernel_rfl)
theorem hexZ_get (m : Nat) (hm : m < 16) (h : m < (⟨#[48, 49, 50, 51, 52, 53, 54, 55, 56, 57, 97, 98, 99, 100, 101, 102, 103, 104, 105, 106, 107, 108, 109, 110, 111, 112, 113, 114, 115, 116, 117, 118, 119, 120, 121, 122]⟩ : ByteArray).size) : (⟨#[48, 49, 50, 51, 52, 53, 54, 55, 56, 57, 97, 98, 99, 100, 101, 102, 103, 104, 105, 106, 107, 108, 109, 110, 111, 112, 113, 114, 115, 116, 117, 118, 119, 120, 121, 122]⟩ : ByteArray)[m]'h = QC.hexD m := by
  have hc : m = 0 ∨ m = 1 ∨ m = 2 ∨ m = 3 ∨ m = 4 ∨ m = 5 ∨ m = 6 ∨ m = 7 ∨ m = 8 ∨ m = 9 ∨ m = 10 ∨ m = 11 ∨ m = 12 ∨ m = 13 ∨ m = 14 ∨ m = 15 := by omega
  rcases hc with rfl | rfl | rfl | rfl | rfl | rfl | rfl | rfl | rfl | rfl | rfl | rfl | rfl | rfl | rfl | rfl <;> rfl
theorem and15 (u : Nat) (h : u < 18446744073709551616) : bits .and .u64 (u : Int) 15 = ((u % 16 : Nat) : Int) := by
  have e := bits_and_u64_nat u 15 h (by decide)
  rw [show u &&& 15 = u % 16 from Nat.and_two_pow_sub_one_eq_mod u 4] at e
  exact e
/-- the array of the digits -/
def HA (w W : World) (j m : Nat) : Prop := Gr w W ∧ W.heap[w.heap.size]? = some (.cells (hcs j m).toArray 188 (0, 0))
theorem HA.cell {w W : World} {j m : Nat} (h : HA w W j m) (i : Nat) (hi : i < 65) (hj : j ≤ 65) : W.cell? ⟨w.heap.size, i, none⟩ = some ((hcs j m)[i]'(by rw [hcs_len j m hj]; exact hi)) ∧ W.frozen? ⟨w.heap.size, i, none⟩ = false := by
  have hl := hcs_len j m hj
  refine ⟨?_, ?_⟩
  · simp only [World.cell?, h.2]
    simp [List.getElem?_eq_getElem (show i < (hcs j m).length by omega)]
  · simp [World.frozen?, h.2]
theorem HA.set {w W : World} {j m : Nat} (h : HA w W j m) (hj : j < 65) : HA w (W.setCell ⟨w.heap.size, 64 - j, none⟩ (.int .u8 ((QC.hexD (m / 16 ^ j % 16)).toNat : Int))) (j + 1) m := by
  refine ⟨h.1.trans ((Keeps.refl W (fun z => z = w.heap.size)).setCell (p := ⟨w.heap.size, 64 - j, none⟩) (fun _ => rfl) _) (fun k hk e => by omega), ?_⟩
  rw [heap_setCell_same W w.heap.size (64 - j) _ _ _ h.2]
  rw [← hcs_set j m hj]
  simp
theorem HA.str {w W : World} {m : Nat} (h : HA w W 14 m) : (convert 52 9 (.slice (some ⟨w.heap.size, 51, none⟩) 14 14)).run Tryz.prog W = .ok (.string ⟨(QC.hexT 14 m).toArray⟩) W := by
  have hl := hexT_length 14 m
  have hr := run_convert_bytes_back (P := Tryz.prog) W 52 9 5 ⟨w.heap.size, 51, none⟩ 14 (QC.hexT 14 m) Tryz.underlying52 Tryz.underlying5 Tryz.underlying9 (fun j hj => by
    have e : (⟨w.heap.size, 51, none⟩ : Addr).add j = ⟨w.heap.size, 51 + j, none⟩ := by simp [Addr.add]
    rw [e, (h.cell (51 + j) (by omega) (by omega)).1]
    unfold hcs
    simp only [show 65 - 14 = 51 from rfl]
    rw [List.getElem_append_right (by simp)]
    simp)
  rw [hl] at hr
  exact hr
theorem pow2_162 (w : World) : Calls Tryz.prog 162 #[.int .i64 16] w fun e w' => e = .returned (.bool true) ∧ w = w' := by
  go_enter Tryz.func162, Tryz.ntmps162
  go_wp2
  go_ret
  exact ⟨rfl, rfl⟩
theorem tz163 (w : World) (hT : Tbs w) : Calls Tryz.prog 163 #[.int .u64 16] w fun e w' => e = .returned (.int .i64 4) ∧ w = w' := by
  have h := tz138 16 (by decide) (by decide) w hT
  rw [show QD.tzN 64 16 = 4 by decide] at h
  go_enter Tryz.func163, Tryz.ntmps163
  go_wp2_with (go_at_call 138; refine h.mono ?_; rintro e w' ⟨rfl, rfl⟩)
  go_ret
  exact ⟨rfl, rfl⟩
theorem HA.start (w : World) (m : Nat) : HA w (w.alloc (.cells (Array.replicate 65 (.int .u8 0)) 188)) 0 m := by
  refine ⟨gr_alloc w _, ?_⟩
  rw [World.alloc_heap_new]
  rfl
theorem div16_big {u j : Nat} (h : 4503599627370496 ≤ u) (hj : j ≤ 12) : 16 ≤ u / 16 ^ j := by
  rw [Nat.le_div_iff_mul_le (Nat.pow_pos (by omega)), Nat.mul_comm, ← Nat.pow_succ]
  have : 16 ^ (j + 1) ≤ 16 ^ 13 := Nat.pow_le_pow_right (by omega) (by omega)
  have e : (16 : Nat) ^ 13 = 4503599627370496 := by decide
  omega
theorem div16_last {u : Nat} (h : u < 9007199254740992) : u / 16 ^ 13 < 16 := by
  have e : (16 : Nat) ^ 13 = 4503599627370496 := by decide
  rw [e]; omega
theorem bits137 (u : Nat) (h1 : 4503599627370496 ≤ u) (h2 : u < 9007199254740992) (w : World) (hT : Tbs w) :
    Calls Tryz.prog 137 #[.slice none 0 0, .int .u64 u, .int .i64 16, .bool false, .bool false] w fun e w' => ∃ v, e = .returned (.tuple #[v, .string ⟨(QC.hexT 14 u).toArray⟩]) ∧ Gr w w' := by
  have HP := hidM pow2_162
  have HZ : Hid (∀ W, Gr w W → Calls Tryz.prog 163 #[.int .u64 16] W fun e w' => e = .returned (.int .i64 4) ∧ W = w') := fun W g => tz163 W (hT.gr g)
  clear hT
  go_enter Tryz.func137, Tryz.ntmps137
  go_wp2_with (first | (go_at_call 162; refine (HP.out _).mono ?_; rintro e w' ⟨rfl, rfl⟩) | (go_at_call 163; refine (HZ.out _ (gr_alloc w _)).mono ?_; rintro e w' ⟨rfl, rfl⟩))
  have H0 : Hid (HA w (w.alloc (.cells (Array.replicate 65 (.int .u8 0)) 188)) 0 u) := HA.start w u
  have HB : Hid (∀ j, j ≤ 12 → 16 ≤ u / 16 ^ j) := fun j hj => div16_big h1 hj
  have HL := hidM (@div16_last u h2)
  go_loopw [1, 13] (fun v i wr => ∃ j k : Nat, j + k = 64 ∧ j ≤ 13 ∧ v = .int .u64 ((u / 16 ^ j : Nat) : Int) ∧ i = .int .i64 ((k : Int) + 1) ∧ Hid (HA w wr j u)) (fun v _ _ => (intOf v).toNat)
  case atStart => exact ⟨0, 64, rfl, by omega, by simp, rfl, H0⟩
  case round =>
    obtain ⟨j, k, hjk, hj, rfl, rfl, HH⟩ := hrel
    clear H0
    have hc := (HH.out.cell k (by omega) (by omega)).1
    have hf := (HH.out.cell k (by omega) (by omega)).2
    obtain ⟨x, hx⟩ : ∃ x, (hcs j u)[k]'(by rw [hcs_len j u (by omega)]; omega) = x := ⟨_, rfl⟩
    rw [hx] at hc
    have hal : Tryz.prog.arrayLen 188 = 65 := by kernel_rfl
    have hkk : k = 64 - j := by omega
    have HS := hidM (HH.out.set (by omega))
    rw [← hkk] at HS
    have HD : Hid (u / 16 ^ (j + 1) = u / 16 ^ j / 16) := by
      show _ = _
      rw [Nat.pow_succ, Nat.div_div_eq_div_mul]
    have hql : u / 16 ^ j < 18446744073709551616 := Nat.lt_of_le_of_lt (Nat.div_le_self _ _) (by omega)
    have hj12 : j ≤ 12 → 16 ≤ u / 16 ^ j := fun h => HB.out j h
    have hj13 : j = 13 → u / 16 ^ j < 16 := fun h => by rw [h]; exact HL.out
    generalize hq : u / 16 ^ j = q at *
    have hbt := and15 q hql
    have hix := index_hexZ (q % 16) (by omega)
    clear hx hkk HB
    by_cases h16 : 16 ≤ q
    · have h16I : (16 : Int) ≤ (q : Int) := by omega
      have hlt : j < 13 := by
        rcases Nat.lt_or_ge j 13 with h | h
        · exact h
        · have := hj13 (by omega); omega
      clear hj12 hj13
      go_wp2_with fail
      go_roundw
      case rel =>
        refine ⟨j + 1, k - 1, by omega, by omega, by rw [HD.out]; simp, by congr 1; omega, ?_⟩
        rw [hexZ_get _ (by omega)]
        exact HS
      case measure => simp [intOf]; omega
    · have h16I : ¬ (16 : Int) ≤ (q : Int) := by omega
      have he : j = 13 := by
        rcases Nat.lt_or_ge j 13 with h | h
        · have := hj12 (by omega); omega
        · omega
      subst he
      obtain rfl : k = 51 := by omega
      rw [Nat.mod_eq_of_lt (by omega)] at HS
      have hq36 : q < (⟨#[48, 49, 50, 51, 52, 53, 54, 55, 56, 57, 97, 98, 99, 100, 101, 102, 103, 104, 105, 106, 107, 108, 109, 110, 111, 112, 113, 114, 115, 116, 117, 118, 119, 120, 121, 122]⟩ : ByteArray).size := by show q < 36; omega
      rw [← hexZ_get q (by omega) hq36] at HS
      have hcv := HA.str HS.out
      clear hj12 hj13 hbt hix HH
      have hsl : ∀ W, (Instr.sliceAt 188 (.pointer (some ⟨w.heap.size, 0, none⟩)) (some (.int .i64 51)) none none).run Tryz.prog W = .ok (.slice (some ⟨w.heap.size, 51, none⟩) 14 14) W := fun W => by
        rw [run_sliceAt_array_l W 188 ⟨w.heap.size, 0, none⟩ (by kernel_rfl) .i64 51 (by omega) (by rw [hal]; omega), hal]
        go_simp
      go_wp2_with fail
      go_ret2
      exact ⟨_, rfl, HS.out.1⟩
theorem hex115 (u : Nat) (h1 : 4503599627370496 ≤ u) (h2 : u < 9007199254740992) (w : World) (hT : Tbs w) :
    Calls Tryz.prog 115 #[.int .u64 u, .int .i64 16] w fun e w' => e = .returned (.string ⟨(QC.hexT 14 u).toArray⟩) ∧ Gr w w' := by
  have HC := hidM (bits137 u h1 h2 w hT)
  generalize (⟨(QC.hexT 14 u).toArray⟩ : ByteArray) = s at HC ⊢
  go_enter Tryz.func115, Tryz.ntmps115
  go_wp2_with (go_at_call 137; refine HC.out.mono ?_; rintro e w' ⟨v, rfl, hg⟩)
  go_ret
  exact ⟨rfl, hg⟩
theorem hex78 (u : Nat) (h1 : 4503599627370496 ≤ u) (h2 : u < 9007199254740992) (w : World) (hT : Tbs w) :
    Calls Tryz.prog 78 #[.int .u64 u, .int .i64 16] w fun e w' => e = .returned (.string ⟨(QC.hexT 14 u).toArray⟩) ∧ Gr w w' := by
  have HC := hidM (hex115 u h1 h2 w hT)
  generalize (⟨(QC.hexT 14 u).toArray⟩ : ByteArray) = s at HC ⊢
  go_enter Tryz.func78, Tryz.ntmps78
  go_wp2_with (go_at_call 115; refine HC.out.mono ?_; rintro e w' ⟨rfl, hg⟩)
  go_ret
  exact ⟨rfl, hg⟩
/-! ### HasPrefix -/
theorem prefix_take (s t : ByteArray) (c : t.size ≤ s.size) : ((s.extract 0 t.size).toList == t.toList) = t.data.toList.isPrefixOf s.data.toList := by
  have e : (s.extract 0 t.size).toList = s.data.toList.take t.size := by
    rw [ByteArray.toList_eq]
    simp [List.extract]
  rw [e, ByteArray.toList_eq, Bool.eq_iff_iff, beq_iff_eq, List.isPrefixOf_iff_prefix, List.prefix_iff_eq_take]
  have : t.data.toList.length = t.size := by simp
  rw [this]
  exact eq_comm
theorem prefix143 (s t : ByteArray) (hs : s.size ≤ 1000000) (ht : t.size ≤ 1000000) (w : World) : Calls Tryz.prog 143 #[.string s, .string t] w fun e w' => e = .returned (.bool (t.data.toList.isPrefixOf s.data.toList)) ∧ w' = w := by
  by_cases c : t.size ≤ s.size
  · have cI : (t.size : Int) ≤ (s.size : Int) := by omega
    have HP := hidM (prefix_take s t c)
    go_enter Tryz.func143, Tryz.ntmps143
    go_wp2_with fail
    go_ret
    exact ⟨by rw [← HP.out]; rfl, rfl⟩
  · have cI : ¬ (t.size : Int) ≤ (s.size : Int) := by omega
    have HF : Hid (t.data.toList.isPrefixOf s.data.toList = false) := by
      show _ = _
      rw [Bool.eq_false_iff]
      intro h
      have := (List.isPrefixOf_iff_prefix.1 h).length_le
      simp at this
      omega
    rw [HF.out]
    go_enter Tryz.func143, Tryz.ntmps143
    go_wp2_with fail
    go_ret
    exact ⟨rfl, rfl⟩
theorem prefix121 (s t : ByteArray) (hs : s.size ≤ 1000000) (ht : t.size ≤ 1000000) (w : World) : Calls Tryz.prog 121 #[.string s, .string t] w fun e w' => e = .returned (.bool (t.data.toList.isPrefixOf s.data.toList)) ∧ w' = w := by
  have HP := hidM (prefix143 s t hs ht)
  generalize t.data.toList.isPrefixOf s.data.toList = b at HP ⊢
  go_enter Tryz.func121, Tryz.ntmps121
  go_wp2_with (go_at_call 143; refine (HP.out _).mono ?_; rintro e w' ⟨rfl, rfl⟩)
  go_ret
  exact ⟨rfl, rfl⟩
end Go.Proofs.YtfoifmacobldbaaGreatDoor.Kit
