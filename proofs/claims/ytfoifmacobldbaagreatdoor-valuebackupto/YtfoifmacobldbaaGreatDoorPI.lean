import Derived.Test.YtfoifmacobldbaaGreatDoorNF
set_option maxRecDepth 100000
set_option maxHeartbeats 4000000
namespace Go.Proofs.YtfoifmacobldbaaGreatDoor.Kit
open Go.RowKit Go.Shelf Go.Deep
set_option linter.unusedVariables false
set_option linter.unusedSimpArgs false
/-! ### row 95 -/
theorem row95_96 (p : Nat) (s : ByteArray) (W : World) (a : Nat) (er : Int) (hR : Rd W p s a er) : Calls Tryz.prog 95 #[.pointer (some ⟨p, 0, none⟩), .func (.func 96) #[] #[]] W fun e W' => e = .returned (.string (s.extract a (a + ((s.data.toList.drop a).takeWhile QB.rowB).length))) ∧ Gr W W' := by
  have HR := hidM hR
  have d0 := hR.cells.1
  have d1 := hR.cells.2.1
  have hal : a ≤ 65536 := Nat.le_trans hR.pos hR.len
  have hsl := hR.len
  have hap := hR.pos
  have HS0 : Hid (Gr W W.drew) ∧ W.drew.cell? ⟨p, 0, none⟩ = some (.string s) ∧ W.drew.cell? ⟨p, 1, none⟩ = some (.int .i64 (a : Int)) := ⟨gr_drew, d0, d1⟩
  clear hR
  go_enter Tryz.func95, Tryz.ntmps95
  go_wp2_with fail
  go_loopw [5] (fun v wr => ∃ k : Nat, a ≤ k ∧ k ≤ s.size ∧ wr = W ∧ v = .int .i64 (k : Int) ∧ Hid (∃ l, s.data.toList.drop a = l ++ s.data.toList.drop k ∧ a + l.length = k ∧ ∀ c ∈ l, QB.rowB c = true)) (fun v _ => s.size - (intOf v).toNat)
  case atStart => exact ⟨a, by omega, by omega, rfl, rfl, [], rfl, rfl, by simp⟩
  case round =>
    obtain ⟨k, hka, hk, rfl, rfl, HL⟩ := hrel
    have hkaI : (a : Int) ≤ (k : Int) := by omega
    have hkI : (k : Int) ≤ (s.size : Int) := by omega
    by_cases hlt : k < s.size
    · have hp := row96 (s[k]'hlt)
      cases hq : QB.rowB (s[k]'hlt)
      · rw [hq] at hp
        have HT : Hid (a + ((s.data.toList.drop a).takeWhile QB.rowB).length = k) := by
          obtain ⟨l, e1, e2, e3⟩ := HL.out
          show _ = _
          rw [e1, List.takeWhile_append_of_pos e3, List.drop_eq_getElem_cons (by simpa using hlt)]
          rw [List.takeWhile_cons_of_neg (by simp; exact hq)]
          simpa using e2
        clear hq HL
        go_wp2_with (go_at_call 96; refine (hp _).mono ?_; rintro e w' ⟨rfl, hw⟩; replace hw := hw.symm; subst hw)
        refine wp_region_held_drew (S := fun w' => Hid (Gr wr w') ∧ w'.cell? ⟨p, 0, none⟩ = some (.string s) ∧ w'.cell? ⟨p, 1, none⟩ = some (.int .i64 (a : Int))) (by kernel_rfl) (HS0) (fun hHeld => ?_)
        refine wpAnyH_take (i := 0) (oi := { dst := some 29, op := Op.move (Operand.tmp 0), type := 61, pos := "parse.go:81", after := #[], guard := none }) (v := ?v0u1) rfl (by kernel_rfl) (by kernel_rfl) (by kernel_rfl) (fun _ _ _ h => h) (Or.inl ⟨by rfl, ?y0u1⟩) (by assumption) ?r0u1
        case y0u1 => (intro w hSw; obtain ⟨hg, d0, d1⟩ := hSw; go_simp; (try with_reducible rfl))
        (try simp only [Act.put]); (try simp only [List.setIfInBounds_toArray]); (try simp only [List.set_cons_succ]); (try simp only [List.set_cons_zero])
        refine wpAnyH_take (i := 1) (oi := { dst := some 30, op := Op.nilCheck (Operand.tmp 29), type := 0, pos := "parse.go:81", after := #[{ on := 0, ground := Ground.data }], guard := none }) (v := ?v1u2) rfl (by kernel_rfl) (by kernel_rfl) (by kernel_rfl) (fun _ _ _ h => h) (Or.inl ⟨by rfl, ?y1u2⟩) (by assumption) ?r1u2
        case y1u2 => (intro w hSw; obtain ⟨hg, d0, d1⟩ := hSw; go_simp; (try with_reducible rfl))
        (try simp only [Act.put]); (try simp only [List.setIfInBounds_toArray]); (try simp only [List.set_cons_succ]); (try simp only [List.set_cons_zero])
        refine wpAnyH_take (i := 2) (oi := { dst := some 31, op := Op.fieldAddr 63 (Operand.tmp 30) 0, type := 0, pos := "parse.go:81", after := #[{ on := 1, ground := Ground.data }], guard := none }) (v := ?v2u3) rfl (by kernel_rfl) (by kernel_rfl) (by kernel_rfl) (fun _ _ _ h => h) (Or.inl ⟨by rfl, ?y2u3⟩) (by assumption) ?r2u3
        case y2u3 => (intro w hSw; obtain ⟨hg, d0, d1⟩ := hSw; go_simp; (try with_reducible rfl))
        (try simp only [Act.put]); (try simp only [List.setIfInBounds_toArray]); (try simp only [List.set_cons_succ]); (try simp only [List.set_cons_zero])
        refine wpAnyH_take (i := 3) (oi := { dst := some 32, op := Op.load 9 (Operand.tmp 31), type := 9, pos := "parse.go:81", after := #[{ on := 2, ground := Ground.data }], guard := none }) (v := ?v3u4) rfl (by kernel_rfl) (by kernel_rfl) (by kernel_rfl) (fun _ _ _ h => h) (Or.inl ⟨by rfl, ?y3u4⟩) (by assumption) ?r3u4
        case y3u4 => (intro w hSw; obtain ⟨hg, d0, d1⟩ := hSw; go_simp; (try with_reducible rfl))
        (try simp only [Act.put]); (try simp only [List.setIfInBounds_toArray]); (try simp only [List.set_cons_succ]); (try simp only [List.set_cons_zero])
        refine wpAnyH_take (i := 4) (oi := { dst := some 33, op := Op.move (Operand.tmp 0), type := 61, pos := "parse.go:81", after := #[], guard := none }) (v := ?v4u5) rfl (by kernel_rfl) (by kernel_rfl) (by kernel_rfl) (fun _ _ _ h => h) (Or.inl ⟨by rfl, ?y4u5⟩) (by assumption) ?r4u5
        case y4u5 => (intro w hSw; obtain ⟨hg, d0, d1⟩ := hSw; go_simp; (try with_reducible rfl))
        (try simp only [Act.put]); (try simp only [List.setIfInBounds_toArray]); (try simp only [List.set_cons_succ]); (try simp only [List.set_cons_zero])
        refine wpAnyH_take (i := 5) (oi := { dst := some 34, op := Op.nilCheck (Operand.tmp 33), type := 0, pos := "parse.go:81", after := #[{ on := 4, ground := Ground.data }], guard := none }) (v := ?v5u6) rfl (by kernel_rfl) (by kernel_rfl) (by kernel_rfl) (fun _ _ _ h => h) (Or.inl ⟨by rfl, ?y5u6⟩) (by assumption) ?r5u6
        case y5u6 => (intro w hSw; obtain ⟨hg, d0, d1⟩ := hSw; go_simp; (try with_reducible rfl))
        (try simp only [Act.put]); (try simp only [List.setIfInBounds_toArray]); (try simp only [List.set_cons_succ]); (try simp only [List.set_cons_zero])
        refine wpAnyH_take (i := 6) (oi := { dst := some 35, op := Op.fieldAddr 63 (Operand.tmp 34) 1, type := 0, pos := "parse.go:81", after := #[{ on := 5, ground := Ground.data }], guard := none }) (v := ?v6u7) rfl (by kernel_rfl) (by kernel_rfl) (by kernel_rfl) (fun _ _ _ h => h) (Or.inl ⟨by rfl, ?y6u7⟩) (by assumption) ?r6u7
        case y6u7 => (intro w hSw; obtain ⟨hg, d0, d1⟩ := hSw; go_simp; (try with_reducible rfl))
        (try simp only [Act.put]); (try simp only [List.setIfInBounds_toArray]); (try simp only [List.set_cons_succ]); (try simp only [List.set_cons_zero])
        refine wpAnyH_take (i := 7) (oi := { dst := some 36, op := Op.load 3 (Operand.tmp 35), type := 3, pos := "parse.go:81", after := #[{ on := 6, ground := Ground.data }], guard := none }) (v := ?v7u8) rfl (by kernel_rfl) (by kernel_rfl) (by kernel_rfl) (fun _ _ _ h => h) (Or.inl ⟨by rfl, ?y7u8⟩) (by assumption) ?r7u8
        case y7u8 => (intro w hSw; obtain ⟨hg, d0, d1⟩ := hSw; go_simp; (try with_reducible rfl))
        (try simp only [Act.put]); (try simp only [List.setIfInBounds_toArray]); (try simp only [List.set_cons_succ]); (try simp only [List.set_cons_zero])
        refine wpAnyH_take (i := 8) (oi := { dst := some 37, op := Op.move (Operand.tmp 5), type := 3, pos := "parse.go:81", after := #[], guard := none }) (v := ?v8u9) rfl (by kernel_rfl) (by kernel_rfl) (by kernel_rfl) (fun _ _ _ h => h) (Or.inl ⟨by rfl, ?y8u9⟩) (by assumption) ?r8u9
        case y8u9 => (intro w hSw; obtain ⟨hg, d0, d1⟩ := hSw; go_simp; (try with_reducible rfl))
        (try simp only [Act.put]); (try simp only [List.setIfInBounds_toArray]); (try simp only [List.set_cons_succ]); (try simp only [List.set_cons_zero])
        refine wpAnyH_take (i := 9) (oi := { dst := some 38, op := Op.slice 9 (Operand.tmp 32) (some (Operand.tmp 36)) (some (Operand.tmp 37)) none, type := 9, pos := "parse.go:81", after := #[{ on := 3, ground := Ground.data }, { on := 7, ground := Ground.data }, { on := 8, ground := Ground.data }], guard := none }) (v := ?v9u10) rfl (by kernel_rfl) (by kernel_rfl) (by kernel_rfl) (fun _ _ _ h => h) (Or.inl ⟨by rfl, ?y9u10⟩) (by assumption) ?r9u10
        case y9u10 => (intro w hSw; obtain ⟨hg, d0, d1⟩ := hSw; go_simp; (try with_reducible rfl))
        (try simp only [Act.put]); (try simp only [List.setIfInBounds_toArray]); (try simp only [List.set_cons_succ]); (try simp only [List.set_cons_zero])
        refine wpAnyH_take (i := 10) (oi := { dst := some 4, op := Op.assign (Operand.tmp 38), type := 9, pos := "parse.go:81", after := #[{ on := 9, ground := Ground.data }, { on := 0, ground := Ground.phase }, { on := 1, ground := Ground.phase }, { on := 2, ground := Ground.phase }, { on := 3, ground := Ground.phase }, { on := 4, ground := Ground.phase }, { on := 5, ground := Ground.phase }, { on := 6, ground := Ground.phase }, { on := 7, ground := Ground.phase }, { on := 8, ground := Ground.phase }, { on := 9, ground := Ground.phase }], guard := none }) (v := ?v10u11) rfl (by kernel_rfl) (by kernel_rfl) (by kernel_rfl) (fun _ _ _ h => h) (Or.inl ⟨by rfl, ?y10u11⟩) (by assumption) ?r10u11
        case y10u11 => (intro w hSw; obtain ⟨hg, d0, d1⟩ := hSw; go_simp; (try with_reducible rfl))
        (try simp only [Act.put]); (try simp only [List.setIfInBounds_toArray]); (try simp only [List.set_cons_succ]); (try simp only [List.set_cons_zero])
        refine wpAnyH_done (by kernel_rfl) ?_ _
        clear hHeld
        go_wp2_with fail
        go_ret
        exact ⟨by rw [HT.out]; rfl, gr_drew⟩
      · rw [hq] at hp
        have HN : Hid (∃ l, s.data.toList.drop a = l ++ s.data.toList.drop (k + 1) ∧ a + l.length = k + 1 ∧ ∀ c ∈ l, QB.rowB c = true) := by
          obtain ⟨l, e1, e2, e3⟩ := HL.out
          refine ⟨l ++ [s[k]'hlt], ?_, by simp; omega, ?_⟩
          · rw [e1, List.drop_eq_getElem_cons (by simpa using hlt)]
            simp
            rfl
          · intro c hc
            rcases List.mem_append.1 hc with h | h
            · exact e3 c h
            · rw [List.mem_singleton.1 h]; exact hq
        clear hq HL
        go_wp2_with (go_at_call 96; refine (hp _).mono ?_; rintro e w' ⟨rfl, hw⟩; replace hw := hw.symm; subst hw)
        go_roundw
        case rel => exact ⟨k + 1, by omega, by omega, by first | rfl | trivial, by simp, HN⟩
        case measure => simp [intOf]; omega
    · have HT : Hid (a + ((s.data.toList.drop a).takeWhile QB.rowB).length = k) := by
        obtain ⟨l, e1, e2, e3⟩ := HL.out
        show _ = _
        rw [e1, List.takeWhile_append_of_pos e3, List.drop_of_length_le (by simp; omega)]
        simpa using e2
      clear HL
      obtain rfl : k = s.size := by omega
      clear hkI hk hlt
      go_wp2_with fail
      refine wp_region_held_drew (S := fun w' => Hid (Gr wr w') ∧ w'.cell? ⟨p, 0, none⟩ = some (.string s) ∧ w'.cell? ⟨p, 1, none⟩ = some (.int .i64 (a : Int))) (by kernel_rfl) (HS0) (fun hHeld => ?_)
      refine wpAnyH_take (i := 0) (oi := { dst := some 29, op := Op.move (Operand.tmp 0), type := 61, pos := "parse.go:81", after := #[], guard := none }) (v := ?v0x1) rfl (by kernel_rfl) (by kernel_rfl) (by kernel_rfl) (fun _ _ _ h => h) (Or.inl ⟨by rfl, ?y0x1⟩) (by assumption) ?r0x1
      case y0x1 => (intro w hSw; obtain ⟨hg, d0, d1⟩ := hSw; go_simp; (try with_reducible rfl))
      (try simp only [Act.put]); (try simp only [List.setIfInBounds_toArray]); (try simp only [List.set_cons_succ]); (try simp only [List.set_cons_zero])
      refine wpAnyH_take (i := 1) (oi := { dst := some 30, op := Op.nilCheck (Operand.tmp 29), type := 0, pos := "parse.go:81", after := #[{ on := 0, ground := Ground.data }], guard := none }) (v := ?v1x2) rfl (by kernel_rfl) (by kernel_rfl) (by kernel_rfl) (fun _ _ _ h => h) (Or.inl ⟨by rfl, ?y1x2⟩) (by assumption) ?r1x2
      case y1x2 => (intro w hSw; obtain ⟨hg, d0, d1⟩ := hSw; go_simp; (try with_reducible rfl))
      (try simp only [Act.put]); (try simp only [List.setIfInBounds_toArray]); (try simp only [List.set_cons_succ]); (try simp only [List.set_cons_zero])
      refine wpAnyH_take (i := 2) (oi := { dst := some 31, op := Op.fieldAddr 63 (Operand.tmp 30) 0, type := 0, pos := "parse.go:81", after := #[{ on := 1, ground := Ground.data }], guard := none }) (v := ?v2x3) rfl (by kernel_rfl) (by kernel_rfl) (by kernel_rfl) (fun _ _ _ h => h) (Or.inl ⟨by rfl, ?y2x3⟩) (by assumption) ?r2x3
      case y2x3 => (intro w hSw; obtain ⟨hg, d0, d1⟩ := hSw; go_simp; (try with_reducible rfl))
      (try simp only [Act.put]); (try simp only [List.setIfInBounds_toArray]); (try simp only [List.set_cons_succ]); (try simp only [List.set_cons_zero])
      refine wpAnyH_take (i := 3) (oi := { dst := some 32, op := Op.load 9 (Operand.tmp 31), type := 9, pos := "parse.go:81", after := #[{ on := 2, ground := Ground.data }], guard := none }) (v := ?v3x4) rfl (by kernel_rfl) (by kernel_rfl) (by kernel_rfl) (fun _ _ _ h => h) (Or.inl ⟨by rfl, ?y3x4⟩) (by assumption) ?r3x4
      case y3x4 => (intro w hSw; obtain ⟨hg, d0, d1⟩ := hSw; go_simp; (try with_reducible rfl))
      (try simp only [Act.put]); (try simp only [List.setIfInBounds_toArray]); (try simp only [List.set_cons_succ]); (try simp only [List.set_cons_zero])
      refine wpAnyH_take (i := 4) (oi := { dst := some 33, op := Op.move (Operand.tmp 0), type := 61, pos := "parse.go:81", after := #[], guard := none }) (v := ?v4x5) rfl (by kernel_rfl) (by kernel_rfl) (by kernel_rfl) (fun _ _ _ h => h) (Or.inl ⟨by rfl, ?y4x5⟩) (by assumption) ?r4x5
      case y4x5 => (intro w hSw; obtain ⟨hg, d0, d1⟩ := hSw; go_simp; (try with_reducible rfl))
      (try simp only [Act.put]); (try simp only [List.setIfInBounds_toArray]); (try simp only [List.set_cons_succ]); (try simp only [List.set_cons_zero])
      refine wpAnyH_take (i := 5) (oi := { dst := some 34, op := Op.nilCheck (Operand.tmp 33), type := 0, pos := "parse.go:81", after := #[{ on := 4, ground := Ground.data }], guard := none }) (v := ?v5x6) rfl (by kernel_rfl) (by kernel_rfl) (by kernel_rfl) (fun _ _ _ h => h) (Or.inl ⟨by rfl, ?y5x6⟩) (by assumption) ?r5x6
      case y5x6 => (intro w hSw; obtain ⟨hg, d0, d1⟩ := hSw; go_simp; (try with_reducible rfl))
      (try simp only [Act.put]); (try simp only [List.setIfInBounds_toArray]); (try simp only [List.set_cons_succ]); (try simp only [List.set_cons_zero])
      refine wpAnyH_take (i := 6) (oi := { dst := some 35, op := Op.fieldAddr 63 (Operand.tmp 34) 1, type := 0, pos := "parse.go:81", after := #[{ on := 5, ground := Ground.data }], guard := none }) (v := ?v6x7) rfl (by kernel_rfl) (by kernel_rfl) (by kernel_rfl) (fun _ _ _ h => h) (Or.inl ⟨by rfl, ?y6x7⟩) (by assumption) ?r6x7
      case y6x7 => (intro w hSw; obtain ⟨hg, d0, d1⟩ := hSw; go_simp; (try with_reducible rfl))
      (try simp only [Act.put]); (try simp only [List.setIfInBounds_toArray]); (try simp only [List.set_cons_succ]); (try simp only [List.set_cons_zero])
      refine wpAnyH_take (i := 7) (oi := { dst := some 36, op := Op.load 3 (Operand.tmp 35), type := 3, pos := "parse.go:81", after := #[{ on := 6, ground := Ground.data }], guard := none }) (v := ?v7x8) rfl (by kernel_rfl) (by kernel_rfl) (by kernel_rfl) (fun _ _ _ h => h) (Or.inl ⟨by rfl, ?y7x8⟩) (by assumption) ?r7x8
      case y7x8 => (intro w hSw; obtain ⟨hg, d0, d1⟩ := hSw; go_simp; (try with_reducible rfl))
      (try simp only [Act.put]); (try simp only [List.setIfInBounds_toArray]); (try simp only [List.set_cons_succ]); (try simp only [List.set_cons_zero])
      refine wpAnyH_take (i := 8) (oi := { dst := some 37, op := Op.move (Operand.tmp 5), type := 3, pos := "parse.go:81", after := #[], guard := none }) (v := ?v8x9) rfl (by kernel_rfl) (by kernel_rfl) (by kernel_rfl) (fun _ _ _ h => h) (Or.inl ⟨by rfl, ?y8x9⟩) (by assumption) ?r8x9
      case y8x9 => (intro w hSw; obtain ⟨hg, d0, d1⟩ := hSw; go_simp; (try with_reducible rfl))
      (try simp only [Act.put]); (try simp only [List.setIfInBounds_toArray]); (try simp only [List.set_cons_succ]); (try simp only [List.set_cons_zero])
      refine wpAnyH_take (i := 9) (oi := { dst := some 38, op := Op.slice 9 (Operand.tmp 32) (some (Operand.tmp 36)) (some (Operand.tmp 37)) none, type := 9, pos := "parse.go:81", after := #[{ on := 3, ground := Ground.data }, { on := 7, ground := Ground.data }, { on := 8, ground := Ground.data }], guard := none }) (v := ?v9x10) rfl (by kernel_rfl) (by kernel_rfl) (by kernel_rfl) (fun _ _ _ h => h) (Or.inl ⟨by rfl, ?y9x10⟩) (by assumption) ?r9x10
      case y9x10 => (intro w hSw; obtain ⟨hg, d0, d1⟩ := hSw; go_simp; (try with_reducible rfl))
      (try simp only [Act.put]); (try simp only [List.setIfInBounds_toArray]); (try simp only [List.set_cons_succ]); (try simp only [List.set_cons_zero])
      refine wpAnyH_take (i := 10) (oi := { dst := some 4, op := Op.assign (Operand.tmp 38), type := 9, pos := "parse.go:81", after := #[{ on := 9, ground := Ground.data }, { on := 0, ground := Ground.phase }, { on := 1, ground := Ground.phase }, { on := 2, ground := Ground.phase }, { on := 3, ground := Ground.phase }, { on := 4, ground := Ground.phase }, { on := 5, ground := Ground.phase }, { on := 6, ground := Ground.phase }, { on := 7, ground := Ground.phase }, { on := 8, ground := Ground.phase }, { on := 9, ground := Ground.phase }], guard := none }) (v := ?v10x11) rfl (by kernel_rfl) (by kernel_rfl) (by kernel_rfl) (fun _ _ _ h => h) (Or.inl ⟨by rfl, ?y10x11⟩) (by assumption) ?r10x11
      case y10x11 => (intro w hSw; obtain ⟨hg, d0, d1⟩ := hSw; go_simp; (try with_reducible rfl))
      (try simp only [Act.put]); (try simp only [List.setIfInBounds_toArray]); (try simp only [List.set_cons_succ]); (try simp only [List.set_cons_zero])
      refine wpAnyH_done (by kernel_rfl) ?_ _
      clear hHeld
      go_wp2_with fail
      go_ret
      exact ⟨by rw [HT.out]; rfl, gr_drew⟩
theorem row95_102 (p : Nat) (s : ByteArray) (W : World) (a : Nat) (er : Int) (hR : Rd W p s a er) : Calls Tryz.prog 95 #[.pointer (some ⟨p, 0, none⟩), .func (.func 102) #[] #[]] W fun e W' => e = .returned (.string (s.extract a (a + ((s.data.toList.drop a).takeWhile QB.nameBt).length))) ∧ Gr W W' := by
  have HR := hidM hR
  have d0 := hR.cells.1
  have d1 := hR.cells.2.1
  have hal : a ≤ 65536 := Nat.le_trans hR.pos hR.len
  have hsl := hR.len
  have hap := hR.pos
  have HS0 : Hid (Gr W W.drew) ∧ W.drew.cell? ⟨p, 0, none⟩ = some (.string s) ∧ W.drew.cell? ⟨p, 1, none⟩ = some (.int .i64 (a : Int)) := ⟨gr_drew, d0, d1⟩
  clear hR
  go_enter Tryz.func95, Tryz.ntmps95
  go_wp2_with fail
  go_loopw [5] (fun v wr => ∃ k : Nat, a ≤ k ∧ k ≤ s.size ∧ wr = W ∧ v = .int .i64 (k : Int) ∧ Hid (∃ l, s.data.toList.drop a = l ++ s.data.toList.drop k ∧ a + l.length = k ∧ ∀ c ∈ l, QB.nameBt c = true)) (fun v _ => s.size - (intOf v).toNat)
  case atStart => exact ⟨a, by omega, by omega, rfl, rfl, [], rfl, rfl, by simp⟩
  case round =>
    obtain ⟨k, hka, hk, rfl, rfl, HL⟩ := hrel
    have hkaI : (a : Int) ≤ (k : Int) := by omega
    have hkI : (k : Int) ≤ (s.size : Int) := by omega
    by_cases hlt : k < s.size
    · have hp := name102 (s[k]'hlt)
      cases hq : QB.nameBt (s[k]'hlt)
      · rw [hq] at hp
        have HT : Hid (a + ((s.data.toList.drop a).takeWhile QB.nameBt).length = k) := by
          obtain ⟨l, e1, e2, e3⟩ := HL.out
          show _ = _
          rw [e1, List.takeWhile_append_of_pos e3, List.drop_eq_getElem_cons (by simpa using hlt)]
          rw [List.takeWhile_cons_of_neg (by simp; exact hq)]
          simpa using e2
        clear hq HL
        go_wp2_with (go_at_call 102; refine (hp _).mono ?_; rintro e w' ⟨rfl, hw⟩; replace hw := hw.symm; subst hw)
        refine wp_region_held_drew (S := fun w' => Hid (Gr wr w') ∧ w'.cell? ⟨p, 0, none⟩ = some (.string s) ∧ w'.cell? ⟨p, 1, none⟩ = some (.int .i64 (a : Int))) (by kernel_rfl) (HS0) (fun hHeld => ?_)
        refine wpAnyH_take (i := 0) (oi := { dst := some 29, op := Op.move (Operand.tmp 0), type := 61, pos := "parse.go:81", after := #[], guard := none }) (v := ?v0u1) rfl (by kernel_rfl) (by kernel_rfl) (by kernel_rfl) (fun _ _ _ h => h) (Or.inl ⟨by rfl, ?y0u1⟩) (by assumption) ?r0u1
        case y0u1 => (intro w hSw; obtain ⟨hg, d0, d1⟩ := hSw; go_simp; (try with_reducible rfl))
        (try simp only [Act.put]); (try simp only [List.setIfInBounds_toArray]); (try simp only [List.set_cons_succ]); (try simp only [List.set_cons_zero])
        refine wpAnyH_take (i := 1) (oi := { dst := some 30, op := Op.nilCheck (Operand.tmp 29), type := 0, pos := "parse.go:81", after := #[{ on := 0, ground := Ground.data }], guard := none }) (v := ?v1u2) rfl (by kernel_rfl) (by kernel_rfl) (by kernel_rfl) (fun _ _ _ h => h) (Or.inl ⟨by rfl, ?y1u2⟩) (by assumption) ?r1u2
        case y1u2 => (intro w hSw; obtain ⟨hg, d0, d1⟩ := hSw; go_simp; (try with_reducible rfl))
        (try simp only [Act.put]); (try simp only [List.setIfInBounds_toArray]); (try simp only [List.set_cons_succ]); (try simp only [List.set_cons_zero])
        refine wpAnyH_take (i := 2) (oi := { dst := some 31, op := Op.fieldAddr 63 (Operand.tmp 30) 0, type := 0, pos := "parse.go:81", after := #[{ on := 1, ground := Ground.data }], guard := none }) (v := ?v2u3) rfl (by kernel_rfl) (by kernel_rfl) (by kernel_rfl) (fun _ _ _ h => h) (Or.inl ⟨by rfl, ?y2u3⟩) (by assumption) ?r2u3
        case y2u3 => (intro w hSw; obtain ⟨hg, d0, d1⟩ := hSw; go_simp; (try with_reducible rfl))
        (try simp only [Act.put]); (try simp only [List.setIfInBounds_toArray]); (try simp only [List.set_cons_succ]); (try simp only [List.set_cons_zero])
        refine wpAnyH_take (i := 3) (oi := { dst := some 32, op := Op.load 9 (Operand.tmp 31), type := 9, pos := "parse.go:81", after := #[{ on := 2, ground := Ground.data }], guard := none }) (v := ?v3u4) rfl (by kernel_rfl) (by kernel_rfl) (by kernel_rfl) (fun _ _ _ h => h) (Or.inl ⟨by rfl, ?y3u4⟩) (by assumption) ?r3u4
        case y3u4 => (intro w hSw; obtain ⟨hg, d0, d1⟩ := hSw; go_simp; (try with_reducible rfl))
        (try simp only [Act.put]); (try simp only [List.setIfInBounds_toArray]); (try simp only [List.set_cons_succ]); (try simp only [List.set_cons_zero])
        refine wpAnyH_take (i := 4) (oi := { dst := some 33, op := Op.move (Operand.tmp 0), type := 61, pos := "parse.go:81", after := #[], guard := none }) (v := ?v4u5) rfl (by kernel_rfl) (by kernel_rfl) (by kernel_rfl) (fun _ _ _ h => h) (Or.inl ⟨by rfl, ?y4u5⟩) (by assumption) ?r4u5
        case y4u5 => (intro w hSw; obtain ⟨hg, d0, d1⟩ := hSw; go_simp; (try with_reducible rfl))
        (try simp only [Act.put]); (try simp only [List.setIfInBounds_toArray]); (try simp only [List.set_cons_succ]); (try simp only [List.set_cons_zero])
        refine wpAnyH_take (i := 5) (oi := { dst := some 34, op := Op.nilCheck (Operand.tmp 33), type := 0, pos := "parse.go:81", after := #[{ on := 4, ground := Ground.data }], guard := none }) (v := ?v5u6) rfl (by kernel_rfl) (by kernel_rfl) (by kernel_rfl) (fun _ _ _ h => h) (Or.inl ⟨by rfl, ?y5u6⟩) (by assumption) ?r5u6
        case y5u6 => (intro w hSw; obtain ⟨hg, d0, d1⟩ := hSw; go_simp; (try with_reducible rfl))
        (try simp only [Act.put]); (try simp only [List.setIfInBounds_toArray]); (try simp only [List.set_cons_succ]); (try simp only [List.set_cons_zero])
        refine wpAnyH_take (i := 6) (oi := { dst := some 35, op := Op.fieldAddr 63 (Operand.tmp 34) 1, type := 0, pos := "parse.go:81", after := #[{ on := 5, ground := Ground.data }], guard := none }) (v := ?v6u7) rfl (by kernel_rfl) (by kernel_rfl) (by kernel_rfl) (fun _ _ _ h => h) (Or.inl ⟨by rfl, ?y6u7⟩) (by assumption) ?r6u7
        case y6u7 => (intro w hSw; obtain ⟨hg, d0, d1⟩ := hSw; go_simp; (try with_reducible rfl))
        (try simp only [Act.put]); (try simp only [List.setIfInBounds_toArray]); (try simp only [List.set_cons_succ]); (try simp only [List.set_cons_zero])
        refine wpAnyH_take (i := 7) (oi := { dst := some 36, op := Op.load 3 (Operand.tmp 35), type := 3, pos := "parse.go:81", after := #[{ on := 6, ground := Ground.data }], guard := none }) (v := ?v7u8) rfl (by kernel_rfl) (by kernel_rfl) (by kernel_rfl) (fun _ _ _ h => h) (Or.inl ⟨by rfl, ?y7u8⟩) (by assumption) ?r7u8
        case y7u8 => (intro w hSw; obtain ⟨hg, d0, d1⟩ := hSw; go_simp; (try with_reducible rfl))
        (try simp only [Act.put]); (try simp only [List.setIfInBounds_toArray]); (try simp only [List.set_cons_succ]); (try simp only [List.set_cons_zero])
        refine wpAnyH_take (i := 8) (oi := { dst := some 37, op := Op.move (Operand.tmp 5), type := 3, pos := "parse.go:81", after := #[], guard := none }) (v := ?v8u9) rfl (by kernel_rfl) (by kernel_rfl) (by kernel_rfl) (fun _ _ _ h => h) (Or.inl ⟨by rfl, ?y8u9⟩) (by assumption) ?r8u9
        case y8u9 => (intro w hSw; obtain ⟨hg, d0, d1⟩ := hSw; go_simp; (try with_reducible rfl))
        (try simp only [Act.put]); (try simp only [List.setIfInBounds_toArray]); (try simp only [List.set_cons_succ]); (try simp only [List.set_cons_zero])
        refine wpAnyH_take (i := 9) (oi := { dst := some 38, op := Op.slice 9 (Operand.tmp 32) (some (Operand.tmp 36)) (some (Operand.tmp 37)) none, type := 9, pos := "parse.go:81", after := #[{ on := 3, ground := Ground.data }, { on := 7, ground := Ground.data }, { on := 8, ground := Ground.data }], guard := none }) (v := ?v9u10) rfl (by kernel_rfl) (by kernel_rfl) (by kernel_rfl) (fun _ _ _ h => h) (Or.inl ⟨by rfl, ?y9u10⟩) (by assumption) ?r9u10
        case y9u10 => (intro w hSw; obtain ⟨hg, d0, d1⟩ := hSw; go_simp; (try with_reducible rfl))
        (try simp only [Act.put]); (try simp only [List.setIfInBounds_toArray]); (try simp only [List.set_cons_succ]); (try simp only [List.set_cons_zero])
        refine wpAnyH_take (i := 10) (oi := { dst := some 4, op := Op.assign (Operand.tmp 38), type := 9, pos := "parse.go:81", after := #[{ on := 9, ground := Ground.data }, { on := 0, ground := Ground.phase }, { on := 1, ground := Ground.phase }, { on := 2, ground := Ground.phase }, { on := 3, ground := Ground.phase }, { on := 4, ground := Ground.phase }, { on := 5, ground := Ground.phase }, { on := 6, ground := Ground.phase }, { on := 7, ground := Ground.phase }, { on := 8, ground := Ground.phase }, { on := 9, ground := Ground.phase }], guard := none }) (v := ?v10u11) rfl (by kernel_rfl) (by kernel_rfl) (by kernel_rfl) (fun _ _ _ h => h) (Or.inl ⟨by rfl, ?y10u11⟩) (by assumption) ?r10u11
        case y10u11 => (intro w hSw; obtain ⟨hg, d0, d1⟩ := hSw; go_simp; (try with_reducible rfl))
        (try simp only [Act.put]); (try simp only [List.setIfInBounds_toArray]); (try simp only [List.set_cons_succ]); (try simp only [List.set_cons_zero])
        refine wpAnyH_done (by kernel_rfl) ?_ _
        clear hHeld
        go_wp2_with fail
        go_ret
        exact ⟨by rw [HT.out]; rfl, gr_drew⟩
      · rw [hq] at hp
        have HN : Hid (∃ l, s.data.toList.drop a = l ++ s.data.toList.drop (k + 1) ∧ a + l.length = k + 1 ∧ ∀ c ∈ l, QB.nameBt c = true) := by
          obtain ⟨l, e1, e2, e3⟩ := HL.out
          refine ⟨l ++ [s[k]'hlt], ?_, by simp; omega, ?_⟩
          · rw [e1, List.drop_eq_getElem_cons (by simpa using hlt)]
            simp
            rfl
          · intro c hc
            rcases List.mem_append.1 hc with h | h
            · exact e3 c h
            · rw [List.mem_singleton.1 h]; exact hq
        clear hq HL
        go_wp2_with (go_at_call 102; refine (hp _).mono ?_; rintro e w' ⟨rfl, hw⟩; replace hw := hw.symm; subst hw)
        go_roundw
        case rel => exact ⟨k + 1, by omega, by omega, by first | rfl | trivial, by simp, HN⟩
        case measure => simp [intOf]; omega
    · have HT : Hid (a + ((s.data.toList.drop a).takeWhile QB.nameBt).length = k) := by
        obtain ⟨l, e1, e2, e3⟩ := HL.out
        show _ = _
        rw [e1, List.takeWhile_append_of_pos e3, List.drop_of_length_le (by simp; omega)]
        simpa using e2
      clear HL
      obtain rfl : k = s.size := by omega
      clear hkI hk hlt
      go_wp2_with fail
      refine wp_region_held_drew (S := fun w' => Hid (Gr wr w') ∧ w'.cell? ⟨p, 0, none⟩ = some (.string s) ∧ w'.cell? ⟨p, 1, none⟩ = some (.int .i64 (a : Int))) (by kernel_rfl) (HS0) (fun hHeld => ?_)
      refine wpAnyH_take (i := 0) (oi := { dst := some 29, op := Op.move (Operand.tmp 0), type := 61, pos := "parse.go:81", after := #[], guard := none }) (v := ?v0x1) rfl (by kernel_rfl) (by kernel_rfl) (by kernel_rfl) (fun _ _ _ h => h) (Or.inl ⟨by rfl, ?y0x1⟩) (by assumption) ?r0x1
      case y0x1 => (intro w hSw; obtain ⟨hg, d0, d1⟩ := hSw; go_simp; (try with_reducible rfl))
      (try simp only [Act.put]); (try simp only [List.setIfInBounds_toArray]); (try simp only [List.set_cons_succ]); (try simp only [List.set_cons_zero])
      refine wpAnyH_take (i := 1) (oi := { dst := some 30, op := Op.nilCheck (Operand.tmp 29), type := 0, pos := "parse.go:81", after := #[{ on := 0, ground := Ground.data }], guard := none }) (v := ?v1x2) rfl (by kernel_rfl) (by kernel_rfl) (by kernel_rfl) (fun _ _ _ h => h) (Or.inl ⟨by rfl, ?y1x2⟩) (by assumption) ?r1x2
      case y1x2 => (intro w hSw; obtain ⟨hg, d0, d1⟩ := hSw; go_simp; (try with_reducible rfl))
      (try simp only [Act.put]); (try simp only [List.setIfInBounds_toArray]); (try simp only [List.set_cons_succ]); (try simp only [List.set_cons_zero])
      refine wpAnyH_take (i := 2) (oi := { dst := some 31, op := Op.fieldAddr 63 (Operand.tmp 30) 0, type := 0, pos := "parse.go:81", after := #[{ on := 1, ground := Ground.data }], guard := none }) (v := ?v2x3) rfl (by kernel_rfl) (by kernel_rfl) (by kernel_rfl) (fun _ _ _ h => h) (Or.inl ⟨by rfl, ?y2x3⟩) (by assumption) ?r2x3
      case y2x3 => (intro w hSw; obtain ⟨hg, d0, d1⟩ := hSw; go_simp; (try with_reducible rfl))
      (try simp only [Act.put]); (try simp only [List.setIfInBounds_toArray]); (try simp only [List.set_cons_succ]); (try simp only [List.set_cons_zero])
      refine wpAnyH_take (i := 3) (oi := { dst := some 32, op := Op.load 9 (Operand.tmp 31), type := 9, pos := "parse.go:81", after := #[{ on := 2, ground := Ground.data }], guard := none }) (v := ?v3x4) rfl (by kernel_rfl) (by kernel_rfl) (by kernel_rfl) (fun _ _ _ h => h) (Or.inl ⟨by rfl, ?y3x4⟩) (by assumption) ?r3x4
      case y3x4 => (intro w hSw; obtain ⟨hg, d0, d1⟩ := hSw; go_simp; (try with_reducible rfl))
      (try simp only [Act.put]); (try simp only [List.setIfInBounds_toArray]); (try simp only [List.set_cons_succ]); (try simp only [List.set_cons_zero])
      refine wpAnyH_take (i := 4) (oi := { dst := some 33, op := Op.move (Operand.tmp 0), type := 61, pos := "parse.go:81", after := #[], guard := none }) (v := ?v4x5) rfl (by kernel_rfl) (by kernel_rfl) (by kernel_rfl) (fun _ _ _ h => h) (Or.inl ⟨by rfl, ?y4x5⟩) (by assumption) ?r4x5
      case y4x5 => (intro w hSw; obtain ⟨hg, d0, d1⟩ := hSw; go_simp; (try with_reducible rfl))
      (try simp only [Act.put]); (try simp only [List.setIfInBounds_toArray]); (try simp only [List.set_cons_succ]); (try simp only [List.set_cons_zero])
      refine wpAnyH_take (i := 5) (oi := { dst := some 34, op := Op.nilCheck (Operand.tmp 33), type := 0, pos := "parse.go:81", after := #[{ on := 4, ground := Ground.data }], guard := none }) (v := ?v5x6) rfl (by kernel_rfl) (by kernel_rfl) (by kernel_rfl) (fun _ _ _ h => h) (Or.inl ⟨by rfl, ?y5x6⟩) (by assumption) ?r5x6
      case y5x6 => (intro w hSw; obtain ⟨hg, d0, d1⟩ := hSw; go_simp; (try with_reducible rfl))
      (try simp only [Act.put]); (try simp only [List.setIfInBounds_toArray]); (try simp only [List.set_cons_succ]); (try simp only [List.set_cons_zero])
      refine wpAnyH_take (i := 6) (oi := { dst := some 35, op := Op.fieldAddr 63 (Operand.tmp 34) 1, type := 0, pos := "parse.go:81", after := #[{ on := 5, ground := Ground.data }], guard := none }) (v := ?v6x7) rfl (by kernel_rfl) (by kernel_rfl) (by kernel_rfl) (fun _ _ _ h => h) (Or.inl ⟨by rfl, ?y6x7⟩) (by assumption) ?r6x7
      case y6x7 => (intro w hSw; obtain ⟨hg, d0, d1⟩ := hSw; go_simp; (try with_reducible rfl))
      (try simp only [Act.put]); (try simp only [List.setIfInBounds_toArray]); (try simp only [List.set_cons_succ]); (try simp only [List.set_cons_zero])
      refine wpAnyH_take (i := 7) (oi := { dst := some 36, op := Op.load 3 (Operand.tmp 35), type := 3, pos := "parse.go:81", after := #[{ on := 6, ground := Ground.data }], guard := none }) (v := ?v7x8) rfl (by kernel_rfl) (by kernel_rfl) (by kernel_rfl) (fun _ _ _ h => h) (Or.inl ⟨by rfl, ?y7x8⟩) (by assumption) ?r7x8
      case y7x8 => (intro w hSw; obtain ⟨hg, d0, d1⟩ := hSw; go_simp; (try with_reducible rfl))
      (try simp only [Act.put]); (try simp only [List.setIfInBounds_toArray]); (try simp only [List.set_cons_succ]); (try simp only [List.set_cons_zero])
      refine wpAnyH_take (i := 8) (oi := { dst := some 37, op := Op.move (Operand.tmp 5), type := 3, pos := "parse.go:81", after := #[], guard := none }) (v := ?v8x9) rfl (by kernel_rfl) (by kernel_rfl) (by kernel_rfl) (fun _ _ _ h => h) (Or.inl ⟨by rfl, ?y8x9⟩) (by assumption) ?r8x9
      case y8x9 => (intro w hSw; obtain ⟨hg, d0, d1⟩ := hSw; go_simp; (try with_reducible rfl))
      (try simp only [Act.put]); (try simp only [List.setIfInBounds_toArray]); (try simp only [List.set_cons_succ]); (try simp only [List.set_cons_zero])
      refine wpAnyH_take (i := 9) (oi := { dst := some 38, op := Op.slice 9 (Operand.tmp 32) (some (Operand.tmp 36)) (some (Operand.tmp 37)) none, type := 9, pos := "parse.go:81", after := #[{ on := 3, ground := Ground.data }, { on := 7, ground := Ground.data }, { on := 8, ground := Ground.data }], guard := none }) (v := ?v9x10) rfl (by kernel_rfl) (by kernel_rfl) (by kernel_rfl) (fun _ _ _ h => h) (Or.inl ⟨by rfl, ?y9x10⟩) (by assumption) ?r9x10
      case y9x10 => (intro w hSw; obtain ⟨hg, d0, d1⟩ := hSw; go_simp; (try with_reducible rfl))
      (try simp only [Act.put]); (try simp only [List.setIfInBounds_toArray]); (try simp only [List.set_cons_succ]); (try simp only [List.set_cons_zero])
      refine wpAnyH_take (i := 10) (oi := { dst := some 4, op := Op.assign (Operand.tmp 38), type := 9, pos := "parse.go:81", after := #[{ on := 9, ground := Ground.data }, { on := 0, ground := Ground.phase }, { on := 1, ground := Ground.phase }, { on := 2, ground := Ground.phase }, { on := 3, ground := Ground.phase }, { on := 4, ground := Ground.phase }, { on := 5, ground := Ground.phase }, { on := 6, ground := Ground.phase }, { on := 7, ground := Ground.phase }, { on := 8, ground := Ground.phase }, { on := 9, ground := Ground.phase }], guard := none }) (v := ?v10x11) rfl (by kernel_rfl) (by kernel_rfl) (by kernel_rfl) (fun _ _ _ h => h) (Or.inl ⟨by rfl, ?y10x11⟩) (by assumption) ?r10x11
      case y10x11 => (intro w hSw; obtain ⟨hg, d0, d1⟩ := hSw; go_simp; (try with_reducible rfl))
      (try simp only [Act.put]); (try simp only [List.setIfInBounds_toArray]); (try simp only [List.set_cons_succ]); (try simp only [List.set_cons_zero])
      refine wpAnyH_done (by kernel_rfl) ?_ _
      clear hHeld
      go_wp2_with fail
      go_ret
      exact ⟨by rw [HT.out]; rfl, gr_drew⟩

end Go.Proofs.YtfoifmacobldbaaGreatDoor.Kit
