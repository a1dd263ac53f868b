import Derived.Test.YtkodgneneiledaaGreatDoorSF
namespace Go.Proofs.YtkodgneneiledaaGreatDoor.Kit
open Go.RowKit Go.Shelf Go.Deep
set_option linter.unusedVariables false
attribute [local go_sem] run_store_func

/-- the text of a note -/
def ntB (n : ByteArray × ByteArray) : ByteArray := qtB n.1 ++ ⟨#[32]⟩ ++ qtB n.2
set_option maxRecDepth 100000 in
set_option maxHeartbeats 4000000 in
theorem noteTexts_any (no : Option Addr) (cn : Nat) (ns : List (ByteArray × ByteArray)) (w : World) (hn : NotesAt w no ns) (hb : ∀ n ∈ ns, n.1.size ≤ 256 ∧ n.2.size ≤ 256) :
    ∀ W, Gr w W → Calls Tryz.prog 41 #[.slice no ns.length cn] W fun e w' => ∃ vo vc, e = .returned (.slice vo ns.length vc) ∧ Strs W w' vo vc (ns.map ntB) := by
  intro W g
  have hlen : ns.length ≤ 1000000000000 := hn.1
  have HR : Hid (ns ≠ [] → ∃ b o, no = some ⟨b, o, none⟩ ∧ ∀ i (h : i < ns.length), W.cell? ⟨b, o + i * 2, none⟩ = some (.string ns[i].1) ∧ W.cell? ⟨b, o + i * 2 + 1, none⟩ = some (.string ns[i].2)) := (hn.gr g).2
  have HQ : Hid (∀ s : ByteArray, s.size ≤ 256 → ∀ w, Calls Tryz.prog 73 #[.string s] w fun e w' => e = .returned (.string (qtB s)) ∧ Gr w w') := fun s h w => quotedText_any s (by omega) w
  have HBd := hidM hb
  obtain ⟨L, hL⟩ : ∃ L, L = ns.length := ⟨_, rfl⟩
  rw [← hL] at hlen ⊢
  have HL : Hid (L = ns.length) := hL
  clear hn hb hL g
  go_enter Tryz.func41, Tryz.ntmps41
  go_wp2
  go_loopw [3, 8] (fun v i wr => ∃ (k : Nat) (vo : Option Addr) (vc : Nat), k ≤ L ∧ i = .int .i64 (k : Int) ∧ v = .slice vo k vc ∧ Hid (k = ((ns.take k).map ntB).length ∧ Strs W wr vo vc ((ns.take k).map ntB))) (fun _ i _ => L - (intOf i).toNat)
  case atStart => exact ⟨0, none, 0, by omega, rfl, rfl, by simp, Strs.nil W W (Keeps.refl _ _)⟩
  case round =>
    obtain ⟨k, vo, vc, hk, rfl, rfl, HK⟩ := hrel
    by_cases hlt : k < L
    · have hl := HL.out
      have hkl : k < ns.length := by omega
      obtain ⟨b, o, rfl, hcs⟩ := HR.out (fun e => by rw [e] at hkl; simp at hkl)
      obtain ⟨c0, c1⟩ := hcs k hkl
      have g0 := HK.out.2.gr.cell' c0 id
      have g1 := HK.out.2.gr.cell' c1 id
      have hbd := HBd.out ns[k] (List.getElem_mem hkl)
      have HTK : Hid ((ns.take (k + 1)).map ntB = (ns.take k).map ntB ++ [qtB ns[k].1 ++ (⟨#[32]⟩ : ByteArray) ++ qtB ns[k].2]) := by show _ = _; rw [List.take_add_one, List.getElem?_eq_getElem hkl, List.map_append]; rfl
      have HFin : Hid (∀ w1 {vo' : Option Addr} {vc' : Nat}, Strs W w1 vo' vc' ((ns.take k).map ntB ++ [qtB ns[k].1 ++ (⟨#[32]⟩ : ByteArray) ++ qtB ns[k].2]) → Hid (k + 1 = ((ns.take (k + 1)).map ntB).length ∧ Strs W w1 vo' vc' ((ns.take (k + 1)).map ntB))) := fun w1 vo' vc' h => by
        rw [HTK.out]
        exact ⟨by have := HK.out.1; simp only [List.length_append, List.length_singleton]; omega, h⟩
      obtain ⟨ky, hky0⟩ : ∃ ky, ky = ns[k].1 := ⟨_, rfl⟩
      obtain ⟨tx, htx0⟩ : ∃ tx, tx = ns[k].2 := ⟨_, rfl⟩
      rw [← hky0, ← htx0] at HFin
      rw [← hky0] at g0
      rw [← htx0] at g1
      have hky : ky.size ≤ 256 := by rw [hky0]; exact hbd.1
      have htx : tx.size ≤ 256 := by rw [htx0]; exact hbd.2
      obtain ⟨ts, hts⟩ : ∃ ts, ts = (ns.take k).map ntB := ⟨_, rfl⟩
      rw [← hts] at HFin
      have HKK : Hid (k = ts.length) := by show _ = _; rw [hts]; exact HK.out.1
      have HST0 : Hid (Strs W wr vo vc ts) := by rw [hts]; exact HK.out.2
      clear hcs c0 c1 hl hkl hbd HTK HK hts hky0 htx0
      obtain ⟨B, hB⟩ : ∃ B, B = wr.heap.size := ⟨_, rfl⟩
      have hbx : (wr.alloc (.cells #[.string ky, .string tx] 70)).heap[B]? = some (.cells #[.string ky, .string tx] 70) := by rw [hB]; exact World.alloc_heap_new wr _
      have HNB : Hid (∀ g, (Value.slice vo k vc).ownBlock = some g → g ≠ B) := fun g e h => by
        have e' : (Value.slice vo ts.length vc).ownBlock = some g := by rw [← HKK.out]; exact e
        have := own_lt HST0.out.own g e'
        omega
      have HST1 := hidM (HST0.out.gr' (gr_alloc wr (.cells #[.string ky, .string tx] 70)))
      have HBX := hidM hbx
      clear hbx HST0
      go_wp2_with fail
      try rw [← hB]
      generalize wr.alloc (.cells #[.string ky, .string tx] 70) = W0 at *
      have HST := HST1
      obtain ⟨q0, q1⟩ := cell2 HBX.out
      have HIN : Hid (Hid (Gr W W0.drew) ∧ W0.drew.cell? ⟨B, 0, none⟩ = some (.string ky) ∧ W0.drew.cell? ⟨B, 1, none⟩ = some (.string tx)) := ⟨HST.out.gr.trans gr_drew (fun _ _ h => h), q0, q1⟩
      have HSk : Hid (∀ A C : World, (Hid (Gr W A) ∧ A.cell? ⟨B, 0, none⟩ = some (.string ky) ∧ A.cell? ⟨B, 1, none⟩ = some (.string tx)) → Gr A C → (Hid (Gr W C) ∧ C.cell? ⟨B, 0, none⟩ = some (.string ky) ∧ C.cell? ⟨B, 1, none⟩ = some (.string tx))) := fun A C h k => ⟨h.1.out.trans k (fun _ _ h => h), k.cell' h.2.1 id, k.cell' h.2.2 id⟩
      have z1 := qtB_size ky
      have z2 := qtB_size tx
      have s1 : (qtB ky ++ (⟨#[32]⟩ : ByteArray)).size = (qtB ky).size + 1 := by rw [ByteArray.size_append]; rfl
      have m1 := fun w => run_string_add_sum (P := Tryz.prog) w (qtB ky) ⟨#[32]⟩ (by show (qtB ky).size + 1 ≤ _; omega)
      have m2 := fun w => run_string_add_sum (P := Tryz.prog) w (qtB ky ++ ⟨#[32]⟩) (qtB tx) (by rw [s1]; omega)
      clear g0 g1 q0 q1 hB z1 z2 s1 HST1
      refine wp_region_held_drew (S := fun w' => Hid (Gr W w') ∧ w'.cell? ⟨B, 0, none⟩ = some (.string ky) ∧ w'.cell? ⟨B, 1, none⟩ = some (.string tx)) (by kernel_rfl) (HIN.out) (fun hHeld => ?_)
      refine wpAnyH_take (i := 0) (oi := { dst := some 12, op := Op.move (Operand.tmp 3), type := 22, pos := "print.go:78", after := #[], guard := none }) (v := ?v0u1) rfl (by kernel_rfl) (by kernel_rfl) (by kernel_rfl) (fun _ _ _ h => h) (Or.inl ⟨by rfl, ?y0u1⟩) (by assumption) ?r0u1
      case y0u1 => (intro w hSw; obtain ⟨-, s1, s2⟩ := hSw; go_simp; (try with_reducible rfl))
      (try simp only [Act.put]); (try simp only [List.setIfInBounds_toArray]); (try simp only [List.set_cons_succ]); (try simp only [List.set_cons_zero])
      refine wpAnyH_take (i := 1) (oi := { dst := some 13, op := Op.fieldAddr 70 (Operand.tmp 5) 0, type := 0, pos := "print.go:78", after := #[], guard := none }) (v := ?v1u2) rfl (by kernel_rfl) (by kernel_rfl) (by kernel_rfl) (fun _ _ _ h => h) (Or.inl ⟨by rfl, ?y1u2⟩) (by assumption) ?r1u2
      case y1u2 => (intro w hSw; obtain ⟨-, s1, s2⟩ := hSw; go_simp; (try with_reducible rfl))
      (try simp only [Act.put]); (try simp only [List.setIfInBounds_toArray]); (try simp only [List.set_cons_succ]); (try simp only [List.set_cons_zero])
      refine wpAnyH_take (i := 2) (oi := { dst := some 14, op := Op.load 9 (Operand.tmp 13), type := 9, pos := "print.go:78", after := #[{ on := 1, ground := Ground.data }], guard := none }) (v := ?v2u3) rfl (by kernel_rfl) (by kernel_rfl) (by kernel_rfl) (fun _ _ _ h => h) (Or.inl ⟨by rfl, ?y2u3⟩) (by assumption) ?r2u3
      case y2u3 => (intro w hSw; obtain ⟨-, s1, s2⟩ := hSw; go_simp; (try with_reducible rfl))
      (try simp only [Act.put]); (try simp only [List.setIfInBounds_toArray]); (try simp only [List.set_cons_succ]); (try simp only [List.set_cons_zero])
      refine wpAnyH_take (i := 5) (oi := { dst := some 17, op := Op.fieldAddr 70 (Operand.tmp 5) 1, type := 0, pos := "print.go:78", after := #[], guard := none }) (v := ?v5u4) rfl (by kernel_rfl) (by kernel_rfl) (by kernel_rfl) (fun _ _ _ h => h) (Or.inl ⟨by rfl, ?y5u4⟩) (by assumption) ?r5u4
      case y5u4 => (intro w hSw; obtain ⟨-, s1, s2⟩ := hSw; go_simp; (try with_reducible rfl))
      (try simp only [Act.put]); (try simp only [List.setIfInBounds_toArray]); (try simp only [List.set_cons_succ]); (try simp only [List.set_cons_zero])
      refine wpAnyH_take (i := 6) (oi := { dst := some 18, op := Op.load 9 (Operand.tmp 17), type := 9, pos := "print.go:78", after := #[{ on := 5, ground := Ground.data }], guard := none }) (v := ?v6u5) rfl (by kernel_rfl) (by kernel_rfl) (by kernel_rfl) (fun _ _ _ h => h) (Or.inl ⟨by rfl, ?y6u5⟩) (by assumption) ?r6u5
      case y6u5 => (intro w hSw; obtain ⟨-, s1, s2⟩ := hSw; go_simp; (try with_reducible rfl))
      (try simp only [Act.put]); (try simp only [List.setIfInBounds_toArray]); (try simp only [List.set_cons_succ]); (try simp only [List.set_cons_zero])
      refine wpAnyH_ready (rs := [3]) (by kernel_rfl) (by simp) ?_
      refine AllReadyH.cons (o := { dst := some 15, op := Op.call { callee := Callee.value (Operand.func 73), args := #[Operand.tmp 14], argTypes := #[9] }, type := 9, pos := "print.go:78", after := #[{ on := 2, ground := Ground.data }], guard := none }) rfl (fun K hK => ?_) AllReadyH.nil
      go_simp
      go_at_call 73
      refine Calls.mono (HQ.out ky hky _) ?_
      rintro e' v1 ⟨rfl, hk1⟩
      go_wp2_with fail
      refine hK.out _ _ (HSk.out _ _ hHeld hk1) (fun hHeld => ?_)
      clear hK K
      (try simp only [Act.put]); (try simp only [List.setIfInBounds_toArray]); (try simp only [List.set_cons_succ]); (try simp only [List.set_cons_zero])
      replace hk1 := hidM hk1
      refine wpAnyH_take (i := 4) (oi := { dst := some 16, op := Op.binOp BinOp.add 9 (Operand.tmp 15) (Operand.const (Value.string { data := #[32] })) 9, type := 9, pos := "print.go:78", after := #[{ on := 3, ground := Ground.data }], guard := none }) (v := ?v4u6) rfl (by kernel_rfl) (by kernel_rfl) (by kernel_rfl) (fun _ _ _ h => h) (Or.inl ⟨by rfl, ?y4u6⟩) (by assumption) ?r4u6
      case y4u6 => (intro w hSw; obtain ⟨-, s1, s2⟩ := hSw; go_simp; (try with_reducible rfl))
      (try simp only [Act.put]); (try simp only [List.setIfInBounds_toArray]); (try simp only [List.set_cons_succ]); (try simp only [List.set_cons_zero])
      refine wpAnyH_ready (rs := [7]) (by kernel_rfl) (by simp) ?_
      refine AllReadyH.cons (o := { dst := some 19, op := Op.call { callee := Callee.value (Operand.func 73), args := #[Operand.tmp 18], argTypes := #[9] }, type := 9, pos := "print.go:78", after := #[{ on := 6, ground := Ground.data }, { on := 3, ground := Ground.chain }], guard := none }) rfl (fun K hK => ?_) AllReadyH.nil
      go_simp
      go_at_call 73
      refine Calls.mono (HQ.out tx htx _) ?_
      rintro e' v2 ⟨rfl, hk2⟩
      go_wp2_with fail
      refine hK.out _ _ (HSk.out _ _ hHeld hk2) (fun hHeld => ?_)
      clear hK K
      (try simp only [Act.put]); (try simp only [List.setIfInBounds_toArray]); (try simp only [List.set_cons_succ]); (try simp only [List.set_cons_zero])
      replace hk2 := hidM hk2
      refine wpAnyH_take (i := 8) (oi := { dst := some 20, op := Op.binOp BinOp.add 9 (Operand.tmp 16) (Operand.tmp 19) 9, type := 9, pos := "print.go:78", after := #[{ on := 4, ground := Ground.data }, { on := 7, ground := Ground.data }], guard := none }) (v := ?v8u7) rfl (by kernel_rfl) (by kernel_rfl) (by kernel_rfl) (fun _ _ _ h => h) (Or.inl ⟨by rfl, ?y8u7⟩) (by assumption) ?r8u7
      case y8u7 => (intro w hSw; obtain ⟨-, s1, s2⟩ := hSw; go_simp; (try with_reducible rfl))
      (try simp only [Act.put]); (try simp only [List.setIfInBounds_toArray]); (try simp only [List.set_cons_succ]); (try simp only [List.set_cons_zero])
      refine wpAnyH_ready (rs := [9]) (by kernel_rfl) (by simp) ?_
      refine AllReadyH.cons (o := { dst := some 21, op := Op.buildSlice 22 1 #[(0, Operand.tmp 20)], type := 22, pos := "print.go:78", after := #[{ on := 8, ground := Ground.data }], guard := none }) rfl (fun K hK => ?_) AllReadyH.nil
      go_simp
      refine hK.out _ _ (HSk.out _ _ hHeld (by first | exact gr_alloc _ _ | exact gr_alloc (World.drew _) _)) (fun hHeld => ?_)
      clear hK K
      (try simp only [Act.put]); (try simp only [List.setIfInBounds_toArray]); (try simp only [List.set_cons_succ]); (try simp only [List.set_cons_zero])
      refine wpAnyH_ready (rs := [10]) (by kernel_rfl) (by simp) ?_
      refine AllReadyH.cons (o := { dst := some 22, op := Op.call { callee := Callee.builtin Builtin.append, args := #[Operand.tmp 12, Operand.tmp 21], argTypes := #[22, 22] }, type := 22, pos := "print.go:78", after := #[{ on := 0, ground := Ground.data }, { on := 9, ground := Ground.data }, { on := 7, ground := Ground.chain }], guard := none }) rfl (fun K hK => ?_) AllReadyH.nil
      have HSS := hidM (HST.out.gr' ((gr_drew.trans hk1.out (fun _ _ h => h)).trans hk2.out (fun _ _ h => h)))
      have HSA := hidM (HSS.out.gr' (gr_alloc v2 (.cells #[.string (qtB ky ++ (⟨#[32]⟩ : ByteArray) ++ qtB tx)] 9)))
      refine step_append_any _ rfl (.tmp 12) (.tmp 21) 22 22 rfl 9 (.string ⟨#[]⟩) 16 Tryz.underlying22 info9 rfl (.slice vo k vc) k (ts.map Value.string) rfl (by have := HSA.out.own; rw [← HKK.out] at this; exact this) _ 1 [.string (qtB ky ++ (⟨#[32]⟩ : ByteArray) ++ qtB tx)] rfl (src_str v2 _) (by omega) (by omega) ?_
      intro v' w1 hown hgrow hblk
      obtain ⟨vo', vc', rfl⟩ := own_form hown
      have HN : Hid (Strs W w1 vo' vc' (ts ++ [qtB ky ++ (⟨#[32]⟩ : ByteArray) ++ qtB tx])) := HSA.out.app (us := [qtB ky ++ (⟨#[32]⟩ : ByteArray) ++ qtB tx]) (by rw [← HKK.out]; rfl) hown (by rw [← HKK.out]; exact hgrow) (by rw [← HKK.out]; exact hblk)
      have HW : Hid (Hid (Gr W w1) ∧ w1.cell? ⟨B, 0, none⟩ = some (.string ky) ∧ w1.cell? ⟨B, 1, none⟩ = some (.string tx)) := by
        have kg := Keeps.ofGrown hgrow
        have hB : ¬ (Value.slice vo k vc).ownBlock = some B := fun e => HNB.out B e rfl
        exact ⟨HN.out.gr, kg.cell' hHeld.2.1 hB, kg.cell' hHeld.2.2 hB⟩
      refine hK.out _ _ HW.out (fun hHeld => ?_)
      clear hK K hown hgrow hblk HW
      (try simp only [Act.put]); (try simp only [List.setIfInBounds_toArray]); (try simp only [List.set_cons_succ]); (try simp only [List.set_cons_zero])
      refine wpAnyH_take (i := 11) (oi := { dst := some 3, op := Op.assign (Operand.tmp 22), type := 22, pos := "print.go:78", after := #[{ on := 10, ground := Ground.data }, { on := 10, ground := Ground.chain }, { on := 0, ground := Ground.phase }, { on := 1, ground := Ground.phase }, { on := 2, ground := Ground.phase }, { on := 3, ground := Ground.phase }, { on := 4, ground := Ground.phase }, { on := 5, ground := Ground.phase }, { on := 6, ground := Ground.phase }, { on := 7, ground := Ground.phase }, { on := 8, ground := Ground.phase }, { on := 9, ground := Ground.phase }, { on := 10, ground := Ground.phase }], guard := none }) (v := ?v11u8) rfl (by kernel_rfl) (by kernel_rfl) (by kernel_rfl) (fun _ _ _ h => h) (Or.inl ⟨by rfl, ?y11u8⟩) (by assumption) ?r11u8
      case y11u8 => (intro w hSw; obtain ⟨-, s1, s2⟩ := hSw; go_simp; (try with_reducible rfl))
      (try simp only [Act.put]); (try simp only [List.setIfInBounds_toArray]); (try simp only [List.set_cons_succ]); (try simp only [List.set_cons_zero])
      refine wpAnyH_done (by kernel_rfl) ?_ _
      clear hHeld
      go_wp2_with fail
      go_roundw
      case rel => exact ⟨k + 1, vo', vc', by omega, by simp, rfl, HFin.out _ HN.out⟩
      case measure => simp [intOf]; omega
    · have hkL : k = L := by omega
      subst hkL
      have HE : Hid (Strs W wr vo vc (ns.map ntB)) := by
        have := HK.out.2
        rw [HL.out, List.take_length] at this
        exact this
      clear HK HR
      go_wp2_with fail
      go_ret
      exact ⟨_, _, rfl, HE.out⟩
end Go.Proofs.YtkodgneneiledaaGreatDoor.Kit
namespace Go.Proofs.YtkodgneneiledaaGreatDoor.Kit
open Go.RowKit Go.Shelf Go.Deep
set_option linter.unusedVariables false
attribute [local go_sem] run_store_func

/-- the text of a schema -/
def prB (jt : ByteArray) (us : List ByteArray) : ByteArray :=
  if us = [] then jt else (if jt = ⟨#[]⟩ then jt else jt ++ (⟨#[32]⟩ : ByteArray)) ++ (⟨#[124, 32]⟩ : ByteArray) ++ joinB us
set_option maxRecDepth 100000 in
set_option maxHeartbeats 2000000 in
theorem print_true {fo no : Option Addr} {nf cf nn cn : Nat} {ts us : List ByteArray} (hts : ts.length ≤ 1000000) (hus : us.length = nn) (hul : us.length ≤ 1000000) (hj : (joinB ts).size ≤ 1000000000) (hju : (joinB us).size ≤ 1000000000) {w : World}
    (hl : Ans 38 #[.agg #[.slice fo nf cf, .slice no nn cn]] true w)
    (h : ∀ W, Gr w W → Calls Tryz.prog 40 #[.slice fo nf cf] W fun e w' => ∃ vo vc, e = .returned (.slice vo ts.length vc) ∧ Strs W w' vo vc ts)
    (h24 : ∀ W, Gr w W → Calls Tryz.prog 41 #[.slice no nn cn] W fun e w' => ∃ vo vc, e = .returned (.slice vo us.length vc) ∧ Strs W w' vo vc us) :
    AnsV 13 #[.agg #[.slice fo nf cf, .slice no nn cn]] (.tuple #[.string (prB (joinB ts) us), .int .i64 0]) w := by
  intro W g
  have HL : Hid (∀ W', Gr W W' → Calls Tryz.prog 38 #[.agg #[.slice fo nf cf, .slice no nn cn]] W' fun e w' => e = .returned (.bool true) ∧ Gr W' w') := fun W' g' => hl W' (g.trans g' (fun _ _ h => h))
  have H : Hid (∀ W', Gr W W' → Calls Tryz.prog 40 #[.slice fo nf cf] W' fun e w' => ∃ vo vc, e = .returned (.slice vo ts.length vc) ∧ Strs W' w' vo vc ts) := fun W' g' => h W' (g.trans g' (fun _ _ h => h))
  have H24 : Hid (∀ W', Gr W W' → Calls Tryz.prog 41 #[.slice no nn cn] W' fun e w' => ∃ vo vc, e = .returned (.slice vo us.length vc) ∧ Strs W' w' vo vc us) := fun W' g' => h24 W' (g.trans g' (fun _ _ h => h))
  have HJ' : ∀ ts : List ByteArray, ts.length ≤ 1000000 → (joinB ts).size ≤ 1000000000 → ∀ W0 W1 vo vc, Strs W0 W1 vo vc ts → Calls Tryz.prog 39 #[.slice vo ts.length vc, .string ⟨#[44, 32]⟩] W1 fun e w' => e = .returned (.string (joinB ts)) ∧ Gr W1 w' := fun ts hts hj W0 W1 vo vc hs => by
    refine join_any vo vc ts ⟨#[44, 32]⟩ W0 W1 hs (by omega) ?_
    have : (joinB ts).size = (Lib.join (ts.map (·.data.toList)) [44, 32]).length := rfl
    show (Lib.join (ts.map (·.data.toList)) [44, 32]).length ≤ _
    omega
  have HJ := hidM (HJ' ts hts hj)
  have HJU := hidM (HJ' us hul hju)
  unfold prB
  have hnn : us = [] ↔ nn = 0 := by rw [← hus]; exact List.length_eq_zero_iff.symm
  generalize joinB ts = jt at *
  generalize joinB us = ju at *
  have x1 := World.alloc_heap_new W (.cells #[.slice fo nf cf, .slice no nn cn] 27)
  have HX := hidM x1
  clear hl h g x1 h24 HJ'
  go_enter Tryz.func13, Tryz.ntmps13
  go_wp2_with (go_at_call 38; refine Hid.out ?_)
  unfold Hid
  refine Calls.mono (HL.out _ (gr_alloc W _)) ?_
  rintro e W1 ⟨rfl, hg1⟩
  have x1 := (hg1.block _ (lt_of_heap HX.out) (fun h => h)).trans HX.out
  have y0 : W1.cell? ⟨W.heap.size, 0, none⟩ = some (.slice fo nf cf) := by simp [World.cell?, x1]
  have HG := hidM (And.intro ((gr_alloc W _).trans hg1 (fun _ _ h => h)) x1)
  clear x1 hg1 HX
  go_wp2_with (go_at_call 40; refine Hid.out ?_)
  unfold Hid
  refine Calls.mono (H.out _ HG.out.1) ?_
  rintro e W2 ⟨vo, vc, rfl, hs⟩
  have HS := hidM hs
  clear hs y0
  go_wp2_with (go_at_call 39; refine Hid.out ?_)
  unfold Hid
  refine Calls.mono (HJ.out _ _ _ _ HS.out) ?_
  rintro e W3 ⟨rfl, hg3⟩
  have g13 : Gr W1 W3 := HS.out.gr.trans hg3 (fun _ _ h => h)
  have x1 := (g13.block _ (lt_of_heap HG.out.2) (fun h => h)).trans HG.out.2
  have y1 : W3.cell? ⟨W.heap.size, 1, none⟩ = some (.slice no nn cn) := by simp [World.cell?, x1]
  have HE := hidM (HG.out.1.trans g13 (fun _ _ h => h))
  clear hg3 g13 x1
  by_cases hn0 : nn = 0
  · have hb : ((nn : Int) == 0) = true := by simp [hn0]
    have HU : Hid (us = []) := hnn.2 hn0
    clear hn0 hnn hus
    go_wp2_with fail
    refine bodyPost_ret (v := .tuple #[.string jt, .int .i64 0]) ?_ rfl ⟨by first | rfl | rw [if_pos HU.out], HE.out⟩
    simp [results, Tryz.f13, go_sem]
  · have hb : ((nn : Int) == 0) = false := beqF (by omega)
    have HU : Hid (¬ us = []) := fun h => hn0 (hnn.1 h)
    clear hn0 hnn hus
    have z0 : (jt ++ (⟨#[32]⟩ : ByteArray)).size = jt.size + 1 := by rw [ByteArray.size_append]; rfl
    have z1 : (jt ++ (⟨#[124, 32]⟩ : ByteArray)).size = jt.size + 2 := by rw [ByteArray.size_append]; rfl
    have z2 : (jt ++ (⟨#[32]⟩ : ByteArray) ++ (⟨#[124, 32]⟩ : ByteArray)).size = jt.size + 3 := by rw [ByteArray.size_append, z0]; rfl
    have m0 := fun w => run_string_add_sum (P := Tryz.prog) w jt ⟨#[32]⟩ (by show jt.size + 1 ≤ _; omega)
    have m1 := fun w => run_string_add_sum (P := Tryz.prog) w jt ⟨#[124, 32]⟩ (by show jt.size + 2 ≤ _; omega)
    have m2 := fun w => run_string_add_sum (P := Tryz.prog) w (jt ++ ⟨#[32]⟩) ⟨#[124, 32]⟩ (by rw [z0]; show jt.size + 1 + 2 ≤ _; omega)
    have m3 := fun w => run_string_add_sum (P := Tryz.prog) w (jt ++ ⟨#[124, 32]⟩) ju (by rw [z1]; omega)
    have m4 := fun w => run_string_add_sum (P := Tryz.prog) w (jt ++ ⟨#[32]⟩ ++ ⟨#[124, 32]⟩) ju (by rw [z2]; omega)
    clear z0 z1 z2
    by_cases hje : jt = ⟨#[]⟩
    · have HJE := hidM hje
      have hne : jt.toList.isEmpty = true := by rw [hje, ByteArray.toList_eq]; rfl
      clear hje
      go_wp2_with (go_at_call 41; refine Hid.out ?_)
      unfold Hid
      refine Calls.mono (H24.out _ HE.out) ?_
      rintro e W4 ⟨uo, uc, rfl, hs4⟩
      have HS4 := hidM hs4
      clear hs4
      go_wp2_with (go_at_call 39; refine Hid.out ?_)
      unfold Hid
      refine Calls.mono (HJU.out _ _ _ _ HS4.out) ?_
      rintro e W5 ⟨rfl, hg5⟩
      have HE5 := hidM ((HE.out.trans HS4.out.gr (fun _ _ h => h)).trans hg5 (fun _ _ h => h))
      clear hg5
      go_wp2_with fail
      refine bodyPost_ret (v := .tuple #[.string ((⟨#[]⟩ : ByteArray) ++ (⟨#[124, 32]⟩ : ByteArray) ++ ju), .int .i64 0]) ?_ rfl ⟨by first | rfl | rw [if_neg HU.out, if_pos HJE.out, HJE.out], HE5.out⟩
      simp [results, Tryz.f13, go_sem]
    · have HJE := hidM hje
      have hne : jt.toList.isEmpty = false := by
        rw [ByteArray.toList_eq]
        cases hc : jt.data.toList.isEmpty with
        | false => rfl
        | true =>
          exfalso
          apply hje
          apply ByteArray.ext
          have : jt.data.toList = [] := List.isEmpty_iff.1 hc
          simpa using this
      clear hje
      go_wp2_with (go_at_call 41; refine Hid.out ?_)
      unfold Hid
      refine Calls.mono (H24.out _ HE.out) ?_
      rintro e W4 ⟨uo, uc, rfl, hs4⟩
      have HS4 := hidM hs4
      clear hs4
      go_wp2_with (go_at_call 39; refine Hid.out ?_)
      unfold Hid
      refine Calls.mono (HJU.out _ _ _ _ HS4.out) ?_
      rintro e W5 ⟨rfl, hg5⟩
      have HE5 := hidM ((HE.out.trans HS4.out.gr (fun _ _ h => h)).trans hg5 (fun _ _ h => h))
      clear hg5
      go_wp2_with fail
      refine bodyPost_ret (v := .tuple #[.string (jt ++ (⟨#[32]⟩ : ByteArray) ++ (⟨#[124, 32]⟩ : ByteArray) ++ ju), .int .i64 0]) ?_ rfl ⟨by first | rfl | rw [if_neg HU.out, if_neg HJE.out], HE5.out⟩
      simp [results, Tryz.f13, go_sem]
set_option maxRecDepth 100000 in
set_option maxHeartbeats 2000000 in
theorem print_false {fo no : Option Addr} {nf cf nn cn : Nat} {w : World} (hl : Ans 38 #[.agg #[.slice fo nf cf, .slice no nn cn]] false w) : AnsV 13 #[.agg #[.slice fo nf cf, .slice no nn cn]] (.tuple #[.string ⟨#[]⟩, .int .i64 5]) w := by
  intro W g
  have HL : Hid (∀ W', Gr W W' → Calls Tryz.prog 38 #[.agg #[.slice fo nf cf, .slice no nn cn]] W' fun e w' => e = .returned (.bool false) ∧ Gr W' w') := fun W' g' => hl W' (g.trans g' (fun _ _ h => h))
  clear hl g
  go_enter Tryz.func13, Tryz.ntmps13
  go_wp2_with (go_at_call 38; refine Hid.out ?_)
  unfold Hid
  refine Calls.mono (HL.out _ (gr_alloc W _)) ?_
  rintro e W1 ⟨rfl, hg1⟩
  have HG := hidM ((gr_alloc W _).trans hg1 (fun _ _ h => h))
  clear hg1
  go_wp2_with fail
  refine bodyPost_ret (v := .tuple #[.string ⟨#[]⟩, .int .i64 5]) ?_ rfl ⟨rfl, HG.out⟩
  simp [results, Tryz.f13, go_sem]
end Go.Proofs.YtkodgneneiledaaGreatDoor.Kit
