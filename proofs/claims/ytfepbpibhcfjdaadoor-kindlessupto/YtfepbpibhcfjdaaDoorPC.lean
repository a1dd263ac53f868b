import Derived.Test.YtfepbpibhcfjdaaDoorPD
namespace Go.Proofs.YtfepbpibhcfjdaaDoor.Kit
open Go.RowKit Go.Shelf Go.Deep
set_option linter.unusedVariables false
attribute [local go_sem] run_store_func

set_option maxRecDepth 100000 in
set_option maxHeartbeats 8000000 in
theorem less_any (S : Nat → Prop) (D : Nat) (fo no : Option Addr) (cf cn : Nat) (fs : List FT) (ns : List (ByteArray × ByteArray)) (z : Int) (w : World) (hT : Tab w) (hD : D ≤ big) (hS : ∀ b, S b → b < w.heap.size) (ha : Sch S w D fo no cf cn fs ns) :
    Calls Tryd.prog 4 #[.agg #[.slice fo fs.length cf, .slice no ns.length cn], .int .i64 z] w fun e w' => e = .returned (.bool true) ∧ Gr w w' := by
  have HAW := hidM (fun W (g : Gr w W) => awake_any W (hT.gr g))
  obtain ⟨er, p, tt, ta⟩ := ha.tells hT hD hS
  have C11 := hidM ta.t11
  have C12 := hidM (count_gen ta.look)
  have HA := hidM ha
  have HT := hidM hT
  have HD := hidM hD
  have HS := hidM hS
  have HTA := hidM ta.is
  have hfl : fs.length ≤ 1000000000000 := ha.row.len
  have hcf : fs.length ≤ cf := ha.le
  generalize hNl : ((nodes D fs [] false).length : Int) = NL at C12
  have HNl := hidM hNl
  clear hT hD hS ha ta hNl
  unfold Tells at C11
  unfold AnsV at C12
  generalize hL : fs.length = L at *
  generalize hL2 : ns.length = L2 at *
  have HL := hidM hL
  have HL2 := hidM hL2
  clear hL hL2
  obtain ⟨W0, hW0⟩ : ∃ W0, w.alloc (.cells #[.slice fo L cf, .slice no L2 cn] 25) = W0 := ⟨_, rfl⟩
  obtain ⟨X, hX⟩ : ∃ X, X = w.heap.size := ⟨_, rfl⟩
  have HB0 : Hid (BX w W0 X #[.slice fo L cf, .slice no L2 cn] 25) := ⟨by rw [← hW0]; exact gr_alloc w _, by rw [hX, ← hW0]; exact World.alloc_heap_new w _⟩
  have HX := hidM hX
  have hfld : ∀ vo vn vc w, (Instr.field 41 (.agg #[.int .i64 er, .slice vo vn vc, .int .i64 tt]) 0).run Tryd.prog w = .ok (.int .i64 er) w := fun vo vn vc w => by kernel_rfl
  go_enter Tryd.func4, Tryd.ntmps4
  go_wp2_with (go_at_call 6; refine Hid.out ?_)
  unfold Hid
  refine Calls.mono (HAW.out _ HB0.out.g) ?_
  rintro e W1 ⟨rfl, hg1⟩
  rw [← hX]
  have HB1 := hidM (HB0.out.gr hg1)
  clear hg1 HB0 HAW hW0 hX
  obtain ⟨_, c0, c1⟩ := bx2 HB1.out
  go_wp2_with (go_at_call 11; refine Hid.out ?_)
  unfold Hid
  refine Calls.mono (C11.out _ HB1.out.g) ?_
  rintro e W2 ⟨vo1, vc1, rfl, hk1, hi1⟩
  have HB2 := hidM (HB1.out.gr hk1)
  clear hk1 hi1 HB1 c0 c1
  obtain ⟨_, c0, c1⟩ := bx2 HB2.out
  by_cases h0 : er = 0
  · subst h0
    obtain ⟨hE, hAR⟩ := HTA.out.zero
    rw [if_pos rfl] at C12
    by_cases hz0 : z < 0
    · go_wp2_with fail
      go_ret
      exact ⟨rfl, HB2.out.g⟩
    by_cases hz1 : (L : Int) ≤ z
    · go_wp2_with fail
      go_ret
      exact ⟨rfl, HB2.out.g⟩
    obtain ⟨k, rfl⟩ : ∃ k : Nat, z = (k : Int) := ⟨z.toNat, by omega⟩
    have hk : k < L := by omega
    have hkl : k < fs.length := by rw [HL.out]; exact hk
    obtain ⟨d, rfl⟩ : ∃ d, D = d + 1 := by
      cases D with
      | zero => have : fs = [] := HA.out.row; rw [this] at hkl; simp at hkl
      | succ d => exact ⟨d, rfl⟩
    obtain ⟨b, o, F, rfl, hSb, hF⟩ := row_open HA.out.row (fun e => by rw [e] at hkl; simp at hkl)
    have HF := hidM hF
    have HSb := hidM hSb
    have HE := hidM hE
    have HAR := hidM hAR
    clear hF hSb hE hAR
    have hsz35 : ∀ w, (sizeOf (Tryd.prog.elem 22)).run Tryd.prog w = .ok 7 w := fun w => by kernel_rfl
    have hu22 : Tryd.prog.underlying 22 = some (.slice (Tryd.prog.elem 22)) := by kernel_rfl
    have hs1 : ∀ w, (Instr.slice 22 (.slice (some ⟨b, o, none⟩) L cf) none (some (.int .i64 (k : Int))) none).run Tryd.prog w = .ok (.slice (some ⟨b, o, none⟩) k cf) w := fun w => by
      rw [run_slice_h w 22 _ _ _ hu22 .i64 (k : Int) (by omega) (by omega), hsz35]
      simp only [Result.andThen_ok, sliced]
      congr 2
      split
      · rfl
      · simp [Addr.add]
    obtain ⟨ao2, m2, c2, hao2, hm2, hs2⟩ : ∃ ao2 m2 c2, (m2 ≠ 0 → ao2 = some ⟨b, o + (k + 1) * 7, none⟩) ∧ m2 = L - (k + 1) ∧ ∀ w, (Instr.slice 22 (.slice (some ⟨b, o, none⟩) L cf) (some (.int .i64 ((k : Int) + 1))) none none).run Tryd.prog w = .ok (.slice ao2 m2 c2) w := by
      refine ⟨if cf = k + 1 then some ⟨b, o, none⟩ else some ⟨b, o + (k + 1) * 7, none⟩, L - (k + 1), cf - (k + 1), fun h => by rw [if_neg (by omega)], rfl, fun w => ?_⟩
      rw [run_slice_l w 22 _ _ _ hu22 .i64 ((k : Int) + 1) (by omega) (by omega), hsz35]
      have e : ((k : Int) + 1).toNat = k + 1 := by omega
      simp only [Result.andThen_ok, sliced, e]
      simp [Addr.add]
    have HM2 := hidM hm2
    have HAO2 := hidM hao2
    clear hsz35 hu22 hm2 hao2
    have hwr1 : IntKind.i64.wrap ((k : Int) + 1) = (k : Int) + 1 := by rw [IntKind.wrap_i64]; omega
    have HSr1 : Hid (∀ W, Gr w W → Src Tryd.prog 7 22 (.slice (some ⟨b, o, none⟩) k cf) k (row7 (fs.take k) F) W) := fun W g => src_row W _ cf k (fs.take k) (by simp; omega) F fun _ => ⟨b, o, rfl, fun i hi => by
      have hi2 : i < fs.length := by simp at hi; omega
      rw [List.getElem_take]
      exact (HF.out i hi2).1.kept (g.block b (block_lt_of_cell (HF.out i hi2).1.c0) id)⟩
    have HSr2 : Hid (∀ W, Gr w W → Src Tryd.prog 7 22 (.slice ao2 m2 c2) m2 (row7 (fs.drop (k + 1)) (fun i => F (k + 1 + i))) W) := fun W g => src_row W _ c2 m2 (fs.drop (k + 1)) (by rw [HM2.out, ← HL.out]; simp) _ fun hn => ⟨b, o + (k + 1) * 7, HAO2.out (fun e => hn (List.eq_nil_of_length_eq_zero (by have := HM2.out; have := HL.out; simp; omega))), fun i hi => by
      have hi2 : k + 1 + i < fs.length := by simp at hi; omega
      rw [List.getElem_drop, show o + (k + 1) * 7 + i * 7 = o + (k + 1 + i) * 7 by omega]
      exact (HF.out _ hi2).1.kept (g.block b (block_lt_of_cell (HF.out _ hi2).1.c0) id)⟩
    have hb1 : (0 + k) * 80 ≤ 140737488355328 := by omega
    have hb2 : (k + m2) * 80 ≤ 140737488355328 := by have := HM2.out; omega
    have hb3 : k + m2 ≤ 9223372036854775807 := by have := HM2.out; omega
    have HB1' := hidM hb1
    have HB2' := hidM hb2
    have HB3' := hidM hb3
    clear hb1 hb2 hb3
    go_wp2_with fail
    have HIN : Hid (Hid (BX w W2.drew X #[.slice (some ⟨b, o, none⟩) L cf, .slice no L2 cn] 25) ∧ W2.drew.cell? ⟨X, 0, none⟩ = some (.slice (some ⟨b, o, none⟩) L cf) ∧ W2.drew.cell? ⟨X, 1, none⟩ = some (.slice no L2 cn)) := bx2 (HB2.out.gr gr_drew)
    have HG2 : Hid (Gr w W2) := HB2.out.g
    clear c0 c1
    go_region_held3 (fun w' => Hid (BX w w' X #[.slice (some ⟨b, o, none⟩) L cf, .slice no L2 cn] 25) ∧ w'.cell? ⟨X, 0, none⟩ = some (.slice (some ⟨b, o, none⟩) L cf) ∧ w'.cell? ⟨X, 1, none⟩ = some (.slice no L2 cn)) (first | with_reducible exact HIN.out | with_reducible exact bx2_kept HIN.out hk4 | with_reducible exact bx2_kept HIN.out hk3 | with_reducible exact bx2_kept (by assumption) (hidM (gr_alloc _ _)))
      (first
        | (refine step_append_anyN _ rfl (.tmp 28) (.tmp 32) 22 22 rfl 35 z37 7 80 Tryd.underlying22 info37 c37 _ 0 [] rfl (own_empty W2.drew _ rfl) _ k (row7 (fs.take k) F) rfl (HSr1.out _ (HG2.out.trans (gr_drew.alloc _) (fun _ _ h => h))) (by omega) HB1'.out ?_; intro v3 w3 hown3 hgrow3 hblk3; rw [Nat.zero_add, List.nil_append] at hown3; obtain ⟨xo, xc, rfl⟩ := own_formN hown3; have hk3 := hidM (grown_gr W2.drew _ rfl hgrow3); have hn3 := hidM (grown_new W2.drew _ rfl hblk3); replace hown3 := hidM hown3; clear hgrow3 hblk3)
        | (refine step_append_anyN _ rfl (.tmp 33) (.tmp 38) 22 22 rfl 35 z37 7 80 Tryd.underlying22 info37 c37 _ k (row7 (fs.take k) F) rfl hown3.out _ m2 _ rfl (HSr2.out _ (bx2_g (by assumption))) HB3'.out HB2'.out ?_; intro v4 w4 hown4 hgrow4 hblk4; obtain ⟨yo, yc, rfl⟩ := own_formN hown4; have hk4 := hidM (hk3.out.trans (Keeps.ofGrown hgrow4) (fun j hj e => Nat.not_lt.2 (hn3.out j e) hj)); replace hown4 := hidM hown4; clear hgrow4 hblk4))
    rename_i hHeld
    have HB4 := hidM hHeld.1.out
    obtain ⟨_, c0, c1⟩ := hHeld
    have hgw4 : Gr w w4 := HB4.out.g
    have hSw4 : ∀ c, S c → c < w4.heap.size := fun c hc => by have := HS.out c hc; have := hgw4.size; omega
    obtain ⟨hyc, hrow4⟩ := less_row (vc := yc) hkl (HA.out.row.len) HF.out hgw4 HS.out (by
      have h := hown4.out
      have e : fs.length - 1 = k + m2 := by have := HM2.out; have := HL.out; omega
      rw [e]; exact h)
    have hlen4 : (lessF fs k).length = k + m2 := by rw [lessF_len fs k hkl]; have := HM2.out; have := HL.out; omega
    have hyc' : (lessF fs k).length ≤ yc := by rw [lessF_len fs k hkl]; exact hyc
    have hls := lists_less (m := L - 1) (n := L) HE.out (by omega)
    have hls1 := lists_less (m := 1) (n := L) HE.out (by omega)
    have hT4 : Tab w4 := HT.out.gr hgw4
    have hAR4 := (less_sub d fs k hkl).allR HAR.out
    have sA : Sch (fun c => c < w4.heap.size) w4 (d + 1) yo no yc cn (lessF fs k) ns := ⟨hrow4, hyc', HA.out.notes.gr hgw4⟩
    have sB : Sch (fun c => c < w4.heap.size) w4 (d + 1) yo none yc 0 (lessF fs k) [] := ⟨hrow4, hyc', notes_nil w4⟩
    have sC : Sch S w (d + 1) (some ⟨b, o + k * 7, none⟩) none (cf - k) 0 [fs[k]] [] := by
      refine ⟨⟨by simp [big], fun _ => ⟨b, o + k * 7, rfl, HSb.out, fun i hi => ?_⟩⟩, by simp; omega, notes_nil w⟩
      have e : i = 0 := by simp at hi; omega
      subst e
      obtain ⟨f1, f2, f3⟩ := HF.out k hkl
      exact ⟨(F k).1, (F k).2, f1, f2, f3⟩
    obtain ⟨eA, pA, tA', tA⟩ := sA.tells hT4 HD.out (fun _ h => h)
    obtain ⟨eB, pB, tB', tB⟩ := sB.tells hT4 HD.out (fun _ h => h)
    obtain ⟨eC, pC, tC', tC⟩ := sC.tells HT.out HD.out HS.out
    have l1 : (listsE (lessF fs k).length ns).1 = 0 := by rw [lessF_len fs k hkl, HL.out]; exact hls.1
    have l2 : (listsE (lessF fs k).length []).1 = 0 := by rw [lessF_len fs k hkl, HL.out]; exact hls.2.1
    have l3 : (listsE [fs[k]].length []).1 = 0 := hls1.2.1
    obtain rfl := tA.is.of_ok l1 hAR4
    obtain rfl := tB.is.of_ok l2 hAR4
    obtain rfl := tC.is.of_ok l3 ((one_sub d fs k hkl).allR HAR.out)
    have A11 := hidM tA.t11
    have A12 := hidM (count_gen tB.look)
    have B12 := hidM (count_gen tC.look)
    rw [if_pos rfl] at A12 B12
    have hsum := less_len d fs k hkl
    have hN256 : (nodes (d + 1) fs [] false).length ≤ 256 := HAR.out.len
    have hNL := HNl.out
    generalize hn1 : (nodes (d + 1) (lessF fs k) [] false).length = n1 at *
    generalize hn2 : (nodes (d + 1) [fs[k]] [] false).length = n2 at *
    have hwr2 : IntKind.i64.wrap ((n1 : Int) + (n2 : Int)) = (n1 : Int) + (n2 : Int) := by rw [IntKind.wrap_i64]; omega
    have hNLe : (n1 : Int) + (n2 : Int) = NL := by omega
    have hs3 : ∀ w, (Instr.slice 22 (.slice (some ⟨b, o, none⟩) L cf) (some (.int .i64 (k : Int))) (some (.int .i64 ((k : Int) + 1))) none).run Tryd.prog w = .ok (.slice (some ⟨b, o + k * 7, none⟩) 1 (cf - k)) w := fun w => by
      have hsz35 : ∀ w, (sizeOf (Tryd.prog.elem 22)).run Tryd.prog w = .ok 7 w := fun w => by kernel_rfl
      have hu22 : Tryd.prog.underlying 22 = some (.slice (Tryd.prog.elem 22)) := by kernel_rfl
      rw [run_slice_lh w 22 _ _ _ hu22 .i64 .i64 (k : Int) ((k : Int) + 1) (by omega) (by omega) (by omega), hsz35]
      have e : ((k : Int) + 1).toNat = k + 1 := by omega
      have e2 : (k : Int).toNat = k := by omega
      simp only [Result.andThen_ok, sliced, e, e2]
      rw [if_neg (by omega), show k + 1 - k = 1 by omega]
      simp [Addr.add]
    unfold Tells at A11
    unfold AnsV at A12 B12
    rw [hlen4, HL2.out] at A11
    rw [hlen4] at A12
    have hNLe' : NL = (n1 : Int) + (n2 : Int) := hNLe.symm
    clear hNLe
    subst hNLe'
    have HG4 := hidM hgw4
    have HBX : Hid (BX w4 w4 X #[.slice (some ⟨b, o, none⟩) L cf, .slice no L2 cn] 25) := ⟨Keeps.refl _ _, HB4.out.b⟩
    have hfld2 : ∀ vo vn vc w, (Instr.field 41 (.agg #[.int .i64 0, .slice vo vn vc, .int .i64 tA']) 0).run Tryd.prog w = .ok (.int .i64 0) w := fun vo vn vc w => by kernel_rfl
    have HN256 : Hid ((n1 : Int) + (n2 : Int) ≤ 256) := by show (n1 : Int) + (n2 : Int) ≤ 256; omega
    clear hgw4 hSw4 hyc hrow4 hlen4 hyc' hls hls1 hT4 hAR4 sA sB sC tA tB tC l1 l2 l3 hsum hn1 hn2 hs1 hs2 hown4 hk4 hk3 hn3 hown3 HSr1 HSr2 hNL hN256 HB1' HB2' HB3' HIN HG2 HB2 hfld HTA C11
    go_wp2_with (go_at_call 12; refine Calls.mono (C12.out _ HG4.out) ?_; rintro e w5 ⟨rfl, hk5⟩; replace hk5 := hidM hk5)
    have HB5 := hidM (HBX.out.gr hk5.out)
    clear c0 c1
    have HIN : Hid (Hid (BX w4 w5.drew X #[.slice (some ⟨b, o, none⟩) L cf, .slice no L2 cn] 25) ∧ w5.drew.cell? ⟨X, 0, none⟩ = some (.slice (some ⟨b, o, none⟩) L cf) ∧ w5.drew.cell? ⟨X, 1, none⟩ = some (.slice no L2 cn)) := bx2 (HB5.out.gr gr_drew)
    go_region_held3 (fun w' => Hid (BX w4 w' X #[.slice (some ⟨b, o, none⟩) L cf, .slice no L2 cn] 25) ∧ w'.cell? ⟨X, 0, none⟩ = some (.slice (some ⟨b, o, none⟩) L cf) ∧ w'.cell? ⟨X, 1, none⟩ = some (.slice no L2 cn)) (first | with_reducible exact HIN.out | with_reducible exact bx2_kept (by assumption) hk8 | with_reducible exact bx2_kept (by assumption) hk7 | with_reducible exact bx2_kept (by assumption) hk6)
      (first
        | (go_at_call 11; refine Calls.mono (A11.out _ (bx2_g (by assumption))) ?_; rintro e v1 ⟨vo5, vc5, rfl, hk6, hi6⟩; replace hk6 := hidM hk6; clear hi6)
        | (go_at_call 12; (with_reducible show Calls _ _ #[.agg #[.slice yo (k + m2) yc, .slice none 0 0]] _ _); refine Calls.mono (A12.out _ (bx2_g (by assumption))) ?_; rintro e v2 ⟨rfl, hk7⟩; replace hk7 := hidM hk7)
        | (go_at_call 12; (with_reducible show Calls _ _ #[.agg #[.slice (some ⟨b, o + k * 7, none⟩) 1 (cf - k), .slice none 0 0]] _ _); refine Calls.mono (B12.out _ (HG4.out.trans (bx2_g (by assumption)) (fun _ _ h => h))) ?_; rintro e v3 ⟨rfl, hk8⟩; replace hk8 := hidM hk8))
    rename_i hHeld
    have HB8 := hidM hHeld.1.out
    obtain ⟨_, c0, c1⟩ := hHeld
    have HG8 : Hid (Gr w v3) := HG4.out.trans HB8.out.g (fun _ _ h => h)
    have HBw : Hid (BX w v3 X #[.slice (some ⟨b, o, none⟩) L cf, .slice no L2 cn] 25) := ⟨HG8.out, HB8.out.b⟩
    clear hk6 hk7 hk8 hk5 HIN HB5 A11 A12 B12 C12 hs3 hfld2 HB8 HB4 HBX HM2 HAO2
    by_cases q1 : L = 32
    · have q1I : (L : Int) = 32 := by omega
      go_wp2_with fail
      go_ret
      exact ⟨rfl, HG8.out⟩
    by_cases q2 : (n1 : Int) + (n2 : Int) = 256
    · have q1I : ¬ (L : Int) = 32 := by omega
      go_wp2_with fail
      go_ret
      exact ⟨rfl, HG8.out⟩
    have q1B : ((L : Int) == 32) = false := by simp; omega
    have q2B : ((n1 : Int) + (n2 : Int) == 256) = false := by simpa using q2
    have Q2 := hidM q2
    have Q1 := hidM q1
    clear q1 q2
    obtain ⟨f, hf⟩ : ∃ f, f = fs[k]'hkl := ⟨_, rfl⟩
    have hFk := (HF.out k hkl).1
    rw [← hf] at hFk
    generalize hFo : (F k).1 = ko at hFk
    generalize hFc : (F k).2 = kc at hFk
    have HCk : Hid (CellsAt v3 b (o + k * 7) f ko kc) := hFk.kept (HG8.out.block b (block_lt_of_cell hFk.c0) id)
    have HFo := hidM hFo
    have HFc := hidM hFc
    have Hf := hidM hf
    clear hFk hFo hFc hf
    go_wp2_with fail
    have HIN : Hid (Hid (BX w v3.drew X #[.slice (some ⟨b, o, none⟩) L cf, .slice no L2 cn] 25 ∧ CellsAt v3.drew b (o + k * 7) f ko kc) ∧ v3.drew.cell? ⟨X, 0, none⟩ = some (.slice (some ⟨b, o, none⟩) L cf) ∧ v3.drew.cell? ⟨b, o + k * 7, none⟩ = some (.string f.name) ∧ v3.drew.cell? ⟨b, o + k * 7 + 1, none⟩ = some (.bool f.nul) ∧ v3.drew.cell? ⟨b, o + k * 7 + 2, none⟩ = some (.int .i64 f.kind) ∧ v3.drew.cell? ⟨b, o + k * 7 + 3, none⟩ = some (.int .i64 f.width) ∧ v3.drew.cell? ⟨b, o + k * 7 + 4, none⟩ = some (.int .i64 f.id) ∧ v3.drew.cell? ⟨b, o + k * 7 + 5, none⟩ = some (.int .i64 f.index) ∧ v3.drew.cell? ⟨b, o + k * 7 + 6, none⟩ = some (.slice ko f.kids.length kc)) := bxf (HBw.out.gr gr_drew) (HCk.out.kept rfl)
    clear c0 c1
    have hN0 : X < v3.heap.size ∧ b < v3.heap.size ∧ w.heap.size ≤ v3.heap.size := ⟨lt_of_heap HBw.out.b, block_lt_of_cell HCk.out.c0, HG8.out.size⟩
    have HN0 := hidM hN0
    clear hN0
    have HSr3 : Hid (∀ W, Gr w W → Src Tryd.prog 7 22 (.slice (some ⟨b, o, none⟩) L cf) L (row7 fs F) W) := fun W g => src_row W _ cf L fs HL.out.symm F fun _ => ⟨b, o, rfl, fun i hi => (HF.out i hi).1.kept (g.block b (block_lt_of_cell (HF.out i hi).1.c0) id)⟩
    have HCk2 : Hid (∀ W zo zc, Gr w W → W.ownsRow 0 35 7 (.slice zo (L + 1) zc) (L + 1) (row7 fs F ++ row7 [f] (fun _ => (ko, kc))) → Calls Tryd.prog 11 #[.agg #[.slice zo (L + 1) zc, .slice none 0 0]] W fun e w' => ∃ vo vc, e = .returned (.agg #[.int .i64 31, .slice vo 1 vc, .int .i64 0]) ∧ Gr W w' ∧ IntsAt w' vo [L]) := fun W zo zc g h => by
      rw [Hf.out, ← HFo.out, ← HFc.out, ← HL.out] at h
      have h' := twice_call hkl HF.out HS.out HT.out HD.out HAR.out (by have := HNl.out; have := HN256.out; have := Q2.out; omega) (by have := lists_less (m := L) HE.out (Nat.le_refl _); have := Q1.out; have := HL.out; omega) g h
      rw [HL.out] at h'
      exact h'
    have hb4 : (0 + L) * 80 ≤ 140737488355328 := by omega
    have hb5 : (L + 1) * 80 ≤ 140737488355328 := by omega
    have HB4' := hidM hb4
    have HB5' := hidM hb5
    have nz7 : (#[Value.string f.name, .bool f.nul, .int .i64 f.kind, .int .i64 f.width, .int .i64 f.id, .int .i64 f.index, .slice ko f.kids.length kc] : Array Value).size ≠ 0 := by simp
    clear hb4 hb5
    go_region_held3 (fun w' => Hid (BX w w' X #[.slice (some ⟨b, o, none⟩) L cf, .slice no L2 cn] 25 ∧ CellsAt w' b (o + k * 7) f ko kc) ∧ w'.cell? ⟨X, 0, none⟩ = some (.slice (some ⟨b, o, none⟩) L cf) ∧ w'.cell? ⟨b, o + k * 7, none⟩ = some (.string f.name) ∧ w'.cell? ⟨b, o + k * 7 + 1, none⟩ = some (.bool f.nul) ∧ w'.cell? ⟨b, o + k * 7 + 2, none⟩ = some (.int .i64 f.kind) ∧ w'.cell? ⟨b, o + k * 7 + 3, none⟩ = some (.int .i64 f.width) ∧ w'.cell? ⟨b, o + k * 7 + 4, none⟩ = some (.int .i64 f.id) ∧ w'.cell? ⟨b, o + k * 7 + 5, none⟩ = some (.int .i64 f.index) ∧ w'.cell? ⟨b, o + k * 7 + 6, none⟩ = some (.slice ko f.kids.length kc)) (first | (with_reducible apply HIN.out) | (with_reducible apply hS4.out) | (with_reducible apply hS5.out) | (with_reducible apply hS6.out) | (with_reducible apply bxf_al (by assumption)) | (with_reducible apply bxf_alD (by assumption)) | (with_reducible apply bxf_alD HIN.out) | (with_reducible apply bxf_al hS6.out) | (with_reducible apply bxf_set3 v3.heap.size hS6.out (by omega) HN0.out.1 HN0.out.2.1 HN0.out.2.2))
      (first
        | (refine step_append_anyN _ rfl (.tmp 71) (.tmp 73) 22 22 rfl 35 z37 7 80 Tryd.underlying22 info37 c37 (.slice (some ⟨_, 0, none⟩) 0 0) 0 [] rfl (own_e (by first | (with_reducible (apply hp_d; apply O1)) | (with_reducible (apply hp_d; apply O2)) | (with_reducible (apply hp_d; apply O3)) | (with_reducible (apply hp_d; apply blk_alloc; apply O1)) | (with_reducible (apply hp_d; apply blk_alloc; apply O2)) | (with_reducible (apply hp_d; apply blk_alloc; apply blk_alloc; apply O1)))) (.slice (some ⟨b, o, none⟩) L cf) L (row7 fs F) rfl (HSr3.out _ (bxf_g (by assumption))) (by omega) HB4'.out ?_; intro u4 w4' hown4 hgrow4 hblk4; rw [Nat.zero_add, List.nil_append] at hown4; obtain ⟨xo', xc', rfl⟩ := own_formN hown4; have hS4 := hidM (bxf_grow v3.heap.size (by assumption) (Keeps.ofGrown hgrow4) (own_E_ge _ _ (by first | omega | (simp; done) | (simp; omega))) HN0.out.1 HN0.out.2.1 HN0.out.2.2); have hn4 := hidM (own_ge (N := v3.heap.size) hblk4 (own_E_ge _ _ (by first | omega | (simp; done) | (simp; omega))) (by first | omega | (simp; done) | (simp; omega))); have hz4 : v3.heap.size ≤ w4'.heap.size := Nat.le_trans (by first | omega | (simp; done) | (simp; omega)) (Keeps.ofGrown hgrow4).size; have hTT4 := hidM (own_T (own_e (by first | (with_reducible (apply hp_d; apply O1)) | (with_reducible (apply hp_d; apply O2)) | (with_reducible (apply hp_d; apply O3)) | (with_reducible (apply hp_d; apply blk_alloc; apply O1)) | (with_reducible (apply hp_d; apply blk_alloc; apply O2)) | (with_reducible (apply hp_d; apply blk_alloc; apply blk_alloc; apply O1)))) (Keeps.ofGrown hgrow4)); have hFF4 := hidM (own_F (by first | (with_reducible (apply hp_d; apply O1)) | (with_reducible (apply hp_d; apply O2)) | (with_reducible (apply hp_d; apply O3)) | (with_reducible (apply hp_d; apply blk_alloc; apply O1)) | (with_reducible (apply hp_d; apply blk_alloc; apply O2)) | (with_reducible (apply hp_d; apply blk_alloc; apply blk_alloc; apply O1))) (Keeps.ofGrown hgrow4)); replace hown4 := hidM hown4; clear hgrow4 hblk4)
        | (refine step_append_anyN _ rfl (.tmp 74) (.tmp 80) 22 22 rfl 35 z37 7 80 Tryd.underlying22 info37 c37 (.slice xo' L xc') L (row7 fs F) rfl (by first | (with_reducible apply hown4.out) | (with_reducible (apply own_alloc; apply hown4.out)) | (with_reducible (apply own_alloc; apply own_alloc; apply hown4.out))) (.slice (some ⟨_, 0, none⟩) 1 1) 1 (row7 [f] (fun _ => (ko, kc))) rfl (src_one (by first | (with_reducible (apply O1)) | (with_reducible (apply O2)) | (with_reducible (apply blk_alloc; apply O1)) | (with_reducible (apply hFF4.out _ _ nz7; apply hp_d; apply O2)) | (with_reducible (apply hFF4.out _ _ nz7; apply hp_d; apply O3)) | (with_reducible (apply hFF4.out _ _ nz7; apply hp_d; apply blk_alloc; apply O1)) | (with_reducible (apply hFF4.out _ _ nz7; apply hp_d; apply blk_alloc; apply O2)) | (with_reducible (apply hFF4.out _ _ nz7; apply hp_d; apply blk_alloc; apply blk_alloc; apply O1)) | (with_reducible (apply blk_alloc; apply hFF4.out _ _ nz7; apply hp_d; apply O2)) | (with_reducible (apply blk_alloc; apply hFF4.out _ _ nz7; apply hp_d; apply blk_alloc; apply O1)))) (by omega) HB5'.out ?_; intro u5 w5' hown5 hgrow5 hblk5; obtain ⟨zo, zc, rfl⟩ := own_formN hown5; have hS5 := hidM (bxf_grow v3.heap.size (by assumption) (Keeps.ofGrown hgrow5) hn4.out HN0.out.1 HN0.out.2.1 HN0.out.2.2); have hz5 : v3.heap.size ≤ w5'.heap.size := Nat.le_trans hz4 (Nat.le_trans (by (try simp only [World.size_alloc]); omega) (Keeps.ofGrown hgrow5).size); have hTT5 := hidM (own_T (by first | (with_reducible apply hown4.out) | (with_reducible (apply own_alloc; apply hown4.out)) | (with_reducible (apply own_alloc; apply own_alloc; apply hown4.out))) (Keeps.ofGrown hgrow5)); replace hown5 := hidM hown5; clear hgrow5 hblk5)
        | (go_at_call 11; refine Calls.mono (HCk2.out _ zo zc (bxf_g (by assumption)) (by first | (with_reducible apply hown5.out) | (with_reducible (apply own_alloc; apply hown5.out)))) ?_; rintro e v6 ⟨vo6, vc6, rfl, hk6, hi6⟩; have hz6 : v3.heap.size ≤ v6.heap.size := Nat.le_trans hz5 (Nat.le_trans (by (try simp only [World.size_alloc]); omega) hk6.size); have hi6' := hidM hi6;
            (first
              | have hT6 := tcells (W := v6) (G := w5'.heap.size) (x := .int .i64 0) (y := .slice none 0 0) (z := .int .i64 0) (by with_reducible (apply gr_blk hk6; apply O1))
              | have hT6 := tcells (W := v6) (G := w4'.heap.size) (x := .int .i64 0) (y := .slice none 0 0) (z := .int .i64 0) (by with_reducible (apply gr_blk hk6; apply hTT5.out; apply O1))
              | have hT6 := tcells (W := v6) (G := w4'.heap.size + 1) (x := .int .i64 0) (y := .slice none 0 0) (z := .int .i64 0) (by with_reducible (apply gr_blk hk6; apply hTT5.out; apply O2))
              | have hT6 := tcells (W := v6) (G := w4'.heap.size) (x := .int .i64 0) (y := .slice none 0 0) (z := .int .i64 0) (by with_reducible (apply gr_blk hk6; apply hTT5.out; apply blk_alloc; apply O1))
              | have hT6 := tcells (W := v6) (G := v3.heap.size) (x := .int .i64 0) (y := .slice none 0 0) (z := .int .i64 0) (by with_reducible (apply gr_blk hk6; apply hTT5.out; apply hTT4.out; apply hp_d; apply blk_alloc; apply blk_alloc; apply O1))
              | have hT6 := tcells (W := v6) (G := v3.heap.size) (x := .int .i64 0) (y := .slice none 0 0) (z := .int .i64 0) (by with_reducible (apply gr_blk hk6; apply hTT5.out; apply blk_alloc; apply hTT4.out; apply hp_d; apply blk_alloc; apply O1))
              | have hT6 := tcells (W := v6) (G := v3.heap.size + 1) (x := .int .i64 0) (y := .slice none 0 0) (z := .int .i64 0) (by with_reducible (apply gr_blk hk6; apply hTT5.out; apply hTT4.out; apply hp_d; apply blk_alloc; apply O2))
              | have hT6 := tcells (W := v6) (G := v3.heap.size + 1) (x := .int .i64 0) (y := .slice none 0 0) (z := .int .i64 0) (by with_reducible (apply gr_blk hk6; apply hTT5.out; apply blk_alloc; apply hTT4.out; apply hp_d; apply O2))
              | have hT6 := tcells (W := v6) (G := v3.heap.size + 2) (x := .int .i64 0) (y := .slice none 0 0) (z := .int .i64 0) (by with_reducible (apply gr_blk hk6; apply hTT5.out; apply hTT4.out; apply hp_d; apply O3))
              | skip); have hS6 := hidM (bxf_kept (by assumption) (hidM hk6)); clear hi6 hk6))
    all_goals
      rename_i hHeld
      first
        | (refine end_set (P := Exit.then _ _ _ _) hT6.1.out hi6'.out (by omega) (bxf_g hHeld) ?_)
        | (refine end_al (P := Exit.then _ _ _ _) hi6'.out (bxf_g hHeld) ?_)
      intro W7 HG7 hx7 HI7
      obtain ⟨y0, y1, y2⟩ := cell3 hx7
      have HEQ : Hid (Calls Tryd.prog 13 #[.slice vo6 1 vc6, .slice (some ⟨W7.heap.size, 0, none⟩) 1 1] (W7.alloc (.cells #[.int .i64 (L : Int)] 3)) fun e w' => e = .returned (.bool true) ∧ Gr (W7.alloc (.cells #[.int .i64 (L : Int)] 3)) w') := eqInts_true vo6 _ vc6 1 [L] (by simp [big]) _ (HI7.out.gr (gr_alloc _ _)) (ints_new W7 L)
      clear hHeld hx7 HIN
      go_wp2_with (go_at_call 13; refine Calls.mono HEQ.out ?_; rintro e W8 ⟨rfl, hk8⟩; have HW8 := hidM ((HG7.out.alloc _).trans hk8 (fun _ _ h => h)); have y8 := hk8.cell' ((gr_alloc W7 _).cell' y2 id) id; clear hk8)
      go_ret
      exact ⟨rfl, HW8.out⟩
  · have hne : (er == 0) = false := by simpa using h0
    rw [if_neg h0] at C12
    go_wp2_with (go_at_call 12; refine Calls.mono (C12.out _ HB2.out.g) ?_; rintro e W3 ⟨rfl, hk2⟩)
    go_ret
    exact ⟨rfl, HB2.out.g.trans hk2 (fun _ _ h => h)⟩
end Go.Proofs.YtfepbpibhcfjdaaDoor.Kit
