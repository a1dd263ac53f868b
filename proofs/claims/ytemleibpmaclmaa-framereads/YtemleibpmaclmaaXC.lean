import Derived.Test.YtemleibpmaclmaaXB
import Derived.Test.YtemleibpmaclmaaTM
import Derived.Test.YtemleibpmaclmaaRE
namespace Go.Proofs.Ytemleibpmaclmaa.Kit
open Go.RowKit Go.Shelf Go.Deep
set_option linter.unusedVariables false
attribute [local go_sem] run_store_func

set_option maxRecDepth 100000 in
set_option maxHeartbeats 8000000 in
theorem docNext_end {w W : World} {x lm lb : Nat} {F : List UInt8} {sh : Bool} {A : Nat} {last : Bool} {fo : Option Addr} {fc n : Nat} (h : Dr w W x lm lb F sh A last fo fc n) (hn : n ≤ 140737488355000) (hlm : lm ≤ 65536) (hlb : lb ≤ 4194304) (hl : last = false) (hno : (judgeF lm lb (F.drop A)).1 ≠ 0) (h48 : (F.drop A).getD 3 0 = 48) (hww : w.heap.size ≤ W.heap.size) :
    Calls Try.prog 41 #[.pointer (some ⟨x, 0, none⟩)] W fun e w' => e = .returned (.tuple #[.agg #[.slice none 0 0, .slice none 0 0], .int .i64 (docN lm lb last sh (F.drop A)).1, .int .i64 (docN lm lb last sh (F.drop A)).2]) ∧ Dr w w' x lm lb F sh (A + allN (F.drop A)) true fo fc n ∧ Keeps W w' (fun g => g = x) := by
  subst hl
  obtain ⟨bo, bc, hcut, hbb, hbc, hbm, hnf⟩ := h.rest
  have HCs := hidM hcut
  obtain ⟨b, hb⟩ : ∃ b, F.drop A = b := ⟨_, rfl⟩
  rw [hb] at hno hbb h48 ⊢
  obtain ⟨N, hN⟩ : ∃ N, allN b = N := ⟨_, rfl⟩
  rw [hN]
  have hra := heap_alloc_new W (.cells #[.slice none 0 0, .slice none 0 0] 24)
  have gA := gr_alloc W (.cells #[.slice none 0 0, .slice none 0 0] 24)
  obtain ⟨W0, hW0⟩ : ∃ W0, W0 = W.alloc (.cells #[.slice none 0 0, .slice none 0 0] 24) := ⟨_, rfl⟩
  obtain ⟨ra, hrae⟩ : ∃ ra, ra = W.heap.size := ⟨_, rfl⟩
  rw [← hW0] at hra gA
  rw [← hrae] at hra
  have HD0 := hidM (h.grow gA)
  have HB0 := hidM (hbb.gr gA)
  have HGA := hidM gA
  have HRa := hidM hra
  have HIN : Hid (W0.drew.cell? ⟨x, 2, none⟩ = some (.slice fo n fc) ∧ W0.drew.cell? ⟨x, 4, none⟩ = some (.int .i64 (A : Int))) := by
    obtain ⟨-, -, c2, -, c4, -⟩ := ce6 (HD0.out.grow ((Keeps.refl W0 _).drew)).box
    exact ⟨c2, c4⟩
  have hA0 : (0 : Int) ≤ (A : Int) := by omega
  have hAn : (A : Int) ≤ (n : Int) := by have := h.at'; omega
  have hnfI : (n : Int) ≤ (fc : Int) := by omega
  have HFl := hidM h.len
  have HAt := hidM h.at'
  have HRl : Hid (W.heap.size ≤ ra) := by show _ ≤ _; omega
  clear h hcut hbb hra gA
  go_enter Try.func41, Try.ntmps41
  go_wp2_with fail
  rw [← hrae, ← hW0]
  refine wp_region_held_drew (S := fun w' => w'.cell? ⟨x, 2, none⟩ = some (.slice fo n fc) ∧ w'.cell? ⟨x, 4, none⟩ = some (.int .i64 (A : Int))) (by kernel_rfl) (HIN.out) (fun hHeld => ?_)
  refine wpAnyH_take (i := 0) (oi := { dst := some 10, op := Op.move (Operand.tmp 0), type := 48, pos := "ref.go:157", after := #[], guard := none }) (v := ?v0a1) rfl (by kernel_rfl) (by kernel_rfl) (by kernel_rfl) (fun _ _ _ h => h) (Or.inl ⟨by rfl, ?y0a1⟩) (by assumption) ?r0a1
  case y0a1 => (intro w hSw; obtain ⟨s1, s2⟩ := hSw; go_simp; (try with_reducible rfl))
  (try simp only [Act.put]); (try simp only [List.setIfInBounds_toArray]); (try simp only [List.set_cons_succ]); (try simp only [List.set_cons_zero])
  refine wpAnyH_take (i := 1) (oi := { dst := some 11, op := Op.nilCheck (Operand.tmp 10), type := 0, pos := "ref.go:157", after := #[{ on := 0, ground := Ground.data }], guard := none }) (v := ?v1a2) rfl (by kernel_rfl) (by kernel_rfl) (by kernel_rfl) (fun _ _ _ h => h) (Or.inl ⟨by rfl, ?y1a2⟩) (by assumption) ?r1a2
  case y1a2 => (intro w hSw; obtain ⟨s1, s2⟩ := hSw; go_simp; (try with_reducible rfl))
  (try simp only [Act.put]); (try simp only [List.setIfInBounds_toArray]); (try simp only [List.set_cons_succ]); (try simp only [List.set_cons_zero])
  refine wpAnyH_take (i := 2) (oi := { dst := some 12, op := Op.fieldAddr 82 (Operand.tmp 11) 1, type := 0, pos := "ref.go:157", after := #[{ on := 1, ground := Ground.data }], guard := none }) (v := ?v2a3) rfl (by kernel_rfl) (by kernel_rfl) (by kernel_rfl) (fun _ _ _ h => h) (Or.inl ⟨by rfl, ?y2a3⟩) (by assumption) ?r2a3
  case y2a3 => (intro w hSw; obtain ⟨s1, s2⟩ := hSw; go_simp; (try with_reducible rfl))
  (try simp only [Act.put]); (try simp only [List.setIfInBounds_toArray]); (try simp only [List.set_cons_succ]); (try simp only [List.set_cons_zero])
  refine wpAnyH_take (i := 3) (oi := { dst := some 13, op := Op.load 22 (Operand.tmp 12), type := 22, pos := "ref.go:157", after := #[{ on := 2, ground := Ground.data }], guard := none }) (v := ?v3a4) rfl (by kernel_rfl) (by kernel_rfl) (by kernel_rfl) (fun _ _ _ h => h) (Or.inl ⟨by rfl, ?y3a4⟩) (by assumption) ?r3a4
  case y3a4 => (intro w hSw; obtain ⟨s1, s2⟩ := hSw; go_simp; (try with_reducible rfl))
  (try simp only [Act.put]); (try simp only [List.setIfInBounds_toArray]); (try simp only [List.set_cons_succ]); (try simp only [List.set_cons_zero])
  refine wpAnyH_take (i := 4) (oi := { dst := some 14, op := Op.move (Operand.tmp 0), type := 48, pos := "ref.go:157", after := #[], guard := none }) (v := ?v4a5) rfl (by kernel_rfl) (by kernel_rfl) (by kernel_rfl) (fun _ _ _ h => h) (Or.inl ⟨by rfl, ?y4a5⟩) (by assumption) ?r4a5
  case y4a5 => (intro w hSw; obtain ⟨s1, s2⟩ := hSw; go_simp; (try with_reducible rfl))
  (try simp only [Act.put]); (try simp only [List.setIfInBounds_toArray]); (try simp only [List.set_cons_succ]); (try simp only [List.set_cons_zero])
  refine wpAnyH_take (i := 5) (oi := { dst := some 15, op := Op.nilCheck (Operand.tmp 14), type := 0, pos := "ref.go:157", after := #[{ on := 4, ground := Ground.data }], guard := none }) (v := ?v5a6) rfl (by kernel_rfl) (by kernel_rfl) (by kernel_rfl) (fun _ _ _ h => h) (Or.inl ⟨by rfl, ?y5a6⟩) (by assumption) ?r5a6
  case y5a6 => (intro w hSw; obtain ⟨s1, s2⟩ := hSw; go_simp; (try with_reducible rfl))
  (try simp only [Act.put]); (try simp only [List.setIfInBounds_toArray]); (try simp only [List.set_cons_succ]); (try simp only [List.set_cons_zero])
  refine wpAnyH_take (i := 6) (oi := { dst := some 16, op := Op.fieldAddr 82 (Operand.tmp 15) 3, type := 0, pos := "ref.go:157", after := #[{ on := 5, ground := Ground.data }], guard := none }) (v := ?v6a7) rfl (by kernel_rfl) (by kernel_rfl) (by kernel_rfl) (fun _ _ _ h => h) (Or.inl ⟨by rfl, ?y6a7⟩) (by assumption) ?r6a7
  case y6a7 => (intro w hSw; obtain ⟨s1, s2⟩ := hSw; go_simp; (try with_reducible rfl))
  (try simp only [Act.put]); (try simp only [List.setIfInBounds_toArray]); (try simp only [List.set_cons_succ]); (try simp only [List.set_cons_zero])
  refine wpAnyH_take (i := 7) (oi := { dst := some 17, op := Op.load 3 (Operand.tmp 16), type := 3, pos := "ref.go:157", after := #[{ on := 6, ground := Ground.data }], guard := none }) (v := ?v7a8) rfl (by kernel_rfl) (by kernel_rfl) (by kernel_rfl) (fun _ _ _ h => h) (Or.inl ⟨by rfl, ?y7a8⟩) (by assumption) ?r7a8
  case y7a8 => (intro w hSw; obtain ⟨s1, s2⟩ := hSw; go_simp; (try with_reducible rfl))
  (try simp only [Act.put]); (try simp only [List.setIfInBounds_toArray]); (try simp only [List.set_cons_succ]); (try simp only [List.set_cons_zero])
  refine wpAnyH_take (i := 8) (oi := { dst := some 18, op := Op.slice 22 (Operand.tmp 13) (some (Operand.tmp 17)) none none, type := 22, pos := "ref.go:157", after := #[{ on := 3, ground := Ground.data }, { on := 7, ground := Ground.data }], guard := none }) (v := .slice bo (n - A) bc) rfl (by kernel_rfl) (by kernel_rfl) (by kernel_rfl) (fun _ _ _ h => h) (Or.inl ⟨by rfl, ?y8a⟩) (by assumption) ?r8a
  case y8a => (intro w hSw; clear HIN; rcases HCs.out with ⟨e1, e2, e3, e4, e5, e6⟩ | ⟨X, e1, e2, e3, e4, e5⟩ | ⟨X, e1, e2, e3, e4, e5⟩; (subst e1 e2 e3 e4 e5 e6; go_simp; try rfl); (subst e1 e2 e3 e4 e5; go_simp; try rfl); (subst e1 e4 e5; have c9 : ¬ fc = A := (by omega); go_simp; try rfl))
  (try simp only [Act.put]); (try simp only [List.setIfInBounds_toArray]); (try simp only [List.set_cons_succ]); (try simp only [List.set_cons_zero])
  refine wpAnyH_take (i := 9) (oi := { dst := some 5, op := Op.assign (Operand.tmp 18), type := 22, pos := "ref.go:157", after := #[{ on := 8, ground := Ground.data }, { on := 0, ground := Ground.phase }, { on := 1, ground := Ground.phase }, { on := 2, ground := Ground.phase }, { on := 3, ground := Ground.phase }, { on := 4, ground := Ground.phase }, { on := 5, ground := Ground.phase }, { on := 6, ground := Ground.phase }, { on := 7, ground := Ground.phase }, { on := 8, ground := Ground.phase }], guard := none }) (v := ?v9a9) rfl (by kernel_rfl) (by kernel_rfl) (by kernel_rfl) (fun _ _ _ h => h) (Or.inl ⟨by rfl, ?y9a9⟩) (by assumption) ?r9a9
  case y9a9 => (intro w hSw; obtain ⟨s1, s2⟩ := hSw; go_simp; (try with_reducible rfl))
  (try simp only [Act.put]); (try simp only [List.setIfInBounds_toArray]); (try simp only [List.set_cons_succ]); (try simp only [List.set_cons_zero])
  refine wpAnyH_done (by kernel_rfl) ?_ _
  clear hHeld
  obtain ⟨V0, hV0⟩ : ∃ V0, W0.drew = V0 := ⟨_, rfl⟩
  have gD : Gr W0 V0 := by rw [← hV0]; exact (Keeps.refl W0 _).drew
  have HDV := hidM (HD0.out.grow gD)
  have HBV := hidM (HB0.out.gr gD)
  have HGV := hidM (HGA.out.trans gD (fun _ _ h => h))
  have hraV := (gD.block ra (lt_of_heap HRa.out) id).trans HRa.out
  obtain ⟨L, hL⟩ : ∃ L, n - A = L := ⟨_, rfl⟩
  rw [hV0, hL]
  rw [hL] at hbc
  obtain ⟨c0, c1, -, -, -, c5⟩ := ce6 HDV.out.box
  have HBl : Hid ((F.drop A).length = L) := by show _ = _; rw [List.length_drop, HFl.out]; exact hL
  rw [hb] at HBl
  have hLn : L ≤ 140737488355000 := by omega
  obtain ⟨j1, j2, j3, j4, j5, j6, j7⟩ := judge_takes hno
  rw [hN] at j1 j2 j3
  have hNL : N ≤ L := by rw [← HBl.out]; exact j2
  have HJ : Hid (Calls Try.prog 54 #[.slice bo L bc, .agg #[.int .i64 (lm : Int), .int .i64 (lb : Int)]] V0 fun e w' => e = .returned (.tuple #[.int .i64 (N : Int), .int .i64 0]) ∧ Gr V0 w') := by
    have := docJudge_any (lm := lm) (lb := lb) HBV.out HBl.out hLn hbc hbm hlm hlb
    rw [j1] at this
    exact this
  have HEq : Hid (docN lm lb true sh (F.drop (A + N)) = docN lm lb false sh b) := by
    show _ = _
    have e1 : b.drop N = F.drop (A + N) := by rw [← hb, List.drop_drop]
    have l1 : ∀ q, docN lm lb true sh q = if q = [] then (3, 0) else (4, 74) := fun q => by unfold docN; rw [if_pos rfl]
    have r1 : docN lm lb false sh b = if b.drop (allN b) = [] then (3, 0) else (4, 74) := by unfold docN; rw [if_neg (by simp), if_neg hno, if_pos h48]
    rw [l1, r1, hN, e1]
  obtain ⟨B, o, rfl, hcb⟩ := HBV.out.at (ne_nil (show 3 < b.length by rw [HBl.out]; omega))
  have y3 := hcb 3 (by rw [HBl.out]; omega)
  rw [h48] at y3
  have y3' : V0.cell? ⟨B, o + 3, none⟩ = some (.int .u8 48) := y3
  have hBt : B ≠ x := fun q => by
    subst q
    simp only [World.cell?, HDV.out.box] at y3'
    have h6 : o + 3 < 6 := by
      rcases Nat.lt_or_ge (o + 3) 6 with z | z
      · exact z
      · simp [show (#[.int .i64 (lm : Int), .int .i64 (lb : Int), .slice fo n fc, .bool sh, .int .i64 (A : Int), .bool false] : Array Value)[o + 3]? = none from by simp; omega] at y3'
    have : o + 3 = 3 ∨ o + 3 = 4 ∨ o + 3 = 5 := by omega
    rcases this with z | z | z <;> rw [z] at y3' <;> simp at y3'
  have h3L : (3 : Int) < (L : Int) := by omega
  have hN0 : ¬ (N : Int) = 0 := by omega
  have hNb : (N : Int) ≤ 140737488355000 := by omega
  have hAb : (A : Int) ≤ 140737488355000 := by have := HAt.out; omega
  have hAN : A + N ≤ n := by have := HAt.out; omega
  clear HIN HD0 HB0 HGA HRa gD hV0 hb hrae hW0 HCs hnfI hno h48 j1 j2 j4 j5 j6 j7 hcb y3
  go_wp2_with (go_at_call 54; refine Hid.out ?_)
  unfold Hid
  refine Calls.mono HJ.out ?_
  rintro e V1 ⟨rfl, g1⟩
  have hra1 := (g1.block ra (lt_of_heap hraV) id).trans hraV
  have HG1 := hidM (HGV.out.trans g1 (fun _ _ h => h))
  have HD1 := hidM (HDV.out.grow g1)
  obtain ⟨-, -, -, -, c4, -⟩ := ce6 HD1.out.box
  have f4 := frz HD1.out.box 4
  have y1 := g1.cell' y3' id
  have hrx : ra ≠ x := fun q => by subst q; rw [HD1.out.box] at hra1; cases hra1
  have q2 := HD1.out.set 4 (.int .i64 ((A + N : Nat) : Int)) (sh' := sh) (A' := A + N) (last' := false) hAN rfl
  have e2 : ((A + N : Nat) : Int) = (A : Int) + (N : Int) := by omega
  rw [e2] at q2
  obtain ⟨V2, hV2⟩ : ∃ V2, V1.setCell ⟨x, 4, none⟩ (.int .i64 ((A : Int) + (N : Int))) = V2 := ⟨_, rfl⟩
  rw [hV2] at q2
  have y2 : V2.cell? ⟨B, o + 3, none⟩ = some (.int .u8 48) := by
    rw [← hV2]
    exact (World.cell?_of_block (w := V1) (heap_setCell_other V1 ⟨x, 4, none⟩ B _ hBt)).trans y1
  have hra2 : V2.heap[ra]? = some (.cells #[.slice none 0 0, .slice none 0 0] 24 (0, 0)) := by rw [← hV2]; exact (heap_setCell_other V1 ⟨x, 4, none⟩ ra _ hrx).trans hra1
  have HD2 := hidM q2.1
  have HK2 := hidM q2.2
  have HV2 := hidM hV2
  clear HJ g1 hraV c0 c1 c5 HGV HBV HDV q2 y1 y3' e2 hra1
  obtain ⟨-, -, -, -, -, d5⟩ := ce6 HD2.out.box
  have f5 := frz HD2.out.box 5
  have q3 := HD2.out.set 5 (.bool true) (sh' := sh) (A' := A + N) (last' := true) hAN rfl
  obtain ⟨V3, hV3⟩ : ∃ V3, V2.setCell ⟨x, 5, none⟩ (.bool true) = V3 := ⟨_, rfl⟩
  rw [hV3] at q3
  have hra3 : V3.heap[ra]? = some (.cells #[.slice none 0 0, .slice none 0 0] 24 (0, 0)) := by rw [← hV3]; exact (heap_setCell_other V2 ⟨x, 5, none⟩ ra _ hrx).trans hra2
  have HD3 := hidM q3.1
  have HK3 := hidM q3.2
  have HV3 := hidM hV3
  clear q3
  obtain ⟨z1, hz1⟩ : ∃ z, (docN lm lb false sh b).1 = z := ⟨_, rfl⟩
  obtain ⟨z2, hz2⟩ : ∃ z, (docN lm lb false sh b).2 = z := ⟨_, rfl⟩
  have HRec : Hid (Calls Try.prog 41 #[.pointer (some ⟨x, 0, none⟩)] V3 fun e w' => e = .returned (.tuple #[.agg #[.slice none 0 0, .slice none 0 0], .int .i64 z1, .int .i64 z2]) ∧ Gr V3 w') := by
    have := docNext_no HD3.out hn hlm hlb (.inl rfl)
    rw [HEq.out, hz1, hz2] at this
    exact this
  have HZ : Hid (docN lm lb false sh b = (z1, z2)) := by show _ = _; rw [← hz1, ← hz2]
  clear hz1 hz2 HEq
  go_wp2_with (go_at_call 41; refine Hid.out ?_)
  unfold Hid
  refine Calls.mono HRec.out ?_
  rintro e V4 ⟨rfl, g4⟩
  have hra4 := (g4.block ra (lt_of_heap hra3) id).trans hra3
  have HD4 := hidM (HD3.out.grow g4)
  have HK4 : Hid (Keeps W V4 (fun g => g = x)) := (((HG1.out.mono fun _ _ f => f.elim).trans HK2.out (fun _ _ e => e)).trans HK3.out (fun _ _ e => e)).trans (g4.mono fun _ _ f => f.elim) (fun _ _ e => e)
  clear hra3 hra2 g4 HRec HD3 HD2 HD1 HG1 HK2 HK3 c4 f4 d5 f5 y2 hV2 hV3 HV2 HV3
  go_wp2_with (with_reducible show wpList Try.prog _ _ (Oper.mk none (Op.store 24 (Operand.tmp 2) _) _ _ _ _ :: _) _ _; refine Hid.out ?_)
  unfold Hid
  refine wpList_store_off rfl 24 (.tmp 2) (.tmp 67) rfl ra 0 #[.slice none 0 0, .slice none 0 0] hra4 (by rfl) (by rfl) (by simp) (by kernel_rfl) (by simp [Value.oneCell']) ?_
  obtain ⟨G, hG⟩ : ∃ G, G = World.setRow V4 ra ((#[.slice none 0 0, .slice none 0 0] : Array Value).toList.take 0 ++ (#[.slice none 0 0, .slice none 0 0] : Array Value).toList ++ (#[.slice none 0 0, .slice none 0 0] : Array Value).toList.drop (0 + (#[.slice none 0 0, .slice none 0 0] : Array Value).size)).toArray := ⟨_, rfl⟩
  rw [← hG]
  have hbG : G.heap[ra]? = some (.cells #[.slice none 0 0, .slice none 0 0] 24 (0, 0)) := by rw [hG]; exact setRow_heap V4 ra _ _ 24 (0, 0) hra4
  have k1 : Keeps V4 G (fun z => z = ra) := by rw [hG]; exact ⟨rfl, rfl, rfl, by simp, fun kk hk hn => setRow_other V4 ra kk _ hn⟩
  have t24 : Typ V4 ra 24 := ⟨_, _, hra4⟩
  have HFin : Hid (Dr w G x lm lb F sh (A + N) true fo fc n ∧ Keeps W G (fun g => g = x)) := by
    refine ⟨HD4.out.kp fun g k => k1.block g (HD4.out.lt k) (fun q => ?_), HK4.out.trans k1 (fun j hj e => by have := HRl.out; omega)⟩
    subst q
    rcases k.to n fc with q | q
    · exact hrx q
    · exact absurd (t24.ne (own_typ HD4.out.own q)) (by decide)
  have hld : (loadVar 24 ⟨ra, 0, none⟩).run Try.prog G = .ok (.agg #[.slice none 0 0, .slice none 0 0]) G := by
    refine run_loadVar_mid G ra 0 24 [.slice none 0 0, .slice none 0 0] _ (fun j v hj => ?_) Try.underlying24 rfl (by kernel_rfl)
    rw [Nat.zero_add]
    simp only [World.cell?, hbG]
    simpa using hj
  clear hG hbG k1 t24
  go_wp2_with fail
  refine bodyPost_ret (v := .tuple #[.agg #[.slice none 0 0, .slice none 0 0], .int .i64 z1, .int .i64 z2]) ?_ rfl ⟨by rw [HZ.out], HFin.out⟩
  exact results_cell3 (t := 2) (a := 3) (b := 4) (ty := 24) rfl rfl hld
end Go.Proofs.Ytemleibpmaclmaa.Kit

namespace Go.Proofs.Ytemleibpmaclmaa.Kit
open Go.RowKit Go.Shelf Go.Deep
set_option linter.unusedVariables false
attribute [local go_sem] run_store_func

/-- where a part of bytes begins -/
def Part (B o bc i k : Nat) (a : Option Addr) : Prop := (bc = i ∧ k = 0 ∧ a = some ⟨B, o, none⟩) ∨ (bc ≠ i ∧ a = some ⟨B, o + i, none⟩)
theorem Part.bytes {V : World} {B o bc i k : Nat} {a : Option Addr} {b : List UInt8} (h : Part B o bc i k a) (hb : BytesAt V (some ⟨B, o, none⟩) b) (hi : i + k ≤ b.length) : BytesAt V a ((b.drop i).take k) := fun hn => by
  have hk : ((b.drop i).take k).length = k := by rw [List.length_take, List.length_drop]; omega
  have hk0 : 0 < k := by have := List.length_pos_iff.2 hn; omega
  rcases h with ⟨-, h0, -⟩ | ⟨-, rfl⟩
  · omega
  · obtain ⟨B', o', e, hc⟩ := hb.at (ne_nil (show i < b.length by omega))
    cases e
    refine ⟨B, o + i, rfl, fun j hj => ?_⟩
    have := hc (i + j) (by omega)
    rw [Nat.add_assoc, this]
    congr 3
    rw [List.getElem_take, List.getElem_drop, List.getD_eq_getElem?_getD, List.getElem?_eq_getElem (by omega)]
    rfl
theorem part_at (B o bc i k : Nat) (h : bc = i → k = 0) : ∃ a, Part B o bc i k a := by
  by_cases c : bc = i
  · exact ⟨_, .inl ⟨c, h c, rfl⟩⟩
  · exact ⟨_, .inr ⟨c, rfl⟩⟩
theorem Part.block {B o bc i k : Nat} {a : Option Addr} (h : Part B o bc i k a) : ∃ q, a = some ⟨B, q, none⟩ := by
  rcases h with ⟨-, -, rfl⟩ | ⟨-, rfl⟩
  · exact ⟨_, rfl⟩
  · exact ⟨_, rfl⟩
set_option maxRecDepth 100000 in
set_option maxHeartbeats 8000000 in
theorem docNext_one {w W : World} {x lm lb : Nat} {F : List UInt8} {sh : Bool} {A : Nat} {last : Bool} {fo : Option Addr} {fc n : Nat} (h : Dr w W x lm lb F sh A last fo fc n) (hn : n ≤ 140737488355000) (hlm : lm ≤ 65536) (hlb : lb ≤ 4194304) (hl : last = false) (hno : (judgeF lm lb (F.drop A)).1 ≠ 0) (h48 : (F.drop A).getD 3 0 ≠ 48) (hww : w.heap.size ≤ W.heap.size) :
    Calls Try.prog 41 #[.pointer (some ⟨x, 0, none⟩)] W fun e w' => ∃ ma mc da dc, e = .returned (.tuple #[.agg #[.slice ma (num4 (F.drop A) 4) mc, .slice da (num4 (F.drop A) 8) dc], .int .i64 2, .int .i64 0]) ∧ Dr w w' x lm lb F sh (A + allN (F.drop A)) false fo fc n ∧ Keeps W w' (fun g => g = x) ∧ BytesAt w' ma (metaB (F.drop A)) ∧ BytesAt w' da (dataB (F.drop A)) ∧ (∃ X q r, fo = some ⟨X, 0, none⟩ ∧ ma = some ⟨X, q, none⟩ ∧ da = some ⟨X, r, none⟩ ∧ (0 < num4 (F.drop A) 4 → q + num4 (F.drop A) 4 ≤ n) ∧ (0 < num4 (F.drop A) 8 → r + num4 (F.drop A) 8 ≤ n)) := by
  subst hl
  obtain ⟨bo, bc, hcut, hbb, hbc, hbm, hnf⟩ := h.rest
  have HCs := hidM hcut
  obtain ⟨b, hb⟩ : ∃ b, F.drop A = b := ⟨_, rfl⟩
  rw [hb] at hno hbb h48 ⊢
  obtain ⟨N, hN⟩ : ∃ N, allN b = N := ⟨_, rfl⟩
  rw [hN]
  obtain ⟨m, hm⟩ : ∃ m, num4 b 4 = m := ⟨_, rfl⟩
  obtain ⟨k, hk⟩ : ∃ k, num4 b 8 = k := ⟨_, rfl⟩
  rw [hm, hk]
  have hra := heap_alloc_new W (.cells #[.slice none 0 0, .slice none 0 0] 24)
  have gA := gr_alloc W (.cells #[.slice none 0 0, .slice none 0 0] 24)
  obtain ⟨W0, hW0⟩ : ∃ W0, W0 = W.alloc (.cells #[.slice none 0 0, .slice none 0 0] 24) := ⟨_, rfl⟩
  obtain ⟨ra, hrae⟩ : ∃ ra, ra = W.heap.size := ⟨_, rfl⟩
  rw [← hW0] at hra gA
  rw [← hrae] at hra
  have HD0 := hidM (h.grow gA)
  have HB0 := hidM (hbb.gr gA)
  have HGA := hidM gA
  have HRa := hidM hra
  have HIN : Hid (W0.drew.cell? ⟨x, 2, none⟩ = some (.slice fo n fc) ∧ W0.drew.cell? ⟨x, 4, none⟩ = some (.int .i64 (A : Int))) := by
    obtain ⟨-, -, c2, -, c4, -⟩ := ce6 (HD0.out.grow ((Keeps.refl W0 _).drew)).box
    exact ⟨c2, c4⟩
  have hA0 : (0 : Int) ≤ (A : Int) := by omega
  have hAn : (A : Int) ≤ (n : Int) := by have := h.at'; omega
  have hnfI : (n : Int) ≤ (fc : Int) := by omega
  have HFl := hidM h.len
  have HAt := hidM h.at'
  have HRl : Hid (W.heap.size ≤ ra) := by show _ ≤ _; omega
  clear h hcut hbb hra gA
  go_enter Try.func41, Try.ntmps41
  go_wp2_with fail
  rw [← hrae, ← hW0]
  refine wp_region_held_drew (S := fun w' => w'.cell? ⟨x, 2, none⟩ = some (.slice fo n fc) ∧ w'.cell? ⟨x, 4, none⟩ = some (.int .i64 (A : Int))) (by kernel_rfl) (HIN.out) (fun hHeld => ?_)
  refine wpAnyH_take (i := 0) (oi := { dst := some 10, op := Op.move (Operand.tmp 0), type := 48, pos := "ref.go:157", after := #[], guard := none }) (v := ?v0a1) rfl (by kernel_rfl) (by kernel_rfl) (by kernel_rfl) (fun _ _ _ h => h) (Or.inl ⟨by rfl, ?y0a1⟩) (by assumption) ?r0a1
  case y0a1 => (intro w hSw; obtain ⟨s1, s2⟩ := hSw; go_simp; (try with_reducible rfl))
  (try simp only [Act.put]); (try simp only [List.setIfInBounds_toArray]); (try simp only [List.set_cons_succ]); (try simp only [List.set_cons_zero])
  refine wpAnyH_take (i := 1) (oi := { dst := some 11, op := Op.nilCheck (Operand.tmp 10), type := 0, pos := "ref.go:157", after := #[{ on := 0, ground := Ground.data }], guard := none }) (v := ?v1a2) rfl (by kernel_rfl) (by kernel_rfl) (by kernel_rfl) (fun _ _ _ h => h) (Or.inl ⟨by rfl, ?y1a2⟩) (by assumption) ?r1a2
  case y1a2 => (intro w hSw; obtain ⟨s1, s2⟩ := hSw; go_simp; (try with_reducible rfl))
  (try simp only [Act.put]); (try simp only [List.setIfInBounds_toArray]); (try simp only [List.set_cons_succ]); (try simp only [List.set_cons_zero])
  refine wpAnyH_take (i := 2) (oi := { dst := some 12, op := Op.fieldAddr 82 (Operand.tmp 11) 1, type := 0, pos := "ref.go:157", after := #[{ on := 1, ground := Ground.data }], guard := none }) (v := ?v2a3) rfl (by kernel_rfl) (by kernel_rfl) (by kernel_rfl) (fun _ _ _ h => h) (Or.inl ⟨by rfl, ?y2a3⟩) (by assumption) ?r2a3
  case y2a3 => (intro w hSw; obtain ⟨s1, s2⟩ := hSw; go_simp; (try with_reducible rfl))
  (try simp only [Act.put]); (try simp only [List.setIfInBounds_toArray]); (try simp only [List.set_cons_succ]); (try simp only [List.set_cons_zero])
  refine wpAnyH_take (i := 3) (oi := { dst := some 13, op := Op.load 22 (Operand.tmp 12), type := 22, pos := "ref.go:157", after := #[{ on := 2, ground := Ground.data }], guard := none }) (v := ?v3a4) rfl (by kernel_rfl) (by kernel_rfl) (by kernel_rfl) (fun _ _ _ h => h) (Or.inl ⟨by rfl, ?y3a4⟩) (by assumption) ?r3a4
  case y3a4 => (intro w hSw; obtain ⟨s1, s2⟩ := hSw; go_simp; (try with_reducible rfl))
  (try simp only [Act.put]); (try simp only [List.setIfInBounds_toArray]); (try simp only [List.set_cons_succ]); (try simp only [List.set_cons_zero])
  refine wpAnyH_take (i := 4) (oi := { dst := some 14, op := Op.move (Operand.tmp 0), type := 48, pos := "ref.go:157", after := #[], guard := none }) (v := ?v4a5) rfl (by kernel_rfl) (by kernel_rfl) (by kernel_rfl) (fun _ _ _ h => h) (Or.inl ⟨by rfl, ?y4a5⟩) (by assumption) ?r4a5
  case y4a5 => (intro w hSw; obtain ⟨s1, s2⟩ := hSw; go_simp; (try with_reducible rfl))
  (try simp only [Act.put]); (try simp only [List.setIfInBounds_toArray]); (try simp only [List.set_cons_succ]); (try simp only [List.set_cons_zero])
  refine wpAnyH_take (i := 5) (oi := { dst := some 15, op := Op.nilCheck (Operand.tmp 14), type := 0, pos := "ref.go:157", after := #[{ on := 4, ground := Ground.data }], guard := none }) (v := ?v5a6) rfl (by kernel_rfl) (by kernel_rfl) (by kernel_rfl) (fun _ _ _ h => h) (Or.inl ⟨by rfl, ?y5a6⟩) (by assumption) ?r5a6
  case y5a6 => (intro w hSw; obtain ⟨s1, s2⟩ := hSw; go_simp; (try with_reducible rfl))
  (try simp only [Act.put]); (try simp only [List.setIfInBounds_toArray]); (try simp only [List.set_cons_succ]); (try simp only [List.set_cons_zero])
  refine wpAnyH_take (i := 6) (oi := { dst := some 16, op := Op.fieldAddr 82 (Operand.tmp 15) 3, type := 0, pos := "ref.go:157", after := #[{ on := 5, ground := Ground.data }], guard := none }) (v := ?v6a7) rfl (by kernel_rfl) (by kernel_rfl) (by kernel_rfl) (fun _ _ _ h => h) (Or.inl ⟨by rfl, ?y6a7⟩) (by assumption) ?r6a7
  case y6a7 => (intro w hSw; obtain ⟨s1, s2⟩ := hSw; go_simp; (try with_reducible rfl))
  (try simp only [Act.put]); (try simp only [List.setIfInBounds_toArray]); (try simp only [List.set_cons_succ]); (try simp only [List.set_cons_zero])
  refine wpAnyH_take (i := 7) (oi := { dst := some 17, op := Op.load 3 (Operand.tmp 16), type := 3, pos := "ref.go:157", after := #[{ on := 6, ground := Ground.data }], guard := none }) (v := ?v7a8) rfl (by kernel_rfl) (by kernel_rfl) (by kernel_rfl) (fun _ _ _ h => h) (Or.inl ⟨by rfl, ?y7a8⟩) (by assumption) ?r7a8
  case y7a8 => (intro w hSw; obtain ⟨s1, s2⟩ := hSw; go_simp; (try with_reducible rfl))
  (try simp only [Act.put]); (try simp only [List.setIfInBounds_toArray]); (try simp only [List.set_cons_succ]); (try simp only [List.set_cons_zero])
  refine wpAnyH_take (i := 8) (oi := { dst := some 18, op := Op.slice 22 (Operand.tmp 13) (some (Operand.tmp 17)) none none, type := 22, pos := "ref.go:157", after := #[{ on := 3, ground := Ground.data }, { on := 7, ground := Ground.data }], guard := none }) (v := .slice bo (n - A) bc) rfl (by kernel_rfl) (by kernel_rfl) (by kernel_rfl) (fun _ _ _ h => h) (Or.inl ⟨by rfl, ?y8a⟩) (by assumption) ?r8a
  case y8a => (intro w hSw; clear HIN; rcases HCs.out with ⟨e1, e2, e3, e4, e5, e6⟩ | ⟨X, e1, e2, e3, e4, e5⟩ | ⟨X, e1, e2, e3, e4, e5⟩; (subst e1 e2 e3 e4 e5 e6; go_simp; try rfl); (subst e1 e2 e3 e4 e5; go_simp; try rfl); (subst e1 e4 e5; have c9 : ¬ fc = A := (by omega); go_simp; try rfl))
  (try simp only [Act.put]); (try simp only [List.setIfInBounds_toArray]); (try simp only [List.set_cons_succ]); (try simp only [List.set_cons_zero])
  refine wpAnyH_take (i := 9) (oi := { dst := some 5, op := Op.assign (Operand.tmp 18), type := 22, pos := "ref.go:157", after := #[{ on := 8, ground := Ground.data }, { on := 0, ground := Ground.phase }, { on := 1, ground := Ground.phase }, { on := 2, ground := Ground.phase }, { on := 3, ground := Ground.phase }, { on := 4, ground := Ground.phase }, { on := 5, ground := Ground.phase }, { on := 6, ground := Ground.phase }, { on := 7, ground := Ground.phase }, { on := 8, ground := Ground.phase }], guard := none }) (v := ?v9a9) rfl (by kernel_rfl) (by kernel_rfl) (by kernel_rfl) (fun _ _ _ h => h) (Or.inl ⟨by rfl, ?y9a9⟩) (by assumption) ?r9a9
  case y9a9 => (intro w hSw; obtain ⟨s1, s2⟩ := hSw; go_simp; (try with_reducible rfl))
  (try simp only [Act.put]); (try simp only [List.setIfInBounds_toArray]); (try simp only [List.set_cons_succ]); (try simp only [List.set_cons_zero])
  refine wpAnyH_done (by kernel_rfl) ?_ _
  clear hHeld
  obtain ⟨V0, hV0⟩ : ∃ V0, W0.drew = V0 := ⟨_, rfl⟩
  have gD : Gr W0 V0 := by rw [← hV0]; exact (Keeps.refl W0 _).drew
  have HDV := hidM (HD0.out.grow gD)
  have HBV := hidM (HB0.out.gr gD)
  have HGV := hidM (HGA.out.trans gD (fun _ _ h => h))
  have hraV := (gD.block ra (lt_of_heap HRa.out) id).trans HRa.out
  obtain ⟨L, hL⟩ : ∃ L, n - A = L := ⟨_, rfl⟩
  rw [hV0, hL]
  rw [hL] at hbc
  obtain ⟨c0, c1, -, -, -, c5⟩ := ce6 HDV.out.box
  have HBl : Hid ((F.drop A).length = L) := by show _ = _; rw [List.length_drop, HFl.out]; exact hL
  rw [hb] at HBl
  have hLn : L ≤ 140737488355000 := by omega
  obtain ⟨j1, j2, j3, j4, j5, j6, j7⟩ := judge_takes hno
  rw [hN] at j1 j2 j3
  have hNL : N ≤ L := by rw [← HBl.out]; exact j2
  have HJ : Hid (Calls Try.prog 54 #[.slice bo L bc, .agg #[.int .i64 (lm : Int), .int .i64 (lb : Int)]] V0 fun e w' => e = .returned (.tuple #[.int .i64 (N : Int), .int .i64 0]) ∧ Gr V0 w') := by
    have := docJudge_any (lm := lm) (lb := lb) HBV.out HBl.out hLn hbc hbm hlm hlb
    rw [j1] at this
    exact this
  obtain ⟨B, o, rfl, hcb⟩ := HBV.out.at (ne_nil (show 3 < b.length by rw [HBl.out]; omega))
  have y3 := hcb 3 (by rw [HBl.out]; omega)
  obtain ⟨yv, hyv⟩ : ∃ yv : Int, ((b.getD 3 0).toNat : Int) = yv := ⟨_, rfl⟩
  rw [hyv] at y3
  have y48 : (yv == 48) = false := by
    have : ¬ yv = 48 := fun q => h48 (UInt8.toNat_inj.1 (by show (b.getD 3 0).toNat = 48; omega))
    simpa using this
  have y3' : V0.cell? ⟨B, o + 3, none⟩ = some (.int .u8 yv) := y3
  have hBt : B ≠ x := fun q => by
    subst q
    simp only [World.cell?, HDV.out.box] at y3'
    have h6 : o + 3 < 6 := by
      rcases Nat.lt_or_ge (o + 3) 6 with z | z
      · exact z
      · simp [show (#[.int .i64 (lm : Int), .int .i64 (lb : Int), .slice fo n fc, .bool sh, .int .i64 (A : Int), .bool false] : Array Value)[o + 3]? = none from by simp; omega] at y3'
    have : o + 3 = 3 ∨ o + 3 = 4 ∨ o + 3 = 5 := by omega
    rcases this with z | z | z <;> rw [z] at y3' <;> simp at y3'
  have hfo : ∃ X, fo = some ⟨X, 0, none⟩ ∧ B = X ∧ o ≤ A := by
    rcases HCs.out with ⟨-, -, -, -, e5, -⟩ | ⟨X, e1, -, -, e4, -⟩ | ⟨X, e1, -, -, e4, -⟩
    · cases e5
    · cases e4; exact ⟨B, e1, rfl, by omega⟩
    · cases e4; exact ⟨B, e1, rfl, by omega⟩
  have HFo := hidM hfo
  obtain ⟨um, hum⟩ : ∃ um, up8 m = um := ⟨_, rfl⟩
  obtain ⟨uk, huk⟩ : ∃ uk, up8 k = uk := ⟨_, rfl⟩
  have u1 := up8_ge m
  have u2 := up8_ge k
  rw [hum] at u1
  rw [huk] at u2
  have ebody : bodyN b = 24 + um := by unfold bodyN; rw [hm, hum]
  have eN : N = 24 + um + uk := by rw [← hN]; unfold allN; rw [ebody, hk, huk]
  have hM6 : m ≤ 65536 := by have := j6.1; rw [j4, hm] at this; omega
  have hK6 : k ≤ 4194304 := by have := j6.2.1; rw [j5, hk] at this; omega
  have HMe : Hid ((b.drop 24).take m = metaB b) := by show _ = _; unfold metaB; rw [hm]
  have HDe : Hid ((b.drop (24 + um)).take k = dataB b) := by show _ = _; unfold dataB; rw [hk, ebody]
  obtain ⟨ma, hma⟩ := part_at B o bc 24 m (by omega)
  obtain ⟨da, hda⟩ := part_at B o bc (24 + um) k (by omega)
  have HMa := hidM hma
  have HDa := hidM hda
  have HN4 : Hid (∀ V, BytesAt V (some ⟨B, o, none⟩) b → Calls Try.prog 55 #[.slice (some ⟨B, o + 4, none⟩) (L - 4) (bc - 4)] V fun e w' => e = .returned (.int .i64 (m : Int)) ∧ Gr V w') := fun V g => by rw [← hm]; exact docNumber_any g HBl.out (by omega)
  have HN8 : Hid (∀ V, BytesAt V (some ⟨B, o, none⟩) b → Calls Try.prog 55 #[.slice (some ⟨B, o + 8, none⟩) (L - 8) (bc - 8)] V fun e w' => e = .returned (.int .i64 (k : Int)) ∧ Gr V w') := fun V g => by rw [← hk]; exact docNumber_any g HBl.out (by omega)
  have HUm : Hid (∀ V, Calls Try.prog 34 #[.int .i64 (m : Int)] V fun e w' => e = .returned (.int .i64 (um : Int)) ∧ V = w') := fun V => by rw [← hum]; exact up_any m V (by omega)
  have h4I : (4 : Int) ≤ (L : Int) := by omega
  have h8I : (8 : Int) ≤ (L : Int) := by omega
  have hc4 : ¬ bc = 4 := by omega
  have hc8 : ¬ bc = 8 := by omega
  have hum6 : um ≤ 65543 := by omega
  have hNN : N = 24 + um + uk := eN
  clear hma hda hm hk hum huk ebody eN hyv hfo
  have h3L : (3 : Int) < (L : Int) := by omega
  have hN0 : ¬ (N : Int) = 0 := by omega
  have hNb : (N : Int) ≤ 140737488355000 := by omega
  have hAb : (A : Int) ≤ 140737488355000 := by have := HAt.out; omega
  have hAN : A + N ≤ n := by have := HAt.out; omega
  have HBy0 := HBV
  have eN2 : 24 + um + k ≤ N := by have := hNN; omega
  clear HIN HD0 HB0 HGA HRa gD hV0 hb hrae hW0 HCs hnfI hno h48 j1 j2 j4 j5 j6 j7 hcb y3 hNN
  go_wp2_with (go_at_call 54; refine Hid.out ?_)
  unfold Hid
  refine Calls.mono HJ.out ?_
  rintro e V1 ⟨rfl, g1⟩
  have hra1 := (g1.block ra (lt_of_heap hraV) id).trans hraV
  have HG1 := hidM (HGV.out.trans g1 (fun _ _ h => h))
  have HD1 := hidM (HDV.out.grow g1)
  obtain ⟨-, -, -, -, c4, -⟩ := ce6 HD1.out.box
  have f4 := frz HD1.out.box 4
  have y1 := g1.cell' y3' id
  have hrx : ra ≠ x := fun q => by subst q; rw [HD1.out.box] at hra1; cases hra1
  have q2 := HD1.out.set 4 (.int .i64 ((A + N : Nat) : Int)) (sh' := sh) (A' := A + N) (last' := false) hAN rfl
  have e2 : ((A + N : Nat) : Int) = (A : Int) + (N : Int) := by omega
  rw [e2] at q2
  obtain ⟨V2, hV2⟩ : ∃ V2, V1.setCell ⟨x, 4, none⟩ (.int .i64 ((A : Int) + (N : Int))) = V2 := ⟨_, rfl⟩
  rw [hV2] at q2
  have y2 : V2.cell? ⟨B, o + 3, none⟩ = some (.int .u8 yv) := by
    rw [← hV2]
    exact (World.cell?_of_block (w := V1) (heap_setCell_other V1 ⟨x, 4, none⟩ B _ hBt)).trans y1
  have hra2 : V2.heap[ra]? = some (.cells #[.slice none 0 0, .slice none 0 0] 24 (0, 0)) := by rw [← hV2]; exact (heap_setCell_other V1 ⟨x, 4, none⟩ ra _ hrx).trans hra1
  have HD2 := hidM q2.1
  have HK2 := hidM q2.2
  have HV2 := hidM hV2
  have HB2 : Hid (BytesAt V2 (some ⟨B, o, none⟩) b) := (HBy0.out.gr g1).keep HK2.out (fun X q e => by cases e; exact hBt)
  clear HJ g1 hraV c0 c1 c5 HGV HBV HDV q2 y1 y3' e2 hra1
  go_wp2_with (go_at_call 55; refine Hid.out ?_)
  unfold Hid
  refine Calls.mono (HN4.out _ HB2.out) ?_
  rintro e V3 ⟨rfl, g3⟩
  have hra3 := (g3.block ra (lt_of_heap hra2) id).trans hra2
  have HD3 := hidM (HD2.out.grow g3)
  have HB3 := hidM (HB2.out.gr g3)
  have HK3 : Hid (Keeps W V3 (fun g => g = x)) := ((HG1.out.mono fun _ _ f => f.elim).trans HK2.out (fun _ _ e => e)).trans (g3.mono fun _ _ f => f.elim) (fun _ _ e => e)
  clear HN4 g3 hra2 HD2 HB2 HK2 HG1 HD1 c4 f4 y2 hV2 HV2
  go_wp2_with (go_at_call 34; (with_reducible refine (HUm.out _).mono ?_); rintro e w' ⟨rfl, rfl⟩)
  have t1 : (24 + (um : Int)).toNat = 24 + um := by omega
  have t2 : (24 + (um : Int) + (k : Int)).toNat = 24 + um + k := by omega
  have t3 : (24 + (m : Int)).toNat = 24 + m := by omega
  have wA : IntKind.i64.wrap (24 + (m : Int)) = 24 + (m : Int) := by rw [IntKind.wrap_i64]; omega
  have wB : IntKind.i64.wrap (24 + (um : Int) + (k : Int)) = 24 + (um : Int) + (k : Int) := by rw [IntKind.wrap_i64]; omega
  have l24 : (24 : Int) ≤ 24 + (m : Int) := by omega
  have lB : 24 + (um : Int) ≤ 24 + (um : Int) + (k : Int) := by omega
  have lB0 : (0 : Int) ≤ 24 + (um : Int) := by omega
  have hc24m : 24 + (m : Int) ≤ (bc : Int) := by omega
  have hcb : 24 + (um : Int) + (k : Int) ≤ (bc : Int) := by omega
  refine wp_region_held_drew (S := fun w' => True) (by kernel_rfl) (trivial) (fun hHeld => ?_)
  refine wpAnyH_take (i := 0) (oi := { dst := some 76, op := Op.move (Operand.tmp 5), type := 22, pos := "ref.go:181", after := #[], guard := none }) (v := ?v0q1) rfl (by kernel_rfl) (by kernel_rfl) (by kernel_rfl) (fun _ _ _ h => h) (Or.inl ⟨by rfl, ?y0q1⟩) (by assumption) ?r0q1
  case y0q1 => (intro w hSw; go_simp; (try with_reducible rfl))
  (try simp only [Act.put]); (try simp only [List.setIfInBounds_toArray]); (try simp only [List.set_cons_succ]); (try simp only [List.set_cons_zero])
  refine wpAnyH_take (i := 1) (oi := { dst := some 77, op := Op.move (Operand.tmp 8), type := 3, pos := "ref.go:181", after := #[], guard := none }) (v := ?v1q2) rfl (by kernel_rfl) (by kernel_rfl) (by kernel_rfl) (fun _ _ _ h => h) (Or.inl ⟨by rfl, ?y1q2⟩) (by assumption) ?r1q2
  case y1q2 => (intro w hSw; go_simp; (try with_reducible rfl))
  (try simp only [Act.put]); (try simp only [List.setIfInBounds_toArray]); (try simp only [List.set_cons_succ]); (try simp only [List.set_cons_zero])
  refine wpAnyH_take (i := 2) (oi := { dst := some 78, op := Op.binOp BinOp.add 3 (Operand.const (Value.int IntKind.i64 24)) (Operand.tmp 77) 3, type := 3, pos := "ref.go:181", after := #[{ on := 1, ground := Ground.data }], guard := none }) (v := ?v2q3) rfl (by kernel_rfl) (by kernel_rfl) (by kernel_rfl) (fun _ _ _ h => h) (Or.inl ⟨by rfl, ?y2q3⟩) (by assumption) ?r2q3
  case y2q3 => (intro w hSw; go_simp; (try with_reducible rfl))
  (try simp only [Act.put]); (try simp only [List.setIfInBounds_toArray]); (try simp only [List.set_cons_succ]); (try simp only [List.set_cons_zero])
  refine wpAnyH_take (i := 3) (oi := { dst := some 79, op := Op.slice 22 (Operand.tmp 76) (some (Operand.const (Value.int IntKind.i64 24))) (some (Operand.tmp 78)) none, type := 22, pos := "ref.go:181", after := #[{ on := 0, ground := Ground.data }, { on := 2, ground := Ground.data }], guard := none }) (v := .slice ma m (bc - 24)) rfl (by kernel_rfl) (by kernel_rfl) (by kernel_rfl) (fun _ _ _ h => h) (Or.inl ⟨by rfl, ?y3e⟩) (by assumption) ?r3e
  case y3e => (intro w hSw; clear hSw; rcases HMa.out with ⟨e1, e2, e3⟩ | ⟨e1, e3⟩; (focus (have hA1 : (bc = 24) = True := (by simp [e1]); rw [e3]; clear e1 e2 e3 HMa; go_simp; (try (first | rfl | omega | (congr 1 <;> omega))))); (focus (rw [e3]; clear e3 HMa; go_simp; (try (first | rfl | omega | (congr 1 <;> omega))))))
  (try simp only [Act.put]); (try simp only [List.setIfInBounds_toArray]); (try simp only [List.set_cons_succ]); (try simp only [List.set_cons_zero])
  refine wpAnyH_take (i := 4) (oi := { dst := some 80, op := Op.move (Operand.tmp 5), type := 22, pos := "ref.go:181", after := #[], guard := none }) (v := ?v4q4) rfl (by kernel_rfl) (by kernel_rfl) (by kernel_rfl) (fun _ _ _ h => h) (Or.inl ⟨by rfl, ?y4q4⟩) (by assumption) ?r4q4
  case y4q4 => (intro w hSw; go_simp; (try with_reducible rfl))
  (try simp only [Act.put]); (try simp only [List.setIfInBounds_toArray]); (try simp only [List.set_cons_succ]); (try simp only [List.set_cons_zero])
  refine wpAnyH_take (i := 5) (oi := { dst := some 81, op := Op.move (Operand.tmp 9), type := 3, pos := "ref.go:181", after := #[], guard := none }) (v := ?v5q5) rfl (by kernel_rfl) (by kernel_rfl) (by kernel_rfl) (fun _ _ _ h => h) (Or.inl ⟨by rfl, ?y5q5⟩) (by assumption) ?r5q5
  case y5q5 => (intro w hSw; go_simp; (try with_reducible rfl))
  (try simp only [Act.put]); (try simp only [List.setIfInBounds_toArray]); (try simp only [List.set_cons_succ]); (try simp only [List.set_cons_zero])
  refine wpAnyH_take (i := 6) (oi := { dst := some 82, op := Op.move (Operand.tmp 9), type := 3, pos := "ref.go:181", after := #[], guard := none }) (v := ?v6q6) rfl (by kernel_rfl) (by kernel_rfl) (by kernel_rfl) (fun _ _ _ h => h) (Or.inl ⟨by rfl, ?y6q6⟩) (by assumption) ?r6q6
  case y6q6 => (intro w hSw; go_simp; (try with_reducible rfl))
  (try simp only [Act.put]); (try simp only [List.setIfInBounds_toArray]); (try simp only [List.set_cons_succ]); (try simp only [List.set_cons_zero])
  refine wpAnyH_take (i := 7) (oi := { dst := some 83, op := Op.move (Operand.tmp 5), type := 22, pos := "ref.go:181", after := #[], guard := none }) (v := ?v7q7) rfl (by kernel_rfl) (by kernel_rfl) (by kernel_rfl) (fun _ _ _ h => h) (Or.inl ⟨by rfl, ?y7q7⟩) (by assumption) ?r7q7
  case y7q7 => (intro w hSw; go_simp; (try with_reducible rfl))
  (try simp only [Act.put]); (try simp only [List.setIfInBounds_toArray]); (try simp only [List.set_cons_succ]); (try simp only [List.set_cons_zero])
  refine wpAnyH_take (i := 8) (oi := { dst := some 84, op := Op.slice 22 (Operand.tmp 83) (some (Operand.const (Value.int IntKind.i64 8))) none none, type := 22, pos := "ref.go:181", after := #[{ on := 7, ground := Ground.data }], guard := none }) (v := ?v8q8) rfl (by kernel_rfl) (by kernel_rfl) (by kernel_rfl) (fun _ _ _ h => h) (Or.inl ⟨by rfl, ?y8q8⟩) (by assumption) ?r8q8
  case y8q8 => (intro w hSw; go_simp; (try with_reducible rfl))
  (try simp only [Act.put]); (try simp only [List.setIfInBounds_toArray]); (try simp only [List.set_cons_succ]); (try simp only [List.set_cons_zero])
  refine wpAnyH_ready (rs := [9]) (by kernel_rfl) (by simp) ?_
  refine AllReadyH.cons (o := { dst := some 85, op := Op.call { callee := Callee.value (Operand.func 55), args := #[Operand.tmp 84], argTypes := #[22] }, type := 3, pos := "ref.go:181", after := #[{ on := 8, ground := Ground.data }], guard := none }) rfl (fun Kc hK => ?_) AllReadyH.nil
  go_simp
  go_at_call 55
  refine Calls.mono (HN8.out _ (HB3.out.gr ((Keeps.refl V3 _).drew))) ?_
  rintro e' V4 ⟨rfl, g4⟩
  go_wp2_with fail
  refine hK.out _ _ (trivial) (fun hHeld => ?_)
  clear hK Kc
  (try simp only [Act.put]); (try simp only [List.setIfInBounds_toArray]); (try simp only [List.set_cons_succ]); (try simp only [List.set_cons_zero])
  have gV4 := hidM (((Keeps.refl V3 (fun _ => False)).drew).trans g4 (fun _ _ h => h))
  have hra4 := (gV4.out.block ra (lt_of_heap hra3) id).trans hra3
  clear g4
  refine wpAnyH_take (i := 10) (oi := { dst := some 86, op := Op.binOp BinOp.add 3 (Operand.tmp 82) (Operand.tmp 85) 3, type := 3, pos := "ref.go:181", after := #[{ on := 6, ground := Ground.data }, { on := 9, ground := Ground.data }], guard := none }) (v := ?v10q9) rfl (by kernel_rfl) (by kernel_rfl) (by kernel_rfl) (fun _ _ _ h => h) (Or.inl ⟨by rfl, ?y10q9⟩) (by assumption) ?r10q9
  case y10q9 => (intro w hSw; go_simp; (try with_reducible rfl))
  (try simp only [Act.put]); (try simp only [List.setIfInBounds_toArray]); (try simp only [List.set_cons_succ]); (try simp only [List.set_cons_zero])
  refine wpAnyH_take (i := 11) (oi := { dst := some 87, op := Op.slice 22 (Operand.tmp 80) (some (Operand.tmp 81)) (some (Operand.tmp 86)) none, type := 22, pos := "ref.go:181", after := #[{ on := 4, ground := Ground.data }, { on := 5, ground := Ground.data }, { on := 10, ground := Ground.data }], guard := none }) (v := .slice da k (bc - (24 + um))) rfl (by kernel_rfl) (by kernel_rfl) (by kernel_rfl) (fun _ _ _ h => h) (Or.inl ⟨by rfl, ?y11e⟩) (by assumption) ?r11e
  case y11e => (intro w hSw; clear hSw; rcases HDa.out with ⟨e1, e2, e3⟩ | ⟨e1, e3⟩; (focus (have hA1 : (bc = 24 + um) = True := (by simp [e1]); rw [e3]; clear e1 e2 e3 HDa; go_simp; (try (first | rfl | omega | (congr 1 <;> omega))))); (focus (rw [e3]; clear e3 HDa; go_simp; (try (first | rfl | omega | (congr 1 <;> omega))))))
  (try simp only [Act.put]); (try simp only [List.setIfInBounds_toArray]); (try simp only [List.set_cons_succ]); (try simp only [List.set_cons_zero])
  refine wpAnyH_take (i := 12) (oi := { dst := some 88, op := Op.build 24 #[(0, Operand.tmp 79), (1, Operand.tmp 87)], type := 24, pos := "ref.go:181", after := #[{ on := 3, ground := Ground.data }, { on := 11, ground := Ground.data }], guard := none }) (v := ?v12q10) rfl (by kernel_rfl) (by kernel_rfl) (by kernel_rfl) (fun _ _ _ h => h) (Or.inl ⟨by rfl, ?y12q10⟩) (by assumption) ?r12q10
  case y12q10 => (intro w hSw; go_simp; (try with_reducible rfl))
  (try simp only [Act.put]); (try simp only [List.setIfInBounds_toArray]); (try simp only [List.set_cons_succ]); (try simp only [List.set_cons_zero])
  refine wpAnyH_ready (rs := [13]) (by kernel_rfl) (by simp) ?_
  refine AllReadyH.cons (o := { dst := none, op := Op.store 24 (Operand.tmp 2) (Operand.tmp 88), type := 0, pos := "ref.go:181", after := #[{ on := 12, ground := Ground.data }, { on := 9, ground := Ground.chain }, { on := 0, ground := Ground.phase }, { on := 1, ground := Ground.phase }, { on := 2, ground := Ground.phase }, { on := 3, ground := Ground.phase }, { on := 4, ground := Ground.phase }, { on := 5, ground := Ground.phase }, { on := 6, ground := Ground.phase }, { on := 7, ground := Ground.phase }, { on := 8, ground := Ground.phase }, { on := 9, ground := Ground.phase }, { on := 10, ground := Ground.phase }, { on := 11, ground := Ground.phase }, { on := 12, ground := Ground.phase }], guard := none }) rfl (fun Kc hK => ?_) AllReadyH.nil
  refine wp_store_row 24 (.tmp 2) (.tmp 88) rfl ra #[.slice ma m (bc - 24), .slice da k (bc - (24 + um))] hra4 (by rfl) (by rfl) (by simp) (by kernel_rfl) (by simp [Value.oneCell']) ?_
  refine hK.out _ _ trivial (fun hHeld => ?_)
  clear hK Kc
  (try simp only [Act.put]); (try simp only [List.setIfInBounds_toArray]); (try simp only [List.set_cons_succ]); (try simp only [List.set_cons_zero])
  refine wpAnyH_take (i := 14) (oi := { dst := some 3, op := Op.assign (Operand.const (Value.int IntKind.i64 2)), type := 3, pos := "ref.go:181", after := #[{ on := 13, ground := Ground.chain }, { on := 0, ground := Ground.phase }, { on := 1, ground := Ground.phase }, { on := 2, ground := Ground.phase }, { on := 3, ground := Ground.phase }, { on := 4, ground := Ground.phase }, { on := 5, ground := Ground.phase }, { on := 6, ground := Ground.phase }, { on := 7, ground := Ground.phase }, { on := 8, ground := Ground.phase }, { on := 9, ground := Ground.phase }, { on := 10, ground := Ground.phase }, { on := 11, ground := Ground.phase }, { on := 12, ground := Ground.phase }, { on := 13, ground := Ground.phase }], guard := none }) (v := ?v14q11) rfl (by kernel_rfl) (by kernel_rfl) (by kernel_rfl) (fun _ _ _ h => h) (Or.inl ⟨by rfl, ?y14q11⟩) (by assumption) ?r14q11
  case y14q11 => (intro w hSw; go_simp; (try with_reducible rfl))
  (try simp only [Act.put]); (try simp only [List.setIfInBounds_toArray]); (try simp only [List.set_cons_succ]); (try simp only [List.set_cons_zero])
  refine wpAnyH_take (i := 15) (oi := { dst := some 4, op := Op.assign (Operand.const (Value.int IntKind.i64 0)), type := 25, pos := "ref.go:181", after := #[{ on := 14, ground := Ground.chain }, { on := 0, ground := Ground.phase }, { on := 1, ground := Ground.phase }, { on := 2, ground := Ground.phase }, { on := 3, ground := Ground.phase }, { on := 4, ground := Ground.phase }, { on := 5, ground := Ground.phase }, { on := 6, ground := Ground.phase }, { on := 7, ground := Ground.phase }, { on := 8, ground := Ground.phase }, { on := 9, ground := Ground.phase }, { on := 10, ground := Ground.phase }, { on := 11, ground := Ground.phase }, { on := 12, ground := Ground.phase }, { on := 13, ground := Ground.phase }, { on := 14, ground := Ground.phase }], guard := none }) (v := ?v15q12) rfl (by kernel_rfl) (by kernel_rfl) (by kernel_rfl) (fun _ _ _ h => h) (Or.inl ⟨by rfl, ?y15q12⟩) (by assumption) ?r15q12
  case y15q12 => (intro w hSw; go_simp; (try with_reducible rfl))
  (try simp only [Act.put]); (try simp only [List.setIfInBounds_toArray]); (try simp only [List.set_cons_succ]); (try simp only [List.set_cons_zero])
  refine wpAnyH_done (by kernel_rfl) ?_ _
  clear hHeld
  obtain ⟨G, hG⟩ : ∃ G, G = V4.setRow ra ((#[.slice ma m (bc - 24), .slice da k (bc - (24 + um))] : Array Value).toList ++ (#[.slice none 0 0, .slice none 0 0] : Array Value).toList.drop (#[.slice ma m (bc - 24), .slice da k (bc - (24 + um))] : Array Value).size).toArray := ⟨_, rfl⟩
  rw [← hG]
  have hbG : G.heap[ra]? = some (.cells (#[.slice ma m (bc - 24), .slice da k (bc - (24 + um))] : Array Value) 24 (0, 0)) := by rw [hG]; exact setRow_heap V4 ra _ _ 24 (0, 0) hra4
  have k1 : Keeps V4 G (fun z => z = ra) := by rw [hG]; exact ⟨rfl, rfl, rfl, by simp, fun kk hk hn => setRow_other V4 ra kk _ hn⟩
  have t24 : Typ V4 ra 24 := ⟨_, _, hra4⟩
  have HD4 := hidM (HD3.out.grow gV4.out)
  have hrB : B ≠ ra := fun q => by
    obtain ⟨X, e1, e2, -⟩ := HFo.out
    subst e1 e2
    subst q
    exact absurd (t24.ne (own_typ HD4.out.own rfl)) (by decide)
  have HB4 : Hid (BytesAt G (some ⟨B, o, none⟩) b) := (HB3.out.gr gV4.out).keep k1 (fun X q e => by cases e; exact hrB)
  have HFin : Hid (Dr w G x lm lb F sh (A + N) false fo fc n ∧ Keeps W G (fun g => g = x) ∧ BytesAt G ma (metaB b) ∧ BytesAt G da (dataB b) ∧ (∃ X q r, fo = some ⟨X, 0, none⟩ ∧ ma = some ⟨X, q, none⟩ ∧ da = some ⟨X, r, none⟩ ∧ (0 < m → q + m ≤ n) ∧ (0 < k → r + k ≤ n))) := by
    refine ⟨HD4.out.kp fun g z => k1.block g (HD4.out.lt z) (fun q => ?_), (HK3.out.trans (gV4.out.mono fun _ _ f => f.elim) (fun _ _ e => e)).trans k1 (fun j hj e => by have := HRl.out; omega), ?_, ?_, ?_⟩
    · subst q
      rcases z.to n fc with q | q
      · exact hrx q
      · exact absurd (t24.ne (own_typ HD4.out.own q)) (by decide)
    · rw [← HMe.out]; exact HMa.out.bytes HB4.out (by rw [HBl.out]; omega)
    · rw [← HDe.out]; exact HDa.out.bytes HB4.out (by rw [HBl.out]; omega)
    · obtain ⟨X, e1, e2, e3⟩ := HFo.out
      subst e2
      have hA := HAt.out
      rcases HMa.out with ⟨-, a1, a2⟩ | ⟨-, a2⟩ <;> rcases HDa.out with ⟨-, b1, b2⟩ | ⟨-, b2⟩
      · exact ⟨B, o, o, e1, a2, b2, fun z => by omega, fun z => by omega⟩
      · exact ⟨B, o, o + (24 + um), e1, a2, b2, fun z => by omega, fun z => by omega⟩
      · exact ⟨B, o + 24, o, e1, a2, b2, fun z => by omega, fun z => by omega⟩
      · exact ⟨B, o + 24, o + (24 + um), e1, a2, b2, fun z => by omega, fun z => by omega⟩
  have hld : (loadVar 24 ⟨ra, 0, none⟩).run Try.prog G = .ok (.agg (#[.slice ma m (bc - 24), .slice da k (bc - (24 + um))] : Array Value)) G := by
    refine run_loadVar_mid G ra 0 24 [.slice ma m (bc - 24), .slice da k (bc - (24 + um))] _ (fun j v hj => ?_) Try.underlying24 rfl (by kernel_rfl)
    rw [Nat.zero_add]
    simp only [World.cell?, hbG]
    simpa using hj
  clear hG hbG k1 t24
  go_wp2_with fail
  refine bodyPost_ret (v := .tuple #[.agg (#[.slice ma m (bc - 24), .slice da k (bc - (24 + um))] : Array Value), .int .i64 2, .int .i64 0]) ?_ rfl ⟨ma, bc - 24, da, bc - (24 + um), rfl, HFin.out⟩
  exact results_cell3 (t := 2) (a := 3) (b := 4) (ty := 24) rfl rfl hld
end Go.Proofs.Ytemleibpmaclmaa.Kit

namespace Go.Proofs.Ytemleibpmaclmaa.Kit
open Go.RowKit Go.Shelf Go.Deep
set_option linter.unusedVariables false
attribute [local go_sem] run_store_func

/-! ### the document's Held -/
theorem docNext_any {w W : World} {x lm lb : Nat} {F : List UInt8} {sh : Bool} {A : Nat} {last : Bool} {fo : Option Addr} {fc n : Nat} (h : Dr w W x lm lb F sh A last fo fc n) (hn : n ≤ 140737488355000) (hlm : lm ≤ 65536) (hlb : lb ≤ 4194304) (hww : w.heap.size ≤ W.heap.size) :
    Calls Try.prog 41 #[.pointer (some ⟨x, 0, none⟩)] W fun e w' => ∃ a1 n1 c1 a2 n2 c2, e = .returned (.tuple #[.agg #[.slice a1 n1 c1, .slice a2 n2 c2], .int .i64 (docN lm lb last sh (F.drop A)).1, .int .i64 (docN lm lb last sh (F.drop A)).2]) ∧ Keeps W w' (fun g => g = x) := by
  by_cases c : last = true ∨ (judgeF lm lb (F.drop A)).1 = 0
  · refine (docNext_no h hn hlm hlb c).mono ?_
    rintro e w' ⟨rfl, g⟩
    exact ⟨_, _, _, _, _, _, rfl, g.mono fun _ _ f => f.elim⟩
  have hl : last = false := by cases last; rfl; exact absurd (.inl rfl) c
  have hj : (judgeF lm lb (F.drop A)).1 ≠ 0 := fun z => c (.inr z)
  by_cases k : (F.drop A).getD 3 0 = 48
  · refine (docNext_end h hn hlm hlb hl hj k hww).mono ?_
    rintro e w' ⟨rfl, -, g⟩
    exact ⟨_, _, _, _, _, _, rfl, g⟩
  · refine (docNext_one h hn hlm hlb hl hj k hww).mono ?_
    rintro e w' ⟨ma, mc, da, dc, rfl, -, g, -⟩
    have e : docN lm lb last sh (F.drop A) = (2, 0) := by
      subst hl
      unfold docN
      rw [if_neg (by simp), if_neg hj, if_neg k]
    rw [e]
    exact ⟨_, _, _, _, _, _, rfl, g⟩
def heldD (z : Int) (k : Nat) : Int := if z = 1 ∨ z = 2 then (k : Int) else 0
set_option maxRecDepth 100000 in
set_option maxHeartbeats 8000000 in
theorem docHeld_any {w W : World} {x lm lb : Nat} {F : List UInt8} {sh : Bool} {A : Nat} {last : Bool} {fo : Option Addr} {fc n : Nat} (h : Dr w W x lm lb F sh A last fo fc n) (hn : n ≤ 140737488355000) (hlm : lm ≤ 65536) (hlb : lb ≤ 4194304) (hww : w.heap.size ≤ W.heap.size) :
    Calls Try.prog 26 #[.pointer (some ⟨x, 0, none⟩)] W fun e w' => e = .returned (.int .i64 (heldD (docN lm lb last sh (F.drop A)).1 (n - A))) ∧ Gr W w' := by
  have hAn := h.at'
  obtain ⟨z1, hz1⟩ : ∃ z, (docN lm lb last sh (F.drop A)).1 = z := ⟨_, rfl⟩
  obtain ⟨z2, hz2⟩ : ∃ z, (docN lm lb last sh (F.drop A)).2 = z := ⟨_, rfl⟩
  have HNx : Hid (∀ V y, Dr w V y lm lb F sh A last fo fc n → w.heap.size ≤ V.heap.size → Calls Try.prog 41 #[.pointer (some ⟨y, 0, none⟩)] V fun e w' => ∃ a1 n1 c1 a2 n2 c2, e = .returned (.tuple #[.agg #[.slice a1 n1 c1, .slice a2 n2 c2], .int .i64 z1, .int .i64 z2]) ∧ Keeps V w' (fun g => g = y)) := fun V y d s => by
    have := docNext_any d hn hlm hlb s
    rw [hz1, hz2] at this
    exact this
  rw [hz1]
  have HD := hidM h
  have HIN : Hid (W.drew.cell? ⟨x, 0, none⟩ = some (.int .i64 (lm : Int)) ∧ W.drew.cell? ⟨x, 1, none⟩ = some (.int .i64 (lb : Int)) ∧ W.drew.cell? ⟨x, 2, none⟩ = some (.slice fo n fc) ∧ W.drew.cell? ⟨x, 3, none⟩ = some (.bool sh) ∧ W.drew.cell? ⟨x, 4, none⟩ = some (.int .i64 (A : Int)) ∧ W.drew.cell? ⟨x, 5, none⟩ = some (.bool last)) := ce6 (h.grow ((Keeps.refl W _).drew)).box
  have HKp : Hid (∀ V : World, ∀ o : Obj, Gr W V → (V.alloc o).cell? ⟨x, 0, none⟩ = some (.int .i64 (lm : Int)) ∧ (V.alloc o).cell? ⟨x, 1, none⟩ = some (.int .i64 (lb : Int)) ∧ (V.alloc o).cell? ⟨x, 2, none⟩ = some (.slice fo n fc) ∧ (V.alloc o).cell? ⟨x, 3, none⟩ = some (.bool sh) ∧ (V.alloc o).cell? ⟨x, 4, none⟩ = some (.int .i64 (A : Int)) ∧ (V.alloc o).cell? ⟨x, 5, none⟩ = some (.bool last)) := fun V o g => ce6 (h.grow (g.trans (gr_alloc V o) (fun _ _ h => h))).box
  have gD := hidM (((Keeps.refl W (fun _ => False)).drew))
  clear h hz1 hz2
  go_enter Try.func26, Try.ntmps26
  go_wp2_with fail
  refine wp_region_held_drew (S := fun w' => w'.cell? ⟨x, 0, none⟩ = some (.int .i64 (lm : Int)) ∧ w'.cell? ⟨x, 1, none⟩ = some (.int .i64 (lb : Int)) ∧ w'.cell? ⟨x, 2, none⟩ = some (.slice fo n fc) ∧ w'.cell? ⟨x, 3, none⟩ = some (.bool sh) ∧ w'.cell? ⟨x, 4, none⟩ = some (.int .i64 (A : Int)) ∧ w'.cell? ⟨x, 5, none⟩ = some (.bool last)) (by kernel_rfl) (HIN.out) (fun hHeld => ?_)
  refine wpAnyH_take (i := 0) (oi := { dst := some 7, op := Op.move (Operand.tmp 0), type := 48, pos := "ref.go:186", after := #[], guard := none }) (v := ?v0a1) rfl (by kernel_rfl) (by kernel_rfl) (by kernel_rfl) (fun _ _ _ h => h) (Or.inl ⟨by rfl, ?y0a1⟩) (by assumption) ?r0a1
  case y0a1 => (intro w hSw; obtain ⟨s0, s1, s2, s3, s4, s5⟩ := hSw; go_simp; (try with_reducible rfl))
  (try simp only [Act.put]); (try simp only [List.setIfInBounds_toArray]); (try simp only [List.set_cons_succ]); (try simp only [List.set_cons_zero])
  refine wpAnyH_take (i := 1) (oi := { dst := some 8, op := Op.nilCheck (Operand.tmp 7), type := 0, pos := "ref.go:186", after := #[{ on := 0, ground := Ground.data }], guard := none }) (v := ?v1a2) rfl (by kernel_rfl) (by kernel_rfl) (by kernel_rfl) (fun _ _ _ h => h) (Or.inl ⟨by rfl, ?y1a2⟩) (by assumption) ?r1a2
  case y1a2 => (intro w hSw; obtain ⟨s0, s1, s2, s3, s4, s5⟩ := hSw; go_simp; (try with_reducible rfl))
  (try simp only [Act.put]); (try simp only [List.setIfInBounds_toArray]); (try simp only [List.set_cons_succ]); (try simp only [List.set_cons_zero])
  refine wpAnyH_take (i := 2) (oi := { dst := some 9, op := Op.fieldAddr 82 (Operand.tmp 8) 0, type := 0, pos := "ref.go:186", after := #[{ on := 1, ground := Ground.data }], guard := none }) (v := ?v2a3) rfl (by kernel_rfl) (by kernel_rfl) (by kernel_rfl) (fun _ _ _ h => h) (Or.inl ⟨by rfl, ?y2a3⟩) (by assumption) ?r2a3
  case y2a3 => (intro w hSw; obtain ⟨s0, s1, s2, s3, s4, s5⟩ := hSw; go_simp; (try with_reducible rfl))
  (try simp only [Act.put]); (try simp only [List.setIfInBounds_toArray]); (try simp only [List.set_cons_succ]); (try simp only [List.set_cons_zero])
  refine wpAnyH_take (i := 3) (oi := { dst := some 10, op := Op.load 40 (Operand.tmp 9), type := 40, pos := "ref.go:186", after := #[{ on := 2, ground := Ground.data }], guard := none }) (v := ?v3a4) rfl (by kernel_rfl) (by kernel_rfl) (by kernel_rfl) (fun _ _ _ h => h) (Or.inl ⟨by rfl, ?y3a4⟩) (by assumption) ?r3a4
  case y3a4 => (intro w hSw; obtain ⟨s0, s1, s2, s3, s4, s5⟩ := hSw; go_simp; (try with_reducible rfl))
  (try simp only [Act.put]); (try simp only [List.setIfInBounds_toArray]); (try simp only [List.set_cons_succ]); (try simp only [List.set_cons_zero])
  refine wpAnyH_take (i := 4) (oi := { dst := some 11, op := Op.move (Operand.tmp 0), type := 48, pos := "ref.go:186", after := #[], guard := none }) (v := ?v4a5) rfl (by kernel_rfl) (by kernel_rfl) (by kernel_rfl) (fun _ _ _ h => h) (Or.inl ⟨by rfl, ?y4a5⟩) (by assumption) ?r4a5
  case y4a5 => (intro w hSw; obtain ⟨s0, s1, s2, s3, s4, s5⟩ := hSw; go_simp; (try with_reducible rfl))
  (try simp only [Act.put]); (try simp only [List.setIfInBounds_toArray]); (try simp only [List.set_cons_succ]); (try simp only [List.set_cons_zero])
  refine wpAnyH_take (i := 5) (oi := { dst := some 12, op := Op.nilCheck (Operand.tmp 11), type := 0, pos := "ref.go:186", after := #[{ on := 4, ground := Ground.data }], guard := none }) (v := ?v5a6) rfl (by kernel_rfl) (by kernel_rfl) (by kernel_rfl) (fun _ _ _ h => h) (Or.inl ⟨by rfl, ?y5a6⟩) (by assumption) ?r5a6
  case y5a6 => (intro w hSw; obtain ⟨s0, s1, s2, s3, s4, s5⟩ := hSw; go_simp; (try with_reducible rfl))
  (try simp only [Act.put]); (try simp only [List.setIfInBounds_toArray]); (try simp only [List.set_cons_succ]); (try simp only [List.set_cons_zero])
  refine wpAnyH_take (i := 6) (oi := { dst := some 13, op := Op.fieldAddr 82 (Operand.tmp 12) 1, type := 0, pos := "ref.go:186", after := #[{ on := 5, ground := Ground.data }], guard := none }) (v := ?v6a7) rfl (by kernel_rfl) (by kernel_rfl) (by kernel_rfl) (fun _ _ _ h => h) (Or.inl ⟨by rfl, ?y6a7⟩) (by assumption) ?r6a7
  case y6a7 => (intro w hSw; obtain ⟨s0, s1, s2, s3, s4, s5⟩ := hSw; go_simp; (try with_reducible rfl))
  (try simp only [Act.put]); (try simp only [List.setIfInBounds_toArray]); (try simp only [List.set_cons_succ]); (try simp only [List.set_cons_zero])
  refine wpAnyH_take (i := 7) (oi := { dst := some 14, op := Op.load 22 (Operand.tmp 13), type := 22, pos := "ref.go:186", after := #[{ on := 6, ground := Ground.data }], guard := none }) (v := ?v7a8) rfl (by kernel_rfl) (by kernel_rfl) (by kernel_rfl) (fun _ _ _ h => h) (Or.inl ⟨by rfl, ?y7a8⟩) (by assumption) ?r7a8
  case y7a8 => (intro w hSw; obtain ⟨s0, s1, s2, s3, s4, s5⟩ := hSw; go_simp; (try with_reducible rfl))
  (try simp only [Act.put]); (try simp only [List.setIfInBounds_toArray]); (try simp only [List.set_cons_succ]); (try simp only [List.set_cons_zero])
  refine wpAnyH_take (i := 8) (oi := { dst := some 15, op := Op.move (Operand.tmp 0), type := 48, pos := "ref.go:186", after := #[], guard := none }) (v := ?v8a9) rfl (by kernel_rfl) (by kernel_rfl) (by kernel_rfl) (fun _ _ _ h => h) (Or.inl ⟨by rfl, ?y8a9⟩) (by assumption) ?r8a9
  case y8a9 => (intro w hSw; obtain ⟨s0, s1, s2, s3, s4, s5⟩ := hSw; go_simp; (try with_reducible rfl))
  (try simp only [Act.put]); (try simp only [List.setIfInBounds_toArray]); (try simp only [List.set_cons_succ]); (try simp only [List.set_cons_zero])
  refine wpAnyH_take (i := 9) (oi := { dst := some 16, op := Op.nilCheck (Operand.tmp 15), type := 0, pos := "ref.go:186", after := #[{ on := 8, ground := Ground.data }], guard := none }) (v := ?v9a10) rfl (by kernel_rfl) (by kernel_rfl) (by kernel_rfl) (fun _ _ _ h => h) (Or.inl ⟨by rfl, ?y9a10⟩) (by assumption) ?r9a10
  case y9a10 => (intro w hSw; obtain ⟨s0, s1, s2, s3, s4, s5⟩ := hSw; go_simp; (try with_reducible rfl))
  (try simp only [Act.put]); (try simp only [List.setIfInBounds_toArray]); (try simp only [List.set_cons_succ]); (try simp only [List.set_cons_zero])
  refine wpAnyH_take (i := 10) (oi := { dst := some 17, op := Op.fieldAddr 82 (Operand.tmp 16) 2, type := 0, pos := "ref.go:186", after := #[{ on := 9, ground := Ground.data }], guard := none }) (v := ?v10a11) rfl (by kernel_rfl) (by kernel_rfl) (by kernel_rfl) (fun _ _ _ h => h) (Or.inl ⟨by rfl, ?y10a11⟩) (by assumption) ?r10a11
  case y10a11 => (intro w hSw; obtain ⟨s0, s1, s2, s3, s4, s5⟩ := hSw; go_simp; (try with_reducible rfl))
  (try simp only [Act.put]); (try simp only [List.setIfInBounds_toArray]); (try simp only [List.set_cons_succ]); (try simp only [List.set_cons_zero])
  refine wpAnyH_take (i := 11) (oi := { dst := some 18, op := Op.load 4 (Operand.tmp 17), type := 4, pos := "ref.go:186", after := #[{ on := 10, ground := Ground.data }], guard := none }) (v := ?v11a12) rfl (by kernel_rfl) (by kernel_rfl) (by kernel_rfl) (fun _ _ _ h => h) (Or.inl ⟨by rfl, ?y11a12⟩) (by assumption) ?r11a12
  case y11a12 => (intro w hSw; obtain ⟨s0, s1, s2, s3, s4, s5⟩ := hSw; go_simp; (try with_reducible rfl))
  (try simp only [Act.put]); (try simp only [List.setIfInBounds_toArray]); (try simp only [List.set_cons_succ]); (try simp only [List.set_cons_zero])
  refine wpAnyH_take (i := 12) (oi := { dst := some 19, op := Op.move (Operand.tmp 0), type := 48, pos := "ref.go:186", after := #[], guard := none }) (v := ?v12a13) rfl (by kernel_rfl) (by kernel_rfl) (by kernel_rfl) (fun _ _ _ h => h) (Or.inl ⟨by rfl, ?y12a13⟩) (by assumption) ?r12a13
  case y12a13 => (intro w hSw; obtain ⟨s0, s1, s2, s3, s4, s5⟩ := hSw; go_simp; (try with_reducible rfl))
  (try simp only [Act.put]); (try simp only [List.setIfInBounds_toArray]); (try simp only [List.set_cons_succ]); (try simp only [List.set_cons_zero])
  refine wpAnyH_take (i := 13) (oi := { dst := some 20, op := Op.nilCheck (Operand.tmp 19), type := 0, pos := "ref.go:186", after := #[{ on := 12, ground := Ground.data }], guard := none }) (v := ?v13a14) rfl (by kernel_rfl) (by kernel_rfl) (by kernel_rfl) (fun _ _ _ h => h) (Or.inl ⟨by rfl, ?y13a14⟩) (by assumption) ?r13a14
  case y13a14 => (intro w hSw; obtain ⟨s0, s1, s2, s3, s4, s5⟩ := hSw; go_simp; (try with_reducible rfl))
  (try simp only [Act.put]); (try simp only [List.setIfInBounds_toArray]); (try simp only [List.set_cons_succ]); (try simp only [List.set_cons_zero])
  refine wpAnyH_take (i := 14) (oi := { dst := some 21, op := Op.fieldAddr 82 (Operand.tmp 20) 3, type := 0, pos := "ref.go:186", after := #[{ on := 13, ground := Ground.data }], guard := none }) (v := ?v14a15) rfl (by kernel_rfl) (by kernel_rfl) (by kernel_rfl) (fun _ _ _ h => h) (Or.inl ⟨by rfl, ?y14a15⟩) (by assumption) ?r14a15
  case y14a15 => (intro w hSw; obtain ⟨s0, s1, s2, s3, s4, s5⟩ := hSw; go_simp; (try with_reducible rfl))
  (try simp only [Act.put]); (try simp only [List.setIfInBounds_toArray]); (try simp only [List.set_cons_succ]); (try simp only [List.set_cons_zero])
  refine wpAnyH_take (i := 15) (oi := { dst := some 22, op := Op.load 3 (Operand.tmp 21), type := 3, pos := "ref.go:186", after := #[{ on := 14, ground := Ground.data }], guard := none }) (v := ?v15a16) rfl (by kernel_rfl) (by kernel_rfl) (by kernel_rfl) (fun _ _ _ h => h) (Or.inl ⟨by rfl, ?y15a16⟩) (by assumption) ?r15a16
  case y15a16 => (intro w hSw; obtain ⟨s0, s1, s2, s3, s4, s5⟩ := hSw; go_simp; (try with_reducible rfl))
  (try simp only [Act.put]); (try simp only [List.setIfInBounds_toArray]); (try simp only [List.set_cons_succ]); (try simp only [List.set_cons_zero])
  refine wpAnyH_take (i := 16) (oi := { dst := some 23, op := Op.move (Operand.tmp 0), type := 48, pos := "ref.go:186", after := #[], guard := none }) (v := ?v16a17) rfl (by kernel_rfl) (by kernel_rfl) (by kernel_rfl) (fun _ _ _ h => h) (Or.inl ⟨by rfl, ?y16a17⟩) (by assumption) ?r16a17
  case y16a17 => (intro w hSw; obtain ⟨s0, s1, s2, s3, s4, s5⟩ := hSw; go_simp; (try with_reducible rfl))
  (try simp only [Act.put]); (try simp only [List.setIfInBounds_toArray]); (try simp only [List.set_cons_succ]); (try simp only [List.set_cons_zero])
  refine wpAnyH_take (i := 17) (oi := { dst := some 24, op := Op.nilCheck (Operand.tmp 23), type := 0, pos := "ref.go:186", after := #[{ on := 16, ground := Ground.data }], guard := none }) (v := ?v17a18) rfl (by kernel_rfl) (by kernel_rfl) (by kernel_rfl) (fun _ _ _ h => h) (Or.inl ⟨by rfl, ?y17a18⟩) (by assumption) ?r17a18
  case y17a18 => (intro w hSw; obtain ⟨s0, s1, s2, s3, s4, s5⟩ := hSw; go_simp; (try with_reducible rfl))
  (try simp only [Act.put]); (try simp only [List.setIfInBounds_toArray]); (try simp only [List.set_cons_succ]); (try simp only [List.set_cons_zero])
  refine wpAnyH_take (i := 18) (oi := { dst := some 25, op := Op.fieldAddr 82 (Operand.tmp 24) 4, type := 0, pos := "ref.go:186", after := #[{ on := 17, ground := Ground.data }], guard := none }) (v := ?v18a19) rfl (by kernel_rfl) (by kernel_rfl) (by kernel_rfl) (fun _ _ _ h => h) (Or.inl ⟨by rfl, ?y18a19⟩) (by assumption) ?r18a19
  case y18a19 => (intro w hSw; obtain ⟨s0, s1, s2, s3, s4, s5⟩ := hSw; go_simp; (try with_reducible rfl))
  (try simp only [Act.put]); (try simp only [List.setIfInBounds_toArray]); (try simp only [List.set_cons_succ]); (try simp only [List.set_cons_zero])
  refine wpAnyH_take (i := 19) (oi := { dst := some 26, op := Op.load 4 (Operand.tmp 25), type := 4, pos := "ref.go:186", after := #[{ on := 18, ground := Ground.data }], guard := none }) (v := ?v19a20) rfl (by kernel_rfl) (by kernel_rfl) (by kernel_rfl) (fun _ _ _ h => h) (Or.inl ⟨by rfl, ?y19a20⟩) (by assumption) ?r19a20
  case y19a20 => (intro w hSw; obtain ⟨s0, s1, s2, s3, s4, s5⟩ := hSw; go_simp; (try with_reducible rfl))
  (try simp only [Act.put]); (try simp only [List.setIfInBounds_toArray]); (try simp only [List.set_cons_succ]); (try simp only [List.set_cons_zero])
  refine wpAnyH_take (i := 20) (oi := { dst := some 27, op := Op.build 82 #[(0, Operand.tmp 10), (1, Operand.tmp 14), (2, Operand.tmp 18), (3, Operand.tmp 22), (4, Operand.tmp 26)], type := 82, pos := "ref.go:186", after := #[{ on := 3, ground := Ground.data }, { on := 7, ground := Ground.data }, { on := 11, ground := Ground.data }, { on := 15, ground := Ground.data }, { on := 19, ground := Ground.data }], guard := none }) (v := ?v20a21) rfl (by kernel_rfl) (by kernel_rfl) (by kernel_rfl) (fun _ _ _ h => h) (Or.inl ⟨by rfl, ?y20a21⟩) (by assumption) ?r20a21
  case y20a21 => (intro w hSw; obtain ⟨s0, s1, s2, s3, s4, s5⟩ := hSw; go_simp; (try with_reducible rfl))
  (try simp only [Act.put]); (try simp only [List.setIfInBounds_toArray]); (try simp only [List.set_cons_succ]); (try simp only [List.set_cons_zero])
  refine wpAnyH_ready (rs := [21]) (by kernel_rfl) (by simp) ?_
  refine AllReadyH.cons (o := { dst := some 28, op := Op.box 82 (Operand.tmp 27), type := 48, pos := "ref.go:186", after := #[{ on := 20, ground := Ground.data }], guard := none }) rfl (fun Kc hK => ?_) AllReadyH.nil
  go_simp
  refine hK.out _ _ (HKp.out _ _ (Keeps.refl _ _)) (fun hHeld => ?_)
  clear hK Kc
  (try simp only [Act.put]); (try simp only [List.setIfInBounds_toArray]); (try simp only [List.set_cons_succ]); (try simp only [List.set_cons_zero])
  refine wpAnyH_take (i := 22) (oi := { dst := some 3, op := Op.assign (Operand.tmp 28), type := 48, pos := "ref.go:186", after := #[{ on := 21, ground := Ground.data }, { on := 0, ground := Ground.phase }, { on := 1, ground := Ground.phase }, { on := 2, ground := Ground.phase }, { on := 3, ground := Ground.phase }, { on := 4, ground := Ground.phase }, { on := 5, ground := Ground.phase }, { on := 6, ground := Ground.phase }, { on := 7, ground := Ground.phase }, { on := 8, ground := Ground.phase }, { on := 9, ground := Ground.phase }, { on := 10, ground := Ground.phase }, { on := 11, ground := Ground.phase }, { on := 12, ground := Ground.phase }, { on := 13, ground := Ground.phase }, { on := 14, ground := Ground.phase }, { on := 15, ground := Ground.phase }, { on := 16, ground := Ground.phase }, { on := 17, ground := Ground.phase }, { on := 18, ground := Ground.phase }, { on := 19, ground := Ground.phase }, { on := 20, ground := Ground.phase }, { on := 21, ground := Ground.phase }], guard := none }) (v := ?v22a22) rfl (by kernel_rfl) (by kernel_rfl) (by kernel_rfl) (fun _ _ _ h => h) (Or.inl ⟨by rfl, ?y22a22⟩) (by assumption) ?r22a22
  case y22a22 => (intro w hSw; obtain ⟨s0, s1, s2, s3, s4, s5⟩ := hSw; go_simp; (try with_reducible rfl))
  (try simp only [Act.put]); (try simp only [List.setIfInBounds_toArray]); (try simp only [List.set_cons_succ]); (try simp only [List.set_cons_zero])
  refine wpAnyH_done (by kernel_rfl) ?_ _
  clear hHeld
  obtain ⟨V1, hV1⟩ : ∃ V1, (W.alloc (.cells #[.int .i64 (lm : Int), .int .i64 (lb : Int), .slice fo n fc, .bool sh, .int .i64 (A : Int), .bool last] 82)).drew = V1 := ⟨_, rfl⟩
  obtain ⟨y, hy⟩ : ∃ y, W.heap.size = y := ⟨_, rfl⟩
  have gV1 : Gr W V1 := by rw [← hV1]; exact (gr_alloc W _).drew
  have hb1 : V1.heap[y]? = some (.cells #[.int .i64 (lm : Int), .int .i64 (lb : Int), .slice fo n fc, .bool sh, .int .i64 (A : Int), .bool last] 82 (0, 0)) := by rw [← hV1, ← hy]; exact heap_alloc_new W _
  have hD1 : Dr w V1 y lm lb F sh A last fo fc n := ⟨by omega, hb1, (HD.out.grow gV1).own, HD.out.fnew, HD.out.at'⟩
  have hs1 : w.heap.size ≤ V1.heap.size := Nat.le_trans hww gV1.size
  have hNx := HNx.out V1 y hD1 hs1
  have HNy := hidM hNx
  have HG1 := hidM gV1
  have HY := hidM hy
  rw [hV1, hy]
  clear hNx HNx hD1 hs1 hb1 gV1 HIN HKp gD hV1 hy
  go_wp2_with (go_at_call 41; refine Hid.out ?_)
  unfold Hid
  refine Calls.mono HNy.out ?_
  rintro e V2 ⟨a1, n1, c1, a2, n2, c2, rfl, k2⟩
  have gV2 : Gr W V2 := HG1.out.trans k2 (fun j hj e => by have := HY.out; omega)
  have HG2 := hidM gV2
  have hra := heap_alloc_new V2 (.cells #[.slice none 0 0, .slice none 0 0] 24)
  have gA := gr_alloc V2 (.cells #[.slice none 0 0, .slice none 0 0] 24)
  obtain ⟨W3, hW3⟩ : ∃ W3, V2.alloc (.cells #[.slice none 0 0, .slice none 0 0] 24) = W3 := ⟨_, rfl⟩
  obtain ⟨ra, hrae⟩ : ∃ ra, V2.heap.size = ra := ⟨_, rfl⟩
  have HRl : Hid (W.heap.size ≤ ra) := by have := gV2.size; show _ ≤ _; omega
  have HG3 : Hid (Gr W W3) := by rw [← hW3]; exact gV2.trans gA (fun _ _ h => h)
  rw [hW3, hrae] at hra
  clear gV2 gA HNy HG1 k2 HG2
  go_wp2_with (with_reducible show wpList Try.prog _ _ (Oper.mk none (Op.store 24 (Operand.tmp 4) _) _ _ _ _ :: _) _ _; refine Hid.out ?_)
  unfold Hid
  first | rw [hW3] | skip
  first | rw [hrae] | skip
  refine wpList_store_off rfl 24 (.tmp 4) (.tmp 32) rfl ra 0 (#[.slice a1 n1 c1, .slice a2 n2 c2] : Array Value) hra (by rfl) (by rfl) (by simp) (by kernel_rfl) (by simp [Value.oneCell']) ?_
  obtain ⟨G, hG⟩ : ∃ G, G = World.setRow W3 ra ((#[.slice none 0 0, .slice none 0 0] : Array Value).toList.take 0 ++ (#[.slice a1 n1 c1, .slice a2 n2 c2] : Array Value).toList ++ (#[.slice none 0 0, .slice none 0 0] : Array Value).toList.drop (0 + (#[.slice a1 n1 c1, .slice a2 n2 c2] : Array Value).size)).toArray := ⟨_, rfl⟩
  rw [← hG]
  have k1 : Keeps W3 G (fun z => z = ra) := by rw [hG]; exact ⟨rfl, rfl, rfl, by simp, fun kk hk hn => setRow_other W3 ra kk _ hn⟩
  have hGG : Gr W G := HG3.out.trans k1 (fun j hj e => by have := HRl.out; omega)
  have HGG := hidM hGG
  obtain ⟨-, -, d2, -, d4, -⟩ := ce6 (HD.out.grow hGG).box
  have hAI : (0 : Int) ≤ (A : Int) := by omega
  have hAnI : (A : Int) ≤ (n : Int) := by omega
  have e9 : ((n - A : Nat) : Int) = (n : Int) - (A : Int) := by omega
  have HE9 := hidM e9
  clear k1 hGG hG hra hW3 hrae HG3 HD e9
  by_cases q1 : z1 = 1
  · have HE : Hid (heldD z1 (n - A) = (n : Int) - (A : Int)) := by show _ = _; unfold heldD; rw [if_pos (.inl q1)]; exact HE9.out
    subst q1
    go_wp2_with fail
    go_quiet (fail)
    go_wp2_with fail
    go_ret
    exact ⟨by rw [HE.out]; rfl, HGG.out.drewN _⟩
  by_cases q2 : z1 = 2
  · have HE : Hid (heldD z1 (n - A) = (n : Int) - (A : Int)) := by show _ = _; unfold heldD; rw [if_pos (.inr q2)]; exact HE9.out
    subst q2
    go_wp2_with fail
    go_quiet (fail)
    go_wp2_with fail
    go_ret
    exact ⟨by rw [HE.out]; rfl, HGG.out.drewN _⟩
  have HE : Hid (heldD z1 (n - A) = 0) := by show _ = _; unfold heldD; rw [if_neg (fun z => z.elim q1 q2)]
  have q1' : (z1 == 1) = false := by simpa using q1
  have q2' : (z1 == 2) = false := by simpa using q2
  go_wp2_with fail
  go_ret
  exact ⟨by rw [HE.out]; rfl, HGG.out⟩
end Go.Proofs.Ytemleibpmaclmaa.Kit

namespace Go.Proofs.Ytemleibpmaclmaa.Kit
open Go.RowKit Go.Shelf Go.Deep
set_option linter.unusedVariables false

/-! ### a script in memory -/
abbrev Op2 := Int × List UInt8
structure OpAt (W : World) (b off : Nat) (x : Op2) : Prop where
  h : ∃ bo bc, W.cell? ⟨b, off, none⟩ = some (.int .i64 x.1) ∧ W.cell? ⟨b, off + 1, none⟩ = some (.slice bo x.2.length bc) ∧ x.2.length ≤ bc ∧ x.2.length ≤ 140737488351232 ∧ BytesAt W bo x.2
def OpsAt (W : World) (ao : Option Addr) (l : List Op2) : Prop :=
  l ≠ [] → ∃ b off, ao = some ⟨b, off, none⟩ ∧ ∀ k (h : k < l.length), OpAt W b (off + 2 * k) l[k]
theorem OpAt.gr {W W' : World} {b off : Nat} {x : Op2} (h : OpAt W b off x) (g : Gr W W') : OpAt W' b off x := by
  obtain ⟨bo, bc, c1, c2, a4, a5, a6⟩ := h.h
  exact ⟨bo, bc, g.cell' c1 id, g.cell' c2 id, a4, a5, a6.gr g⟩
theorem OpsAt.gr {W W' : World} {ao : Option Addr} {l : List Op2} (h : OpsAt W ao l) (g : Gr W W') : OpsAt W' ao l := fun hn => by
  obtain ⟨b, off, e, hc⟩ := h hn
  exact ⟨b, off, e, fun k hk => (hc k hk).gr g⟩
/-- how many bytes a script has, and steps -/
def overN (l : List Op2) : Nat := (l.map fun x => 1 + x.2.length).sum
def overB (l : List Op2) : Bool := decide (2147483648 ≤ overN l)
theorem over_take (l : List Op2) (k : Nat) : overN (l.take k) ≤ overN l := by
  conv => rhs; rw [← List.take_append_drop k l]
  unfold overN
  rw [List.map_append, List.sum_append]
  omega
set_option maxRecDepth 100000 in
set_option maxHeartbeats 4000000 in
theorem over_some (b off cap : Nat) (l : List Op2) (w : World) (hlen : l.length ≤ 9223372036854775807) (hc : ∀ k (h : k < l.length), OpAt w b (off + 2 * k) l[k]) :
    Calls Try.prog 18 #[.slice (some ⟨b, off, none⟩) l.length cap] w fun e w' => e = .returned (.bool (overB l)) ∧ Gr w w' := by
  obtain ⟨len, hl⟩ : ∃ n, l.length = n := ⟨_, rfl⟩
  rw [hl] at hlen ⊢
  have HL : Hid (l.length = len) := hl
  have HC := hidM hc
  clear hl hc
  go_enter Try.func18, Try.ntmps18
  go_wp2_with fail
  go_loopw [3, 4] (fun n i wr => ∃ (k t : Nat), k ≤ len ∧ i = .int .i64 (k : Int) ∧ n = .int .i64 (t : Int) ∧ t ≤ 1000000000000000 ∧ Hid (t = overN (l.take k)) ∧ Hid (Gr w wr)) (fun n i _ => len - (intOf i).toNat)
  case atStart => exact ⟨0, 0, Nat.zero_le _, rfl, rfl, by omega, rfl, Keeps.refl _ _⟩
  case round =>
    obtain ⟨k, t, hk, rfl, rfl, ht, HN, HG⟩ := hrel
    by_cases hlt : k < len
    · have hkl : k < l.length := by rw [HL.out]; exact hlt
      obtain ⟨bo, bc, c1, c2, -, m2, -⟩ := ((HC.out k hkl).gr HG.out).h
      obtain ⟨y, hy⟩ : ∃ y, l[k].2.length = y := ⟨_, rfl⟩
      rw [hy] at c2 m2
      rw [Nat.mul_comm 2 k] at c1 c2
      have HX : Hid (overN (l.take (k + 1)) = overN (l.take k) + (1 + y)) := by
        show _ = _
        rw [List.take_succ_eq_append_getElem hkl, overN, List.map_append, List.sum_append, ← overN]
        simp [hy]
      have cI : (k : Int) < (len : Int) := by omega
      clear hy hkl c1
      by_cases h1 : (t : Int) < 2147483648
      · go_wp2_with fail
        go_roundw
        case rel =>
          refine ⟨k + 1, t + (1 + y), by omega, by go_num, by go_num, by omega, ?_, HG.out⟩
          show _ = _
          rw [HX.out, ← HN.out]
        case measure => simp [intOf]; omega
      · have HE : Hid (overB l = true) := by
          show _ = _
          have := over_take l k
          rw [← HN.out] at this
          simp [overB]
          omega
        go_wp2_with fail
        go_ret
        exact ⟨by rw [HE.out]; exact ret_bool (by simp), HG.out⟩
    · obtain rfl : k = len := by omega
      have HE : Hid (overB l = decide ((2147483648 : Int) ≤ (t : Int))) := by
        show _ = _
        have : t = overN l := by rw [HN.out, List.take_of_length_le (by rw [HL.out]; omega)]
        unfold overB
        rw [← this]
        simp
        omega
      by_cases h1 : (t : Int) < 2147483648
      · go_wp2_with fail
        go_ret
        exact ⟨by rw [HE.out]; exact ret_bool (by simp), HG.out⟩
      · go_wp2_with fail
        go_ret
        exact ⟨by rw [HE.out]; exact ret_bool (by simp; omega), HG.out⟩
set_option maxHeartbeats 400000 in
theorem over_none (ao : Option Addr) (cap : Nat) (w : World) : Calls Try.prog 18 #[.slice ao 0 cap] w fun e w' => e = .returned (.bool false) ∧ w' = w := by
  go_enter Try.func18, Try.ntmps18
  go_wp2
  go_loop [3, 4] (fun n i => n = .int .i64 0 ∧ i = .int .i64 0) (fun _ _ => 0)
  case atStart => exact ⟨rfl, rfl⟩
  case round =>
    obtain ⟨rfl, rfl⟩ := hrel
    go_wp2
    go_ret
    exact ⟨rfl, rfl⟩
/-- over -/
theorem over_any {ao : Option Addr} {cap : Nat} {l : List Op2} {w : World} (hlen : l.length ≤ 9223372036854775807) (h : OpsAt w ao l) :
    Calls Try.prog 18 #[.slice ao l.length cap] w fun e w' => e = .returned (.bool (overB l)) ∧ Gr w w' := by
  by_cases hl : l = []
  · subst hl
    refine (over_none ao cap w).mono ?_
    rintro e w' ⟨rfl, rfl⟩
    exact ⟨rfl, Keeps.refl _ _⟩
  · obtain ⟨b, off, rfl, hc⟩ := h hl
    exact over_some b off cap l w hlen hc
end Go.Proofs.Ytemleibpmaclmaa.Kit

namespace Go.Proofs.Ytemleibpmaclmaa.frameR
open Go.ChangeShapes Go.WideShapes Go.ChangeAt Go.RowKit Go.Joins Go.Deep
set_option linter.unusedVariables false

theorem bytes52 : Try.prog.bytesOf 52 = 32 := by kernel_rfl
theorem cells52 : Try.prog.cellsOf 52 = 2 := by kernel_rfl
set_option maxRecDepth 100000 in
/-- a step of a script, read -/
theorem op_at {H : Type} {enc : TypeId × Value → H} {W : World} {fuel : Nat} {cs : List Value} {d : DataW H} {p : List MemPlace} (hl : cs.length = 2) (h : DataW.trod enc Try.prog W 0 (fun _ => true) true fuel 52 cs = some (d, p)) (hw : ∀ n ∈ d.weights Try.prog 52, n ≤ reachBytes) :
    ∃ z bo b bc, cs = [.int .i64 z, .slice bo (b : List UInt8).length bc] ∧ (-9223372036854775808 ≤ z ∧ z ≤ 9223372036854775807) ∧ (b.length ≤ bc ∧ b.length ≤ 140737488351232 ∧ Kit.BytesAt W bo b) := by
  obtain ⟨xs, m2, _, hd, _, hxs, hf⟩ := DataW.trod_struct Try.underlying52 h
  obtain ⟨c0, c1, rfl⟩ := list2 cs hl
  obtain ⟨y0, y1, rfl⟩ := list2 xs (hxs.trans rfl)
  have f0 : DataW.trod enc Try.prog W 0 (fun _ => true) true m2 3 ((([c0, c1] : List Value).drop 0).take (Try.prog.cellsOf 3)) = some y0 := hf 0 _ rfl
  have f1 : DataW.trod enc Try.prog W 0 (fun _ => true) true m2 22 ((([c0, c1] : List Value).drop 1).take (Try.prog.cellsOf 22)) = some y1 := hf 1 _ rfl
  rw [cells3] at f0
  rw [cells25] at f1
  simp only [List.drop_zero, List.drop_succ_cons, List.take_succ_cons, List.take_zero] at f0 f1
  simp only [Prod.mk.injEq] at hd
  obtain ⟨z, hz, -, hzw⟩ := DataW.trod_int Try.underlying3 f0
  obtain rfl : c0 = .int .i64 z := by simpa using hz
  obtain ⟨bo, b, bc, rfl, h2⟩ := bytes_at (d := y1.1) (p := y1.2) f1 (fun n hn => hw n (by
    rw [hd.1]
    simp only [DataW.weights, Try.underlying52]
    exact DataW.weights_mem_each (j := 1) (t := 22) (d := y1.1) rfl rfl n hn))
  exact ⟨z, bo, b, bc, rfl, i64_bd hzw, h2⟩
set_option maxRecDepth 100000 in
/-- a script, read -/
theorem ops_at {H : Type} {enc : TypeId × Value → H} {W : World} {fuel : Nat} {v : Value} {d : DataW H} {p : List MemPlace} (h : DataW.trod enc Try.prog W 0 (fun _ => true) true fuel 41 [v] = some (d, p)) (hw : ∀ n ∈ d.weights Try.prog 41, n ≤ reachBytes) :
    ∃ lo l lc, v = .slice lo (l : List Kit.Op2).length lc ∧ l.length ≤ 140737488355328 ∧ Kit.OpsAt W lo l ∧ ∀ x ∈ l, -9223372036854775808 ≤ x.1 ∧ x.1 ≤ 9223372036854775807 := by
  rcases open_slice Try.underlying41 h with ⟨hcs, _⟩ | ⟨a, len, cap, m, n, D, Pl, hcs, _, hl, hm, hmm, hx, hc⟩
  · simp at hcs
    subst hcs
    exact ⟨none, [], 0, rfl, by simp, fun h => absurd rfl h, by simp⟩
  · simp at hcs
    subst hcs
    simp only [if_true] at hmm
    subst hmm
    simp only [Prod.mk.injEq] at hx
    rw [hx.1] at hw
    simp only [DataW.weights, Try.underlying41] at hw
    have hlen : len * 32 ≤ 140737488355328 := by
      have := hw _ List.mem_cons_self
      rw [bytes52] at this
      simp only [List.length_map, List.length_range, reachBytes] at this
      omega
    have hall : ∀ i, i < len → ∃ x : Kit.Op2, ∃ bo bc, W.cells? 0 (a.add (i * 2)) 2 = some [.int .i64 x.1, .slice bo x.2.length bc] ∧ (-9223372036854775808 ≤ x.1 ∧ x.1 ≤ 9223372036854775807) ∧ (x.2.length ≤ bc ∧ x.2.length ≤ 140737488351232 ∧ Kit.BytesAt W bo x.2) := by
      intro i hi
      obtain ⟨cs', hc', ht⟩ := hc i (by omega)
      rw [cells52] at hc'
      obtain ⟨_, hl', _⟩ := World.cells?_some hc'
      obtain ⟨z, bo, b1, bc, rfl, h1, h2⟩ := op_at hl' ht (fun n hn => hw n (List.mem_cons_of_mem _ (List.mem_append.2 (.inl (mem_all (List.mem_map_of_mem (f := D) (List.mem_range.2 hi)) hn)))))
      exact ⟨(z, b1), bo, bc, hc', h1, h2⟩
    obtain ⟨F, hF⟩ := choose_lt hall
    refine ⟨some a, (List.range len).map F, m, by simp, by simp; omega, fun h0 => ?_, fun x hx => ?_⟩
    rotate_left
    · obtain ⟨i, hi, rfl⟩ := List.mem_map.1 hx
      obtain ⟨_, _, _, q, _⟩ := hF i (List.mem_range.1 hi)
      exact q
    have h0' : 0 < len := by cases len with | zero => simp at h0 | succ n => omega
    obtain ⟨b, off, spot⟩ := a
    have hsp : spot = none := by
      obtain ⟨_, _, hc0, _⟩ := hF 0 h0'
      obtain ⟨_, hl', hcell'⟩ := World.cells?_some hc0
      have g0 := hcell' 0 (by omega)
      have hsp := World.cell?_spot (g0.trans rfl)
      simp [Addr.add] at hsp
      exact hsp
    subst hsp
    refine ⟨b, off, rfl, fun i hi => ?_⟩
    simp at hi
    have he : ((List.range len).map F)[i]'(by simpa using hi) = F i := by simp
    rw [he]
    obtain ⟨bo, bc, hci, x1, y1, y2, y3⟩ := hF i hi
    obtain ⟨_, _, hcell⟩ := World.cells?_some hci
    rw [addAt] at hcell
    have g0 := hcell 0 (by omega)
    have g1 := hcell 1 (by omega)
    simp only [addAt, Nat.add_zero, List.getElem?_cons_zero, List.getElem?_cons_succ] at g0 g1
    rw [Nat.mul_comm i 2] at g0 g1
    exact ⟨bo, bc, g0, g1, y1, y2, y3⟩
theorem cells40 : Try.prog.cellsOf 40 = 2 := by kernel_rfl
/-- limits, read -/
theorem limits_at {H : Type} {enc : TypeId × Value → H} {W : World} {fuel : Nat} {cs : List Value} {d : DataW H} {p : List MemPlace} (hl : cs.length = 2) (h : DataW.trod enc Try.prog W 0 (fun _ => true) true fuel 40 cs = some (d, p)) :
    ∃ a b, cs = [.int .i64 a, .int .i64 b] ∧ (-9223372036854775808 ≤ a ∧ a ≤ 9223372036854775807) ∧ (-9223372036854775808 ≤ b ∧ b ≤ 9223372036854775807) := by
  obtain ⟨xs, m2, _, hd, _, hxs, hf⟩ := DataW.trod_struct Try.underlying40 h
  obtain ⟨c0, c1, rfl⟩ := list2 cs hl
  obtain ⟨y0, y1, rfl⟩ := list2 xs (hxs.trans rfl)
  have f0 : DataW.trod enc Try.prog W 0 (fun _ => true) true m2 3 ((([c0, c1] : List Value).drop 0).take (Try.prog.cellsOf 3)) = some y0 := hf 0 _ rfl
  have f1 : DataW.trod enc Try.prog W 0 (fun _ => true) true m2 3 ((([c0, c1] : List Value).drop 1).take (Try.prog.cellsOf 3)) = some y1 := hf 1 _ rfl
  rw [cells3] at f0 f1
  simp only [List.drop_zero, List.drop_succ_cons, List.take_succ_cons, List.take_zero] at f0 f1
  obtain ⟨a, ha, -, haw⟩ := DataW.trod_int Try.underlying3 f0
  obtain ⟨b, hb, -, hbw⟩ := DataW.trod_int Try.underlying3 f1
  obtain rfl : c0 = .int .i64 a := by simpa using ha
  obtain rfl : c1 = .int .i64 b := by simpa using hb
  exact ⟨a, b, rfl, i64_bd haw, i64_bd hbw⟩
end Go.Proofs.Ytemleibpmaclmaa.frameR
