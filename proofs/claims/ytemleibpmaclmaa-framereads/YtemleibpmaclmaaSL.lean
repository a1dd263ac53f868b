import Derived.Test.YtemleibpmaclmaaSK
namespace Go.Proofs.Ytemleibpmaclmaa.Kit
open Go.RowKit Go.Shelf Go.Deep
set_option linter.unusedVariables false
attribute [local go_sem] run_store_func

def zeroS (lm lb : Nat) : Sc := { lm := lm, lb := lb, st := 0, left := 0, hd := [], me := 0, bo := 0, sum := 0, md := [], bd := [], ms := [], e := 0 }
def newF (lm lb : Nat) : Sc := beginF (zeroS lm lb) 0
def nilR (_ : Nat) : Row := (none, 0, 0)
theorem Rb.zero {w V : World} {q : Nat} {lm lb : Nat} (g : Gr w V) (hq : w.heap.size ≤ q) (hb : V.heap[q]? = some (.cells #[.int .i64 (lm : Int), .int .i64 (lb : Int), .int .i64 0, .int .i64 0, .slice none 0 0, .int .i64 0, .int .i64 0, .int .u32 0, .slice none 0 0, .slice none 0 0, .slice none 0 0, .int .i64 0] 73 (0, 0))) : Rb w V q 73 [] (zeroS lm lb) nilR none 0 :=
  ⟨g, hq, .inl rfl, hb, fun i h3 hi => by have : i < 3 + 2 * 0 := hi; omega, fun i h3 hi => by have : i < 3 + 2 * 0 := hi; omega, fun i j g h3 _ hi => by have : i < 3 + 2 * 0 := hi; omega, OffRow.nil _ _ _, fun g e => by simp [Value.ownBlock] at e⟩
theorem results_cell {fn : Func} {t : Tmp} {ty : TypeId} {tmps : Array Value} {a : Addr} {v : Value} {w : World} (h : fn.results = #[.cell t ty]) (ht : tmps.getD t undef = .pointer (some a)) (hl : (loadVar ty a).run Try.prog w = .ok v w) : (results fn tmps).run Try.prog w = .ok v w := by
  unfold results
  rw [h]
  simp only [Array.mapM_eq_mapM_toList, List.mapM_cons, List.mapM_nil, ht]
  simp [asAddr, hl]
set_option maxRecDepth 100000 in
set_option maxHeartbeats 4000000 in
theorem newScan_any (lm lb : Nat) (w : World) :
    Calls Try.prog 36 #[.agg #[.int .i64 (lm : Int), .int .i64 (lb : Int)]] w fun e w' => ∃ q R wo wc, e = .returned (.agg (scCells (newF lm lb) R wo wc).toArray) ∧ Rd w w' q 73 [] (newF lm lb) R wo wc := by
  have HBg : Hid (∀ V q, Gr w V → w.heap.size ≤ q → V.heap[q]? = some (.cells #[.int .i64 (lm : Int), .int .i64 (lb : Int), .int .i64 0, .int .i64 0, .slice none 0 0, .int .i64 0, .int .i64 0, .int .u32 0, .slice none 0 0, .slice none 0 0, .slice none 0 0, .int .i64 0] 73 (0, 0)) → Calls Try.prog 49 #[.pointer (some ⟨q, 0, none⟩), .int .i64 0] V fun e w' => e = .returned (.tuple #[]) ∧ RdDone w V w' q 73 [] 0 nilR none 0 (newF lm lb)) := fun V q g hq hb => begin73 (st := 0) (Rb.zero g hq hb) (by omega)
  go_enter Try.func36, Try.ntmps36
  go_wp2_with (go_at_call 49; refine Hid.out ?_)
  unfold Hid
  obtain ⟨A, hA⟩ : ∃ A, A = w.alloc (.cells #[.int .i64 (lm : Int), .int .i64 (lb : Int)] 40) := ⟨_, rfl⟩
  have sA : A.heap.size = w.heap.size + 1 := by rw [hA]; simp
  have gA : Gr w A := by rw [hA]; exact gr_alloc _ _
  rw [← hA, ← sA]
  clear hA
  obtain ⟨B, hB⟩ : ∃ B, B = A.alloc (.cells #[.int .i64 0, .int .i64 0, .int .i64 0, .int .i64 0, .slice none 0 0, .int .i64 0, .int .i64 0, .int .u32 0, .slice none 0 0, .slice none 0 0, .slice none 0 0, .int .i64 0] 73) := ⟨_, rfl⟩
  have sB : B.heap.size = A.heap.size + 1 := by rw [hB]; simp
  have gB : Gr A B := by rw [hB]; exact gr_alloc _ _
  have hb1 : B.heap[A.heap.size]? = some (.cells #[.int .i64 0, .int .i64 0, .int .i64 0, .int .i64 0, .slice none 0 0, .int .i64 0, .int .i64 0, .int .u32 0, .slice none 0 0, .slice none 0 0, .slice none 0 0, .int .i64 0] 73 (0, 0)) := by rw [hB]; exact heap_alloc_new A _
  rw [← hB, ← sB]
  clear hB
  obtain ⟨C, hC⟩ : ∃ C, C = B.alloc (.cells #[.int .i64 (lm : Int), .int .i64 (lb : Int), .int .i64 0, .int .i64 0, .slice none 0 0, .int .i64 0, .int .i64 0, .int .u32 0, .slice none 0 0, .slice none 0 0, .slice none 0 0, .int .i64 0] 73) := ⟨_, rfl⟩
  have gC : Gr B C := by rw [hC]; exact gr_alloc _ _
  have hb2 : C.heap[B.heap.size]? = some (.cells #[.int .i64 (lm : Int), .int .i64 (lb : Int), .int .i64 0, .int .i64 0, .slice none 0 0, .int .i64 0, .int .i64 0, .int .u32 0, .slice none 0 0, .slice none 0 0, .slice none 0 0, .int .i64 0] 73 (0, 0)) := by rw [hC]; exact heap_alloc_new B _
  rw [← hC]
  clear hC
  obtain ⟨Q, hQ⟩ : ∃ Q, Q = B.heap.size := ⟨_, rfl⟩
  obtain ⟨P, hP⟩ : ∃ P, P = A.heap.size := ⟨_, rfl⟩
  rw [← hQ] at hb2
  rw [← hP] at hb1
  simp only [← hQ, ← hP]
  have hPQ : P < Q := by omega
  have hwP : w.heap.size ≤ P := by omega
  have HGC := hidM (gA.trans (gB.trans gC (fun _ _ h => h)) (fun _ _ h => h))
  refine Calls.mono (HBg.out C Q HGC.out (by omega) hb2) ?_
  rintro e V ⟨rfl, R1, wo1, wc1, hR, hk, -⟩
  have hbV : V.heap[P]? = some (.cells #[.int .i64 0, .int .i64 0, .int .i64 0, .int .i64 0, .slice none 0 0, .int .i64 0, .int .i64 0, .int .u32 0, .slice none 0 0, .slice none 0 0, .slice none 0 0, .int .i64 0] 73 (0, 0)) := by
    rw [hk.block P (by have := gC.size; omega) (fun z => by
      rcases z with z | z | ⟨i, hi, z⟩
      · omega
      · simp [Value.ownBlock] at z
      · simp [nilR, rv, Value.ownBlock] at z), gC.block P (by omega) id]
    exact hb1
  have HR := hidM hR
  clear hk hR hb1 hb2 gA gB gC sA sB hQ hP HBg
  go_wp2_with (with_reducible show wpList Try.prog _ _ (Oper.mk (some 7) (Op.load 73 _) _ _ _ _ :: _) _ _; refine Hid.out ?_)
  unfold Hid
  have hrg : V.rangeAt Q 0 (scCells (newF lm lb) R1 wo1 wc1) := fun j v hj => by
    rw [Nat.zero_add]
    exact HR.out.cells (by simpa using hj)
  refine wpList_load_mid rfl 73 (.tmp 3) rfl Q 0 rfl (scCells (newF lm lb) R1 wo1 wc1) _ hrg Try.underlying73 rfl (by kernel_rfl) ?_
  clear hrg
  go_wp2_with (with_reducible show wpList Try.prog _ _ (Oper.mk none (Op.store 73 _ _) _ _ _ _ :: _) _ _; refine Hid.out ?_)
  unfold Hid
  refine wpList_store_row rfl 73 (.tmp 2) (.tmp 7) rfl P (scCells (newF lm lb) R1 wo1 wc1).toArray hbV (by rfl) (by rfl) (by simp [scCells]) (by kernel_rfl) (by simp [scCells, rv, Value.oneCell']) ?_
  obtain ⟨VE, hVE⟩ : ∃ VE, VE = V.setRow P ((scCells (newF lm lb) R1 wo1 wc1).toArray.toList ++ (#[.int .i64 0, .int .i64 0, .int .i64 0, .int .i64 0, .slice none 0 0, .int .i64 0, .int .i64 0, .int .u32 0, .slice none 0 0, .slice none 0 0, .slice none 0 0, .int .i64 0] : Array Value).toList.drop (scCells (newF lm lb) R1 wo1 wc1).toArray.size).toArray := ⟨_, rfl⟩
  rw [← hVE]
  have hbE : VE.heap[P]? = some (.cells (scCells (newF lm lb) R1 wo1 wc1).toArray 73 (0, 0)) := by rw [hVE]; exact setRow_heap V P _ _ 73 (0, 0) hbV
  have hkE : Keeps V VE (fun g => g = P) := by rw [hVE]; exact ⟨rfl, rfl, rfl, by simp, fun kk hk hn => setRow_other V P kk _ hn⟩
  have tP : Typ V P 73 := ⟨_, _, hbV⟩
  have HRE : Hid (Rd w VE Q 73 [] (newF lm lb) R1 wo1 wc1) := HR.out.kp (fun g z => hkE.block g (HR.out.lt z) (fun e => by
    subst e
    rcases z with z | z | ⟨i, hi, z⟩
    · omega
    · exact absurd (tP.ne (HR.out.wown.typ z)) (by decide)
    · exact absurd (tP.ne (own_typ (HR.out.rows i hi) z)) (by decide))) (HR.out.gr.trans hkE (fun j hj e => by omega))
  have hld : (loadVar 73 ⟨P, 0, none⟩).run Try.prog VE = .ok (.agg (scCells (newF lm lb) R1 wo1 wc1).toArray) VE := by
    refine run_loadVar_mid VE P 0 73 _ _ (fun j v hj => ?_) Try.underlying73 rfl (by kernel_rfl)
    rw [Nat.zero_add]
    simp only [World.cell?, hbE]
    simpa using hj
  clear hVE hbE hkE hbV tP
  go_wp2_with fail
  refine bodyPost_ret (v := .agg (scCells (newF lm lb) R1 wo1 wc1).toArray) ?_ rfl ⟨Q, R1, wo1, wc1, rfl, HRE.out⟩
  exact results_cell (t := 2) (ty := 73) rfl rfl hld
set_option maxRecDepth 100000 in
set_option maxHeartbeats 4000000 in
theorem newReader_ok (lm lb : Nat) (w : World) (hlm : lm ≤ 65536) (hlb : lb ≤ 4194304) :
    Calls Try.prog 16 #[.agg #[.int .i64 (lm : Int), .int .i64 (lb : Int)]] w fun e w' => ∃ p R wo wc, e = .returned (.tuple #[.pointer (some ⟨p, 0, none⟩), .int .i64 0]) ∧ Rd w w' p 76 [.bool false, .int .i64 ((0 : Nat) : Int)] (newF lm lb) R wo wc := by
  have HNs : Hid (∀ V, Calls Try.prog 36 #[.agg #[.int .i64 (lm : Int), .int .i64 (lb : Int)]] V fun e w' => ∃ q R wo wc a1 a2 a3 b1 b2 b3 d1 d2 d3, R 0 = (a1, a2, a3) ∧ R 1 = (b1, b2, b3) ∧ R 2 = (d1, d2, d3) ∧ e = .returned (.agg #[.int .i64 (lm : Int), .int .i64 (lb : Int), .int .i64 0, .int .i64 4, .slice a1 a2 a3, .int .i64 0, .int .i64 0, .int .u32 2166136261, .slice b1 b2 b3, .slice d1 d2 d3, .slice wo 0 wc, .int .i64 0]) ∧ Rd V w' q 73 [] (newF lm lb) R wo wc) := fun V => by
    refine (newScan_any lm lb V).mono ?_
    rintro e w' ⟨q, R, wo, wc, rfl, hR⟩
    refine ⟨q, R, wo, wc, _, _, _, _, _, _, _, _, _, rfl, rfl, rfl, rfl, hR⟩
  have h1 : ¬ ((lm : Int) < 0) := by omega
  have h2 : ¬ (65536 < (lm : Int)) := by omega
  have h3 : ¬ ((lb : Int) < 0) := by omega
  have h4 : ¬ (4194304 < (lb : Int)) := by omega
  have G0 := hidM (gr_alloc w (.cells #[.int .i64 (lm : Int), .int .i64 (lb : Int)] 40))
  go_enter Try.func16, Try.ntmps16
  go_wp2_with (go_at_call 36; refine Hid.out ?_)
  unfold Hid
  refine Calls.mono (HNs.out _) ?_
  rintro e V ⟨q, R, wo, wc, a1, a2, a3, b1, b2, b3, d1, d2, d3, hR0, hR1, hR2, rfl, hR⟩
  have HR := hidM hR
  have hR0' := hidM hR0
  have hR1' := hidM hR1
  have hR2' := hidM hR2
  clear hR HNs hR0 hR1 hR2
  go_wp2_with fail
  obtain ⟨C, hC⟩ : ∃ C : Array Value, C = #[.int .i64 (lm : Int), .int .i64 (lb : Int), .int .i64 0, .int .i64 4, .slice a1 a2 a3, .int .i64 0, .int .i64 0, .int .u32 2166136261, .slice b1 b2 b3, .slice d1 d2 d3, .slice wo 0 wc, .int .i64 0, .bool false, .int .i64 0] := ⟨_, rfl⟩
  have gE := gr_alloc V (.cells C 76)
  have hbE := heap_alloc_new V (.cells C 76)
  have hR' := HR.out.grow gE
  have HFin : Hid (Rd w (V.alloc (.cells C 76)) V.heap.size 76 [.bool false, .int .i64 ((0 : Nat) : Int)] (newF lm lb) R wo wc) := by
    have g1 := G0.out.trans (HR.out.gr.trans gE (fun _ _ h => h)) (fun _ _ h => h)
    have s1 := G0.out.size
    refine ⟨g1, by have := (G0.out.trans HR.out.gr (fun _ _ h => h)).size; omega, .inr rfl, ?_, hR'.rows, fun i hi g e => Nat.le_trans s1 (hR'.rnew i hi g e), hR'.apart, hR'.wown, fun g e => Nat.le_trans s1 (hR'.wnew g e)⟩
    rw [hbE, hC]
    simp [scCells, newF, beginF, zeroS, wantsF, rv, hR0'.out, hR1'.out, hR2'.out, sum0]
  rw [hC] at HFin
  clear hR' gE hbE hC
  refine bodyPost_ret (v := .tuple #[.pointer (some ⟨V.heap.size, 0, none⟩), .int .i64 0]) ?_ rfl ⟨V.heap.size, R, wo, wc, rfl, HFin.out⟩
  simp [results, Try.f16, go_sem]
theorem newReader_bad (a b : Int) (w : World) (h : a < 0 ∨ 65536 < a ∨ b < 0 ∨ 4194304 < b) :
    Calls Try.prog 16 #[.agg #[.int .i64 a, .int .i64 b]] w fun e w' => e = .returned (.tuple #[.pointer none, .int .i64 1]) ∧ Gr w w' := by
  have G0 := hidM (gr_alloc w (.cells #[.int .i64 a, .int .i64 b] 40))
  by_cases h1 : a < 0
  · go_enter Try.func16, Try.ntmps16
    go_wp2_with fail
    refine bodyPost_ret (v := .tuple #[.pointer none, .int .i64 1]) ?_ rfl ⟨rfl, G0.out⟩
    simp [results, Try.f16, go_sem]
  by_cases h2 : 65536 < a
  · go_enter Try.func16, Try.ntmps16
    go_wp2_with fail
    refine bodyPost_ret (v := .tuple #[.pointer none, .int .i64 1]) ?_ rfl ⟨rfl, G0.out⟩
    simp [results, Try.f16, go_sem]
  by_cases h3 : b < 0
  · clear h
    go_enter Try.func16, Try.ntmps16
    go_wp2_with fail
    refine bodyPost_ret (v := .tuple #[.pointer none, .int .i64 1]) ?_ rfl ⟨rfl, G0.out⟩
    simp [results, Try.f16, go_sem]
  have h4 : 4194304 < b := by omega
  clear h
  go_enter Try.func16, Try.ntmps16
  go_wp2_with fail
  refine bodyPost_ret (v := .tuple #[.pointer none, .int .i64 1]) ?_ rfl ⟨rfl, G0.out⟩
  simp [results, Try.f16, go_sem]
theorem newF_ok (lm lb : Nat) (hlm : lm ≤ 65536) (hlb : lb ≤ 4194304) : PreOk (newF lm lb) ∧ 0 < (newF lm lb).left := by
  refine ⟨⟨Nat.zero_le _, fun e => rfl, fun e => ?_, fun e => ?_, fun e => ?_, fun e e' => ?_, fun e => ?_, fun _ => rfl, fun e => ?_, fun e e' => ?_, fun e => ?_, fun _ => rfl, fun e => ?_, fun e => ?_, fun e => ?_, by show lm ≤ _; omega, by show lb ≤ _; omega, Nat.zero_le _, Nat.zero_le _, rfl, by show wantsF 0 0 0 ≤ _; decide⟩, by show 0 < wantsF 0 0 0; decide⟩
  all_goals (first | (have e1 : (0 : Nat) = _ := e; omega) | (have e1 : _ ≤ (0 : Nat) := e; omega))
set_option maxRecDepth 100000 in
set_option maxHeartbeats 4000000 in
theorem held_any {w W : World} {p : Nat} {sh : Bool} {hd : Int} {s : Sc} {R : Nat → Row} {wo : Option Addr} {wc : Nat} (h : Rd w W p 76 [.bool sh, .int .i64 hd] s R wo wc) (hst : s.st ≤ 100) :
    Calls Try.prog 25 #[.pointer (some ⟨p, 0, none⟩)] W fun e w' => e = .returned (.int .i64 (if (standsF s sh).1 = 3 ∨ (standsF s sh).1 = 4 then 0 else hd)) ∧ Gr W w' := by
  have HC := hidM (stands_any h hst)
  have c13 : W.cell? ⟨p, 13, none⟩ = some (.int .i64 hd) := h.cells rfl
  obtain ⟨a, ha⟩ : ∃ a, a = (standsF s sh).1 := ⟨_, rfl⟩
  obtain ⟨b, hb⟩ : ∃ a, a = (standsF s sh).2 := ⟨_, rfl⟩
  rw [← ha, ← hb] at HC
  rw [← ha]
  clear h ha hb
  by_cases c3 : a = 3
  · subst c3
    go_enter Try.func25, Try.ntmps25
    go_wp2_with (go_at_call 37; refine Hid.out ?_)
    unfold Hid
    refine Calls.mono HC.out ?_
    rintro e V ⟨rfl, g⟩
    have HG := hidM g
    clear g
    go_wp2_with fail
    go_ret
    exact ⟨rfl, HG.out⟩
  by_cases c4 : a = 4
  · subst c4
    go_enter Try.func25, Try.ntmps25
    go_wp2_with (go_at_call 37; refine Hid.out ?_)
    unfold Hid
    refine Calls.mono HC.out ?_
    rintro e V ⟨rfl, g⟩
    have HG := hidM g
    clear g
    go_wp2_with fail
    go_ret
    exact ⟨rfl, HG.out⟩
  have i3 : (a == 3) = false := by simpa using c3
  have i4 : (a == 4) = false := by simpa using c4
  have HE : Hid ((if a = 3 ∨ a = 4 then (0 : Int) else hd) = hd) := by show _ = _; rw [if_neg (by omega)]
  rw [HE.out]
  clear c3 c4
  go_enter Try.func25, Try.ntmps25
  go_wp2_with (go_at_call 37; refine Hid.out ?_)
  unfold Hid
  refine Calls.mono HC.out ?_
  rintro e V ⟨rfl, g⟩
  have HG := hidM g
  have t13 := g.cell' c13 id
  clear g c13
  go_wp2_with fail
  go_ret
  exact ⟨rfl, HG.out⟩
end Go.Proofs.Ytemleibpmaclmaa.Kit
