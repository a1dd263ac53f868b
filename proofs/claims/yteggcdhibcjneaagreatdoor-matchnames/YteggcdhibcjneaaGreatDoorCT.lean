import Derived.Test.YteggcdhibcjneaaGreatDoorXB
import Derived.Test.YteggcdhibcjneaaGreatDoorSI
set_option maxRecDepth 100000
set_option maxHeartbeats 4000000
namespace Go.Proofs.YteggcdhibcjneaaGreatDoor.Kit
variable {nx : Bool}
open Go.RowKit Go.Shelf Go.Deep
open Go.Proofs.YteggcdhibcjneaaGreatDoor.Kd (Ans AnsV cell5 cell2)
open Go.Proofs.YteggcdhibcjneaaGreatDoor.Ink (OwnRow)
set_option linter.unusedVariables false
set_option linter.unusedSimpArgs false
attribute [local go_sem] run_store_func

theorem results_tcell50 {fn : Func} {t u : Tmp} {tmps : Array Value} {g : Nat} {cs : Array Value} {w : World} (h : fn.results = #[.tmp u, .cell t 61]) (ht : tmps.getD t undef = .pointer (some ⟨g, 0, none⟩)) (hg : w.heap[g]? = some (.cells cs 61 (0, 0))) (hi : (Tryz.prog.info? 61).map (·.size) = some cs.size) :
    (results fn tmps).run Tryz.prog w = .ok (.tuple #[tmps.getD u undef, .agg cs]) w := by
  have hl := run_loadVar_row (P := Tryz.prog) w g 61 61 cs (0, 0) _ hg Tryz.underlying61 rfl hi
  unfold results
  rw [h]
  simp only [Array.mapM_eq_mapM_toList, List.mapM_cons, List.mapM_nil, ht]
  simp [asAddr, hl]
theorem open18_c (qb bc v2 c2 : Nat) (ao : Option Addr) (ca : Nat) (W : World) (hD : DatC_c W qb v2 c2) :
    Calls Tryz.prog 49 #[.agg #[.string (nmB nx), .bool false, .int .i64 3, .int .i64 0, .int .i64 0, .int .i64 0, .slice ao 0 ca], .agg (dCo 2 0 (.slice (some ⟨qb, 0, none⟩) 2 bc))] W fun e w' => ∃ a q r rc fo fc, e = .returned (.tuple #[.pointer (some ⟨a, 0, none⟩), .agg #[.int .i64 0, .slice none 0 0, .int .i64 0]]) ∧ Gr W w' ∧ (W.heap.size ≤ a ∧ W.heap.size ≤ q ∧ W.heap.size ≤ r) ∧ NdA nx w' q r rc false fo fc 2 0 v2 2 c2 ∧ w'.heap[a]? = some (.cells #[.pointer (some ⟨q, 0, none⟩), .int .i64 0, .int .i64 2, .pointer none] 146) := by
  obtain ⟨A0, hA0⟩ : ∃ A0, W.alloc (.cells #[.string (nmB nx), .bool false, .int .i64 3, .int .i64 0, .int .i64 0, .int .i64 0, .slice ao 0 ca] 47) = A0 := ⟨_, rfl⟩
  have g0 : Gr W A0 := by rw [← hA0]; exact gr_alloc W _
  have b0 : A0.heap[W.heap.size]? = some (.cells #[.string (nmB nx), .bool false, .int .i64 3, .int .i64 0, .int .i64 0, .int .i64 0, .slice ao 0 ca] 47) := by rw [← hA0]; exact heap_alloc_new W _
  obtain ⟨A1, hA1⟩ : ∃ A1, A0.alloc (.cells (dCo 2 0 (.slice (some ⟨qb, 0, none⟩) 2 bc)) 50) = A1 := ⟨_, rfl⟩
  have g1 : Gr A0 A1 := by rw [← hA1]; exact gr_alloc A0 _
  have b1 : A1.heap[A0.heap.size]? = some (.cells (dCo 2 0 (.slice (some ⟨qb, 0, none⟩) 2 bc)) 50) := by rw [← hA1]; exact heap_alloc_new A0 _
  obtain ⟨A2, hA2⟩ : ∃ A2, A1.alloc (.cells #[.int .i64 0, .slice none 0 0, .int .i64 0] 61) = A2 := ⟨_, rfl⟩
  have g2 : Gr A1 A2 := by rw [← hA2]; exact gr_alloc A1 _
  have b2 : A2.heap[A1.heap.size]? = some (.cells #[.int .i64 0, .slice none 0 0, .int .i64 0] 61) := by rw [← hA2]; exact heap_alloc_new A1 _
  have g12 := g1.trans g2 (fun _ _ h => h)
  have gW : Gr W A2 := g0.trans g12 (fun _ _ h => h)
  obtain ⟨a0, a1, a2, a3, a4, a5, a6⟩ := cell7 ((g12.block _ (lt_of_heap b0) id).trans b0)
  obtain ⟨d0, d1, d2, d3, d4, d5⟩ := cell6 ((g2.block _ (lt_of_heap b1) id).trans b1)
  have HC : Hid (Calls Tryz.prog 68 #[.agg #[.string (nmB nx), .bool false, .int .i64 3, .int .i64 0, .int .i64 0, .int .i64 0, .slice ao 0 ca], .agg #[.int .i64 2, .int .i64 0, .int .i64 0, .slice (some ⟨qb, 0, none⟩) 2 bc, .slice none 0 0, .slice none 0 0]] A2 fun e w' => ∃ q r rc fo fc, e = .returned (.tuple #[.pointer (some ⟨q, 0, none⟩), .agg #[.int .i64 0, .slice none 0 0, .int .i64 0]]) ∧ Gr A2 w' ∧ A2.heap.size ≤ q ∧ A2.heap.size ≤ r ∧ NdA nx w' q r rc false fo fc 2 0 v2 2 c2) := opened34_c qb bc v2 c2 ao ca A2 (hD.gr gW)
  have HB := hidM b2
  have HG := hidM gW
  clear g0 b0 g1 b1 g2 b2 g12 gW hD
  unfold dCo at hA1 ⊢
  go_enter Tryz.func49, Tryz.ntmps49
  go_wp2_with (go_at_call 68; refine HC.out.mono ?_; rintro e w1 ⟨q, r, rc, fo, fc, rfl, g1, hq1, hr1, hn1⟩; clear a0 a1 a2 a3 a4 a5 a6 d0 d1 d2 d3 d4 d5 hA0 hA1 hA2; obtain ⟨V, hV⟩ : ∃ V, w1.alloc (.cells #[.int .i64 0, .slice none 0 0, .int .i64 0] 61) = V := ⟨_, rfl⟩; have gV : Gr w1 V := (by rw [← hV]; exact gr_alloc w1 _); have hbv : V.heap[w1.heap.size]? = some (.cells #[.int .i64 0, .slice none 0 0, .int .i64 0] 61) := (by rw [← hV]; exact heap_alloc_new w1 _); obtain ⟨y0, y1, y2⟩ := cell3V hbv; have z0 := frz hbv 0; have z1 := frz hbv 1; have z2 := frz hbv 2; have i0 := set_id (j := 0) (v := .int .i64 0) hbv rfl; have i1 := set_id (j := 1) (v := .slice none 0 0) hbv rfl; have i2 := set_id (j := 2) (v := .int .i64 0) hbv rfl; obtain ⟨m8, m9, m10⟩ := cellN (hn1.gr gV).nd; obtain ⟨X, hX⟩ : ∃ X, V.alloc (.cells #[.pointer (some ⟨q, 0, none⟩), .int .i64 0, .int .i64 2, .pointer none] 146) = X := ⟨_, rfl⟩; have gX : Gr V X := (by rw [← hX]; exact gr_alloc V _); have hbx : X.heap[V.heap.size]? = some (.cells #[.pointer (some ⟨q, 0, none⟩), .int .i64 0, .int .i64 2, .pointer none] 146) := (by rw [← hX]; exact heap_alloc_new V _); have g2X := g1.trans (gV.trans gX (fun _ _ h => h)) (fun _ _ h => h); have hb5 := (g2X.block _ (lt_of_heap HB.out) id).trans HB.out; obtain ⟨x0, x1, x2⟩ := cell3V hb5; have s0 := frz hb5 0; have s1 := frz hb5 1; have s2 := frz hb5 2; have k0 := set_id (j := 0) (v := .int .i64 0) hb5 rfl; have k1 := set_id (j := 1) (v := .slice none 0 0) hb5 rfl; have k2 := set_id (j := 2) (v := .int .i64 0) hb5 rfl; have HE : Hid (Gr W X ∧ (W.heap.size ≤ V.heap.size ∧ W.heap.size ≤ q ∧ W.heap.size ≤ r) ∧ NdA nx X q r rc false fo fc 2 0 v2 2 c2 ∧ X.heap[V.heap.size]? = some (.cells #[.pointer (some ⟨q, 0, none⟩), .int .i64 0, .int .i64 2, .pointer none] 146)) := (by have h1 := HG.out.size; have h2 := g1.size; have h3 := gV.size; exact ⟨HG.out.trans g2X (fun _ _ h => h), ⟨by omega, by omega, by omega⟩, hn1.gr (gV.trans gX (fun _ _ h => h)), hbx⟩); have HB5 := hidM hb5; clear gV hbv gX hbx g2X hb5 g1 hq1 hr1 hn1)
  (try simp only [Exit.inBlock, Exit.then])
  refine bodyPost_ret (results_tcell50 rfl rfl (by with_reducible exact HB5.out) (by kernel_rfl)) rfl ?_
  exact ⟨_, q, r, rc, fo, fc, rfl, HE.out⟩
theorem open18_d (qb bc v2 c2 : Nat) (ao : Option Addr) (ca : Nat) (W : World) (hD : DatC_d W qb v2 c2) :
    Calls Tryz.prog 49 #[.agg #[.string (nmB nx), .bool false, .int .i64 3, .int .i64 0, .int .i64 0, .int .i64 0, .slice ao 0 ca], .agg (dCo 3 0 (.slice (some ⟨qb, 0, none⟩) 2 bc))] W fun e w' => ∃ a q r rc fo fc, e = .returned (.tuple #[.pointer (some ⟨a, 0, none⟩), .agg #[.int .i64 0, .slice none 0 0, .int .i64 0]]) ∧ Gr W w' ∧ (W.heap.size ≤ a ∧ W.heap.size ≤ q ∧ W.heap.size ≤ r) ∧ NdA nx w' q r rc false fo fc 3 0 v2 3 c2 ∧ w'.heap[a]? = some (.cells #[.pointer (some ⟨q, 0, none⟩), .int .i64 0, .int .i64 3, .pointer none] 146) := by
  obtain ⟨A0, hA0⟩ : ∃ A0, W.alloc (.cells #[.string (nmB nx), .bool false, .int .i64 3, .int .i64 0, .int .i64 0, .int .i64 0, .slice ao 0 ca] 47) = A0 := ⟨_, rfl⟩
  have g0 : Gr W A0 := by rw [← hA0]; exact gr_alloc W _
  have b0 : A0.heap[W.heap.size]? = some (.cells #[.string (nmB nx), .bool false, .int .i64 3, .int .i64 0, .int .i64 0, .int .i64 0, .slice ao 0 ca] 47) := by rw [← hA0]; exact heap_alloc_new W _
  obtain ⟨A1, hA1⟩ : ∃ A1, A0.alloc (.cells (dCo 3 0 (.slice (some ⟨qb, 0, none⟩) 2 bc)) 50) = A1 := ⟨_, rfl⟩
  have g1 : Gr A0 A1 := by rw [← hA1]; exact gr_alloc A0 _
  have b1 : A1.heap[A0.heap.size]? = some (.cells (dCo 3 0 (.slice (some ⟨qb, 0, none⟩) 2 bc)) 50) := by rw [← hA1]; exact heap_alloc_new A0 _
  obtain ⟨A2, hA2⟩ : ∃ A2, A1.alloc (.cells #[.int .i64 0, .slice none 0 0, .int .i64 0] 61) = A2 := ⟨_, rfl⟩
  have g2 : Gr A1 A2 := by rw [← hA2]; exact gr_alloc A1 _
  have b2 : A2.heap[A1.heap.size]? = some (.cells #[.int .i64 0, .slice none 0 0, .int .i64 0] 61) := by rw [← hA2]; exact heap_alloc_new A1 _
  have g12 := g1.trans g2 (fun _ _ h => h)
  have gW : Gr W A2 := g0.trans g12 (fun _ _ h => h)
  obtain ⟨a0, a1, a2, a3, a4, a5, a6⟩ := cell7 ((g12.block _ (lt_of_heap b0) id).trans b0)
  obtain ⟨d0, d1, d2, d3, d4, d5⟩ := cell6 ((g2.block _ (lt_of_heap b1) id).trans b1)
  have HC : Hid (Calls Tryz.prog 68 #[.agg #[.string (nmB nx), .bool false, .int .i64 3, .int .i64 0, .int .i64 0, .int .i64 0, .slice ao 0 ca], .agg #[.int .i64 3, .int .i64 0, .int .i64 0, .slice (some ⟨qb, 0, none⟩) 2 bc, .slice none 0 0, .slice none 0 0]] A2 fun e w' => ∃ q r rc fo fc, e = .returned (.tuple #[.pointer (some ⟨q, 0, none⟩), .agg #[.int .i64 0, .slice none 0 0, .int .i64 0]]) ∧ Gr A2 w' ∧ A2.heap.size ≤ q ∧ A2.heap.size ≤ r ∧ NdA nx w' q r rc false fo fc 3 0 v2 3 c2) := opened34_d qb bc v2 c2 ao ca A2 (hD.gr gW)
  have HB := hidM b2
  have HG := hidM gW
  clear g0 b0 g1 b1 g2 b2 g12 gW hD
  unfold dCo at hA1 ⊢
  go_enter Tryz.func49, Tryz.ntmps49
  go_wp2_with (go_at_call 68; refine HC.out.mono ?_; rintro e w1 ⟨q, r, rc, fo, fc, rfl, g1, hq1, hr1, hn1⟩; clear a0 a1 a2 a3 a4 a5 a6 d0 d1 d2 d3 d4 d5 hA0 hA1 hA2; obtain ⟨V, hV⟩ : ∃ V, w1.alloc (.cells #[.int .i64 0, .slice none 0 0, .int .i64 0] 61) = V := ⟨_, rfl⟩; have gV : Gr w1 V := (by rw [← hV]; exact gr_alloc w1 _); have hbv : V.heap[w1.heap.size]? = some (.cells #[.int .i64 0, .slice none 0 0, .int .i64 0] 61) := (by rw [← hV]; exact heap_alloc_new w1 _); obtain ⟨y0, y1, y2⟩ := cell3V hbv; have z0 := frz hbv 0; have z1 := frz hbv 1; have z2 := frz hbv 2; have i0 := set_id (j := 0) (v := .int .i64 0) hbv rfl; have i1 := set_id (j := 1) (v := .slice none 0 0) hbv rfl; have i2 := set_id (j := 2) (v := .int .i64 0) hbv rfl; obtain ⟨m8, m9, m10⟩ := cellN (hn1.gr gV).nd; obtain ⟨X, hX⟩ : ∃ X, V.alloc (.cells #[.pointer (some ⟨q, 0, none⟩), .int .i64 0, .int .i64 3, .pointer none] 146) = X := ⟨_, rfl⟩; have gX : Gr V X := (by rw [← hX]; exact gr_alloc V _); have hbx : X.heap[V.heap.size]? = some (.cells #[.pointer (some ⟨q, 0, none⟩), .int .i64 0, .int .i64 3, .pointer none] 146) := (by rw [← hX]; exact heap_alloc_new V _); have g2X := g1.trans (gV.trans gX (fun _ _ h => h)) (fun _ _ h => h); have hb5 := (g2X.block _ (lt_of_heap HB.out) id).trans HB.out; obtain ⟨x0, x1, x2⟩ := cell3V hb5; have s0 := frz hb5 0; have s1 := frz hb5 1; have s2 := frz hb5 2; have k0 := set_id (j := 0) (v := .int .i64 0) hb5 rfl; have k1 := set_id (j := 1) (v := .slice none 0 0) hb5 rfl; have k2 := set_id (j := 2) (v := .int .i64 0) hb5 rfl; have HE : Hid (Gr W X ∧ (W.heap.size ≤ V.heap.size ∧ W.heap.size ≤ q ∧ W.heap.size ≤ r) ∧ NdA nx X q r rc false fo fc 3 0 v2 3 c2 ∧ X.heap[V.heap.size]? = some (.cells #[.pointer (some ⟨q, 0, none⟩), .int .i64 0, .int .i64 3, .pointer none] 146)) := (by have h1 := HG.out.size; have h2 := g1.size; have h3 := gV.size; exact ⟨HG.out.trans g2X (fun _ _ h => h), ⟨by omega, by omega, by omega⟩, hn1.gr (gV.trans gX (fun _ _ h => h)), hbx⟩); have HB5 := hidM hb5; clear gV hbv gX hbx g2X hb5 g1 hq1 hr1 hn1)
  (try simp only [Exit.inBlock, Exit.then])
  refine bodyPost_ret (results_tcell50 rfl rfl (by with_reducible exact HB5.out) (by kernel_rfl)) rfl ?_
  exact ⟨_, q, r, rc, fo, fc, rfl, HE.out⟩
end Go.Proofs.YteggcdhibcjneaaGreatDoor.Kit
namespace Go.Proofs.YteggcdhibcjneaaGreatDoor.Kit
variable {nx : Bool}
open Go.RowKit Go.Shelf Go.Deep
open Go.Proofs.YteggcdhibcjneaaGreatDoor.Kd (Ans AnsV cell5 cell2)
open Go.Proofs.YteggcdhibcjneaaGreatDoor.Ink (OwnRow)
set_option linter.unusedVariables false
set_option linter.unusedSimpArgs false
attribute [local go_sem] run_store_func

/-- an array of two rows that is looked into, with what it reads -/
structure ArrC (nx : Bool) (W : World) (q r rc : Nat) (nu : Bool) (ao : Option Addr) (ca L : Nat) (v2 n2 c2 : Nat) (ab a : Nat) (xs : Nat → Int) : Prop where
  nd : NdA nx W q r rc nu ao ca L 0 v2 n2 c2
  hab : W.heap[ab]? = some (.cells #[.pointer (some ⟨a, 0, none⟩)] 110)
  ha : W.heap[a]? = some (.cells #[.pointer (some ⟨q, 0, none⟩), .int .i64 0, .int .i64 L, .pointer none] 146)
  hv : ∀ k, k < L → W.cell? ⟨v2, k, none⟩ = some (.int .u8 (xs k)) ∧ (xs k = 5 ∨ xs k = 7 ∨ xs k = 8)
  hm : L ≤ 3
  nn : L ≤ n2 ∧ n2 ≤ 100000 ∧ n2 ≤ c2
theorem ArrC.kp {W u : World} {q r rc : Nat} {nu : Bool} {ao : Option Addr} {ca L : Nat} {v2 n2 c2 : Nat} {ab a : Nat} {xs : Nat → Int} {S : Nat → Prop} (h : ArrC nx W q r rc nu ao ca L v2 n2 c2 ab a xs) (k : KpOf S W u) (s0 : S ab) (s1 : S a) (s2 : S q) (s3 : S r) (s5 : S v2) : ArrC nx u q r rc nu ao ca L v2 n2 c2 ab a xs := by
  have hc : ∀ (p : Addr) (v : Value), S p.block → W.cell? p = some v → u.cell? p = some v := fun p v hs hp => (World.cell?_of_block (w := W) (k p.block hs)).trans hp
  exact ⟨⟨(k q s2).trans h.nd.nd, h.nd.r0.imp fun _ e => e.imp fun _ e => hc _ _ s3 e, hc _ _ s3 h.nd.r1, hc _ _ s3 h.nd.r2, hc _ _ s3 h.nd.r3, hc _ _ s3 h.nd.r4, hc _ _ s3 h.nd.r5⟩, (k ab s0).trans h.hab, (k a s1).trans h.ha, fun j hj => ⟨hc _ _ s5 (h.hv j hj).1, (h.hv j hj).2⟩, h.hm, h.nn⟩
def valN (xs : Nat → Int) (x : Nat) : Array Value := #[.bool false, .int .i64 (xs x), .string ⟨#[]⟩, .slice none 0 0]
def encV (xs : Nat → Int) (x : Nat) : Array Value := #[.int .i64 x, .agg (valN xs x)]
/-- read of row k -/
theorem read50 (k a l left : Nat) (W : World) (q r rc : Nat) (nu : Bool) (ao : Option Addr) (ca L : Nat) (v2 n2 c2 : Nat) (ab : Nat) (xs : Nat → Int) (hk : k < L) (hC : ArrC nx W q r rc nu ao ca L v2 n2 c2 ab a xs) (hl : W.heap[l]? = some (.cells #[.pointer none, .int .i64 left] 172)) (hlq : q ≠ l) (hlr : r ≠ l) (hlv : v2 ≠ l) (h16 : 16 ≤ left) (hle : left ≤ 4194304) :
    Calls Tryz.prog 93 #[.pointer (some ⟨a, 0, none⟩), .pointer (some ⟨l, 0, none⟩), .int .i64 k] W fun e w' => e = .returned (.tuple #[.agg (valN xs k), .int .i64 0]) ∧ Rd1 W w' l left := by
  obtain ⟨n1', n2', n3'⟩ := hC.nn
  obtain ⟨h0, hx⟩ := hC.hv k hk
  have hm := hC.hm
  exact read50_K k k (xs k) (by omega) hx a l left W q r rc nu ao ca L v2 n2 c2 hC.ha hC.nd hl hlq hlr hlv h16 hle (by omega) n2' n3' h0 h0
/-- where the iterator stands behind k rows -/
def AllI (J : (Nat → Prop) → List Nat → World → Prop) (S : Nat → Prop) (l : Nat) (w0 : World) (k : Nat) (wr : World) : Prop :=
  J (fun b => b = l) (List.range k) wr ∧ wr.heap[l]? = some (.cells #[.pointer none, .int .i64 ((4194304 - 16 * k : Nat) : Int)] 172) ∧ KpOf S w0 wr
theorem all48_seq (n : Nat) (w : World) (q r rc : Nat) (nu : Bool) (ao : Option Addr) (ca L : Nat) (v2 n2 c2 : Nat) (ab a : Nat) (xs : Nat → Int) (S : Nat → Prop) (hS : ∀ b, S b → b < w.heap.size) (hC : ArrC nx w q r rc nu ao ca L v2 n2 c2 ab a xs) (s0 : S ab) (s1 : S a) (s2 : S q) (s3 : S r) (s5 : S v2) :
    SeqOwn n Tryz.prog 91 #[.pointer (some ⟨ab, 0, none⟩)] (encV xs) (fun _ pre x _ => pre = List.range x ∧ x < L) S (fun ys => ys = List.range L) (fun _ => True) w := by
  intro lp J Jx W hW hJ hJx hY h0
  have hm := hC.hm
  have hSW : ∀ b, S b → b < W.heap.size := fun b h => Nat.lt_of_lt_of_le (hS b h) hW.size
  have hCW : ArrC nx W q r rc nu ao ca L v2 n2 c2 ab a xs := hC.kp (S := S) (fun b h => hW.block b (hS b h) id) s0 s1 s2 s3 s5
  obtain ⟨W1, hW1⟩ : ∃ W1, W.alloc (.cells #[.pointer none, .int .i64 4194304] 172) = W1 := ⟨_, rfl⟩
  have g1 : Gr W W1 := by rw [← hW1]; exact gr_alloc W _
  have hl1 : W1.heap[W.heap.size]? = some (.cells #[.pointer none, .int .i64 4194304] 172) := by rw [← hW1]; exact heap_alloc_new W _
  obtain ⟨l, hl⟩ : ∃ l, W.heap.size = l := ⟨_, rfl⟩
  have HLk : Hid (Calls Tryz.prog 92 #[.pointer (some ⟨a, 0, none⟩)] W fun e w' => e = .returned (.pointer (some ⟨l, 0, none⟩)) ∧ w' = W1) := by
    have h := look49 L a q W hCW.ha
    rw [hW1, hl] at h
    exact h
  rw [hl] at hl1
  have HI0 : Hid (AllI J S l W 0 W1) := ⟨hJ _ _ _ _ _ h0 (g1.mono fun _ _ h => h.elim) (fun k e => by have e' : k = l := e; subst e'; exact ⟨lt_of_heap hl1, .inr (by omega)⟩), hl1, fun b h => g1.block b (hSW b h) id⟩
  have c0 : W.cell? ⟨ab, 0, none⟩ = some (.pointer (some ⟨a, 0, none⟩)) := by simp [World.cell?, hCW.hab]
  have hSl : ∀ b, S b → b ≠ l := fun b h => by have := hSW b h; omega
  have HA : Hid (∀ wr, KpOf S W wr → wr.cell? ⟨ab, 0, none⟩ = some (.pointer (some ⟨a, 0, none⟩)) ∧ wr.cell? ⟨a, 2, none⟩ = some (.int .i64 L)) := fun wr k => by
    have h := hCW.kp k s0 s1 s2 s3 s5
    exact ⟨by simp [World.cell?, h.hab], (cell4 h.ha).2.2.1⟩
  have HR : Hid (∀ k wr, k < L → AllI J S l W k wr → Calls Tryz.prog 93 #[.pointer (some ⟨a, 0, none⟩), .pointer (some ⟨l, 0, none⟩), .int .i64 k] wr fun e w' => e = .returned (.tuple #[.agg (valN xs k), .int .i64 0]) ∧ Rd1 wr w' l (4194304 - 16 * k)) := fun k wr hk hI =>
    read50 k a l (4194304 - 16 * k) wr q r rc nu ao ca L v2 n2 c2 ab xs hk (hCW.kp hI.2.2 s0 s1 s2 s3 s5) hI.2.1 (hSl _ s2) (hSl _ s3) (hSl _ s5) (by have := hC.hm; omega) (by omega)
  have HYY : Hid (∀ k wr w2 V, k < L → AllI J S l W k wr → Rd1 wr w2 l (4194304 - 16 * k) → w2.alloc (.cells (valN xs k) 86) = V → V.heap[w2.heap.size]? = some (.cells (valN xs k) 86) ∧ YieldAt Fence.wide (n - 1) Tryz.prog lp (encV xs k) V fun e W' => (e = .returned (.bool true) ∧ AllI J S l W (k + 1) W') ∨ (e = .returned (.bool false) ∧ Jx (List.range k ++ [k]) W')) := fun k wr w2 V hk hI hR hV => by
    have gV : Gr w2 V := by rw [← hV]; exact gr_alloc w2 _
    have hJV : J (fun b => b = l) (List.range k) V := by
      refine hJ _ _ _ _ _ hI.1 (hR.1.trans (gV.mono fun _ _ h => h.elim) (fun _ _ h => h)) (fun k' e => ⟨?_, .inl e⟩)
      have e' : k' = l := e
      subst e'
      exact Nat.lt_of_lt_of_le (lt_of_heap hR.2) gV.size
    refine ⟨by rw [← hV]; exact heap_alloc_new w2 _, (hY _ _ k V hJV ⟨rfl, hk⟩).mono ?_⟩
    rintro e W' (⟨rfl, hj, hk'⟩ | h)
    · refine .inl ⟨rfl, ?_, ?_, ?_⟩
      · rw [List.range_succ]; exact hj
      · rw [hk' l (.inr rfl), gV.block l (lt_of_heap hR.2) id, hR.2, show 4194304 - 16 * k - 16 = 4194304 - 16 * (k + 1) by omega]
      · intro b hb
        have hbw : b < wr.heap.size := by
          have h1 := hI.2.2 b hb
          have h2 := hSW b hb
          have h3 : wr.heap[b]? ≠ none := by rw [h1]; simp; exact h2
          simpa using h3
        rw [hk' b (.inl hb), gV.block b (Nat.lt_of_lt_of_le hbw hR.1.size) id, hR.1.block b hbw (hSl b hb)]
        exact hI.2.2 b hb
    · exact .inr h
  clear hW hJ hJx hY h0 hC hCW g1 hl1 hSl hSW hl hS
  refine callsIn_of_wp Tryz.func91 rfl trivial ?_ rfl
  simp only [Tryz.ntmps91, List.size_toArray, List.length_cons, List.length_nil, Nat.reduceAdd, Nat.reduceSub, Array.replicate_succ, Array.replicate_zero, List.push_toArray, List.append_toArray, List.nil_append, List.cons_append]
  gi_wp2_with (refine ⟨trivial, fun h => (by cases h), ?_⟩; gi_at_call 92; refine CallsIn.mono (callsIn_wide.2 HLk.out) ?_; rintro e w1 ⟨rfl, rfl⟩; clear c0 hW1; obtain ⟨c0, c2⟩ := HA.out w1 HI0.out.2.2)
  gi_loopw [13] (fun p wr => ∃ k : Nat, k ≤ L ∧ p = .int .i64 (k : Int) ∧ Hid (AllI J S l W k wr)) (fun p _ => L - (intOf p).toNat)
  case atStart => exact ⟨0, Nat.zero_le _, rfl, HI0⟩
  case round =>
    clear HI0 c0 c2
    obtain ⟨k, hk, rfl, HI⟩ := hrel
    by_cases hlt : k < L
    · have hRk := HR.out k wr hlt HI.out
      have hYk := HYY.out k wr
      unfold encV at hYk
      unfold valN at hRk hYk
      have HRk := hidM hRk
      have HYk := hidM hYk
      obtain ⟨c0, c2⟩ := HA.out wr HI.out.2.2
      clear hRk hYk
      gi_wp2_with (first
        | (refine ⟨trivial, fun h => (by cases h), ?_⟩; gi_at_call 93; refine CallsIn.mono (callsIn_wide.2 HRk.out) ?_; rintro e w2 ⟨rfl, hr2⟩; obtain ⟨V, hV⟩ : ∃ V, w2.alloc (.cells #[.bool false, .int .i64 (xs k), .string ⟨#[]⟩, .slice none 0 0] 86) = V := ⟨_, rfl⟩; obtain ⟨hv9, fn, tm, asn, bdy, hy, hR⟩ := HYk.out w2 V hlt HI.out hr2 hV; obtain ⟨y0, y1, y2, y3⟩ := cell4 hv9; have z2 := frz hv9 2; have z3 := frz hv9 3; have z0 := frz hv9 0; have z1 := frz hv9 1; have i0 := set_id (j := 2) (v := .string ⟨#[]⟩) hv9 rfl; have i1 := set_id (j := 3) (v := .slice none 0 0) hv9 rfl; clear hr2 hv9 c0 c2)
        | (refine ⟨fun h => (by cases h), hR.mono ?_⟩; refine Hid.out ?_))
      unfold Hid
      rintro e W3 (⟨rfl, hI⟩ | ⟨rfl, hx⟩)
      · have HI2 := hidM hI
        clear hI hR hy y0 y1 y2 y3 z0 z1 z2 z3 i0 i1 hV HI
        gi_wp2
        go_roundw
        case rel => exact ⟨k + 1, by omega, by go_num, HI2⟩
        case measure => simp [intOf]; omega
      · have HX := hidM hx
        clear hx hR hy y0 y1 y2 y3 z0 z1 z2 z3 i0 i1 hV HI
        gi_wp2
        (try simp only [Exit.inBlock, Exit.then])
        refine bodyPost_ret (results_none rfl _ _ _) rfl ?_
        exact ⟨⟨_, rfl⟩, .inr ⟨_, trivial, HX.out⟩⟩
    · obtain rfl : k = L := by omega
      have HE : Hid (J (fun b => b = l) (List.range k) wr) := HI.out.1
      clear HI
      gi_wp2
      go_end0
      exact ⟨⟨_, rfl⟩, .inl ⟨_, _, rfl, HE.out⟩⟩
end Go.Proofs.YteggcdhibcjneaaGreatDoor.Kit
namespace Go.Proofs.YteggcdhibcjneaaGreatDoor.Kit
variable {nx : Bool}
open Go.RowKit Go.Shelf Go.Deep
open Go.Proofs.YteggcdhibcjneaaGreatDoor.Kd (Ans AnsV cell5 cell2)
open Go.Proofs.YteggcdhibcjneaaGreatDoor.Ink (OwnRow)
set_option linter.unusedVariables false
set_option linter.unusedSimpArgs false
attribute [local go_sem] run_store_func

theorem mk35_2 (w : World) : (Instr.makeSlice 58 (.int .i64 0) (.int .i64 2)).run Tryz.prog w = .ok (.slice (some ⟨w.heap.size, 0, none⟩) 0 2) (w.alloc (.cells #[.bool false, .int .i64 0, .string ⟨#[]⟩, .slice none 0 0, .bool false, .int .i64 0, .string ⟨#[]⟩, .slice none 0 0] 86)) := by kernel_rfl
theorem mk35_3 (w : World) : (Instr.makeSlice 58 (.int .i64 0) (.int .i64 3)).run Tryz.prog w = .ok (.slice (some ⟨w.heap.size, 0, none⟩) 0 3) (w.alloc (.cells #[.bool false, .int .i64 0, .string ⟨#[]⟩, .slice none 0 0, .bool false, .int .i64 0, .string ⟨#[]⟩, .slice none 0 0, .bool false, .int .i64 0, .string ⟨#[]⟩, .slice none 0 0] 86)) := by kernel_rfl
theorem info37 : (Tryz.prog.info? 86).map (fun i => (i.zero, i.size, i.bytes)) = some (some (.agg #[.bool false, .int .i64 0, .string ⟨#[]⟩, .slice none 0 0]), 4, 56) := by kernel_rfl
/-- a builtin append whose run is known, as one step of a region that draws its order -/
theorem step_append_run {P : Program} {w : World} {ops : Array Oper} {o : Oper} {a : Act} {K : Act → World → Prop} {Q : Exit → Act → World → Prop} {E : Prop} (hgd : o.guard = none) (s x : Operand) (t tx : TypeId)
    (ho : o.op = .call { callee := .builtin .append, args := #[s, x], argTypes := #[t, tx] }) (v y v' : Value) (w' : World) (hv : a.eval s = v) (hx : a.eval x = y)
    (hr : ∀ ty, (Builtin.append_ #[t, tx] ty #[v, y]).run P w = .ok v' w') (h : K (a.put o.dst v') w') :
    if Region.wanted o (yielded ops a.tmps) = true then Oper.wp P o a w K Q else E := by
  have hw : Region.wanted o (yielded ops a.tmps) = true := by simp [Region.wanted, hgd]
  rw [if_pos hw]
  unfold Oper.wp
  simp [execOp, ho, resolve, invoke, builtin, hv, hx, hr, Result.andThen]
  exact h
theorem setRow_same {W : World} {b t : Nat} {c : Array Value} (h : W.heap[b]? = some (.cells c t)) : W.setRow b c = W := by
  have hm : (W.setRow b c).heap = W.heap := by
    apply Array.ext_getElem?
    intro i
    by_cases e : i = b
    · subst e
      rw [setRow_heap W i _ _ _ _ h, h]
    · exact setRow_other W b i c e
  show ({ W with heap := (W.setRow b c).heap } : World) = W
  rw [hm]
def rwU (w : World) (g o : Nat) (vn : Bool) (x : Int) : World := setAll w g [(o, .bool vn), (o + 1, .int .i64 x), (o + 2, .string ⟨#[]⟩), (o + 3, .slice none 0 0)]
/-- a list with room for L rows, k of them laid -/
def rowK (xs : Nat → Int) (L k : Nat) : Array Value := ((List.range L).flatMap fun j => [.bool false, .int .i64 (if j < k then xs j else 0), .string ⟨#[]⟩, .slice none 0 0]).toArray
theorem LK {L k : Nat} (hL : L = 2 ∨ L = 3) (hk : k < L) : L = 2 ∧ k = 0 ∨ L = 2 ∧ k = 1 ∨ L = 3 ∧ k = 0 ∨ L = 3 ∧ k = 1 ∨ L = 3 ∧ k = 2 := by omega
/-- the list of values behind k rows -/
def ValI (xs : Nat → Int) (L : Nat) (W0 : World) (g b3 : Nat) (pre : List Nat) (wr : World) : Prop := ∃ k, k ≤ L ∧ pre = List.range k ∧ Gr W0 wr ∧ wr.heap[g]? = some (.cells (rowK xs L k) 86) ∧ wr.heap[b3]? = some (.cells #[.slice (some ⟨g, 0, none⟩) k L] 58)
theorem append_room {xs : Nat → Int} {Z : World} {g z k L : Nat} (hL : L = 2 ∨ L = 3) (hk : k < L) (hg : Z.heap[g]? = some (.cells (rowK xs L k) 86)) (hz : Z.heap[z]? = some (.cells #[.bool false, .int .i64 0, .string ⟨#[]⟩, .slice none 0 0] 86)) (ty : TypeId) :
    (Builtin.append_ #[58, 58] ty #[.slice (some ⟨g, 0, none⟩) k L, .slice (some ⟨z, 0, none⟩) 1 1]).run Tryz.prog Z = .ok (.slice (some ⟨g, 0, none⟩) (k + 1) L) Z := by
  obtain ⟨i, hi, hzz⟩ := Option.map_eq_some_iff.1 info37
  simp only [Prod.mk.injEq] at hzz
  obtain ⟨-, hsz, -⟩ := hzz
  have hsrc : Src Tryz.prog i.size 58 (.slice (some ⟨z, 0, none⟩) 1 1) 1 [.bool false, .int .i64 0, .string ⟨#[]⟩, .slice none 0 0] Z := by
    rw [hsz]
    refine Src.ofSlice (w := Z) Tryz.underlying58 ⟨z, 0, none⟩ 1 1 [.bool false, .int .i64 0, .string ⟨#[]⟩, .slice none 0 0] rfl (fun j v hj => ?_) (fun v hv => by simp at hv; rcases hv with rfl | rfl | rfl | rfl <;> rfl)
    rw [Addr.add_lit, Nat.zero_add]
    obtain ⟨c0, c1, c2, c3⟩ := cell4 hz
    match j, hj with
    | 0, hj => cases hj; exact c0
    | 1, hj => cases hj; exact c1
    | 2, hj => cases hj; exact c2
    | 3, hj => cases hj; exact c3
    | j + 4, hj => simp at hj
  have h2 := LK hL hk
  have hfit : k * i.size + [(.bool false : Value), .int .i64 0, .string ⟨#[]⟩, .slice none 0 0].length ≤ (rowK xs L k).size := by
    rw [hsz]
    rcases h2 with ⟨rfl, rfl⟩ | ⟨rfl, rfl⟩ | ⟨rfl, rfl⟩ | ⟨rfl, rfl⟩ | ⟨rfl, rfl⟩ <;> (simp [rowK, List.range, List.range.loop])
  have h := run_append_room_row (P := Tryz.prog) Z 58 58 ty 86 i Tryz.underlying58 hi g k L (rowK xs L k) hg (.slice (some ⟨z, 0, none⟩) 1 1) 1 _ hsrc (by omega) hfit
  rw [h]
  have he : ((rowK xs L k).toList.take (k * i.size) ++ [(.bool false : Value), .int .i64 0, .string ⟨#[]⟩, .slice none 0 0] ++ (rowK xs L k).toList.drop (k * i.size + [(.bool false : Value), .int .i64 0, .string ⟨#[]⟩, .slice none 0 0].length)).toArray = rowK xs L k := by
    rw [hsz]
    rcases h2 with ⟨rfl, rfl⟩ | ⟨rfl, rfl⟩ | ⟨rfl, rfl⟩ | ⟨rfl, rfl⟩ | ⟨rfl, rfl⟩ <;> rfl
  rw [he, setRow_same hg]
theorem val_step {xs : Nat → Int} {L k o : Nat} (hL : L = 2 ∨ L = 3) (hk : k < L) (ho : o = 4 * k) {W0 W Z : World} {g b3 : Nat} (gW : Gr W0 W) (hg : W.heap[g]? = some (.cells (rowK xs L k) 86)) (hb : W.heap[b3]? = some (.cells #[.slice (some ⟨g, 0, none⟩) k L] 58)) (gZ : Gr W Z) (hW0g : W0.heap.size ≤ g) (hW0b : W0.heap.size ≤ b3) :
    Z.heap[g]? = some (.cells (rowK xs L k) 86) ∧ Z.heap[b3]? = some (.cells #[.slice (some ⟨g, 0, none⟩) k L] 58) ∧
    (rwU Z g o false (xs k)).heap[b3]? = some (.cells #[.slice (some ⟨g, 0, none⟩) k L] 58) ∧
    (Z.setCell ⟨b3, 0, none⟩ (.slice (some ⟨g, 0, none⟩) (k + 1) L)).heap[g]? = some (.cells (rowK xs L k) 86) ∧
    (Keeps W ((rwU Z g o false (xs k)).setCell ⟨b3, 0, none⟩ (.slice (some ⟨g, 0, none⟩) (k + 1) L)) (fun b => b = g ∨ b = b3) ∧ ValI xs L W0 g b3 (List.range k ++ [k]) ((rwU Z g o false (xs k)).setCell ⟨b3, 0, none⟩ (.slice (some ⟨g, 0, none⟩) (k + 1) L))) ∧
    (Keeps W (rwU (Z.setCell ⟨b3, 0, none⟩ (.slice (some ⟨g, 0, none⟩) (k + 1) L)) g o false (xs k)) (fun b => b = g ∨ b = b3) ∧ ValI xs L W0 g b3 (List.range k ++ [k]) (rwU (Z.setCell ⟨b3, 0, none⟩ (.slice (some ⟨g, 0, none⟩) (k + 1) L)) g o false (xs k))) := by
  have hne : g ≠ b3 := blk_ne hg hb (by decide)
  have zg := (gZ.block g (lt_of_heap hg) id).trans hg
  have zb := (gZ.block b3 (lt_of_heap hb) id).trans hb
  have k6 : Keeps Z (rwU Z g o false (xs k)) (fun b => b = g) := setAll_kp _ _ _
  have b6 := (k6.block b3 (lt_of_heap zb) (Ne.symm hne)).trans zb
  have g6 : (rwU Z g o false (xs k)).heap[g]? = some (.cells (rowK xs L (k + 1)) 86) := by
    unfold rwU
    rw [setAll_blk g 86 _ _ _ zg]
    subst ho
    rcases LK hL hk with ⟨rfl, rfl⟩ | ⟨rfl, rfl⟩ | ⟨rfl, rfl⟩ | ⟨rfl, rfl⟩ | ⟨rfl, rfl⟩ <;> rfl
  have k7 : Keeps Z (Z.setCell ⟨b3, 0, none⟩ (.slice (some ⟨g, 0, none⟩) (k + 1) L)) (fun b => b = b3) := (Keeps.refl Z (fun b => b = b3)).setCell (p := ⟨b3, 0, none⟩) (fun _ => rfl) _
  have g7 := (k7.block g (lt_of_heap zg) hne).trans zg
  have b7 : (Z.setCell ⟨b3, 0, none⟩ (.slice (some ⟨g, 0, none⟩) (k + 1) L)).heap[b3]? = some (.cells #[.slice (some ⟨g, 0, none⟩) (k + 1) L] 58) := by
    rw [heap_setCell_same Z b3 0 _ _ _ zb]; rfl
  have kWZ : Keeps W Z (fun b => b = g ∨ b = b3) := gZ.mono fun _ _ h => h.elim
  have k67 := (kWZ.trans k6 (fun _ _ h => .inl h)).setCell (p := ⟨b3, 0, none⟩) (fun _ => .inr rfl) (.slice (some ⟨g, 0, none⟩) (k + 1) L)
  have k76 : Keeps W (rwU (Z.setCell ⟨b3, 0, none⟩ (.slice (some ⟨g, 0, none⟩) (k + 1) L)) g o false (xs k)) (fun b => b = g ∨ b = b3) := (kWZ.trans k7 (fun _ _ h => .inr h)).trans (setAll_kp _ _ _) (fun _ _ h => .inl h)
  have low : ∀ u, Keeps W u (fun b => b = g ∨ b = b3) → Gr W0 u := fun u h => gW.trans h (fun j hj e => by rcases e with e | e <;> omega)
  refine ⟨zg, zb, b6, g7, ⟨k67, k + 1, by omega, by rw [← List.range_succ], low _ k67, ?_, ?_⟩, ⟨k76, k + 1, by omega, by rw [← List.range_succ], low _ k76, ?_, ?_⟩⟩
  · rw [heap_setCell_other _ _ _ _ hne]; exact g6
  · rw [heap_setCell_same _ b3 0 _ _ _ b6]; rfl
  · unfold rwU
    rw [setAll_blk g 86 _ _ _ g7]
    subst ho
    rcases LK hL hk with ⟨rfl, rfl⟩ | ⟨rfl, rfl⟩ | ⟨rfl, rfl⟩ | ⟨rfl, rfl⟩ | ⟨rfl, rfl⟩ <;> rfl
  · unfold rwU
    rw [setAll_oth g b3 (Ne.symm hne)]
    exact b7
theorem rowCells {xs : Nat → Int} {L k o : Nat} (hL : L = 2 ∨ L = 3) (hk : k < L) (ho : o = 4 * k) {W : World} {g : Nat} (h : W.heap[g]? = some (.cells (rowK xs L k) 86)) : W.cell? ⟨g, o, none⟩ = some (.bool false) ∧ W.cell? ⟨g, o + 1, none⟩ = some (.int .i64 0) ∧ W.cell? ⟨g, o + 2, none⟩ = some (.string ⟨#[]⟩) ∧ W.cell? ⟨g, o + 3, none⟩ = some (.slice none 0 0) := by
  subst ho
  rcases LK hL hk with ⟨rfl, rfl⟩ | ⟨rfl, rfl⟩ | ⟨rfl, rfl⟩ | ⟨rfl, rfl⟩ | ⟨rfl, rfl⟩ <;> (refine ⟨?_, ?_, ?_, ?_⟩ <;> simp [World.cell?, h] <;> rfl)
end Go.Proofs.YteggcdhibcjneaaGreatDoor.Kit
