import Derived.Test.YtcedjdkldiffdaaGreatDoorCP
set_option maxRecDepth 100000
set_option maxHeartbeats 4000000
namespace Go.Proofs.YtcedjdkldiffdaaGreatDoor.Kit
open Go.RowKit Go.Shelf Go.Deep
open Go.Proofs.YtcedjdkldiffdaaGreatDoor.Kd (Ans AnsV cell5 cell2)
open Go.Proofs.YtcedjdkldiffdaaGreatDoor.Ink (OwnRow)
set_option linter.unusedVariables false
set_option linter.unusedSimpArgs false
attribute [local go_sem] run_store_func
theorem caught103 (r : Addr) (w : World) : CallsD Tryz.prog 227 #[.pointer (some r)] .returning w fun e u' w' => e = .returned (.tuple #[]) ∧ u' = .returning ∧ w' = w := by
  refine callsD_of_wpS Tryz.func227 rfl fun c₀ cs hu => ?_
  apply wpS_seq
  apply wpS_region
  simp [wpOpsS, go_sem, recoverD, hu, Tryz.ntmps227, Exit.thenS]
  have HHU := hidM hu
  clear hu
  have htm : (#[Value.pointer (some r)] ++ (Array.replicate 9 undef).setIfInBounds 3 Value.nilIface : Array Value) = #[Value.pointer (some r), undef, undef, undef, .nilIface, undef, undef, undef, undef, undef] := by kernel_rfl
  rw [htm]
  clear htm
  refine wpS_of_wp ?_
  refine wp_hid ?_
  go_wp2_with fail
  unfold Hid
  have hu := HHU.out
  cases c₀
  simp_all [bodyPostS, results, Tryz.results227]
theorem caught73 (b0 b1 b2 b3 : Nat) (S : Nat → Prop) (R : World → Prop) (W : World) (hS : ¬ S W.heap.size) (hR : ∀ u v, R u → Gr u v → R v) (h : ∀ A, Gr W A → Calls Tryz.prog 141 #[.pointer (some ⟨b0, 0, none⟩), .pointer (some ⟨b1, 0, none⟩), .pointer (some ⟨b2, 0, none⟩), .pointer (some ⟨b3, 0, none⟩)] A fun e w' => e = .returned (.tuple #[]) ∧ Keeps A w' S ∧ R w') :
    Calls Tryz.prog 140 #[.func (.func 141) #[] #[.pointer (some ⟨b0, 0, none⟩), .pointer (some ⟨b1, 0, none⟩), .pointer (some ⟨b2, 0, none⟩), .pointer (some ⟨b3, 0, none⟩)]] W fun e w' => e = .returned (.int .i64 0) ∧ Keeps W w' S ∧ R w' := by
  have hmf : ∀ (fn : Fn) (first cap : Array Value) (w : World), (Instr.makeFunc fn first cap).run Tryz.prog w = .ok (.func fn first cap) w := fun _ _ _ _ => rfl
  obtain ⟨A, hA⟩ : ∃ A, W.alloc (.cells #[.int .i64 0] 33) = A := ⟨_, rfl⟩
  have gA : Gr W A := by rw [← hA]; exact gr_alloc W _
  have hb : A.heap[W.heap.size]? = some (.cells #[.int .i64 0] 33) := by rw [← hA]; exact heap_alloc_new W _
  have HC := hidM (h A gA)
  have HB := hidM hb
  have HG := hidM gA
  clear h gA hb
  go_enter_defers Tryz.func140, Tryz.ntmps140
  go_wp2_with (go_at_call 141; refine HC.out.mono ?_; rintro e w1 ⟨rfl, k1, hr1⟩; have hb1 := (k1.block _ (lt_of_heap HB.out) hS).trans HB.out; have y0 : w1.cell? ⟨W.heap.size, 0, none⟩ = some (.int .i64 0) := (by simp [World.cell?, hb1]); have zz := frz hb1 0; have s0 := set_id (j := 0) (v := .int .i64 0) hb1 rfl; have HF := hidM (And.intro k1 hr1); have HB1 := hidM hb1; clear k1 hr1 hb1)
  refine leaves_cons (f := 227) (args := #[.pointer (some ⟨W.heap.size, 0, none⟩)]) (by simp) (by simp [go_sem]) ?_
  refine (caught103 ⟨W.heap.size, 0, none⟩ w1).mono ?_
  rintro e u' w' ⟨rfl, rfl, rfl⟩
  refine ⟨.int .i64 0, ?_, rfl, (HG.out.mono fun _ _ h => h.elim).trans HF.out.1 (fun _ _ h => h), HF.out.2⟩
  simp [results, Tryz.f140, go_sem, y0]
theorem blk_ne {W : World} {a b t t' : Nat} {c c' : Array Value} (ha : W.heap[a]? = some (.cells c t)) (hb : W.heap[b]? = some (.cells c' t')) (h : t ≠ t') : a ≠ b := fun e => by
  subst e
  rw [ha] at hb
  simp at hb
  exact h hb.2
/-- what read's function value finds -/
structure RdC (W : World) (b4 b3 b5 b8 l a q : Nat) (i left : Int) : Prop where
  h4 : W.heap[b4]? = some (.cells #[.pointer (some ⟨l, 0, none⟩)] 146)
  h3 : W.heap[b3]? = some (.cells #[.pointer (some ⟨a, 0, none⟩)] 66)
  h5 : W.heap[b5]? = some (.cells #[.int .i64 i] 3)
  h8 : W.heap[b8]? = some (.cells #[.bool false, .int .i64 0, .string ⟨#[]⟩, .slice none 0 0] 77)
  ha : W.heap[a]? = some (.cells #[.pointer (some ⟨q, 0, none⟩), .int .i64 0, .int .i64 2, .pointer none] 102)
  hl : W.heap[l]? = some (.cells #[.pointer none, .int .i64 left] 141)
theorem read74_0 (b4 b3 b5 b8 a l left : Nat) (W : World) (q r rc : Nat) (nu : Bool) (ao : Option Addr) (ca L N : Nat) (v2 n2 c2 : Nat) (hR : RdC W b4 b3 b5 b8 l a q 0 left) (h : NdA W q r rc nu ao ca L N v2 n2 c2) (hlq : q ≠ l) (hlr : r ≠ l) (hlv : v2 ≠ l) (h16 : 16 ≤ left) (hle : left ≤ 4194304) (hn0 : 2 ≤ n2) (hn : n2 ≤ 100000) (hc : n2 ≤ c2) (h0 : W.cell? ⟨v2, 0, none⟩ = some (.int .u8 3)) (h1 : W.cell? ⟨v2, 1, none⟩ = some (.int .u8 4)) :
    Calls Tryz.prog 141 #[.pointer (some ⟨b4, 0, none⟩), .pointer (some ⟨b3, 0, none⟩), .pointer (some ⟨b5, 0, none⟩), .pointer (some ⟨b8, 0, none⟩)] W fun e w' => e = .returned (.tuple #[]) ∧ Keeps W w' (fun z => z = l ∨ z = b8) ∧ w'.heap[l]? = some (.cells #[.pointer none, .int .i64 ((left - 16 : Nat) : Int)] 141) ∧ w'.heap[b8]? = some (.cells #[.bool false, .int .i64 3, .string ⟨#[]⟩, .slice none 0 0] 77) := by
  have n4 := blk_ne hR.h4 hR.hl (by decide)
  have n3 := blk_ne hR.h3 hR.hl (by decide)
  have n5 := blk_ne hR.h5 hR.hl (by decide)
  have na := blk_ne hR.ha hR.hl (by decide)
  have n8 := blk_ne hR.h8 hR.hl (by decide)
  have m4 := blk_ne hR.h4 hR.h8 (by decide)
  have m3 := blk_ne hR.h3 hR.h8 (by decide)
  have m5 := blk_ne hR.h5 hR.h8 (by decide)
  have ma := blk_ne hR.ha hR.h8 (by decide)
  have hS : ∀ u, Keeps W u (fun z => z = l ∨ z = b8) → u.cell? ⟨b4, 0, none⟩ = some (.pointer (some ⟨l, 0, none⟩)) ∧ u.cell? ⟨b3, 0, none⟩ = some (.pointer (some ⟨a, 0, none⟩)) ∧ u.cell? ⟨b5, 0, none⟩ = some (.int .i64 0) ∧ u.cell? ⟨a, 0, none⟩ = some (.pointer (some ⟨q, 0, none⟩)) ∧ u.cell? ⟨a, 1, none⟩ = some (.int .i64 0) := fun u g => by
    have c4 : W.cell? ⟨b4, 0, none⟩ = some (.pointer (some ⟨l, 0, none⟩)) := by simp [World.cell?, hR.h4]
    have c3 : W.cell? ⟨b3, 0, none⟩ = some (.pointer (some ⟨a, 0, none⟩)) := by simp [World.cell?, hR.h3]
    have c5 : W.cell? ⟨b5, 0, none⟩ = some (.int .i64 0) := by simp [World.cell?, hR.h5]
    obtain ⟨a0, a1, -, -⟩ := cell4 hR.ha
    exact ⟨g.cell' c4 (fun e => e.elim n4 m4), g.cell' c3 (fun e => e.elim n3 m3), g.cell' c5 (fun e => e.elim n5 m5), g.cell' a0 (fun e => e.elim na ma), g.cell' a1 (fun e => e.elim na ma)⟩
  have HS0 := hidM (hS W.drew (gr_drew.mono fun _ _ h => h.elim))
  have HC := hidM (value75_0 l left W.drew q r rc nu ao ca L N v2 n2 c2 (h.gr gr_drew) hR.hl hlq hlr hlv h16 hle hn0 hn hc h0 h1)
  have HT : Hid (∀ w1, Rd1 W.drew w1 l left → (w1.cell? ⟨b4, 0, none⟩ = some (.pointer (some ⟨l, 0, none⟩)) ∧ w1.cell? ⟨b3, 0, none⟩ = some (.pointer (some ⟨a, 0, none⟩)) ∧ w1.cell? ⟨b5, 0, none⟩ = some (.int .i64 0) ∧ w1.cell? ⟨a, 0, none⟩ = some (.pointer (some ⟨q, 0, none⟩)) ∧ w1.cell? ⟨a, 1, none⟩ = some (.int .i64 0)) ∧ w1.heap[b8]? = some (.cells #[.bool false, .int .i64 0, .string ⟨#[]⟩, .slice none 0 0] 77) ∧ (vlU w1 b8 false 3).heap[b8]? = some (.cells #[.bool false, .int .i64 3, .string ⟨#[]⟩, .slice none 0 0] 77) ∧ Keeps W (vlU w1 b8 false 3) (fun z => z = l ∨ z = b8) ∧ (vlU w1 b8 false 3).heap[l]? = some (.cells #[.pointer none, .int .i64 ((left - 16 : Nat) : Int)] 141)) := fun w1 ⟨k1, hl1⟩ => by
    have k0 : Keeps W w1 (fun z => z = l ∨ z = b8) := Keeps.trans (gr_drew.mono fun _ _ h => h.elim) k1 (fun _ _ h => .inl h)
    have hb8 : w1.heap[b8]? = some (.cells #[.bool false, .int .i64 0, .string ⟨#[]⟩, .slice none 0 0] 77) := (k1.block b8 (lt_of_heap (W := W) hR.h8) n8).trans hR.h8
    exact ⟨hS w1 k0, hb8, vl_blk hb8, k0.trans (vl_kp _ _ _ _) (fun _ _ h => .inr h), ((vl_kp _ _ _ _).block l (lt_of_heap hl1) (Ne.symm n8)).trans hl1⟩
  have HSS := hidM hS
  clear hR n4 n3 n5 na n8 m4 m3 m5 ma hS h h0 h1
  go_enter Tryz.func141, Tryz.ntmps141
  go_wp2_with fail
  go_region_held3 (fun u => u.cell? ⟨b4, 0, none⟩ = some (.pointer (some ⟨l, 0, none⟩)) ∧ u.cell? ⟨b3, 0, none⟩ = some (.pointer (some ⟨a, 0, none⟩)) ∧ u.cell? ⟨b5, 0, none⟩ = some (.int .i64 0) ∧ u.cell? ⟨a, 0, none⟩ = some (.pointer (some ⟨q, 0, none⟩)) ∧ u.cell? ⟨a, 1, none⟩ = some (.int .i64 0)) (first | with_reducible exact HS0.out | with_reducible exact HS1.out | with_reducible exact HSU.out) ((go_at_call 142; refine HC.out.mono ?_; rintro e w1 ⟨rfl, k1⟩; obtain ⟨hs1, hb8, hu3, hk3, hl3⟩ := HT.out w1 k1; have HS1 := hidM hs1; obtain ⟨U, hU⟩ : ∃ U, vlU w1 b8 false 3 = U := ⟨_, rfl⟩; rw [hU] at hu3 hk3 hl3; have HSU := hidM (HSS.out U hk3); have HE := hidM (And.intro hk3 (And.intro hl3 hu3)); simp only [vlU, setAll] at hU; obtain ⟨y0, y1, y2, y3⟩ := cell4 hb8; have x0 := frz hb8 0; have x1 := frz hb8 1; have x2 := frz hb8 2; have x3 := frz hb8 3; clear k1 hs1 hb8 hu3 hk3 hl3))
  go_wp2_with fail
  go_end0
  exact ⟨rfl, HE.out⟩
theorem read74_1 (b4 b3 b5 b8 a l left : Nat) (W : World) (q r rc : Nat) (nu : Bool) (ao : Option Addr) (ca L N : Nat) (v2 n2 c2 : Nat) (hR : RdC W b4 b3 b5 b8 l a q 1 left) (h : NdA W q r rc nu ao ca L N v2 n2 c2) (hlq : q ≠ l) (hlr : r ≠ l) (hlv : v2 ≠ l) (h16 : 16 ≤ left) (hle : left ≤ 4194304) (hn0 : 2 ≤ n2) (hn : n2 ≤ 100000) (hc : n2 ≤ c2) (h0 : W.cell? ⟨v2, 0, none⟩ = some (.int .u8 3)) (h1 : W.cell? ⟨v2, 1, none⟩ = some (.int .u8 4)) :
    Calls Tryz.prog 141 #[.pointer (some ⟨b4, 0, none⟩), .pointer (some ⟨b3, 0, none⟩), .pointer (some ⟨b5, 0, none⟩), .pointer (some ⟨b8, 0, none⟩)] W fun e w' => e = .returned (.tuple #[]) ∧ Keeps W w' (fun z => z = l ∨ z = b8) ∧ w'.heap[l]? = some (.cells #[.pointer none, .int .i64 ((left - 16 : Nat) : Int)] 141) ∧ w'.heap[b8]? = some (.cells #[.bool false, .int .i64 4, .string ⟨#[]⟩, .slice none 0 0] 77) := by
  have n4 := blk_ne hR.h4 hR.hl (by decide)
  have n3 := blk_ne hR.h3 hR.hl (by decide)
  have n5 := blk_ne hR.h5 hR.hl (by decide)
  have na := blk_ne hR.ha hR.hl (by decide)
  have n8 := blk_ne hR.h8 hR.hl (by decide)
  have m4 := blk_ne hR.h4 hR.h8 (by decide)
  have m3 := blk_ne hR.h3 hR.h8 (by decide)
  have m5 := blk_ne hR.h5 hR.h8 (by decide)
  have ma := blk_ne hR.ha hR.h8 (by decide)
  have hS : ∀ u, Keeps W u (fun z => z = l ∨ z = b8) → u.cell? ⟨b4, 0, none⟩ = some (.pointer (some ⟨l, 0, none⟩)) ∧ u.cell? ⟨b3, 0, none⟩ = some (.pointer (some ⟨a, 0, none⟩)) ∧ u.cell? ⟨b5, 0, none⟩ = some (.int .i64 1) ∧ u.cell? ⟨a, 0, none⟩ = some (.pointer (some ⟨q, 0, none⟩)) ∧ u.cell? ⟨a, 1, none⟩ = some (.int .i64 0) := fun u g => by
    have c4 : W.cell? ⟨b4, 0, none⟩ = some (.pointer (some ⟨l, 0, none⟩)) := by simp [World.cell?, hR.h4]
    have c3 : W.cell? ⟨b3, 0, none⟩ = some (.pointer (some ⟨a, 0, none⟩)) := by simp [World.cell?, hR.h3]
    have c5 : W.cell? ⟨b5, 0, none⟩ = some (.int .i64 1) := by simp [World.cell?, hR.h5]
    obtain ⟨a0, a1, -, -⟩ := cell4 hR.ha
    exact ⟨g.cell' c4 (fun e => e.elim n4 m4), g.cell' c3 (fun e => e.elim n3 m3), g.cell' c5 (fun e => e.elim n5 m5), g.cell' a0 (fun e => e.elim na ma), g.cell' a1 (fun e => e.elim na ma)⟩
  have HS0 := hidM (hS W.drew (gr_drew.mono fun _ _ h => h.elim))
  have HC := hidM (value75_1 l left W.drew q r rc nu ao ca L N v2 n2 c2 (h.gr gr_drew) hR.hl hlq hlr hlv h16 hle hn0 hn hc h0 h1)
  have HT : Hid (∀ w1, Rd1 W.drew w1 l left → (w1.cell? ⟨b4, 0, none⟩ = some (.pointer (some ⟨l, 0, none⟩)) ∧ w1.cell? ⟨b3, 0, none⟩ = some (.pointer (some ⟨a, 0, none⟩)) ∧ w1.cell? ⟨b5, 0, none⟩ = some (.int .i64 1) ∧ w1.cell? ⟨a, 0, none⟩ = some (.pointer (some ⟨q, 0, none⟩)) ∧ w1.cell? ⟨a, 1, none⟩ = some (.int .i64 0)) ∧ w1.heap[b8]? = some (.cells #[.bool false, .int .i64 0, .string ⟨#[]⟩, .slice none 0 0] 77) ∧ (vlU w1 b8 false 4).heap[b8]? = some (.cells #[.bool false, .int .i64 4, .string ⟨#[]⟩, .slice none 0 0] 77) ∧ Keeps W (vlU w1 b8 false 4) (fun z => z = l ∨ z = b8) ∧ (vlU w1 b8 false 4).heap[l]? = some (.cells #[.pointer none, .int .i64 ((left - 16 : Nat) : Int)] 141)) := fun w1 ⟨k1, hl1⟩ => by
    have k0 : Keeps W w1 (fun z => z = l ∨ z = b8) := Keeps.trans (gr_drew.mono fun _ _ h => h.elim) k1 (fun _ _ h => .inl h)
    have hb8 : w1.heap[b8]? = some (.cells #[.bool false, .int .i64 0, .string ⟨#[]⟩, .slice none 0 0] 77) := (k1.block b8 (lt_of_heap (W := W) hR.h8) n8).trans hR.h8
    exact ⟨hS w1 k0, hb8, vl_blk hb8, k0.trans (vl_kp _ _ _ _) (fun _ _ h => .inr h), ((vl_kp _ _ _ _).block l (lt_of_heap hl1) (Ne.symm n8)).trans hl1⟩
  have HSS := hidM hS
  clear hR n4 n3 n5 na n8 m4 m3 m5 ma hS h h0 h1
  go_enter Tryz.func141, Tryz.ntmps141
  go_wp2_with fail
  go_region_held3 (fun u => u.cell? ⟨b4, 0, none⟩ = some (.pointer (some ⟨l, 0, none⟩)) ∧ u.cell? ⟨b3, 0, none⟩ = some (.pointer (some ⟨a, 0, none⟩)) ∧ u.cell? ⟨b5, 0, none⟩ = some (.int .i64 1) ∧ u.cell? ⟨a, 0, none⟩ = some (.pointer (some ⟨q, 0, none⟩)) ∧ u.cell? ⟨a, 1, none⟩ = some (.int .i64 0)) (first | with_reducible exact HS0.out | with_reducible exact HS1.out | with_reducible exact HSU.out) ((go_at_call 142; refine HC.out.mono ?_; rintro e w1 ⟨rfl, k1⟩; obtain ⟨hs1, hb8, hu3, hk3, hl3⟩ := HT.out w1 k1; have HS1 := hidM hs1; obtain ⟨U, hU⟩ : ∃ U, vlU w1 b8 false 4 = U := ⟨_, rfl⟩; rw [hU] at hu3 hk3 hl3; have HSU := hidM (HSS.out U hk3); have HE := hidM (And.intro hk3 (And.intro hl3 hu3)); simp only [vlU, setAll] at hU; obtain ⟨y0, y1, y2, y3⟩ := cell4 hb8; have x0 := frz hb8 0; have x1 := frz hb8 1; have x2 := frz hb8 2; have x3 := frz hb8 3; clear k1 hs1 hb8 hu3 hk3 hl3))
  go_wp2_with fail
  go_end0
  exact ⟨rfl, HE.out⟩
theorem results_cell37t {fn : Func} {t u : Tmp} {tmps : Array Value} {g : Nat} {cs : Array Value} {w : World} (h : fn.results = #[.cell t 77, .tmp u]) (ht : tmps.getD t undef = .pointer (some ⟨g, 0, none⟩)) (hg : w.heap[g]? = some (.cells cs 77 (0, 0))) (hi : (Tryz.prog.info? 77).map (·.size) = some cs.size) :
    (results fn tmps).run Tryz.prog w = .ok (.tuple #[.agg cs, tmps.getD u undef]) w := by
  have hl := run_loadVar_row (P := Tryz.prog) w g 77 77 cs (0, 0) _ hg Tryz.underlying77 rfl hi
  unfold results
  rw [h]
  simp only [Array.mapM_eq_mapM_toList, List.mapM_cons, List.mapM_nil, ht]
  simp [asAddr, hl]
theorem look49 (a q : Nat) (W : World) (ha : W.heap[a]? = some (.cells #[.pointer (some ⟨q, 0, none⟩), .int .i64 0, .int .i64 2, .pointer none] 102)) : Calls Tryz.prog 85 #[.pointer (some ⟨a, 0, none⟩)] W fun e w' => e = .returned (.pointer (some ⟨W.heap.size, 0, none⟩)) ∧ w' = W.alloc (.cells #[.pointer none, .int .i64 4194304] 141) := by
  obtain ⟨a0, a1, a2, a3⟩ := cell4 ha
  clear ha
  go_enter Tryz.func85, Tryz.ntmps85
  go_wp2_with fail
  go_ret
  exact ⟨rfl, rfl⟩
theorem all35 (a : Nat) (W : World) : Calls Tryz.prog 49 #[.pointer (some ⟨a, 0, none⟩)] W fun e w' => e = .returned (.func (.func 84) #[] #[.pointer (some ⟨W.heap.size, 0, none⟩)]) ∧ w' = W.alloc (.cells #[.pointer (some ⟨a, 0, none⟩)] 66) := by
  have hmf : ∀ (fn : Fn) (first cap : Array Value) (w : World), (Instr.makeFunc fn first cap).run Tryz.prog w = .ok (.func fn first cap) w := fun _ _ _ _ => rfl
  go_enter Tryz.func49, Tryz.ntmps49
  go_wp2_with fail
  go_ret
  exact ⟨rfl, rfl⟩
theorem read50_0 (a l left : Nat) (W : World) (q r rc : Nat) (nu : Bool) (ao : Option Addr) (ca L N : Nat) (v2 n2 c2 : Nat) (ha : W.heap[a]? = some (.cells #[.pointer (some ⟨q, 0, none⟩), .int .i64 0, .int .i64 2, .pointer none] 102)) (h : NdA W q r rc nu ao ca L N v2 n2 c2) (hl : W.heap[l]? = some (.cells #[.pointer none, .int .i64 left] 141)) (hlq : q ≠ l) (hlr : r ≠ l) (hlv : v2 ≠ l) (h16 : 16 ≤ left) (hle : left ≤ 4194304) (hn0 : 2 ≤ n2) (hn : n2 ≤ 100000) (hc : n2 ≤ c2) (h0 : W.cell? ⟨v2, 0, none⟩ = some (.int .u8 3)) (h1 : W.cell? ⟨v2, 1, none⟩ = some (.int .u8 4)) :
    Calls Tryz.prog 86 #[.pointer (some ⟨a, 0, none⟩), .pointer (some ⟨l, 0, none⟩), .int .i64 0] W fun e w' => e = .returned (.tuple #[.agg #[.bool false, .int .i64 3, .string ⟨#[]⟩, .slice none 0 0], .int .i64 0]) ∧ Rd1 W w' l left := by
  have hmf : ∀ (fn : Fn) (first cap : Array Value) (w : World), (Instr.makeFunc fn first cap).run Tryz.prog w = .ok (.func fn first cap) w := fun _ _ _ _ => rfl
  obtain ⟨A0, hA0⟩ : ∃ A0, W.alloc (.cells #[.pointer (some ⟨a, 0, none⟩)] 66) = A0 := ⟨_, rfl⟩
  have g0 : Gr W A0 := by rw [← hA0]; exact gr_alloc W _
  have b0 : A0.heap[W.heap.size]? = some (.cells #[.pointer (some ⟨a, 0, none⟩)] 66) := by rw [← hA0]; exact heap_alloc_new W _
  obtain ⟨A1, hA1⟩ : ∃ A1, A0.alloc (.cells #[.pointer (some ⟨l, 0, none⟩)] 146) = A1 := ⟨_, rfl⟩
  have g1 : Gr A0 A1 := by rw [← hA1]; exact gr_alloc A0 _
  have b1 : A1.heap[A0.heap.size]? = some (.cells #[.pointer (some ⟨l, 0, none⟩)] 146) := by rw [← hA1]; exact heap_alloc_new A0 _
  obtain ⟨A2, hA2⟩ : ∃ A2, A1.alloc (.cells #[.int .i64 0] 3) = A2 := ⟨_, rfl⟩
  have g2 : Gr A1 A2 := by rw [← hA2]; exact gr_alloc A1 _
  have b2 : A2.heap[A1.heap.size]? = some (.cells #[.int .i64 0] 3) := by rw [← hA2]; exact heap_alloc_new A1 _
  obtain ⟨A3, hA3⟩ : ∃ A3, A2.alloc (.cells #[.bool false, .int .i64 0, .string ⟨#[]⟩, .slice none 0 0] 77) = A3 := ⟨_, rfl⟩
  have g3 : Gr A2 A3 := by rw [← hA3]; exact gr_alloc A2 _
  have b3 : A3.heap[A2.heap.size]? = some (.cells #[.bool false, .int .i64 0, .string ⟨#[]⟩, .slice none 0 0] 77) := by rw [← hA3]; exact heap_alloc_new A2 _
  have z3 : A3.heap.size = A2.heap.size + 1 := by rw [← hA3]; simp
  obtain ⟨A4, hA4⟩ : ∃ A4, A3.alloc (.cells #[.bool false, .int .i64 0, .string ⟨#[]⟩, .slice none 0 0] 77) = A4 := ⟨_, rfl⟩
  have g4 : Gr A3 A4 := by rw [← hA4]; exact gr_alloc A3 _
  have b4 : A4.heap[A3.heap.size]? = some (.cells #[.bool false, .int .i64 0, .string ⟨#[]⟩, .slice none 0 0] 77) := by rw [← hA4]; exact heap_alloc_new A3 _
  have b3' := (g4.block _ (lt_of_heap b3) id).trans b3
  have g34 := g3.trans g4 (fun _ _ h => h)
  have g24 := g2.trans g34 (fun _ _ h => h)
  have g14 := g1.trans g24 (fun _ _ h => h)
  have gW : Gr W A4 := g0.trans g14 (fun _ _ h => h)
  have hRC : RdC A4 A0.heap.size W.heap.size A1.heap.size A3.heap.size l a q 0 left := ⟨(g24.block _ (lt_of_heap b1) id).trans b1, (g14.block _ (lt_of_heap b0) id).trans b0, (g34.block _ (lt_of_heap b2) id).trans b2, b4, (gW.block _ (lt_of_heap ha) id).trans ha, (gW.block _ (lt_of_heap hl) id).trans hl⟩
  have hll := lt_of_heap hl
  have s0 := g0.size
  have s1 := g1.size
  have s2 := g2.size
  have HC := hidM (caught73 A0.heap.size W.heap.size A1.heap.size A3.heap.size (fun z => z = l ∨ z = A3.heap.size) (fun w => w.heap[l]? = some (.cells #[.pointer none, .int .i64 ((left - 16 : Nat) : Int)] 141) ∧ w.heap[A3.heap.size]? = some (.cells #[.bool false, .int .i64 3, .string ⟨#[]⟩, .slice none 0 0] 77)) A4 (fun e => by have := lt_of_heap b4; have := gW.size; rcases e with e | e <;> omega)
    (fun u v hu g => ⟨(g.block _ (lt_of_heap hu.1) id).trans hu.1, (g.block _ (lt_of_heap hu.2) id).trans hu.2⟩)
    (fun A gA => by
      have gWA := gW.trans gA (fun _ _ h => h)
      exact read74_0 A0.heap.size W.heap.size A1.heap.size A3.heap.size a l left A q r rc nu ao ca L N v2 n2 c2 ⟨(gA.block _ (lt_of_heap hRC.h4) id).trans hRC.h4, (gA.block _ (lt_of_heap hRC.h3) id).trans hRC.h3, (gA.block _ (lt_of_heap hRC.h5) id).trans hRC.h5, (gA.block _ (lt_of_heap hRC.h8) id).trans hRC.h8, (gA.block _ (lt_of_heap hRC.ha) id).trans hRC.ha, (gA.block _ (lt_of_heap hRC.hl) id).trans hRC.hl⟩ (h.gr gWA) hlq hlr hlv h16 hle hn0 hn hc (gWA.cell' h0 id) (gWA.cell' h1 id)))
  have HT : Hid (∀ w2, Keeps A4 w2 (fun z => z = l ∨ z = A3.heap.size) → (w2.heap[l]? = some (.cells #[.pointer none, .int .i64 ((left - 16 : Nat) : Int)] 141) ∧ w2.heap[A3.heap.size]? = some (.cells #[.bool false, .int .i64 3, .string ⟨#[]⟩, .slice none 0 0] 77)) → w2.heap[A2.heap.size]? = some (.cells #[.bool false, .int .i64 0, .string ⟨#[]⟩, .slice none 0 0] 77) ∧ (vlU w2 A2.heap.size false 3).heap[A2.heap.size]? = some (.cells #[.bool false, .int .i64 3, .string ⟨#[]⟩, .slice none 0 0] 77) ∧ Rd1 W (vlU w2 A2.heap.size false 3) l left) := fun w2 k2 ⟨e1, e2⟩ => by
    have hb := (k2.block _ (lt_of_heap b3') (fun e => by rcases e with e | e <;> omega)).trans b3'
    refine ⟨hb, vl_blk hb, ?_, ((vl_kp _ _ _ _).block l (lt_of_heap e1) (fun e => by have e' : l = A2.heap.size := e; omega)).trans e1⟩
    exact ((gW.mono fun _ _ h => h.elim).trans k2 (fun j hj e => e.elim id (fun e => by omega))).trans (vl_kp _ _ _ _) (fun j hj e => by have e' : j = A2.heap.size := e; omega)
  clear g0 b0 g1 b1 g2 b2 g3 b3 z3 g4 b4 b3' g34 g24 g14 gW hRC hll s0 s1 s2 ha h hl h0 h1
  go_enter Tryz.func86, Tryz.ntmps86
  go_wp2_with (go_at_call 140; refine HC.out.mono ?_; rintro e w2 ⟨rfl, k2, e2⟩; obtain ⟨hr3, hu3, hq3⟩ := HT.out w2 k2 e2; obtain ⟨U, hU⟩ : ∃ U, vlU w2 A2.heap.size false 3 = U := ⟨_, rfl⟩; rw [hU] at hu3 hq3; simp only [vlU, setAll] at hU; obtain ⟨y0, y1, y2, y3⟩ := cell4 hr3; have x0 := frz hr3 0; have x1 := frz hr3 1; have x2 := frz hr3 2; have x3 := frz hr3 3; obtain ⟨f0, f1, f2, f3⟩ := cell4 e2.2; have HU3 := hidM hu3; have HQ3 := hidM hq3; clear hr3 hu3 hq3 k2 e2 hA0 hA1 hA2 hA3 hA4)
  (try simp only [Exit.inBlock, Exit.then])
  refine bodyPost_ret (results_cell37t rfl rfl (by with_reducible exact HU3.out) (by kernel_rfl)) rfl ?_
  exact ⟨rfl, HQ3.out⟩
theorem read50_1 (a l left : Nat) (W : World) (q r rc : Nat) (nu : Bool) (ao : Option Addr) (ca L N : Nat) (v2 n2 c2 : Nat) (ha : W.heap[a]? = some (.cells #[.pointer (some ⟨q, 0, none⟩), .int .i64 0, .int .i64 2, .pointer none] 102)) (h : NdA W q r rc nu ao ca L N v2 n2 c2) (hl : W.heap[l]? = some (.cells #[.pointer none, .int .i64 left] 141)) (hlq : q ≠ l) (hlr : r ≠ l) (hlv : v2 ≠ l) (h16 : 16 ≤ left) (hle : left ≤ 4194304) (hn0 : 2 ≤ n2) (hn : n2 ≤ 100000) (hc : n2 ≤ c2) (h0 : W.cell? ⟨v2, 0, none⟩ = some (.int .u8 3)) (h1 : W.cell? ⟨v2, 1, none⟩ = some (.int .u8 4)) :
    Calls Tryz.prog 86 #[.pointer (some ⟨a, 0, none⟩), .pointer (some ⟨l, 0, none⟩), .int .i64 1] W fun e w' => e = .returned (.tuple #[.agg #[.bool false, .int .i64 4, .string ⟨#[]⟩, .slice none 0 0], .int .i64 0]) ∧ Rd1 W w' l left := by
  have hmf : ∀ (fn : Fn) (first cap : Array Value) (w : World), (Instr.makeFunc fn first cap).run Tryz.prog w = .ok (.func fn first cap) w := fun _ _ _ _ => rfl
  obtain ⟨A0, hA0⟩ : ∃ A0, W.alloc (.cells #[.pointer (some ⟨a, 0, none⟩)] 66) = A0 := ⟨_, rfl⟩
  have g0 : Gr W A0 := by rw [← hA0]; exact gr_alloc W _
  have b0 : A0.heap[W.heap.size]? = some (.cells #[.pointer (some ⟨a, 0, none⟩)] 66) := by rw [← hA0]; exact heap_alloc_new W _
  obtain ⟨A1, hA1⟩ : ∃ A1, A0.alloc (.cells #[.pointer (some ⟨l, 0, none⟩)] 146) = A1 := ⟨_, rfl⟩
  have g1 : Gr A0 A1 := by rw [← hA1]; exact gr_alloc A0 _
  have b1 : A1.heap[A0.heap.size]? = some (.cells #[.pointer (some ⟨l, 0, none⟩)] 146) := by rw [← hA1]; exact heap_alloc_new A0 _
  obtain ⟨A2, hA2⟩ : ∃ A2, A1.alloc (.cells #[.int .i64 1] 3) = A2 := ⟨_, rfl⟩
  have g2 : Gr A1 A2 := by rw [← hA2]; exact gr_alloc A1 _
  have b2 : A2.heap[A1.heap.size]? = some (.cells #[.int .i64 1] 3) := by rw [← hA2]; exact heap_alloc_new A1 _
  obtain ⟨A3, hA3⟩ : ∃ A3, A2.alloc (.cells #[.bool false, .int .i64 0, .string ⟨#[]⟩, .slice none 0 0] 77) = A3 := ⟨_, rfl⟩
  have g3 : Gr A2 A3 := by rw [← hA3]; exact gr_alloc A2 _
  have b3 : A3.heap[A2.heap.size]? = some (.cells #[.bool false, .int .i64 0, .string ⟨#[]⟩, .slice none 0 0] 77) := by rw [← hA3]; exact heap_alloc_new A2 _
  have z3 : A3.heap.size = A2.heap.size + 1 := by rw [← hA3]; simp
  obtain ⟨A4, hA4⟩ : ∃ A4, A3.alloc (.cells #[.bool false, .int .i64 0, .string ⟨#[]⟩, .slice none 0 0] 77) = A4 := ⟨_, rfl⟩
  have g4 : Gr A3 A4 := by rw [← hA4]; exact gr_alloc A3 _
  have b4 : A4.heap[A3.heap.size]? = some (.cells #[.bool false, .int .i64 0, .string ⟨#[]⟩, .slice none 0 0] 77) := by rw [← hA4]; exact heap_alloc_new A3 _
  have b3' := (g4.block _ (lt_of_heap b3) id).trans b3
  have g34 := g3.trans g4 (fun _ _ h => h)
  have g24 := g2.trans g34 (fun _ _ h => h)
  have g14 := g1.trans g24 (fun _ _ h => h)
  have gW : Gr W A4 := g0.trans g14 (fun _ _ h => h)
  have hRC : RdC A4 A0.heap.size W.heap.size A1.heap.size A3.heap.size l a q 1 left := ⟨(g24.block _ (lt_of_heap b1) id).trans b1, (g14.block _ (lt_of_heap b0) id).trans b0, (g34.block _ (lt_of_heap b2) id).trans b2, b4, (gW.block _ (lt_of_heap ha) id).trans ha, (gW.block _ (lt_of_heap hl) id).trans hl⟩
  have hll := lt_of_heap hl
  have s0 := g0.size
  have s1 := g1.size
  have s2 := g2.size
  have HC := hidM (caught73 A0.heap.size W.heap.size A1.heap.size A3.heap.size (fun z => z = l ∨ z = A3.heap.size) (fun w => w.heap[l]? = some (.cells #[.pointer none, .int .i64 ((left - 16 : Nat) : Int)] 141) ∧ w.heap[A3.heap.size]? = some (.cells #[.bool false, .int .i64 4, .string ⟨#[]⟩, .slice none 0 0] 77)) A4 (fun e => by have := lt_of_heap b4; have := gW.size; rcases e with e | e <;> omega)
    (fun u v hu g => ⟨(g.block _ (lt_of_heap hu.1) id).trans hu.1, (g.block _ (lt_of_heap hu.2) id).trans hu.2⟩)
    (fun A gA => by
      have gWA := gW.trans gA (fun _ _ h => h)
      exact read74_1 A0.heap.size W.heap.size A1.heap.size A3.heap.size a l left A q r rc nu ao ca L N v2 n2 c2 ⟨(gA.block _ (lt_of_heap hRC.h4) id).trans hRC.h4, (gA.block _ (lt_of_heap hRC.h3) id).trans hRC.h3, (gA.block _ (lt_of_heap hRC.h5) id).trans hRC.h5, (gA.block _ (lt_of_heap hRC.h8) id).trans hRC.h8, (gA.block _ (lt_of_heap hRC.ha) id).trans hRC.ha, (gA.block _ (lt_of_heap hRC.hl) id).trans hRC.hl⟩ (h.gr gWA) hlq hlr hlv h16 hle hn0 hn hc (gWA.cell' h0 id) (gWA.cell' h1 id)))
  have HT : Hid (∀ w2, Keeps A4 w2 (fun z => z = l ∨ z = A3.heap.size) → (w2.heap[l]? = some (.cells #[.pointer none, .int .i64 ((left - 16 : Nat) : Int)] 141) ∧ w2.heap[A3.heap.size]? = some (.cells #[.bool false, .int .i64 4, .string ⟨#[]⟩, .slice none 0 0] 77)) → w2.heap[A2.heap.size]? = some (.cells #[.bool false, .int .i64 0, .string ⟨#[]⟩, .slice none 0 0] 77) ∧ (vlU w2 A2.heap.size false 4).heap[A2.heap.size]? = some (.cells #[.bool false, .int .i64 4, .string ⟨#[]⟩, .slice none 0 0] 77) ∧ Rd1 W (vlU w2 A2.heap.size false 4) l left) := fun w2 k2 ⟨e1, e2⟩ => by
    have hb := (k2.block _ (lt_of_heap b3') (fun e => by rcases e with e | e <;> omega)).trans b3'
    refine ⟨hb, vl_blk hb, ?_, ((vl_kp _ _ _ _).block l (lt_of_heap e1) (fun e => by have e' : l = A2.heap.size := e; omega)).trans e1⟩
    exact ((gW.mono fun _ _ h => h.elim).trans k2 (fun j hj e => e.elim id (fun e => by omega))).trans (vl_kp _ _ _ _) (fun j hj e => by have e' : j = A2.heap.size := e; omega)
  clear g0 b0 g1 b1 g2 b2 g3 b3 z3 g4 b4 b3' g34 g24 g14 gW hRC hll s0 s1 s2 ha h hl h0 h1
  go_enter Tryz.func86, Tryz.ntmps86
  go_wp2_with (go_at_call 140; refine HC.out.mono ?_; rintro e w2 ⟨rfl, k2, e2⟩; obtain ⟨hr3, hu3, hq3⟩ := HT.out w2 k2 e2; obtain ⟨U, hU⟩ : ∃ U, vlU w2 A2.heap.size false 4 = U := ⟨_, rfl⟩; rw [hU] at hu3 hq3; simp only [vlU, setAll] at hU; obtain ⟨y0, y1, y2, y3⟩ := cell4 hr3; have x0 := frz hr3 0; have x1 := frz hr3 1; have x2 := frz hr3 2; have x3 := frz hr3 3; obtain ⟨f0, f1, f2, f3⟩ := cell4 e2.2; have HU3 := hidM hu3; have HQ3 := hidM hq3; clear hr3 hu3 hq3 k2 e2 hA0 hA1 hA2 hA3 hA4)
  (try simp only [Exit.inBlock, Exit.then])
  refine bodyPost_ret (results_cell37t rfl rfl (by with_reducible exact HU3.out) (by kernel_rfl)) rfl ?_
  exact ⟨rfl, HQ3.out⟩
end Go.Proofs.YtcedjdkldiffdaaGreatDoor.Kit
