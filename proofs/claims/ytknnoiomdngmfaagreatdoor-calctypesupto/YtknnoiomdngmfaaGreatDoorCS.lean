import Derived.Test.YtknnoiomdngmfaaGreatDoorCP
set_option maxRecDepth 100000
set_option maxHeartbeats 4000000
namespace Go.Proofs.YtknnoiomdngmfaaGreatDoor.Kit
open Go.RowKit Go.Shelf Go.Deep
open Go.Proofs.YtknnoiomdngmfaaGreatDoor.Ink (OwnRow)
set_option linter.unusedVariables false
set_option linter.unusedSimpArgs false
attribute [local go_sem] run_store_func
theorem caught103 (r : Addr) (w : World) : CallsD Tryz.prog 263 #[.pointer (some r)] .returning w fun e u' w' => e = .returned (.tuple #[]) ∧ u' = .returning ∧ w' = w := by
  refine callsD_of_wpS Tryz.func263 rfl fun c₀ cs hu => ?_
  apply wpS_seq
  apply wpS_region
  simp [wpOpsS, go_sem, recoverD, hu, Tryz.ntmps263, Exit.thenS]
  have HHU := hidM hu
  clear hu
  have htm : (#[Value.pointer (some r)] ++ (Array.replicate 9 undef).setIfInBounds 3 Value.nilIface : Array Value) = #[Value.pointer (some r), undef, undef, undef, .nilIface, undef, undef, undef, undef, undef] := by kernel_rfl
  rw [htm]
  clear htm
  refine wpS_of_wp ?_
  refine wp_hid ?_
  go_wp2_with fail
  unfold Hid
  have hu := HHU.out
  cases c₀
  simp_all [bodyPostS, results, Tryz.results263]
theorem caught73 (b0 b1 b2 b3 : Nat) (S : Nat → Prop) (R : World → Prop) (W : World) (hS : ¬ S W.heap.size) (hR : ∀ u v, R u → Gr u v → R v) (h : ∀ A, Gr W A → Calls Tryz.prog 180 #[.pointer (some ⟨b0, 0, none⟩), .pointer (some ⟨b1, 0, none⟩), .pointer (some ⟨b2, 0, none⟩), .pointer (some ⟨b3, 0, none⟩)] A fun e w' => e = .returned (.tuple #[]) ∧ Keeps A w' S ∧ R w') :
    Calls Tryz.prog 179 #[.func (.func 180) #[] #[.pointer (some ⟨b0, 0, none⟩), .pointer (some ⟨b1, 0, none⟩), .pointer (some ⟨b2, 0, none⟩), .pointer (some ⟨b3, 0, none⟩)]] W fun e w' => e = .returned (.int .i64 0) ∧ Keeps W w' S ∧ R w' := by
  have hmf : ∀ (fn : Fn) (first cap : Array Value) (w : World), (Instr.makeFunc fn first cap).run Tryz.prog w = .ok (.func fn first cap) w := fun _ _ _ _ => rfl
  obtain ⟨A, hA⟩ := ex (W.alloc (.cells #[.int .i64 0] 27))
  have gA := gr_al hA
  have hb := al_new hA
  have HC := hidM (h A gA)
  have HB := hidM hb
  have HG := hidM gA
  clear h gA hb
  go_enter_defers Tryz.func179, Tryz.ntmps179
  go_wp2_with (go_at_call 180; refine HC.out.mono ?_; rintro e w1 ⟨rfl, k1, hr1⟩; have hb1 := (k1.block _ (lt_of_heap HB.out) hS).trans HB.out; have y0 : w1.cell? ⟨W.heap.size, 0, none⟩ = some (.int .i64 0) := (by simp [World.cell?, hb1]); have zz := frz hb1 0; have s0 := set_id (j := 0) (v := .int .i64 0) hb1 rfl; have HF := hidM (And.intro k1 hr1); have HB1 := hidM hb1; clear k1 hr1 hb1)
  refine leaves_cons (f := 263) (args := #[.pointer (some ⟨W.heap.size, 0, none⟩)]) (by simp) (by simp [go_sem]) ?_
  refine (caught103 ⟨W.heap.size, 0, none⟩ w1).mono ?_
  rintro e u' w' ⟨rfl, rfl, rfl⟩
  refine ⟨.int .i64 0, ?_, rfl, (HG.out.mono fun _ _ h => h.elim).tr HF.out.1, HF.out.2⟩
  simp [results, Tryz.f179, go_sem, y0]
theorem blk_ne {W : World} {a b t t' : Nat} {c c' : Array Value} (ha : W.heap[a]? = some (.cells c t)) (hb : W.heap[b]? = some (.cells c' t')) (h : t ≠ t') : a ≠ b := fun e => by
  subst e
  rw [ha] at hb
  simp at hb
  exact h hb.2
structure RdC (W : World) (b4 b3 b5 b8 l a q : Nat) (i left : Int) : Prop where
  h4 : W.heap[b4]? = some (.cells #[.pointer (some ⟨l, 0, none⟩)] 171)
  h3 : W.heap[b3]? = some (.cells #[.pointer (some ⟨a, 0, none⟩)] 89)
  h5 : W.heap[b5]? = some (.cells #[.int .i64 i] 3)
  h8 : W.heap[b8]? = some (.cells #[.bool false, .int .i64 0, .string ⟨#[]⟩, .slice none 0 0] 98)
  ha : W.heap[a]? = some (.cells #[.pointer (some ⟨q, 0, none⟩), .int .i64 0, .int .i64 2, .pointer none] 123)
  hl : W.heap[l]? = some (.cells #[.pointer none, .int .i64 left] 166)
theorem read74_0 (b4 b3 b5 b8 a l left : Nat) (W : World) (q r rc : Nat) (nu : Bool) (ao : Option Addr) (ca L N : Nat) (v2 n2 c2 : Nat) (hR : RdC W b4 b3 b5 b8 l a q 0 left) (h : NdA W q r rc nu ao ca L N v2 n2 c2) (hlq : q ≠ l) (hlr : r ≠ l) (hlv : v2 ≠ l) (h16 : 16 ≤ left) (hle : left ≤ 4194304) (hn0 : 2 ≤ n2) (hn : n2 ≤ 100000) (hc : n2 ≤ c2) (h0 : W.cell? ⟨v2, 0, none⟩ = some (.int .u8 3)) (h1 : W.cell? ⟨v2, 1, none⟩ = some (.int .u8 4)) :
    Calls Tryz.prog 180 #[.pointer (some ⟨b4, 0, none⟩), .pointer (some ⟨b3, 0, none⟩), .pointer (some ⟨b5, 0, none⟩), .pointer (some ⟨b8, 0, none⟩)] W fun e w' => e = .returned (.tuple #[]) ∧ Keeps W w' (fun z => z = l ∨ z = b8) ∧ w'.heap[l]? = some (.cells #[.pointer none, .int .i64 ((left - 16 : Nat) : Int)] 166) ∧ w'.heap[b8]? = some (.cells #[.bool false, .int .i64 3, .string ⟨#[]⟩, .slice none 0 0] 98) := by
  have n4 := blk_ne hR.h4 hR.hl (by decide)
  have n3 := blk_ne hR.h3 hR.hl (by decide)
  have n5 := blk_ne hR.h5 hR.hl (by decide)
  have na := blk_ne hR.ha hR.hl (by decide)
  have n8 := blk_ne hR.h8 hR.hl (by decide)
  have m4 := blk_ne hR.h4 hR.h8 (by decide)
  have m3 := blk_ne hR.h3 hR.h8 (by decide)
  have m5 := blk_ne hR.h5 hR.h8 (by decide)
  have ma := blk_ne hR.ha hR.h8 (by decide)
  have hS : ∀ u, Keeps W u (fun z => z = l ∨ z = b8) → u.cell? ⟨b4, 0, none⟩ = some (.pointer (some ⟨l, 0, none⟩)) ∧ u.cell? ⟨b3, 0, none⟩ = some (.pointer (some ⟨a, 0, none⟩)) ∧ u.cell? ⟨b5, 0, none⟩ = some (.int .i64 0) ∧ u.cell? ⟨a, 0, none⟩ = some (.pointer (some ⟨q, 0, none⟩)) ∧ u.cell? ⟨a, 1, none⟩ = some (.int .i64 0) := fun u g => by
    have c4 : W.cell? ⟨b4, 0, none⟩ = some (.pointer (some ⟨l, 0, none⟩)) := by simp [World.cell?, hR.h4]
    have c3 : W.cell? ⟨b3, 0, none⟩ = some (.pointer (some ⟨a, 0, none⟩)) := by simp [World.cell?, hR.h3]
    have c5 : W.cell? ⟨b5, 0, none⟩ = some (.int .i64 0) := by simp [World.cell?, hR.h5]
    obtain ⟨a0, a1, -, -⟩ := cell4 hR.ha
    exact ⟨g.cell' c4 (fun e => e.elim n4 m4), g.cell' c3 (fun e => e.elim n3 m3), g.cell' c5 (fun e => e.elim n5 m5), g.cell' a0 (fun e => e.elim na ma), g.cell' a1 (fun e => e.elim na ma)⟩
  have HS0 := hidM (hS W.drew (gr_drew.mono fun _ _ h => h.elim))
  have HC := hidM (value75_0 l left W.drew q r rc nu ao ca L N v2 n2 c2 (h.gr gr_drew) hR.hl hlq hlr hlv h16 hle hn0 hn hc h0 h1)
  have HT : Hid (∀ w1, Rd1 W.drew w1 l left → (w1.cell? ⟨b4, 0, none⟩ = some (.pointer (some ⟨l, 0, none⟩)) ∧ w1.cell? ⟨b3, 0, none⟩ = some (.pointer (some ⟨a, 0, none⟩)) ∧ w1.cell? ⟨b5, 0, none⟩ = some (.int .i64 0) ∧ w1.cell? ⟨a, 0, none⟩ = some (.pointer (some ⟨q, 0, none⟩)) ∧ w1.cell? ⟨a, 1, none⟩ = some (.int .i64 0)) ∧ w1.heap[b8]? = some (.cells #[.bool false, .int .i64 0, .string ⟨#[]⟩, .slice none 0 0] 98) ∧ (vlU w1 b8 false 3).heap[b8]? = some (.cells #[.bool false, .int .i64 3, .string ⟨#[]⟩, .slice none 0 0] 98) ∧ Keeps W (vlU w1 b8 false 3) (fun z => z = l ∨ z = b8) ∧ (vlU w1 b8 false 3).heap[l]? = some (.cells #[.pointer none, .int .i64 ((left - 16 : Nat) : Int)] 166)) := fun w1 ⟨k1, hl1⟩ => by
    have k0 : Keeps W w1 (fun z => z = l ∨ z = b8) := Keeps.trans (gr_drew.mono fun _ _ h => h.elim) k1 (fun _ _ h => .inl h)
    have hb8 : w1.heap[b8]? = some (.cells #[.bool false, .int .i64 0, .string ⟨#[]⟩, .slice none 0 0] 98) := (k1.block b8 (lt_of_heap (W := W) hR.h8) n8).trans hR.h8
    exact ⟨hS w1 k0, hb8, vl_blk hb8, k0.trans (vl_kp _ _ _ _) (fun _ _ h => .inr h), ((vl_kp _ _ _ _).block l (lt_of_heap hl1) (Ne.symm n8)).trans hl1⟩
  have HSS := hidM hS
  clear hR n4 n3 n5 na n8 m4 m3 m5 ma hS h h0 h1
  go_enter Tryz.func180, Tryz.ntmps180
  go_wp2_with fail
  go_region_held3 (fun u => u.cell? ⟨b4, 0, none⟩ = some (.pointer (some ⟨l, 0, none⟩)) ∧ u.cell? ⟨b3, 0, none⟩ = some (.pointer (some ⟨a, 0, none⟩)) ∧ u.cell? ⟨b5, 0, none⟩ = some (.int .i64 0) ∧ u.cell? ⟨a, 0, none⟩ = some (.pointer (some ⟨q, 0, none⟩)) ∧ u.cell? ⟨a, 1, none⟩ = some (.int .i64 0)) (first | with_reducible exact HS0.out | with_reducible exact HS1.out | with_reducible exact HSU.out) ((go_at_call 181; refine HC.out.mono ?_; rintro e w1 ⟨rfl, k1⟩; obtain ⟨hs1, hb8, hu3, hk3, hl3⟩ := HT.out w1 k1; have HS1 := hidM hs1; obtain ⟨U, hU⟩ := ex (vlU w1 b8 false 3); rw [hU] at hu3 hk3 hl3; have HSU := hidM (HSS.out U hk3); have HE := hidM (And.intro hk3 (And.intro hl3 hu3)); simp only [vlU, setAll] at hU; obtain ⟨y0, y1, y2, y3⟩ := cell4 hb8; have x0 := frz hb8 0; have x1 := frz hb8 1; have x2 := frz hb8 2; have x3 := frz hb8 3; clear k1 hs1 hb8 hu3 hk3 hl3))
  go_wp2_with fail
  go_end0
  exact ⟨rfl, HE.out⟩
theorem read74_1 (b4 b3 b5 b8 a l left : Nat) (W : World) (q r rc : Nat) (nu : Bool) (ao : Option Addr) (ca L N : Nat) (v2 n2 c2 : Nat) (hR : RdC W b4 b3 b5 b8 l a q 1 left) (h : NdA W q r rc nu ao ca L N v2 n2 c2) (hlq : q ≠ l) (hlr : r ≠ l) (hlv : v2 ≠ l) (h16 : 16 ≤ left) (hle : left ≤ 4194304) (hn0 : 2 ≤ n2) (hn : n2 ≤ 100000) (hc : n2 ≤ c2) (h0 : W.cell? ⟨v2, 0, none⟩ = some (.int .u8 3)) (h1 : W.cell? ⟨v2, 1, none⟩ = some (.int .u8 4)) :
    Calls Tryz.prog 180 #[.pointer (some ⟨b4, 0, none⟩), .pointer (some ⟨b3, 0, none⟩), .pointer (some ⟨b5, 0, none⟩), .pointer (some ⟨b8, 0, none⟩)] W fun e w' => e = .returned (.tuple #[]) ∧ Keeps W w' (fun z => z = l ∨ z = b8) ∧ w'.heap[l]? = some (.cells #[.pointer none, .int .i64 ((left - 16 : Nat) : Int)] 166) ∧ w'.heap[b8]? = some (.cells #[.bool false, .int .i64 4, .string ⟨#[]⟩, .slice none 0 0] 98) := by
  have n4 := blk_ne hR.h4 hR.hl (by decide)
  have n3 := blk_ne hR.h3 hR.hl (by decide)
  have n5 := blk_ne hR.h5 hR.hl (by decide)
  have na := blk_ne hR.ha hR.hl (by decide)
  have n8 := blk_ne hR.h8 hR.hl (by decide)
  have m4 := blk_ne hR.h4 hR.h8 (by decide)
  have m3 := blk_ne hR.h3 hR.h8 (by decide)
  have m5 := blk_ne hR.h5 hR.h8 (by decide)
  have ma := blk_ne hR.ha hR.h8 (by decide)
  have hS : ∀ u, Keeps W u (fun z => z = l ∨ z = b8) → u.cell? ⟨b4, 0, none⟩ = some (.pointer (some ⟨l, 0, none⟩)) ∧ u.cell? ⟨b3, 0, none⟩ = some (.pointer (some ⟨a, 0, none⟩)) ∧ u.cell? ⟨b5, 0, none⟩ = some (.int .i64 1) ∧ u.cell? ⟨a, 0, none⟩ = some (.pointer (some ⟨q, 0, none⟩)) ∧ u.cell? ⟨a, 1, none⟩ = some (.int .i64 0) := fun u g => by
    have c4 : W.cell? ⟨b4, 0, none⟩ = some (.pointer (some ⟨l, 0, none⟩)) := by simp [World.cell?, hR.h4]
    have c3 : W.cell? ⟨b3, 0, none⟩ = some (.pointer (some ⟨a, 0, none⟩)) := by simp [World.cell?, hR.h3]
    have c5 : W.cell? ⟨b5, 0, none⟩ = some (.int .i64 1) := by simp [World.cell?, hR.h5]
    obtain ⟨a0, a1, -, -⟩ := cell4 hR.ha
    exact ⟨g.cell' c4 (fun e => e.elim n4 m4), g.cell' c3 (fun e => e.elim n3 m3), g.cell' c5 (fun e => e.elim n5 m5), g.cell' a0 (fun e => e.elim na ma), g.cell' a1 (fun e => e.elim na ma)⟩
  have HS0 := hidM (hS W.drew (gr_drew.mono fun _ _ h => h.elim))
  have HC := hidM (value75_1 l left W.drew q r rc nu ao ca L N v2 n2 c2 (h.gr gr_drew) hR.hl hlq hlr hlv h16 hle hn0 hn hc h0 h1)
  have HT : Hid (∀ w1, Rd1 W.drew w1 l left → (w1.cell? ⟨b4, 0, none⟩ = some (.pointer (some ⟨l, 0, none⟩)) ∧ w1.cell? ⟨b3, 0, none⟩ = some (.pointer (some ⟨a, 0, none⟩)) ∧ w1.cell? ⟨b5, 0, none⟩ = some (.int .i64 1) ∧ w1.cell? ⟨a, 0, none⟩ = some (.pointer (some ⟨q, 0, none⟩)) ∧ w1.cell? ⟨a, 1, none⟩ = some (.int .i64 0)) ∧ w1.heap[b8]? = some (.cells #[.bool false, .int .i64 0, .string ⟨#[]⟩, .slice none 0 0] 98) ∧ (vlU w1 b8 false 4).heap[b8]? = some (.cells #[.bool false, .int .i64 4, .string ⟨#[]⟩, .slice none 0 0] 98) ∧ Keeps W (vlU w1 b8 false 4) (fun z => z = l ∨ z = b8) ∧ (vlU w1 b8 false 4).heap[l]? = some (.cells #[.pointer none, .int .i64 ((left - 16 : Nat) : Int)] 166)) := fun w1 ⟨k1, hl1⟩ => by
    have k0 : Keeps W w1 (fun z => z = l ∨ z = b8) := Keeps.trans (gr_drew.mono fun _ _ h => h.elim) k1 (fun _ _ h => .inl h)
    have hb8 : w1.heap[b8]? = some (.cells #[.bool false, .int .i64 0, .string ⟨#[]⟩, .slice none 0 0] 98) := (k1.block b8 (lt_of_heap (W := W) hR.h8) n8).trans hR.h8
    exact ⟨hS w1 k0, hb8, vl_blk hb8, k0.trans (vl_kp _ _ _ _) (fun _ _ h => .inr h), ((vl_kp _ _ _ _).block l (lt_of_heap hl1) (Ne.symm n8)).trans hl1⟩
  have HSS := hidM hS
  clear hR n4 n3 n5 na n8 m4 m3 m5 ma hS h h0 h1
  go_enter Tryz.func180, Tryz.ntmps180
  go_wp2_with fail
  go_region_held3 (fun u => u.cell? ⟨b4, 0, none⟩ = some (.pointer (some ⟨l, 0, none⟩)) ∧ u.cell? ⟨b3, 0, none⟩ = some (.pointer (some ⟨a, 0, none⟩)) ∧ u.cell? ⟨b5, 0, none⟩ = some (.int .i64 1) ∧ u.cell? ⟨a, 0, none⟩ = some (.pointer (some ⟨q, 0, none⟩)) ∧ u.cell? ⟨a, 1, none⟩ = some (.int .i64 0)) (first | with_reducible exact HS0.out | with_reducible exact HS1.out | with_reducible exact HSU.out) ((go_at_call 181; refine HC.out.mono ?_; rintro e w1 ⟨rfl, k1⟩; obtain ⟨hs1, hb8, hu3, hk3, hl3⟩ := HT.out w1 k1; have HS1 := hidM hs1; obtain ⟨U, hU⟩ := ex (vlU w1 b8 false 4); rw [hU] at hu3 hk3 hl3; have HSU := hidM (HSS.out U hk3); have HE := hidM (And.intro hk3 (And.intro hl3 hu3)); simp only [vlU, setAll] at hU; obtain ⟨y0, y1, y2, y3⟩ := cell4 hb8; have x0 := frz hb8 0; have x1 := frz hb8 1; have x2 := frz hb8 2; have x3 := frz hb8 3; clear k1 hs1 hb8 hu3 hk3 hl3))
  go_wp2_with fail
  go_end0
  exact ⟨rfl, HE.out⟩
theorem results_cell37t {fn : Func} {t u : Tmp} {tmps : Array Value} {g : Nat} {cs : Array Value} {w : World} (h : fn.results = #[.cell t 98, .tmp u]) (ht : tmps.getD t undef = .pointer (some ⟨g, 0, none⟩)) (hg : w.heap[g]? = some (.cells cs 98 (0, 0))) (hi : (Tryz.prog.info? 98).map (·.size) = some cs.size) :
    (results fn tmps).run Tryz.prog w = .ok (.tuple #[.agg cs, tmps.getD u undef]) w := by
  have hl := run_loadVar_row (P := Tryz.prog) w g 98 98 cs (0, 0) _ hg Tryz.underlying98 rfl hi
  unfold results
  rw [h]
  simp only [Array.mapM_eq_mapM_toList, List.mapM_cons, List.mapM_nil, ht]
  simp [asAddr, hl]
theorem look49 (a q : Nat) (W : World) (ha : W.heap[a]? = some (.cells #[.pointer (some ⟨q, 0, none⟩), .int .i64 0, .int .i64 2, .pointer none] 123)) : Calls Tryz.prog 120 #[.pointer (some ⟨a, 0, none⟩)] W fun e w' => e = .returned (.pointer (some ⟨W.heap.size, 0, none⟩)) ∧ w' = W.alloc (.cells #[.pointer none, .int .i64 4194304] 166) := by
  obtain ⟨a0, a1, a2, a3⟩ := cell4 ha
  clear ha
  go_enter Tryz.func120, Tryz.ntmps120
  go_wp2_with fail
  go_ret
  exact ⟨rfl, rfl⟩
theorem all35 (a : Nat) (W : World) : Calls Tryz.prog 78 #[.pointer (some ⟨a, 0, none⟩)] W fun e w' => e = .returned (.func (.func 119) #[] #[.pointer (some ⟨W.heap.size, 0, none⟩)]) ∧ w' = W.alloc (.cells #[.pointer (some ⟨a, 0, none⟩)] 89) := by
  have hmf : ∀ (fn : Fn) (first cap : Array Value) (w : World), (Instr.makeFunc fn first cap).run Tryz.prog w = .ok (.func fn first cap) w := fun _ _ _ _ => rfl
  go_enter Tryz.func78, Tryz.ntmps78
  go_wp2_with fail
  go_ret
  exact ⟨rfl, rfl⟩
theorem read50_0 (a l left : Nat) (W : World) (q r rc : Nat) (nu : Bool) (ao : Option Addr) (ca L N : Nat) (v2 n2 c2 : Nat) (ha : W.heap[a]? = some (.cells #[.pointer (some ⟨q, 0, none⟩), .int .i64 0, .int .i64 2, .pointer none] 123)) (h : NdA W q r rc nu ao ca L N v2 n2 c2) (hl : W.heap[l]? = some (.cells #[.pointer none, .int .i64 left] 166)) (hlq : q ≠ l) (hlr : r ≠ l) (hlv : v2 ≠ l) (h16 : 16 ≤ left) (hle : left ≤ 4194304) (hn0 : 2 ≤ n2) (hn : n2 ≤ 100000) (hc : n2 ≤ c2) (h0 : W.cell? ⟨v2, 0, none⟩ = some (.int .u8 3)) (h1 : W.cell? ⟨v2, 1, none⟩ = some (.int .u8 4)) :
    Calls Tryz.prog 121 #[.pointer (some ⟨a, 0, none⟩), .pointer (some ⟨l, 0, none⟩), .int .i64 0] W fun e w' => e = .returned (.tuple #[.agg #[.bool false, .int .i64 3, .string ⟨#[]⟩, .slice none 0 0], .int .i64 0]) ∧ Rd1 W w' l left := by
  have hmf : ∀ (fn : Fn) (first cap : Array Value) (w : World), (Instr.makeFunc fn first cap).run Tryz.prog w = .ok (.func fn first cap) w := fun _ _ _ _ => rfl
  obtain ⟨A0, hA0⟩ := ex (W.alloc (.cells #[.pointer (some ⟨a, 0, none⟩)] 89))
  have g0 := gr_al hA0
  have b0 := al_new hA0
  obtain ⟨A1, hA1⟩ := ex (A0.alloc (.cells #[.pointer (some ⟨l, 0, none⟩)] 171))
  have g1 := gr_al hA1
  have b1 := al_new hA1
  obtain ⟨A2, hA2⟩ := ex (A1.alloc (.cells #[.int .i64 0] 3))
  have g2 := gr_al hA2
  have b2 : A2.heap[A1.heap.size]? = some (.cells #[.int .i64 0] 3) := by rw [← hA2]; exact heap_alloc_new A1 _
  obtain ⟨A3, hA3⟩ := ex (A2.alloc (.cells #[.bool false, .int .i64 0, .string ⟨#[]⟩, .slice none 0 0] 98))
  have g3 := gr_al hA3
  have b3 := al_new hA3
  have z3 : A3.heap.size = A2.heap.size + 1 := by rw [← hA3]; simp
  obtain ⟨A4, hA4⟩ := ex (A3.alloc (.cells #[.bool false, .int .i64 0, .string ⟨#[]⟩, .slice none 0 0] 98))
  have g4 := gr_al hA4
  have b4 := al_new hA4
  have b3' := (g4.block _ (lt_of_heap b3) id).trans b3
  have g34 := g3.tr g4
  have g24 := g2.tr g34
  have g14 := g1.tr g24
  have gW : Gr W A4 := g0.tr g14
  have hRC : RdC A4 A0.heap.size W.heap.size A1.heap.size A3.heap.size l a q 0 left := ⟨(g24.block _ (lt_of_heap b1) id).trans b1, (g14.block _ (lt_of_heap b0) id).trans b0, (g34.block _ (lt_of_heap b2) id).trans b2, b4, (gW.block _ (lt_of_heap ha) id).trans ha, (gW.block _ (lt_of_heap hl) id).trans hl⟩
  have hll := lt_of_heap hl
  have s0 := g0.size
  have s1 := g1.size
  have s2 := g2.size
  have HC := hidM (caught73 A0.heap.size W.heap.size A1.heap.size A3.heap.size (fun z => z = l ∨ z = A3.heap.size) (fun w => w.heap[l]? = some (.cells #[.pointer none, .int .i64 ((left - 16 : Nat) : Int)] 166) ∧ w.heap[A3.heap.size]? = some (.cells #[.bool false, .int .i64 3, .string ⟨#[]⟩, .slice none 0 0] 98)) A4 (fun e => by have := lt_of_heap b4; have := gW.size; rcases e with e | e <;> omega)
    (fun u v hu g => ⟨(g.block _ (lt_of_heap hu.1) id).trans hu.1, (g.block _ (lt_of_heap hu.2) id).trans hu.2⟩)
    (fun A gA => by
      have gWA := gW.tr gA
      exact read74_0 A0.heap.size W.heap.size A1.heap.size A3.heap.size a l left A q r rc nu ao ca L N v2 n2 c2 ⟨(gA.block _ (lt_of_heap hRC.h4) id).trans hRC.h4, (gA.block _ (lt_of_heap hRC.h3) id).trans hRC.h3, (gA.block _ (lt_of_heap hRC.h5) id).trans hRC.h5, (gA.block _ (lt_of_heap hRC.h8) id).trans hRC.h8, (gA.block _ (lt_of_heap hRC.ha) id).trans hRC.ha, (gA.block _ (lt_of_heap hRC.hl) id).trans hRC.hl⟩ (h.gr gWA) hlq hlr hlv h16 hle hn0 hn hc (gWA.cell' h0 id) (gWA.cell' h1 id)))
  have HT : Hid (∀ w2, Keeps A4 w2 (fun z => z = l ∨ z = A3.heap.size) → (w2.heap[l]? = some (.cells #[.pointer none, .int .i64 ((left - 16 : Nat) : Int)] 166) ∧ w2.heap[A3.heap.size]? = some (.cells #[.bool false, .int .i64 3, .string ⟨#[]⟩, .slice none 0 0] 98)) → w2.heap[A2.heap.size]? = some (.cells #[.bool false, .int .i64 0, .string ⟨#[]⟩, .slice none 0 0] 98) ∧ (vlU w2 A2.heap.size false 3).heap[A2.heap.size]? = some (.cells #[.bool false, .int .i64 3, .string ⟨#[]⟩, .slice none 0 0] 98) ∧ Rd1 W (vlU w2 A2.heap.size false 3) l left) := fun w2 k2 ⟨e1, e2⟩ => by
    have hb := (k2.block _ (lt_of_heap b3') (fun e => by rcases e with e | e <;> omega)).trans b3'
    refine ⟨hb, vl_blk hb, ?_, ((vl_kp _ _ _ _).block l (lt_of_heap e1) (fun e => by have e' : l = A2.heap.size := e; omega)).trans e1⟩
    exact ((gW.mono fun _ _ h => h.elim).trans k2 (fun j hj e => e.elim id (fun e => by omega))).trans (vl_kp _ _ _ _) (fun j hj (e : j = A2.heap.size) => by omega)
  clear g0 b0 g1 b1 g2 b2 g3 b3 z3 g4 b4 b3' g34 g24 g14 gW hRC hll s0 s1 s2 ha h hl h0 h1
  go_enter Tryz.func121, Tryz.ntmps121
  go_wp2_with (go_at_call 179; refine HC.out.mono ?_; rintro e w2 ⟨rfl, k2, e2⟩; obtain ⟨hr3, hu3, hq3⟩ := HT.out w2 k2 e2; obtain ⟨U, hU⟩ := ex (vlU w2 A2.heap.size false 3); rw [hU] at hu3 hq3; simp only [vlU, setAll] at hU; obtain ⟨y0, y1, y2, y3⟩ := cell4 hr3; have x0 := frz hr3 0; have x1 := frz hr3 1; have x2 := frz hr3 2; have x3 := frz hr3 3; obtain ⟨f0, f1, f2, f3⟩ := cell4 e2.2; have HU3 := hidM hu3; have HQ3 := hidM hq3; clear hr3 hu3 hq3 k2 e2 hA0 hA1 hA2 hA3 hA4)
  (try simp only [Exit.inBlock, Exit.then])
  refine bodyPost_ret (results_cell37t rfl rfl (by with_reducible exact HU3.out) (by kernel_rfl)) rfl ?_
  exact ⟨rfl, HQ3.out⟩
theorem read50_1 (a l left : Nat) (W : World) (q r rc : Nat) (nu : Bool) (ao : Option Addr) (ca L N : Nat) (v2 n2 c2 : Nat) (ha : W.heap[a]? = some (.cells #[.pointer (some ⟨q, 0, none⟩), .int .i64 0, .int .i64 2, .pointer none] 123)) (h : NdA W q r rc nu ao ca L N v2 n2 c2) (hl : W.heap[l]? = some (.cells #[.pointer none, .int .i64 left] 166)) (hlq : q ≠ l) (hlr : r ≠ l) (hlv : v2 ≠ l) (h16 : 16 ≤ left) (hle : left ≤ 4194304) (hn0 : 2 ≤ n2) (hn : n2 ≤ 100000) (hc : n2 ≤ c2) (h0 : W.cell? ⟨v2, 0, none⟩ = some (.int .u8 3)) (h1 : W.cell? ⟨v2, 1, none⟩ = some (.int .u8 4)) :
    Calls Tryz.prog 121 #[.pointer (some ⟨a, 0, none⟩), .pointer (some ⟨l, 0, none⟩), .int .i64 1] W fun e w' => e = .returned (.tuple #[.agg #[.bool false, .int .i64 4, .string ⟨#[]⟩, .slice none 0 0], .int .i64 0]) ∧ Rd1 W w' l left := by
  have hmf : ∀ (fn : Fn) (first cap : Array Value) (w : World), (Instr.makeFunc fn first cap).run Tryz.prog w = .ok (.func fn first cap) w := fun _ _ _ _ => rfl
  obtain ⟨A0, hA0⟩ := ex (W.alloc (.cells #[.pointer (some ⟨a, 0, none⟩)] 89))
  have g0 := gr_al hA0
  have b0 := al_new hA0
  obtain ⟨A1, hA1⟩ := ex (A0.alloc (.cells #[.pointer (some ⟨l, 0, none⟩)] 171))
  have g1 := gr_al hA1
  have b1 := al_new hA1
  obtain ⟨A2, hA2⟩ := ex (A1.alloc (.cells #[.int .i64 1] 3))
  have g2 := gr_al hA2
  have b2 : A2.heap[A1.heap.size]? = some (.cells #[.int .i64 1] 3) := by rw [← hA2]; exact heap_alloc_new A1 _
  obtain ⟨A3, hA3⟩ := ex (A2.alloc (.cells #[.bool false, .int .i64 0, .string ⟨#[]⟩, .slice none 0 0] 98))
  have g3 := gr_al hA3
  have b3 := al_new hA3
  have z3 : A3.heap.size = A2.heap.size + 1 := by rw [← hA3]; simp
  obtain ⟨A4, hA4⟩ := ex (A3.alloc (.cells #[.bool false, .int .i64 0, .string ⟨#[]⟩, .slice none 0 0] 98))
  have g4 := gr_al hA4
  have b4 := al_new hA4
  have b3' := (g4.block _ (lt_of_heap b3) id).trans b3
  have g34 := g3.tr g4
  have g24 := g2.tr g34
  have g14 := g1.tr g24
  have gW : Gr W A4 := g0.tr g14
  have hRC : RdC A4 A0.heap.size W.heap.size A1.heap.size A3.heap.size l a q 1 left := ⟨(g24.block _ (lt_of_heap b1) id).trans b1, (g14.block _ (lt_of_heap b0) id).trans b0, (g34.block _ (lt_of_heap b2) id).trans b2, b4, (gW.block _ (lt_of_heap ha) id).trans ha, (gW.block _ (lt_of_heap hl) id).trans hl⟩
  have hll := lt_of_heap hl
  have s0 := g0.size
  have s1 := g1.size
  have s2 := g2.size
  have HC := hidM (caught73 A0.heap.size W.heap.size A1.heap.size A3.heap.size (fun z => z = l ∨ z = A3.heap.size) (fun w => w.heap[l]? = some (.cells #[.pointer none, .int .i64 ((left - 16 : Nat) : Int)] 166) ∧ w.heap[A3.heap.size]? = some (.cells #[.bool false, .int .i64 4, .string ⟨#[]⟩, .slice none 0 0] 98)) A4 (fun e => by have := lt_of_heap b4; have := gW.size; rcases e with e | e <;> omega)
    (fun u v hu g => ⟨(g.block _ (lt_of_heap hu.1) id).trans hu.1, (g.block _ (lt_of_heap hu.2) id).trans hu.2⟩)
    (fun A gA => by
      have gWA := gW.tr gA
      exact read74_1 A0.heap.size W.heap.size A1.heap.size A3.heap.size a l left A q r rc nu ao ca L N v2 n2 c2 ⟨(gA.block _ (lt_of_heap hRC.h4) id).trans hRC.h4, (gA.block _ (lt_of_heap hRC.h3) id).trans hRC.h3, (gA.block _ (lt_of_heap hRC.h5) id).trans hRC.h5, (gA.block _ (lt_of_heap hRC.h8) id).trans hRC.h8, (gA.block _ (lt_of_heap hRC.ha) id).trans hRC.ha, (gA.block _ (lt_of_heap hRC.hl) id).trans hRC.hl⟩ (h.gr gWA) hlq hlr hlv h16 hle hn0 hn hc (gWA.cell' h0 id) (gWA.cell' h1 id)))
  have HT : Hid (∀ w2, Keeps A4 w2 (fun z => z = l ∨ z = A3.heap.size) → (w2.heap[l]? = some (.cells #[.pointer none, .int .i64 ((left - 16 : Nat) : Int)] 166) ∧ w2.heap[A3.heap.size]? = some (.cells #[.bool false, .int .i64 4, .string ⟨#[]⟩, .slice none 0 0] 98)) → w2.heap[A2.heap.size]? = some (.cells #[.bool false, .int .i64 0, .string ⟨#[]⟩, .slice none 0 0] 98) ∧ (vlU w2 A2.heap.size false 4).heap[A2.heap.size]? = some (.cells #[.bool false, .int .i64 4, .string ⟨#[]⟩, .slice none 0 0] 98) ∧ Rd1 W (vlU w2 A2.heap.size false 4) l left) := fun w2 k2 ⟨e1, e2⟩ => by
    have hb := (k2.block _ (lt_of_heap b3') (fun e => by rcases e with e | e <;> omega)).trans b3'
    refine ⟨hb, vl_blk hb, ?_, ((vl_kp _ _ _ _).block l (lt_of_heap e1) (fun e => by have e' : l = A2.heap.size := e; omega)).trans e1⟩
    exact ((gW.mono fun _ _ h => h.elim).trans k2 (fun j hj e => e.elim id (fun e => by omega))).trans (vl_kp _ _ _ _) (fun j hj (e : j = A2.heap.size) => by omega)
  clear g0 b0 g1 b1 g2 b2 g3 b3 z3 g4 b4 b3' g34 g24 g14 gW hRC hll s0 s1 s2 ha h hl h0 h1
  go_enter Tryz.func121, Tryz.ntmps121
  go_wp2_with (go_at_call 179; refine HC.out.mono ?_; rintro e w2 ⟨rfl, k2, e2⟩; obtain ⟨hr3, hu3, hq3⟩ := HT.out w2 k2 e2; obtain ⟨U, hU⟩ := ex (vlU w2 A2.heap.size false 4); rw [hU] at hu3 hq3; simp only [vlU, setAll] at hU; obtain ⟨y0, y1, y2, y3⟩ := cell4 hr3; have x0 := frz hr3 0; have x1 := frz hr3 1; have x2 := frz hr3 2; have x3 := frz hr3 3; obtain ⟨f0, f1, f2, f3⟩ := cell4 e2.2; have HU3 := hidM hu3; have HQ3 := hidM hq3; clear hr3 hu3 hq3 k2 e2 hA0 hA1 hA2 hA3 hA4)
  (try simp only [Exit.inBlock, Exit.then])
  refine bodyPost_ret (results_cell37t rfl rfl (by with_reducible exact HU3.out) (by kernel_rfl)) rfl ?_
  exact ⟨rfl, HQ3.out⟩
structure ArrC (W : World) (q r rc : Nat) (nu : Bool) (ao : Option Addr) (ca L N : Nat) (v2 n2 c2 : Nat) (ab a : Nat) : Prop where
  nd : NdA W q r rc nu ao ca L N v2 n2 c2
  hab : W.heap[ab]? = some (.cells #[.pointer (some ⟨a, 0, none⟩)] 89)
  ha : W.heap[a]? = some (.cells #[.pointer (some ⟨q, 0, none⟩), .int .i64 0, .int .i64 2, .pointer none] 123)
  h0 : W.cell? ⟨v2, 0, none⟩ = some (.int .u8 3)
  h1 : W.cell? ⟨v2, 1, none⟩ = some (.int .u8 4)
  nn : 2 ≤ n2 ∧ n2 ≤ 100000 ∧ n2 ≤ c2
theorem ArrC.kp {W u : World} {q r rc : Nat} {nu : Bool} {ao : Option Addr} {ca L N : Nat} {v2 n2 c2 : Nat} {ab a : Nat} {S : Nat → Prop} (h : ArrC W q r rc nu ao ca L N v2 n2 c2 ab a) (k : KpOf S W u) (s0 : S ab) (s1 : S a) (s2 : S q) (s3 : S r) (s5 : S v2) : ArrC u q r rc nu ao ca L N v2 n2 c2 ab a := by
  have hc : ∀ (p : Addr) (v : Value), S p.block → W.cell? p = some v → u.cell? p = some v := fun p v hs hp => (World.cell?_of_block (w := W) (k p.block hs)).trans hp
  exact ⟨⟨(k q s2).trans h.nd.nd, hc _ _ s3 h.nd.r0, hc _ _ s3 h.nd.r1, hc _ _ s3 h.nd.r2, hc _ _ s3 h.nd.r3, hc _ _ s3 h.nd.r4, hc _ _ s3 h.nd.r5⟩, (k ab s0).trans h.hab, (k a s1).trans h.ha, hc _ _ s5 h.h0, hc _ _ s5 h.h1, h.nn⟩
def valN (x : Nat) : Array Value := if x = 0 then #[.bool false, .int .i64 3, .string ⟨#[]⟩, .slice none 0 0] else #[.bool false, .int .i64 4, .string ⟨#[]⟩, .slice none 0 0]
def encV (x : Nat) : Array Value := #[.int .i64 x, .agg (valN x)]
theorem read50 (k a l left : Nat) (W : World) (q r rc : Nat) (nu : Bool) (ao : Option Addr) (ca L N : Nat) (v2 n2 c2 : Nat) (ab : Nat) (hk : k < 2) (hC : ArrC W q r rc nu ao ca L N v2 n2 c2 ab a) (hl : W.heap[l]? = some (.cells #[.pointer none, .int .i64 left] 166)) (hlq : q ≠ l) (hlr : r ≠ l) (hlv : v2 ≠ l) (h16 : 16 ≤ left) (hle : left ≤ 4194304) :
    Calls Tryz.prog 121 #[.pointer (some ⟨a, 0, none⟩), .pointer (some ⟨l, 0, none⟩), .int .i64 k] W fun e w' => e = .returned (.tuple #[.agg (valN k), .int .i64 0]) ∧ Rd1 W w' l left := by
  obtain ⟨n1', n2', n3'⟩ := hC.nn
  have : k = 0 ∨ k = 1 := by omega
  rcases this with rfl | rfl
  · exact read50_0 a l left W q r rc nu ao ca L N v2 n2 c2 hC.ha hC.nd hl hlq hlr hlv h16 hle n1' n2' n3' hC.h0 hC.h1
  exact read50_1 a l left W q r rc nu ao ca L N v2 n2 c2 hC.ha hC.nd hl hlq hlr hlv h16 hle n1' n2' n3' hC.h0 hC.h1
theorem valN_form (x : Nat) : ∃ (vn : Bool) (y : Int), valN x = #[.bool vn, .int .i64 y, .string ⟨#[]⟩, .slice none 0 0] := by
  unfold valN
  split
  · exact ⟨_, _, rfl⟩
  exact ⟨_, _, rfl⟩
def AllI (J : (Nat → Prop) → List Nat → World → Prop) (S : Nat → Prop) (l : Nat) (w0 : World) (k : Nat) (wr : World) : Prop :=
  J (fun b => b = l) (List.range k) wr ∧ wr.heap[l]? = some (.cells #[.pointer none, .int .i64 ((4194304 - 16 * k : Nat) : Int)] 166) ∧ KpOf S w0 wr
theorem all48_seq (n : Nat) (w : World) (q r rc : Nat) (nu : Bool) (ao : Option Addr) (ca L N : Nat) (v2 n2 c2 : Nat) (ab a : Nat) (S : Nat → Prop) (hS : ∀ b, S b → b < w.heap.size) (hC : ArrC w q r rc nu ao ca L N v2 n2 c2 ab a) (s0 : S ab) (s1 : S a) (s2 : S q) (s3 : S r) (s5 : S v2) :
    SeqOwn n Tryz.prog 119 #[.pointer (some ⟨ab, 0, none⟩)] encV (fun _ pre x _ => pre = List.range x ∧ x < 2) S (fun xs => xs = [0, 1]) (fun _ => True) w := by
  intro lp J Jx W hW hJ hJx hY h0
  have hSW : ∀ b, S b → b < W.heap.size := fun b h => Nat.lt_of_lt_of_le (hS b h) hW.size
  have hCW : ArrC W q r rc nu ao ca L N v2 n2 c2 ab a := hC.kp (S := S) (fun b h => hW.block b (hS b h) id) s0 s1 s2 s3 s5
  obtain ⟨W1, hW1⟩ := ex (W.alloc (.cells #[.pointer none, .int .i64 4194304] 166))
  have g1 := gr_al hW1
  have hl1 := al_new hW1
  obtain ⟨l, hl⟩ := ex (W.heap.size)
  have HLk : Hid (Calls Tryz.prog 120 #[.pointer (some ⟨a, 0, none⟩)] W fun e w' => e = .returned (.pointer (some ⟨l, 0, none⟩)) ∧ w' = W1) := by
    have h := look49 a q W hCW.ha
    rw [hW1, hl] at h
    exact h
  rw [hl] at hl1
  have HI0 : Hid (AllI J S l W 0 W1) := ⟨hJ _ _ _ _ _ h0 (g1.mono fun _ _ h => h.elim) (fun k e => by have e' : k = l := e; subst e'; exact ⟨lt_of_heap hl1, .inr (by omega)⟩), hl1, fun b h => g1.block b (hSW b h) id⟩
  have c0 : W.cell? ⟨ab, 0, none⟩ = some (.pointer (some ⟨a, 0, none⟩)) := by simp [World.cell?, hCW.hab]
  have hSl : ∀ b, S b → b ≠ l := fun b h => by have := hSW b h; omega
  have HA : Hid (∀ wr, KpOf S W wr → wr.cell? ⟨ab, 0, none⟩ = some (.pointer (some ⟨a, 0, none⟩)) ∧ wr.cell? ⟨a, 2, none⟩ = some (.int .i64 2)) := fun wr k => by
    have h := hCW.kp k s0 s1 s2 s3 s5
    exact ⟨by simp [World.cell?, h.hab], (cell4 h.ha).2.2.1⟩
  have HR : Hid (∀ k wr, k < 2 → AllI J S l W k wr → Calls Tryz.prog 121 #[.pointer (some ⟨a, 0, none⟩), .pointer (some ⟨l, 0, none⟩), .int .i64 k] wr fun e w' => e = .returned (.tuple #[.agg (valN k), .int .i64 0]) ∧ Rd1 wr w' l (4194304 - 16 * k)) := fun k wr hk hI =>
    read50 k a l (4194304 - 16 * k) wr q r rc nu ao ca L N v2 n2 c2 ab hk (hCW.kp hI.2.2 s0 s1 s2 s3 s5) hI.2.1 (hSl _ s2) (hSl _ s3) (hSl _ s5) (by omega) (by omega)
  have HYY : Hid (∀ k wr w2 V, k < 2 → AllI J S l W k wr → Rd1 wr w2 l (4194304 - 16 * k) → w2.alloc (.cells (valN k) 98) = V → V.heap[w2.heap.size]? = some (.cells (valN k) 98) ∧ YieldAt Fence.wide (n - 1) Tryz.prog lp (encV k) V fun e W' => (e = .returned (.bool true) ∧ AllI J S l W (k + 1) W') ∨ (e = .returned (.bool false) ∧ Jx (List.range k ++ [k]) W')) := fun k wr w2 V hk hI hR hV => by
    have gV := gr_al hV
    have hJV : J (fun b => b = l) (List.range k) V := by
      refine hJ _ _ _ _ _ hI.1 (hR.1.tr (gV.mono fun _ _ h => h.elim)) (fun k' e => ⟨?_, .inl e⟩)
      have e' : k' = l := e
      subst e'
      exact Nat.lt_of_lt_of_le (lt_of_heap hR.2) gV.size
    refine ⟨by rw [← hV]; exact heap_alloc_new w2 _, (hY _ _ k V hJV ⟨rfl, hk⟩).mono ?_⟩
    rintro e W' (⟨rfl, hj, hk'⟩ | h)
    · refine .inl ⟨rfl, ?_, ?_, ?_⟩
      · rw [List.range_succ]; exact hj
      · rw [hk' l (.inr rfl), gV.block l (lt_of_heap hR.2) id, hR.2, show 4194304 - 16 * k - 16 = 4194304 - 16 * (k + 1) by omega]
      intro b hb
      have hbw : b < wr.heap.size := by
        have h1 := hI.2.2 b hb
        have h2 := hSW b hb
        have h3 : wr.heap[b]? ≠ none := by rw [h1]; simp; exact h2
        simpa using h3
      rw [hk' b (.inl hb), gV.block b (Nat.lt_of_lt_of_le hbw hR.1.size) id, hR.1.block b hbw (hSl b hb)]
      exact hI.2.2 b hb
    exact .inr h
  clear hW hJ hJx hY h0 hC hCW g1 hl1 hSl hSW hl hS
  refine callsIn_of_wp Tryz.func119 rfl trivial ?_ rfl
  simp only [Tryz.ntmps119, List.size_toArray, List.length_cons, List.length_nil, Nat.reduceAdd, Nat.reduceSub, Array.replicate_succ, Array.replicate_zero, List.push_toArray, List.append_toArray, List.nil_append, List.cons_append]
  gi_wp2_with (refine ⟨trivial, fun h => (by cases h), ?_⟩; gi_at_call 120; refine CallsIn.mono (callsIn_wide.2 HLk.out) ?_; rintro e w1 ⟨rfl, rfl⟩; clear c0 hW1; obtain ⟨c0, c2⟩ := HA.out w1 HI0.out.2.2)
  gi_loopw [13] (fun p wr => ∃ k : Nat, k ≤ 2 ∧ p = .int .i64 (k : Int) ∧ Hid (AllI J S l W k wr)) (fun p _ => 2 - (intOf p).toNat)
  case atStart => exact ⟨0, Nat.zero_le _, rfl, HI0⟩
  case round =>
    clear HI0 c0 c2
    obtain ⟨k, hk, rfl, HI⟩ := hrel
    by_cases hlt : k < 2
    · have hRk := HR.out k wr hlt HI.out
      have hYk := HYY.out k wr
      obtain ⟨vn, y, hvy⟩ := valN_form k
      unfold encV at hYk
      rw [hvy] at hRk hYk
      have HRk := hidM hRk
      have HYk := hidM hYk
      obtain ⟨c0, c2⟩ := HA.out wr HI.out.2.2
      clear hRk hYk hvy
      gi_wp2_with (first
        | (refine ⟨trivial, fun h => (by cases h), ?_⟩; gi_at_call 121; refine CallsIn.mono (callsIn_wide.2 HRk.out) ?_; rintro e w2 ⟨rfl, hr2⟩; obtain ⟨V, hV⟩ := ex (w2.alloc (.cells #[.bool vn, .int .i64 y, .string ⟨#[]⟩, .slice none 0 0] 98)); obtain ⟨hv9, fn, tm, asn, bdy, hy, hR⟩ := HYk.out w2 V hlt HI.out hr2 hV; obtain ⟨y0, y1, y2, y3⟩ := cell4 hv9; have z2 := frz hv9 2; have z3 := frz hv9 3; have z0 := frz hv9 0; have z1 := frz hv9 1; have i0 := set_id (j := 2) (v := .string ⟨#[]⟩) hv9 rfl; have i1 := set_id (j := 3) (v := .slice none 0 0) hv9 rfl; clear hr2 hv9 c0 c2)
        | (refine ⟨fun h => (by cases h), hR.mono ?_⟩; refine Hid.out ?_))
      unfold Hid
      rintro e W3 (⟨rfl, hI⟩ | ⟨rfl, hx⟩)
      · have HI2 := hidM hI
        clear hI hR hy y0 y1 y2 y3 z0 z1 z2 z3 i0 i1 hV HI
        gi_wp2
        go_roundw
        case rel => exact ⟨k + 1, by omega, by go_num, HI2⟩
        case measure => simp [intOf]; omega
      have HX := hidM hx
      clear hx hR hy y0 y1 y2 y3 z0 z1 z2 z3 i0 i1 hV HI
      gi_wp2
      (try simp only [Exit.inBlock, Exit.then])
      refine bodyPost_ret (results_none rfl _ _ _) rfl ?_
      exact ⟨⟨_, rfl⟩, .inr ⟨_, trivial, HX.out⟩⟩
    obtain rfl : k = 2 := by omega
    have HE : Hid (J (fun b => b = l) [0, 1] wr) := HI.out.1
    clear HI
    gi_wp2
    go_end0
    exact ⟨⟨_, rfl⟩, .inl ⟨_, _, rfl, HE.out⟩⟩
end Go.Proofs.YtknnoiomdngmfaaGreatDoor.Kit
