import Derived.Test.YtegjpmodleigeaaGreatDoorCP
set_option maxRecDepth 100000
set_option maxHeartbeats 4000000
namespace Go.Proofs.YtegjpmodleigeaaGreatDoor.Kit
open Go.RowKit Go.Shelf Go.Deep
open Go.Proofs.YtegjpmodleigeaaGreatDoor.Kd (Ans AnsV cell5 cell2)
open Go.Proofs.YtegjpmodleigeaaGreatDoor.Ink (OwnRow)
set_option linter.unusedVariables false
set_option linter.unusedSimpArgs false
attribute [local go_sem] run_store_func
theorem caught103 (r : Addr) (w : World) : CallsD Tryz.prog 116 #[.pointer (some r)] .returning w fun e u' w' => e = .returned (.tuple #[]) ∧ u' = .returning ∧ w' = w := by
  refine callsD_of_wpS Tryz.func116 rfl fun c₀ cs hu => ?_
  apply wpS_seq
  apply wpS_region
  simp [wpOpsS, go_sem, recoverD, hu, Tryz.ntmps116, Exit.thenS]
  have HHU := hidM hu
  clear hu
  have htm : (#[Value.pointer (some r)] ++ (Array.replicate 9 undef).setIfInBounds 3 Value.nilIface : Array Value) = #[Value.pointer (some r), undef, undef, undef, .nilIface, undef, undef, undef, undef, undef] := by kernel_rfl
  rw [htm]
  clear htm
  refine wpS_of_wp ?_
  refine wp_hid ?_
  go_wp2_with fail
  unfold Hid
  have hu := HHU.out
  cases c₀
  simp_all [bodyPostS, results, Tryz.results116]
theorem caught73 (b0 b1 b2 b3 : Nat) (S : Nat → Prop) (R : World → Prop) (W : World) (hS : ¬ S W.heap.size) (hR : ∀ u v, R u → Gr u v → R v) (h : ∀ A, Gr W A → Calls Tryz.prog 94 #[.pointer (some ⟨b0, 0, none⟩), .pointer (some ⟨b1, 0, none⟩), .pointer (some ⟨b2, 0, none⟩), .pointer (some ⟨b3, 0, none⟩)] A fun e w' => e = .returned (.tuple #[]) ∧ Keeps A w' S ∧ R w') :
    Calls Tryz.prog 93 #[.func (.func 94) #[] #[.pointer (some ⟨b0, 0, none⟩), .pointer (some ⟨b1, 0, none⟩), .pointer (some ⟨b2, 0, none⟩), .pointer (some ⟨b3, 0, none⟩)]] W fun e w' => e = .returned (.int .i64 0) ∧ Keeps W w' S ∧ R w' := by
  have hmf : ∀ (fn : Fn) (first cap : Array Value) (w : World), (Instr.makeFunc fn first cap).run Tryz.prog w = .ok (.func fn first cap) w := fun _ _ _ _ => rfl
  obtain ⟨A, hA⟩ : ∃ A, W.alloc (.cells #[.int .i64 0] 33) = A := ⟨_, rfl⟩
  have gA : Gr W A := by rw [← hA]; exact gr_alloc W _
  have hb : A.heap[W.heap.size]? = some (.cells #[.int .i64 0] 33) := by rw [← hA]; exact heap_alloc_new W _
  have HC := hidM (h A gA)
  have HB := hidM hb
  have HG := hidM gA
  clear h gA hb
  go_enter_defers Tryz.func93, Tryz.ntmps93
  go_wp2_with (go_at_call 94; refine HC.out.mono ?_; rintro e w1 ⟨rfl, k1, hr1⟩; have hb1 := (k1.block _ (lt_of_heap HB.out) hS).trans HB.out; have y0 : w1.cell? ⟨W.heap.size, 0, none⟩ = some (.int .i64 0) := (by simp [World.cell?, hb1]); have zz := frz hb1 0; have s0 := set_id (j := 0) (v := .int .i64 0) hb1 rfl; have HF := hidM (And.intro k1 hr1); have HB1 := hidM hb1; clear k1 hr1 hb1)
  refine leaves_cons (f := 116) (args := #[.pointer (some ⟨W.heap.size, 0, none⟩)]) (by simp) (by simp [go_sem]) ?_
  refine (caught103 ⟨W.heap.size, 0, none⟩ w1).mono ?_
  rintro e u' w' ⟨rfl, rfl, rfl⟩
  refine ⟨.int .i64 0, ?_, rfl, (HG.out.mono fun _ _ h => h.elim).trans HF.out.1 (fun _ _ h => h), HF.out.2⟩
  simp [results, Tryz.f93, go_sem, y0]
theorem blk_ne {W : World} {a b t t' : Nat} {c c' : Array Value} (ha : W.heap[a]? = some (.cells c t)) (hb : W.heap[b]? = some (.cells c' t')) (h : t ≠ t') : a ≠ b := fun e => by
  subst e
  rw [ha] at hb
  simp at hb
  exact h hb.2
/-- what read's function value finds -/
structure RdC (W : World) (L b4 b3 b5 b8 l a q : Nat) (i left : Int) : Prop where
  h4 : W.heap[b4]? = some (.cells #[.pointer (some ⟨l, 0, none⟩)] 159)
  h3 : W.heap[b3]? = some (.cells #[.pointer (some ⟨a, 0, none⟩)] 79)
  h5 : W.heap[b5]? = some (.cells #[.int .i64 i] 3)
  h8 : W.heap[b8]? = some (.cells #[.bool false, .int .i64 0, .string ⟨#[]⟩, .slice none 0 0] 88)
  ha : W.heap[a]? = some (.cells #[.pointer (some ⟨q, 0, none⟩), .int .i64 0, .int .i64 L, .pointer none] 111)
  hl : W.heap[l]? = some (.cells #[.pointer none, .int .i64 left] 140)
theorem read74_0 (b4 b3 b5 b8 a l left : Nat) (W : World) (q r rc : Nat) (nu : Bool) (ao : Option Addr) (ca L : Nat) (v2 n2 c2 : Nat) (hR : RdC W L b4 b3 b5 b8 l a q 0 left) (h : NdA W q r rc nu ao ca L 0 v2 n2 c2) (hlq : q ≠ l) (hlr : r ≠ l) (hlv : v2 ≠ l) (h16 : 16 ≤ left) (hle : left ≤ 4194304) (hn0 : 1 ≤ n2) (hn : n2 ≤ 100000) (hc : n2 ≤ c2) (h0 : W.cell? ⟨v2, 0, none⟩ = some (.int .u8 5)) (h1 : W.cell? ⟨v2, 0, none⟩ = some (.int .u8 5)) :
    Calls Tryz.prog 94 #[.pointer (some ⟨b4, 0, none⟩), .pointer (some ⟨b3, 0, none⟩), .pointer (some ⟨b5, 0, none⟩), .pointer (some ⟨b8, 0, none⟩)] W fun e w' => e = .returned (.tuple #[]) ∧ Keeps W w' (fun z => z = l ∨ z = b8) ∧ w'.heap[l]? = some (.cells #[.pointer none, .int .i64 ((left - 16 : Nat) : Int)] 140) ∧ w'.heap[b8]? = some (.cells #[.bool false, .int .i64 5, .string ⟨#[]⟩, .slice none 0 0] 88) := by
  have n4 := blk_ne hR.h4 hR.hl (by decide)
  have n3 := blk_ne hR.h3 hR.hl (by decide)
  have n5 := blk_ne hR.h5 hR.hl (by decide)
  have na := blk_ne hR.ha hR.hl (by decide)
  have n8 := blk_ne hR.h8 hR.hl (by decide)
  have m4 := blk_ne hR.h4 hR.h8 (by decide)
  have m3 := blk_ne hR.h3 hR.h8 (by decide)
  have m5 := blk_ne hR.h5 hR.h8 (by decide)
  have ma := blk_ne hR.ha hR.h8 (by decide)
  have hS : ∀ u, Keeps W u (fun z => z = l ∨ z = b8) → u.cell? ⟨b4, 0, none⟩ = some (.pointer (some ⟨l, 0, none⟩)) ∧ u.cell? ⟨b3, 0, none⟩ = some (.pointer (some ⟨a, 0, none⟩)) ∧ u.cell? ⟨b5, 0, none⟩ = some (.int .i64 0) ∧ u.cell? ⟨a, 0, none⟩ = some (.pointer (some ⟨q, 0, none⟩)) ∧ u.cell? ⟨a, 1, none⟩ = some (.int .i64 0) := fun u g => by
    have c4 : W.cell? ⟨b4, 0, none⟩ = some (.pointer (some ⟨l, 0, none⟩)) := by simp [World.cell?, hR.h4]
    have c3 : W.cell? ⟨b3, 0, none⟩ = some (.pointer (some ⟨a, 0, none⟩)) := by simp [World.cell?, hR.h3]
    have c5 : W.cell? ⟨b5, 0, none⟩ = some (.int .i64 0) := by simp [World.cell?, hR.h5]
    obtain ⟨a0, a1, -, -⟩ := cell4 hR.ha
    exact ⟨g.cell' c4 (fun e => e.elim n4 m4), g.cell' c3 (fun e => e.elim n3 m3), g.cell' c5 (fun e => e.elim n5 m5), g.cell' a0 (fun e => e.elim na ma), g.cell' a1 (fun e => e.elim na ma)⟩
  have HS0 := hidM (hS W.drew (gr_drew.mono fun _ _ h => h.elim))
  have HC := hidM (value75_0 l left W.drew q r rc nu ao ca L v2 n2 c2 (h.gr gr_drew) hR.hl hlq hlr hlv h16 hle hn0 hn hc h0 h1)
  have HT : Hid (∀ w1, Rd1 W.drew w1 l left → (w1.cell? ⟨b4, 0, none⟩ = some (.pointer (some ⟨l, 0, none⟩)) ∧ w1.cell? ⟨b3, 0, none⟩ = some (.pointer (some ⟨a, 0, none⟩)) ∧ w1.cell? ⟨b5, 0, none⟩ = some (.int .i64 0) ∧ w1.cell? ⟨a, 0, none⟩ = some (.pointer (some ⟨q, 0, none⟩)) ∧ w1.cell? ⟨a, 1, none⟩ = some (.int .i64 0)) ∧ w1.heap[b8]? = some (.cells #[.bool false, .int .i64 0, .string ⟨#[]⟩, .slice none 0 0] 88) ∧ (vlU w1 b8 false 5).heap[b8]? = some (.cells #[.bool false, .int .i64 5, .string ⟨#[]⟩, .slice none 0 0] 88) ∧ Keeps W (vlU w1 b8 false 5) (fun z => z = l ∨ z = b8) ∧ (vlU w1 b8 false 5).heap[l]? = some (.cells #[.pointer none, .int .i64 ((left - 16 : Nat) : Int)] 140)) := fun w1 ⟨k1, hl1⟩ => by
    have k0 : Keeps W w1 (fun z => z = l ∨ z = b8) := Keeps.trans (gr_drew.mono fun _ _ h => h.elim) k1 (fun _ _ h => .inl h)
    have hb8 : w1.heap[b8]? = some (.cells #[.bool false, .int .i64 0, .string ⟨#[]⟩, .slice none 0 0] 88) := (k1.block b8 (lt_of_heap (W := W) hR.h8) n8).trans hR.h8
    exact ⟨hS w1 k0, hb8, vl_blk hb8, k0.trans (vl_kp _ _ _ _) (fun _ _ h => .inr h), ((vl_kp _ _ _ _).block l (lt_of_heap hl1) (Ne.symm n8)).trans hl1⟩
  have HSS := hidM hS
  clear hR n4 n3 n5 na n8 m4 m3 m5 ma hS h h0 h1
  go_enter Tryz.func94, Tryz.ntmps94
  go_wp2_with fail
  go_region_held3 (fun u => u.cell? ⟨b4, 0, none⟩ = some (.pointer (some ⟨l, 0, none⟩)) ∧ u.cell? ⟨b3, 0, none⟩ = some (.pointer (some ⟨a, 0, none⟩)) ∧ u.cell? ⟨b5, 0, none⟩ = some (.int .i64 0) ∧ u.cell? ⟨a, 0, none⟩ = some (.pointer (some ⟨q, 0, none⟩)) ∧ u.cell? ⟨a, 1, none⟩ = some (.int .i64 0)) (first | with_reducible exact HS0.out | with_reducible exact HS1.out | with_reducible exact HSU.out) ((go_at_call 95; refine HC.out.mono ?_; rintro e w1 ⟨rfl, k1⟩; obtain ⟨hs1, hb8, hu3, hk3, hl3⟩ := HT.out w1 k1; have HS1 := hidM hs1; obtain ⟨U, hU⟩ : ∃ U, vlU w1 b8 false 5 = U := ⟨_, rfl⟩; rw [hU] at hu3 hk3 hl3; have HSU := hidM (HSS.out U hk3); have HE := hidM (And.intro hk3 (And.intro hl3 hu3)); simp only [vlU, setAll] at hU; obtain ⟨y0, y1, y2, y3⟩ := cell4 hb8; have x0 := frz hb8 0; have x1 := frz hb8 1; have x2 := frz hb8 2; have x3 := frz hb8 3; clear k1 hs1 hb8 hu3 hk3 hl3))
  go_wp2_with fail
  go_end0
  exact ⟨rfl, HE.out⟩
theorem read74_1 (b4 b3 b5 b8 a l left : Nat) (W : World) (q r rc : Nat) (nu : Bool) (ao : Option Addr) (ca L : Nat) (v2 n2 c2 : Nat) (hR : RdC W L b4 b3 b5 b8 l a q 1 left) (h : NdA W q r rc nu ao ca L 0 v2 n2 c2) (hlq : q ≠ l) (hlr : r ≠ l) (hlv : v2 ≠ l) (h16 : 16 ≤ left) (hle : left ≤ 4194304) (hn0 : 2 ≤ n2) (hn : n2 ≤ 100000) (hc : n2 ≤ c2) (h0 : W.cell? ⟨v2, 1, none⟩ = some (.int .u8 6)) (h1 : W.cell? ⟨v2, 1, none⟩ = some (.int .u8 6)) :
    Calls Tryz.prog 94 #[.pointer (some ⟨b4, 0, none⟩), .pointer (some ⟨b3, 0, none⟩), .pointer (some ⟨b5, 0, none⟩), .pointer (some ⟨b8, 0, none⟩)] W fun e w' => e = .returned (.tuple #[]) ∧ Keeps W w' (fun z => z = l ∨ z = b8) ∧ w'.heap[l]? = some (.cells #[.pointer none, .int .i64 ((left - 16 : Nat) : Int)] 140) ∧ w'.heap[b8]? = some (.cells #[.bool false, .int .i64 6, .string ⟨#[]⟩, .slice none 0 0] 88) := by
  have n4 := blk_ne hR.h4 hR.hl (by decide)
  have n3 := blk_ne hR.h3 hR.hl (by decide)
  have n5 := blk_ne hR.h5 hR.hl (by decide)
  have na := blk_ne hR.ha hR.hl (by decide)
  have n8 := blk_ne hR.h8 hR.hl (by decide)
  have m4 := blk_ne hR.h4 hR.h8 (by decide)
  have m3 := blk_ne hR.h3 hR.h8 (by decide)
  have m5 := blk_ne hR.h5 hR.h8 (by decide)
  have ma := blk_ne hR.ha hR.h8 (by decide)
  have hS : ∀ u, Keeps W u (fun z => z = l ∨ z = b8) → u.cell? ⟨b4, 0, none⟩ = some (.pointer (some ⟨l, 0, none⟩)) ∧ u.cell? ⟨b3, 0, none⟩ = some (.pointer (some ⟨a, 0, none⟩)) ∧ u.cell? ⟨b5, 0, none⟩ = some (.int .i64 1) ∧ u.cell? ⟨a, 0, none⟩ = some (.pointer (some ⟨q, 0, none⟩)) ∧ u.cell? ⟨a, 1, none⟩ = some (.int .i64 0) := fun u g => by
    have c4 : W.cell? ⟨b4, 0, none⟩ = some (.pointer (some ⟨l, 0, none⟩)) := by simp [World.cell?, hR.h4]
    have c3 : W.cell? ⟨b3, 0, none⟩ = some (.pointer (some ⟨a, 0, none⟩)) := by simp [World.cell?, hR.h3]
    have c5 : W.cell? ⟨b5, 0, none⟩ = some (.int .i64 1) := by simp [World.cell?, hR.h5]
    obtain ⟨a0, a1, -, -⟩ := cell4 hR.ha
    exact ⟨g.cell' c4 (fun e => e.elim n4 m4), g.cell' c3 (fun e => e.elim n3 m3), g.cell' c5 (fun e => e.elim n5 m5), g.cell' a0 (fun e => e.elim na ma), g.cell' a1 (fun e => e.elim na ma)⟩
  have HS0 := hidM (hS W.drew (gr_drew.mono fun _ _ h => h.elim))
  have HC := hidM (value75_1 l left W.drew q r rc nu ao ca L v2 n2 c2 (h.gr gr_drew) hR.hl hlq hlr hlv h16 hle hn0 hn hc h0 h1)
  have HT : Hid (∀ w1, Rd1 W.drew w1 l left → (w1.cell? ⟨b4, 0, none⟩ = some (.pointer (some ⟨l, 0, none⟩)) ∧ w1.cell? ⟨b3, 0, none⟩ = some (.pointer (some ⟨a, 0, none⟩)) ∧ w1.cell? ⟨b5, 0, none⟩ = some (.int .i64 1) ∧ w1.cell? ⟨a, 0, none⟩ = some (.pointer (some ⟨q, 0, none⟩)) ∧ w1.cell? ⟨a, 1, none⟩ = some (.int .i64 0)) ∧ w1.heap[b8]? = some (.cells #[.bool false, .int .i64 0, .string ⟨#[]⟩, .slice none 0 0] 88) ∧ (vlU w1 b8 false 6).heap[b8]? = some (.cells #[.bool false, .int .i64 6, .string ⟨#[]⟩, .slice none 0 0] 88) ∧ Keeps W (vlU w1 b8 false 6) (fun z => z = l ∨ z = b8) ∧ (vlU w1 b8 false 6).heap[l]? = some (.cells #[.pointer none, .int .i64 ((left - 16 : Nat) : Int)] 140)) := fun w1 ⟨k1, hl1⟩ => by
    have k0 : Keeps W w1 (fun z => z = l ∨ z = b8) := Keeps.trans (gr_drew.mono fun _ _ h => h.elim) k1 (fun _ _ h => .inl h)
    have hb8 : w1.heap[b8]? = some (.cells #[.bool false, .int .i64 0, .string ⟨#[]⟩, .slice none 0 0] 88) := (k1.block b8 (lt_of_heap (W := W) hR.h8) n8).trans hR.h8
    exact ⟨hS w1 k0, hb8, vl_blk hb8, k0.trans (vl_kp _ _ _ _) (fun _ _ h => .inr h), ((vl_kp _ _ _ _).block l (lt_of_heap hl1) (Ne.symm n8)).trans hl1⟩
  have HSS := hidM hS
  clear hR n4 n3 n5 na n8 m4 m3 m5 ma hS h h0 h1
  go_enter Tryz.func94, Tryz.ntmps94
  go_wp2_with fail
  go_region_held3 (fun u => u.cell? ⟨b4, 0, none⟩ = some (.pointer (some ⟨l, 0, none⟩)) ∧ u.cell? ⟨b3, 0, none⟩ = some (.pointer (some ⟨a, 0, none⟩)) ∧ u.cell? ⟨b5, 0, none⟩ = some (.int .i64 1) ∧ u.cell? ⟨a, 0, none⟩ = some (.pointer (some ⟨q, 0, none⟩)) ∧ u.cell? ⟨a, 1, none⟩ = some (.int .i64 0)) (first | with_reducible exact HS0.out | with_reducible exact HS1.out | with_reducible exact HSU.out) ((go_at_call 95; refine HC.out.mono ?_; rintro e w1 ⟨rfl, k1⟩; obtain ⟨hs1, hb8, hu3, hk3, hl3⟩ := HT.out w1 k1; have HS1 := hidM hs1; obtain ⟨U, hU⟩ : ∃ U, vlU w1 b8 false 6 = U := ⟨_, rfl⟩; rw [hU] at hu3 hk3 hl3; have HSU := hidM (HSS.out U hk3); have HE := hidM (And.intro hk3 (And.intro hl3 hu3)); simp only [vlU, setAll] at hU; obtain ⟨y0, y1, y2, y3⟩ := cell4 hb8; have x0 := frz hb8 0; have x1 := frz hb8 1; have x2 := frz hb8 2; have x3 := frz hb8 3; clear k1 hs1 hb8 hu3 hk3 hl3))
  go_wp2_with fail
  go_end0
  exact ⟨rfl, HE.out⟩
theorem read74_2 (b4 b3 b5 b8 a l left : Nat) (W : World) (q r rc : Nat) (nu : Bool) (ao : Option Addr) (ca L : Nat) (v2 n2 c2 : Nat) (hR : RdC W L b4 b3 b5 b8 l a q 0 left) (h : NdA W q r rc nu ao ca L 1 v2 n2 c2) (hlq : q ≠ l) (hlr : r ≠ l) (hlv : v2 ≠ l) (h16 : 16 ≤ left) (hle : left ≤ 4194304) (hn0 : 2 ≤ n2) (hn : n2 ≤ 100000) (hc : n2 ≤ c2) (h0 : W.cell? ⟨v2, 1, none⟩ = some (.int .u8 6)) (h1 : W.cell? ⟨v2, 1, none⟩ = some (.int .u8 6)) :
    Calls Tryz.prog 94 #[.pointer (some ⟨b4, 0, none⟩), .pointer (some ⟨b3, 0, none⟩), .pointer (some ⟨b5, 0, none⟩), .pointer (some ⟨b8, 0, none⟩)] W fun e w' => e = .returned (.tuple #[]) ∧ Keeps W w' (fun z => z = l ∨ z = b8) ∧ w'.heap[l]? = some (.cells #[.pointer none, .int .i64 ((left - 16 : Nat) : Int)] 140) ∧ w'.heap[b8]? = some (.cells #[.bool false, .int .i64 6, .string ⟨#[]⟩, .slice none 0 0] 88) := by
  have n4 := blk_ne hR.h4 hR.hl (by decide)
  have n3 := blk_ne hR.h3 hR.hl (by decide)
  have n5 := blk_ne hR.h5 hR.hl (by decide)
  have na := blk_ne hR.ha hR.hl (by decide)
  have n8 := blk_ne hR.h8 hR.hl (by decide)
  have m4 := blk_ne hR.h4 hR.h8 (by decide)
  have m3 := blk_ne hR.h3 hR.h8 (by decide)
  have m5 := blk_ne hR.h5 hR.h8 (by decide)
  have ma := blk_ne hR.ha hR.h8 (by decide)
  have hS : ∀ u, Keeps W u (fun z => z = l ∨ z = b8) → u.cell? ⟨b4, 0, none⟩ = some (.pointer (some ⟨l, 0, none⟩)) ∧ u.cell? ⟨b3, 0, none⟩ = some (.pointer (some ⟨a, 0, none⟩)) ∧ u.cell? ⟨b5, 0, none⟩ = some (.int .i64 0) ∧ u.cell? ⟨a, 0, none⟩ = some (.pointer (some ⟨q, 0, none⟩)) ∧ u.cell? ⟨a, 1, none⟩ = some (.int .i64 0) := fun u g => by
    have c4 : W.cell? ⟨b4, 0, none⟩ = some (.pointer (some ⟨l, 0, none⟩)) := by simp [World.cell?, hR.h4]
    have c3 : W.cell? ⟨b3, 0, none⟩ = some (.pointer (some ⟨a, 0, none⟩)) := by simp [World.cell?, hR.h3]
    have c5 : W.cell? ⟨b5, 0, none⟩ = some (.int .i64 0) := by simp [World.cell?, hR.h5]
    obtain ⟨a0, a1, -, -⟩ := cell4 hR.ha
    exact ⟨g.cell' c4 (fun e => e.elim n4 m4), g.cell' c3 (fun e => e.elim n3 m3), g.cell' c5 (fun e => e.elim n5 m5), g.cell' a0 (fun e => e.elim na ma), g.cell' a1 (fun e => e.elim na ma)⟩
  have HS0 := hidM (hS W.drew (gr_drew.mono fun _ _ h => h.elim))
  have HC := hidM (value75_2 l left W.drew q r rc nu ao ca L v2 n2 c2 (h.gr gr_drew) hR.hl hlq hlr hlv h16 hle hn0 hn hc h0 h1)
  have HT : Hid (∀ w1, Rd1 W.drew w1 l left → (w1.cell? ⟨b4, 0, none⟩ = some (.pointer (some ⟨l, 0, none⟩)) ∧ w1.cell? ⟨b3, 0, none⟩ = some (.pointer (some ⟨a, 0, none⟩)) ∧ w1.cell? ⟨b5, 0, none⟩ = some (.int .i64 0) ∧ w1.cell? ⟨a, 0, none⟩ = some (.pointer (some ⟨q, 0, none⟩)) ∧ w1.cell? ⟨a, 1, none⟩ = some (.int .i64 0)) ∧ w1.heap[b8]? = some (.cells #[.bool false, .int .i64 0, .string ⟨#[]⟩, .slice none 0 0] 88) ∧ (vlU w1 b8 false 6).heap[b8]? = some (.cells #[.bool false, .int .i64 6, .string ⟨#[]⟩, .slice none 0 0] 88) ∧ Keeps W (vlU w1 b8 false 6) (fun z => z = l ∨ z = b8) ∧ (vlU w1 b8 false 6).heap[l]? = some (.cells #[.pointer none, .int .i64 ((left - 16 : Nat) : Int)] 140)) := fun w1 ⟨k1, hl1⟩ => by
    have k0 : Keeps W w1 (fun z => z = l ∨ z = b8) := Keeps.trans (gr_drew.mono fun _ _ h => h.elim) k1 (fun _ _ h => .inl h)
    have hb8 : w1.heap[b8]? = some (.cells #[.bool false, .int .i64 0, .string ⟨#[]⟩, .slice none 0 0] 88) := (k1.block b8 (lt_of_heap (W := W) hR.h8) n8).trans hR.h8
    exact ⟨hS w1 k0, hb8, vl_blk hb8, k0.trans (vl_kp _ _ _ _) (fun _ _ h => .inr h), ((vl_kp _ _ _ _).block l (lt_of_heap hl1) (Ne.symm n8)).trans hl1⟩
  have HSS := hidM hS
  clear hR n4 n3 n5 na n8 m4 m3 m5 ma hS h h0 h1
  go_enter Tryz.func94, Tryz.ntmps94
  go_wp2_with fail
  go_region_held3 (fun u => u.cell? ⟨b4, 0, none⟩ = some (.pointer (some ⟨l, 0, none⟩)) ∧ u.cell? ⟨b3, 0, none⟩ = some (.pointer (some ⟨a, 0, none⟩)) ∧ u.cell? ⟨b5, 0, none⟩ = some (.int .i64 0) ∧ u.cell? ⟨a, 0, none⟩ = some (.pointer (some ⟨q, 0, none⟩)) ∧ u.cell? ⟨a, 1, none⟩ = some (.int .i64 0)) (first | with_reducible exact HS0.out | with_reducible exact HS1.out | with_reducible exact HSU.out) ((go_at_call 95; refine HC.out.mono ?_; rintro e w1 ⟨rfl, k1⟩; obtain ⟨hs1, hb8, hu3, hk3, hl3⟩ := HT.out w1 k1; have HS1 := hidM hs1; obtain ⟨U, hU⟩ : ∃ U, vlU w1 b8 false 6 = U := ⟨_, rfl⟩; rw [hU] at hu3 hk3 hl3; have HSU := hidM (HSS.out U hk3); have HE := hidM (And.intro hk3 (And.intro hl3 hu3)); simp only [vlU, setAll] at hU; obtain ⟨y0, y1, y2, y3⟩ := cell4 hb8; have x0 := frz hb8 0; have x1 := frz hb8 1; have x2 := frz hb8 2; have x3 := frz hb8 3; clear k1 hs1 hb8 hu3 hk3 hl3))
  go_wp2_with fail
  go_end0
  exact ⟨rfl, HE.out⟩
end Go.Proofs.YtegjpmodleigeaaGreatDoor.Kit
