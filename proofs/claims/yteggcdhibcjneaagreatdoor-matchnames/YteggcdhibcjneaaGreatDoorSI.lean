import Derived.Test.YteggcdhibcjneaaGreatDoorCO
import Derived.OrdersIn
import Derived.OrdersHeld
import Derived.Deep.RegionHeld3
import Derived.Test.YteggcdhibcjneaaGreatDoorVB
import Derived.Test.YteggcdhibcjneaaGreatDoorFG
import Derived.Shelf.Spec.SlicesInsertGrow
import Derived.Test.YteggcdhibcjneaaGreatDoorProg
set_option maxRecDepth 100000
set_option maxHeartbeats 4000000
namespace Go.Proofs.YteggcdhibcjneaaGreatDoor.Kit
variable {nx : Bool}
open Go.RowKit Go.Shelf Go.Deep
open Go.Proofs.YteggcdhibcjneaaGreatDoor.Kd (Ans AnsV cell5 cell2)
open Go.Proofs.YteggcdhibcjneaaGreatDoor.Ink (OwnRow)
set_option linter.unusedVariables false
set_option linter.unusedSimpArgs false
attribute [local go_sem] run_store_func

theorem method_read (w : World) : (method 554 238 (.agg #[.int .i64 1, .bool true]) "colonnade/array.read").run Tryz.prog w = .ok (262, .agg #[.int .i64 1, .bool true]) w := by kernel_rfl
theorem method_weight (w : World) : (method 554 238 (.agg #[.int .i64 1, .bool true]) "colonnade/array.weight").run Tryz.prog w = .ok (263, .agg #[.int .i64 1, .bool true]) w := by kernel_rfl
theorem method_needs (w : World) : (method 554 238 (.agg #[.int .i64 1, .bool true]) "colonnade/array.needs").run Tryz.prog w = .ok (261, .agg #[.int .i64 1, .bool true]) w := by kernel_rfl
theorem method_wrong (w : World) : (method 554 238 (.agg #[.int .i64 1, .bool true]) "colonnade/array.wrong").run Tryz.prog w = .ok (218, .agg #[]) w := by kernel_rfl
theorem method_wrongBehind (w : World) : (method 554 238 (.agg #[.int .i64 1, .bool true]) "colonnade/array.wrongBehind").run Tryz.prog w = .ok (219, .agg #[]) w := by kernel_rfl
theorem cellF {W : World} {q : Nat} {nu : Bool} {ao : Option Addr} {ca : Nat} {L N : Int} {bv : Value} (h : W.heap[q]? = some (.cells (ndC nx nu ao ca L N bv) 143)) : W.cell? ⟨q, 7, none⟩ = some (.iface 238 (.agg #[.int .i64 1, .bool true])) ∧ W.cell? ⟨q, 9, none⟩ = some (.int .i64 N) ∧ W.cell? ⟨q, 12, none⟩ = some (.slice none 0 0) := by
  refine ⟨?_, ?_, ?_⟩ <;> simp [World.cell?, h, ndC]
theorem rd_store {W A w2 w3 : World} {l left : Nat} (vn : Bool) (x : Int) (hA : A = W.alloc (.cells #[.bool false, .int .i64 0, .string ⟨#[]⟩, .slice none 0 0] 86)) (g2 : Gr A w2) (k3 : Rd1 w2 w3 l left) (hl : l < W.heap.size) : w3.heap[W.heap.size]? = some (.cells #[.bool false, .int .i64 0, .string ⟨#[]⟩, .slice none 0 0] 86) ∧ (vlU w3 W.heap.size vn x).heap[W.heap.size]? = some (.cells #[.bool vn, .int .i64 x, .string ⟨#[]⟩, .slice none 0 0] 86) ∧ Rd1 W (vlU w3 W.heap.size vn x) l left := by
  have gA : Gr W A := by rw [hA]; exact gr_alloc W _
  have hb : A.heap[W.heap.size]? = some (.cells #[.bool false, .int .i64 0, .string ⟨#[]⟩, .slice none 0 0] 86) := by rw [hA]; exact heap_alloc_new W _
  have hb2 := (g2.block _ (lt_of_heap hb) id).trans hb
  have hb3 := (k3.1.block _ (lt_of_heap hb2) (fun e => by have e' : W.heap.size = l := e; omega)).trans hb2
  refine ⟨hb3, vl_blk hb3, ?_, ?_⟩
  · exact (((gA.trans g2 (fun _ _ h => h)).mono fun _ _ h => h.elim).trans k3.1 (fun _ _ h => h)).trans (vl_kp _ _ _ _) (fun j hj e => by have e' : j = W.heap.size := e; omega)
  · exact ((vl_kp _ _ _ _).block l (lt_of_heap k3.2) (fun e => by have e' : l = W.heap.size := e; omega)).trans k3.2
theorem value75_K (i : Int) (j : Nat) (x : Int) (hij : i = 0 ∧ j = 0 ∨ i = 1 ∧ j = 1 ∨ i = 2 ∧ j = 2) (hx : x = 5 ∨ x = 7 ∨ x = 8) (l left : Nat) (W : World) (q r rc : Nat) (nu : Bool) (ao : Option Addr) (ca L : Nat) (v2 n2 c2 : Nat) (h : NdA nx W q r rc nu ao ca L 0 v2 n2 c2) (hl : W.heap[l]? = some (.cells #[.pointer none, .int .i64 left] 172)) (hlq : q ≠ l) (hlr : r ≠ l) (hlv : v2 ≠ l) (h16 : 16 ≤ left) (hle : left ≤ 4194304) (hn0 : j + 1 ≤ n2) (hn : n2 ≤ 100000) (hc : n2 ≤ c2) (h0 : W.cell? ⟨v2, j, none⟩ = some (.int .u8 x)) (h1 : W.cell? ⟨v2, j, none⟩ = some (.int .u8 x)) : Calls Tryz.prog 119 #[.pointer (some ⟨l, 0, none⟩), .pointer (some ⟨q, 0, none⟩), .int .i64 i] W fun e w' => e = .returned (.agg #[.bool false, .int .i64 x, .string ⟨#[]⟩, .slice none 0 0]) ∧ Rd1 W w' l left := by
  obtain ⟨A, hA⟩ : ∃ A, W.alloc (.cells #[.bool false, .int .i64 0, .string ⟨#[]⟩, .slice none 0 0] 86) = A := ⟨_, rfl⟩
  have gA : Gr W A := by rw [← hA]; exact gr_alloc W _
  have HI := hidM (isOff102 i l A q r rc nu ao ca L 0 v2 n2 c2 (h.gr gA))
  have HR : Hid (∀ w2, Gr A w2 → Calls Tryz.prog 262 #[.agg #[.int .i64 1, .bool true], .pointer (some ⟨l, 0, none⟩), .pointer (some ⟨q, 0, none⟩), .int .i64 i] w2 fun e w' => e = .returned (.agg #[.bool false, .int .i64 x, .string ⟨#[]⟩, .slice none 0 0]) ∧ Rd1 w2 w' l left) := fun w2 g2 => by
    have g := gA.trans g2 (fun _ _ h => h)
    exact read309_K i j x hij hx l left w2 q r rc nu ao ca L 0 v2 n2 c2 (h.gr g) ((g.block _ (lt_of_heap hl) id).trans hl) hlq hlr hlv h16 hle hn0 hn hc (g.cell' h0 id) (g.cell' h1 id)
  have HT : Hid (∀ w2 w3, Gr A w2 → Rd1 w2 w3 l left → w3.heap[W.heap.size]? = some (.cells #[.bool false, .int .i64 0, .string ⟨#[]⟩, .slice none 0 0] 86) ∧ (vlU w3 W.heap.size false x).heap[W.heap.size]? = some (.cells #[.bool false, .int .i64 x, .string ⟨#[]⟩, .slice none 0 0] 86) ∧ Rd1 W (vlU w3 W.heap.size false x) l left) := fun w2 w3 g2 k3 => rd_store _ _ hA.symm g2 k3 (lt_of_heap hl)
  obtain ⟨c7, c9, c12⟩ := cellF (h.gr gA).nd
  have HN := hidM (h.gr gA)
  have hmeth := method_read
  clear gA h hl h0 h1
  rcases hij with ⟨rfl, rfl⟩ | ⟨rfl, rfl⟩ | ⟨rfl, rfl⟩
  all_goals
    go_enter Tryz.func119, Tryz.ntmps119
    go_wp2_with (first
      | (go_at_call 140; refine HI.out.mono ?_; rintro e w2 ⟨rfl, g2⟩; clear hA c7 c9 c12; obtain ⟨c7, c9, c12⟩ := cellF (HN.out.gr g2).nd)
      | (go_at_call 262; refine (HR.out w2 g2).mono ?_; rintro e w3 ⟨rfl, k3⟩; obtain ⟨hr3, hu3, hq3⟩ := HT.out w2 w3 g2 k3; obtain ⟨U, hU⟩ : ∃ U, vlU w3 W.heap.size false x = U := ⟨_, rfl⟩; rw [hU] at hu3 hq3; simp only [vlU, setAll] at hU; obtain ⟨y0, y1, y2, y3⟩ := cell4 hr3; have x0 := frz hr3 0; have x1 := frz hr3 1; have x2 := frz hr3 2; have x3 := frz hr3 3; have HU3 := hidM hu3; have HQ3 := hidM hq3; clear hr3 hu3 hq3 k3))
    (try simp only [Exit.inBlock, Exit.then])
    refine bodyPost_ret (results_cell37 rfl rfl (by with_reducible exact HU3.out) (by kernel_rfl)) rfl ?_
    exact ⟨rfl, HQ3.out⟩
end Go.Proofs.YteggcdhibcjneaaGreatDoor.Kit
namespace Go.Proofs.YteggcdhibcjneaaGreatDoor.Kit
variable {nx : Bool}
open Go.RowKit Go.Shelf Go.Deep
open Go.Proofs.YteggcdhibcjneaaGreatDoor.Kd (Ans AnsV cell5 cell2)
open Go.Proofs.YteggcdhibcjneaaGreatDoor.Ink (OwnRow)
set_option linter.unusedVariables false
set_option linter.unusedSimpArgs false
attribute [local go_sem] run_store_func

theorem caught103 (r : Addr) (w : World) : CallsD Tryz.prog 141 #[.pointer (some r)] .returning w fun e u' w' => e = .returned (.tuple #[]) ∧ u' = .returning ∧ w' = w := by
  refine callsD_of_wpS Tryz.func141 rfl fun c₀ cs hu => ?_
  apply wpS_seq
  apply wpS_region
  simp [wpOpsS, go_sem, recoverD, hu, Tryz.ntmps141, Exit.thenS]
  have HHU := hidM hu
  clear hu
  have htm : (#[Value.pointer (some r)] ++ (Array.replicate 9 undef).setIfInBounds 3 Value.nilIface : Array Value) = #[Value.pointer (some r), undef, undef, undef, .nilIface, undef, undef, undef, undef, undef] := by kernel_rfl
  rw [htm]
  clear htm
  refine wpS_of_wp ?_
  refine wp_hid ?_
  go_wp2_with fail
  unfold Hid
  have hu := HHU.out
  cases c₀
  simp_all [bodyPostS, results, Tryz.results141]
theorem caught73 (b0 b1 b2 b3 : Nat) (S : Nat → Prop) (R : World → Prop) (W : World) (hS : ¬ S W.heap.size) (hR : ∀ u v, R u → Gr u v → R v) (h : ∀ A, Gr W A → Calls Tryz.prog 118 #[.pointer (some ⟨b0, 0, none⟩), .pointer (some ⟨b1, 0, none⟩), .pointer (some ⟨b2, 0, none⟩), .pointer (some ⟨b3, 0, none⟩)] A fun e w' => e = .returned (.tuple #[]) ∧ Keeps A w' S ∧ R w') :
    Calls Tryz.prog 117 #[.func (.func 118) #[] #[.pointer (some ⟨b0, 0, none⟩), .pointer (some ⟨b1, 0, none⟩), .pointer (some ⟨b2, 0, none⟩), .pointer (some ⟨b3, 0, none⟩)]] W fun e w' => e = .returned (.int .i64 0) ∧ Keeps W w' S ∧ R w' := by
  have hmf : ∀ (fn : Fn) (first cap : Array Value) (w : World), (Instr.makeFunc fn first cap).run Tryz.prog w = .ok (.func fn first cap) w := fun _ _ _ _ => rfl
  obtain ⟨A, hA⟩ : ∃ A, W.alloc (.cells #[.int .i64 0] 24) = A := ⟨_, rfl⟩
  have gA : Gr W A := by rw [← hA]; exact gr_alloc W _
  have hb : A.heap[W.heap.size]? = some (.cells #[.int .i64 0] 24) := by rw [← hA]; exact heap_alloc_new W _
  have HC := hidM (h A gA)
  have HB := hidM hb
  have HG := hidM gA
  clear h gA hb
  go_enter_defers Tryz.func117, Tryz.ntmps117
  go_wp2_with (go_at_call 118; refine HC.out.mono ?_; rintro e w1 ⟨rfl, k1, hr1⟩; have hb1 := (k1.block _ (lt_of_heap HB.out) hS).trans HB.out; have y0 : w1.cell? ⟨W.heap.size, 0, none⟩ = some (.int .i64 0) := (by simp [World.cell?, hb1]); have zz := frz hb1 0; have s0 := set_id (j := 0) (v := .int .i64 0) hb1 rfl; have HF := hidM (And.intro k1 hr1); have HB1 := hidM hb1; clear k1 hr1 hb1)
  refine leaves_cons (f := 141) (args := #[.pointer (some ⟨W.heap.size, 0, none⟩)]) (by simp) (by simp [go_sem]) ?_
  refine (caught103 ⟨W.heap.size, 0, none⟩ w1).mono ?_
  rintro e u' w' ⟨rfl, rfl, rfl⟩
  refine ⟨.int .i64 0, ?_, rfl, (HG.out.mono fun _ _ h => h.elim).trans HF.out.1 (fun _ _ h => h), HF.out.2⟩
  simp [results, Tryz.f117, go_sem, y0]
theorem blk_ne {W : World} {a b t t' : Nat} {c c' : Array Value} (ha : W.heap[a]? = some (.cells c t)) (hb : W.heap[b]? = some (.cells c' t')) (h : t ≠ t') : a ≠ b := fun e => by
  subst e
  rw [ha] at hb
  simp at hb
  exact h hb.2
/-- what read's function value finds -/
structure RdC (W : World) (L b4 b3 b5 b8 l a q : Nat) (i left : Int) : Prop where
  h4 : W.heap[b4]? = some (.cells #[.pointer (some ⟨l, 0, none⟩)] 177)
  h3 : W.heap[b3]? = some (.cells #[.pointer (some ⟨a, 0, none⟩)] 110)
  h5 : W.heap[b5]? = some (.cells #[.int .i64 i] 3)
  h8 : W.heap[b8]? = some (.cells #[.bool false, .int .i64 0, .string ⟨#[]⟩, .slice none 0 0] 86)
  ha : W.heap[a]? = some (.cells #[.pointer (some ⟨q, 0, none⟩), .int .i64 0, .int .i64 L, .pointer none] 146)
  hl : W.heap[l]? = some (.cells #[.pointer none, .int .i64 left] 172)
theorem read74_K (i : Int) (j : Nat) (x : Int) (hij : i = 0 ∧ j = 0 ∨ i = 1 ∧ j = 1 ∨ i = 2 ∧ j = 2) (hx : x = 5 ∨ x = 7 ∨ x = 8) (b4 b3 b5 b8 a l left : Nat) (W : World) (q r rc : Nat) (nu : Bool) (ao : Option Addr) (ca L : Nat) (v2 n2 c2 : Nat) (hR : RdC W L b4 b3 b5 b8 l a q i left) (h : NdA nx W q r rc nu ao ca L 0 v2 n2 c2) (hlq : q ≠ l) (hlr : r ≠ l) (hlv : v2 ≠ l) (h16 : 16 ≤ left) (hle : left ≤ 4194304) (hn0 : j + 1 ≤ n2) (hn : n2 ≤ 100000) (hc : n2 ≤ c2) (h0 : W.cell? ⟨v2, j, none⟩ = some (.int .u8 x)) (h1 : W.cell? ⟨v2, j, none⟩ = some (.int .u8 x)) :
    Calls Tryz.prog 118 #[.pointer (some ⟨b4, 0, none⟩), .pointer (some ⟨b3, 0, none⟩), .pointer (some ⟨b5, 0, none⟩), .pointer (some ⟨b8, 0, none⟩)] W fun e w' => e = .returned (.tuple #[]) ∧ Keeps W w' (fun z => z = l ∨ z = b8) ∧ w'.heap[l]? = some (.cells #[.pointer none, .int .i64 ((left - 16 : Nat) : Int)] 172) ∧ w'.heap[b8]? = some (.cells #[.bool false, .int .i64 x, .string ⟨#[]⟩, .slice none 0 0] 86) := by
  have n4 := blk_ne hR.h4 hR.hl (by decide)
  have n3 := blk_ne hR.h3 hR.hl (by decide)
  have n5 := blk_ne hR.h5 hR.hl (by decide)
  have na := blk_ne hR.ha hR.hl (by decide)
  have n8 := blk_ne hR.h8 hR.hl (by decide)
  have m4 := blk_ne hR.h4 hR.h8 (by decide)
  have m3 := blk_ne hR.h3 hR.h8 (by decide)
  have m5 := blk_ne hR.h5 hR.h8 (by decide)
  have ma := blk_ne hR.ha hR.h8 (by decide)
  have hS : ∀ u, Keeps W u (fun z => z = l ∨ z = b8) → u.cell? ⟨b4, 0, none⟩ = some (.pointer (some ⟨l, 0, none⟩)) ∧ u.cell? ⟨b3, 0, none⟩ = some (.pointer (some ⟨a, 0, none⟩)) ∧ u.cell? ⟨b5, 0, none⟩ = some (.int .i64 i) ∧ u.cell? ⟨a, 0, none⟩ = some (.pointer (some ⟨q, 0, none⟩)) ∧ u.cell? ⟨a, 1, none⟩ = some (.int .i64 0) := fun u g => by
    have c4 : W.cell? ⟨b4, 0, none⟩ = some (.pointer (some ⟨l, 0, none⟩)) := by simp [World.cell?, hR.h4]
    have c3 : W.cell? ⟨b3, 0, none⟩ = some (.pointer (some ⟨a, 0, none⟩)) := by simp [World.cell?, hR.h3]
    have c5 : W.cell? ⟨b5, 0, none⟩ = some (.int .i64 i) := by simp [World.cell?, hR.h5]
    obtain ⟨a0, a1, -, -⟩ := cell4 hR.ha
    exact ⟨g.cell' c4 (fun e => e.elim n4 m4), g.cell' c3 (fun e => e.elim n3 m3), g.cell' c5 (fun e => e.elim n5 m5), g.cell' a0 (fun e => e.elim na ma), g.cell' a1 (fun e => e.elim na ma)⟩
  have HS0 := hidM (hS W.drew (gr_drew.mono fun _ _ h => h.elim))
  have HC := hidM (value75_K i j x hij hx l left W.drew q r rc nu ao ca L v2 n2 c2 (h.gr gr_drew) hR.hl hlq hlr hlv h16 hle hn0 hn hc h0 h1)
  have HT : Hid (∀ w1, Rd1 W.drew w1 l left → (w1.cell? ⟨b4, 0, none⟩ = some (.pointer (some ⟨l, 0, none⟩)) ∧ w1.cell? ⟨b3, 0, none⟩ = some (.pointer (some ⟨a, 0, none⟩)) ∧ w1.cell? ⟨b5, 0, none⟩ = some (.int .i64 i) ∧ w1.cell? ⟨a, 0, none⟩ = some (.pointer (some ⟨q, 0, none⟩)) ∧ w1.cell? ⟨a, 1, none⟩ = some (.int .i64 0)) ∧ w1.heap[b8]? = some (.cells #[.bool false, .int .i64 0, .string ⟨#[]⟩, .slice none 0 0] 86) ∧ (vlU w1 b8 false x).heap[b8]? = some (.cells #[.bool false, .int .i64 x, .string ⟨#[]⟩, .slice none 0 0] 86) ∧ Keeps W (vlU w1 b8 false x) (fun z => z = l ∨ z = b8) ∧ (vlU w1 b8 false x).heap[l]? = some (.cells #[.pointer none, .int .i64 ((left - 16 : Nat) : Int)] 172)) := fun w1 ⟨k1, hl1⟩ => by
    have k0 : Keeps W w1 (fun z => z = l ∨ z = b8) := Keeps.trans (gr_drew.mono fun _ _ h => h.elim) k1 (fun _ _ h => .inl h)
    have hb8 : w1.heap[b8]? = some (.cells #[.bool false, .int .i64 0, .string ⟨#[]⟩, .slice none 0 0] 86) := (k1.block b8 (lt_of_heap (W := W) hR.h8) n8).trans hR.h8
    exact ⟨hS w1 k0, hb8, vl_blk hb8, k0.trans (vl_kp _ _ _ _) (fun _ _ h => .inr h), ((vl_kp _ _ _ _).block l (lt_of_heap hl1) (Ne.symm n8)).trans hl1⟩
  have HSS := hidM hS
  clear hR n4 n3 n5 na n8 m4 m3 m5 ma hS h h0 h1
  rcases hij with ⟨rfl, rfl⟩ | ⟨rfl, rfl⟩ | ⟨rfl, rfl⟩
  · go_enter Tryz.func118, Tryz.ntmps118
    go_wp2_with fail
    go_region_held3 (fun u => u.cell? ⟨b4, 0, none⟩ = some (.pointer (some ⟨l, 0, none⟩)) ∧ u.cell? ⟨b3, 0, none⟩ = some (.pointer (some ⟨a, 0, none⟩)) ∧ u.cell? ⟨b5, 0, none⟩ = some (.int .i64 0) ∧ u.cell? ⟨a, 0, none⟩ = some (.pointer (some ⟨q, 0, none⟩)) ∧ u.cell? ⟨a, 1, none⟩ = some (.int .i64 0)) (first | with_reducible exact HS0.out | with_reducible exact HS1.out | with_reducible exact HSU.out) ((go_at_call 119; refine HC.out.mono ?_; rintro e w1 ⟨rfl, k1⟩; obtain ⟨hs1, hb8, hu3, hk3, hl3⟩ := HT.out w1 k1; have HS1 := hidM hs1; obtain ⟨U, hU⟩ : ∃ U, vlU w1 b8 false x = U := ⟨_, rfl⟩; rw [hU] at hu3 hk3 hl3; have HSU := hidM (HSS.out U hk3); have HE := hidM (And.intro hk3 (And.intro hl3 hu3)); simp only [vlU, setAll] at hU; obtain ⟨y0, y1, y2, y3⟩ := cell4 hb8; have x0 := frz hb8 0; have x1 := frz hb8 1; have x2 := frz hb8 2; have x3 := frz hb8 3; clear k1 hs1 hb8 hu3 hk3 hl3))
    go_wp2_with fail
    go_end0
    exact ⟨rfl, HE.out⟩
  · go_enter Tryz.func118, Tryz.ntmps118
    go_wp2_with fail
    go_region_held3 (fun u => u.cell? ⟨b4, 0, none⟩ = some (.pointer (some ⟨l, 0, none⟩)) ∧ u.cell? ⟨b3, 0, none⟩ = some (.pointer (some ⟨a, 0, none⟩)) ∧ u.cell? ⟨b5, 0, none⟩ = some (.int .i64 1) ∧ u.cell? ⟨a, 0, none⟩ = some (.pointer (some ⟨q, 0, none⟩)) ∧ u.cell? ⟨a, 1, none⟩ = some (.int .i64 0)) (first | with_reducible exact HS0.out | with_reducible exact HS1.out | with_reducible exact HSU.out) ((go_at_call 119; refine HC.out.mono ?_; rintro e w1 ⟨rfl, k1⟩; obtain ⟨hs1, hb8, hu3, hk3, hl3⟩ := HT.out w1 k1; have HS1 := hidM hs1; obtain ⟨U, hU⟩ : ∃ U, vlU w1 b8 false x = U := ⟨_, rfl⟩; rw [hU] at hu3 hk3 hl3; have HSU := hidM (HSS.out U hk3); have HE := hidM (And.intro hk3 (And.intro hl3 hu3)); simp only [vlU, setAll] at hU; obtain ⟨y0, y1, y2, y3⟩ := cell4 hb8; have x0 := frz hb8 0; have x1 := frz hb8 1; have x2 := frz hb8 2; have x3 := frz hb8 3; clear k1 hs1 hb8 hu3 hk3 hl3))
    go_wp2_with fail
    go_end0
    exact ⟨rfl, HE.out⟩
  · go_enter Tryz.func118, Tryz.ntmps118
    go_wp2_with fail
    go_region_held3 (fun u => u.cell? ⟨b4, 0, none⟩ = some (.pointer (some ⟨l, 0, none⟩)) ∧ u.cell? ⟨b3, 0, none⟩ = some (.pointer (some ⟨a, 0, none⟩)) ∧ u.cell? ⟨b5, 0, none⟩ = some (.int .i64 2) ∧ u.cell? ⟨a, 0, none⟩ = some (.pointer (some ⟨q, 0, none⟩)) ∧ u.cell? ⟨a, 1, none⟩ = some (.int .i64 0)) (first | with_reducible exact HS0.out | with_reducible exact HS1.out | with_reducible exact HSU.out) ((go_at_call 119; refine HC.out.mono ?_; rintro e w1 ⟨rfl, k1⟩; obtain ⟨hs1, hb8, hu3, hk3, hl3⟩ := HT.out w1 k1; have HS1 := hidM hs1; obtain ⟨U, hU⟩ : ∃ U, vlU w1 b8 false x = U := ⟨_, rfl⟩; rw [hU] at hu3 hk3 hl3; have HSU := hidM (HSS.out U hk3); have HE := hidM (And.intro hk3 (And.intro hl3 hu3)); simp only [vlU, setAll] at hU; obtain ⟨y0, y1, y2, y3⟩ := cell4 hb8; have x0 := frz hb8 0; have x1 := frz hb8 1; have x2 := frz hb8 2; have x3 := frz hb8 3; clear k1 hs1 hb8 hu3 hk3 hl3))
    go_wp2_with fail
    go_end0
    exact ⟨rfl, HE.out⟩
end Go.Proofs.YteggcdhibcjneaaGreatDoor.Kit
namespace Go.Proofs.YteggcdhibcjneaaGreatDoor.Kit
variable {nx : Bool}
open Go.RowKit Go.Shelf Go.Deep
open Go.Proofs.YteggcdhibcjneaaGreatDoor.Kd (Ans AnsV cell5 cell2)
open Go.Proofs.YteggcdhibcjneaaGreatDoor.Ink (OwnRow)
set_option linter.unusedVariables false
set_option linter.unusedSimpArgs false
attribute [local go_sem] run_store_func

theorem results_cell37t {fn : Func} {t u : Tmp} {tmps : Array Value} {g : Nat} {cs : Array Value} {w : World} (h : fn.results = #[.cell t 86, .tmp u]) (ht : tmps.getD t undef = .pointer (some ⟨g, 0, none⟩)) (hg : w.heap[g]? = some (.cells cs 86 (0, 0))) (hi : (Tryz.prog.info? 86).map (·.size) = some cs.size) :
    (results fn tmps).run Tryz.prog w = .ok (.tuple #[.agg cs, tmps.getD u undef]) w := by
  have hl := run_loadVar_row (P := Tryz.prog) w g 86 86 cs (0, 0) _ hg Tryz.underlying86 rfl hi
  unfold results
  rw [h]
  simp only [Array.mapM_eq_mapM_toList, List.mapM_cons, List.mapM_nil, ht]
  simp [asAddr, hl]
theorem look49 (L a q : Nat) (W : World) (ha : W.heap[a]? = some (.cells #[.pointer (some ⟨q, 0, none⟩), .int .i64 0, .int .i64 L, .pointer none] 146)) : Calls Tryz.prog 92 #[.pointer (some ⟨a, 0, none⟩)] W fun e w' => e = .returned (.pointer (some ⟨W.heap.size, 0, none⟩)) ∧ w' = W.alloc (.cells #[.pointer none, .int .i64 4194304] 172) := by
  obtain ⟨a0, a1, a2, a3⟩ := cell4 ha
  clear ha
  go_enter Tryz.func92, Tryz.ntmps92
  go_wp2_with fail
  go_ret
  exact ⟨rfl, rfl⟩
theorem read50_K (i : Int) (j : Nat) (x : Int) (hij : i = 0 ∧ j = 0 ∨ i = 1 ∧ j = 1 ∨ i = 2 ∧ j = 2) (hx : x = 5 ∨ x = 7 ∨ x = 8) (a l left : Nat) (W : World) (q r rc : Nat) (nu : Bool) (ao : Option Addr) (ca L : Nat) (v2 n2 c2 : Nat) (ha : W.heap[a]? = some (.cells #[.pointer (some ⟨q, 0, none⟩), .int .i64 0, .int .i64 L, .pointer none] 146)) (h : NdA nx W q r rc nu ao ca L 0 v2 n2 c2) (hl : W.heap[l]? = some (.cells #[.pointer none, .int .i64 left] 172)) (hlq : q ≠ l) (hlr : r ≠ l) (hlv : v2 ≠ l) (h16 : 16 ≤ left) (hle : left ≤ 4194304) (hn0 : j + 1 ≤ n2) (hn : n2 ≤ 100000) (hc : n2 ≤ c2) (h0 : W.cell? ⟨v2, j, none⟩ = some (.int .u8 x)) (h1 : W.cell? ⟨v2, j, none⟩ = some (.int .u8 x)) :
    Calls Tryz.prog 93 #[.pointer (some ⟨a, 0, none⟩), .pointer (some ⟨l, 0, none⟩), .int .i64 i] W fun e w' => e = .returned (.tuple #[.agg #[.bool false, .int .i64 x, .string ⟨#[]⟩, .slice none 0 0], .int .i64 0]) ∧ Rd1 W w' l left := by
  have hmf : ∀ (fn : Fn) (first cap : Array Value) (w : World), (Instr.makeFunc fn first cap).run Tryz.prog w = .ok (.func fn first cap) w := fun _ _ _ _ => rfl
  obtain ⟨A0, hA0⟩ : ∃ A0, W.alloc (.cells #[.pointer (some ⟨a, 0, none⟩)] 110) = A0 := ⟨_, rfl⟩
  have g0 : Gr W A0 := by rw [← hA0]; exact gr_alloc W _
  have b0 : A0.heap[W.heap.size]? = some (.cells #[.pointer (some ⟨a, 0, none⟩)] 110) := by rw [← hA0]; exact heap_alloc_new W _
  obtain ⟨A1, hA1⟩ : ∃ A1, A0.alloc (.cells #[.pointer (some ⟨l, 0, none⟩)] 177) = A1 := ⟨_, rfl⟩
  have g1 : Gr A0 A1 := by rw [← hA1]; exact gr_alloc A0 _
  have b1 : A1.heap[A0.heap.size]? = some (.cells #[.pointer (some ⟨l, 0, none⟩)] 177) := by rw [← hA1]; exact heap_alloc_new A0 _
  obtain ⟨A2, hA2⟩ : ∃ A2, A1.alloc (.cells #[.int .i64 i] 3) = A2 := ⟨_, rfl⟩
  have g2 : Gr A1 A2 := by rw [← hA2]; exact gr_alloc A1 _
  have b2 : A2.heap[A1.heap.size]? = some (.cells #[.int .i64 i] 3) := by rw [← hA2]; exact heap_alloc_new A1 _
  obtain ⟨A3, hA3⟩ : ∃ A3, A2.alloc (.cells #[.bool false, .int .i64 0, .string ⟨#[]⟩, .slice none 0 0] 86) = A3 := ⟨_, rfl⟩
  have g3 : Gr A2 A3 := by rw [← hA3]; exact gr_alloc A2 _
  have b3 : A3.heap[A2.heap.size]? = some (.cells #[.bool false, .int .i64 0, .string ⟨#[]⟩, .slice none 0 0] 86) := by rw [← hA3]; exact heap_alloc_new A2 _
  have z3 : A3.heap.size = A2.heap.size + 1 := by rw [← hA3]; simp
  obtain ⟨A4, hA4⟩ : ∃ A4, A3.alloc (.cells #[.bool false, .int .i64 0, .string ⟨#[]⟩, .slice none 0 0] 86) = A4 := ⟨_, rfl⟩
  have g4 : Gr A3 A4 := by rw [← hA4]; exact gr_alloc A3 _
  have b4 : A4.heap[A3.heap.size]? = some (.cells #[.bool false, .int .i64 0, .string ⟨#[]⟩, .slice none 0 0] 86) := by rw [← hA4]; exact heap_alloc_new A3 _
  have b3' := (g4.block _ (lt_of_heap b3) id).trans b3
  have g34 := g3.trans g4 (fun _ _ h => h)
  have g24 := g2.trans g34 (fun _ _ h => h)
  have g14 := g1.trans g24 (fun _ _ h => h)
  have gW : Gr W A4 := g0.trans g14 (fun _ _ h => h)
  have hRC : RdC A4 L A0.heap.size W.heap.size A1.heap.size A3.heap.size l a q i left := ⟨(g24.block _ (lt_of_heap b1) id).trans b1, (g14.block _ (lt_of_heap b0) id).trans b0, (g34.block _ (lt_of_heap b2) id).trans b2, b4, (gW.block _ (lt_of_heap ha) id).trans ha, (gW.block _ (lt_of_heap hl) id).trans hl⟩
  have hll := lt_of_heap hl
  have s0 := g0.size
  have s1 := g1.size
  have s2 := g2.size
  have HC := hidM (caught73 A0.heap.size W.heap.size A1.heap.size A3.heap.size (fun z => z = l ∨ z = A3.heap.size) (fun w => w.heap[l]? = some (.cells #[.pointer none, .int .i64 ((left - 16 : Nat) : Int)] 172) ∧ w.heap[A3.heap.size]? = some (.cells #[.bool false, .int .i64 x, .string ⟨#[]⟩, .slice none 0 0] 86)) A4 (fun e => by have := lt_of_heap b4; have := gW.size; rcases e with e | e <;> omega)
    (fun u v hu g => ⟨(g.block _ (lt_of_heap hu.1) id).trans hu.1, (g.block _ (lt_of_heap hu.2) id).trans hu.2⟩)
    (fun A gA => by
      have gWA := gW.trans gA (fun _ _ h => h)
      exact read74_K i j x hij hx A0.heap.size W.heap.size A1.heap.size A3.heap.size a l left A q r rc nu ao ca L v2 n2 c2 ⟨(gA.block _ (lt_of_heap hRC.h4) id).trans hRC.h4, (gA.block _ (lt_of_heap hRC.h3) id).trans hRC.h3, (gA.block _ (lt_of_heap hRC.h5) id).trans hRC.h5, (gA.block _ (lt_of_heap hRC.h8) id).trans hRC.h8, (gA.block _ (lt_of_heap hRC.ha) id).trans hRC.ha, (gA.block _ (lt_of_heap hRC.hl) id).trans hRC.hl⟩ (h.gr gWA) hlq hlr hlv h16 hle hn0 hn hc (gWA.cell' h0 id) (gWA.cell' h1 id)))
  have HT : Hid (∀ w2, Keeps A4 w2 (fun z => z = l ∨ z = A3.heap.size) → (w2.heap[l]? = some (.cells #[.pointer none, .int .i64 ((left - 16 : Nat) : Int)] 172) ∧ w2.heap[A3.heap.size]? = some (.cells #[.bool false, .int .i64 x, .string ⟨#[]⟩, .slice none 0 0] 86)) → w2.heap[A2.heap.size]? = some (.cells #[.bool false, .int .i64 0, .string ⟨#[]⟩, .slice none 0 0] 86) ∧ (vlU w2 A2.heap.size false x).heap[A2.heap.size]? = some (.cells #[.bool false, .int .i64 x, .string ⟨#[]⟩, .slice none 0 0] 86) ∧ Rd1 W (vlU w2 A2.heap.size false x) l left) := fun w2 k2 ⟨e1, e2⟩ => by
    have hb := (k2.block _ (lt_of_heap b3') (fun e => by rcases e with e | e <;> omega)).trans b3'
    refine ⟨hb, vl_blk hb, ?_, ((vl_kp _ _ _ _).block l (lt_of_heap e1) (fun e => by have e' : l = A2.heap.size := e; omega)).trans e1⟩
    exact ((gW.mono fun _ _ h => h.elim).trans k2 (fun j hj e => e.elim id (fun e => by omega))).trans (vl_kp _ _ _ _) (fun j hj e => by have e' : j = A2.heap.size := e; omega)
  clear g0 b0 g1 b1 g2 b2 g3 b3 z3 g4 b4 b3' g34 g24 g14 gW hRC hll s0 s1 s2 ha h hl h0 h1
  go_enter Tryz.func93, Tryz.ntmps93
  go_wp2_with (go_at_call 117; refine HC.out.mono ?_; rintro e w2 ⟨rfl, k2, e2⟩; obtain ⟨hr3, hu3, hq3⟩ := HT.out w2 k2 e2; obtain ⟨U, hU⟩ : ∃ U, vlU w2 A2.heap.size false x = U := ⟨_, rfl⟩; rw [hU] at hu3 hq3; simp only [vlU, setAll] at hU; obtain ⟨y0, y1, y2, y3⟩ := cell4 hr3; have x0 := frz hr3 0; have x1 := frz hr3 1; have x2 := frz hr3 2; have x3 := frz hr3 3; obtain ⟨f0, f1, f2, f3⟩ := cell4 e2.2; have HU3 := hidM hu3; have HQ3 := hidM hq3; clear hr3 hu3 hq3 k2 e2 hA0 hA1 hA2 hA3 hA4)
  (try simp only [Exit.inBlock, Exit.then])
  refine bodyPost_ret (results_cell37t rfl rfl (by with_reducible exact HU3.out) (by kernel_rfl)) rfl ?_
  exact ⟨rfl, HQ3.out⟩
end Go.Proofs.YteggcdhibcjneaaGreatDoor.Kit
namespace Go.Proofs.YteggcdhibcjneaaGreatDoor.Kit
open Go.RowKit Go.Shelf Go.Deep
set_option linter.unusedVariables false
/-! ### a region that draws its order, in a round of a range over a function -/
theorem no_depth {l : Nat} (h : (Fence.wide.inRound l).depth.isSome = true) : False := by cases h
theorem rows_round {P : Program} {row : String} {args : Array Value} {w : World} {R : Value → World → Prop} {l n : Nat} (h : Rows P row args w R) : RowsIn (Fence.wide.inRound l) n P row args w R := fun c cs _ =>
  let ⟨v, w', r, s⟩ := h c cs
  ⟨v, w', r, stepsIn_wide.2 s⟩
theorem op_round {P : Program} {ops : Array Oper} {Q : Exit → Act → World → Prop} {i : Nat} {K : Act → World → Prop} {a : Act} {w : World} {l n : Nat} (hd : ∀ o, ops[i]? = some o → ∀ c, o.op ≠ .defer c) (hlo : ¬ LetsOut Q)
    (h : wpOp P ops Q i K a w) : wpOpIn (Fence.wide.inRound l) n P ops Q i K a w := by
  unfold wpOp at h
  unfold wpOpIn
  cases ho : ops[i]? with
  | none => simpa [ho] using h
  | some o =>
    simp only [ho] at h ⊢
    split
    · rename_i hw
      simp only [hw, if_true] at h
      have h1 : o.wp P a w K Q := h.resolve_right fun h => hlo h.2
      refine ⟨fun _ _ => trivial, ?_⟩
      have e : o.semAt (Fence.wide.inRound l).round a.eval = execOp a.eval o := Oper.semAt_some l _ _ (hd o ho)
      rw [e]
      unfold Oper.wp at h1
      generalize (execOp a.eval o).run P w = r at h1 ⊢
      cases r with
      | ok x w' =>
        cases x <;> simp only [Oper.upon] at h1 <;> simp only [Oper.uponIn] <;>
          first
            | exact h1
            | exact ⟨fun h => (no_depth h).elim, CallsIn.inRound l (callsIn_wide.2 h1)⟩
            | exact ⟨fun h => (no_depth h).elim, rows_round h1⟩
            | exact h1.elim
      | halt x w' => cases x <;> simp only [Oper.upon] at h1 <;> simp only [Oper.uponIn] <;> exact h1
    · rename_i hw
      simp only [hw] at h
      exact ⟨fun _ _ => trivial, h⟩
theorem any_round {P : Program} {md : Region.Mode} {ops : Array Oper} {Q : Exit → Act → World → Prop} {l n : Nat} (hd : ∀ (i : Nat) (o : Oper), ops[i]? = some o → ∀ c, o.op ≠ Op.defer c) (hlo : ¬ LetsOut Q) :
    ∀ (fuel : Nat) (listed : Array Bool) (a : Act) (w : World), wpAny P md ops Q fuel listed a w → wpAnyIn (Fence.wide.inRound l) n P md ops Q fuel listed a w
  | 0, _, _, _, h => h
  | fuel + 1, listed, a, w, h => ⟨h.1, fun i hi => op_round (hd i) hlo (wpOp_mono (fun a' w' => any_round hd hlo fuel _ a' w') (h.2 i hi))⟩
theorem region_round {P : Program} {ops : Array Oper} {Q : Exit → Act → World → Prop} {S : World → Prop} {l n id : Nat} {a : Act} {w : World} (hm : P.follows .mixedOrders = true) (hd : ∀ (i : Nat) (o : Oper), ops[i]? = some o → ∀ c, o.op ≠ Op.defer c) (hlo : ¬ LetsOut Q)
    (h : wpAnyH P .any ops Q S ops.size (Array.replicate ops.size false) a w.drew) : (Code.region id ops true).wpIn (Fence.wide.inRound l) n P Q a w :=
  wpIn_region_any hm (any_round hd hlo _ _ _ _ (wpAny_of_held _ _ _ _ h))
end Go.Proofs.YteggcdhibcjneaaGreatDoor.Kit
namespace Go.Proofs.YteggcdhibcjneaaGreatDoor.Kit
open Go.RowKit Go.Shelf Go.Deep
set_option linter.unusedVariables false

def noDefer (ops : Array Oper) : Bool := ops.all fun o => match o.op with | .defer _ => false | _ => true
theorem noDefer_spec {ops : Array Oper} (h : noDefer ops = true) (i : Nat) (o : Oper) (ho : ops[i]? = some o) (c : Call) : o.op ≠ Op.defer c := fun e => by
  unfold noDefer at h
  rw [Array.all_eq_true_iff_forall_mem] at h
  have := h o (Array.mem_of_getElem? ho)
  rw [e] at this
  cases this
theorem gr_allocD2 (V : World) (o : Obj) : Gr V.drew (V.alloc o).drew := gr_alloc V.drew o
end Go.Proofs.YteggcdhibcjneaaGreatDoor.Kit
namespace Go.Proofs
open Go.Shelf
def Tryz.laysNm221_ren : Go.Shelf.Ren := ⟨fun | 21 => 136 | 27 => 155 | 28 => 156 | 35 => 168 | 39 => 178 | n => n, fun | 22 => 34 | 3 => 3 | 4 => 4 | 0 => 0 | n => n, fun | n => n⟩
theorem Tryz.laysNm221 : Go.Proofs.Lays2.n21 Tryz.prog Tryz.laysNm221_ren := {
  mixed := by kernel_rfl
  f21 := Tryz.func136.trans (congrArg some (by kernel_rfl))
  f27 := Tryz.func155.trans (congrArg some (by kernel_rfl))
  f28 := Tryz.func156.trans (congrArg some (by kernel_rfl))
  f35 := Tryz.func168.trans (congrArg some (by kernel_rfl))
  f39 := Tryz.func178.trans (congrArg some (by kernel_rfl))
  t0 := Tryz.underlying0
  a0 := Tryz.isAgg0
  z0 := Tryz.sizeOf0
  v0 := Tryz.zeroValue0
  t3 := Tryz.underlying3
  a3 := Tryz.isAgg3
  z3 := Tryz.sizeOf3
  v3 := Tryz.zeroValue3
  t4 := Tryz.underlying4
  a4 := Tryz.isAgg4
  z4 := Tryz.sizeOf4
  v4 := Tryz.zeroValue4
  t22 := Tryz.underlying34
  a22 := Tryz.isAgg34
  z22 := Tryz.sizeOf34
  v22 := Tryz.zeroValue34
  i3 := by kernel_rfl }
end Go.Proofs
