import Derived.Test.YthhpamhfnpacpaaGreatDoorNE
set_option linter.unusedVariables false
set_option linter.unusedSimpArgs false
set_option maxRecDepth 100000
set_option maxHeartbeats 8000000
namespace Go.Proofs.YthhpamhfnpacpaaGreatDoor.Kit
variable {nx : Bool}
open Go.RowKit Go.Shelf Go.Deep
open Kd (Ans cell5 cell2)
attribute [local go_sem] run_store_func
theorem mk84 (w : World) : (Instr.makeSlice 106 (.int .i64 2) (.int .i64 2)).run Tryz.prog w = .ok (.slice (some ⟨w.heap.size, 0, none⟩) 2 2) (w.alloc (.cells #[.bool false, .bool false] 4)) := by kernel_rfl
theorem paired15 (gl gr : Nat) (xl xr : Nat → Int) (W : World) (hRl : RwsK xl 3 gl 3 W) (hRr : RwsK xr 2 gr 2 W) (hxl0 : xl 0 = 5) (hxl1 : xl 1 = 7) (hxl2 : xl 2 = 5) (hx0 : xr 0 = 8) (hx1 : xr 1 = 5) :
  Calls Tryz.prog 35 #[.int .i64 3, .slice (some ⟨gl, 0, none⟩) 3 3, .slice (some ⟨gr, 0, none⟩) 2 2] W fun e w' => ∃ g cap, e = .returned (.tuple #[.slice (some ⟨g, 0, none⟩) 4 cap, .int .i64 0]) ∧ FrP W.heap.size W w' ∧ w'.ownsRow 0 45 2 (.slice (some ⟨g, 0, none⟩) 4 cap) 4 (flat2 [((0 : Int), (1 : Int)), (1, -1), (2, 1), (-1, 0)]) := by
 obtain ⟨A0, hA0, g0, b0⟩ := nw W (.cells #[.slice none 0 0] 40)
 have HC26 := hidM (manner26 W.heap.size A0)
 have HC28 : Hid (∀ u, Gr A0 u → Calls Tryz.prog 47 #[.slice (some ⟨gr, 0, none⟩) 2 2] u fun e w' => ∃ m v v', e = .returned (.agg #[.slice (some ⟨gr, 0, none⟩) 2 2, .map (some m)]) ∧ Gr u w' ∧ MpAt w' m [(hR 8, v), (hR 5, v')] ∧ Ent w' 0 v ∧ Ent w' 1 v') := fun u g => indexed28 gr xr u (hRr.st (St.ofGr (g0.tr g))) hx0 hx1
 have HW : Hid (∀ u, Gr A0 u → FrP W.heap.size W u ∧ PAt u W.heap.size [] ∧ RwsK xl 3 gl 3 u ∧ RwsK xr 2 gr 2 u) := fun u g => ⟨FrP.ofGr (g0.tr g), ⟨_, (g.block _ (lt_of_heap b0) id).trans b0, World.ownsRow_nil _ 0 45 2, fun g e => by simp [Value.ownBlock] at e⟩, hRl.st (St.ofGr (g0.tr g)), hRr.st (St.ofGr (g0.tr g))⟩
 have HZ0 : Hid (A0.heap.size = W.heap.size + 1) := by rw [← hA0]; simp [Hid]
 clear g0 b0 hRl hRr
 go_enter Tryz.func35, Tryz.ntmps35
 go_wp2_with (first
  | (go_at_call 45; refine HC26.out.mono ?_; rintro e w1 ⟨p, rfl, g1, hp⟩; obtain ⟨A1, hA1⟩ := ex (w1.alloc (.cells #[.func (.func 63) #[] #[.pointer (some ⟨p, 0, none⟩)], .func (.func 66) #[] #[.pointer (some ⟨p, 0, none⟩)], .func (.func 67) #[] #[.pointer (some ⟨p, 0, none⟩)]] 99)); have gA1 : Gr w1 A1 := by { rw [← hA1]; exact gr_alloc _ _ }; have bA1 : A1.heap[w1.heap.size]? = some (.cells #[.func (.func 63) #[] #[.pointer (some ⟨p, 0, none⟩)], .func (.func 66) #[] #[.pointer (some ⟨p, 0, none⟩)], .func (.func 67) #[] #[.pointer (some ⟨p, 0, none⟩)]] 99) := by { rw [← hA1]; exact heap_alloc_new _ _ }; have HA1 : Hid (Gr A0 A1 ∧ A1.heap[p]? = some (.cells #[.func (.func 46) #[] #[.pointer (some ⟨W.heap.size, 0, none⟩)]] 101) ∧ A1.heap[w1.heap.size]? = some (.cells #[.func (.func 63) #[] #[.pointer (some ⟨p, 0, none⟩)], .func (.func 66) #[] #[.pointer (some ⟨p, 0, none⟩)], .func (.func 67) #[] #[.pointer (some ⟨p, 0, none⟩)]] 99)) := ⟨g1.tr gA1, (gA1.block _ (lt_of_heap hp) id).trans hp, bA1⟩; obtain ⟨d0, d1, d2⟩ := cell3 bA1; have dz := frzA bA1; clear g1 hp gA1 bA1)
  | (go_at_call 47; refine (HC28.out A1 HA1.out.1).mono ?_; rintro e w2 ⟨m, v, v', rfl, g2, hm, en0, en1⟩; obtain ⟨A2, hA2⟩ := ex (w2.alloc (.cells #[.slice (some ⟨gr, 0, none⟩) 2 2, .map (some m)] 104)); have gA2 : Gr w2 A2 := by { rw [← hA2]; exact gr_alloc _ _ }; have bA2 : A2.heap[w2.heap.size]? = some (.cells #[.slice (some ⟨gr, 0, none⟩) 2 2, .map (some m)] 104) := by { rw [← hA2]; exact heap_alloc_new _ _ }; obtain ⟨A3, hA3⟩ := ex (A2.alloc (.cells #[.bool false, .bool false] 4)); have gA3 : Gr A2 A3 := by { rw [← hA3]; exact gr_alloc _ _ }; have bA3 : A3.heap[A2.heap.size]? = some (.cells #[.bool false, .bool false] 4) := by { rw [← hA3]; exact heap_alloc_new _ _ }; have hmk : (Instr.makeSlice 106 (.int .i64 2) (.int .i64 2)).run Tryz.prog A2 = .ok (.slice (some ⟨A2.heap.size, 0, none⟩) 2 2) A3 := by { rw [← hA3]; exact mk84 A2 }; have g23 := gA2.tr gA3; have g13 : Gr A1 A3 := g2.tr g23; have g03 : Gr A0 A3 := HA1.out.1.tr g13; have HI0 : Hid (PrI W xl xr gl gr W.heap.size p w1.heap.size w2.heap.size m A2.heap.size v v' ([] : List (Int × Int)) #[.bool false, .bool false] A3) := ⟨(HW.out A3 g03).1, (HW.out A3 g03).2.1, ⟨(g13.block _ (lt_of_heap HA1.out.2.1) id).trans HA1.out.2.1, (g13.block _ (lt_of_heap HA1.out.2.2) id).trans HA1.out.2.2, (gA3.block _ (lt_of_heap bA2) id).trans bA2, (g23.block _ (lt_of_heap hm) id).trans hm, en1.gr g23, (HW.out A3 g03).2.2.1, (HW.out A3 g03).2.2.2⟩, bA3, by { have := HZ0.out; have := HA1.out.1.size; have := g2.size; have := gA2.size; omega }, by { have := HZ0.out; have := HA1.out.1.size; have := g2.size; have := gA2.size; omega }⟩; obtain ⟨x0, x1⟩ := cell2 bA2; have xz := frzA bA2; clear g2 hm en0 en1 gA2 bA2 gA3 bA3 g23 g13 g03 d0 d1 d2 dz))
 clear hmk x0 x1 xz HC26 HC28 HW HZ0 HA1 hA0 hA1 hA2 hA3
 go_loopw [28] (fun i wr => ∃ k : Nat, k ≤ 3 ∧ i = .int .i64 k ∧ Hid ((k = 0 ∧ PrI W xl xr gl gr W.heap.size p w1.heap.size w2.heap.size m A2.heap.size v v' ([] : List (Int × Int)) #[.bool false, .bool false] wr) ∨ (k = 1 ∧ PrI W xl xr gl gr W.heap.size p w1.heap.size w2.heap.size m A2.heap.size v v' [((0 : Int), (1 : Int))] #[.bool false, .bool true] wr) ∨ (k = 2 ∧ PrI W xl xr gl gr W.heap.size p w1.heap.size w2.heap.size m A2.heap.size v v' [((0 : Int), (1 : Int)), (1, -1)] #[.bool false, .bool true] wr) ∨ (k = 3 ∧ PrI W xl xr gl gr W.heap.size p w1.heap.size w2.heap.size m A2.heap.size v v' [((0 : Int), (1 : Int)), (1, -1), (2, 1)] #[.bool false, .bool true] wr))) (fun i _ => 3 - (intOf i).toNat)
 case atStart => exact ⟨0, by omega, rfl, .inl ⟨rfl, HI0.out⟩⟩
 case round =>
  clear HI0
  obtain ⟨k, hk, rfl, HR⟩ := hrel
  rcases HR.out with ⟨rfl, hI⟩ | ⟨rfl, hI⟩ | ⟨rfl, hI⟩ | ⟨rfl, hI⟩ <;> clear HR
  ·rw [show ((0 : Nat) : Int) = 0 from rfl]
   obtain ⟨ls, cs, hr, hv⟩ := hI.2.2.1.fl
   obtain ⟨l1, hl1⟩ : ∃ l1, l1 = ls 0 := ⟨_, rfl⟩
   obtain ⟨c1, hc1⟩ : ∃ c1, c1 = cs 0 := ⟨_, rfl⟩
   have rv : RwV wr l1 5 := by
    have := (hv 0 (by omega)).2.1
    rw [← hl1, hxl0] at this
    exact this
   obtain ⟨r0, r1, r2, r3⟩ := rwCells3 (k := 0) (by omega) hr
   rw [← hl1, ← hc1] at r3
   simp only [Nat.reduceMul, Nat.reduceAdd] at r0 r1 r2 r3
   clear hr hv hl1 hc1
   obtain ⟨A, hA, gA, bA⟩ := nw wr (.cells #[.bool false, .int .i64 0, .string ⟨#[]⟩, .slice (some ⟨l1, 0, none⟩) 1 c1] 108)
   have jA := hI.gr gA
   have HJ := hidM jA
   obtain ⟨y0, y1, y2, y3⟩ := cell4 bA
   have yz := frzA bA
   obtain ⟨e0, e1⟩ := cell2 jA.2.2.1.fx
   obtain ⟨lb, lc, ib, ic, cur, q1, q2, q3, q4⟩ := jA.2.2.1.fe
   have HC29 := hidM (met_one (c2 := c1) jA.2.2.1 hx1 q1 q2 q3 q4 (rv.gr gA))
   have HC40 : Hid (∀ u, Gr A u → u.cell? ⟨w1.heap.size, 0, none⟩ = some (.func (.func 63) #[] #[.pointer (some ⟨p, 0, none⟩)]) ∧ Calls Tryz.prog 63 #[.int .i64 0, .slice (some ⟨ib, 0, none⟩) 1 ic, .pointer (some ⟨p, 0, none⟩)] u fun e w' => e = .returned (.tuple #[]) ∧ FrP W.heap.size u w' ∧ PAt w' W.heap.size [((0 : Int), (1 : Int))]) := fun u g =>
    ⟨(cell3 (jA.gr g).2.2.1.fd).1, all40 p W.heap.size ib ic ([] : List (Int × Int)) 0 u (jA.gr g).2.2.1.fp (cell1 ((g.block _ (lt_of_heap q4) id).trans q4)) (jA.gr g).2.1 (by decide)⟩
   have HN5 : Hid (∀ u w5, Gr A u → FrP W.heap.size u w5 → PAt w5 W.heap.size [((0 : Int), (1 : Int))] → PrI W xl xr gl gr W.heap.size p w1.heap.size w2.heap.size m A2.heap.size v v' [((0 : Int), (1 : Int))] #[.bool false, .bool false] w5 ∧ w5.cell? ⟨ib, 0, none⟩ = some (.int .i64 1)) := fun u w5 g f h =>
    ⟨(jA.gr g).fr f h, cell1 ((St.ofFr f (jA.gr g).2.1).1 _ _ _ ((g.block _ (lt_of_heap q4) id).trans q4) (by decide) (by decide) (by decide))⟩
   clear rv gA bA jA q1 q2 q3 q4 hI
   go_wp2_with (first
    | (go_at_call 48; refine HC29.out.mono ?_; rintro e w4 ⟨rfl, g4⟩; have HG4 := hidM g4; clear y0 y1 y2 y3 e0 e1 r0 r1 r2 r3 yz hA; obtain ⟨d0, -⟩ := HC40.out w4 g4; clear g4)
    | (go_at_call 63; refine (HC40.out w4 HG4.out).2.mono ?_; rintro e w5 ⟨rfl, f5, h5⟩; obtain ⟨h6, i0⟩ := HN5.out w4 w5 HG4.out f5 h5; have HI5 := hidM h6; obtain ⟨g9, cap, p0, -⟩ := h6.2.1.get (n := 1) rfl (by omega); obtain ⟨m0, m1⟩ := cell2 h6.2.2.2.1; have mz := frzA h6.2.2.2.1; clear f5 h5 h6 d0))
   obtain ⟨X, hX⟩ := ex (w5.setCell ⟨A2.heap.size, 1, none⟩ (.bool true))
   have HIX : Hid (PrI W xl xr gl gr W.heap.size p w1.heap.size w2.heap.size m A2.heap.size v v' [((0 : Int), (1 : Int))] #[.bool false, .bool true] X) := by rw [← hX]; exact HI5.out.met
   clear HC29 HC40 HN5 HJ
   go_loopw [53] (fun i wr => ∃ k : Nat, k ≤ 1 ∧ i = .int .i64 k ∧ Hid ((k = 0 ∧ wr = w5) ∨ (k = 1 ∧ wr = X))) (fun i _ => 1 - (intOf i).toNat)
   case atStart => exact ⟨0, by omega, rfl, .inl ⟨rfl, rfl⟩⟩
   case round =>
    obtain ⟨k, hk, rfl, HR⟩ := hrel
    rcases HR.out with ⟨rfl, rfl⟩ | ⟨rfl, rfl⟩
    ·clear HR
     rw [show ((0 : Nat) : Int) = 0 from rfl]
     go_wp2_with fail
     go_roundw
     case rel => exact ⟨1, by omega, by go_num, .inr ⟨rfl, by trivial⟩⟩
     case measure => simp [intOf]
    clear HR
    rw [show ((1 : Nat) : Int) = 1 from rfl]
    go_wp2_with fail
    go_roundw
    case rel => exact ⟨1, by omega, by go_num, .inr (.inl ⟨rfl, HIX.out⟩)⟩
    case measure => simp [intOf]
  ·rw [show ((1 : Nat) : Int) = 1 from rfl]
   obtain ⟨ls, cs, hr, hv⟩ := hI.2.2.1.fl
   obtain ⟨l1, hl1⟩ : ∃ l1, l1 = ls 1 := ⟨_, rfl⟩
   obtain ⟨c1, hc1⟩ : ∃ c1, c1 = cs 1 := ⟨_, rfl⟩
   have rv : RwV wr l1 7 := by
    have := (hv 1 (by omega)).2.1
    rw [← hl1, hxl1] at this
    exact this
   obtain ⟨r0, r1, r2, r3⟩ := rwCells3 (k := 1) (by omega) hr
   rw [← hl1, ← hc1] at r3
   simp only [Nat.reduceMul, Nat.reduceAdd] at r0 r1 r2 r3
   clear hr hv hl1 hc1
   obtain ⟨A, hA, gA, bA⟩ := nw wr (.cells #[.bool false, .int .i64 0, .string ⟨#[]⟩, .slice (some ⟨l1, 0, none⟩) 1 c1] 108)
   have jA := hI.gr gA
   have HJ := hidM jA
   obtain ⟨y0, y1, y2, y3⟩ := cell4 bA
   have yz := frzA bA
   obtain ⟨e0, e1⟩ := cell2 jA.2.2.1.fx
   have HC29 := hidM (met_no (c2 := c1) jA.2.2.1 (rv.gr gA))
   have HC43 : Hid (∀ u, Gr A u → u.cell? ⟨w1.heap.size, 1, none⟩ = some (.func (.func 66) #[] #[.pointer (some ⟨p, 0, none⟩)]) ∧ Calls Tryz.prog 66 #[.int .i64 1, .pointer (some ⟨p, 0, none⟩)] u fun e w' => e = .returned (.tuple #[]) ∧ FrP W.heap.size u w' ∧ PAt w' W.heap.size [((0 : Int), (1 : Int)), (1, -1)]) := fun u g =>
    ⟨(cell3 (jA.gr g).2.2.1.fd).2.1, alone43 p W.heap.size [((0 : Int), (1 : Int))] 1 u (jA.gr g).2.2.1.fp (jA.gr g).2.1 (by decide)⟩
   clear rv gA bA jA hI
   go_wp2_with (first
    | (go_at_call 48; refine HC29.out.mono ?_; rintro e w4 ⟨rfl, g4⟩; have HG4 := hidM g4; clear y0 y1 y2 y3 e0 e1 r0 r1 r2 r3 yz hA; obtain ⟨d1, -⟩ := HC43.out w4 g4; clear g4)
    | (go_at_call 66; refine (HC43.out w4 HG4.out).2.mono ?_; rintro e w5 ⟨rfl, f5, h5⟩; have HI5 := hidM ((HJ.out.gr HG4.out).fr f5 h5); clear f5 h5 d1))
   go_roundw
   case rel => exact ⟨2, by omega, by go_num, .inr (.inr (.inl ⟨rfl, HI5.out⟩))⟩
   case measure => simp [intOf]
  ·rw [show ((2 : Nat) : Int) = 2 from rfl]
   obtain ⟨ls, cs, hr, hv⟩ := hI.2.2.1.fl
   obtain ⟨l1, hl1⟩ : ∃ l1, l1 = ls 2 := ⟨_, rfl⟩
   obtain ⟨c1, hc1⟩ : ∃ c1, c1 = cs 2 := ⟨_, rfl⟩
   have rv : RwV wr l1 5 := by
    have := (hv 2 (by omega)).2.1
    rw [← hl1, hxl2] at this
    exact this
   obtain ⟨r0, r1, r2, r3⟩ := rwCells3 (k := 2) (by omega) hr
   rw [← hl1, ← hc1] at r3
   simp only [Nat.reduceMul, Nat.reduceAdd] at r0 r1 r2 r3
   clear hr hv hl1 hc1
   obtain ⟨A, hA, gA, bA⟩ := nw wr (.cells #[.bool false, .int .i64 0, .string ⟨#[]⟩, .slice (some ⟨l1, 0, none⟩) 1 c1] 108)
   have jA := hI.gr gA
   have HJ := hidM jA
   obtain ⟨y0, y1, y2, y3⟩ := cell4 bA
   have yz := frzA bA
   obtain ⟨e0, e1⟩ := cell2 jA.2.2.1.fx
   obtain ⟨lb, lc, ib, ic, cur, q1, q2, q3, q4⟩ := jA.2.2.1.fe
   have HC29 := hidM (met_one (c2 := c1) jA.2.2.1 hx1 q1 q2 q3 q4 (rv.gr gA))
   have HC40 : Hid (∀ u, Gr A u → u.cell? ⟨w1.heap.size, 0, none⟩ = some (.func (.func 63) #[] #[.pointer (some ⟨p, 0, none⟩)]) ∧ Calls Tryz.prog 63 #[.int .i64 2, .slice (some ⟨ib, 0, none⟩) 1 ic, .pointer (some ⟨p, 0, none⟩)] u fun e w' => e = .returned (.tuple #[]) ∧ FrP W.heap.size u w' ∧ PAt w' W.heap.size [((0 : Int), (1 : Int)), (1, -1), (2, 1)]) := fun u g =>
    ⟨(cell3 (jA.gr g).2.2.1.fd).1, all40 p W.heap.size ib ic [((0 : Int), (1 : Int)), (1, -1)] 2 u (jA.gr g).2.2.1.fp (cell1 ((g.block _ (lt_of_heap q4) id).trans q4)) (jA.gr g).2.1 (by decide)⟩
   have HN5 : Hid (∀ u w5, Gr A u → FrP W.heap.size u w5 → PAt w5 W.heap.size [((0 : Int), (1 : Int)), (1, -1), (2, 1)] → PrI W xl xr gl gr W.heap.size p w1.heap.size w2.heap.size m A2.heap.size v v' [((0 : Int), (1 : Int)), (1, -1), (2, 1)] #[.bool false, .bool true] w5 ∧ w5.cell? ⟨ib, 0, none⟩ = some (.int .i64 1)) := fun u w5 g f h =>
    ⟨(jA.gr g).fr f h, cell1 ((St.ofFr f (jA.gr g).2.1).1 _ _ _ ((g.block _ (lt_of_heap q4) id).trans q4) (by decide) (by decide) (by decide))⟩
   clear rv gA bA jA q1 q2 q3 q4 hI
   go_wp2_with (first
    | (go_at_call 48; refine HC29.out.mono ?_; rintro e w4 ⟨rfl, g4⟩; have HG4 := hidM g4; clear y0 y1 y2 y3 e0 e1 r0 r1 r2 r3 yz hA; obtain ⟨d0, -⟩ := HC40.out w4 g4; clear g4)
    | (go_at_call 63; refine (HC40.out w4 HG4.out).2.mono ?_; rintro e w5 ⟨rfl, f5, h5⟩; obtain ⟨h6, i0⟩ := HN5.out w4 w5 HG4.out f5 h5; have HI5 := hidM h6; obtain ⟨g9, cap, p0, -⟩ := h6.2.1.get (n := 3) rfl (by omega); obtain ⟨m0, m1⟩ := cell2 h6.2.2.2.1; have mz := frzA h6.2.2.2.1; clear f5 h5 h6 d0))
   obtain ⟨X, hX⟩ := ex (w5.setCell ⟨A2.heap.size, 1, none⟩ (.bool true))
   have HIX : Hid (PrI W xl xr gl gr W.heap.size p w1.heap.size w2.heap.size m A2.heap.size v v' [((0 : Int), (1 : Int)), (1, -1), (2, 1)] #[.bool false, .bool true] X) := by rw [← hX]; exact HI5.out.met
   clear HC29 HC40 HN5 HJ
   go_loopw [53] (fun i wr => ∃ k : Nat, k ≤ 1 ∧ i = .int .i64 k ∧ Hid ((k = 0 ∧ wr = w5) ∨ (k = 1 ∧ wr = X))) (fun i _ => 1 - (intOf i).toNat)
   case atStart => exact ⟨0, by omega, rfl, .inl ⟨rfl, rfl⟩⟩
   case round =>
    obtain ⟨k, hk, rfl, HR⟩ := hrel
    rcases HR.out with ⟨rfl, rfl⟩ | ⟨rfl, rfl⟩
    ·clear HR
     rw [show ((0 : Nat) : Int) = 0 from rfl]
     go_wp2_with fail
     go_roundw
     case rel => exact ⟨1, by omega, by go_num, .inr ⟨rfl, by trivial⟩⟩
     case measure => simp [intOf]
    clear HR
    rw [show ((1 : Nat) : Int) = 1 from rfl]
    go_wp2_with fail
    go_roundw
    case rel => exact ⟨3, by omega, by go_num, .inr (.inr (.inr ⟨rfl, HIX.out⟩))⟩
    case measure => simp [intOf]
  have HI := hidM hI
  clear hI
  rw [show ((3 : Nat) : Int) = 3 from rfl]
  go_wp2_with fail
  go_loopw [64] (fun i wr => ∃ k : Nat, k ≤ 2 ∧ i = .int .i64 k ∧ Hid ((k = 0 ∧ PrI W xl xr gl gr W.heap.size p w1.heap.size w2.heap.size m A2.heap.size v v' [((0 : Int), (1 : Int)), (1, -1), (2, 1)] #[.bool false, .bool true] wr) ∨ (1 ≤ k ∧ PrI W xl xr gl gr W.heap.size p w1.heap.size w2.heap.size m A2.heap.size v v' [((0 : Int), (1 : Int)), (1, -1), (2, 1), (-1, 0)] #[.bool false, .bool true] wr))) (fun i _ => 2 - (intOf i).toNat)
  case atStart => exact ⟨0, by omega, rfl, .inl ⟨rfl, HI.out⟩⟩
  case round =>
   clear HI
   obtain ⟨k, hk, rfl, HR⟩ := hrel
   rcases HR.out with ⟨rfl, hI⟩ | ⟨hk1, hI⟩ <;> clear HR
   ·rw [show ((0 : Nat) : Int) = 0 from rfl]
    have HI := hidM hI
    obtain ⟨m0, m1⟩ := cell2 hI.2.2.2.1
    obtain ⟨d0, d1, d2⟩ := cell3 hI.2.2.1.fd
    have HC44 := hidM (alone44 p W.heap.size [((0 : Int), (1 : Int)), (1, -1), (2, 1)] 0 wr hI.2.2.1.fp hI.2.1 (by decide))
    clear hI
    go_wp2_with (go_at_call 67; refine HC44.out.mono ?_; rintro e w5 ⟨rfl, f5, h5⟩; have HI5 := hidM (HI.out.fr f5 h5); clear f5 h5 m0 m1 d0 d1 d2)
    go_roundw
    case rel => exact ⟨1, by omega, by go_num, .inr ⟨by omega, HI5.out⟩⟩
    case measure => simp [intOf]
   have HI := hidM hI
   rcases (show k = 1 ∨ k = 2 by omega) with rfl | rfl
   ·rw [show ((1 : Nat) : Int) = 1 from rfl]
    obtain ⟨m0, m1⟩ := cell2 hI.2.2.2.1
    clear hI
    go_wp2_with fail
    go_roundw
    case rel => exact ⟨2, by omega, by go_num, .inr ⟨by omega, HI.out⟩⟩
    case measure => simp [intOf]
   rw [show ((2 : Nat) : Int) = 2 from rfl]
   obtain ⟨g9, cap, p0, ho⟩ := hI.2.1.get (n := 4) rfl (by omega)
   have HO := hidM ho
   clear hI ho
   go_wp2_with fail
   go_ret2
   exact ⟨_, _, rfl, HI.out.1, HO.out⟩
variable {nx ny : Bool}
open Kd (ZsAt ZsAt.gr)
theorem S1f.mn (ga ac gb bc za zac zb zbc : Nat) (ao bo : Option Addr) (ca cb : Nat) (W : World) (h1 : S1f nx W ga ac ao ca) (h2 : S1f ny W gb bc bo cb) (ha0 : W.cell? ⟨za, 0, none⟩ = some (.int .i64 0)) (hb0 : W.cell? ⟨zb, 0, none⟩ = some (.int .i64 0)) (hza : 1 ≤ zac) (hzb : 1 ≤ zbc) : MIn (fun b => b < W.heap.size) 0 [leafF (nmB nx) false 3] [leafF (nmB ny) false 3] [] [] [0] [0] (some ⟨ga, 0, none⟩) none (some ⟨gb, 0, none⟩) none (some ⟨za, 0, none⟩) (some ⟨zb, 0, none⟩) ac 0 bc 0 zac zbc W := by
 have hz : ∀ z : Nat, W.cell? ⟨z, 0, none⟩ = some (.int .i64 0) → ZsAt W (some ⟨z, 0, none⟩) [0] := fun z h _ => ⟨z, 0, rfl, fun j hj => by
  obtain rfl : j = 0 := by simpa using hj
  exact h⟩
 exact ⟨h1.T, row_leaf (lt_of_heap h1.f) h1.f, row_leaf (lt_of_heap h2.f) h2.f, h1.c1, h2.c1, ⟨by decide, fun h => absurd rfl h⟩, ⟨by decide, fun h => absurd rfl h⟩, hz za ha0, hz zb hb0, by decide, by decide, hza, hzb, fun _ h => h, by decide⟩
theorem leaf_fault (nx : Bool) : FaultIs (listsE 1 []) (nodes 1 [leafF (nmB nx) false 3] [] false) 0 [] 0 := .inr (.inl ⟨rfl, allR (nx := nx) false, rfl, rfl, rfl⟩)
theorem ask_leaf {k : Int} (hk : k = 2 ∨ k = 3) (nx ny : Bool) : AskIs 0 k [leafF (nmB nx) false 3] [leafF (nmB ny) false 3] [0] [0] 0 := by
 have hg : keysOk 1 [0] := fun i h => by
  obtain rfl : i = 0 := by simpa using h
  exact ⟨by simp, by simp, fun j h hj => by omega⟩
 refine .inr (.inr (.inr ⟨⟨by omega, by omega⟩, ⟨rfl, by decide, by decide, hg, hg⟩, fun i hi => ?_, rfl⟩))
 obtain rfl : i = 0 := by simpa using hi
 have h0 : alLs 0 [] [] = true := by rw [alLs]; rfl
 show (tyA (leafF (nmB nx) false 3) (leafF (nmB ny) false 3) && alLs 0 [] []) = true
 rw [h0]; rfl
theorem wrongSchemas10g (ga ac gb bc : Nat) (ao bo : Option Addr) (ca cb : Nat) (W : World) (h1 : S1f nx W ga ac ao ca) (h2 : S1f ny W gb bc bo cb) : Calls Tryz.prog 11 #[.agg #[.slice (some ⟨ga, 0, none⟩) 1 ac, .slice none 0 0], .agg #[.slice (some ⟨gb, 0, none⟩) 1 bc, .slice none 0 0]] W fun e w' => e = .returned (.int .i64 0) ∧ Gr W w' := by
 have t1 : Tells W 21 (.agg #[.slice (some ⟨ga, 0, none⟩) 1 ac, .slice none 0 0]) 0 [] 0 := tells21 (S := fun b => b = ga) (D := 1) (fs := [leafF (nmB nx) false 3]) (ns := []) h1.T (row_leaf rfl h1.f) h1.c1 (by decide) (fun b e => by have e' : b = ga := e; rw [e']; exact lt_of_heap h1.f) ⟨by decide, fun h => absurd rfl h⟩ (leaf_fault nx)
 have t2 : Tells W 21 (.agg #[.slice (some ⟨gb, 0, none⟩) 1 bc, .slice none 0 0]) 0 [] 0 := tells21 (S := fun b => b = gb) (D := 1) (fs := [leafF (nmB ny) false 3]) (ns := []) h2.T (row_leaf rfl h2.f) h2.c1 (by decide) (fun b e => by have e' : b = gb := e; rw [e']; exact lt_of_heap h2.f) ⟨by decide, fun h => absurd rfl h⟩ (leaf_fault ny)
 exact wrongSchemas11_0 (some ⟨ga, 0, none⟩) none (some ⟨gb, 0, none⟩) none 1 ac 0 0 1 bc 0 0 0 0 0 0 [] [] W t1 t2 rfl rfl
theorem wrongKeys11g (k : Int) (hk : k = 2 ∨ k = 3) (ga ac gb bc za zac zb zbc : Nat) (ao bo : Option Addr) (ca cb : Nat) (W : World) (h1 : S1f nx W ga ac ao ca) (h2 : S1f ny W gb bc bo cb) (ha0 : W.cell? ⟨za, 0, none⟩ = some (.int .i64 0)) (hb0 : W.cell? ⟨zb, 0, none⟩ = some (.int .i64 0)) (hza : 1 ≤ zac) (hzb : 1 ≤ zbc) : Calls Tryz.prog 12 #[.int .i64 k, .agg #[.slice (some ⟨ga, 0, none⟩) 1 ac, .slice none 0 0], .slice (some ⟨za, 0, none⟩) 1 zac, .agg #[.slice (some ⟨gb, 0, none⟩) 1 bc, .slice none 0 0], .slice (some ⟨zb, 0, none⟩) 1 zbc] W fun e w' => e = .returned (.int .i64 0) ∧ Gr W w' := by
 have q := S1f.mn ga ac gb bc za zac zb zbc ao bo ca cb W h1 h2 ha0 hb0 hza hzb
 have hok : ∀ nx : Bool, ∀ f ∈ [leafF (nmB nx) false 3], okB 0 f := fun nx f hf => by
  obtain rfl := List.mem_singleton.1 hf
  exact ⟨fun h => by rcases h with h | h <;> exact absurd (show (3 : Int) = _ from h) (by decide), rfl⟩
 exact ask12 0 (fun b => b < W.heap.size) k _ _ [0] [0] (some ⟨za, 0, none⟩) (some ⟨zb, 0, none⟩) (some ⟨ga, 0, none⟩) none (some ⟨gb, 0, none⟩) none zac zbc 1 ac 0 0 1 bc 0 0 0 W rfl rfl q.l1 q.l2 q.p1 q.p2 q.z1 q.z2 q.r1 q.r2 q.hT (hok nx) (hok ny) (ask_leaf hk nx ny)
theorem type7g (ga ac gb bc za zac zb zbc : Nat) (ao bo : Option Addr) (ca cb : Nat) (W : World) (h1 : S1f nx W ga ac ao ca) (h2 : S1f ny W gb bc bo cb) (ha0 : W.cell? ⟨za, 0, none⟩ = some (.int .i64 0)) (hb0 : W.cell? ⟨zb, 0, none⟩ = some (.int .i64 0)) (hza : 1 ≤ zac) (hzb : 1 ≤ zbc) : Calls Tryz.prog 5 #[.int .i64 2, .agg #[.slice (some ⟨ga, 0, none⟩) 1 ac, .slice none 0 0], .slice (some ⟨za, 0, none⟩) 1 zac, .agg #[.slice (some ⟨gb, 0, none⟩) 1 bc, .slice none 0 0], .slice (some ⟨zb, 0, none⟩) 1 zbc] W fun e w' => ∃ (g : Option Addr) (c : Nat), e = .returned (.tuple #[.agg #[.slice g 1 c, .slice none 0 0], .int .i64 0]) ∧ Gr W w' := by
 have q := S1f.mn ga ac gb bc za zac zb zbc ao bo ca cb W h1 h2 ha0 hb0 hza hzb
 have ho : outFs 0 2 [leafF (nmB nx) false 3] [leafF (nmB ny) false 3] [0] [0] = [leafF (nmB nx) false 3] := by rfl
 have h3 : FaultIs (listsE (outFs 0 2 [leafF (nmB nx) false 3] [leafF (nmB ny) false 3] [0] [0]).length []) (nodes 2 (outFs 0 2 [leafF (nmB nx) false 3] [leafF (nmB ny) false 3] [0] [0]) [] false) 0 [] 0 := by
  rw [ho]
  obtain ⟨-, -, h⟩ := own_fine (D := 1) (fs := [leafF (nmB nx) false 3]) (ns := []) (leaf_fault nx)
  exact h (fun f hf => by obtain rfl := List.mem_singleton.1 hf; rfl)
 refine Calls.mono (prog_ok q 2 (leaf_fault nx) (leaf_fault ny) (ask_leaf (.inl rfl) nx ny) h3) ?_
 rintro e w' ⟨xo, xN, xc, rfl, g, hq, -⟩
 obtain ⟨rfl, -, -⟩ := hq rfl
 rw [ho]
 exact ⟨xo, xc, rfl, g⟩
theorem Pairs9 {ny : Bool} (ga ac gb bc da dac db dbc qa qac qb qbc va vac vb vbc za zac zb zbc : Nat) (ao bo : Option Addr) (ca cb : Nat) (xl xr : Nat → Int) (W : World) (hA : Bt nx W 3 ga ac da dac qa qac va vac ao ca) (hB : Bt ny W 2 gb bc db dbc qb qbc vb vbc bo cb) (hxl : ∀ k, k < 3 → W.cell? ⟨va, k, none⟩ = some (.int .u8 (xl k)) ∧ (xl k = 5 ∨ xl k = 7 ∨ xl k = 8)) (hxr : ∀ k, k < 2 → W.cell? ⟨vb, k, none⟩ = some (.int .u8 (xr k)) ∧ (xr k = 5 ∨ xr k = 7 ∨ xr k = 8)) (hza : W.cell? ⟨za, 0, none⟩ = some (.int .i64 0)) (hzb : W.cell? ⟨zb, 0, none⟩ = some (.int .i64 0)) (hxl0 : xl 0 = 5) (hxl1 : xl 1 = 7) (hxl2 : xl 2 = 5) (hxr0 : xr 0 = 8) (hxr1 : xr 1 = 5) (hzac : 1 ≤ zac) (hzbc : 1 ≤ zbc) :
  Calls Tryz.prog 20 #[.int .i64 3, .agg #[.slice (some ⟨ga, 0, none⟩) 1 ac, .slice none 0 0], .agg #[.int .i64 3, .slice (some ⟨da, 0, none⟩) 1 dac], .slice (some ⟨za, 0, none⟩) 1 zac, .agg #[.slice (some ⟨gb, 0, none⟩) 1 bc, .slice none 0 0], .agg #[.int .i64 2, .slice (some ⟨db, 0, none⟩) 1 dbc], .slice (some ⟨zb, 0, none⟩) 1 zbc] W fun e w' => ∃ g cap P, e = .returned (.tuple #[.slice (some ⟨g, 0, none⟩) 4 cap, .int .i64 0]) ∧ W.heap.size ≤ P ∧ FrP P W w' ∧ w'.ownsRow 0 45 2 (.slice (some ⟨g, 0, none⟩) 4 cap) 4 (flat2 [((0 : Int), (1 : Int)), (1, -1), (2, 1), (-1, 0)]) := by
 obtain ⟨A0, hA0, g0, b0⟩ := nw W (.cells #[.slice (some ⟨ga, 0, none⟩) 1 ac, .slice none 0 0] 25)
 obtain ⟨A1, hA1, g1, b1⟩ := nw A0 (.cells #[.int .i64 3, .slice (some ⟨da, 0, none⟩) 1 dac] 28)
 obtain ⟨A2, hA2, g2, b2⟩ := nw A1 (.cells #[.slice (some ⟨gb, 0, none⟩) 1 bc, .slice none 0 0] 25)
 obtain ⟨A3, hA3, g3, b3⟩ := nw A2 (.cells #[.int .i64 2, .slice (some ⟨db, 0, none⟩) 1 dbc] 28)
 have z0 : A0.heap.size = W.heap.size + 1 := by rw [← hA0]; simp
 have z1 : A1.heap.size = A0.heap.size + 1 := by rw [← hA1]; simp
 have z2 : A2.heap.size = A1.heap.size + 1 := by rw [← hA2]; simp
 have z3 : A3.heap.size = A2.heap.size + 1 := by rw [← hA3]; simp
 have g23 := g2.tr g3
 have g13 := g1.tr g23
 have gW : Gr W A3 := g0.tr g13
 have t0 := (g13.block _ (lt_of_heap b0) id).trans b0
 have t1 := (g23.block _ (lt_of_heap b1) id).trans b1
 have t2 := (g3.block _ (lt_of_heap b2) id).trans b2
 obtain ⟨c0, c1⟩ := cell2 t0
 obtain ⟨c2, c3⟩ := cell2 t1
 obtain ⟨c4, c5⟩ := cell2 t2
 obtain ⟨c6, c7⟩ := cell2 b3
 have HSS : Hid (∀ u, Gr A3 u → u.cell? ⟨W.heap.size, 0, none⟩ = some (.slice (some ⟨ga, 0, none⟩) 1 ac) ∧ u.cell? ⟨W.heap.size, 1, none⟩ = some (.slice none 0 0) ∧ u.cell? ⟨A0.heap.size, 0, none⟩ = some (.int .i64 3) ∧ u.cell? ⟨A0.heap.size, 1, none⟩ = some (.slice (some ⟨da, 0, none⟩) 1 dac) ∧ u.cell? ⟨A1.heap.size, 0, none⟩ = some (.slice (some ⟨gb, 0, none⟩) 1 bc) ∧ u.cell? ⟨A1.heap.size, 1, none⟩ = some (.slice none 0 0) ∧ u.cell? ⟨A2.heap.size, 0, none⟩ = some (.int .i64 2) ∧ u.cell? ⟨A2.heap.size, 1, none⟩ = some (.slice (some ⟨db, 0, none⟩) 1 dbc)) := fun u g => ⟨g.cell' c0 id, g.cell' c1 id, g.cell' c2 id, g.cell' c3 id, g.cell' c4 id, g.cell' c5 id, g.cell' c6 id, g.cell' c7 id⟩
 have HSF : Hid (∀ u w, Gr A3 u → FrP u.heap.size u w → w.cell? ⟨W.heap.size, 0, none⟩ = some (.slice (some ⟨ga, 0, none⟩) 1 ac) ∧ w.cell? ⟨W.heap.size, 1, none⟩ = some (.slice none 0 0) ∧ w.cell? ⟨A0.heap.size, 0, none⟩ = some (.int .i64 3) ∧ w.cell? ⟨A0.heap.size, 1, none⟩ = some (.slice (some ⟨da, 0, none⟩) 1 dac) ∧ w.cell? ⟨A1.heap.size, 0, none⟩ = some (.slice (some ⟨gb, 0, none⟩) 1 bc) ∧ w.cell? ⟨A1.heap.size, 1, none⟩ = some (.slice none 0 0) ∧ w.cell? ⟨A2.heap.size, 0, none⟩ = some (.int .i64 2) ∧ w.cell? ⟨A2.heap.size, 1, none⟩ = some (.slice (some ⟨db, 0, none⟩) 1 dbc)) := fun u w g f => by
  have hz := g.size
  have d0 := cell2 (f.cells ((g.block _ (lt_of_heap t0) id).trans t0) (by omega) (by decide))
  have d1 := cell2 (f.cells ((g.block _ (lt_of_heap t1) id).trans t1) (by omega) (by decide))
  have d2 := cell2 (f.cells ((g.block _ (lt_of_heap t2) id).trans t2) (by omega) (by decide))
  have d3 := cell2 (f.cells ((g.block _ (lt_of_heap b3) id).trans b3) (by omega) (by decide))
  exact ⟨d0.1, d0.2, d1.1, d1.2, d2.1, d2.2, d3.1, d3.2⟩
 have HGW := hidM gW
 have HC10 : Hid (∀ u, Gr A3 u → Calls Tryz.prog 11 #[.agg #[.slice (some ⟨ga, 0, none⟩) 1 ac, .slice none 0 0], .agg #[.slice (some ⟨gb, 0, none⟩) 1 bc, .slice none 0 0]] u fun e w' => e = .returned (.int .i64 0) ∧ Gr u w') := fun u g => wrongSchemas10g ga ac gb bc ao bo ca cb u (hA.s.gr (gW.tr g)) (hB.s.gr (gW.tr g))
 have HC14a : Hid (∀ u, Gr A3 u → Calls Tryz.prog 34 #[.agg #[.slice (some ⟨ga, 0, none⟩) 1 ac, .slice none 0 0], .agg #[.int .i64 3, .slice (some ⟨da, 0, none⟩) 1 dac]] u fun e w' => e = .returned (.int .i64 0) ∧ Gr u w') := fun u g => wrongBatch14 3 ga ac da dac qa qac va vac ao ca u (hA.gr (gW.tr g))
 have HC14b : Hid (∀ u, Gr A3 u → Calls Tryz.prog 34 #[.agg #[.slice (some ⟨gb, 0, none⟩) 1 bc, .slice none 0 0], .agg #[.int .i64 2, .slice (some ⟨db, 0, none⟩) 1 dbc]] u fun e w' => e = .returned (.int .i64 0) ∧ Gr u w') := fun u g => wrongBatch14 2 gb bc db dbc qb qbc vb vbc bo cb u (hB.gr (gW.tr g))
 have HC11 : Hid (∀ u, Gr A3 u → Calls Tryz.prog 12 #[.int .i64 3, .agg #[.slice (some ⟨ga, 0, none⟩) 1 ac, .slice none 0 0], .slice (some ⟨za, 0, none⟩) 1 zac, .agg #[.slice (some ⟨gb, 0, none⟩) 1 bc, .slice none 0 0], .slice (some ⟨zb, 0, none⟩) 1 zbc] u fun e w' => e = .returned (.int .i64 0) ∧ Gr u w') := fun u g => wrongKeys11g 3 (.inr rfl) ga ac gb bc za zac zb zbc ao bo ca cb u (hA.s.gr (gW.tr g)) (hB.s.gr (gW.tr g)) ((gW.tr g).cell' hza id) ((gW.tr g).cell' hzb id) hzac hzbc
 have HCa : Hid (∀ u, Gr A3 u → Calls Tryz.prog 36 #[.agg #[.slice (some ⟨ga, 0, none⟩) 1 ac, .slice none 0 0], .agg #[.int .i64 3, .slice (some ⟨da, 0, none⟩) 1 dac], .slice (some ⟨za, 0, none⟩) 1 zac] u fun e w' => ∃ gr, e = .returned (.slice (some ⟨gr, 0, none⟩) 3 3) ∧ Gr u w' ∧ RwsK xl 3 gr 3 w' ∧ u.heap.size ≤ gr) := fun u g => keysOf16 3 ga ac da dac qa qac va vac za zac ao ca xl u (hA.gr (gW.tr g)) (fun k hk => ⟨(gW.tr g).cell' (hxl k hk).1 id, (hxl k hk).2⟩) ((gW.tr g).cell' hza id)
 have HCb : Hid (∀ u, Gr A3 u → Calls Tryz.prog 36 #[.agg #[.slice (some ⟨gb, 0, none⟩) 1 bc, .slice none 0 0], .agg #[.int .i64 2, .slice (some ⟨db, 0, none⟩) 1 dbc], .slice (some ⟨zb, 0, none⟩) 1 zbc] u fun e w' => ∃ gr, e = .returned (.slice (some ⟨gr, 0, none⟩) 2 2) ∧ Gr u w' ∧ RwsK xr 2 gr 2 w' ∧ u.heap.size ≤ gr) := fun u g => keysOf16 2 gb bc db dbc qb qbc vb vbc zb zbc bo cb xr u (hB.gr (gW.tr g)) (fun k hk => ⟨(gW.tr g).cell' (hxr k hk).1 id, (hxr k hk).2⟩) ((gW.tr g).cell' hzb id)
 have HG0 : Hid (Gr A3 A3) := Keeps.refl A3 _
 clear g0 b0 g1 b1 g2 b2 g3 b3 g23 g13 gW t0 t1 t2 z0 z1 z2 z3 hA hB hxl hxr hza hzb
 go_enter Tryz.func20, Tryz.ntmps20
 go_wp2_with (first
  | (go_at_call 11; refine (HC10.out A3 HG0.out).mono ?_; rintro e w1 ⟨rfl, k⟩; have HG1 := hidM ((HG0.out).tr k); clear c0 c1 c2 c3 c4 c5 c6 c7; obtain ⟨c0, c1, c2, c3, c4, c5, c6, c7⟩ := HSS.out w1 HG1.out; clear k)
  | (go_at_call 34; refine (HC14a.out w1 HG1.out).mono ?_; rintro e w2 ⟨rfl, k⟩; have HG2 := hidM ((HG1.out).tr k); clear c0 c1 c2 c3 c4 c5 c6 c7; obtain ⟨c0, c1, c2, c3, c4, c5, c6, c7⟩ := HSS.out w2 HG2.out; clear k HC14a)
  | (go_at_call 34; refine (HC14b.out w2 HG2.out).mono ?_; rintro e w3 ⟨rfl, k⟩; have HG3 := hidM ((HG2.out).tr k); clear c0 c1 c2 c3 c4 c5 c6 c7; obtain ⟨c0, c1, c2, c3, c4, c5, c6, c7⟩ := HSS.out w3 HG3.out; clear k)
  | (go_at_call 12; refine (HC11.out w3 HG3.out).mono ?_; rintro e w4 ⟨rfl, k⟩; have HG4 := hidM ((HG3.out).tr k); clear c0 c1 c2 c3 c4 c5 c6 c7; obtain ⟨c0, c1, c2, c3, c4, c5, c6, c7⟩ := HSS.out w4 HG4.out; clear k))
 have HSD := hidM (HSS.out w4.drew (HG4.out.tr gr_drew))
 clear c0 c1 c2 c3 c4 c5 c6 c7 hA0 hA1 hA2 hA3
 refine wp_region_held_drew (S := fun w' => w'.cell? ⟨W.heap.size, 0, none⟩ = some (.slice (some ⟨ga, 0, none⟩) 1 ac) ∧ w'.cell? ⟨W.heap.size, 1, none⟩ = some (.slice none 0 0) ∧ w'.cell? ⟨A0.heap.size, 0, none⟩ = some (.int .i64 3) ∧ w'.cell? ⟨A0.heap.size, 1, none⟩ = some (.slice (some ⟨da, 0, none⟩) 1 dac) ∧ w'.cell? ⟨A1.heap.size, 0, none⟩ = some (.slice (some ⟨gb, 0, none⟩) 1 bc) ∧ w'.cell? ⟨A1.heap.size, 1, none⟩ = some (.slice none 0 0) ∧ w'.cell? ⟨A2.heap.size, 0, none⟩ = some (.int .i64 2) ∧ w'.cell? ⟨A2.heap.size, 1, none⟩ = some (.slice (some ⟨db, 0, none⟩) 1 dbc)) (by kernel_rfl) (HSD.out) fun _ => ?_
 refine tk 0 ?_
 refine tk 1 ?_
 refine tk 2 ?_
 refine tk 3 ?_
 refine tk 5 ?_
 refine tk 6 ?_
 refine tk 7 ?_
 refine rd1 4 fun Kc hK => ?_
 go_simp
 go_at_call 36
 refine Calls.mono (HCa.out w4.drew (HG4.out.tr gr_drew)) ?_
 rintro e' w5 ⟨g5, rfl, k5, h5, n5⟩; have HK5 := hidM ((HG4.out.tr gr_drew).tr k5); have HR5 := hidM h5; clear k5 h5 n5
 go_wp2_with fail
 refine hK.out _ _ (HSS.out w5 HK5.out) fun _ => ?_
 clear hK Kc
 try simp only [Act.put, lA, lB, lC]
 refine rd1 8 fun Kc hK => ?_
 go_simp
 go_at_call 36
 refine Calls.mono (HCb.out w5 HK5.out) ?_
 rintro e' w6 ⟨g6, rfl, k6, h6, n6⟩; have HK6 := hidM (HK5.out.tr k6); have HR6 := hidM h6; have HR5' := hidM (HR5.out.st (St.ofGr k6)); clear k6 h6 n6
 go_wp2_with fail
 refine hK.out _ _ (HSS.out w6 HK6.out) fun _ => ?_
 clear hK Kc
 try simp only [Act.put, lA, lB, lC]
 refine rd1 9 fun Kc hK => ?_
 go_simp
 go_at_call 35
 refine Calls.mono (paired15 g5 g6 xl xr w6 HR5'.out HR6.out hxl0 hxl1 hxl2 hxr0 hxr1) ?_
 rintro e' w7 ⟨g7, cap, rfl, f7, o7⟩; have HF7 := hidM f7; have HO7 := hidM o7; clear f7 o7
 go_wp2_with fail
 refine hK.out _ _ (HSF.out w6 w7 HK6.out HF7.out) fun _ => ?_
 clear hK Kc
 try simp only [Act.put, lA, lB, lC]
 refine tk 10 ?_
 refine tk 11 ?_
 refine tk 12 ?_
 refine tk 13 ?_
 refine wpAnyH_done (by kernel_rfl) ?_ _
 go_wp2_with fail
 go_ret2
 exact ⟨g7, cap, w6.heap.size, rfl, (HGW.out.tr HK6.out).size, (FrP.ofGr (HGW.out.tr HK6.out)).trans HF7.out, HO7.out⟩
theorem pairs5 {ny : Bool} (ga gac gb gbc da dac db dbc qa qac qb qbc va vac vb vbc za zac zb zbc : Nat) (ao bo : Option Addr) (ca cb : Nat) (xl xr : Nat → Int) (W : World) (hA : Bt nx W 3 ga gac da dac qa qac va vac ao ca) (hB : Bt ny W 2 gb gbc db dbc qb qbc vb vbc bo cb) (hxl : ∀ k, k < 3 → W.cell? ⟨va, k, none⟩ = some (.int .u8 (xl k)) ∧ (xl k = 5 ∨ xl k = 7 ∨ xl k = 8)) (hxr : ∀ k, k < 2 → W.cell? ⟨vb, k, none⟩ = some (.int .u8 (xr k)) ∧ (xr k = 5 ∨ xr k = 7 ∨ xr k = 8)) (hza : W.cell? ⟨za, 0, none⟩ = some (.int .i64 0)) (hzb : W.cell? ⟨zb, 0, none⟩ = some (.int .i64 0)) (hxl0 : xl 0 = 5) (hxl1 : xl 1 = 7) (hxl2 : xl 2 = 5) (hxr0 : xr 0 = 8) (hxr1 : xr 1 = 5) (hzac : 1 ≤ zac) (hzbc : 1 ≤ zbc) :
  Calls Tryz.prog 8 #[.int .i64 3, .agg #[.slice (some ⟨ga, 0, none⟩) 1 gac, .slice none 0 0, .int .i64 3, .slice (some ⟨da, 0, none⟩) 1 dac, .slice (some ⟨za, 0, none⟩) 1 zac], .agg #[.slice (some ⟨gb, 0, none⟩) 1 gbc, .slice none 0 0, .int .i64 2, .slice (some ⟨db, 0, none⟩) 1 dbc, .slice (some ⟨zb, 0, none⟩) 1 zbc]] W fun e w' => ∃ g cap P, e = .returned (.tuple #[.slice (some ⟨g, 0, none⟩) 4 cap, .int .i64 0]) ∧ W.heap.size ≤ P ∧ FrP P W w' ∧ w'.ownsRow 0 45 2 (.slice (some ⟨g, 0, none⟩) 4 cap) 4 (flat2 [((0 : Int), (1 : Int)), (1, -1), (2, 1), (-1, 0)]) := by
 obtain ⟨A0, hA0, g0, b0⟩ := nw W (.cells #[.slice (some ⟨ga, 0, none⟩) 1 gac, .slice none 0 0, .int .i64 3, .slice (some ⟨da, 0, none⟩) 1 dac, .slice (some ⟨za, 0, none⟩) 1 zac] 31)
 obtain ⟨A1, hA1, g1, b1⟩ := nw A0 (.cells #[.slice (some ⟨gb, 0, none⟩) 1 gbc, .slice none 0 0, .int .i64 2, .slice (some ⟨db, 0, none⟩) 1 dbc, .slice (some ⟨zb, 0, none⟩) 1 zbc] 31)
 have gW : Gr W A1 := g0.tr g1
 obtain ⟨c0, c1, c2, c3, c4⟩ := cell5 ((g1.block _ (lt_of_heap b0) id).trans b0)
 obtain ⟨d0, d1, d2, d3, d4⟩ := cell5 b1
 have HGW := hidM gW
 have HC := hidM (Pairs9 ga gac gb gbc da dac db dbc qa qac qb qbc va vac vb vbc za zac zb zbc ao bo ca cb xl xr A1 (hA.gr gW) (hB.gr gW) (fun k hk => ⟨gW.cell' (hxl k hk).1 id, (hxl k hk).2⟩) (fun k hk => ⟨gW.cell' (hxr k hk).1 id, (hxr k hk).2⟩) (gW.cell' hza id) (gW.cell' hzb id) hxl0 hxl1 hxl2 hxr0 hxr1 hzac hzbc)
 clear g0 b0 g1 b1 gW hA hB hxl hxr hza hzb
 go_enter Tryz.func8, Tryz.ntmps8
 go_wp2_with (go_at_call 20; refine HC.out.mono ?_; rintro e w1 ⟨g, cap, P, rfl, hp, hf, ho⟩; have HE := hidM (And.intro hp (And.intro hf ho)); clear hp hf ho)
 go_ret2
 exact ⟨g, cap, P, rfl, Nat.le_trans HGW.out.size HE.out.1, (FrP.ofGr HGW.out).trans HE.out.2.1, HE.out.2.2⟩
theorem bt_of {W : World} {L vc g db kb qb v2 : Nat} (h : SdA W (nmB nx) L (some ⟨v2, 0, none⟩) vc g db kb qb) (hT : Tab W) (hL : L = 2 ∨ L = 3) (hc : L ≤ vc) : Bt nx W L g 1 db 1 qb 2 v2 vc none 0 :=
 ⟨⟨h.f, Nat.le_refl _, hT⟩, h.d, ⟨h.q0, h.q1, hc, hT, hL⟩⟩
theorem tab_fr {P : Nat} {W u : World} (h : Tab W) (f : FrP P W u) (hp : 0 < P) : Tab u :=
 h.kp (f.low h.1 hp)
theorem awake4 (W : World) (hT : Tab W) : Calls Tryz.prog 4 #[] W fun e w' => e = .returned (.bool true) ∧ ∃ P, W.heap.size ≤ P ∧ FrP P W w' := by
 obtain ⟨A0, hA0, g0, b0⟩ := nw W (.cells #[.int .u8 5, .int .u8 7, .int .u8 5] 5)
 have HB0 := hidM b0
 have HG0 := hidM g0
 have HT := hidM hT
 have HC1 : Hid (Calls Tryz.prog 9 #[.string ⟨#[97]⟩, .slice (some ⟨W.heap.size, 0, none⟩) 3 3] A0 fun e w' => ∃ g db kb qb, e = .returned (.agg #[.slice (some ⟨g, 0, none⟩) 1 1, .slice none 0 0, .int .i64 3, .slice (some ⟨db, 0, none⟩) 1 1, .slice (some ⟨kb, 0, none⟩) 1 1]) ∧ Gr A0 w' ∧ SdA w' (nmB false) 3 (some ⟨W.heap.size, 0, none⟩) 3 g db kb qb) := eights6 (nmB false) 3 (some ⟨W.heap.size, 0, none⟩) 3 A0
 have HC2 : Hid (∀ u w, Gr A0 u → u.alloc (.cells #[.int .u8 8, .int .u8 5] 5) = w → Gr A0 w ∧ Calls Tryz.prog 9 #[.string ⟨#[98]⟩, .slice (some ⟨u.heap.size, 0, none⟩) 2 2] w fun e w' => ∃ g db kb qb, e = .returned (.agg #[.slice (some ⟨g, 0, none⟩) 1 1, .slice none 0 0, .int .i64 2, .slice (some ⟨db, 0, none⟩) 1 1, .slice (some ⟨kb, 0, none⟩) 1 1]) ∧ Gr A0 w' ∧ Gr u w' ∧ SdA w' (nmB true) 2 (some ⟨u.heap.size, 0, none⟩) 2 g db kb qb ∧ w'.heap[u.heap.size]? = some (.cells #[.int .u8 8, .int .u8 5] 5)) := fun u w g e => by
  have gw : Gr u w := by rw [← e]; exact gr_alloc _ _
  have bw : w.heap[u.heap.size]? = some (.cells #[.int .u8 8, .int .u8 5] 5) := by rw [← e]; exact heap_alloc_new _ _
  refine ⟨g.tr gw, (eights6 (nmB true) 2 (some ⟨u.heap.size, 0, none⟩) 2 w).mono ?_⟩
  rintro e w' ⟨g1, db, kb, qb, rfl, k, hs⟩
  exact ⟨g1, db, kb, qb, rfl, (g.tr gw).tr k, gw.tr k, hs, (k.block _ (lt_of_heap bw) id).trans bw⟩
 have HC3 : Hid (∀ u w g1 d1 k1 q1 v2 g2 d2 k2 q2, Gr A0 u → Gr u w → SdA u (nmB false) 3 (some ⟨W.heap.size, 0, none⟩) 3 g1 d1 k1 q1 → SdA w (nmB true) 2 (some ⟨v2, 0, none⟩) 2 g2 d2 k2 q2 → w.heap[v2]? = some (.cells #[.int .u8 8, .int .u8 5] 5) → Calls Tryz.prog 8 #[.int .i64 3, .agg #[.slice (some ⟨g1, 0, none⟩) 1 1, .slice none 0 0, .int .i64 3, .slice (some ⟨d1, 0, none⟩) 1 1, .slice (some ⟨k1, 0, none⟩) 1 1], .agg #[.slice (some ⟨g2, 0, none⟩) 1 1, .slice none 0 0, .int .i64 2, .slice (some ⟨d2, 0, none⟩) 1 1, .slice (some ⟨k2, 0, none⟩) 1 1]] w fun e w' => ∃ g cap, e = .returned (.tuple #[.slice (some ⟨g, 0, none⟩) 4 cap, .int .i64 0]) ∧ (Gr W w' ∨ True) ∧ Tab w' ∧ (∃ P, W.heap.size ≤ P ∧ FrP P W w') ∧ w'.ownsRow 0 45 2 (.slice (some ⟨g, 0, none⟩) 4 cap) 4 (flat2 [((0 : Int), (1 : Int)), (1, -1), (2, 1), (-1, 0)])) := fun u w g1 d1 k1 q1 v2 g2 d2 k2 q2 hu hw s1 s2 hv => by
  have k0 : Gr W u := HG0.out.tr hu
  have kw : Gr W w := k0.tr hw
  have Tw := HT.out.gr kw
  have bA := ((hu.tr hw).block _ (lt_of_heap HB0.out) id).trans HB0.out
  obtain ⟨a0, a1, a2⟩ := cell3 bA
  obtain ⟨e0, e1⟩ := cell2 hv
  refine (pairs5 g1 1 g2 1 d1 1 d2 1 q1 2 q2 2 W.heap.size 3 v2 2 k1 1 k2 1 none none 0 0 (fun k => if k = 1 then 7 else 5) (fun k => if k = 0 then 8 else 5) w (bt_of (s1.gr hw) Tw (.inr rfl) (by omega)) (bt_of s2 Tw (.inl rfl) (by omega)) (fun k hk => ?_) (fun k hk => ?_) (hw.cell' s1.k id) s2.k rfl rfl rfl rfl rfl (Nat.le_refl _) (Nat.le_refl _)).mono ?_
  ·rcases (show k = 0 ∨ k = 1 ∨ k = 2 by omega) with rfl | rfl | rfl
   ·exact ⟨a0, .inl rfl⟩
   ·exact ⟨a1, .inr (.inl rfl)⟩
   exact ⟨a2, .inl rfl⟩
  ·rcases (show k = 0 ∨ k = 1 by omega) with rfl | rfl
   ·exact ⟨e0, .inr (.inr rfl)⟩
   exact ⟨e1, .inl rfl⟩
  rintro e w' ⟨g, cap, P, rfl, hp, hf, ho⟩
  have hPW : W.heap.size ≤ P := Nat.le_trans kw.size hp
  have hfW := (FrP.ofGr (P := P) kw).trans hf
  exact ⟨g, cap, rfl, .inr trivial, tab_fr HT.out hfW (Nat.lt_of_lt_of_le HT.out.1 hPW), ⟨P, hPW, hfW⟩, ho⟩
 have HC4 : Hid (∀ u, Calls Tryz.prog 9 #[.string ⟨#[97]⟩, .slice none 0 0] u fun e w' => ∃ g db kb qb, e = .returned (.agg #[.slice (some ⟨g, 0, none⟩) 1 1, .slice none 0 0, .int .i64 0, .slice (some ⟨db, 0, none⟩) 1 1, .slice (some ⟨kb, 0, none⟩) 1 1]) ∧ Gr u w' ∧ SdA w' (nmB false) 0 none 0 g db kb qb) := fun u => eights6 (nmB false) 0 none 0 u
 have HC5 : Hid (∀ u, Calls Tryz.prog 9 #[.string ⟨#[98]⟩, .slice none 0 0] u fun e w' => ∃ g db kb qb, e = .returned (.agg #[.slice (some ⟨g, 0, none⟩) 1 1, .slice none 0 0, .int .i64 0, .slice (some ⟨db, 0, none⟩) 1 1, .slice (some ⟨kb, 0, none⟩) 1 1]) ∧ Gr u w' ∧ SdA w' (nmB true) 0 none 0 g db kb qb) := fun u => eights6 (nmB true) 0 none 0 u
 have HC7 : Hid (∀ w3 w4 A4 w5 A5 g4 d4 k4 q4 g5 d5 k5 q5, Tab w3 → Gr w3 w4 → SdA w4 (nmB false) 0 none 0 g4 d4 k4 q4 → w4.alloc (.cells #[.int .i64 0] 3) = A4 → Gr A4 w5 → SdA w5 (nmB true) 0 none 0 g5 d5 k5 q5 → w5.alloc (.cells #[.int .i64 0] 3) = A5 → Gr w3 A5 ∧ Calls Tryz.prog 5 #[.int .i64 2, .agg #[.slice (some ⟨g4, 0, none⟩) 1 1, .slice none 0 0], .slice (some ⟨w4.heap.size, 0, none⟩) 1 1, .agg #[.slice (some ⟨g5, 0, none⟩) 1 1, .slice none 0 0], .slice (some ⟨w5.heap.size, 0, none⟩) 1 1] A5 fun e w' => ∃ (g : Option Addr) (c : Nat), e = .returned (.tuple #[.agg #[.slice g 1 c, .slice none 0 0], .int .i64 0]) ∧ Gr A5 w') := fun w3 w4 A4 w5 A5 g4 d4 k4 q4 g5 d5 k5 q5 t3 x4 s4 e4 x5 s5 e5 => by
  have ga4 : Gr w4 A4 := by rw [← e4]; exact gr_alloc _ _
  have ba4 : A4.heap[w4.heap.size]? = some (.cells #[.int .i64 0] 3) := by rw [← e4]; exact heap_alloc_new _ _
  have ga5 : Gr w5 A5 := by rw [← e5]; exact gr_alloc _ _
  have ba5 : A5.heap[w5.heap.size]? = some (.cells #[.int .i64 0] 3) := by rw [← e5]; exact heap_alloc_new _ _
  have y45 : Gr A4 A5 := x5.tr ga5
  have y4 : Gr w4 A5 := ga4.tr y45
  have y3 : Gr w3 A5 := x4.tr y4
  have z4 := s4.gr y4
  have z5 := s5.gr ga5
  exact ⟨y3, type7g (nx := false) (ny := true) g4 1 g5 1 w4.heap.size 1 w5.heap.size 1 none none 0 0 A5 ⟨z4.f, Nat.le_refl _, t3.gr y3⟩ ⟨z5.f, Nat.le_refl _, t3.gr y3⟩ (cell1 ((y45.block _ (lt_of_heap ba4) id).trans ba4)) (cell1 ba5) (Nat.le_refl _) (Nat.le_refl _)⟩
 have HC8 : Hid (∀ w3 A6 A7 gp cap, w3.ownsRow 0 45 2 (.slice (some ⟨gp, 0, none⟩) 4 cap) 4 (flat2 [((0 : Int), (1 : Int)), (1, -1), (2, 1), (-1, 0)]) → Gr w3 A6 → A6.alloc (.cells #[.int .i64 0, .int .i64 1, .int .i64 1, .int .i64 (-1), .int .i64 2, .int .i64 1, .int .i64 (-1), .int .i64 0] 45) = A7 → Calls Tryz.prog 10 #[.slice (some ⟨gp, 0, none⟩) 4 cap, .slice (some ⟨A6.heap.size, 0, none⟩) 4 4] A7 fun e w' => e = .returned (.bool true) ∧ Gr A7 w' ∧ Gr w3 w') := fun w3 A6 A7 gp cap o3 x e7 => by
  have g7 : Gr A6 A7 := by rw [← e7]; exact gr_alloc _ _
  have b7 : A7.heap[A6.heap.size]? = some (.cells #[.int .i64 0, .int .i64 1, .int .i64 1, .int .i64 (-1), .int .i64 2, .int .i64 1, .int .i64 (-1), .int .i64 0] 45) := by rw [← e7]; exact heap_alloc_new _ _
  have k7 : Gr w3 A7 := x.tr g7
  obtain ⟨g', cap', cur, he, -, hg, -, -, hc⟩ := own_get o3 (by omega)
  cases he
  have c := fun j v (h : (flat2 [((0 : Int), (1 : Int)), (1, -1), (2, 1), (-1, 0)])[j]? = some v) => k7.cell' (hc j v h) id
  refine (eqPairs8 gp cap A6.heap.size 4 A7 ⟨c 0 _ rfl, c 1 _ rfl, c 2 _ rfl, c 3 _ rfl, c 4 _ rfl, c 5 _ rfl, c 6 _ rfl, c 7 _ rfl, by simp [World.cell?, b7], by simp [World.cell?, b7], by simp [World.cell?, b7], by simp [World.cell?, b7], by simp [World.cell?, b7], by simp [World.cell?, b7], by simp [World.cell?, b7], by simp [World.cell?, b7]⟩).mono fun e w' ⟨h, g⟩ => ⟨h, g, k7.tr g⟩
 have hfl : ∀ (g d k : Nat) (w : World), (Instr.field 31 (.agg #[.slice (some ⟨g, 0, none⟩) 1 1, .slice none 0 0, .int .i64 0, .slice (some ⟨d, 0, none⟩) 1 1, .slice (some ⟨k, 0, none⟩) 1 1]) 0).run Tryz.prog w = .ok (.agg #[.slice (some ⟨g, 0, none⟩) 1 1, .slice none 0 0]) w := fun g d k w => by kernel_rfl
 clear g0 b0 hT
 go_enter Tryz.func4, Tryz.ntmps4
 go_wp2_with (first
  | (go_at_call 9; refine HC1.out.mono ?_; rintro e w1 ⟨g1, d1, k1, q1, rfl, x1, s1⟩; have HX1 := hidM x1; have HS1 := hidM s1; obtain ⟨A1, hA1⟩ := ex (w1.alloc (.cells #[.int .u8 8, .int .u8 5] 5)); clear x1 s1 HC1)
  | (go_at_call 9; refine (HC2.out w1 A1 HX1.out hA1).2.mono ?_; rintro e w2 ⟨g2, d2, k2, q2, rfl, x2, y2, s2, b2⟩; have HY2 := hidM y2; have HS2 := hidM s2; have HB2 := hidM b2; clear x2 y2 s2 b2 HC2)
  | (go_at_call 8; refine (HC3.out w1 w2 g1 d1 k1 q1 _ g2 d2 k2 q2 HX1.out HY2.out HS1.out HS2.out HB2.out).mono ?_; rintro e w3 ⟨gp, cap, rfl, -, t3, f3, o3⟩; have HF3 := hidM f3; clear f3; have HT3 := hidM t3; have HO3 := hidM o3; clear t3 o3 HC3)
  | (go_at_call 9; refine (HC4.out w3).mono ?_; rintro e w4 ⟨g4, d4, k4, q4, rfl, x4, s4⟩; have HX4 := hidM x4; have HS4 := hidM s4; obtain ⟨A4, hA4⟩ := ex (w4.alloc (.cells #[.int .i64 0] 3)); clear x4 s4 HC4)
  | (go_at_call 9; refine (HC5.out A4).mono ?_; rintro e w5 ⟨g5, d5, k5, q5, rfl, x5, s5⟩; have HX5 := hidM x5; have HS5 := hidM s5; obtain ⟨A5, hA5⟩ := ex (w5.alloc (.cells #[.int .i64 0] 3)); clear x5 s5 HC5)
  | (go_at_call 5; refine (HC7.out w3 w4 A4 w5 A5 g4 d4 k4 q4 g5 d5 k5 q5 HT3.out HX4.out HS4.out hA4 HX5.out HS5.out hA5).2.mono ?_; rintro e w6 ⟨g6, c6, rfl, x6⟩; have HX6 := hidM ((HC7.out w3 w4 A4 w5 A5 g4 d4 k4 q4 g5 d5 k5 q5 HT3.out HX4.out HS4.out hA4 HX5.out HS5.out hA5).1.tr x6); obtain ⟨A6, hA6⟩ := ex (w6.alloc (.cells #[.slice g6 1 c6, .slice none 0 0] 25)); have gA6 : Gr w6 A6 := by { rw [← hA6]; exact gr_alloc _ _ }; have bA6 : A6.heap[w6.heap.size]? = some (.cells #[.slice g6 1 c6, .slice none 0 0] 25) := by { rw [← hA6]; exact heap_alloc_new _ _ }; obtain ⟨A7, hA7⟩ := ex (A6.alloc (.cells #[.int .i64 0, .int .i64 1, .int .i64 1, .int .i64 (-1), .int .i64 2, .int .i64 1, .int .i64 (-1), .int .i64 0] 45)); have gA7 : Gr A6 A7 := by { rw [← hA7]; exact gr_alloc _ _ }; have HX := hidM (HX6.out.tr gA6); have HCE := hidM (HC8.out w3 A6 A7 gp cap HO3.out HX.out hA7); obtain ⟨y0, y1⟩ := cell2 bA6; have yz := frzA bA6; have i0 := set_id (j := 0) (v := .slice g6 1 c6) bA6 rfl; have i1 := set_id (j := 1) (v := .slice none 0 0) bA6 rfl; have u0 := gA7.cell' y0 id; have HU0 := hidM u0; clear x6 gA6 bA6 gA7 u0 HC7 HC8)
  | (go_at_call 10; refine HCE.out.mono ?_; rintro e w7 ⟨rfl, x7, z7⟩; have HZ7 := hidM z7; have u0 := x7.cell' HU0.out id; clear x7 z7 HCE y0 y1 yz i0 i1))
 go_ret
 obtain ⟨P, h1, h2⟩ := HF3.out
 exact ⟨rfl, P, h1, h2.trans (FrP.ofGr HZ7.out)⟩
open Kd (NewB ZsAt ZsAt.gr)
theorem sameAllF_refl {α : Type} {p : α → α → Bool} (h : ∀ x, p x x = true) : ∀ l : List α, sameAllF p l l = true
 | [] => rfl
 | x :: l => by simp [sameAllF, h x, sameAllF_refl h l]
theorem sameLs_refl : ∀ (d : Nat) (l : List FT), sameLs d l l = true
 | 0, l => by rw [sameLs]; exact sameAllF_refl (fun _ => rfl) l
 | d + 1, l => by
  rw [sameLs_succ]
  refine sameAllF_refl (fun f => ?_) l
  rw [sameFd_eq, sameLs_refl d f.kids]
  simp [sEq, tyEq]
theorem eq7 {D : Nat} {E : Int} {outs : List FT} {w1 w2 V2 : World} {xo yo : Option Addr} {xN xc yc : Nat} (hx : (E = 0 → xN = outs.length ∧ xN ≤ xc ∧ RowAt (fun b => b < w1.heap.size) w1 D xo outs) ∧ (¬ E = 0 → xN = 0)) (hy : (E = 0 → xN = outs.length ∧ xN ≤ yc ∧ RowAt (fun b => b < w2.heap.size) w2 D yo outs) ∧ (¬ E = 0 → xN = 0)) (g1 : Gr w1 V2) (g2 : Gr w2 V2) :
  Calls Tryz.prog 7 #[.agg #[.slice xo xN xc, .slice none 0 0], .agg #[.slice yo xN yc, .slice none 0 0]] V2 fun e w' => e = .returned (.bool true) ∧ Gr V2 w' := by
 refine eqSchema7 xo none yo none xN xc 0 yc 0 V2 ?_ V2 (Keeps.refl _ _)
 by_cases c : E = 0
 ·obtain ⟨rfl, h1, h2⟩ := hx.1 c
  obtain ⟨-, h3, h4⟩ := hy.1 c
  have h := eqFields_any (fun b => b < V2.heap.size) D V2 xo yo xc yc outs outs ((h2.kept fun b hb => g1.block b hb id).mono fun b hb => Nat.lt_of_lt_of_le hb g1.size) ((h4.kept fun b hb => g2.block b hb id).mono fun b hb => Nat.lt_of_lt_of_le hb g2.size) h1 h3 (fun _ h => h)
  rw [sameLs_refl] at h
  exact h
 obtain rfl := hx.2 c
 intro u g
 refine Calls.mono (eqFields_nil xo yo xc yc u) ?_
 rintro e w' ⟨rfl, rfl⟩
 exact ⟨rfl, Keeps.refl _ _⟩
theorem run_append_full (w : World) (ty : TypeId) (base : Option Addr) (K : Nat) (olds : List Value) (hol : olds.length = K) (hold : (Builtin.firstCells 1 K (.slice base K K)).run Tryz.prog w.drew = .ok olds.toArray w.drew) (x : Value) (m : Nat) (news : List Value) (hs : Src Tryz.prog 1 29 x m news w) (hm : 0 < m) (hb : K + m ≤ 10000000000) :
  ∃ vo vc w', (Builtin.append_ #[29, 29] ty #[.slice base K K, x]).run Tryz.prog w = .ok (.slice vo (K + m) vc) w' ∧ w'.ownsRow 0 3 1 (.slice vo (K + m) vc) (K + m) (olds ++ news) ∧ Gr w w' := by
 obtain ⟨i, hi, hzz⟩ := Option.map_eq_some_iff.1 info3
 simp only [Prod.mk.injEq] at hzz
 obtain ⟨hz, hsz, hby⟩ := hzz
 have hlen : (olds ++ news).length = (K + m) * 1 := by rw [List.length_append, hol, hs.newsLen, Nat.mul_one, Nat.mul_one]
 have hr := run_append_grow_src (P := Tryz.prog) w 29 29 ty 3 i _ Tryz.underlying29 hi hz base K K olds (by rw [hsz]; exact hold) x m news (by rw [hsz]; exact hs) (by omega) (by omega) (growslice_fits (by omega) (by rw [hby]; omega))
 refine ⟨_, _, _, hr, ⟨hlen, .inr ⟨w.heap.size, _, _, rfl, Nat.zero_le _, heap_alloc_new w.drew _, grownCap_ge w (K + m) K 3, grownCap_le_maxLen w (K + m) K 3 (show K + m ≤ 9223372036854775807 by omega), ?_, ?_⟩⟩, ⟨rfl, rfl, rfl, by simp, fun k hk _ => Below.heap_alloc w.drew _ k hk⟩⟩
 ·have := grownCap_ge w (K + m) K 3
  simp only [Array.size_append, List.size_toArray, size_zeroCells, hlen]
  show (K + m) * 1 + (grownCap w (K + m) K 3 - (K + m)) * 1 = grownCap w (K + m) K 3 * 1
  omega
 simp only [Array.toList_append]
 rw [← hlen]
 exact List.take_left
theorem wpList_append_full {ops : Array Oper} {rest : List Oper} {o : Oper} {a : Act} {Q : Exit → Act → World → Prop} {w : World} (hgd : o.guard = none) (s x : Operand) (ho : o.op = .call { callee := .builtin .append, args := #[s, x], argTypes := #[29, 29] })
  (base : Option Addr) (K : Nat) (olds : List Value) (hol : olds.length = K) (hold : (Builtin.firstCells 1 K (.slice base K K)).run Tryz.prog w.drew = .ok olds.toArray w.drew) (hv : a.eval s = .slice base K K) (y : Value) (m : Nat) (news : List Value) (hx : a.eval x = y) (hs : Src Tryz.prog 1 29 y m news w) (hm : 0 < m) (hb : K + m ≤ 10000000000)
  (h : ∀ vo vc w', w'.ownsRow 0 3 1 (.slice vo (K + m) vc) (K + m) (olds ++ news) → Gr w w' → wpList Tryz.prog ops Q rest (a.put o.dst (.slice vo (K + m) vc)) w') :
  wpList Tryz.prog ops Q (o :: rest) a w := by
 refine wpList_plain hgd fun Kc hK' => ?_
 obtain ⟨vo, vc, w', hr, h2, h3⟩ := run_append_full w o.type base K olds hol hold y m news hs hm hb
 unfold Oper.wp
 simp [execOp, ho, resolve, invoke, builtin, hv, hx, hr, Result.andThen]
 exact hK' _ _ (h vo vc w' h2 h3)
def allK (kz : List Int) : List Int := kz ++ [0, 1, 2, 3, 4, 5, 6]
theorem allK_at {w : World} {kz : List Int} {K vc : Nat} {vo : Option Addr} (hK : K = kz.length) (ho : w.ownsRow 0 3 1 (.slice vo (K + 7) vc) (K + 7) (kz.map (Value.int .i64) ++ [.int .i64 0, .int .i64 1, .int .i64 2, .int .i64 3, .int .i64 4, .int .i64 5, .int .i64 6])) : ∃ b o, vo = some ⟨b, o, none⟩ ∧ ∀ j (h : j < (allK kz).length), w.cell? ⟨b, o + j, none⟩ = some (.int .i64 (allK kz)[j]) := by
 obtain ⟨g, cap, cur, e, h1, hg, h2, h3, h4⟩ := own_get ho (by omega)
 simp only [Value.slice.injEq] at e
 refine ⟨g, 0, e.1, fun j h => ?_⟩
 rw [Nat.zero_add]
 refine h4 j _ ?_
 have e2 : kz.map (Value.int .i64) ++ [.int .i64 0, .int .i64 1, .int .i64 2, .int .i64 3, .int .i64 4, .int .i64 5, .int .i64 6] = (allK kz).map (Value.int .i64) := by simp [allK]
 rw [e2, List.getElem?_map, List.getElem?_eq_getElem h]
 rfl
theorem seven_src {Z : World} {z : Nat} (h : Z.heap[z]? = some (.cells #[.int .i64 0, .int .i64 1, .int .i64 2, .int .i64 3, .int .i64 4, .int .i64 5, .int .i64 6] 3)) : Src Tryz.prog 1 29 (.slice (some ⟨z, 0, none⟩) 7 7) 7 [.int .i64 0, .int .i64 1, .int .i64 2, .int .i64 3, .int .i64 4, .int .i64 5, .int .i64 6] Z := by
 refine Src.ofSlice (w := Z) Tryz.underlying29 ⟨z, 0, none⟩ 7 7 [.int .i64 0, .int .i64 1, .int .i64 2, .int .i64 3, .int .i64 4, .int .i64 5, .int .i64 6] rfl (fun j v hj => ?_) (by intro v hv; simp at hv; rcases hv with rfl | rfl | rfl | rfl | rfl | rfl | rfl <;> rfl)
 rw [Addr.add_lit, Nat.zero_add]
 simp only [World.cell?, h]
 match j, hj with
 | 0, hj => simpa using hj
 | 1, hj => simpa using hj
 | 2, hj => simpa using hj
 | 3, hj => simpa using hj
 | 4, hj => simpa using hj
 | 5, hj => simpa using hj
 | 6, hj => simpa using hj
 | j + 7, hj => simp at hj
theorem types3 {T : Nat → Prop} {d : Nat} {fs1 fs2 : List FT} {ns1 ns2 : List (ByteArray × ByteArray)} {k1 k2 : List Int} {fo no go mo po qo : Option Addr} {cf cn cg cm pc qc : Nat} {W : World} (h : MIn T d fs1 fs2 ns1 ns2 k1 k2 fo no go mo po qo cf cn cg cm pc qc W) (br er : Int) (bo eo zo : Option Addr) (bn bc en ec zc : Nat) (kz : List Int) (hz : ZsAt W zo kz) (hkl : kz.length ≤ 1000000000) (hkc : kz.length ≤ zc) :
  Calls Tryz.prog 3 #[.agg #[.slice fo fs1.length cf, .slice no ns1.length cn, .int .i64 br, .slice bo bn bc, .slice po k1.length pc], .agg #[.slice go fs2.length cg, .slice mo ns2.length cm, .int .i64 er, .slice eo en ec, .slice qo k2.length qc], .slice zo kz.length zc] W fun e w' => e = .returned (.bool true) ∧ Gr W w' := by
 obtain ⟨A0, hA0, g0, b0⟩ := nw W (.cells #[.slice fo fs1.length cf, .slice no ns1.length cn, .int .i64 br, .slice bo bn bc, .slice po k1.length pc] 31)
 obtain ⟨A1, hA1, g1, b1⟩ := nw A0 (.cells #[.slice go fs2.length cg, .slice mo ns2.length cm, .int .i64 er, .slice eo en ec, .slice qo k2.length qc] 31)
 have gW : Gr W A1 := g0.tr g1
 have HSS : Hid (∀ u, Gr A1 u → (u.cell? ⟨W.heap.size, 0, none⟩ = some (.slice fo fs1.length cf) ∧ u.cell? ⟨W.heap.size, 1, none⟩ = some (.slice no ns1.length cn) ∧ u.cell? ⟨W.heap.size, 2, none⟩ = some (.int .i64 br) ∧ u.cell? ⟨W.heap.size, 3, none⟩ = some (.slice bo bn bc) ∧ u.cell? ⟨W.heap.size, 4, none⟩ = some (.slice po k1.length pc)) ∧ u.cell? ⟨A0.heap.size, 0, none⟩ = some (.slice go fs2.length cg) ∧ u.cell? ⟨A0.heap.size, 1, none⟩ = some (.slice mo ns2.length cm) ∧ u.cell? ⟨A0.heap.size, 2, none⟩ = some (.int .i64 er) ∧ u.cell? ⟨A0.heap.size, 3, none⟩ = some (.slice eo en ec) ∧ u.cell? ⟨A0.heap.size, 4, none⟩ = some (.slice qo k2.length qc)) := fun u g => by
  obtain ⟨a0, a1, a2, a3, a4⟩ := cell5 ((g1.block _ (lt_of_heap b0) id).trans b0)
  obtain ⟨c0, c1, c2, c3, c4⟩ := cell5 b1
  exact ⟨⟨g.cell' a0 id, g.cell' a1 id, g.cell' a2 id, g.cell' a3 id, g.cell' a4 id⟩, g.cell' c0 id, g.cell' c1 id, g.cell' c2 id, g.cell' c3 id, g.cell' c4 id⟩
 have HG := hidM gW
 have HM := hidM h
 obtain ⟨K, hK⟩ : ∃ K, K = kz.length := ⟨_, rfl⟩
 rw [← hK]
 have hKb : K ≤ 1000000000 := by omega
 have hKc : K ≤ zc := by omega
 have HK := hidM hK
 have HKb : Hid (K + 7 ≤ 10000000000) := by show _ ≤ _; omega
 have H4 := hidM (awake4 A1 (h.tab.gr gW))
 have HOL : Hid (∀ u, Gr W u → (Builtin.firstCells 1 K (.slice zo K K)).run Tryz.prog u = .ok (kz.map (Value.int .i64)).toArray u) := fun u g => by
  by_cases hne : kz = []
  ·subst hne
   obtain rfl : K = 0 := hK
   cases zo with
   | none => exact run_firstCells_none u 1 0 0 0
   | some a => exact run_firstCells_some u 1 0 a 0 0 [] rfl (fun j u h => by simp at h)
  obtain ⟨b, o, rfl, hc⟩ := (hz.gr g) hne
  refine run_firstCells_some u 1 K ⟨b, o, none⟩ K K _ (by simp [hK]) (fun j v hj => ?_)
  rw [List.getElem?_map] at hj
  have hjl : j < kz.length := by
   rcases Nat.lt_or_ge j kz.length with h | h
   ·exact h
   rw [List.getElem?_eq_none h] at hj; cases hj
  rw [List.getElem?_eq_getElem hjl] at hj
  simp only [Option.map_some, Option.some.injEq] at hj
  rw [show (⟨b, o, none⟩ : Addr).add j = ⟨b, o + j, none⟩ by simp [Addr.add], ← hj]
  exact hc j hjl
 have HLN : Hid ((kz.map (Value.int .i64)).length = K) := by show _ = _; simp [hK]
 clear g0 b0 g1 b1 gW h hz hK hkl hkc
 go_enter Tryz.func3, Tryz.ntmps3
 go_wp2_with (first
  | (go_at_call 4; refine H4.out.mono ?_; rintro e w9 ⟨rfl, P9, hP9, g9⟩; have HG9 : Hid (Gr A1 w9) := g9.mono (fun b hb h => by rcases h with h | ⟨h, -⟩ <;> omega); clear g9 hP9; obtain ⟨Z, hZ⟩ := ex (w9.alloc (.cells #[.int .i64 0, .int .i64 1, .int .i64 2, .int .i64 3, .int .i64 4, .int .i64 5, .int .i64 6] 3)); have bZ := al_new hZ; have HSZ : Hid (Src Tryz.prog 1 29 (.slice (some ⟨w9.heap.size, 0, none⟩) 7 7) 7 [.int .i64 0, .int .i64 1, .int .i64 2, .int .i64 3, .int .i64 4, .int .i64 5, .int .i64 6] Z) := seven_src bZ; have HGZ : Hid (Gr A1 Z) := HG9.out.tr (by rw [← hZ]; exact gr_alloc w9 _); have HOZ := hidM (HOL.out Z.drew ((HG.out.tr HGZ.out).tr gr_drew)); clear bZ)
  | (with_reducible show wpList Tryz.prog _ _ (Oper.mk (some 22) _ _ _ _ _ :: _) _ _; refine wpList_append_full (w := Z) rfl (.tmp 20) (.tmp 21) rfl zo K (kz.map (Value.int .i64)) HLN.out HOZ.out rfl (.slice (some ⟨w9.heap.size, 0, none⟩) 7 7) 7 [.int .i64 0, .int .i64 1, .int .i64 2, .int .i64 3, .int .i64 4, .int .i64 5, .int .i64 6] rfl HSZ.out (by decide) HKb.out ?_; intro vo vc wB hown hgB; have HB := hidM (allK_at HK.out hown); have HGB := hidM (HGZ.out.tr hgB); clear hown hgB))
 clear hA0 hA1 hZ HOZ HSZ HGZ HOL
 obtain ⟨zb, zy, rfl, hzc⟩ := HB.out
 have HZC := hidM hzc
 clear HB hzc
 go_loopw [24] (fun p wr => ∃ j : Nat, j ≤ K + 7 ∧ p = .int .i64 (j : Int) ∧ Hid (Gr wB wr)) (fun p _ => (K + 7) - (intOf p).toNat)
 case atStart => exact ⟨0, by omega, rfl, Keeps.refl _ _⟩
 case round =>
  obtain ⟨j, hj, rfl, HR⟩ := hrel
  by_cases hlt : j < K + 7
  ·have hjl : j < (allK kz).length := by have := HK.out; simp [allK]; omega
   obtain ⟨kd, hkd⟩ : ∃ x, x = (allK kz)[j]'hjl := ⟨_, rfl⟩
   have zc0 := HR.out.cell' (HZC.out j hjl) id
   rw [← hkd] at zc0
   obtain ⟨outs, E, hP, hD⟩ := both_types HM.out kd br er bo eo bn bc en ec
   have HP := hidM hP
   have HD := hidM hD
   have HGr : Hid (Gr A1 wr) := HGB.out.tr HR.out
   obtain ⟨⟨e0, e1, e2, e3, e4⟩, f0, f1, f2, f3, f4⟩ := HSS.out wr (HGr.out)
   have hjI : (j : Int) < (K : Int) + 7 := by omega
   clear hkd hP hD hjl
   go_wp2_with (first
    | (go_at_call 5; refine (HP.out wr (HG.out.tr HGr.out)).mono ?_; rintro e w1 ⟨xo, xN, xc, rfl, g1, hx1, hx2⟩; have HX := hidM (And.intro hx1 hx2); have HG1 := hidM (HGr.out.tr g1); have HW1 := hidM g1; obtain ⟨V1, hV1⟩ := ex (w1.alloc (.cells #[.slice xo xN xc, .slice none 0 0] 25)); have HV1 : Hid (Gr w1 V1) := (by rw [← hV1]; exact gr_alloc w1 _); have hb := al_new hV1; have HB1 := hidM hb; have HGV1 := hidM (HG1.out.tr HV1.out); clear e0 e1 e2 e3 e4 f0 f1 f2 f3 f4; obtain ⟨r0, r1⟩ := cell2 hb; have rz := frzA hb; have r2 := set_id (j := 0) (v := .slice xo xN xc) hb rfl; have r3 := set_id (j := 1) (v := .slice Option.none 0 0) hb rfl; obtain ⟨⟨e0, e1, e2, e3, e4⟩, f0, f1, f2, f3, f4⟩ := HSS.out V1 (HGV1.out); clear hb g1 hx1 hx2 zc0)
    | (go_at_call 6; refine (HD.out V1 (HG.out.tr HGV1.out)).mono ?_; rintro e w2 ⟨yo, yN, yc, rfl, g2, hy1, hy2⟩; obtain rfl : yN = xN := (Classical.em (E = 0)).elim (fun c => (hy1 c).1.trans (HX.out.1 c).1.symm) (fun c => (hy2 c).trans (HX.out.2 c).symm); have HY := hidM (And.intro hy1 hy2); have HG2 := hidM (HGV1.out.tr g2); have HW2 := hidM g2; obtain ⟨V2, hV2⟩ := ex (w2.alloc (.cells #[.slice yo yN yc, .slice none 0 0] 25)); have HV2 : Hid (Gr w2 V2) := (by rw [← hV2]; exact gr_alloc w2 _); have hb := al_new hV2; have hb1 : V2.heap[w1.heap.size]? = some (.cells #[.slice xo yN xc, .slice none 0 0] 25) := ((HW2.out.tr HV2.out).block _ (lt_of_heap HB1.out) id).trans HB1.out; clear e0 e1 e2 e3 e4 f0 f1 f2 f3 f4; clear r0 r1 rz r2 r3 hV1; obtain ⟨r0, r1⟩ := cell2 hb1; obtain ⟨q0, q1⟩ := cell2 hb; have qz := frzA hb; have q2 := set_id (j := 0) (v := .slice yo yN yc) hb rfl; have q3 := set_id (j := 1) (v := .slice Option.none 0 0) hb rfl; clear hb hb1 g2 hy1 hy2)
    | (go_at_call 7; refine (eq7 HX.out HY.out ((HV1.out.tr HW2.out).tr HV2.out) HV2.out).mono ?_; rintro e w7 ⟨rfl, g7⟩; have HG7 := hidM (((((HR.out.tr HW1.out).tr HV1.out).tr HW2.out).tr HV2.out).tr g7); clear g7))
   go_roundw
   case rel => exact ⟨j + 1, by omega, by first | go_num | (simp; omega), HG7.out⟩
   case measure => simp [intOf]; omega
  have hjk : j = K + 7 := by omega
  subst hjk
  go_wp2_with fail
  go_ret
  exact ⟨rfl, HG.out.tr (HGB.out.tr HR.out)⟩
end Go.Proofs.YthhpamhfnpacpaaGreatDoor.Kit
