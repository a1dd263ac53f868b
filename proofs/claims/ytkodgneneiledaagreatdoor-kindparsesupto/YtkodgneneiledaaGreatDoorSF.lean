import Derived.Test.YtkodgneneiledaaGreatDoorJD
import Derived.Deep.RegionHeld3
import Derived.Test.YtkodgneneiledaaGreatDoorMB
import Derived.Test.YtkodgneneiledaaGreatDoorLK
import Derived.Shelf.LaysM
import Derived.Shelf.Strconv.Itoa3
import Derived.Test.YtkodgneneiledaaGreatDoorProg
import Derived.Laws.IdiomStrings
set_option maxRecDepth 100000
set_option maxHeartbeats 4000000
namespace Go.Proofs.YtkodgneneiledaaGreatDoor.Kit
open Go.RowKit Go.Shelf Go.Deep
set_option linter.unusedVariables false
def sA : ByteArray := ⟨#[97]⟩
def aT : FT := .mk ⟨#[97]⟩ false 6 0 0 0 []
def bT : FT := .mk ⟨#[98]⟩ false 6 0 0 0 []
def lT : FT := .mk ⟨#[108]⟩ true 15 0 0 0 [aT]
def x0 : LS := ⟨[aT, lT], [0], false⟩
def x1 : LS := ⟨[aT, lT], [1], false⟩
def x2 : LS := ⟨[aT], [1, 0], false⟩
theorem w0 : wrongE x0 0 (tkL []) = 0 := by kernel_rfl
theorem w1 : wrongE x1 1 (tkL [x0]) = 0 := by kernel_rfl
theorem w2 : wrongE x2 2 (tkL [x0, x1]) = 0 := by kernel_rfl
theorem nodes_s : nodes 2 [aT, lT] [] false = [x0, x1, x2] := rfl
theorem allR_s : AllR (nodes 2 [aT, lT] [] false) := by
  rw [nodes_s]
  exact AllR.snoc (l := [x0, x1]) (AllR.snoc (l := [x0]) (AllR.snoc (l := []) AllR.nil w0) w1) w2
theorem wa : wrongE ⟨[aT], [0], false⟩ 0 (tkL []) = 0 := by kernel_rfl
theorem wb : wrongE ⟨[bT], [0], false⟩ 0 (tkL []) = 0 := by kernel_rfl
theorem waa : wrongE ⟨[aT, aT], [0], false⟩ 0 (tkL []) = 0 := by kernel_rfl
theorem allR_a : AllR (nodes 1 [aT] [] false) := AllR.snoc (l := []) AllR.nil wa
theorem allR_b : AllR (nodes 1 [bT] [] false) := AllR.snoc (l := []) AllR.nil wb
theorem allR_a2 : AllR [(⟨[aT, aT], [0], false⟩ : LS)] := AllR.snoc (l := []) AllR.nil waa
theorem nodes_aa : nodes 1 [aT, aT] [] false = [⟨[aT, aT], [0], false⟩, ⟨[aT, aT], [1], false⟩] := rfl
theorem bad_aa : wrongE ⟨[aT, aT], [1], false⟩ 1 (tkL [⟨[aT, aT], [0], false⟩]) = 31 := by kernel_rfl
theorem idx_l : idxOf [aT, lT] ⟨#[108]⟩ = 1 := by kernel_rfl
def tA : ByteArray := aT.name ++ ⟨#[32]⟩ ++ ⟨(wordK 6).toArray⟩
def tL : ByteArray := lT.name ++ ⟨#[32]⟩ ++ brackB 15 [tA] ++ ⟨#[63]⟩
theorem text_s : (joinB [tA, tL]).toList = [97, 32, 105, 110, 116, 54, 52, 44, 32, 108, 32, 108, 105, 115, 116, 40, 97, 32, 105, 110, 116, 54, 52, 41, 63] := by kernel_rfl
theorem text_sz : (joinB [tA, tL]).size ≤ 1000000000000 := by decide +kernel
theorem jA_sz : (joinB [tA]).size ≤ 1000000000000 := by decide +kernel
theorem bA_sz : (brackB 15 [tA]).size ≤ 1000000000000 := by decide +kernel
end Go.Proofs.YtkodgneneiledaaGreatDoor.Kit
namespace Go.Proofs.YtkodgneneiledaaGreatDoor.Kit
open Go.RowKit Go.Shelf Go.Deep
set_option linter.unusedVariables false
theorem cells_at {W : World} {b o : Nat} {c : Array Value} {f : FT} {ao : Option Addr} {ca : Nat} (h : W.heap[b]? = some (.cells c 37))
    (h0 : c[o]? = some (.string f.name)) (h1 : c[o + 1]? = some (.bool f.nul)) (h2 : c[o + 2]? = some (.int .i64 f.kind)) (h3 : c[o + 3]? = some (.int .i64 f.width)) (h4 : c[o + 4]? = some (.int .i64 f.id)) (h5 : c[o + 5]? = some (.int .i64 f.index)) (h6 : c[o + 6]? = some (.slice ao f.kids.length ca)) : CellsAt W b o f ao ca :=
  ⟨by rw [cell_of_row _ _ _ _ _ _ h]; exact h0, by rw [cell_of_row _ _ _ _ _ _ h]; exact h1, by rw [cell_of_row _ _ _ _ _ _ h]; exact h2, by rw [cell_of_row _ _ _ _ _ _ h]; exact h3, by rw [cell_of_row _ _ _ _ _ _ h]; exact h4, by rw [cell_of_row _ _ _ _ _ _ h]; exact h5, by rw [cell_of_row _ _ _ _ _ _ h]; exact h6⟩
theorem row_nil (S : Nat → Prop) (W : World) (d : Nat) (ao : Option Addr) : RowAt S W (d + 1) ao [] := ⟨by simp [big], fun h => absurd rfl h⟩
structure AW (W : World) (K B : Nat) : Prop where
  tab : Tab W
  k : W.heap[K]? = some (.cells #[.string ⟨#[97]⟩, .bool false, .int .i64 6, .int .i64 0, .int .i64 0, .int .i64 0, .slice none 0 0] 37)
  s : W.heap[B]? = some (.cells #[.string ⟨#[97]⟩, .bool false, .int .i64 6, .int .i64 0, .int .i64 0, .int .i64 0, .slice none 0 0, .string ⟨#[108]⟩, .bool true, .int .i64 15, .int .i64 0, .int .i64 0, .int .i64 0, .slice (some ⟨K, 0, none⟩) 1 1] 37)
theorem AW.gr {W W' : World} {K B : Nat} (h : AW W K B) (g : Gr W W') : AW W' K B := ⟨h.tab.gr g, (g.block _ (lt_of_heap h.k) id).trans h.k, (g.block _ (lt_of_heap h.s) id).trans h.s⟩
theorem AW.row {W : World} {K B : Nat} (h : AW W K B) : RowAt (fun b => b = K ∨ b = B) W 2 (some ⟨B, 0, none⟩) [aT, lT] := by
  refine ⟨by simp [big], fun _ => ⟨B, 0, rfl, .inr rfl, fun i hi => ?_⟩⟩
  match i, hi with
  | 0, _ => exact ⟨none, 0, cells_at h.s rfl rfl rfl rfl rfl rfl rfl, show aT.kids.length ≤ 0 by decide, row_nil _ _ _ _⟩
  | 1, _ =>
    refine ⟨some ⟨K, 0, none⟩, 1, cells_at h.s rfl rfl rfl rfl rfl rfl rfl, show lT.kids.length ≤ 1 by decide, show lT.kids.length ≤ big by decide, fun _ => ⟨K, 0, rfl, .inl rfl, fun i hi => ?_⟩⟩
    match i, hi with
    | 0, _ => exact ⟨none, 0, cells_at h.k rfl rfl rfl rfl rfl rfl rfl, show aT.kids.length ≤ 0 by decide, rfl⟩
theorem AW.lt {W : World} {K B : Nat} (h : AW W K B) : ∀ b, b = K ∨ b = B → b < W.heap.size := fun b e => e.elim (fun e => e ▸ lt_of_heap h.k) fun e => e ▸ lt_of_heap h.s
theorem notes_nil (W : World) : NotesAt W none [] := ⟨by simp [big], fun h => absurd rfl h⟩
theorem AW.look {W : World} {K B : Nat} (h : AW W K B) : ∀ W', Gr W W' → Calls Tryz.prog 37 #[.agg #[.slice (some ⟨B, 0, none⟩) 2 2, .slice none 0 0]] W' fun e w' => ∃ vo vn vc, e = .returned (.tuple #[.agg #[.int .i64 0, .slice vo vn vc, .int .i64 0], .int .i64 3]) ∧ Gr W' w' ∧ True :=
  look_ok (fo := some ⟨B, 0, none⟩) (no := none) (cf := 2) (cn := 0) (fs := [aT, lT]) (ns := []) h.tab h.row (by decide) (by decide) h.lt (notes_nil W) (by kernel_rfl) allR_s
theorem AW.check {W : World} {K B : Nat} (h : AW W K B) : ∀ W', Gr W W' → Calls Tryz.prog 12 #[.agg #[.slice (some ⟨B, 0, none⟩) 2 2, .slice none 0 0]] W' fun e w' => ∃ vo vn vc, e = .returned (.agg #[.int .i64 0, .slice vo vn vc, .int .i64 0]) ∧ Gr W' w' ∧ True :=
  check_walk _ _ _ _ _ _ 0 3 (fun _ _ _ _ => True) (fun _ _ _ _ _ _ _ _ _ _ => trivial) W h.look
theorem AW.may {W : World} {K B : Nat} (h : AW W K B) : ∀ W', Gr W W' → Calls Tryz.prog 38 #[.agg #[.slice (some ⟨B, 0, none⟩) 2 2, .slice none 0 0]] W' fun e w' => e = .returned (.bool true) ∧ Gr W' w' :=
  maybe_walk _ _ _ _ _ _ 0 _ W h.check
theorem AW.count {W : World} {K B : Nat} (h : AW W K B) : ∀ W', Gr W W' → Calls Tryz.prog 18 #[.agg #[.slice (some ⟨B, 0, none⟩) 2 2, .slice none 0 0]] W' fun e w' => e = .returned (.int .i64 3) ∧ Gr W' w' :=
  count_walk _ _ _ _ _ _ 3 W h.look
theorem AW.find {W : World} {K B : Nat} (h : AW W K B) : ∀ W', Gr W W' → Calls Tryz.prog 19 #[.agg #[.slice (some ⟨B, 0, none⟩) 2 2, .slice none 0 0], .string ⟨#[108]⟩] W' fun e w' => e = .returned (.int .i64 1) ∧ Gr W' w' :=
  find_walk _ _ _ _ _ _ ⟨#[108]⟩ 1 W h.may fun W' g => by
    have := numberOfName_any (fun b => b = K ∨ b = B) 2 (some ⟨B, 0, none⟩) 2 [aT, lT] ⟨#[108]⟩ W' (h.gr g).row (h.gr g).lt
    rw [idx_l] at this
    exact this
def txA (f : FT) : ByteArray := if f.kind = 15 then tL else tA
theorem text_a {W : World} (hT : Tab W) (ao : Option Addr) (ca : Nat) : ∀ W', Gr W W' → Calls Tryz.prog 45 #[fldV aT ao ca] W' fun e w' => e = .returned (.string (txA aT)) ∧ Gr W' w' :=
  fieldText_walk ⟨#[97]⟩ false 6 0 0 0 ao 0 ca ⟨(wordK 6).toArray⟩ W (by decide) (by decide) (typeText_plain 6 (by decide) 0 0 0 ao 0 ca W hT)
theorem text_l {W : World} (hT : Tab W) (S : Nat → Prop) (hS : ∀ b, S b → b < W.heap.size) (ao : Option Addr) (ca : Nat) (hr : RowAt S W 1 ao [aT]) : ∀ W', Gr W W' → Calls Tryz.prog 45 #[fldV lT ao ca] W' fun e w' => e = .returned (.string (txA lT)) ∧ Gr W' w' :=
  fieldText_walk ⟨#[108]⟩ true 15 0 0 0 ao 1 ca (brackB 15 [tA]) W (by decide) bA_sz (typeText_brack 15 (.inl rfl) 0 0 0 ao 1 ca [tA] (by decide) jA_sz W hT
    (fieldTexts_walk [aT] txA S 1 ao ca W hr hS fun i hi ao' ca' _ _ => by
      match i, hi with
      | 0, _ => exact text_a hT ao' ca'))
theorem AW.print {W : World} {K B : Nat} (h : AW W K B) : ∀ W', Gr W W' → Calls Tryz.prog 13 #[.agg #[.slice (some ⟨B, 0, none⟩) 2 2, .slice none 0 0]] W' fun e w' => e = .returned (.tuple #[.string (joinB [tA, tL]), .int .i64 0]) ∧ Gr W' w' :=
  print_walk _ _ _ _ _ [tA, tL] (by decide) text_sz W h.may
    (fieldTexts_walk [aT, lT] txA (fun b => b = K ∨ b = B) 2 (some ⟨B, 0, none⟩) 2 W h.row h.lt fun i hi ao' ca' hr _ => by
      match i, hi with
      | 0, _ => exact text_a h.tab ao' ca'
      | 1, _ => exact text_l h.tab _ h.lt ao' ca' hr)
theorem alike_ab {W : World} (hT : Tab W) : ∀ W', Gr W W' → Calls Tryz.prog 20 #[.agg #[.string ⟨#[97]⟩, .bool false, .int .i64 6, .int .i64 0, .int .i64 0, .int .i64 0, .slice none 0 0], .agg #[.string ⟨#[98]⟩, .bool false, .int .i64 6, .int .i64 0, .int .i64 0, .int .i64 0, .slice none 0 0]] W' fun e w' => e = .returned (.bool true) ∧ Gr W' w' :=
  alikeFields_walk ⟨#[97]⟩ ⟨#[98]⟩ false 6 0 0 0 none none 0 0 W
    (fieldMayBe_ok (fun _ => False) 0 aT none 0 W hT rfl (by decide) (by decide) (fun _ h => h.elim) allR_a)
    (fieldMayBe_ok (fun _ => False) 0 bT none 0 W hT rfl (by decide) (by decide) (fun _ h => h.elim) allR_b)
theorem check_aa {W : World} (B : Nat) (hT : Tab W) (hb : W.heap[B]? = some (.cells #[.string ⟨#[97]⟩, .bool false, .int .i64 6, .int .i64 0, .int .i64 0, .int .i64 0, .slice none 0 0, .string ⟨#[97]⟩, .bool false, .int .i64 6, .int .i64 0, .int .i64 0, .int .i64 0, .slice none 0 0] 37)) : ∀ W', Gr W W' → Calls Tryz.prog 12 #[.agg #[.slice (some ⟨B, 0, none⟩) 2 2, .slice none 0 0]] W' fun e w' => ∃ vo vn vc, e = .returned (.agg #[.int .i64 31, .slice vo vn vc, .int .i64 0]) ∧ Gr W' w' ∧ vn = 1 ∧ w'.ownsRow 0 3 1 (.slice vo vn vc) vn (ints [1]) := by
  have hrow : RowAt (fun b => b = B) W 1 (some ⟨B, 0, none⟩) [aT, aT] := by
    refine ⟨by simp [big], fun _ => ⟨B, 0, rfl, rfl, fun i hi => ?_⟩⟩
    match i, hi with
    | 0, _ => exact ⟨none, 0, cells_at hb rfl rfl rfl rfl rfl rfl rfl, show aT.kids.length ≤ 0 by decide, rfl⟩
    | 1, _ => exact ⟨none, 0, cells_at hb rfl rfl rfl rfl rfl rfl rfl, show aT.kids.length ≤ 0 by decide, rfl⟩
  have hl := look_bad (fo := some ⟨B, 0, none⟩) (no := none) (cf := 2) (cn := 0) (fs := [aT, aT]) (ns := []) hT hrow (by decide) (by decide) (fun b e => e ▸ lt_of_heap hb) (notes_nil W) (by kernel_rfl) (L := [⟨[aT, aT], [0], false⟩]) (x := ⟨[aT, aT], [1], false⟩) (by rw [nodes_aa]; exact List.prefix_rfl) allR_a2 (by rw [show ([⟨[aT, aT], [0], false⟩] : List LS).length = 1 from rfl, bad_aa]; decide)
  rw [show ([⟨[aT, aT], [0], false⟩] : List LS).length = 1 from rfl, bad_aa] at hl
  exact check_walk _ _ _ _ _ _ 31 1 (fun vo vn vc W => vn = 1 ∧ W.ownsRow 0 3 1 (.slice vo vn vc) vn (ints [1])) (fun vo vn vc A C b c h hc hk => ⟨h.1, own_kp h.2 fun g e => hk.block g (own_lt h.2 g e) fun e2 => by
    subst e2
    rcases h.2.2 with ⟨e3, _⟩ | ⟨g', cap, cur, e3, _, hg, _⟩
    · rw [e3] at e; simp [Value.ownBlock] at e
    rw [e3] at e; simp [Value.ownBlock] at e; rw [e, hc] at hg; simp at hg⟩) W hl
end Go.Proofs.YtkodgneneiledaaGreatDoor.Kit
namespace Go.Proofs.YtkodgneneiledaaGreatDoor.Kit
open Go.RowKit Go.Shelf Go.Deep
set_option linter.unusedVariables false
attribute [local go_sem] run_store_func
theorem allocs6 (W : World) (o0 o1 o2 o3 o4 o5 : Obj) :
    ((((((W.alloc o0).alloc o1).alloc o2).alloc o3).alloc o4).alloc o5).heap[W.heap.size]? = some o0 ∧ ((((((W.alloc o0).alloc o1).alloc o2).alloc o3).alloc o4).alloc o5).heap[W.heap.size + 1]? = some o1 ∧
    ((((((W.alloc o0).alloc o1).alloc o2).alloc o3).alloc o4).alloc o5).heap[W.heap.size + 3]? = some o3 ∧ ((((((W.alloc o0).alloc o1).alloc o2).alloc o3).alloc o4).alloc o5).heap[W.heap.size + 4]? = some o4 ∧
    ((((((W.alloc o0).alloc o1).alloc o2).alloc o3).alloc o4).alloc o5).heap[W.heap.size + 5]? = some o5 ∧ Gr W ((((((W.alloc o0).alloc o1).alloc o2).alloc o3).alloc o4).alloc o5) := by
  have al : ∀ {W : World} {b : Nat} {x : Obj} (o : Obj), W.heap[b]? = some x → (W.alloc o).heap[b]? = some x := fun {W b x} o h => (Below.heap_alloc W o b (lt_of_heap h)).trans h
  have an : ∀ (W : World) (o : Obj) (n : Nat), W.heap.size = n → (W.alloc o).heap[n]? = some o := fun W o n h => by subst h; exact World.alloc_heap_new W o
  refine ⟨al _ (al _ (al _ (al _ (al _ (an _ _ _ rfl))))), al _ (al _ (al _ (al _ (an _ _ _ (by simp))))), al _ (al _ (an _ _ _ (by simp))), al _ (an _ _ _ (by simp)), an _ _ _ (by simp), (((((gr_alloc W o0).alloc o1).alloc o2).alloc o3).alloc o4).alloc o5⟩
structure AH (w W : World) (A K B X Y g : Nat) (vc : Nat) : Prop where
  gr : Gr w W
  aw : AW W K B
  a : W.heap[A]? = some (.cells #[.string ⟨#[97]⟩, .bool false, .int .i64 6, .int .i64 0, .int .i64 0, .int .i64 0, .slice none 0 0] 37)
  s : W.heap[X]? = some (.cells #[.slice (some ⟨B, 0, none⟩) 2 2, .slice none 0 0] 27)
  x : W.heap[Y]? = some (.cells #[.int .i64 31, .slice (some ⟨g, 0, none⟩) 1 vc, .int .i64 0] 46)
  p : W.cell? ⟨g, 0, none⟩ = some (.int .i64 1)
theorem AH.kept {w W W' : World} {A K B X Y g : Nat} {vc : Nat} (h : AH w W A K B X Y g vc) (k : Gr W W') : AH w W' A K B X Y g vc :=
  ⟨h.gr.trans k (fun _ _ h => h), h.aw.gr k, (k.block _ (lt_of_heap h.a) id).trans h.a, (k.block _ (lt_of_heap h.s) id).trans h.s, (k.block _ (lt_of_heap h.x) id).trans h.x, k.cell' h.p id⟩
theorem ah_of {w W : World} {A K B X Y g : Nat} {vc : Nat} (h : AH w W A K B X Y g vc) : Hid (AH w W A K B X Y g vc) ∧ W.cell? ⟨A, 0, none⟩ = some (.string ⟨#[97]⟩) ∧ W.cell? ⟨A, 1, none⟩ = some (.bool false) ∧ W.cell? ⟨A, 2, none⟩ = some (.int .i64 6) ∧ W.cell? ⟨A, 3, none⟩ = some (.int .i64 0) ∧ W.cell? ⟨A, 4, none⟩ = some (.int .i64 0) ∧ W.cell? ⟨A, 5, none⟩ = some (.int .i64 0) ∧ W.cell? ⟨A, 6, none⟩ = some (.slice none 0 0) ∧ W.cell? ⟨X, 0, none⟩ = some (.slice (some ⟨B, 0, none⟩) 2 2) ∧ W.cell? ⟨X, 1, none⟩ = some (.slice none 0 0) ∧ W.cell? ⟨Y, 0, none⟩ = some (.int .i64 31) ∧ W.cell? ⟨Y, 1, none⟩ = some (.slice (some ⟨g, 0, none⟩) 1 vc) ∧ W.cell? ⟨g, 0, none⟩ = some (.int .i64 1) := by
  obtain ⟨v0, v1, v2, v3, v4, v5, v6⟩ := cell7 h.a
  obtain ⟨y0, y1, y2⟩ := cell3 h.x
  exact ⟨h, v0, by simpa using v1, by simpa using v2, by simpa using v3, by simpa using v4, by simpa using v5, by simpa using v6, by simp [World.cell?, h.s], by simp [World.cell?, h.s], y0, y1, h.p⟩
theorem ah_kept {w W W' : World} {A K B X Y g : Nat} {vc : Nat} (h : Hid (AH w W A K B X Y g vc) ∧ W.cell? ⟨A, 0, none⟩ = some (.string ⟨#[97]⟩) ∧ W.cell? ⟨A, 1, none⟩ = some (.bool false) ∧ W.cell? ⟨A, 2, none⟩ = some (.int .i64 6) ∧ W.cell? ⟨A, 3, none⟩ = some (.int .i64 0) ∧ W.cell? ⟨A, 4, none⟩ = some (.int .i64 0) ∧ W.cell? ⟨A, 5, none⟩ = some (.int .i64 0) ∧ W.cell? ⟨A, 6, none⟩ = some (.slice none 0 0) ∧ W.cell? ⟨X, 0, none⟩ = some (.slice (some ⟨B, 0, none⟩) 2 2) ∧ W.cell? ⟨X, 1, none⟩ = some (.slice none 0 0) ∧ W.cell? ⟨Y, 0, none⟩ = some (.int .i64 31) ∧ W.cell? ⟨Y, 1, none⟩ = some (.slice (some ⟨g, 0, none⟩) 1 vc) ∧ W.cell? ⟨g, 0, none⟩ = some (.int .i64 1)) (k : Hid (Gr W W')) : Hid (AH w W' A K B X Y g vc) ∧ W'.cell? ⟨A, 0, none⟩ = some (.string ⟨#[97]⟩) ∧ W'.cell? ⟨A, 1, none⟩ = some (.bool false) ∧ W'.cell? ⟨A, 2, none⟩ = some (.int .i64 6) ∧ W'.cell? ⟨A, 3, none⟩ = some (.int .i64 0) ∧ W'.cell? ⟨A, 4, none⟩ = some (.int .i64 0) ∧ W'.cell? ⟨A, 5, none⟩ = some (.int .i64 0) ∧ W'.cell? ⟨A, 6, none⟩ = some (.slice none 0 0) ∧ W'.cell? ⟨X, 0, none⟩ = some (.slice (some ⟨B, 0, none⟩) 2 2) ∧ W'.cell? ⟨X, 1, none⟩ = some (.slice none 0 0) ∧ W'.cell? ⟨Y, 0, none⟩ = some (.int .i64 31) ∧ W'.cell? ⟨Y, 1, none⟩ = some (.slice (some ⟨g, 0, none⟩) 1 vc) ∧ W'.cell? ⟨g, 0, none⟩ = some (.int .i64 1) := ah_of (h.1.out.kept k.out)
theorem ah_aw {w W : World} {A K B X Y g : Nat} {vc : Nat} (h : Hid (AH w W A K B X Y g vc) ∧ W.cell? ⟨A, 0, none⟩ = some (.string ⟨#[97]⟩) ∧ W.cell? ⟨A, 1, none⟩ = some (.bool false) ∧ W.cell? ⟨A, 2, none⟩ = some (.int .i64 6) ∧ W.cell? ⟨A, 3, none⟩ = some (.int .i64 0) ∧ W.cell? ⟨A, 4, none⟩ = some (.int .i64 0) ∧ W.cell? ⟨A, 5, none⟩ = some (.int .i64 0) ∧ W.cell? ⟨A, 6, none⟩ = some (.slice none 0 0) ∧ W.cell? ⟨X, 0, none⟩ = some (.slice (some ⟨B, 0, none⟩) 2 2) ∧ W.cell? ⟨X, 1, none⟩ = some (.slice none 0 0) ∧ W.cell? ⟨Y, 0, none⟩ = some (.int .i64 31) ∧ W.cell? ⟨Y, 1, none⟩ = some (.slice (some ⟨g, 0, none⟩) 1 vc) ∧ W.cell? ⟨g, 0, none⟩ = some (.int .i64 1)) : AW W K B := h.1.out.aw
theorem awake_any (w : World) (hT : Tab w) : Calls Tryz.prog 5 #[] w fun e w' => e = .returned (.bool true) ∧ Gr w w' := by
  have HT := hidM hT
  clear hT
  go_enter Tryz.func5, Tryz.ntmps5
  go_wp2_with (first | (go_at_call 17; refine (one_any _ _).mono ?_; rintro e W1 ⟨rfl, hg1⟩) | (go_at_call 12; refine Hid.out ?_))
  unfold Hid
  obtain ⟨h0, h1, h3, h4, h5, hg6⟩ := allocs6 W1 (.cells #[.string ⟨#[97]⟩, .bool false, .int .i64 6, .int .i64 0, .int .i64 0, .int .i64 0, .slice none 0 0] 37) (.cells #[.string ⟨#[97]⟩, .bool false, .int .i64 6, .int .i64 0, .int .i64 0, .int .i64 0, .slice none 0 0] 37) (.cells #[.string ⟨#[108]⟩, .bool true, .int .i64 15, .int .i64 0, .int .i64 0, .int .i64 0, .slice (some ⟨W1.heap.size + 1, 0, none⟩) 1 1] 37) (.cells #[.string ⟨#[97]⟩, .bool false, .int .i64 6, .int .i64 0, .int .i64 0, .int .i64 0, .slice none 0 0, .string ⟨#[108]⟩, .bool true, .int .i64 15, .int .i64 0, .int .i64 0, .int .i64 0, .slice (some ⟨W1.heap.size + 1, 0, none⟩) 1 1] 37) (.cells #[.slice (some ⟨W1.heap.size + 1 + 1 + 1, 0, none⟩) 2 2, .slice none 0 0] 27) (.cells #[.string ⟨#[97]⟩, .bool false, .int .i64 6, .int .i64 0, .int .i64 0, .int .i64 0, .slice none 0 0, .string ⟨#[97]⟩, .bool false, .int .i64 6, .int .i64 0, .int .i64 0, .int .i64 0, .slice none 0 0] 37)
  generalize ((((((W1.alloc (.cells #[.string ⟨#[97]⟩, .bool false, .int .i64 6, .int .i64 0, .int .i64 0, .int .i64 0, .slice none 0 0] 37)).alloc (.cells #[.string ⟨#[97]⟩, .bool false, .int .i64 6, .int .i64 0, .int .i64 0, .int .i64 0, .slice none 0 0] 37)).alloc (.cells #[.string ⟨#[108]⟩, .bool true, .int .i64 15, .int .i64 0, .int .i64 0, .int .i64 0, .slice (some ⟨W1.heap.size + 1, 0, none⟩) 1 1] 37)).alloc (.cells #[.string ⟨#[97]⟩, .bool false, .int .i64 6, .int .i64 0, .int .i64 0, .int .i64 0, .slice none 0 0, .string ⟨#[108]⟩, .bool true, .int .i64 15, .int .i64 0, .int .i64 0, .int .i64 0, .slice (some ⟨W1.heap.size + 1, 0, none⟩) 1 1] 37)).alloc (.cells #[.slice (some ⟨W1.heap.size + 1 + 1 + 1, 0, none⟩) 2 2, .slice none 0 0] 27)).alloc (.cells #[.string ⟨#[97]⟩, .bool false, .int .i64 6, .int .i64 0, .int .i64 0, .int .i64 0, .slice none 0 0, .string ⟨#[97]⟩, .bool false, .int .i64 6, .int .i64 0, .int .i64 0, .int .i64 0, .slice none 0 0] 37)) = W6 at *
  have hT6 : Tab W6 := (HT.out.gr hg1).gr hg6
  have hAW : AW W6 (W1.heap.size + 1) (W1.heap.size + 3) := ⟨hT6, h1, h3⟩
  have hgw := hg1.trans hg6 (fun _ _ h => h)
  clear hg1 hg6 h1 h3
  rw [show W1.heap.size + 1 + 1 + 1 + 1 + 1 = W1.heap.size + 5 from rfl, show W1.heap.size + 1 + 1 + 1 + 1 = W1.heap.size + 4 from rfl, show W1.heap.size + 1 + 1 + 1 = W1.heap.size + 3 from rfl]
  obtain ⟨A, hA⟩ : ∃ A, A = W1.heap.size := ⟨_, rfl⟩
  obtain ⟨K, hK⟩ : ∃ K, K = W1.heap.size + 1 := ⟨_, rfl⟩
  obtain ⟨B, hB⟩ : ∃ B, B = W1.heap.size + 3 := ⟨_, rfl⟩
  obtain ⟨X, hX⟩ : ∃ X, X = W1.heap.size + 4 := ⟨_, rfl⟩
  obtain ⟨C, hC⟩ : ∃ C, C = W1.heap.size + 5 := ⟨_, rfl⟩
  rw [show W1.heap.size + 1 + 1 + 1 = W1.heap.size + 3 from rfl] at h4
  rw [← hB, ← hX] at h4
  rw [← hC] at h5
  rw [← hK, ← hB] at hAW
  rw [← hA] at h0
  rw [← hC, ← hX, ← hB, ← hK, ← hA]
  refine Calls.mono (check_aa C hT6 h5 W6 (Keeps.refl _ _)) ?_
  rintro e W7 ⟨vo, vn, vc, rfl, hg7, rfl, ho⟩
  obtain ⟨g, cap, e⟩ := ownsRow_succ (k := 0) ho
  simp only [Value.slice.injEq] at e
  obtain ⟨rfl, -, -⟩ := e
  have hp : W7.cell? ⟨g, 0, none⟩ = some (.int .i64 1) := by rw [ho.cellAt 0 (by decide)]; rfl
  obtain ⟨W8, hW8⟩ : ∃ W8, W7.alloc (.cells #[.int .i64 31, .slice (some ⟨g, 0, none⟩) 1 vc, .int .i64 0] 46) = W8 := ⟨_, rfl⟩
  have hg8 : Gr W6 W8 := by rw [← hW8]; exact hg7.alloc _
  have h8 : AH w W8 A K B X W7.heap.size g vc := ⟨hgw.trans hg8 (fun _ _ h => h), hAW.gr hg8, (hg8.block _ (lt_of_heap h0) id).trans h0, (hg8.block _ (lt_of_heap h4) id).trans h4, by rw [← hW8]; exact World.alloc_heap_new W7 _, by rw [← hW8]; exact (gr_alloc W7 _).cell' hp id⟩
  have H8 := hidM h8
  have hs7 := (hg7.block _ (lt_of_heap h4) id).trans h4
  have y0' : W7.cell? ⟨X, 0, none⟩ = some (.slice (some ⟨B, 0, none⟩) 2 2) := by simp [World.cell?, hs7]
  have y1' : W7.cell? ⟨X, 1, none⟩ = some (.slice none 0 0) := by simp [World.cell?, hs7]
  have y0 : ∀ o, (W7.alloc o).cell? ⟨X, 0, none⟩ = some (.slice (some ⟨B, 0, none⟩) 2 2) := fun o => (gr_alloc W7 o).cell' y0' id
  have y1 : ∀ o, (W7.alloc o).cell? ⟨X, 1, none⟩ = some (.slice none 0 0) := fun o => (gr_alloc W7 o).cell' y1' id
  have H88 := hidM hW8
  clear h0 h4 h5 hT6 hAW hgw hA hK hB hX hC hg7 ho hp hg8 h8 y0' y1' hs7 hW8
  go_wp2_with (go_at_call 13; refine Hid.out ?_)
  unfold Hid
  rw [H88.out]
  refine Calls.mono (H8.out.aw.print W8 (Keeps.refl _ _)) ?_
  rintro e W9 ⟨rfl, hg9⟩
  have H9 := hidM (H8.out.kept hg9)
  clear y0 y1 H8 hg9 H88
  generalize W7.heap.size = Y at *
  have hjt : ((joinB [tA, tL]).toList == [97, 32, 105, 110, 116, 54, 52, 44, 32, 108, 32, 108, 105, 115, 116, 40, 97, 32, 105, 110, 116, 54, 52, 41, 63]) = true := by rw [text_s]; decide
  generalize joinB [tA, tL] = jt at *
  go_wp2_with fail
  have HIN : Hid (Hid (AH w W9.drew A K B X Y g vc) ∧ W9.drew.cell? ⟨A, 0, none⟩ = some (.string ⟨#[97]⟩) ∧ W9.drew.cell? ⟨A, 1, none⟩ = some (.bool false) ∧ W9.drew.cell? ⟨A, 2, none⟩ = some (.int .i64 6) ∧ W9.drew.cell? ⟨A, 3, none⟩ = some (.int .i64 0) ∧ W9.drew.cell? ⟨A, 4, none⟩ = some (.int .i64 0) ∧ W9.drew.cell? ⟨A, 5, none⟩ = some (.int .i64 0) ∧ W9.drew.cell? ⟨A, 6, none⟩ = some (.slice none 0 0) ∧ W9.drew.cell? ⟨X, 0, none⟩ = some (.slice (some ⟨B, 0, none⟩) 2 2) ∧ W9.drew.cell? ⟨X, 1, none⟩ = some (.slice none 0 0) ∧ W9.drew.cell? ⟨Y, 0, none⟩ = some (.int .i64 31) ∧ W9.drew.cell? ⟨Y, 1, none⟩ = some (.slice (some ⟨g, 0, none⟩) 1 vc) ∧ W9.drew.cell? ⟨g, 0, none⟩ = some (.int .i64 1)) := ah_of (H9.out.kept gr_drew)
  clear H9
  have hfl : ∀ vo vn vc w, (Instr.field 46 (.agg #[.int .i64 0, .slice vo vn vc, .int .i64 0]) 0).run Tryz.prog w = .ok (.int .i64 0) w := fun vo vn vc w => by kernel_rfl
  go_region_held3 (fun w' => Hid (AH w w' A K B X Y g vc) ∧ w'.cell? ⟨A, 0, none⟩ = some (.string ⟨#[97]⟩) ∧ w'.cell? ⟨A, 1, none⟩ = some (.bool false) ∧ w'.cell? ⟨A, 2, none⟩ = some (.int .i64 6) ∧ w'.cell? ⟨A, 3, none⟩ = some (.int .i64 0) ∧ w'.cell? ⟨A, 4, none⟩ = some (.int .i64 0) ∧ w'.cell? ⟨A, 5, none⟩ = some (.int .i64 0) ∧ w'.cell? ⟨A, 6, none⟩ = some (.slice none 0 0) ∧ w'.cell? ⟨X, 0, none⟩ = some (.slice (some ⟨B, 0, none⟩) 2 2) ∧ w'.cell? ⟨X, 1, none⟩ = some (.slice none 0 0) ∧ w'.cell? ⟨Y, 0, none⟩ = some (.int .i64 31) ∧ w'.cell? ⟨Y, 1, none⟩ = some (.slice (some ⟨g, 0, none⟩) 1 vc) ∧ w'.cell? ⟨g, 0, none⟩ = some (.int .i64 1)) (first | with_reducible exact HIN.out | with_reducible assumption | with_reducible exact ah_kept (by assumption) hk5 | with_reducible exact ah_kept (by assumption) hk4 | with_reducible exact ah_kept (by assumption) hk3 | with_reducible exact ah_kept (by assumption) hk2 | with_reducible exact ah_kept (by assumption) hk1)
    (first
      | (go_at_call 12; refine Calls.mono ((ah_aw (by assumption)).check _ (Keeps.refl _ _)) ?_; rintro e v1 ⟨vo1, vn1, vc1, rfl, hk1, -⟩; replace hk1 := hidM hk1)
      | (go_at_call 18; refine Calls.mono ((ah_aw (by assumption)).count _ (Keeps.refl _ _)) ?_; rintro e v2 ⟨rfl, hk2⟩; replace hk2 := hidM hk2)
      | (go_at_call 19; refine Calls.mono ((ah_aw (by assumption)).find _ (Keeps.refl _ _)) ?_; rintro e v3 ⟨rfl, hk3⟩; replace hk3 := hidM hk3)
      | (go_at_call 17; refine Calls.mono (one_any _ _) ?_; rintro e v4 ⟨rfl, hk4⟩; replace hk4 := hidM hk4)
      | (go_at_call 20; refine Calls.mono (alike_ab (ah_aw (by assumption)).tab _ (Keeps.refl _ _)) ?_; rintro e v5 ⟨rfl, hk5⟩; replace hk5 := hidM hk5))
  rename_i hHeld
  have HG := hidM hHeld.1.out.gr
  clear hHeld hk1 hk2 hk3 hk4 hk5 HIN
  go_wp2_with fail
  go_ret
  exact ⟨rfl, HG.out⟩
end Go.Proofs.YtkodgneneiledaaGreatDoor.Kit
namespace Go.Proofs.YtkodgneneiledaaGreatDoor.Kit
open Go.RowKit Go.Shelf Go.Deep
set_option linter.unusedVariables false
theorem cell2 {W : World} {B t : Nat} {x y : Value} (h : W.heap[B]? = some (.cells #[x, y] t)) : W.cell? ⟨B, 0, none⟩ = some x ∧ W.cell? ⟨B, 1, none⟩ = some y := by simp [World.cell?, h]
def wdB (k : Nat) : ByteArray := ⟨(wordK k).toArray⟩
end Go.Proofs.YtkodgneneiledaaGreatDoor.Kit
namespace Go.Proofs.YtkodgneneiledaaGreatDoor.Kit
open Go.RowKit Go.Shelf Go.Deep
set_option linter.unusedVariables false
attribute [local go_sem] run_store_func
end Go.Proofs.YtkodgneneiledaaGreatDoor.Kit
namespace Go.Proofs.YtkodgneneiledaaGreatDoor.Kit
open Go.RowKit Go.Shelf Go.Deep
set_option linter.unusedVariables false
end Go.Proofs.YtkodgneneiledaaGreatDoor.Kit
namespace Go.Proofs.YtkodgneneiledaaGreatDoor.Kit
open Go.RowKit Go.Shelf Go.Deep
set_option linter.unusedVariables false
attribute [local go_sem] run_store_func
def bv (l : List UInt8) : List Value := l.map fun b => .int .u8 (b.toNat : Int)
def hxB (n : Nat) : UInt8 := if n < 10 then UInt8.ofNat (48 + n) else UInt8.ofNat (87 + n)
end Go.Proofs.YtkodgneneiledaaGreatDoor.Kit
namespace Go.Proofs.YtkodgneneiledaaGreatDoor.Kit
open Go.RowKit Go.Shelf Go.Deep
set_option linter.unusedVariables false
attribute [local go_sem] run_store_func
end Go.Proofs.YtkodgneneiledaaGreatDoor.Kit
