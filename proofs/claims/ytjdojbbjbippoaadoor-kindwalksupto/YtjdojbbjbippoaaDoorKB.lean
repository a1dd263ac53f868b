import Derived.Test.YtjdojbbjbippoaaDoorJD
namespace Go.Proofs.YtjdojbbjbippoaaDoor.Kit
open Go.RowKit Go.Shelf Go.Deep
set_option linter.unusedVariables false

def sA : ByteArray := ⟨#[97]⟩
def sB : ByteArray := ⟨#[98]⟩
def sL : ByteArray := ⟨#[108]⟩
def aT : FT := .mk ⟨#[97]⟩ false 6 0 0 0 []
def bT : FT := .mk ⟨#[98]⟩ false 6 0 0 0 []
def lT : FT := .mk ⟨#[108]⟩ true 15 0 0 0 [aT]
def x0 : LS := ⟨[aT, lT], [0], false⟩
def x1 : LS := ⟨[aT, lT], [1], false⟩
def x2 : LS := ⟨[aT], [1, 0], false⟩
theorem w0 : wrongE x0 0 (tkL []) = 0 := by kernel_rfl
theorem w1 : wrongE x1 1 (tkL [x0]) = 0 := by kernel_rfl
theorem w2 : wrongE x2 2 (tkL [x0, x1]) = 0 := by kernel_rfl
theorem nodes_s : nodes 2 [aT, lT] [] false = [x0, x1, x2] := rfl
theorem allR_s : AllR (nodes 2 [aT, lT] [] false) := by
  rw [nodes_s]
  exact AllR.snoc (l := [x0, x1]) (AllR.snoc (l := [x0]) (AllR.snoc (l := []) AllR.nil w0) w1) w2
theorem wa : wrongE ⟨[aT], [0], false⟩ 0 (tkL []) = 0 := by kernel_rfl
theorem wb : wrongE ⟨[bT], [0], false⟩ 0 (tkL []) = 0 := by kernel_rfl
theorem waa : wrongE ⟨[aT, aT], [0], false⟩ 0 (tkL []) = 0 := by kernel_rfl
theorem allR_a : AllR (nodes 1 [aT] [] false) := AllR.snoc (l := []) AllR.nil wa
theorem allR_b : AllR (nodes 1 [bT] [] false) := AllR.snoc (l := []) AllR.nil wb
theorem allR_a2 : AllR [(⟨[aT, aT], [0], false⟩ : LS)] := AllR.snoc (l := []) AllR.nil waa
theorem nodes_aa : nodes 1 [aT, aT] [] false = [⟨[aT, aT], [0], false⟩, ⟨[aT, aT], [1], false⟩] := rfl
theorem bad_aa : wrongE ⟨[aT, aT], [1], false⟩ 1 (tkL [⟨[aT, aT], [0], false⟩]) = 31 := by kernel_rfl
theorem len_s : (nodes 2 [aT, lT] [] false).length = 3 := by kernel_rfl
theorem idx_l : idxOf [aT, lT] ⟨#[108]⟩ = 1 := by kernel_rfl
def tA : ByteArray := aT.name ++ ⟨#[32]⟩ ++ ⟨(wordK 6).toArray⟩
def tL : ByteArray := lT.name ++ ⟨#[32]⟩ ++ brackB 15 [tA] ++ ⟨#[63]⟩
theorem text_s : (joinB [tA, tL]).toList = [97, 32, 105, 110, 116, 54, 52, 44, 32, 108, 32, 108, 105, 115, 116, 40, 97, 32, 105, 110, 116, 54, 52, 41, 63] := by kernel_rfl
theorem text_sz : (joinB [tA, tL]).size ≤ 1000000000000 := by decide +kernel
theorem jA_sz : (joinB [tA]).size ≤ 1000000000000 := by decide +kernel
theorem bA_sz : (brackB 15 [tA]).size ≤ 1000000000000 := by decide +kernel
end Go.Proofs.YtjdojbbjbippoaaDoor.Kit
namespace Go.Proofs.YtjdojbbjbippoaaDoor.Kit
open Go.RowKit Go.Shelf Go.Deep
set_option linter.unusedVariables false

theorem cells_at {W : World} {b o : Nat} {c : Array Value} {f : FT} {ao : Option Addr} {ca : Nat} (h : W.heap[b]? = some (.cells c 38))
    (h0 : c[o]? = some (.string f.name)) (h1 : c[o + 1]? = some (.bool f.nul)) (h2 : c[o + 2]? = some (.int .i64 f.kind)) (h3 : c[o + 3]? = some (.int .i64 f.width)) (h4 : c[o + 4]? = some (.int .i64 f.id)) (h5 : c[o + 5]? = some (.int .i64 f.index)) (h6 : c[o + 6]? = some (.slice ao f.kids.length ca)) : CellsAt W b o f ao ca :=
  ⟨by rw [cell_of_row _ _ _ _ _ _ h]; exact h0, by rw [cell_of_row _ _ _ _ _ _ h]; exact h1, by rw [cell_of_row _ _ _ _ _ _ h]; exact h2, by rw [cell_of_row _ _ _ _ _ _ h]; exact h3, by rw [cell_of_row _ _ _ _ _ _ h]; exact h4, by rw [cell_of_row _ _ _ _ _ _ h]; exact h5, by rw [cell_of_row _ _ _ _ _ _ h]; exact h6⟩
theorem row_nil (S : Nat → Prop) (W : World) (d : Nat) (ao : Option Addr) : RowAt S W (d + 1) ao [] := ⟨by simp [big], fun h => absurd rfl h⟩
/-- the schema of awake -/
structure AW (W : World) (K B : Nat) : Prop where
  tab : Tab W
  k : W.heap[K]? = some (.cells #[.string ⟨#[97]⟩, .bool false, .int .i64 6, .int .i64 0, .int .i64 0, .int .i64 0, .slice none 0 0] 38)
  s : W.heap[B]? = some (.cells #[.string ⟨#[97]⟩, .bool false, .int .i64 6, .int .i64 0, .int .i64 0, .int .i64 0, .slice none 0 0, .string ⟨#[108]⟩, .bool true, .int .i64 15, .int .i64 0, .int .i64 0, .int .i64 0, .slice (some ⟨K, 0, none⟩) 1 1] 38)
theorem AW.gr {W W' : World} {K B : Nat} (h : AW W K B) (g : Gr W W') : AW W' K B := ⟨h.tab.gr g, (g.block _ (lt_of_heap h.k) id).trans h.k, (g.block _ (lt_of_heap h.s) id).trans h.s⟩
theorem AW.row {W : World} {K B : Nat} (h : AW W K B) : RowAt (fun b => b = K ∨ b = B) W 2 (some ⟨B, 0, none⟩) [aT, lT] := by
  refine ⟨by simp [big], fun _ => ⟨B, 0, rfl, .inr rfl, fun i hi => ?_⟩⟩
  match i, hi with
  | 0, _ => exact ⟨none, 0, cells_at h.s rfl rfl rfl rfl rfl rfl rfl, show aT.kids.length ≤ 0 by decide, row_nil _ _ _ _⟩
  | 1, _ =>
    refine ⟨some ⟨K, 0, none⟩, 1, cells_at h.s rfl rfl rfl rfl rfl rfl rfl, show lT.kids.length ≤ 1 by decide, show lT.kids.length ≤ big by decide, fun _ => ⟨K, 0, rfl, .inl rfl, fun i hi => ?_⟩⟩
    match i, hi with
    | 0, _ => exact ⟨none, 0, cells_at h.k rfl rfl rfl rfl rfl rfl rfl, show aT.kids.length ≤ 0 by decide, rfl⟩
theorem AW.lt {W : World} {K B : Nat} (h : AW W K B) : ∀ b, b = K ∨ b = B → b < W.heap.size := fun b e => e.elim (fun e => e ▸ lt_of_heap h.k) fun e => e ▸ lt_of_heap h.s
theorem notes_nil (W : World) : NotesAt W none [] := ⟨by simp [big], fun h => absurd rfl h⟩
theorem AW.look {W : World} {K B : Nat} (h : AW W K B) : ∀ W', Gr W W' → Calls Tryd.prog 30 #[.agg #[.slice (some ⟨B, 0, none⟩) 2 2, .slice none 0 0]] W' fun e w' => ∃ vo vn vc, e = .returned (.tuple #[.agg #[.int .i64 0, .slice vo vn vc, .int .i64 0], .int .i64 3]) ∧ Gr W' w' ∧ True :=
  look_ok (fo := some ⟨B, 0, none⟩) (no := none) (cf := 2) (cn := 0) (fs := [aT, lT]) (ns := []) h.tab h.row (by decide) (by decide) h.lt (notes_nil W) (by kernel_rfl) allR_s
theorem AW.check {W : World} {K B : Nat} (h : AW W K B) : ∀ W', Gr W W' → Calls Tryd.prog 13 #[.agg #[.slice (some ⟨B, 0, none⟩) 2 2, .slice none 0 0]] W' fun e w' => ∃ vo vn vc, e = .returned (.agg #[.int .i64 0, .slice vo vn vc, .int .i64 0]) ∧ Gr W' w' ∧ True :=
  check_walk _ _ _ _ _ _ 0 3 (fun _ _ _ _ => True) (fun _ _ _ _ _ _ _ _ _ _ => trivial) W h.look
theorem AW.may {W : World} {K B : Nat} (h : AW W K B) : ∀ W', Gr W W' → Calls Tryd.prog 21 #[.agg #[.slice (some ⟨B, 0, none⟩) 2 2, .slice none 0 0]] W' fun e w' => e = .returned (.bool true) ∧ Gr W' w' :=
  maybe_walk _ _ _ _ _ _ 0 _ W h.check
theorem AW.count {W : World} {K B : Nat} (h : AW W K B) : ∀ W', Gr W W' → Calls Tryd.prog 15 #[.agg #[.slice (some ⟨B, 0, none⟩) 2 2, .slice none 0 0]] W' fun e w' => e = .returned (.int .i64 3) ∧ Gr W' w' :=
  count_walk _ _ _ _ _ _ 3 W h.look
theorem AW.find {W : World} {K B : Nat} (h : AW W K B) : ∀ W', Gr W W' → Calls Tryd.prog 16 #[.agg #[.slice (some ⟨B, 0, none⟩) 2 2, .slice none 0 0], .string ⟨#[108]⟩] W' fun e w' => e = .returned (.int .i64 1) ∧ Gr W' w' :=
  find_walk _ _ _ _ _ _ ⟨#[108]⟩ 1 W h.may fun W' g => by
    have := numberOfName_any (fun b => b = K ∨ b = B) 2 (some ⟨B, 0, none⟩) 2 [aT, lT] ⟨#[108]⟩ W' (h.gr g).row (h.gr g).lt
    rw [idx_l] at this
    exact this
def txA (f : FT) : ByteArray := if f.kind = 15 then tL else tA
theorem text_a {W : World} (hT : Tab W) (ao : Option Addr) (ca : Nat) : ∀ W', Gr W W' → Calls Tryd.prog 47 #[fldV aT ao ca] W' fun e w' => e = .returned (.string (txA aT)) ∧ Gr W' w' :=
  fieldText_walk ⟨#[97]⟩ false 6 0 0 0 ao 0 ca ⟨(wordK 6).toArray⟩ W (by decide) (by decide) (typeText_plain 6 (by decide) 0 0 0 ao 0 ca W hT)
theorem text_l {W : World} (hT : Tab W) (S : Nat → Prop) (hS : ∀ b, S b → b < W.heap.size) (ao : Option Addr) (ca : Nat) (hr : RowAt S W 1 ao [aT]) : ∀ W', Gr W W' → Calls Tryd.prog 47 #[fldV lT ao ca] W' fun e w' => e = .returned (.string (txA lT)) ∧ Gr W' w' :=
  fieldText_walk ⟨#[108]⟩ true 15 0 0 0 ao 1 ca (brackB 15 [tA]) W (by decide) bA_sz (typeText_brack 15 (.inl rfl) 0 0 0 ao 1 ca [tA] (by decide) jA_sz W hT
    (fieldTexts_walk [aT] txA S 1 ao ca W hr hS fun i hi ao' ca' _ _ => by
      match i, hi with
      | 0, _ => exact text_a hT ao' ca'))
theorem AW.print {W : World} {K B : Nat} (h : AW W K B) : ∀ W', Gr W W' → Calls Tryd.prog 14 #[.agg #[.slice (some ⟨B, 0, none⟩) 2 2, .slice none 0 0]] W' fun e w' => e = .returned (.tuple #[.string (joinB [tA, tL]), .int .i64 0]) ∧ Gr W' w' :=
  print_walk _ _ _ _ _ [tA, tL] (by decide) text_sz W h.may
    (fieldTexts_walk [aT, lT] txA (fun b => b = K ∨ b = B) 2 (some ⟨B, 0, none⟩) 2 W h.row h.lt fun i hi ao' ca' hr _ => by
      match i, hi with
      | 0, _ => exact text_a h.tab ao' ca'
      | 1, _ => exact text_l h.tab _ h.lt ao' ca' hr)
theorem alike_ab {W : World} (hT : Tab W) : ∀ W', Gr W W' → Calls Tryd.prog 17 #[.agg #[.string ⟨#[97]⟩, .bool false, .int .i64 6, .int .i64 0, .int .i64 0, .int .i64 0, .slice none 0 0], .agg #[.string ⟨#[98]⟩, .bool false, .int .i64 6, .int .i64 0, .int .i64 0, .int .i64 0, .slice none 0 0]] W' fun e w' => e = .returned (.bool true) ∧ Gr W' w' :=
  alikeFields_walk ⟨#[97]⟩ ⟨#[98]⟩ false 6 0 0 0 none none 0 0 W
    (fieldMayBe_ok (fun _ => False) 0 aT none 0 W hT rfl (by decide) (by decide) (fun _ h => h.elim) allR_a)
    (fieldMayBe_ok (fun _ => False) 0 bT none 0 W hT rfl (by decide) (by decide) (fun _ h => h.elim) allR_b)
theorem check_aa {W : World} (B : Nat) (hT : Tab W) (hb : W.heap[B]? = some (.cells #[.string ⟨#[97]⟩, .bool false, .int .i64 6, .int .i64 0, .int .i64 0, .int .i64 0, .slice none 0 0, .string ⟨#[97]⟩, .bool false, .int .i64 6, .int .i64 0, .int .i64 0, .int .i64 0, .slice none 0 0] 38)) : ∀ W', Gr W W' → Calls Tryd.prog 13 #[.agg #[.slice (some ⟨B, 0, none⟩) 2 2, .slice none 0 0]] W' fun e w' => ∃ vo vn vc, e = .returned (.agg #[.int .i64 31, .slice vo vn vc, .int .i64 0]) ∧ Gr W' w' ∧ vn = 1 ∧ w'.ownsRow 0 3 1 (.slice vo vn vc) vn (ints [1]) := by
  have hrow : RowAt (fun b => b = B) W 1 (some ⟨B, 0, none⟩) [aT, aT] := by
    refine ⟨by simp [big], fun _ => ⟨B, 0, rfl, rfl, fun i hi => ?_⟩⟩
    match i, hi with
    | 0, _ => exact ⟨none, 0, cells_at hb rfl rfl rfl rfl rfl rfl rfl, show aT.kids.length ≤ 0 by decide, rfl⟩
    | 1, _ => exact ⟨none, 0, cells_at hb rfl rfl rfl rfl rfl rfl rfl, show aT.kids.length ≤ 0 by decide, rfl⟩
  have hl := look_bad (fo := some ⟨B, 0, none⟩) (no := none) (cf := 2) (cn := 0) (fs := [aT, aT]) (ns := []) hT hrow (by decide) (by decide) (fun b e => e ▸ lt_of_heap hb) (notes_nil W) (by kernel_rfl) (L := [⟨[aT, aT], [0], false⟩]) (x := ⟨[aT, aT], [1], false⟩) (by rw [nodes_aa]; exact List.prefix_rfl) allR_a2 (by rw [show ([⟨[aT, aT], [0], false⟩] : List LS).length = 1 from rfl, bad_aa]; decide)
  rw [show ([⟨[aT, aT], [0], false⟩] : List LS).length = 1 from rfl, bad_aa] at hl
  exact check_walk _ _ _ _ _ _ 31 1 (fun vo vn vc W => vn = 1 ∧ W.ownsRow 0 3 1 (.slice vo vn vc) vn (ints [1])) (fun vo vn vc A C b c h hc hk => ⟨h.1, own_kp h.2 fun g e => hk.block g (own_lt h.2 g e) fun e2 => by
    subst e2
    rcases h.2.2 with ⟨e3, _⟩ | ⟨g', cap, cur, e3, _, hg, _⟩
    · rw [e3] at e; simp [Value.ownBlock] at e
    · rw [e3] at e; simp [Value.ownBlock] at e; rw [e, hc] at hg; simp at hg⟩) W hl
end Go.Proofs.YtjdojbbjbippoaaDoor.Kit
