import Derived.OrdersIn
import Derived.OrdersHeld
import Derived.Deep.RegionHeld3
import Derived.Test.YtknnoiomdngmfaaGreatDoorDA
import Derived.Test.YtknnoiomdngmfaaGreatDoorFG
import Derived.Test.YtknnoiomdngmfaaGreatDoorCS
namespace Go.Proofs.YtknnoiomdngmfaaGreatDoor.Kit
open Go.RowKit Go.Shelf Go.Deep
set_option linter.unusedVariables false
theorem no_depth {l : Nat} (h : (Fence.wide.inRound l).depth.isSome = true) : False := by cases h
theorem rows_round {P : Program} {row : String} {args : Array Value} {w : World} {R : Value → World → Prop} {l n : Nat} (h : Rows P row args w R) : RowsIn (Fence.wide.inRound l) n P row args w R := fun c cs _ =>
  let ⟨v, w', r, s⟩ := h c cs
  ⟨v, w', r, stepsIn_wide.2 s⟩
theorem op_round {P : Program} {ops : Array Oper} {Q : Exit → Act → World → Prop} {i : Nat} {K : Act → World → Prop} {a : Act} {w : World} {l n : Nat} (hd : ∀ o, ops[i]? = some o → ∀ c, o.op ≠ .defer c) (hlo : ¬ LetsOut Q)
    (h : wpOp P ops Q i K a w) : wpOpIn (Fence.wide.inRound l) n P ops Q i K a w := by
  unfold wpOp at h
  unfold wpOpIn
  cases ho : ops[i]? with
  | none => simpa [ho] using h
  | some o =>
    simp only [ho] at h ⊢
    split
    · rename_i hw
      simp only [hw, if_true] at h
      have h1 : o.wp P a w K Q := h.resolve_right fun h => hlo h.2
      refine ⟨fun _ _ => trivial, ?_⟩
      have e : o.semAt (Fence.wide.inRound l).round a.eval = execOp a.eval o := Oper.semAt_some l _ _ (hd o ho)
      rw [e]
      unfold Oper.wp at h1
      generalize (execOp a.eval o).run P w = r at h1 ⊢
      cases r with
      | ok x w' =>
        cases x <;> simp only [Oper.upon] at h1 <;> simp only [Oper.uponIn] <;>
          first
            | exact h1
            | exact ⟨fun h => (no_depth h).elim, CallsIn.inRound l (callsIn_wide.2 h1)⟩
            | exact ⟨fun h => (no_depth h).elim, rows_round h1⟩
            | exact h1.elim
      | halt x w' => cases x <;> simp only [Oper.upon] at h1 <;> simp only [Oper.uponIn] <;> exact h1
    rename_i hw
    simp only [hw] at h
    exact ⟨fun _ _ => trivial, h⟩
theorem any_round {P : Program} {md : Region.Mode} {ops : Array Oper} {Q : Exit → Act → World → Prop} {l n : Nat} (hd : ∀ (i : Nat) (o : Oper), ops[i]? = some o → ∀ c, o.op ≠ Op.defer c) (hlo : ¬ LetsOut Q) :
    ∀ (fuel : Nat) (listed : Array Bool) (a : Act) (w : World), wpAny P md ops Q fuel listed a w → wpAnyIn (Fence.wide.inRound l) n P md ops Q fuel listed a w
  | 0, _, _, _, h => h
  | fuel + 1, listed, a, w, h => ⟨h.1, fun i hi => op_round (hd i) hlo (wpOp_mono (fun a' w' => any_round hd hlo fuel _ a' w') (h.2 i hi))⟩
theorem region_round {P : Program} {ops : Array Oper} {Q : Exit → Act → World → Prop} {S : World → Prop} {l n id : Nat} {a : Act} {w : World} (hm : P.follows .mixedOrders = true) (hd : ∀ (i : Nat) (o : Oper), ops[i]? = some o → ∀ c, o.op ≠ Op.defer c) (hlo : ¬ LetsOut Q)
    (h : wpAnyH P .any ops Q S ops.size (Array.replicate ops.size false) a w.drew) : (Code.region id ops true).wpIn (Fence.wide.inRound l) n P Q a w :=
  wpIn_region_any hm (any_round hd hlo _ _ _ _ (wpAny_of_held _ _ _ _ h))
end Go.Proofs.YtknnoiomdngmfaaGreatDoor.Kit
namespace Go.Proofs.YtknnoiomdngmfaaGreatDoor.Kit
open Go.RowKit Go.Shelf Go.Deep
set_option linter.unusedVariables false
def noDefer (ops : Array Oper) : Bool := ops.all fun o => match o.op with | .defer _ => false | _ => true
theorem noDefer_spec {ops : Array Oper} (h : noDefer ops = true) (i : Nat) (o : Oper) (ho : ops[i]? = some o) (c : Call) : o.op ≠ Op.defer c := fun e => by
  unfold noDefer at h
  rw [Array.all_eq_true_iff_forall_mem] at h
  have := h o (Array.mem_of_getElem? ho)
  rw [e] at this
  cases this
end Go.Proofs.YtknnoiomdngmfaaGreatDoor.Kit
namespace Go.Proofs.YtknnoiomdngmfaaGreatDoor.Kit
open Go.RowKit Go.Shelf Go.Deep
open Go.Proofs.YtknnoiomdngmfaaGreatDoor.Ink (OwnRow)
set_option linter.unusedVariables false
set_option linter.unusedSimpArgs false
attribute [local go_sem] run_store_func
theorem mk35 (w : World) : (Instr.makeSlice 72 (.int .i64 0) (.int .i64 2)).run Tryz.prog w = .ok (.slice (some ⟨w.heap.size, 0, none⟩) 0 2) (w.alloc (.cells #[.bool false, .int .i64 0, .string ⟨#[]⟩, .slice none 0 0, .bool false, .int .i64 0, .string ⟨#[]⟩, .slice none 0 0] 98)) := by kernel_rfl
theorem info37c : (Tryz.prog.info? 98).map (fun i => (i.zero, i.size, i.bytes)) = some (some (.agg #[.bool false, .int .i64 0, .string ⟨#[]⟩, .slice none 0 0]), 4, 56) := by kernel_rfl
theorem step_append_run {P : Program} {w : World} {ops : Array Oper} {o : Oper} {a : Act} {K : Act → World → Prop} {Q : Exit → Act → World → Prop} {E : Prop} (hgd : o.guard = none) (s x : Operand) (t tx : TypeId)
    (ho : o.op = .call { callee := .builtin .append, args := #[s, x], argTypes := #[t, tx] }) (v y v' : Value) (w' : World) (hv : a.eval s = v) (hx : a.eval x = y)
    (hr : ∀ ty, (Builtin.append_ #[t, tx] ty #[v, y]).run P w = .ok v' w') (h : K (a.put o.dst v') w') :
    if Region.wanted o (yielded ops a.tmps) = true then Oper.wp P o a w K Q else E := by
  have hw : Region.wanted o (yielded ops a.tmps) = true := by simp [Region.wanted, hgd]
  rw [if_pos hw]
  unfold Oper.wp
  simp [execOp, ho, resolve, invoke, builtin, hv, hx, hr, Result.andThen]
  exact h
theorem setRow_same {W : World} {b t : Nat} {c : Array Value} (h : W.heap[b]? = some (.cells c t)) : W.setRow b c = W := by
  have hm : (W.setRow b c).heap = W.heap := by
    apply Array.ext_getElem?
    intro i
    by_cases e : i = b
    · subst e
      rw [setRow_heap W i _ _ _ _ h, h]
    exact setRow_other W b i c e
  show ({ W with heap := (W.setRow b c).heap } : World) = W
  rw [hm]
def rwU (w : World) (g o : Nat) (vn : Bool) (x : Int) : World := setAll w g [(o, .bool vn), (o + 1, .int .i64 x), (o + 2, .string ⟨#[]⟩), (o + 3, .slice none 0 0)]
def rowK (k : Nat) : Array Value := if k = 0 then #[.bool false, .int .i64 0, .string ⟨#[]⟩, .slice none 0 0, .bool false, .int .i64 0, .string ⟨#[]⟩, .slice none 0 0] else if k = 1 then #[.bool false, .int .i64 3, .string ⟨#[]⟩, .slice none 0 0, .bool false, .int .i64 0, .string ⟨#[]⟩, .slice none 0 0] else #[.bool false, .int .i64 3, .string ⟨#[]⟩, .slice none 0 0, .bool false, .int .i64 4, .string ⟨#[]⟩, .slice none 0 0]
def ValI (W0 : World) (g b3 : Nat) (pre : List Nat) (wr : World) : Prop := ∃ k, k ≤ 2 ∧ pre = List.range k ∧ Gr W0 wr ∧ wr.heap[g]? = some (.cells (rowK k) 98) ∧ wr.heap[b3]? = some (.cells #[.slice (some ⟨g, 0, none⟩) k 2] 72)
theorem append_room {Z : World} {g z k : Nat} (hk : k < 2) (hg : Z.heap[g]? = some (.cells (rowK k) 98)) (hz : Z.heap[z]? = some (.cells #[.bool false, .int .i64 0, .string ⟨#[]⟩, .slice none 0 0] 98)) (ty : TypeId) :
    (Builtin.append_ #[72, 72] ty #[.slice (some ⟨g, 0, none⟩) k 2, .slice (some ⟨z, 0, none⟩) 1 1]).run Tryz.prog Z = .ok (.slice (some ⟨g, 0, none⟩) (k + 1) 2) Z := by
  obtain ⟨i, hi, hzz⟩ := Option.map_eq_some_iff.1 info37c
  simp only [Prod.mk.injEq] at hzz
  obtain ⟨-, hsz, -⟩ := hzz
  have hsrc : Src Tryz.prog i.size 72 (.slice (some ⟨z, 0, none⟩) 1 1) 1 [.bool false, .int .i64 0, .string ⟨#[]⟩, .slice none 0 0] Z := by
    rw [hsz]
    refine Src.ofSlice (w := Z) Tryz.underlying72 ⟨z, 0, none⟩ 1 1 [.bool false, .int .i64 0, .string ⟨#[]⟩, .slice none 0 0] rfl (fun j v hj => ?_) (fun v hv => by simp at hv; rcases hv with rfl | rfl | rfl | rfl <;> rfl)
    rw [Addr.add_lit, Nat.zero_add]
    obtain ⟨c0, c1, c2, c3⟩ := cell4 hz
    match j, hj with
    | 0, hj => cases hj; exact c0
    | 1, hj => cases hj; exact c1
    | 2, hj => cases hj; exact c2
    | 3, hj => cases hj; exact c3
    | j + 4, hj => simp at hj
  have h2 : k = 0 ∨ k = 1 := by omega
  have hfit : k * i.size + [(.bool false : Value), .int .i64 0, .string ⟨#[]⟩, .slice none 0 0].length ≤ (rowK k).size := by
    rw [hsz]
    rcases h2 with rfl | rfl <;> decide
  have h := run_append_room_row (P := Tryz.prog) Z 72 72 ty 98 i Tryz.underlying72 hi g k 2 (rowK k) hg (.slice (some ⟨z, 0, none⟩) 1 1) 1 _ hsrc (by omega) hfit
  rw [h]
  have he : ((rowK k).toList.take (k * i.size) ++ [(.bool false : Value), .int .i64 0, .string ⟨#[]⟩, .slice none 0 0] ++ (rowK k).toList.drop (k * i.size + [(.bool false : Value), .int .i64 0, .string ⟨#[]⟩, .slice none 0 0].length)).toArray = rowK k := by
    rw [hsz]
    rcases h2 with rfl | rfl <;> rfl
  rw [he, setRow_same hg]
theorem val_step0 {W0 W Z : World} {g b3 : Nat} (gW : Gr W0 W) (hg : W.heap[g]? = some (.cells (rowK 0) 98)) (hb : W.heap[b3]? = some (.cells #[.slice (some ⟨g, 0, none⟩) 0 2] 72)) (gZ : Gr W Z) (hW0g : W0.heap.size ≤ g) (hW0b : W0.heap.size ≤ b3) :
    Z.heap[g]? = some (.cells (rowK 0) 98) ∧ Z.heap[b3]? = some (.cells #[.slice (some ⟨g, 0, none⟩) 0 2] 72) ∧
    (rwU Z g 0 false 3).heap[b3]? = some (.cells #[.slice (some ⟨g, 0, none⟩) 0 2] 72) ∧
    (Z.setCell ⟨b3, 0, none⟩ (.slice (some ⟨g, 0, none⟩) 1 2)).heap[g]? = some (.cells (rowK 0) 98) ∧
    (Keeps W ((rwU Z g 0 false 3).setCell ⟨b3, 0, none⟩ (.slice (some ⟨g, 0, none⟩) 1 2)) (fun b => b = g ∨ b = b3) ∧ ValI W0 g b3 (List.range 0 ++ [0]) ((rwU Z g 0 false 3).setCell ⟨b3, 0, none⟩ (.slice (some ⟨g, 0, none⟩) 1 2))) ∧
    (Keeps W (rwU (Z.setCell ⟨b3, 0, none⟩ (.slice (some ⟨g, 0, none⟩) 1 2)) g 0 false 3) (fun b => b = g ∨ b = b3) ∧ ValI W0 g b3 (List.range 0 ++ [0]) (rwU (Z.setCell ⟨b3, 0, none⟩ (.slice (some ⟨g, 0, none⟩) 1 2)) g 0 false 3)) := by
  have hne : g ≠ b3 := blk_ne hg hb (by decide)
  have zg := (gZ.block g (lt_of_heap hg) id).trans hg
  have zb := (gZ.block b3 (lt_of_heap hb) id).trans hb
  have k6 : Keeps Z (rwU Z g 0 false 3) (fun b => b = g) := setAll_kp _ _ _
  have b6 := (k6.block b3 (lt_of_heap zb) (Ne.symm hne)).trans zb
  have g6 : (rwU Z g 0 false 3).heap[g]? = some (.cells (rowK 1) 98) := by
    unfold rwU
    rw [setAll_blk g 98 _ _ _ zg]
    rfl
  have k7 : Keeps Z (Z.setCell ⟨b3, 0, none⟩ (.slice (some ⟨g, 0, none⟩) 1 2)) (fun b => b = b3) := (Keeps.refl Z (fun b => b = b3)).setCell (p := ⟨b3, 0, none⟩) (fun _ => rfl) _
  have g7 := (k7.block g (lt_of_heap zg) hne).trans zg
  have b7 : (Z.setCell ⟨b3, 0, none⟩ (.slice (some ⟨g, 0, none⟩) 1 2)).heap[b3]? = some (.cells #[.slice (some ⟨g, 0, none⟩) 1 2] 72) := by
    rw [heap_setCell_same Z b3 0 _ _ _ zb]; rfl
  have kWZ : Keeps W Z (fun b => b = g ∨ b = b3) := gZ.mono fun _ _ h => h.elim
  have k67 := (kWZ.trans k6 (fun _ _ h => .inl h)).setCell (p := ⟨b3, 0, none⟩) (fun _ => .inr rfl) (.slice (some ⟨g, 0, none⟩) 1 2)
  have k76 : Keeps W (rwU (Z.setCell ⟨b3, 0, none⟩ (.slice (some ⟨g, 0, none⟩) 1 2)) g 0 false 3) (fun b => b = g ∨ b = b3) := (kWZ.trans k7 (fun _ _ h => .inr h)).trans (setAll_kp _ _ _) (fun _ _ h => .inl h)
  have low : ∀ u, Keeps W u (fun b => b = g ∨ b = b3) → Gr W0 u := fun u h => gW.trans h (fun j hj e => by rcases e with e | e <;> omega)
  refine ⟨zg, zb, b6, g7, ⟨k67, 1, by omega, by rw [← List.range_succ], low _ k67, ?_, ?_⟩, ⟨k76, 1, by omega, by rw [← List.range_succ], low _ k76, ?_, ?_⟩⟩
  · rw [heap_setCell_other _ _ _ _ hne]; exact g6
  · rw [heap_setCell_same _ b3 0 _ _ _ b6]; rfl
  · unfold rwU
    rw [setAll_blk g 98 _ _ _ g7]
    rfl
  unfold rwU
  rw [setAll_oth g b3 (Ne.symm hne)]
  exact b7
theorem val_step1 {W0 W Z : World} {g b3 : Nat} (gW : Gr W0 W) (hg : W.heap[g]? = some (.cells (rowK 1) 98)) (hb : W.heap[b3]? = some (.cells #[.slice (some ⟨g, 0, none⟩) 1 2] 72)) (gZ : Gr W Z) (hW0g : W0.heap.size ≤ g) (hW0b : W0.heap.size ≤ b3) :
    Z.heap[g]? = some (.cells (rowK 1) 98) ∧ Z.heap[b3]? = some (.cells #[.slice (some ⟨g, 0, none⟩) 1 2] 72) ∧
    (rwU Z g 4 false 4).heap[b3]? = some (.cells #[.slice (some ⟨g, 0, none⟩) 1 2] 72) ∧
    (Z.setCell ⟨b3, 0, none⟩ (.slice (some ⟨g, 0, none⟩) 2 2)).heap[g]? = some (.cells (rowK 1) 98) ∧
    (Keeps W ((rwU Z g 4 false 4).setCell ⟨b3, 0, none⟩ (.slice (some ⟨g, 0, none⟩) 2 2)) (fun b => b = g ∨ b = b3) ∧ ValI W0 g b3 (List.range 1 ++ [1]) ((rwU Z g 4 false 4).setCell ⟨b3, 0, none⟩ (.slice (some ⟨g, 0, none⟩) 2 2))) ∧
    (Keeps W (rwU (Z.setCell ⟨b3, 0, none⟩ (.slice (some ⟨g, 0, none⟩) 2 2)) g 4 false 4) (fun b => b = g ∨ b = b3) ∧ ValI W0 g b3 (List.range 1 ++ [1]) (rwU (Z.setCell ⟨b3, 0, none⟩ (.slice (some ⟨g, 0, none⟩) 2 2)) g 4 false 4)) := by
  have hne : g ≠ b3 := blk_ne hg hb (by decide)
  have zg := (gZ.block g (lt_of_heap hg) id).trans hg
  have zb := (gZ.block b3 (lt_of_heap hb) id).trans hb
  have k6 : Keeps Z (rwU Z g 4 false 4) (fun b => b = g) := setAll_kp _ _ _
  have b6 := (k6.block b3 (lt_of_heap zb) (Ne.symm hne)).trans zb
  have g6 : (rwU Z g 4 false 4).heap[g]? = some (.cells (rowK 2) 98) := by
    unfold rwU
    rw [setAll_blk g 98 _ _ _ zg]
    rfl
  have k7 : Keeps Z (Z.setCell ⟨b3, 0, none⟩ (.slice (some ⟨g, 0, none⟩) 2 2)) (fun b => b = b3) := (Keeps.refl Z (fun b => b = b3)).setCell (p := ⟨b3, 0, none⟩) (fun _ => rfl) _
  have g7 := (k7.block g (lt_of_heap zg) hne).trans zg
  have b7 : (Z.setCell ⟨b3, 0, none⟩ (.slice (some ⟨g, 0, none⟩) 2 2)).heap[b3]? = some (.cells #[.slice (some ⟨g, 0, none⟩) 2 2] 72) := by
    rw [heap_setCell_same Z b3 0 _ _ _ zb]; rfl
  have kWZ : Keeps W Z (fun b => b = g ∨ b = b3) := gZ.mono fun _ _ h => h.elim
  have k67 := (kWZ.trans k6 (fun _ _ h => .inl h)).setCell (p := ⟨b3, 0, none⟩) (fun _ => .inr rfl) (.slice (some ⟨g, 0, none⟩) 2 2)
  have k76 : Keeps W (rwU (Z.setCell ⟨b3, 0, none⟩ (.slice (some ⟨g, 0, none⟩) 2 2)) g 4 false 4) (fun b => b = g ∨ b = b3) := (kWZ.trans k7 (fun _ _ h => .inr h)).trans (setAll_kp _ _ _) (fun _ _ h => .inl h)
  have low : ∀ u, Keeps W u (fun b => b = g ∨ b = b3) → Gr W0 u := fun u h => gW.trans h (fun j hj e => by rcases e with e | e <;> omega)
  refine ⟨zg, zb, b6, g7, ⟨k67, 2, by omega, by rw [← List.range_succ], low _ k67, ?_, ?_⟩, ⟨k76, 2, by omega, by rw [← List.range_succ], low _ k76, ?_, ?_⟩⟩
  · rw [heap_setCell_other _ _ _ _ hne]; exact g6
  · rw [heap_setCell_same _ b3 0 _ _ _ b6]; rfl
  · unfold rwU
    rw [setAll_blk g 98 _ _ _ g7]
    rfl
  unfold rwU
  rw [setAll_oth g b3 (Ne.symm hne)]
  exact b7
end Go.Proofs.YtknnoiomdngmfaaGreatDoor.Kit
