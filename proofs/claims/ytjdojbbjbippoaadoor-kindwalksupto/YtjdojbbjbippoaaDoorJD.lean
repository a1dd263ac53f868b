import Derived.Test.YtjdojbbjbippoaaDoorHC
import Derived.Test.YtjdojbbjbippoaaDoorJA
namespace Go.Proofs.YtjdojbbjbippoaaDoor.Kit
open Go.RowKit Go.Shelf Go.Deep
set_option linter.unusedVariables false
attribute [local go_sem] run_store_func

set_option maxRecDepth 100000 in
set_option maxHeartbeats 1000000 in
theorem isBracketed_any (k : Int) (w : World) : Calls Tryd.prog 72 #[.int .i64 k] w fun e w' => e = .returned (.bool (decide (14 ≤ k))) ∧ w' = w := by
  go_enter Tryd.func72, Tryd.ntmps72
  go_wp2
  go_ret
  exact ⟨rfl, rfl⟩
set_option maxRecDepth 100000 in
set_option maxHeartbeats 2000000 in
theorem typeText_plain (k : Nat) (hk : k < 14) (f3 f4 f5 : Int) (ao : Option Addr) (f6 ca : Nat) (w : World) (hT : Tab w) :
    ∀ W, Gr w W → Calls Tryd.prog 62 #[.agg #[.int .i64 (k : Int), .int .i64 f3, .int .i64 f4, .int .i64 f5, .slice ao f6 ca]] W fun e w' => e = .returned (.string ⟨(wordK k).toArray⟩) ∧ Gr W w' := by
  intro W g
  have hr := (hT.gr g).2 k (by omega)
  have b0 : ∀ o, (W.alloc o).cell? ⟨0, k * 5, none⟩ = some (.string ⟨(wordK k).toArray⟩) := fun o => (gr_alloc W o).cell' hr.c0 (fun h => h)
  generalize wordK k = wd at *
  have hb := fun w => isBracketed_any (k : Int) w
  rw [show decide ((14 : Int) ≤ (k : Int)) = false from decide_eq_false (by omega)] at hb
  have hk21 : k < 21 := by omega
  clear hr hT g
  go_enter Tryd.func62, Tryd.ntmps62
  go_wp2_with (go_at_call 72; refine (hb _).mono ?_; rintro e w' ⟨rfl, rfl⟩)
  go_ret
  exact ⟨rfl, gr_alloc _ _⟩
theorem ft_of {w : World} {B : Nat} {f0 : ByteArray} {f1 : Bool} {f2 f3 f4 f5 : Int} {ao : Option Addr} {f6 ca : Nat} {W : World} (g : Gr w W) (h : W.heap[B]? = some (.cells #[.string f0, .bool f1, .int .i64 f2, .int .i64 f3, .int .i64 f4, .int .i64 f5, .slice ao f6 ca] 38)) : Hid (Gr w W ∧ W.heap[B]? = some (.cells #[.string f0, .bool f1, .int .i64 f2, .int .i64 f3, .int .i64 f4, .int .i64 f5, .slice ao f6 ca] 38)) ∧ W.cell? ⟨B, 0, none⟩ = some (.string f0) ∧ W.cell? ⟨B, 2, none⟩ = some (.int .i64 f2) ∧ W.cell? ⟨B, 3, none⟩ = some (.int .i64 f3) ∧ W.cell? ⟨B, 4, none⟩ = some (.int .i64 f4) ∧ W.cell? ⟨B, 5, none⟩ = some (.int .i64 f5) ∧ W.cell? ⟨B, 6, none⟩ = some (.slice ao f6 ca) := by
  obtain ⟨v0, v1, v2, v3, v4, v5, v6⟩ := cell7 h
  exact ⟨⟨g, h⟩, v0, by simpa using v2, by simpa using v3, by simpa using v4, by simpa using v5, by simpa using v6⟩
theorem ft_kept {w : World} {B : Nat} {f0 : ByteArray} {f1 : Bool} {f2 f3 f4 f5 : Int} {ao : Option Addr} {f6 ca : Nat} {W W' : World} (h : Hid (Gr w W ∧ W.heap[B]? = some (.cells #[.string f0, .bool f1, .int .i64 f2, .int .i64 f3, .int .i64 f4, .int .i64 f5, .slice ao f6 ca] 38)) ∧ W.cell? ⟨B, 0, none⟩ = some (.string f0) ∧ W.cell? ⟨B, 2, none⟩ = some (.int .i64 f2) ∧ W.cell? ⟨B, 3, none⟩ = some (.int .i64 f3) ∧ W.cell? ⟨B, 4, none⟩ = some (.int .i64 f4) ∧ W.cell? ⟨B, 5, none⟩ = some (.int .i64 f5) ∧ W.cell? ⟨B, 6, none⟩ = some (.slice ao f6 ca)) (k : Hid (Gr W W')) : Hid (Gr w W' ∧ W'.heap[B]? = some (.cells #[.string f0, .bool f1, .int .i64 f2, .int .i64 f3, .int .i64 f4, .int .i64 f5, .slice ao f6 ca] 38)) ∧ W'.cell? ⟨B, 0, none⟩ = some (.string f0) ∧ W'.cell? ⟨B, 2, none⟩ = some (.int .i64 f2) ∧ W'.cell? ⟨B, 3, none⟩ = some (.int .i64 f3) ∧ W'.cell? ⟨B, 4, none⟩ = some (.int .i64 f4) ∧ W'.cell? ⟨B, 5, none⟩ = some (.int .i64 f5) ∧ W'.cell? ⟨B, 6, none⟩ = some (.slice ao f6 ca) :=
  ft_of (h.1.out.1.trans k.out (fun _ _ h => h)) ((k.out.block _ (lt_of_heap h.1.out.2) (fun h => h)).trans h.1.out.2)
theorem ft_gr {w : World} {B : Nat} {f0 : ByteArray} {f1 : Bool} {f2 f3 f4 f5 : Int} {ao : Option Addr} {f6 ca : Nat} {W : World} (h : Hid (Gr w W ∧ W.heap[B]? = some (.cells #[.string f0, .bool f1, .int .i64 f2, .int .i64 f3, .int .i64 f4, .int .i64 f5, .slice ao f6 ca] 38)) ∧ W.cell? ⟨B, 0, none⟩ = some (.string f0) ∧ W.cell? ⟨B, 2, none⟩ = some (.int .i64 f2) ∧ W.cell? ⟨B, 3, none⟩ = some (.int .i64 f3) ∧ W.cell? ⟨B, 4, none⟩ = some (.int .i64 f4) ∧ W.cell? ⟨B, 5, none⟩ = some (.int .i64 f5) ∧ W.cell? ⟨B, 6, none⟩ = some (.slice ao f6 ca)) : Gr w W := h.1.out.1
set_option maxRecDepth 100000 in
set_option maxHeartbeats 2000000 in
theorem fieldText_walk (f0 : ByteArray) (f1 : Bool) (f2 f3 f4 f5 : Int) (ao : Option Addr) (f6 ca : Nat) (t : ByteArray) (w : World) (hf0 : f0.size ≤ 1000000000000) (ht : t.size ≤ 1000000000000)
    (h : ∀ W, Gr w W → Calls Tryd.prog 62 #[.agg #[.int .i64 f2, .int .i64 f3, .int .i64 f4, .int .i64 f5, .slice ao f6 ca]] W fun e w' => e = .returned (.string t) ∧ Gr W w') :
    ∀ W, Gr w W → Calls Tryd.prog 47 #[.agg #[.string f0, .bool f1, .int .i64 f2, .int .i64 f3, .int .i64 f4, .int .i64 f5, .slice ao f6 ca]] W fun e w' => e = .returned (.string (if f1 then f0 ++ ⟨#[32]⟩ ++ t ++ ⟨#[63]⟩ else f0 ++ ⟨#[32]⟩ ++ t)) ∧ Gr W w' := by
  intro W g
  have H : Hid (∀ W', Gr W W' → Calls Tryd.prog 62 #[.agg #[.int .i64 f2, .int .i64 f3, .int .i64 f4, .int .i64 f5, .slice ao f6 ca]] W' fun e w' => e = .returned (.string t) ∧ Gr W' w') := fun W' g' => h W' (g.trans g' (fun _ _ h => h))
  clear h g
  have x1 := World.alloc_heap_new W (.cells #[.string f0, .bool f1, .int .i64 f2, .int .i64 f3, .int .i64 f4, .int .i64 f5, .slice ao f6 ca] 38)
  have hg0 := gr_alloc W (.cells #[.string f0, .bool f1, .int .i64 f2, .int .i64 f3, .int .i64 f4, .int .i64 f5, .slice ao f6 ca] 38)
  go_enter Tryd.func47, Tryd.ntmps47
  go_wp2_with fail
  generalize W.alloc (.cells #[.string f0, .bool f1, .int .i64 f2, .int .i64 f3, .int .i64 f4, .int .i64 f5, .slice ao f6 ca] 38) = W0 at *
  obtain ⟨B, hB⟩ : ∃ B, B = W.heap.size := ⟨_, rfl⟩
  rw [← hB] at x1 ⊢
  have HIN : Hid (Hid (Gr W W0.drew ∧ W0.drew.heap[B]? = some (.cells #[.string f0, .bool f1, .int .i64 f2, .int .i64 f3, .int .i64 f4, .int .i64 f5, .slice ao f6 ca] 38)) ∧ W0.drew.cell? ⟨B, 0, none⟩ = some (.string f0) ∧ W0.drew.cell? ⟨B, 2, none⟩ = some (.int .i64 f2) ∧ W0.drew.cell? ⟨B, 3, none⟩ = some (.int .i64 f3) ∧ W0.drew.cell? ⟨B, 4, none⟩ = some (.int .i64 f4) ∧ W0.drew.cell? ⟨B, 5, none⟩ = some (.int .i64 f5) ∧ W0.drew.cell? ⟨B, 6, none⟩ = some (.slice ao f6 ca)) := ft_of (hg0.drew) x1
  have h1 : f0.size + 1 ≤ 9223372036854775807 := by omega
  have h2 : f0.size + 1 + t.size ≤ 9223372036854775807 := by omega
  have h3 : f0.size + 1 + t.size + 1 ≤ 9223372036854775807 := by omega
  have h4 : (f0 ++ (⟨#[32]⟩ : ByteArray)).size = f0.size + 1 := by rw [ByteArray.size_append]; rfl
  have h5 : (f0 ++ (⟨#[32]⟩ : ByteArray) ++ t).size = f0.size + 1 + t.size := by rw [ByteArray.size_append, h4]
  have n1 : ¬ (9223372036854775807 < f0.size + 1) := by omega
  have n2 : ¬ (9223372036854775807 < f0.size + 1 + t.size) := by omega
  have n3 : ¬ (9223372036854775807 < f0.size + 1 + t.size + 1) := by omega
  have b1 : ∀ w, (binOp .add 9 (.string f0) (.string ⟨#[32]⟩)).run Tryd.prog w = .ok (.string (f0 ++ ⟨#[32]⟩)) w := fun w => by simp [go_sem, binOp, n1]
  have b2 : ∀ w, (binOp .add 9 (.string (f0 ++ ⟨#[32]⟩)) (.string t)).run Tryd.prog w = .ok (.string (f0 ++ ⟨#[32]⟩ ++ t)) w := fun w => by simp [go_sem, binOp, h4, n2]
  have b3 : ∀ w, (binOp .add 9 (.string (f0 ++ ⟨#[32]⟩ ++ t)) (.string ⟨#[63]⟩)).run Tryd.prog w = .ok (.string (f0 ++ ⟨#[32]⟩ ++ t ++ ⟨#[63]⟩)) w := fun w => by simp [go_sem, binOp, h5, n3]
  have m1 : f0.size + (⟨#[32]⟩ : ByteArray).size ≤ 9223372036854775807 := by show f0.size + 1 ≤ _; omega
  have m2 : (f0 ++ (⟨#[32]⟩ : ByteArray)).size + t.size ≤ 9223372036854775807 := by rw [h4]; omega
  have m3 := fun w => run_string_add_sum (P := Tryd.prog) w f0 ⟨#[32]⟩ m1
  have m4 := fun w => run_string_add_sum (P := Tryd.prog) w (f0 ++ ⟨#[32]⟩) t m2
  clear hg0 x1 hB h3 h5 n1 n2 n3 b1 b2
  go_region_held3 (fun w' => Hid (Gr W w' ∧ w'.heap[B]? = some (.cells #[.string f0, .bool f1, .int .i64 f2, .int .i64 f3, .int .i64 f4, .int .i64 f5, .slice ao f6 ca] 38)) ∧ w'.cell? ⟨B, 0, none⟩ = some (.string f0) ∧ w'.cell? ⟨B, 2, none⟩ = some (.int .i64 f2) ∧ w'.cell? ⟨B, 3, none⟩ = some (.int .i64 f3) ∧ w'.cell? ⟨B, 4, none⟩ = some (.int .i64 f4) ∧ w'.cell? ⟨B, 5, none⟩ = some (.int .i64 f5) ∧ w'.cell? ⟨B, 6, none⟩ = some (.slice ao f6 ca)) (first | with_reducible exact HIN.out | with_reducible assumption | with_reducible exact ft_kept (by assumption) hk1) (first | (go_at_call 62; refine Calls.mono (H.out _ (ft_gr (by assumption))) ?_; rintro e v1 ⟨rfl, hk1⟩; replace hk1 := hidM hk1))
  all_goals
    rename_i hHeld
    have HG := hidM hHeld.1.out.1
    have q1 : v1.cell? ⟨B, 1, none⟩ = some (.bool f1) := by simp [World.cell?, hHeld.1.out.2]
    clear hHeld hk1 HIN H
    cases f1 with
    | true =>
      go_wp2_with fail
      go_ret
      exact ⟨rfl, HG.out⟩
    | false =>
      go_wp2_with fail
      go_ret
      exact ⟨rfl, HG.out⟩
end Go.Proofs.YtjdojbbjbippoaaDoor.Kit
namespace Go.Proofs.YtjdojbbjbippoaaDoor.Kit
open Go.RowKit Go.Shelf Go.Deep
set_option linter.unusedVariables false
attribute [local go_sem] run_store_func

theorem info9 : (Tryd.prog.info? 9).map (fun i => (i.zero, i.size, i.bytes)) = some (some (.string ⟨#[]⟩), 1, 16) := by kernel_rfl
theorem src_str (w : World) (u : ByteArray) : Src Tryd.prog 1 72 (.slice (some ⟨w.heap.size, 0, none⟩) 1 1) 1 [.string u] (w.alloc (.cells #[.string u] 9)) := by
  refine Src.ofSlice (w := w.alloc (.cells #[.string u] 9)) Tryd.underlying72 ⟨w.heap.size, 0, none⟩ 1 1 [.string u] rfl (fun j v h => ?_) (fun v h => by simp at h; subst h; rfl)
  cases j with
  | zero => cases h; exact (cell_new w _ 9)
  | succ j => simp at h
theorem own_form {W : World} {t n : Nat} {v : Value} {xs : List Value} (h : W.ownsRow 0 t 1 v n xs) : ∃ vo vc, v = .slice vo n vc := by
  rcases h.2 with ⟨rfl, h0⟩ | ⟨g, cap, cur, rfl, _⟩
  · exact ⟨none, 0, by rw [h0]⟩
  · exact ⟨_, _, rfl⟩
/-- strings of the call's own -/
structure Strs (w W : World) (vo : Option Addr) (vc : Nat) (ts : List ByteArray) : Prop where
  own : W.ownsRow 0 9 1 (.slice vo ts.length vc) ts.length (ts.map Value.string)
  gr : Gr w W
  new : ∀ g, (Value.slice vo ts.length vc).ownBlock = some g → w.heap.size ≤ g
theorem Strs.gr' {w W W' : World} {vo : Option Addr} {vc : Nat} {ts : List ByteArray} (h : Strs w W vo vc ts) (g : Gr W W') : Strs w W' vo vc ts :=
  ⟨own_kp h.own fun b e => g.block b (own_lt h.own b e) id, h.gr.trans g (fun _ _ h => h), h.new⟩
theorem Strs.snoc {w W W2 : World} {vo vo' : Option Addr} {vc vc' : Nat} {ts : List ByteArray} {u : ByteArray} (h : Strs w W vo vc ts)
    (ho : W2.ownsRow 0 9 1 (.slice vo' (ts.length + 1) vc') (ts.length + 1) (ts.map Value.string ++ [.string u])) (hg : W.grownBy W2 (Value.slice vo ts.length vc).ownBlock)
    (hor : (Value.slice vo' (ts.length + 1) vc').ownBlock = (Value.slice vo ts.length vc).ownBlock ∨ ∀ g, (Value.slice vo' (ts.length + 1) vc').ownBlock = some g → W.heap.size ≤ g) : Strs w W2 vo' vc' (ts ++ [u]) := by
  have e : (ts ++ [u]).length = ts.length + 1 := by simp
  refine ⟨?_, h.gr.trans (Keeps.ofGrown hg) (fun j hj e => by have := h.new j e; omega), fun g hg' => ?_⟩
  · rw [e, List.map_append]; exact ho
  · rw [e] at hg'
    rcases hor with h1 | h1
    · rw [h1] at hg'; exact h.new g hg'
    · exact Nat.le_trans h.gr.size (h1 g hg')

set_option maxRecDepth 100000 in
set_option maxHeartbeats 2000000 in
theorem fieldTexts_walk (l : List FT) (tx : FT → ByteArray) (S : Nat → Prop) (d : Nat) (ao : Option Addr) (ca : Nat) (w : World) (hr : RowAt S w d ao l) (hS : ∀ b, S b → b < w.heap.size)
    (h : ∀ i (hi : i < l.length) ao' ca', RowAt S w (d - 1) ao' l[i].kids → l[i].kids.length ≤ ca' → ∀ W, Gr w W → Calls Tryd.prog 47 #[fldV l[i] ao' ca'] W fun e w' => e = .returned (.string (tx l[i])) ∧ Gr W w') :
    ∀ W, Gr w W → Calls Tryd.prog 32 #[.slice ao l.length ca] W fun e w' => ∃ vo vc, e = .returned (.slice vo l.length vc) ∧ Strs W w' vo vc (l.map tx) := by
  intro W g
  have hlen : l.length ≤ 1000000000000 := hr.len
  have HR : Hid (l ≠ [] → ∃ b o, ao = some ⟨b, o, none⟩ ∧ ∀ i (h : i < l.length), ∃ ao' ca', CellsAt W b (o + i * 7) l[i] ao' ca' ∧ ∀ W', Gr W W' → Calls Tryd.prog 47 #[fldV l[i] ao' ca'] W' fun e w' => e = .returned (.string (tx l[i])) ∧ Gr W' w') := fun hne => by
    cases d with
    | zero => exact absurd hr hne
    | succ d =>
      obtain ⟨b, o, e, hb, hc⟩ := hr.2 hne
      exact ⟨b, o, e, fun i hi => by obtain ⟨a, c, h1, h2, h3⟩ := hc i hi; exact ⟨a, c, h1.kept (g.block b (hS b hb) id), fun W' g' => h i hi a c h3 h2 W' (g.trans g' (fun _ _ h => h))⟩⟩
  obtain ⟨L, hL⟩ : ∃ L, L = l.length := ⟨_, rfl⟩
  rw [← hL] at hlen ⊢
  have HL : Hid (L = l.length) := hL
  clear hr hS h hL g
  go_enter Tryd.func32, Tryd.ntmps32
  go_wp2
  go_loopw [3, 8] (fun v i wr => ∃ (k : Nat) (vo : Option Addr) (vc : Nat), k ≤ L ∧ i = .int .i64 (k : Int) ∧ v = .slice vo k vc ∧ Hid (k = ((l.take k).map tx).length ∧ Strs W wr vo vc ((l.take k).map tx))) (fun _ i _ => L - (intOf i).toNat)
  case atStart => exact ⟨0, none, 0, by omega, rfl, rfl, by simp, ⟨World.ownsRow_nil _ _ _ _, Keeps.refl _ _, fun g e => by simp [Value.ownBlock] at e⟩⟩
  case round =>
    obtain ⟨k, vo, vc, hk, rfl, rfl, HK⟩ := hrel
    by_cases hlt : k < L
    · have hl := HL.out
      have hkl : k < l.length := by omega
      obtain ⟨b, o, rfl, hcs⟩ := HR.out (fun e => by rw [e] at hkl; simp at hkl)
      obtain ⟨ao', ca', hc, hcall⟩ := hcs k hkl
      have hgr := HK.out.2.gr
      obtain ⟨g0, g1, g2, g3, g4, g5, g6⟩ := hc.kept (hgr.block b (block_lt_of_cell hc.c0) (fun h => h))
      have HTK : Hid ((l.take (k + 1)).map tx = (l.take k).map tx ++ [tx l[k]]) := by show _ = _; rw [List.take_add_one, List.getElem?_eq_getElem hkl, List.map_append]; rfl
      unfold fldV at hcall
      have HC : Hid (∀ W', Gr W W' → Calls Tryd.prog 47 #[.agg #[.string l[k].name, .bool l[k].nul, .int .i64 l[k].kind, .int .i64 l[k].width, .int .i64 l[k].id, .int .i64 l[k].index, .slice ao' l[k].kids.length ca']] W' fun e w' => e = .returned (.string (tx l[k])) ∧ Gr W' w') := hcall
      generalize tx l[k] = tk at *
      generalize l[k].name = f0 at *
      generalize l[k].nul = f1 at *
      generalize l[k].kind = f2 at *
      generalize l[k].width = f3 at *
      generalize l[k].id = f4 at *
      generalize l[k].index = f5 at *
      generalize l[k].kids.length = f6 at *
      clear hc hcs hl hkl hcall hgr
      go_wp2_with (first | (go_at_call 47; refine Hid.out ?_) | (at_builtin; refine Hid.out ?_))
      unfold Hid
      refine Calls.mono (HC.out _ (HK.out.2.gr.alloc _)) ?_
      rintro e v2 ⟨rfl, hg2⟩
      have HS2 := hidM (HK.out.2.gr' ((gr_alloc wr _).trans hg2 (fun _ _ h => h)))
      clear hg2 g0 g1 g2 g3 g4 g5 g6
      go_wp2_with (at_builtin; refine Hid.out ?_)
      unfold Hid
      have hS3 := HS2.out.gr' (gr_alloc v2 (.cells #[.string tk] 9))
      have hkk := HK.out.1
      refine wpList_append_any _ rfl (.tmp 12) (.tmp 15) 72 72 rfl 9 (.string ⟨#[]⟩) 16 Tryd.underlying72 info9 rfl _ k ((l.take k).map tx |>.map Value.string) rfl (by have := hS3.own; rw [← hkk] at this; exact this) _ 1 [.string tk] rfl (src_str v2 tk) (by omega) (by omega) ?_
      intro v' w1 hown' hgrow hblk
      obtain ⟨vo', vc', rfl⟩ := own_form hown'
      have HN : Hid (k + 1 = ((l.take (k + 1)).map tx).length ∧ Strs W w1 vo' vc' ((l.take (k + 1)).map tx)) := by
        refine ⟨by rw [HTK.out]; simp only [List.length_append, List.length_singleton]; omega, ?_⟩
        rw [HTK.out]
        refine hS3.snoc ?_ ?_ ?_
        · rw [← hkk]; exact hown'
        · rw [← hkk]; exact hgrow
        · rw [← hkk]; exact hblk
      clear hown' hgrow hblk hS3 HS2 hkk
      go_wp2_with fail
      go_roundw
      case rel => exact ⟨k + 1, vo', vc', by omega, by simp, rfl, HN.out⟩
      case measure => simp [intOf]; omega
    · have hkL : k = L := by omega
      subst hkL
      have HE : Hid (Strs W wr vo vc (l.map tx)) := by
        have := HK.out.2
        rw [HL.out, List.take_length] at this
        exact this
      clear HK HR
      go_wp2_with fail
      go_ret
      exact ⟨_, _, rfl, HE.out⟩
/-- what strings.Join answers -/
theorem join_any (vo : Option Addr) (vc : Nat) (ts : List ByteArray) (sep : ByteArray) (w W : World) (h : Strs w W vo vc ts) (hl : ts.length ≤ 1000000000000) (hj : (Lib.join (ts.map (·.data.toList)) sep.data.toList).length ≤ 140737488355328) :
    Calls Tryd.prog 31 #[.slice vo ts.length vc, .string sep] W fun e w' => e = .returned (.string ⟨(Lib.join (ts.map (·.data.toList)) sep.data.toList).toArray⟩) ∧ Gr W w' := by
  rcases h.own.2 with ⟨e, h0⟩ | ⟨g, cap, cur, e, _, hg, h1, _, _, _⟩
  · have : ts = [] := List.eq_nil_of_length_eq_zero h0
    subst this
    exact (Tryd.strings_Join_none vo vc sep W).mono fun e w' he => ⟨he.1, by rw [he.2]; exact Keeps.refl _ _⟩
  · cases e
    refine (Tryd.strings_Join g 0 vc ts sep W (fun j x hx => ?_) (Array.getElem?_eq_some_iff.1 hg).1 (by omega) h1 hj).mono fun e w' he => ⟨he.1, (Keeps.ofBelow he.2).mono fun k hk h => by omega⟩
    have hj' : j < ts.length := (List.getElem?_eq_some_iff.1 hx).1
    rw [Nat.zero_add, h.own.cellAt j (by simpa using hj'), List.getElem?_map, hx]
    rfl
end Go.Proofs.YtjdojbbjbippoaaDoor.Kit
namespace Go.Proofs.YtjdojbbjbippoaaDoor.Kit
open Go.RowKit Go.Shelf Go.Deep
set_option linter.unusedVariables false
attribute [local go_sem] run_store_func

theorem src_strs {w W : World} {vo : Option Addr} {vc : Nat} {ts : List ByteArray} (h : Strs w W vo vc ts) : Src Tryd.prog 1 72 (.slice vo ts.length vc) ts.length (ts.map Value.string) W := by
  rcases h.own.2 with ⟨e, h0⟩ | ⟨g, cap, cur, e, _⟩
  · have : ts = [] := List.eq_nil_of_length_eq_zero h0
    subst this
    cases e
    exact Src.ofNil (w := W) Tryd.underlying72 _
  · cases e
    exact Src.ofSlice (w := W) Tryd.underlying72 ⟨g, 0, none⟩ ts.length vc (ts.map Value.string) (by simp) (h.own.cells rfl) (fun u hu => by simp at hu; obtain ⟨a, _, rfl⟩ := hu; rfl)
def joinB (ts : List ByteArray) : ByteArray := ⟨(Lib.join (ts.map (·.data.toList)) [44, 32]).toArray⟩
def brackB (k : Nat) (ts : List ByteArray) : ByteArray := ⟨(wordK k).toArray⟩ ++ ⟨#[40]⟩ ++ joinB ts ++ ⟨#[41]⟩

set_option maxRecDepth 100000 in
set_option maxHeartbeats 2000000 in
theorem typeText_brack (k : Nat) (hk : k = 15 ∨ k = 17 ∨ k = 18 ∨ k = 20) (f3 f4 f5 : Int) (ao : Option Addr) (f6 ca : Nat) (ts : List ByteArray) (hts : ts.length ≤ 1000000) (hj : (joinB ts).size ≤ 1000000000000) (w : World) (hT : Tab w)
    (h : ∀ W, Gr w W → Calls Tryd.prog 32 #[.slice ao f6 ca] W fun e w' => ∃ vo vc, e = .returned (.slice vo ts.length vc) ∧ Strs W w' vo vc ts) :
    ∀ W, Gr w W → Calls Tryd.prog 62 #[.agg #[.int .i64 (k : Int), .int .i64 f3, .int .i64 f4, .int .i64 f5, .slice ao f6 ca]] W fun e w' => e = .returned (.string (brackB k ts)) ∧ Gr W w' := by
  intro W g
  have H : Hid (∀ W', Gr W W' → Calls Tryd.prog 32 #[.slice ao f6 ca] W' fun e w' => ∃ vo vc, e = .returned (.slice vo ts.length vc) ∧ Strs W' w' vo vc ts) := fun W' g' => h W' (g.trans g' (fun _ _ h => h))
  have hk21 : k < 21 := by omega
  have hr := (hT.gr g).2 k hk21
  have b0 : ∀ o, (W.alloc o).cell? ⟨0, k * 5, none⟩ = some (.string ⟨(wordK k).toArray⟩) := fun o => (gr_alloc W o).cell' hr.c0 (fun h => h)
  have hwl : (wordK k).length ≤ 10 := by rcases hk with rfl | rfl | rfl | rfl <;> decide
  have HJ : Hid (∀ W1 vo vc, Strs W W1 vo vc ts → Calls Tryd.prog 31 #[.slice vo ts.length vc, .string ⟨#[44, 32]⟩] W1 fun e w' => e = .returned (.string (joinB ts)) ∧ Gr W1 w') := fun W1 vo vc hs => by
    refine join_any vo vc ts ⟨#[44, 32]⟩ W W1 hs (by omega) ?_
    have : (joinB ts).size = (Lib.join (ts.map (·.data.toList)) [44, 32]).length := rfl
    show (Lib.join (ts.map (·.data.toList)) [44, 32]).length ≤ _
    omega
  have hb := fun w => isBracketed_any (k : Int) w
  rw [show decide ((14 : Int) ≤ (k : Int)) = true from decide_eq_true (by omega)] at hb
  have e1 : ((k : Int) == 14) = false := beqF (by omega)
  have e2 : ((k : Int) == 16) = false := beqF (by omega)
  have e3 : ((k : Int) == 19) = false := beqF (by omega)
  unfold brackB
  have hws : (⟨(wordK k).toArray⟩ : ByteArray).size = (wordK k).length := rfl
  obtain ⟨wd, hwd⟩ : ∃ wd : ByteArray, wd = ⟨(wordK k).toArray⟩ := ⟨_, rfl⟩
  rw [← hwd] at hws b0 ⊢
  generalize joinB ts = jt at *
  have s1 : (wd ++ (⟨#[40]⟩ : ByteArray)).size = wd.size + 1 := by rw [ByteArray.size_append]; rfl
  have s2 : (wd ++ (⟨#[40]⟩ : ByteArray) ++ jt).size = wd.size + 1 + jt.size := by rw [ByteArray.size_append, s1]
  have m1 := fun w => run_string_add_sum (P := Tryd.prog) w wd ⟨#[40]⟩ (by show wd.size + 1 ≤ _; omega)
  have m2 := fun w => run_string_add_sum (P := Tryd.prog) w (wd ++ ⟨#[40]⟩) jt (by rw [s1]; omega)
  have m3 := fun w => run_string_add_sum (P := Tryd.prog) w (wd ++ ⟨#[40]⟩ ++ jt) ⟨#[41]⟩ (by rw [s2]; show _ + 1 ≤ _; omega)
  have x1 := World.alloc_heap_new W (.cells #[.int .i64 (k : Int), .int .i64 f3, .int .i64 f4, .int .i64 f5, .slice ao f6 ca] 36)
  have HX := hidM x1
  clear hr hT g h hwl hws s1 s2 hwd x1 hk
  go_enter Tryd.func62, Tryd.ntmps62
  go_wp2_with (first | (go_at_call 72; refine (hb _).mono ?_; rintro e w' ⟨rfl, rfl⟩) | (go_at_call 32; refine Hid.out ?_))
  unfold Hid
  refine Calls.mono (H.out _ (gr_alloc W _)) ?_
  rintro e W1 ⟨vo, vc, rfl, hs⟩
  have HS := hidM hs
  clear hs
  go_wp2_with (at_builtin; refine Hid.out ?_)
  unfold Hid
  refine wpList_append_any _ rfl (.tmp 39) (.tmp 42) 72 72 rfl 9 (.string ⟨#[]⟩) 16 Tryd.underlying72 info9 rfl _ 0 [] rfl (World.ownsRow_nil _ _ _ _) _ ts.length (ts.map Value.string) rfl (src_strs HS.out) (by omega) (by omega) ?_
  intro v' w1 hown' hgrow hblk
  rw [Nat.zero_add, List.nil_append] at hown'
  obtain ⟨vo', vc', rfl⟩ := own_form hown'
  have HS2 : Hid (Strs W w1 vo' vc' ts) := by
    have g1 : Gr W1 w1 := (Keeps.ofGrown hgrow).mono fun b _ e => by have e' : (Value.slice none 0 0).ownBlock = some b := e; simp [Value.ownBlock] at e'
    refine ⟨hown', ((gr_alloc W _).trans HS.out.gr (fun _ _ h => h)).trans g1 (fun _ _ h => h), fun g e => ?_⟩
    have hz := HS.out.gr.size
    simp at hz
    rcases hblk with h1 | h1
    · rw [h1] at e
      have e' : (Value.slice none 0 0).ownBlock = some g := e
      simp [Value.ownBlock] at e'
    · have := h1 g e; omega
  clear hown' hgrow hblk HS
  go_wp2_with (go_at_call 31; refine Hid.out ?_)
  unfold Hid
  refine Calls.mono (HJ.out _ _ _ HS2.out) ?_
  rintro e W3 ⟨rfl, hg3⟩
  have HE := hidM (HS2.out.gr.trans hg3 (fun _ _ h => h))
  clear hg3
  go_wp2_with fail
  go_ret
  exact ⟨rfl, HE.out⟩

set_option maxRecDepth 100000 in
set_option maxHeartbeats 2000000 in
/-- Print of a schema without notes -/
theorem print_walk (fo no : Option Addr) (nf cf cn : Nat) (ts : List ByteArray) (hts : ts.length ≤ 1000000) (hj : (joinB ts).size ≤ 1000000000000) (w : World)
    (hl : ∀ W, Gr w W → Calls Tryd.prog 21 #[.agg #[.slice fo nf cf, .slice no 0 cn]] W fun e w' => e = .returned (.bool true) ∧ Gr W w')
    (h : ∀ W, Gr w W → Calls Tryd.prog 32 #[.slice fo nf cf] W fun e w' => ∃ vo vc, e = .returned (.slice vo ts.length vc) ∧ Strs W w' vo vc ts) :
    ∀ W, Gr w W → Calls Tryd.prog 14 #[.agg #[.slice fo nf cf, .slice no 0 cn]] W fun e w' => e = .returned (.tuple #[.string (joinB ts), .int .i64 0]) ∧ Gr W w' := by
  intro W g
  have HL : Hid (∀ W', Gr W W' → Calls Tryd.prog 21 #[.agg #[.slice fo nf cf, .slice no 0 cn]] W' fun e w' => e = .returned (.bool true) ∧ Gr W' w') := fun W' g' => hl W' (g.trans g' (fun _ _ h => h))
  have H : Hid (∀ W', Gr W W' → Calls Tryd.prog 32 #[.slice fo nf cf] W' fun e w' => ∃ vo vc, e = .returned (.slice vo ts.length vc) ∧ Strs W' w' vo vc ts) := fun W' g' => h W' (g.trans g' (fun _ _ h => h))
  have HJ : Hid (∀ W0 W1 vo vc, Strs W0 W1 vo vc ts → Calls Tryd.prog 31 #[.slice vo ts.length vc, .string ⟨#[44, 32]⟩] W1 fun e w' => e = .returned (.string (joinB ts)) ∧ Gr W1 w') := fun W0 W1 vo vc hs => by
    refine join_any vo vc ts ⟨#[44, 32]⟩ W0 W1 hs (by omega) ?_
    have : (joinB ts).size = (Lib.join (ts.map (·.data.toList)) [44, 32]).length := rfl
    show (Lib.join (ts.map (·.data.toList)) [44, 32]).length ≤ _
    omega
  generalize joinB ts = jt at *
  have x1 := World.alloc_heap_new W (.cells #[.slice fo nf cf, .slice no 0 cn] 25)
  have HX := hidM x1
  clear hl h g x1
  go_enter Tryd.func14, Tryd.ntmps14
  go_wp2_with (go_at_call 21; refine Hid.out ?_)
  unfold Hid
  refine Calls.mono (HL.out _ (gr_alloc W _)) ?_
  rintro e W1 ⟨rfl, hg1⟩
  have x1 := (hg1.block _ (lt_of_heap HX.out) (fun h => h)).trans HX.out
  have y0 : W1.cell? ⟨W.heap.size, 0, none⟩ = some (.slice fo nf cf) := by simp [World.cell?, x1]
  have HG := hidM (And.intro ((gr_alloc W _).trans hg1 (fun _ _ h => h)) x1)
  clear x1 hg1 HX
  go_wp2_with (go_at_call 32; refine Hid.out ?_)
  unfold Hid
  refine Calls.mono (H.out _ HG.out.1) ?_
  rintro e W2 ⟨vo, vc, rfl, hs⟩
  have HS := hidM hs
  clear hs y0
  go_wp2_with (go_at_call 31; refine Hid.out ?_)
  unfold Hid
  refine Calls.mono (HJ.out _ _ _ _ HS.out) ?_
  rintro e W3 ⟨rfl, hg3⟩
  have g13 : Gr W1 W3 := HS.out.gr.trans hg3 (fun _ _ h => h)
  have x1 := (g13.block _ (lt_of_heap HG.out.2) (fun h => h)).trans HG.out.2
  have y1 : W3.cell? ⟨W.heap.size, 1, none⟩ = some (.slice no 0 cn) := by simp [World.cell?, x1]
  have HE := hidM (HG.out.1.trans g13 (fun _ _ h => h))
  clear hg3 g13 x1
  go_wp2_with fail
  refine bodyPost_ret (v := .tuple #[.string jt, .int .i64 0]) ?_ rfl ⟨rfl, HE.out⟩
  simp [results, Tryd.f14, go_sem]
end Go.Proofs.YtjdojbbjbippoaaDoor.Kit
