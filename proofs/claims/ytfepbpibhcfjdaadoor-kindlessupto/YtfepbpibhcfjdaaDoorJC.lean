import Derived.Test.YtfepbpibhcfjdaaDoorJB
namespace Go.Proofs.YtfepbpibhcfjdaaDoor.Kit
open Go.RowKit Go.Shelf Go.Deep
set_option linter.unusedVariables false
attribute [local go_sem] run_store_func

theorem info9 : (Tryd.prog.info? 9).map (fun i => (i.zero, i.size, i.bytes)) = some (some (.string ⟨#[]⟩), 1, 16) := by kernel_rfl
theorem src_str (w : World) (u : ByteArray) : Src Tryd.prog 1 56 (.slice (some ⟨w.heap.size, 0, none⟩) 1 1) 1 [.string u] (w.alloc (.cells #[.string u] 9)) := by
  refine Src.ofSlice (w := w.alloc (.cells #[.string u] 9)) Tryd.underlying56 ⟨w.heap.size, 0, none⟩ 1 1 [.string u] rfl (fun j v h => ?_) (fun v h => by simp at h; subst h; rfl)
  cases j with
  | zero => cases h; exact (cell_new w _ 9)
  | succ j => simp at h
theorem own_form {W : World} {t n : Nat} {v : Value} {xs : List Value} (h : W.ownsRow 0 t 1 v n xs) : ∃ vo vc, v = .slice vo n vc := by
  rcases h.2 with ⟨rfl, h0⟩ | ⟨g, cap, cur, rfl, _⟩
  · exact ⟨none, 0, by rw [h0]⟩
  · exact ⟨_, _, rfl⟩
/-- strings of the call's own -/
structure Strs (w W : World) (vo : Option Addr) (vc : Nat) (ts : List ByteArray) : Prop where
  own : W.ownsRow 0 9 1 (.slice vo ts.length vc) ts.length (ts.map Value.string)
  gr : Gr w W
  new : ∀ g, (Value.slice vo ts.length vc).ownBlock = some g → w.heap.size ≤ g
theorem Strs.gr' {w W W' : World} {vo : Option Addr} {vc : Nat} {ts : List ByteArray} (h : Strs w W vo vc ts) (g : Gr W W') : Strs w W' vo vc ts :=
  ⟨own_kp h.own fun b e => g.block b (own_lt h.own b e) id, h.gr.trans g (fun _ _ h => h), h.new⟩
theorem Strs.snoc {w W W2 : World} {vo vo' : Option Addr} {vc vc' : Nat} {ts : List ByteArray} {u : ByteArray} (h : Strs w W vo vc ts)
    (ho : W2.ownsRow 0 9 1 (.slice vo' (ts.length + 1) vc') (ts.length + 1) (ts.map Value.string ++ [.string u])) (hg : W.grownBy W2 (Value.slice vo ts.length vc).ownBlock)
    (hor : (Value.slice vo' (ts.length + 1) vc').ownBlock = (Value.slice vo ts.length vc).ownBlock ∨ ∀ g, (Value.slice vo' (ts.length + 1) vc').ownBlock = some g → W.heap.size ≤ g) : Strs w W2 vo' vc' (ts ++ [u]) := by
  have e : (ts ++ [u]).length = ts.length + 1 := by simp
  refine ⟨?_, h.gr.trans (Keeps.ofGrown hg) (fun j hj e => by have := h.new j e; omega), fun g hg' => ?_⟩
  · rw [e, List.map_append]; exact ho
  · rw [e] at hg'
    rcases hor with h1 | h1
    · rw [h1] at hg'; exact h.new g hg'
    · exact Nat.le_trans h.gr.size (h1 g hg')

set_option maxRecDepth 100000 in
set_option maxHeartbeats 2000000 in
theorem fieldTexts_walk (l : List FT) (tx : FT → ByteArray) (S : Nat → Prop) (d : Nat) (ao : Option Addr) (ca : Nat) (w : World) (hr : RowAt S w d ao l) (hS : ∀ b, S b → b < w.heap.size)
    (h : ∀ i (hi : i < l.length) ao' ca', RowAt S w (d - 1) ao' l[i].kids → l[i].kids.length ≤ ca' → ∀ W, Gr w W → Calls Tryd.prog 29 #[fldV l[i] ao' ca'] W fun e w' => e = .returned (.string (tx l[i])) ∧ Gr W w') :
    ∀ W, Gr w W → Calls Tryd.prog 23 #[.slice ao l.length ca] W fun e w' => ∃ vo vc, e = .returned (.slice vo l.length vc) ∧ Strs W w' vo vc (l.map tx) := by
  intro W g
  have hlen : l.length ≤ 1000000000000 := hr.len
  have HR : Hid (l ≠ [] → ∃ b o, ao = some ⟨b, o, none⟩ ∧ ∀ i (h : i < l.length), ∃ ao' ca', CellsAt W b (o + i * 7) l[i] ao' ca' ∧ ∀ W', Gr W W' → Calls Tryd.prog 29 #[fldV l[i] ao' ca'] W' fun e w' => e = .returned (.string (tx l[i])) ∧ Gr W' w') := fun hne => by
    cases d with
    | zero => exact absurd hr hne
    | succ d =>
      obtain ⟨b, o, e, hb, hc⟩ := hr.2 hne
      exact ⟨b, o, e, fun i hi => by obtain ⟨a, c, h1, h2, h3⟩ := hc i hi; exact ⟨a, c, h1.kept (g.block b (hS b hb) id), fun W' g' => h i hi a c h3 h2 W' (g.trans g' (fun _ _ h => h))⟩⟩
  obtain ⟨L, hL⟩ : ∃ L, L = l.length := ⟨_, rfl⟩
  rw [← hL] at hlen ⊢
  have HL : Hid (L = l.length) := hL
  clear hr hS h hL g
  go_enter Tryd.func23, Tryd.ntmps23
  go_wp2
  go_loopw [3, 8] (fun v i wr => ∃ (k : Nat) (vo : Option Addr) (vc : Nat), k ≤ L ∧ i = .int .i64 (k : Int) ∧ v = .slice vo k vc ∧ Hid (k = ((l.take k).map tx).length ∧ Strs W wr vo vc ((l.take k).map tx))) (fun _ i _ => L - (intOf i).toNat)
  case atStart => exact ⟨0, none, 0, by omega, rfl, rfl, by simp, ⟨World.ownsRow_nil _ _ _ _, Keeps.refl _ _, fun g e => by simp [Value.ownBlock] at e⟩⟩
  case round =>
    obtain ⟨k, vo, vc, hk, rfl, rfl, HK⟩ := hrel
    by_cases hlt : k < L
    · have hl := HL.out
      have hkl : k < l.length := by omega
      obtain ⟨b, o, rfl, hcs⟩ := HR.out (fun e => by rw [e] at hkl; simp at hkl)
      obtain ⟨ao', ca', hc, hcall⟩ := hcs k hkl
      have hgr := HK.out.2.gr
      obtain ⟨g0, g1, g2, g3, g4, g5, g6⟩ := hc.kept (hgr.block b (block_lt_of_cell hc.c0) (fun h => h))
      have HTK : Hid ((l.take (k + 1)).map tx = (l.take k).map tx ++ [tx l[k]]) := by show _ = _; rw [List.take_add_one, List.getElem?_eq_getElem hkl, List.map_append]; rfl
      unfold fldV at hcall
      have HC : Hid (∀ W', Gr W W' → Calls Tryd.prog 29 #[.agg #[.string l[k].name, .bool l[k].nul, .int .i64 l[k].kind, .int .i64 l[k].width, .int .i64 l[k].id, .int .i64 l[k].index, .slice ao' l[k].kids.length ca']] W' fun e w' => e = .returned (.string (tx l[k])) ∧ Gr W' w') := hcall
      generalize tx l[k] = tk at *
      generalize l[k].name = f0 at *
      generalize l[k].nul = f1 at *
      generalize l[k].kind = f2 at *
      generalize l[k].width = f3 at *
      generalize l[k].id = f4 at *
      generalize l[k].index = f5 at *
      generalize l[k].kids.length = f6 at *
      clear hc hcs hl hkl hcall hgr
      go_wp2_with (first | (go_at_call 29; refine Hid.out ?_) | (at_builtin; refine Hid.out ?_))
      unfold Hid
      refine Calls.mono (HC.out _ (HK.out.2.gr.alloc _)) ?_
      rintro e v2 ⟨rfl, hg2⟩
      have HS2 := hidM (HK.out.2.gr' ((gr_alloc wr _).trans hg2 (fun _ _ h => h)))
      clear hg2 g0 g1 g2 g3 g4 g5 g6
      go_wp2_with (at_builtin; refine Hid.out ?_)
      unfold Hid
      have hS3 := HS2.out.gr' (gr_alloc v2 (.cells #[.string tk] 9))
      have hkk := HK.out.1
      refine wpList_append_any _ rfl (.tmp 12) (.tmp 15) 56 56 rfl 9 (.string ⟨#[]⟩) 16 Tryd.underlying56 info9 rfl _ k ((l.take k).map tx |>.map Value.string) rfl (by have := hS3.own; rw [← hkk] at this; exact this) _ 1 [.string tk] rfl (src_str v2 tk) (by omega) (by omega) ?_
      intro v' w1 hown' hgrow hblk
      obtain ⟨vo', vc', rfl⟩ := own_form hown'
      have HN : Hid (k + 1 = ((l.take (k + 1)).map tx).length ∧ Strs W w1 vo' vc' ((l.take (k + 1)).map tx)) := by
        refine ⟨by rw [HTK.out]; simp only [List.length_append, List.length_singleton]; omega, ?_⟩
        rw [HTK.out]
        refine hS3.snoc ?_ ?_ ?_
        · rw [← hkk]; exact hown'
        · rw [← hkk]; exact hgrow
        · rw [← hkk]; exact hblk
      clear hown' hgrow hblk hS3 HS2 hkk
      go_wp2_with fail
      go_roundw
      case rel => exact ⟨k + 1, vo', vc', by omega, by simp, rfl, HN.out⟩
      case measure => simp [intOf]; omega
    · have hkL : k = L := by omega
      subst hkL
      have HE : Hid (Strs W wr vo vc (l.map tx)) := by
        have := HK.out.2
        rw [HL.out, List.take_length] at this
        exact this
      clear HK HR
      go_wp2_with fail
      go_ret
      exact ⟨_, _, rfl, HE.out⟩
/-- what strings.Join answers -/
theorem join_any (vo : Option Addr) (vc : Nat) (ts : List ByteArray) (sep : ByteArray) (w W : World) (h : Strs w W vo vc ts) (hl : ts.length ≤ 1000000000000) (hj : (Lib.join (ts.map (·.data.toList)) sep.data.toList).length ≤ 140737488355328) :
    Calls Tryd.prog 22 #[.slice vo ts.length vc, .string sep] W fun e w' => e = .returned (.string ⟨(Lib.join (ts.map (·.data.toList)) sep.data.toList).toArray⟩) ∧ Gr W w' := by
  rcases h.own.2 with ⟨e, h0⟩ | ⟨g, cap, cur, e, _, hg, h1, _, _, _⟩
  · have : ts = [] := List.eq_nil_of_length_eq_zero h0
    subst this
    exact (Tryd.strings_Join_none vo vc sep W).mono fun e w' he => ⟨he.1, by rw [he.2]; exact Keeps.refl _ _⟩
  · cases e
    refine (Tryd.strings_Join g 0 vc ts sep W (fun j x hx => ?_) (Array.getElem?_eq_some_iff.1 hg).1 (by omega) h1 hj).mono fun e w' he => ⟨he.1, (Keeps.ofBelow he.2).mono fun k hk h => by omega⟩
    have hj' : j < ts.length := (List.getElem?_eq_some_iff.1 hx).1
    rw [Nat.zero_add, h.own.cellAt j (by simpa using hj'), List.getElem?_map, hx]
    rfl
end Go.Proofs.YtfepbpibhcfjdaaDoor.Kit
