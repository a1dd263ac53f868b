import Derived.Test.YtcfdkadhclickaaDoorFE
namespace Go.Proofs.YtcfdkadhclickaaDoor.Kit
open Go.RowKit Go.Shelf Go.Deep
set_option linter.unusedVariables false
attribute [local go_sem] run_store_func

def sEq (a b : ByteArray) : Bool := a.toList == b.toList
set_option maxRecDepth 100000 in
set_option maxHeartbeats 1000000 in
theorem named_any (f : FT) (ao : Option Addr) (ca nb : Nat) (nm : ByteArray) (w : World) (hn : w.cell? ⟨nb, 0, none⟩ = some (.string nm)) :
    Calls Tryd.prog 125 #[fldV f ao ca, .pointer (some ⟨nb, 0, none⟩)] w fun e w' => e = .returned (.bool (sEq f.name nm)) ∧ Gr w w' := by
  have hn : ∀ o, (w.alloc o).cell? ⟨nb, 0, none⟩ = some (.string nm) := fun o => (gr_alloc w o).cell' hn (fun h => h)
  unfold fldV
  go_enter Tryd.func125, Tryd.ntmps125
  go_wp2
  go_ret
  exact ⟨rfl, gr_alloc _ _⟩

/-- the first field of that name -/
def idxOf (l : List FT) (nm : ByteArray) : Int := if l.findIdx (fun f => sEq f.name nm) < l.length then (l.findIdx (fun f => sEq f.name nm) : Nat) else -1
theorem idxOf_none {l : List FT} {nm : ByteArray} (h : ∀ i (h : i < l.length), (sEq l[i].name nm) = false) : idxOf l nm = -1 := by
  unfold idxOf
  rw [if_neg]
  intro hlt
  have := List.findIdx_getElem (w := hlt)
  rw [h _ hlt] at this
  cases this
theorem idxOf_some {l : List FT} {nm : ByteArray} {k : Nat} (hk : k < l.length) (h : ∀ i (h : i < l.length), i < k → (sEq l[i].name nm) = false) (hx : (sEq l[k].name nm) = true) : idxOf l nm = k := by
  have : l.findIdx (fun f => sEq f.name nm) = k := by
    rw [List.findIdx_eq hk]
    exact ⟨hx, fun j hj => by rw [h j (by omega) hj]⟩
  unfold idxOf
  rw [this, if_pos hk]

set_option maxRecDepth 100000 in
set_option maxHeartbeats 2000000 in
theorem indexFunc_any (S : Nat → Prop) (d : Nat) (ao : Option Addr) (ca nb : Nat) (l : List FT) (nm : ByteArray) (w : World) (hr : RowAt S w d ao l) (hn : w.cell? ⟨nb, 0, none⟩ = some (.string nm)) :
    Calls Tryd.prog 124 #[.slice ao l.length ca, .func (.func 125) #[] #[.pointer (some ⟨nb, 0, none⟩)]] w fun e w' => e = .returned (.int .i64 (idxOf l nm)) ∧ Gr w w' := by
  have hlen : l.length ≤ 1000000000000 := hr.len
  have HR : Hid (l ≠ [] → ∃ b o, ao = some ⟨b, o, none⟩ ∧ ∀ i (h : i < l.length), ∃ ao' ca', CellsAt w b (o + i * 7) l[i] ao' ca') := fun hne => by
    cases d with
    | zero => exact absurd hr hne
    | succ d =>
      obtain ⟨b, o, e, _, h⟩ := hr.2 hne
      exact ⟨b, o, e, fun i hi => by obtain ⟨a, c, h1, _⟩ := h i hi; exact ⟨a, c, h1⟩⟩
  have HN : Hid _ := hn
  obtain ⟨L, hL⟩ : ∃ L, L = l.length := ⟨_, rfl⟩
  rw [← hL] at hlen ⊢
  have HL : Hid (L = l.length) := hL
  clear hr hn hL
  go_enter Tryd.func124, Tryd.ntmps124
  go_wp2
  go_loopw [8] (fun i wr => ∃ k : Nat, k ≤ L ∧ i = .int .i64 (k : Int) ∧ Hid (Gr w wr ∧ ∀ i (h : i < l.length), i < k → (sEq l[i].name nm) = false)) (fun i _ => L - (intOf i).toNat)
  case atStart => exact ⟨0, by omega, rfl, Keeps.refl _ _, fun i h h0 => by omega⟩
  case round =>
    obtain ⟨k, hk, rfl, HK⟩ := hrel
    by_cases hlt : k < L
    · have hl := HL.out
      have hkl : k < l.length := by omega
      obtain ⟨b, o, rfl, hcs⟩ := HR.out (fun e => by rw [e] at hkl; simp at hkl)
      obtain ⟨ao', ca', hc⟩ := hcs k hkl
      obtain ⟨g0, g1, g2, g3, g4, g5, g6⟩ := hc.kept (HK.out.1.block b (block_lt_of_cell hc.c0) (fun h => h))
      have hnn : wr.cell? ⟨nb, 0, none⟩ = some (.string nm) := HK.out.1.cell' HN.out (fun h => h)
      have hcall : Calls Tryd.prog 125 #[.agg #[.string l[k].name, .bool l[k].nul, .int .i64 l[k].kind, .int .i64 l[k].width, .int .i64 l[k].id, .int .i64 l[k].index, .slice ao' l[k].kids.length ca'], .pointer (some ⟨nb, 0, none⟩)] wr fun e w' => e = .returned (.bool (sEq l[k].name nm)) ∧ Gr wr w' := named_any l[k] ao' ca' nb nm wr hnn
      have HE : Hid _ := @idxOf_some l nm k hkl HK.out.2
      have HM : Hid ((sEq l[k].name nm) = false → ∀ i (h : i < l.length), i < k + 1 → (sEq l[i].name nm) = false) := fun hx i hi hlt => by
        by_cases e : i = k
        · subst e; exact hx
        · exact HK.out.2 i hi (by omega)
      have HG : Hid (Gr w wr) := HK.out.1
      generalize l[k].name = f0 at *
      generalize l[k].nul = f1 at *
      generalize l[k].kind = f2 at *
      generalize l[k].width = f3 at *
      generalize l[k].id = f4 at *
      generalize l[k].index = f5 at *
      generalize l[k].kids.length = f6 at *
      generalize (sEq f0 nm) = eq at *
      clear hc hcs hl hkl HK hnn
      cases eq with
      | true =>
        go_wp2_with (go_at_call 125; refine hcall.mono ?_; rintro e w2 ⟨rfl, hg⟩)
        go_ret
        exact ⟨congrArg (fun z => Ending.returned (.int .i64 z)) (HE.out (by trivial)).symm, HG.out.trans hg (fun _ _ h => h)⟩
      | false =>
        go_wp2_with (go_at_call 125; refine hcall.mono ?_; rintro e w2 ⟨rfl, hg⟩)
        go_roundw
        case rel => exact ⟨k + 1, by omega, by simp, HG.out.trans hg (fun _ _ h => h), HM.out (by trivial)⟩
        case measure => simp [intOf]; omega
    · have HE : Hid (idxOf l nm = -1) := idxOf_none fun i hi => HK.out.2 i hi (by have := HL.out; omega)
      have HG : Hid (Gr w wr) := HK.out.1
      have hkL : k = L := by omega
      subst hkL
      clear HK
      go_wp2_with fail
      go_ret
      exact ⟨congrArg (fun z => Ending.returned (.int .i64 z)) HE.out.symm, HG.out⟩
set_option maxRecDepth 100000 in
set_option maxHeartbeats 1000000 in
theorem numberOfName_any (S : Nat → Prop) (d : Nat) (ao : Option Addr) (ca : Nat) (l : List FT) (nm : ByteArray) (w : World) (hr : RowAt S w d ao l) (hS : ∀ b, S b → b < w.heap.size) :
    Calls Tryd.prog 117 #[.slice ao l.length ca, .string nm] w fun e w' => e = .returned (.int .i64 (idxOf l nm)) ∧ Gr w w' := by
  have hc := indexFunc_any S d ao ca w.heap.size l nm (w.alloc (.cells #[.string nm] 9)) (hr.kept fun b h => (gr_alloc w _).block b (hS b h) (fun h => h)) (cell_new w _ 9)
  have HC : Hid _ := hc
  clear hc hr
  generalize l.length = L at *
  go_enter Tryd.func117, Tryd.ntmps117
  go_wp2_with (go_at_call 124; refine Calls.mono HC.out ?_; rintro e w2 ⟨rfl, hg⟩)
  go_ret
  exact ⟨rfl, (gr_alloc w _).trans hg (fun _ _ h => h)⟩
end Go.Proofs.YtcfdkadhclickaaDoor.Kit
