import Derived.Test.YtfoifmacobldbaaGreatDoorTT
import Derived.Test.YtfoifmacobldbaaGreatDoorFG
set_option maxRecDepth 100000
set_option maxHeartbeats 4000000
namespace Go.Proofs.YtfoifmacobldbaaGreatDoor.Kit
open Go.RowKit Go.Shelf Go.Deep
set_option linter.unusedVariables false
set_option linter.unusedSimpArgs false
attribute [local go_sem] run_store_func
/-! ### the index of a name -/
theorem named104 (f : FT) (ao : Option Addr) (ca nb : Nat) (nm : ByteArray) (w : World) (hn : w.cell? ⟨nb, 0, none⟩ = some (.string nm)) :
    Calls Tryz.prog 104 #[fldV f ao ca, .pointer (some ⟨nb, 0, none⟩)] w fun e w' => e = .returned (.bool (sEq f.name nm)) ∧ Gr w w' := by
  have hn : ∀ o, (w.alloc o).cell? ⟨nb, 0, none⟩ = some (.string nm) := fun o => (gr_alloc w o).cell' hn (fun h => h)
  unfold fldV
  go_enter Tryz.func104, Tryz.ntmps104
  go_wp2
  go_ret
  exact ⟨rfl, gr_alloc _ _⟩

theorem index103 (S : Nat → Prop) (d : Nat) (ao : Option Addr) (ca nb : Nat) (l : List FT) (nm : ByteArray) (w : World) (hr : RowAt S w d ao l) (hn : w.cell? ⟨nb, 0, none⟩ = some (.string nm)) :
    Calls Tryz.prog 103 #[.slice ao l.length ca, .func (.func 104) #[] #[.pointer (some ⟨nb, 0, none⟩)]] w fun e w' => e = .returned (.int .i64 (idxOf l nm)) ∧ Gr w w' := by
  have hlen : l.length ≤ 1000000000000 := hr.len
  have HR : Hid (l ≠ [] → ∃ b o, ao = some ⟨b, o, none⟩ ∧ ∀ i (h : i < l.length), ∃ ao' ca', CellsAt w b (o + i * 7) l[i] ao' ca') := fun hne => by
    cases d with
    | zero => exact absurd hr hne
    | succ d =>
      obtain ⟨b, o, e, _, h⟩ := hr.2 hne
      exact ⟨b, o, e, fun i hi => by obtain ⟨a, c, h1, _⟩ := h i hi; exact ⟨a, c, h1⟩⟩
  have HN : Hid _ := hn
  obtain ⟨L, hL⟩ : ∃ L, L = l.length := ⟨_, rfl⟩
  rw [← hL] at hlen ⊢
  have HL : Hid (L = l.length) := hL
  clear hr hn hL
  go_enter Tryz.func103, Tryz.ntmps103
  go_wp2
  go_loopw [8] (fun i wr => ∃ k : Nat, k ≤ L ∧ i = .int .i64 (k : Int) ∧ Hid (Gr w wr ∧ ∀ i (h : i < l.length), i < k → (sEq l[i].name nm) = false)) (fun i _ => L - (intOf i).toNat)
  case atStart => exact ⟨0, by omega, rfl, Keeps.refl _ _, fun i h h0 => by omega⟩
  case round =>
    obtain ⟨k, hk, rfl, HK⟩ := hrel
    by_cases hlt : k < L
    · have hl := HL.out
      have hkl : k < l.length := by omega
      obtain ⟨b, o, rfl, hcs⟩ := HR.out (fun e => by rw [e] at hkl; simp at hkl)
      obtain ⟨ao', ca', hc⟩ := hcs k hkl
      obtain ⟨g0, g1, g2, g3, g4, g5, g6⟩ := hc.kept (HK.out.1.block b (block_lt_of_cell hc.c0) (fun h => h))
      have hnn : wr.cell? ⟨nb, 0, none⟩ = some (.string nm) := HK.out.1.cell' HN.out (fun h => h)
      have hcall : Calls Tryz.prog 104 #[.agg #[.string l[k].name, .bool l[k].nul, .int .i64 l[k].kind, .int .i64 l[k].width, .int .i64 l[k].id, .int .i64 l[k].index, .slice ao' l[k].kids.length ca'], .pointer (some ⟨nb, 0, none⟩)] wr fun e w' => e = .returned (.bool (sEq l[k].name nm)) ∧ Gr wr w' := named104 l[k] ao' ca' nb nm wr hnn
      have HE : Hid _ := @idxOf_some l nm k hkl HK.out.2
      have HM : Hid ((sEq l[k].name nm) = false → ∀ i (h : i < l.length), i < k + 1 → (sEq l[i].name nm) = false) := fun hx i hi hlt => by
        by_cases e : i = k
        · subst e; exact hx
        · exact HK.out.2 i hi (by omega)
      have HG : Hid (Gr w wr) := HK.out.1
      generalize l[k].name = f0 at *
      generalize l[k].nul = f1 at *
      generalize l[k].kind = f2 at *
      generalize l[k].width = f3 at *
      generalize l[k].id = f4 at *
      generalize l[k].index = f5 at *
      generalize l[k].kids.length = f6 at *
      generalize (sEq f0 nm) = eq at *
      clear hc hcs hl hkl HK hnn
      cases eq with
      | true =>
        go_wp2_with (go_at_call 104; refine hcall.mono ?_; rintro e w2 ⟨rfl, hg⟩)
        go_ret
        exact ⟨congrArg (fun z => Ending.returned (.int .i64 z)) (HE.out (by trivial)).symm, HG.out.trans hg (fun _ _ h => h)⟩
      | false =>
        go_wp2_with (go_at_call 104; refine hcall.mono ?_; rintro e w2 ⟨rfl, hg⟩)
        go_roundw
        case rel => exact ⟨k + 1, by omega, by simp, HG.out.trans hg (fun _ _ h => h), HM.out (by trivial)⟩
        case measure => simp [intOf]; omega
    · have HE : Hid (idxOf l nm = -1) := idxOf_none fun i hi => HK.out.2 i hi (by have := HL.out; omega)
      have HG : Hid (Gr w wr) := HK.out.1
      have hkL : k = L := by omega
      subst hkL
      clear HK
      go_wp2_with fail
      go_ret
      exact ⟨congrArg (fun z => Ending.returned (.int .i64 z)) HE.out.symm, HG.out⟩

theorem sEqB_iff (x y : ByteArray) : (sEq x y = true) = (x.data.toList = y.data.toList) := by
  unfold sEq
  rw [ByteArray.toList_eq, ByteArray.toList_eq]
  simp
theorem idxN_spec (n : ByteArray) : ∀ (l : List FT), (match QB.idxN n.data.toList l with
    | some i => ∃ h : i < l.length, sEq l[i].name n = true ∧ ∀ j (h : j < l.length), j < i → sEq l[j].name n = false
    | none => ∀ j (h : j < l.length), sEq l[j].name n = false)
  | [] => fun j h => by simp at h
  | g :: gs => by
    unfold QB.idxN
    by_cases hn : QB.nm g = n.data.toList
    · rw [if_pos hn]
      refine ⟨by simp, ?_, fun j h hj => by omega⟩
      rw [sEqB_iff]
      exact hn
    · rw [if_neg hn]
      have h0 : sEq g.name n = false := by
        cases h : sEq g.name n with
        | false => rfl
        | true => rw [sEqB_iff] at h; exact absurd h hn
      have ih := idxN_spec n gs
      cases hi : QB.idxN n.data.toList gs with
      | none =>
        rw [hi] at ih
        simp only at ih
        intro j hj
        cases j with
        | zero => exact h0
        | succ j => exact ih j (by simpa using hj)
      | some i =>
        rw [hi] at ih
        obtain ⟨h1, h2, h3⟩ := ih
        refine ⟨by simpa using h1, h2, fun j hj hji => ?_⟩
        cases j with
        | zero => exact h0
        | succ j => exact h3 j (by simpa using hj) (by have : j + 1 < i + 1 := hji; omega)
theorem idxOf_N (l : List FT) (n : ByteArray) : idxOf l n = match QB.idxN n.data.toList l with | some i => (i : Int) | none => -1 := by
  have h := idxN_spec n l
  cases hi : QB.idxN n.data.toList l with
  | none => rw [hi] at h; exact idxOf_none h
  | some i =>
    rw [hi] at h
    obtain ⟨h1, h2, h3⟩ := h
    exact idxOf_some h1 h3 h2
end Go.Proofs.YtfoifmacobldbaaGreatDoor.Kit
