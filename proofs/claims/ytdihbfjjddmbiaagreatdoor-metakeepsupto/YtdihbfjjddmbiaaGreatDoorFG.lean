import Derived.Test.YtdihbfjjddmbiaaGreatDoorFE
set_option maxRecDepth 100000
set_option maxHeartbeats 4000000
namespace Go.Proofs.YtdihbfjjddmbiaaGreatDoor.Kit
open Go.RowKit Go.Shelf Go.Deep
set_option linter.unusedVariables false
attribute [local go_sem] run_store_func
def sEq (a b : ByteArray) : Bool := a.toList == b.toList
theorem named_any (f : FT) (ao : Option Addr) (ca nb : Nat) (nm : ByteArray) (w : World) (hn : w.cell? ⟨nb, 0, none⟩ = some (.string nm)) :
    Calls Tryz.prog 97 #[fldV f ao ca, .pointer (some ⟨nb, 0, none⟩)] w fun e w' => e = .returned (.bool (sEq f.name nm)) ∧ Gr w w' := by
  have hn : ∀ o, (w.alloc o).cell? ⟨nb, 0, none⟩ = some (.string nm) := fun o => (gr_alloc w o).cell' hn (fun h => h)
  unfold fldV
  go_enter Tryz.func97, Tryz.ntmps97
  go_wp2
  go_ret
  exact ⟨rfl, gr_alloc _ _⟩
def idxOf (l : List FT) (nm : ByteArray) : Int := if l.findIdx (fun f => sEq f.name nm) < l.length then (l.findIdx (fun f => sEq f.name nm) : Nat) else -1
theorem idxOf_none {l : List FT} {nm : ByteArray} (h : ∀ i (h : i < l.length), (sEq l[i].name nm) = false) : idxOf l nm = -1 := by
  unfold idxOf
  rw [if_neg]
  intro hlt
  have := List.findIdx_getElem (w := hlt)
  rw [h _ hlt] at this
  cases this
theorem idxOf_some {l : List FT} {nm : ByteArray} {k : Nat} (hk : k < l.length) (h : ∀ i (h : i < l.length), i < k → (sEq l[i].name nm) = false) (hx : (sEq l[k].name nm) = true) : idxOf l nm = k := by
  have : l.findIdx (fun f => sEq f.name nm) = k := by
    rw [List.findIdx_eq hk]
    exact ⟨hx, fun j hj => by rw [h j (by omega) hj]⟩
  unfold idxOf
  rw [this, if_pos hk]
theorem indexFunc_any (S : Nat → Prop) (d : Nat) (ao : Option Addr) (ca nb : Nat) (l : List FT) (nm : ByteArray) (w : World) (hr : RowAt S w d ao l) (hn : w.cell? ⟨nb, 0, none⟩ = some (.string nm)) :
    Calls Tryz.prog 96 #[.slice ao l.length ca, .func (.func 97) #[] #[.pointer (some ⟨nb, 0, none⟩)]] w fun e w' => e = .returned (.int .i64 (idxOf l nm)) ∧ Gr w w' := by
  have hlen : l.length ≤ 1000000000000 := hr.len
  have HR : Hid (l ≠ [] → ∃ b o, ao = some ⟨b, o, none⟩ ∧ ∀ i (h : i < l.length), ∃ ao' ca', CellsAt w b (o + i * 7) l[i] ao' ca') := fun hne => by
    cases d with
    | zero => exact absurd hr hne
    | succ d =>
      obtain ⟨b, o, e, _, h⟩ := hr.2 hne
      exact ⟨b, o, e, fun i hi => by obtain ⟨a, c, h1, _⟩ := h i hi; exact ⟨a, c, h1⟩⟩
  have HN : Hid _ := hn
  obtain ⟨L, hL⟩ : ∃ L, L = l.length := ⟨_, rfl⟩
  rw [← hL] at hlen ⊢
  have HL : Hid (L = l.length) := hL
  clear hr hn hL
  go_enter Tryz.func96, Tryz.ntmps96
  go_wp2
  go_loopw [8] (fun i wr => ∃ k : Nat, k ≤ L ∧ i = .int .i64 (k : Int) ∧ Hid (Gr w wr ∧ ∀ i (h : i < l.length), i < k → (sEq l[i].name nm) = false)) (fun i _ => L - (intOf i).toNat)
  case atStart => exact ⟨0, by omega, rfl, Keeps.refl _ _, fun i h h0 => by omega⟩
  case round =>
    obtain ⟨k, hk, rfl, HK⟩ := hrel
    by_cases hlt : k < L
    · have hl := HL.out
      have hkl : k < l.length := by omega
      obtain ⟨b, o, rfl, hcs⟩ := HR.out (fun e => by rw [e] at hkl; simp at hkl)
      obtain ⟨ao', ca', hc⟩ := hcs k hkl
      obtain ⟨g0, g1, g2, g3, g4, g5, g6⟩ := hc.kept (HK.out.1.block b (block_lt_of_cell hc.c0) (fun h => h))
      have hnn : wr.cell? ⟨nb, 0, none⟩ = some (.string nm) := HK.out.1.cell' HN.out (fun h => h)
      have hcall : Calls Tryz.prog 97 #[.agg #[.string l[k].name, .bool l[k].nul, .int .i64 l[k].kind, .int .i64 l[k].width, .int .i64 l[k].id, .int .i64 l[k].index, .slice ao' l[k].kids.length ca'], .pointer (some ⟨nb, 0, none⟩)] wr fun e w' => e = .returned (.bool (sEq l[k].name nm)) ∧ Gr wr w' := named_any l[k] ao' ca' nb nm wr hnn
      have HE : Hid _ := @idxOf_some l nm k hkl HK.out.2
      have HM : Hid ((sEq l[k].name nm) = false → ∀ i (h : i < l.length), i < k + 1 → (sEq l[i].name nm) = false) := fun hx i hi hlt => by
        by_cases e : i = k
        · subst e; exact hx
        exact HK.out.2 i hi (by omega)
      have HG : Hid (Gr w wr) := HK.out.1
      generalize l[k].name = f0 at *
      generalize l[k].nul = f1 at *
      generalize l[k].kind = f2 at *
      generalize l[k].width = f3 at *
      generalize l[k].id = f4 at *
      generalize l[k].index = f5 at *
      generalize l[k].kids.length = f6 at *
      generalize (sEq f0 nm) = eq at *
      clear hc hcs hl hkl HK hnn
      cases eq with
      | true =>
        go_wp2_with (go_at_call 97; refine hcall.mono ?_; rintro e w2 ⟨rfl, hg⟩)
        go_ret
        exact ⟨congrArg (fun z => Ending.returned (.int .i64 z)) (HE.out (by trivial)).symm, HG.out.tr hg⟩
      | false =>
        go_wp2_with (go_at_call 97; refine hcall.mono ?_; rintro e w2 ⟨rfl, hg⟩)
        go_roundw
        case rel => exact ⟨k + 1, by omega, by simp, HG.out.tr hg, HM.out (by trivial)⟩
        case measure => simp [intOf]; omega
    have HE : Hid (idxOf l nm = -1) := idxOf_none fun i hi => HK.out.2 i hi (by have := HL.out; omega)
    have HG : Hid (Gr w wr) := HK.out.1
    have hkL : k = L := by omega
    subst hkL
    clear HK
    go_wp2_with fail
    go_ret
    exact ⟨congrArg (fun z => Ending.returned (.int .i64 z)) HE.out.symm, HG.out⟩
theorem numberOfName_any (S : Nat → Prop) (d : Nat) (ao : Option Addr) (ca : Nat) (l : List FT) (nm : ByteArray) (w : World) (hr : RowAt S w d ao l) (hS : ∀ b, S b → b < w.heap.size) :
    Calls Tryz.prog 86 #[.slice ao l.length ca, .string nm] w fun e w' => e = .returned (.int .i64 (idxOf l nm)) ∧ Gr w w' := by
  have hc := indexFunc_any S d ao ca w.heap.size l nm (w.alloc (.cells #[.string nm] 9)) (hr.kept fun b h => (gr_alloc w _).block b (hS b h) (fun h => h)) (cell_new w _ 9)
  have HC : Hid _ := hc
  clear hc hr
  generalize l.length = L at *
  go_enter Tryz.func86, Tryz.ntmps86
  go_wp2_with (go_at_call 96; refine Calls.mono HC.out ?_; rintro e w2 ⟨rfl, hg⟩)
  go_ret
  exact ⟨rfl, (gr_alloc w _).tr hg⟩
theorem hidM {p : Prop} (h : p) : Hid p := h
def takV (t : Nat → Bool) : Value := .agg #[.bool (t 0), .bool (t 1), .bool (t 2), .bool (t 3), .bool (t 4), .bool (t 5), .bool (t 6), .bool (t 7), .bool (t 8), .bool (t 9), .bool (t 10), .bool (t 11), .bool (t 12), .bool (t 13), .bool (t 14), .bool (t 15), .bool (t 16), .bool (t 17), .bool (t 18), .bool (t 19), .bool (t 20), .bool (t 21), .bool (t 22), .bool (t 23), .bool (t 24), .bool (t 25), .bool (t 26), .bool (t 27), .bool (t 28), .bool (t 29), .bool (t 30), .bool (t 31)]
def wr (m : Nat) (ahead : Int) (nameR : Bool) (idx i : Int) (tabR nulR inD : Bool) (f2 : Int) (kid : Bool) (tk : Bool) : Int :=
  if 64 < m then 33 else if 256 ≤ ahead then 34 else if nameR = false then 30 else if idx ≠ i then 31 else if tabR = false then 32 else if nulR = false then 35
  else if inD = true ∧ (f2 = 19 ∨ f2 = 20) then 36 else if f2 = 19 ∧ (kid = true ∨ tk = true) then 36 else 0
structure WB (W : World) (B F : Nat) (ao : Option Addr) (L ca wb m wc : Nat) (inD : Bool) (t : Nat → Bool) (f0 : ByteArray) (f1 : Bool) (f2 f3 f4 f5 : Int) (ao' : Option Addr) (f6 ca' : Nat) : Prop where
  hb : W.heap[B]? = some (.cells #[.slice ao L ca, .slice (some ⟨wb, 0, none⟩) m wc, .bool inD] 119)
  ht : W.heap[B + 1]? = some (.cells #[.bool (t 0), .bool (t 1), .bool (t 2), .bool (t 3), .bool (t 4), .bool (t 5), .bool (t 6), .bool (t 7), .bool (t 8), .bool (t 9), .bool (t 10), .bool (t 11), .bool (t 12), .bool (t 13), .bool (t 14), .bool (t 15), .bool (t 16), .bool (t 17), .bool (t 18), .bool (t 19), .bool (t 20), .bool (t 21), .bool (t 22), .bool (t 23), .bool (t 24), .bool (t 25), .bool (t 26), .bool (t 27), .bool (t 28), .bool (t 29), .bool (t 30), .bool (t 31)] 114)
  hf : W.heap[F]? = some (.cells #[.string f0, .bool f1, .int .i64 f2, .int .i64 f3, .int .i64 f4, .int .i64 f5, .slice ao' f6 ca'] 52)
theorem lt_of_heap {W : World} {B : Nat} {o : Obj} (h : W.heap[B]? = some o) : B < W.heap.size := (Array.getElem?_eq_some_iff.1 h).1
theorem WB.gr {W W' : World} {B F : Nat} {ao : Option Addr} {L ca wb m wc : Nat} {inD : Bool} {t : Nat → Bool} {f0 : ByteArray} {f1 : Bool} {f2 f3 f4 f5 : Int} {ao' : Option Addr} {f6 ca' : Nat} (h : WB W B F ao L ca wb m wc inD t f0 f1 f2 f3 f4 f5 ao' f6 ca') (g : Gr W W') : WB W' B F ao L ca wb m wc inD t f0 f1 f2 f3 f4 f5 ao' f6 ca' :=
  ⟨(g.block _ (lt_of_heap h.hb) (fun h => h)).trans h.hb, (g.block _ (lt_of_heap h.ht) (fun h => h)).trans h.ht, (g.block _ (lt_of_heap h.hf) (fun h => h)).trans h.hf⟩
theorem WB.cells {W : World} {B F : Nat} {ao : Option Addr} {L ca wb m wc : Nat} {inD : Bool} {t : Nat → Bool} {f0 : ByteArray} {f1 : Bool} {f2 f3 f4 f5 : Int} {ao' : Option Addr} {f6 ca' : Nat} (h : WB W B F ao L ca wb m wc inD t f0 f1 f2 f3 f4 f5 ao' f6 ca') :
    W.cell? ⟨B, 0, none⟩ = some (.slice ao L ca) ∧ W.cell? ⟨B, 1, none⟩ = some (.slice (some ⟨wb, 0, none⟩) m wc) ∧ W.cell? ⟨B, 2, none⟩ = some (.bool inD) ∧ W.cell? ⟨F, 0, none⟩ = some (.string f0) ∧ W.cell? ⟨F, 1, none⟩ = some (.bool f1) ∧ W.cell? ⟨F, 2, none⟩ = some (.int .i64 f2) ∧ W.cell? ⟨F, 3, none⟩ = some (.int .i64 f3) ∧ W.cell? ⟨F, 4, none⟩ = some (.int .i64 f4) ∧ W.cell? ⟨F, 5, none⟩ = some (.int .i64 f5) ∧ W.cell? ⟨F, 6, none⟩ = some (.slice ao' f6 ca') := by
  obtain ⟨hb, ht, hf⟩ := h
  refine ⟨?_, ?_, ?_, ?_, ?_, ?_, ?_, ?_, ?_, ?_⟩ <;> simp [World.cell?, hb, hf]
theorem WB.tk {W : World} {B F : Nat} {ao : Option Addr} {L ca wb m wc : Nat} {inD : Bool} {t : Nat → Bool} {f0 : ByteArray} {f1 : Bool} {f2 f3 f4 f5 : Int} {ao' : Option Addr} {f6 ca' : Nat} (h : WB W B F ao L ca wb m wc inD t f0 f1 f2 f3 f4 f5 ao' f6 ca') (k : Nat) (hk : k < 32) : W.cell? ⟨B + 1, k, none⟩ = some (.bool (t k)) := by
  have ht := h.ht
  simp only [World.cell?, ht]
  have e : (#[.bool (t 0), .bool (t 1), .bool (t 2), .bool (t 3), .bool (t 4), .bool (t 5), .bool (t 6), .bool (t 7), .bool (t 8), .bool (t 9), .bool (t 10), .bool (t 11), .bool (t 12), .bool (t 13), .bool (t 14), .bool (t 15), .bool (t 16), .bool (t 17), .bool (t 18), .bool (t 19), .bool (t 20), .bool (t 21), .bool (t 22), .bool (t 23), .bool (t 24), .bool (t 25), .bool (t 26), .bool (t 27), .bool (t 28), .bool (t 29), .bool (t 30), .bool (t 31)] : Array Value) = ((List.range 32).map fun j => Value.bool (t j)).toArray := rfl
  rw [e]
  simp [hk]
theorem ws_of {w : World} {B F : Nat} {ao : Option Addr} {L ca wb m wc : Nat} {inD : Bool} {t : Nat → Bool} {f0 : ByteArray} {f1 : Bool} {f2 f3 f4 f5 : Int} {ao' : Option Addr} {f6 ca' : Nat} {W : World} (g : Gr w W) (h : WB W B F ao L ca wb m wc inD t f0 f1 f2 f3 f4 f5 ao' f6 ca') : Hid (Gr w W ∧ WB W B F ao L ca wb m wc inD t f0 f1 f2 f3 f4 f5 ao' f6 ca') ∧ W.cell? ⟨B, 0, none⟩ = some (.slice ao L ca) ∧ W.cell? ⟨B, 1, none⟩ = some (.slice (some ⟨wb, 0, none⟩) m wc) ∧ W.cell? ⟨B, 2, none⟩ = some (.bool inD) ∧ W.cell? ⟨F, 0, none⟩ = some (.string f0) :=
  ⟨⟨g, h⟩, h.cells.1, h.cells.2.1, h.cells.2.2.1, h.cells.2.2.2.1⟩
theorem ws_kept {w : World} {B F : Nat} {ao : Option Addr} {L ca wb m wc : Nat} {inD : Bool} {t : Nat → Bool} {f0 : ByteArray} {f1 : Bool} {f2 f3 f4 f5 : Int} {ao' : Option Addr} {f6 ca' : Nat} {W W' : World} (h : Hid (Gr w W ∧ WB W B F ao L ca wb m wc inD t f0 f1 f2 f3 f4 f5 ao' f6 ca') ∧ W.cell? ⟨B, 0, none⟩ = some (.slice ao L ca) ∧ W.cell? ⟨B, 1, none⟩ = some (.slice (some ⟨wb, 0, none⟩) m wc) ∧ W.cell? ⟨B, 2, none⟩ = some (.bool inD) ∧ W.cell? ⟨F, 0, none⟩ = some (.string f0)) (k : Hid (Gr W W')) : Hid (Gr w W' ∧ WB W' B F ao L ca wb m wc inD t f0 f1 f2 f3 f4 f5 ao' f6 ca') ∧ W'.cell? ⟨B, 0, none⟩ = some (.slice ao L ca) ∧ W'.cell? ⟨B, 1, none⟩ = some (.slice (some ⟨wb, 0, none⟩) m wc) ∧ W'.cell? ⟨B, 2, none⟩ = some (.bool inD) ∧ W'.cell? ⟨F, 0, none⟩ = some (.string f0) :=
  ws_of (h.1.out.1.tr k.out) (h.1.out.2.gr k.out)
theorem gr_drew {w : World} : Gr w w.drew := (Keeps.refl w _).drew
theorem ws_gr {w : World} {B F : Nat} {ao : Option Addr} {L ca wb m wc : Nat} {inD : Bool} {t : Nat → Bool} {f0 : ByteArray} {f1 : Bool} {f2 f3 f4 f5 : Int} {ao' : Option Addr} {f6 ca' : Nat} {W : World} (h : Hid (Gr w W ∧ WB W B F ao L ca wb m wc inD t f0 f1 f2 f3 f4 f5 ao' f6 ca') ∧ W.cell? ⟨B, 0, none⟩ = some (.slice ao L ca) ∧ W.cell? ⟨B, 1, none⟩ = some (.slice (some ⟨wb, 0, none⟩) m wc) ∧ W.cell? ⟨B, 2, none⟩ = some (.bool inD) ∧ W.cell? ⟨F, 0, none⟩ = some (.string f0)) : Gr w W := h.1.out.1
theorem wrong_walk (ao : Option Addr) (L ca wb m wc : Nat) (inD : Bool) (i : Nat) (t : Nat → Bool) (ahead : Int) (f0 : ByteArray) (f1 : Bool) (f2 f3 f4 f5 : Int) (ao' : Option Addr) (f6 ca' : Nat) (nameR : Bool) (idx : Int) (tabR nulR kid : Bool) (w : World) (hm : m ≤ 1000000000000)
    (hF : ∀ W, Gr w W → Calls Tryz.prog 70 #[.agg #[.slice ao L ca, .slice (some ⟨wb, 0, none⟩) m wc, .bool inD]] W fun e w' => e = .returned (.agg #[.string f0, .bool f1, .int .i64 f2, .int .i64 f3, .int .i64 f4, .int .i64 f5, .slice ao' f6 ca']) ∧ Gr W w')
    (hName : ∀ W, Calls Tryz.prog 85 #[.string f0] W fun e w' => e = .returned (.bool nameR) ∧ w' = W)
    (hIdx : ∀ W, Gr w W → Calls Tryz.prog 86 #[.slice ao L ca, .string f0] W fun e w' => e = .returned (.int .i64 idx) ∧ Gr W w')
    (hNum : ∀ W, Gr w W → Calls Tryz.prog 87 #[.agg #[.slice ao L ca, .slice (some ⟨wb, 0, none⟩) m wc, .bool inD]] W fun e w' => e = .returned (.int .i64 (i : Int)) ∧ Gr W w')
    (hTab : ∀ W, Gr w W → Calls Tryz.prog 88 #[.agg #[.int .i64 f2, .int .i64 f3, .int .i64 f4, .int .i64 f5, .slice ao' f6 ca']] W fun e w' => e = .returned (.bool tabR) ∧ Gr W w')
    (hNul : tabR = true → ∀ W, Gr w W → Calls Tryz.prog 89 #[.agg #[.string f0, .bool f1, .int .i64 f2, .int .i64 f3, .int .i64 f4, .int .i64 f5, .slice ao' f6 ca']] W fun e w' => e = .returned (.bool nulR) ∧ Gr W w')
    (hKid : tabR = true → f2 = 19 → ∃ b o k, ao' = some ⟨b, o, none⟩ ∧ 0 < f6 ∧ w.cell? ⟨b, o + 1, none⟩ = some (.bool kid) ∧ k < 32 ∧ f4 = (k : Nat)) :
    Calls Tryz.prog 68 #[.agg #[.slice ao L ca, .slice (some ⟨wb, 0, none⟩) m wc, .bool inD], .int .i64 ahead, takV t] w fun e w' => e = .returned (.int .i64 (wr m ahead nameR idx i tabR nulR inD f2 kid (t f4.toNat))) ∧ Gr w w' := by
  have HF : Hid _ := hF
  have HNa : Hid _ := hName
  have HI : Hid _ := hIdx
  have HNu : Hid _ := hNum
  have HT : Hid _ := hTab
  have HU : Hid _ := hNul
  have HK : Hid _ := hKid
  clear hF hName hIdx hNum hTab hNul hKid
  unfold takV
  obtain ⟨W0, hW0⟩ : ∃ W0, W0 = (w.alloc (.cells #[.slice ao L ca, .slice (some ⟨wb, 0, none⟩) m wc, .bool inD] 119)).alloc (.cells #[.bool (t 0), .bool (t 1), .bool (t 2), .bool (t 3), .bool (t 4), .bool (t 5), .bool (t 6), .bool (t 7), .bool (t 8), .bool (t 9), .bool (t 10), .bool (t 11), .bool (t 12), .bool (t 13), .bool (t 14), .bool (t 15), .bool (t 16), .bool (t 17), .bool (t 18), .bool (t 19), .bool (t 20), .bool (t 21), .bool (t 22), .bool (t 23), .bool (t 24), .bool (t 25), .bool (t 26), .bool (t 27), .bool (t 28), .bool (t 29), .bool (t 30), .bool (t 31)] 114) := ⟨_, rfl⟩
  have HG0 : Hid (Gr w W0) := by rw [hW0]; exact ((Keeps.refl w _).alloc _).alloc _
  have x1 : W0.heap[w.heap.size]? = some (.cells #[.slice ao L ca, .slice (some ⟨wb, 0, none⟩) m wc, .bool inD] 119) := by
    rw [hW0]; exact (Below.heap_alloc _ _ _ (by simp)).trans (World.alloc_heap_new w _)
  have x2 : W0.heap[w.heap.size + 1]? = some (.cells #[.bool (t 0), .bool (t 1), .bool (t 2), .bool (t 3), .bool (t 4), .bool (t 5), .bool (t 6), .bool (t 7), .bool (t 8), .bool (t 9), .bool (t 10), .bool (t 11), .bool (t 12), .bool (t 13), .bool (t 14), .bool (t 15), .bool (t 16), .bool (t 17), .bool (t 18), .bool (t 19), .bool (t 20), .bool (t 21), .bool (t 22), .bool (t 23), .bool (t 24), .bool (t 25), .bool (t 26), .bool (t 27), .bool (t 28), .bool (t 29), .bool (t 30), .bool (t 31)] 114) := by
    rw [hW0]
    have := World.alloc_heap_new (w.alloc (.cells #[.slice ao L ca, .slice (some ⟨wb, 0, none⟩) m wc, .bool inD] 119)) (.cells #[.bool (t 0), .bool (t 1), .bool (t 2), .bool (t 3), .bool (t 4), .bool (t 5), .bool (t 6), .bool (t 7), .bool (t 8), .bool (t 9), .bool (t 10), .bool (t 11), .bool (t 12), .bool (t 13), .bool (t 14), .bool (t 15), .bool (t 16), .bool (t 17), .bool (t 18), .bool (t 19), .bool (t 20), .bool (t 21), .bool (t 22), .bool (t 23), .bool (t 24), .bool (t 25), .bool (t 26), .bool (t 27), .bool (t 28), .bool (t 29), .bool (t 30), .bool (t 31)] 114)
    rw [World.size_alloc] at this
    exact this
  go_enter Tryz.func68, Tryz.ntmps68
  obtain ⟨p0, p1, p2⟩ := ce3 x1
  go_wp2_with fail
  rw [← hW0]
  refine Calls.mono (HF.out W0 HG0.out) ?_
  rintro e W1 ⟨rfl, hg1⟩
  obtain ⟨W2, hW2⟩ := ex (W1.alloc (.cells #[.string f0, .bool f1, .int .i64 f2, .int .i64 f3, .int .i64 f4, .int .i64 f5, .slice ao' f6 ca'] 52))
  have HG2 : Hid (Gr w W2) := by rw [← hW2]; exact (HG0.out.tr hg1).alloc _
  have HW2 : Hid (WB W2 w.heap.size W1.heap.size ao L ca wb m wc inD t f0 f1 f2 f3 f4 f5 ao' f6 ca') := by
    have g : Gr W0 W2 := by rw [← hW2]; exact hg1.alloc _
    exact ⟨(g.block _ (lt_of_heap x1) (fun h => h)).trans x1, (g.block _ (lt_of_heap x2) (fun h => h)).trans x2, by rw [← hW2]; exact World.alloc_heap_new W1 _⟩
  clear x1 x2 p0 p1 p2 hg1 hW0 HG0 HF
  obtain ⟨p0, p1, p2, q0, q1, q2, q3, q4, q5, q6⟩ := HW2.out.cells
  by_cases c1 : 64 < m
  · have c1' : (64 : Int) < (m : Int) := by omega
    go_wp2_with fail
    go_ret
    exact ⟨congrArg (fun z => Ending.returned (.int .i64 z)) (by simp [wr, c1]), HG2.out⟩
  have c1' : ¬ (64 : Int) < (m : Int) := by omega
  by_cases c2 : 256 ≤ ahead
  · go_wp2_with fail
    go_ret
    exact ⟨congrArg (fun z => Ending.returned (.int .i64 z)) (by simp [wr, c1, c2]), HG2.out⟩
  have HC2 : Hid (¬ 256 ≤ ahead) := c2
  go_wp2_with fail
  refine Calls.mono (HNa.out _) ?_
  rintro e w' ⟨rfl, rfl⟩
  clear hW2
  cases nameR with
  | false =>
    go_wp2_with fail
    go_ret
    exact ⟨congrArg (fun z => Ending.returned (.int .i64 z)) (by simp [wr, c1, c2]), HG2.out⟩
  | true =>
    generalize W1.heap.size = F at *
    obtain ⟨B, hB⟩ : ∃ B, B = w.heap.size := ⟨_, rfl⟩
    have HB : Hid (B = w.heap.size) := hB
    rw [← hB] at p0 p1 p2 HW2 ⊢
    clear hB
    go_wp2_with fail
    have HIN : Hid (Hid (Gr w w'.drew ∧ WB w'.drew B F ao L ca wb m wc inD t f0 f1 f2 f3 f4 f5 ao' f6 ca') ∧ w'.drew.cell? ⟨B, 0, none⟩ = some (.slice ao L ca) ∧ w'.drew.cell? ⟨B, 1, none⟩ = some (.slice (some ⟨wb, 0, none⟩) m wc) ∧ w'.drew.cell? ⟨B, 2, none⟩ = some (.bool inD) ∧ w'.drew.cell? ⟨F, 0, none⟩ = some (.string f0)) := ws_of (HG2.out.drew) (HW2.out.gr gr_drew)
    clear p0 p1 p2 q0 q1 q2 q3 q4 q5 q6
    go_region_held3 (fun w' => Hid (Gr w w' ∧ WB w' B F ao L ca wb m wc inD t f0 f1 f2 f3 f4 f5 ao' f6 ca') ∧ w'.cell? ⟨B, 0, none⟩ = some (.slice ao L ca) ∧ w'.cell? ⟨B, 1, none⟩ = some (.slice (some ⟨wb, 0, none⟩) m wc) ∧ w'.cell? ⟨B, 2, none⟩ = some (.bool inD) ∧ w'.cell? ⟨F, 0, none⟩ = some (.string f0)) (first | with_reducible exact HIN.out | with_reducible exact ws_kept (by assumption) hk2 | with_reducible exact ws_kept (by assumption) hk1) (first | (go_at_call 86; refine Calls.mono (HI.out _ (ws_gr (by assumption))) ?_; rintro e v1 ⟨rfl, hk1⟩; replace hk1 := hidM hk1) | (go_at_call 87; refine Calls.mono (HNu.out _ (ws_gr (by assumption))) ?_; rintro e v2 ⟨rfl, hk2⟩; replace hk2 := hidM hk2))
    rename_i hHeld
    have HG3 := hidM hHeld.1.out.1
    have HW3 := hidM hHeld.1.out.2
    clear hHeld hk1 hk2 HIN HG2 HW2 HI HNu
    obtain ⟨p0, p1, p2, q0, q1, q2, q3, q4, q5, q6⟩ := HW3.out.cells
    by_cases c4 : idx = (i : Int)
    · have c4' : (idx != (i : Int)) = false := by simp [c4]
      go_wp2_with fail
      refine Calls.mono (HT.out _ HG3.out) ?_
      rintro e v3 ⟨rfl, hg4⟩
      have HG4 := hidM (HG3.out.tr hg4)
      have HW4 := hidM (HW3.out.gr hg4)
      clear p0 p1 p2 q0 q1 q2 q3 q4 q5 q6 hg4 HT
      clear HG3 HW3
      obtain ⟨p0, p1, p2, q0, q1, q2, q3, q4, q5, q6⟩ := HW4.out.cells
      cases tabR with
      | false =>
        go_wp2_with fail
        go_ret
        exact ⟨congrArg (fun z => Ending.returned (.int .i64 z)) (by simp [wr, c1, c2, c4]), HG4.out⟩
      | true =>
        go_wp2_with fail
        refine Calls.mono (HU.out (by trivial) _ HG4.out) ?_
        rintro e v4 ⟨rfl, hg5⟩
        have HG5 := hidM (HG4.out.tr hg5)
        have HW5 := hidM (HW4.out.gr hg5)
        clear p0 p1 p2 q0 q1 q2 q3 q4 q5 q6 hg5 HU
        clear HG4 HW4
        obtain ⟨p0, p1, p2, q0, q1, q2, q3, q4, q5, q6⟩ := HW5.out.cells
        cases nulR with
        | false =>
          go_wp2_with fail
          go_ret
          exact ⟨congrArg (fun z => Ending.returned (.int .i64 z)) (by simp [wr, c1, c2, c4]), HG5.out⟩
        | true =>
          by_cases c5 : inD = true ∧ (f2 = 19 ∨ f2 = 20)
          · have HE : Hid (wr m ahead true idx i true true inD f2 kid (t f4.toNat) = 36) := by show _ = _; simp [wr, c1, c2, c4, c5.1, c5.2]
            obtain ⟨c6, c7⟩ := c5
            subst c6
            rcases c7 with c7 | c7
            · go_wp2_with fail
              go_ret
              exact ⟨congrArg (fun z => Ending.returned (.int .i64 z)) HE.out.symm, HG5.out⟩
            have c8 : (f2 == 19) = false := by simp [c7]
            go_wp2_with fail
            go_ret
            exact ⟨congrArg (fun z => Ending.returned (.int .i64 z)) HE.out.symm, HG5.out⟩
          by_cases c6 : f2 = 19
          · have hi : inD = false := by
              cases inD with
              | false => rfl
              | true => exact absurd ⟨rfl, .inl c6⟩ c5
            obtain ⟨b, o, k, rfl, hf6, hkid, hk32, hfk⟩ := HK.out (by trivial) c6
            have z1 : v4.cell? ⟨b, o + 1, none⟩ = some (.bool kid) := HG5.out.cell' hkid (fun h => h)
            have z2 : v4.cell? ⟨B + 1, k, none⟩ = some (.bool (t k)) := HW5.out.tk k hk32
            have hf6I : (0 : Int) < (f6 : Int) := by omega
            have HE : Hid (wr m ahead true idx i true true inD f2 kid (t f4.toNat) = if kid = true ∨ t k = true then 36 else 0) := by show _ = _; simp [wr, c1, Int.not_le.2 c2, c4, c6, hi, hfk]
            subst hi hfk
            subst c6
            generalize t k = tk at z2 HE
            clear hkid HK HW5
            cases kid with
            | true =>
              go_wp2_with fail
              go_ret
              exact ⟨congrArg (fun z => Ending.returned (.int .i64 z)) (by rw [HE.out]; simp), HG5.out⟩
            | false =>
              cases tk with
              | true =>
                go_wp2_with fail
                go_ret
                exact ⟨congrArg (fun z => Ending.returned (.int .i64 z)) (by rw [HE.out]; simp), HG5.out⟩
              | false =>
                go_wp2_with fail
                go_ret
                exact ⟨congrArg (fun z => Ending.returned (.int .i64 z)) (by rw [HE.out]; simp), HG5.out⟩
          have c6' := beqF c6
          have HE : Hid (wr m ahead true idx i true true inD f2 kid (t f4.toNat) = 0) := by show _ = _; unfold wr; rw [if_neg c1, if_neg (Int.not_le.2 c2), if_neg (by simp), if_neg (by simp [c4]), if_neg (by simp), if_neg (by simp), if_neg c5, if_neg (by simp [c6])]
          clear HK
          cases inD with
          | false =>
            go_wp2_with fail
            go_ret
            exact ⟨congrArg (fun z => Ending.returned (.int .i64 z)) HE.out.symm, HG5.out⟩
          | true =>
            have c7' : (f2 == 20) = false := beqF fun e => c5 ⟨rfl, .inr e⟩
            go_wp2_with fail
            go_ret
            exact ⟨congrArg (fun z => Ending.returned (.int .i64 z)) HE.out.symm, HG5.out⟩
    have c4' : (idx != (i : Int)) = true := by simp [c4]
    go_wp2_with fail
    go_ret
    exact ⟨congrArg (fun z => Ending.returned (.int .i64 z)) (by simp [wr, c1, c2, c4]), HG3.out⟩
end Go.Proofs.YtdihbfjjddmbiaaGreatDoor.Kit
