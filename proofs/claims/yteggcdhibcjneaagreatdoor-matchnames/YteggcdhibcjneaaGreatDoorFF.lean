import Derived.Test.YteggcdhibcjneaaGreatDoorFD
set_option maxRecDepth 100000
set_option maxHeartbeats 4000000
namespace Go.Proofs.YteggcdhibcjneaaGreatDoor.Kit
open Go.RowKit Go.Shelf Go.Deep
set_option linter.unusedVariables false
attribute [local go_sem] run_store_func
/-- the spot's own field, in letters -/
structure SpotF (w : World) (x : Spot) (f : FT) (b o i m : Nat) (ao' : Option Addr) (ca' : Nat) : Prop where
  ao : x.ao = some ⟨b, o, none⟩
  len : x.path.length = m + 1
  lt : i < x.list.length
  bl : x.list.length ≤ 1000000000000
  bm : m ≤ 1000000000000
  wc : w.cell? ⟨x.wb, m, none⟩ = some (.int .i64 (i : Int))
  cs : CellsAt w b (o + i * 7) f ao' ca'
  fe : x.list[i]? = some f
theorem AtS.f {S O : Nat → Prop} {x : Spot} {w : World} (h : AtS S O x w) : ∃ f b o i m ao' ca', SpotF w x f b o i m ao' ca' ∧ f.kids.length ≤ ca' ∧ RowAt S w x.d ao' f.kids ∧ S b ∧ ∃ p, x.path = p ++ [i] := by
  obtain ⟨p, i, hp, hi⟩ := h.ix
  have hne : x.list ≠ [] := fun e => by rw [e] at hi; simp at hi
  obtain ⟨b, o, he, hS, hcs⟩ := h.row.2 hne
  obtain ⟨ao', ca', hc, hle, hr⟩ := hcs i hi
  have hl : x.path.length = p.length + 1 := by rw [hp]; simp
  have hw := h.way
  rw [hl, hp, ints_snoc] at hw
  refine ⟨x.list[i], b, o, i, p.length, ao', ca', ⟨he, hl, hi, h.row.1, by have := h.deep; unfold big at this; omega, ?_, hc, List.getElem?_eq_getElem hi⟩, hle, hr, hS, p, hp⟩
  rw [hw.cellAt p.length (by simp), List.getElem?_append_right (by simp [ints])]
  simp [ints]
theorem SpotF.gr {w w' : World} {x : Spot} {f : FT} {b o i m : Nat} {ao' : Option Addr} {ca' : Nat} (h : SpotF w x f b o i m ao' ca') (g : Gr w w') : SpotF w' x f b o i m ao' ca' :=
  ⟨h.ao, h.len, h.lt, h.bl, h.bm, g.cell' h.wc (fun h => h), h.cs.kept (g.block b (block_lt_of_cell h.cs.c0) (fun h => h)), h.fe⟩
def spotV (x : Spot) : Value := .agg #[.slice x.ao x.list.length x.ca, .slice (some ⟨x.wb, 0, none⟩) x.path.length x.wc, .bool x.inD]

theorem setc {W : World} {B t j : Nat} {c : Array Value} (h : W.heap[B]? = some (.cells c t (0, 0))) (v : Value) : (W.setCell ⟨B, j, none⟩ v).heap[B]? = some (.cells (c.setIfInBounds j v) t (0, 0)) := by
  obtain ⟨hlt, hk⟩ := Array.getElem?_eq_some_iff.1 h
  simp [World.setCell, hlt, Array.getElem_modify_self, hk]
theorem keep1 {W W' : World} {B j : Nat} (h : Keeps W W' (fun b => b = B)) (v : Value) : Keeps W (W'.setCell ⟨B, j, none⟩ v) (fun b => b = B) := h.setCell (p := ⟨B, j, none⟩) (fun _ => rfl) v
theorem set7 {W : World} {B t : Nat} {z0 z1 z2 z3 z4 z5 z6 : Value} (u0 u1 u2 u3 u4 u5 u6 : Value) (h : W.heap[B]? = some (.cells #[z0, z1, z2, z3, z4, z5, z6] t (0, 0))) :
    (((((((W.setCell ⟨B, 0, none⟩ u0).setCell ⟨B, 1, none⟩ u1).setCell ⟨B, 2, none⟩ u2).setCell ⟨B, 3, none⟩ u3).setCell ⟨B, 4, none⟩ u4).setCell ⟨B, 5, none⟩ u5).setCell ⟨B, 6, none⟩ u6).heap[B]? = some (.cells #[u0, u1, u2, u3, u4, u5, u6] t (0, 0)) ∧
    Keeps W (((((((W.setCell ⟨B, 0, none⟩ u0).setCell ⟨B, 1, none⟩ u1).setCell ⟨B, 2, none⟩ u2).setCell ⟨B, 3, none⟩ u3).setCell ⟨B, 4, none⟩ u4).setCell ⟨B, 5, none⟩ u5).setCell ⟨B, 6, none⟩ u6) (fun b => b = B) := by
  refine ⟨?_, keep1 (keep1 (keep1 (keep1 (keep1 (keep1 (keep1 (Keeps.refl W _) _) _) _) _) _) _) _⟩
  have e0 := setc (j := 0) h u0
  have e1 := setc (j := 1) e0 u1
  have e2 := setc (j := 2) e1 u2
  have e3 := setc (j := 3) e2 u3
  have e4 := setc (j := 4) e3 u4
  have e5 := setc (j := 5) e4 u5
  have e6 := setc (j := 6) e5 u6
  rw [e6]
  simp
theorem field_any (x : Spot) (f : FT) (b o i m : Nat) (ao' : Option Addr) (ca' : Nat) (w : World) (h : SpotF w x f b o i m ao' ca') :
    Calls Tryz.prog 55 #[spotV x] w fun e w' => e = .returned (fldV f ao' ca') ∧ Gr w w' := by
  obtain ⟨h1, h2, h3, h4, h5, h6, ⟨g0, g1, g2, g3, g4, g5, g6⟩, -⟩ := h
  unfold spotV fldV
  rw [h1, h2]
  generalize x.list.length = L at *
  generalize x.ca = ca at *
  generalize x.wb = wb at *
  generalize x.wc = wc at *
  generalize x.inD = inD at *
  generalize f.name = f0 at *
  generalize f.nul = f1 at *
  generalize f.kind = f2 at *
  generalize f.width = f3 at *
  generalize f.id = f4 at *
  generalize f.index = f5 at *
  generalize f.kids.length = f6 at *
  clear h1 h2
  have hiI : (i : Int) < (L : Int) := by omega
  obtain ⟨W0, hW⟩ : ∃ W0, W0 = (w.alloc (.cells #[.slice (some ⟨b, o, none⟩) L ca, .slice (some ⟨wb, 0, none⟩) (m + 1) wc, .bool inD] 119)).alloc (.cells #[.string ⟨#[]⟩, .bool false, .int .i64 0, .int .i64 0, .int .i64 0, .int .i64 0, .slice none 0 0] 47) := ⟨_, rfl⟩
  have hgr : Gr w W0 := by rw [hW]; exact ((Keeps.refl w _).alloc _).alloc _
  have k0 := hgr.cell' g0 (fun h => h)
  have k1 := hgr.cell' g1 (fun h => h)
  have k2 := hgr.cell' g2 (fun h => h)
  have k3 := hgr.cell' g3 (fun h => h)
  have k4 := hgr.cell' g4 (fun h => h)
  have k5 := hgr.cell' g5 (fun h => h)
  have k6 := hgr.cell' g6 (fun h => h)
  have kw := hgr.cell' h6 (fun h => h)
  have x1 : W0.heap[w.heap.size]? = some (.cells #[.slice (some ⟨b, o, none⟩) L ca, .slice (some ⟨wb, 0, none⟩) (m + 1) wc, .bool inD] 119) := by
    rw [hW]; exact (Below.heap_alloc _ _ _ (by simp)).trans (World.alloc_heap_new w _)
  have x2 : W0.heap[w.heap.size + 1]? = some (.cells #[.string ⟨#[]⟩, .bool false, .int .i64 0, .int .i64 0, .int .i64 0, .int .i64 0, .slice none 0 0] 47) := by
    rw [hW]
    have := World.alloc_heap_new (w.alloc (.cells #[.slice (some ⟨b, o, none⟩) L ca, .slice (some ⟨wb, 0, none⟩) (m + 1) wc, .bool inD] 119)) (.cells #[.string ⟨#[]⟩, .bool false, .int .i64 0, .int .i64 0, .int .i64 0, .int .i64 0, .slice none 0 0] 47)
    rw [World.size_alloc] at this
    exact this
  clear g0 g1 g2 g3 g4 g5 g6 h6
  go_enter Tryz.func55, Tryz.ntmps55
  go_wp2
  rw [← hW]
  have HG : Hid _ := hgr
  obtain ⟨B, hB⟩ : ∃ B, B = w.heap.size := ⟨_, rfl⟩
  rw [← hB] at x1 x2 ⊢
  have p0 : W0.cell? ⟨B, 0, none⟩ = some (.slice (some ⟨b, o, none⟩) L ca) := by simp [World.cell?, x1]
  have p1 : W0.cell? ⟨B, 1, none⟩ = some (.slice (some ⟨wb, 0, none⟩) (m + 1) wc) := by simp [World.cell?, x1]
  have p2 : W0.cell? ⟨B, 2, none⟩ = some (.bool inD) := by simp [World.cell?, x1]
  have hn := fun W hc => number_exact (some ⟨b, o, none⟩) L ca wb m wc i inD h5 W hc
  have HX : Hid _ := x2
  have HB : Hid _ := hB
  clear hW hgr x1 x2 hB
  have a0 : ∀ x, (W0.alloc x).cell? ⟨B, 0, none⟩ = some (.slice (some ⟨b, o, none⟩) L ca) := fun x => (gr_alloc W0 x).cell' p0 (fun h => h)
  have r0 : ∀ x, (W0.alloc x).cell? ⟨b, o + i * 7, none⟩ = _ := fun x => (gr_alloc W0 x).cell' k0 (fun h => h)
  have r1 : ∀ x, (W0.alloc x).cell? ⟨b, o + i * 7 + 1, none⟩ = _ := fun x => (gr_alloc W0 x).cell' k1 (fun h => h)
  have r2 : ∀ x, (W0.alloc x).cell? ⟨b, o + i * 7 + 2, none⟩ = _ := fun x => (gr_alloc W0 x).cell' k2 (fun h => h)
  have r3 : ∀ x, (W0.alloc x).cell? ⟨b, o + i * 7 + 3, none⟩ = _ := fun x => (gr_alloc W0 x).cell' k3 (fun h => h)
  have r4 : ∀ x, (W0.alloc x).cell? ⟨b, o + i * 7 + 4, none⟩ = _ := fun x => (gr_alloc W0 x).cell' k4 (fun h => h)
  have r5 : ∀ x, (W0.alloc x).cell? ⟨b, o + i * 7 + 5, none⟩ = _ := fun x => (gr_alloc W0 x).cell' k5 (fun h => h)
  have r6 : ∀ x, (W0.alloc x).cell? ⟨b, o + i * 7 + 6, none⟩ = _ := fun x => (gr_alloc W0 x).cell' k6 (fun h => h)
  have yb : ∀ x, (W0.alloc x).heap[B + 1]? = some (.cells #[.string ⟨#[]⟩, .bool false, .int .i64 0, .int .i64 0, .int .i64 0, .int .i64 0, .slice none 0 0] 47) := fun x => ((gr_alloc W0 x).block _ (Array.getElem?_eq_some_iff.1 HX.out).1 (fun h => h)).trans HX.out
  have y0 : ∀ x, (W0.alloc x).cell? ⟨B + 1, 0, none⟩ = some (.string ⟨#[]⟩) := fun x => by simp [World.cell?, yb x]
  have z0 : ∀ x, (W0.alloc x).frozen? ⟨B + 1, 0, none⟩ = false := fun x => by simp [World.frozen?, yb x]
  have y1 : ∀ x, (W0.alloc x).cell? ⟨B + 1, 1, none⟩ = some (.bool false) := fun x => by simp [World.cell?, yb x]
  have z1 : ∀ x, (W0.alloc x).frozen? ⟨B + 1, 1, none⟩ = false := fun x => by simp [World.frozen?, yb x]
  have y2 : ∀ x, (W0.alloc x).cell? ⟨B + 1, 2, none⟩ = some (.int .i64 0) := fun x => by simp [World.cell?, yb x]
  have z2 : ∀ x, (W0.alloc x).frozen? ⟨B + 1, 2, none⟩ = false := fun x => by simp [World.frozen?, yb x]
  have y3 : ∀ x, (W0.alloc x).cell? ⟨B + 1, 3, none⟩ = some (.int .i64 0) := fun x => by simp [World.cell?, yb x]
  have z3 : ∀ x, (W0.alloc x).frozen? ⟨B + 1, 3, none⟩ = false := fun x => by simp [World.frozen?, yb x]
  have y4 : ∀ x, (W0.alloc x).cell? ⟨B + 1, 4, none⟩ = some (.int .i64 0) := fun x => by simp [World.cell?, yb x]
  have z4 : ∀ x, (W0.alloc x).frozen? ⟨B + 1, 4, none⟩ = false := fun x => by simp [World.frozen?, yb x]
  have y5 : ∀ x, (W0.alloc x).cell? ⟨B + 1, 5, none⟩ = some (.int .i64 0) := fun x => by simp [World.cell?, yb x]
  have z5 : ∀ x, (W0.alloc x).frozen? ⟨B + 1, 5, none⟩ = false := fun x => by simp [World.frozen?, yb x]
  have y6 : ∀ x, (W0.alloc x).cell? ⟨B + 1, 6, none⟩ = some (.slice none 0 0) := fun x => by simp [World.cell?, yb x]
  have z6 : ∀ x, (W0.alloc x).frozen? ⟨B + 1, 6, none⟩ = false := fun x => by simp [World.frozen?, yb x]
  have HYB : Hid _ := yb
  clear yb
  go_region_with (go_at_call 74; refine (hn _ (by first | exact kw | simpa using kw)).mono ?_; rintro e w' ⟨rfl, rfl⟩)
  all_goals
    obtain ⟨e7, k7⟩ := set7 (.string f0) (.bool f1) (.int .i64 f2) (.int .i64 f3) (.int .i64 f4) (.int .i64 f5) (.slice ao' f6 ca') (HYB.out (.cells #[.slice (some ⟨b, o, none⟩) L ca, .slice (some ⟨wb, 0, none⟩) (m + 1) wc, .bool inD] 119))
    generalize (((((((W0.alloc (.cells #[.slice (some ⟨b, o, none⟩) L ca, .slice (some ⟨wb, 0, none⟩) (m + 1) wc, .bool inD] 119)).setCell ⟨B + 1, 0, none⟩ (.string f0)).setCell ⟨B + 1, 1, none⟩ (.bool f1)).setCell ⟨B + 1, 2, none⟩ (.int .i64 f2)).setCell ⟨B + 1, 3, none⟩ (.int .i64 f3)).setCell ⟨B + 1, 4, none⟩ (.int .i64 f4)).setCell ⟨B + 1, 5, none⟩ (.int .i64 f5)).setCell ⟨B + 1, 6, none⟩ (.slice ao' f6 ca') = W4 at *
    have HE : Hid (Gr w W4) := HG.out.trans (T := fun k => k = B + 1) (((gr_alloc W0 _).mono fun _ _ h => h.elim).trans k7 (fun _ _ h => h)) (fun j hj h => by have := HB.out; omega)
    have t0 : W4.cell? ⟨B + 1, 0, none⟩ = some (.string f0) := by simp [World.cell?, e7]
    have t1 : W4.cell? ⟨B + 1, 1, none⟩ = some (.bool f1) := by simp [World.cell?, e7]
    have t2 : W4.cell? ⟨B + 1, 2, none⟩ = some (.int .i64 f2) := by simp [World.cell?, e7]
    have t3 : W4.cell? ⟨B + 1, 3, none⟩ = some (.int .i64 f3) := by simp [World.cell?, e7]
    have t4 : W4.cell? ⟨B + 1, 4, none⟩ = some (.int .i64 f4) := by simp [World.cell?, e7]
    have t5 : W4.cell? ⟨B + 1, 5, none⟩ = some (.int .i64 f5) := by simp [World.cell?, e7]
    have t6 : W4.cell? ⟨B + 1, 6, none⟩ = some (.slice ao' f6 ca') := by simp [World.cell?, e7]
    clear e7 k7 y0 y1 y2 y3 y4 y5 y6 z0 z1 z2 z3 z4 z5 z6 r0 r1 r2 r3 r4 r5 r6 a0 p0 p1 p2 k0 k1 k2 k3 k4 k5 k6 hn kw HYB HX HG
    go_wp2_with fail
    refine bodyPost_ret (v := .agg #[.string f0, .bool f1, .int .i64 f2, .int .i64 f3, .int .i64 f4, .int .i64 f5, .slice ao' f6 ca']) ?_ rfl ?_
    · simp [results, Tryz.f55, go_sem, t0, t1, t2, t3, t4, t5, t6]
    · exact ⟨rfl, HE.out.drew⟩
def sEq (a b : ByteArray) : Bool := a.toList == b.toList
theorem named_any (f : FT) (ao : Option Addr) (ca nb : Nat) (nm : ByteArray) (w : World) (hn : w.cell? ⟨nb, 0, none⟩ = some (.string nm)) :
    Calls Tryz.prog 97 #[fldV f ao ca, .pointer (some ⟨nb, 0, none⟩)] w fun e w' => e = .returned (.bool (sEq f.name nm)) ∧ Gr w w' := by
  have hn : ∀ o, (w.alloc o).cell? ⟨nb, 0, none⟩ = some (.string nm) := fun o => (gr_alloc w o).cell' hn (fun h => h)
  unfold fldV
  go_enter Tryz.func97, Tryz.ntmps97
  go_wp2
  go_ret
  exact ⟨rfl, gr_alloc _ _⟩

/-- the first field of that name -/
def idxOf (l : List FT) (nm : ByteArray) : Int := if l.findIdx (fun f => sEq f.name nm) < l.length then (l.findIdx (fun f => sEq f.name nm) : Nat) else -1
theorem idxOf_none {l : List FT} {nm : ByteArray} (h : ∀ i (h : i < l.length), (sEq l[i].name nm) = false) : idxOf l nm = -1 := by
  unfold idxOf
  rw [if_neg]
  intro hlt
  have := List.findIdx_getElem (w := hlt)
  rw [h _ hlt] at this
  cases this
theorem idxOf_some {l : List FT} {nm : ByteArray} {k : Nat} (hk : k < l.length) (h : ∀ i (h : i < l.length), i < k → (sEq l[i].name nm) = false) (hx : (sEq l[k].name nm) = true) : idxOf l nm = k := by
  have : l.findIdx (fun f => sEq f.name nm) = k := by
    rw [List.findIdx_eq hk]
    exact ⟨hx, fun j hj => by rw [h j (by omega) hj]⟩
  unfold idxOf
  rw [this, if_pos hk]

theorem indexFunc_any (S : Nat → Prop) (d : Nat) (ao : Option Addr) (ca nb : Nat) (l : List FT) (nm : ByteArray) (w : World) (hr : RowAt S w d ao l) (hn : w.cell? ⟨nb, 0, none⟩ = some (.string nm)) :
    Calls Tryz.prog 96 #[.slice ao l.length ca, .func (.func 97) #[] #[.pointer (some ⟨nb, 0, none⟩)]] w fun e w' => e = .returned (.int .i64 (idxOf l nm)) ∧ Gr w w' := by
  have hlen : l.length ≤ 1000000000000 := hr.len
  have HR : Hid (l ≠ [] → ∃ b o, ao = some ⟨b, o, none⟩ ∧ ∀ i (h : i < l.length), ∃ ao' ca', CellsAt w b (o + i * 7) l[i] ao' ca') := fun hne => by
    cases d with
    | zero => exact absurd hr hne
    | succ d =>
      obtain ⟨b, o, e, _, h⟩ := hr.2 hne
      exact ⟨b, o, e, fun i hi => by obtain ⟨a, c, h1, _⟩ := h i hi; exact ⟨a, c, h1⟩⟩
  have HN : Hid _ := hn
  obtain ⟨L, hL⟩ : ∃ L, L = l.length := ⟨_, rfl⟩
  rw [← hL] at hlen ⊢
  have HL : Hid (L = l.length) := hL
  clear hr hn hL
  go_enter Tryz.func96, Tryz.ntmps96
  go_wp2
  go_loopw [8] (fun i wr => ∃ k : Nat, k ≤ L ∧ i = .int .i64 (k : Int) ∧ Hid (Gr w wr ∧ ∀ i (h : i < l.length), i < k → (sEq l[i].name nm) = false)) (fun i _ => L - (intOf i).toNat)
  case atStart => exact ⟨0, by omega, rfl, Keeps.refl _ _, fun i h h0 => by omega⟩
  case round =>
    obtain ⟨k, hk, rfl, HK⟩ := hrel
    by_cases hlt : k < L
    · have hl := HL.out
      have hkl : k < l.length := by omega
      obtain ⟨b, o, rfl, hcs⟩ := HR.out (fun e => by rw [e] at hkl; simp at hkl)
      obtain ⟨ao', ca', hc⟩ := hcs k hkl
      obtain ⟨g0, g1, g2, g3, g4, g5, g6⟩ := hc.kept (HK.out.1.block b (block_lt_of_cell hc.c0) (fun h => h))
      have hnn : wr.cell? ⟨nb, 0, none⟩ = some (.string nm) := HK.out.1.cell' HN.out (fun h => h)
      have hcall : Calls Tryz.prog 97 #[.agg #[.string l[k].name, .bool l[k].nul, .int .i64 l[k].kind, .int .i64 l[k].width, .int .i64 l[k].id, .int .i64 l[k].index, .slice ao' l[k].kids.length ca'], .pointer (some ⟨nb, 0, none⟩)] wr fun e w' => e = .returned (.bool (sEq l[k].name nm)) ∧ Gr wr w' := named_any l[k] ao' ca' nb nm wr hnn
      have HE : Hid _ := @idxOf_some l nm k hkl HK.out.2
      have HM : Hid ((sEq l[k].name nm) = false → ∀ i (h : i < l.length), i < k + 1 → (sEq l[i].name nm) = false) := fun hx i hi hlt => by
        by_cases e : i = k
        · subst e; exact hx
        · exact HK.out.2 i hi (by omega)
      have HG : Hid (Gr w wr) := HK.out.1
      generalize l[k].name = f0 at *
      generalize l[k].nul = f1 at *
      generalize l[k].kind = f2 at *
      generalize l[k].width = f3 at *
      generalize l[k].id = f4 at *
      generalize l[k].index = f5 at *
      generalize l[k].kids.length = f6 at *
      generalize (sEq f0 nm) = eq at *
      clear hc hcs hl hkl HK hnn
      cases eq with
      | true =>
        go_wp2_with (go_at_call 97; refine hcall.mono ?_; rintro e w2 ⟨rfl, hg⟩)
        go_ret
        exact ⟨congrArg (fun z => Ending.returned (.int .i64 z)) (HE.out (by trivial)).symm, HG.out.trans hg (fun _ _ h => h)⟩
      | false =>
        go_wp2_with (go_at_call 97; refine hcall.mono ?_; rintro e w2 ⟨rfl, hg⟩)
        go_roundw
        case rel => exact ⟨k + 1, by omega, by simp, HG.out.trans hg (fun _ _ h => h), HM.out (by trivial)⟩
        case measure => simp [intOf]; omega
    · have HE : Hid (idxOf l nm = -1) := idxOf_none fun i hi => HK.out.2 i hi (by have := HL.out; omega)
      have HG : Hid (Gr w wr) := HK.out.1
      have hkL : k = L := by omega
      subst hkL
      clear HK
      go_wp2_with fail
      go_ret
      exact ⟨congrArg (fun z => Ending.returned (.int .i64 z)) HE.out.symm, HG.out⟩
theorem numberOfName_any (S : Nat → Prop) (d : Nat) (ao : Option Addr) (ca : Nat) (l : List FT) (nm : ByteArray) (w : World) (hr : RowAt S w d ao l) (hS : ∀ b, S b → b < w.heap.size) :
    Calls Tryz.prog 73 #[.slice ao l.length ca, .string nm] w fun e w' => e = .returned (.int .i64 (idxOf l nm)) ∧ Gr w w' := by
  have hc := indexFunc_any S d ao ca w.heap.size l nm (w.alloc (.cells #[.string nm] 9)) (hr.kept fun b h => (gr_alloc w _).block b (hS b h) (fun h => h)) (cell_new w _ 9)
  have HC : Hid _ := hc
  clear hc hr
  generalize l.length = L at *
  go_enter Tryz.func73, Tryz.ntmps73
  go_wp2_with (go_at_call 96; refine Calls.mono HC.out ?_; rintro e w2 ⟨rfl, hg⟩)
  go_ret
  exact ⟨rfl, (gr_alloc w _).trans hg (fun _ _ h => h)⟩
end Go.Proofs.YteggcdhibcjneaaGreatDoor.Kit
